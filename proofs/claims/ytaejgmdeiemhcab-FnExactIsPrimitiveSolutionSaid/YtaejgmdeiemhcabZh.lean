import Derived.Test.YtaejgmdeiemhcabZg
import Derived.Shelf.SlSortCmp.NoneTotal
import Derived.Test.YtaejgmdeiemhcabZd
import Derived.Test.YtaejgmdeiemhcabProg
import Derived.Test.YtaejgmdeiemhcabZa
namespace Go.Proofs.Ytaejgmdeiemhcab
open Go Go.RowKit Go.Sort Go.Lib
section
variable {α : Type} [Inhabited α]
theorem sortWorld_block (enc : α → Value) (w : World) (g n : Nat) (d : Array α) (os : Array Obj) (k : Nat) (hk : k ≠ g) (hlt : k < w.heap.size) : (sortWorld enc w g 0 n d os).heap[k]? = w.heap[k]? := by
  unfold sortWorld grow putRow mapBlock Sort.ahead
  simp only [Array.getElem?_append, Array.size_modify]
  rw [if_pos hlt, Array.getElem?_modify, if_neg (fun e => hk e.symm)]
theorem sortWorld_top (enc : α → Value) (w : World) (g n : Nat) (d : Array α) (os : Array Obj) (cur : Array Value) (t : TypeId) (fr : Nat × Nat) (h : w.heap[g]? = some (.cells cur t fr)) : (sortWorld enc w g 0 n d os).heap[g]? = some (.cells (putCells enc 0 d cur) t fr) := by
  have hlt : g < w.heap.size := (Array.getElem?_eq_some_iff.1 h).1
  unfold sortWorld grow putRow mapBlock Sort.ahead
  simp only [Array.getElem?_append, Array.size_modify]
  rw [if_pos hlt, Array.getElem?_modify, if_pos rfl, h]
  rfl
theorem sortWorld_size (enc : α → Value) (w : World) (g n : Nat) (d : Array α) (os : Array Obj) : w.heap.size ≤ (sortWorld enc w g 0 n d os).heap.size := by
  unfold sortWorld grow putRow mapBlock Sort.ahead
  simp
theorem sortWorld_low (enc : α → Value) (w : World) (g n : Nat) (d : Array α) (os : Array Obj) (B : Nat) (hB : B ≤ g) (hBw : B ≤ w.heap.size) : Go.RowKit.Below B w (sortWorld enc w g 0 n d os) :=
  ⟨rfl, rfl, rfl, sortWorld_size enc w g n d os, fun k hk => sortWorld_block enc w g n d os k (by omega) (by omega)⟩
theorem sortWorld_keep (enc : α → Value) (w : World) (g n : Nat) (d : Array α) (os : Array Obj) {ts t : TypeId} (hne : ts ≠ t) {cur : Array Value} {fr : Nat × Nat} (h : w.heap[g]? = some (.cells cur ts fr)) : KeepT t w (sortWorld enc w g 0 n d os) := by
  intro k c e
  by_cases hk : k = g
  · subst hk
    rw [h] at e
    injection e with e
    injection e with _ e
    exact absurd e hne
  · exact (sortWorld_block enc w g n d os k hk (Array.getElem?_eq_some_iff.1 e).1).trans e
end
theorem cmpW_neg (p q : List Int) : cmpW p q < 0 ↔ lessL p q = true := by
  unfold cmpW
  by_cases h : lessL p q = true
  · simp [h]
  · by_cases h2 : lessL q p = true
    · simp [h, h2]
    · simp [h, h2]
section
variable {M : Nat} (R : Fin (M + 1) → List Int)
theorem rowLt (x y : Fin (M + 1)) : ltOf (fun i j => cmpW (R i) (R j)) x y = lessL (R x) (R y) := by
  unfold ltOf
  have h := cmpW_neg (R x) (R y)
  cases h2 : lessL (R x) (R y) with
  | true => rw [h2] at h; simpa using h.2 rfl
  | false =>
    rw [h2] at h
    have h3 : ¬ cmpW (R x) (R y) < 0 := fun h3 => by have := h.1 h3; cases this
    simpa using h3
theorem rowSwo : SWO (ltOf (fun i j => cmpW (R i) (R j))) where
  irrefl x := by rw [rowLt]; exact lessL_irr _
  trans x y z h1 h2 := by rw [rowLt] at *; exact lessL_trans _ _ _ h1 h2
  ntrans x y z h1 h2 := by
    rw [rowLt] at *
    cases h3 : lessL (R x) (R z) with
    | false => rfl
    | true =>
      exfalso
      by_cases e : R x = R y
      · rw [e] at h3; rw [h3] at h2; cases h2
      · rcases lessL_tri _ _ e with h | h
        · rw [h] at h1; cases h1
        · have := lessL_trans _ _ _ h h3
          rw [this] at h2; cases h2
theorem rowTot (hinj : ∀ x y, R x = R y → x = y) (x y : Fin (M + 1)) (h1 : ltOf (fun i j => cmpW (R i) (R j)) x y = false) (h2 : ltOf (fun i j => cmpW (R i) (R j)) y x = false) : x = y := by
  rw [rowLt] at h1 h2
  by_cases e : R x = R y
  · exact hinj x y e
  · rcases lessL_tri _ _ e with h | h
    · rw [h] at h1; cases h1
    · rw [h] at h2; cases h2
/-- The indices in the order of their rows. -/
def srtI : List (Fin (M + 1)) := (Array.ofFn (n := M + 1) id).toList.mergeSort fun x y => !(ltOf (fun i j => cmpW (R i) (R j))) y x
theorem srtI_perm : (srtI R).Perm (List.ofFn (n := M + 1) id) := by
  have h := List.mergeSort_perm (Array.ofFn (n := M + 1) id).toList (fun x y => !(ltOf (fun i j => cmpW (R i) (R j))) y x)
  unfold srtI
  simpa using h
theorem srtI_len : (srtI R).length = M + 1 := by
  have := (srtI_perm R).length_eq
  simpa using this
theorem srtI_mem (x : Fin (M + 1)) : x ∈ srtI R := (srtI_perm R).mem_iff.2 (List.mem_ofFn.2 ⟨x, rfl⟩)
theorem srtI_nd : (srtI R).Nodup := by
  refine (srtI_perm R).nodup_iff.2 ?_
  rw [List.nodup_iff_pairwise_ne, List.pairwise_iff_getElem]
  intro i j hi hj hij e
  rw [List.getElem_ofFn, List.getElem_ofFn] at e
  have e2 : i = j := congrArg Fin.val e
  omega
theorem srtI_asc (hinj : ∀ x y, R x = R y → x = y) : ((srtI R).map R).Pairwise fun a b => lessL a b = true := by
  have hs : (srtI R).Pairwise fun x y => (!(ltOf (fun i j => cmpW (R i) (R j))) y x) = true := by
    unfold srtI
    refine List.pairwise_mergeSort (fun x y z h1 h2 => ?_) (fun x y => ?_) _
    · simp only [Bool.not_eq_true'] at *
      exact (rowSwo R).ntrans _ _ _ h2 h1
    · cases h : ltOf (fun i j => cmpW (R i) (R j)) y x with
      | false => simp
      | true =>
        have : ltOf (fun i j => cmpW (R i) (R j)) x y = false := by
          cases h2 : ltOf (fun i j => cmpW (R i) (R j)) x y with
          | false => rfl
          | true =>
            have h3 := (rowSwo R).trans _ _ _ h h2
            rw [(rowSwo R).irrefl] at h3
            cases h3
        simp [this]
  have hn := List.nodup_iff_pairwise_ne.1 (srtI_nd R)
  rw [List.pairwise_map]
  refine List.Pairwise.imp₂ ?_ hs hn
  intro a b h1 h2
  rw [Bool.not_eq_true', rowLt] at h1
  rcases lessL_tri (R a) (R b) (fun e => h2 (hinj a b e)) with h | h
  · exact h
  · rw [h] at h1; cases h1
end
end Go.Proofs.Ytaejgmdeiemhcab
namespace Go.Proofs.Ytaejgmdeiemhcab
open Go Go.RowKit

/-- What a system is. -/
def Sys (n : Int) (rows : List (List Int)) : Prop := 1 ≤ n ∧ n ≤ 12 ∧ rows.length ≤ 16 ∧ ∀ i, i < rows.length → ((rows.getD i []).length : Int) = n ∧ Prm (rows.getD i [])
/-- A step of a system from an element to an element. -/
def stp (rows : List (List Int)) (x y : Nat) : Prop := ∃ i, i < rows.length ∧ ((rows.getD i []).getD x 0).toNat = y
inductive Rch (rows : List (List Int)) (x : Nat) : Nat → Prop
  | start : Rch rows x x
  | step {y z : Nat} : Rch rows x y → stp rows y z → Rch rows x z
end Go.Proofs.Ytaejgmdeiemhcab
namespace Go.Proofs.Ytaejgmdeiemhcab
open Go Go.RowKit

/-- What a pair map is. -/
def PMap (f s : List (List Int)) : Prop := Tbl f ∧ Tbl s ∧ f.length = s.length

/-- The value of a table at two elements. -/
def ap (rows : List (List Int)) (a b : Nat) : Nat := ((rows.getD a []).getD b 0).toNat

theorem Tbl.ap_lt {rows : List (List Int)} (h : Tbl rows) {a b n : Nat} (hn : rows.length = n) (ha : a < n) (hb : b < n) : ap rows a b < n := by
  have h1 := (h.2.2 a (by omega)).2 b (by omega)
  unfold ap
  omega
theorem Tbl.ap_eq {rows : List (List Int)} (h : Tbl rows) {a b n : Nat} (hn : rows.length = n) (ha : a < n) (hb : b < n) : (rows.getD a []).getD b 0 = (ap rows a b : Int) := by
  have h1 := (h.2.2 a (by omega)).2 b (by omega)
  unfold ap
  omega
theorem Tbl.row_len {rows : List (List Int)} (h : Tbl rows) {a n : Nat} (hn : rows.length = n) (ha : a < n) : (rows.getD a []).length = n := by
  rw [h.rows a (by omega), hn]

/-- The cells of a table that is read in a world, at two elements. -/
theorem Tbl.cells {rows : List (List Int)} {w : World} {A : Option Addr} (h : Tbl rows) (hr : Rd2 w A rows) {n : Nat} (hn : rows.length = n) :
    ∃ b o, A = some ⟨b, o, none⟩ ∧ b < w.heap.size ∧ ∀ x, x < n → ∃ bx ox cx, w.cell? ⟨b, o + x, none⟩ = some (.slice (some ⟨bx, ox, none⟩) n cx) ∧ bx < w.heap.size ∧ ∀ y, y < n → w.cell? ⟨bx, ox + y, none⟩ = some (.int .i64 (ap rows x y)) := by
  have h1 := h.1
  obtain ⟨b, o, rfl, hb, hc⟩ := hr (by omega)
  refine ⟨b, o, rfl, hb, fun x hx => ?_⟩
  obtain ⟨Ax, cx, h2, h3⟩ := hc x (by omega)
  rw [h.row_len hn hx] at h2
  obtain ⟨bx, ox, rfl, h4, h5⟩ := h3 (by rw [h.row_len hn hx]; omega)
  refine ⟨bx, ox, cx, h2, h4, fun y hy => ?_⟩
  rw [h5 y (by rw [h.row_len hn hx]; exact hy), h.ap_eq hn hx hy]

/-- A result that is told only of what is good. -/
def BRes (good cond : Prop) (r : Bool) (code : Int) : Prop := (good ∧ (r = true ↔ cond) ∧ code = 0) ∨ (¬ good ∧ r = false ∧ code = 1)
theorem BRes.ex (good cond : Prop) : ∃ r code, BRes good cond r code := by
  by_cases h : good
  · obtain ⟨r, hr⟩ := bool_of cond
    exact ⟨r, _, .inl ⟨h, hr, rfl⟩⟩
  · exact ⟨_, _, .inr ⟨h, rfl, rfl⟩⟩
def PRes (f s : List (List Int)) (r : Bool) : Prop := r = true ↔ PMap f s
theorem PRes.ex (f s : List (List Int)) : ∃ r, PRes f s r := bool_of _

/-- Each pair of equal elements is led to itself. -/
def SqF (f s : List (List Int)) : Prop := ∀ x, x < f.length → ap f x x = x ∧ ap s x x = x
def SqRes (f s : List (List Int)) : Bool → Int → Prop := BRes (PMap f s) (SqF f s)
theorem SqRes.ex (f s : List (List Int)) : ∃ r code, SqRes f s r code := BRes.ex _ _
/-- Doing it twice leads each pair to itself. -/
def InvF (f s : List (List Int)) : Prop := ∀ x y, x < f.length → y < f.length → ap f (ap f x y) (ap s x y) = x ∧ ap s (ap f x y) (ap s x y) = y
def InvoRes (f s : List (List Int)) : Bool → Int → Prop := BRes (PMap f s) (InvF f s)
theorem InvoRes.ex (f s : List (List Int)) : ∃ r code, InvoRes f s r code := BRes.ex _ _
def NonF (f s : List (List Int)) : Prop := AllPrm f ∧ AllPrm (turnL s)
def NonRes (f s : List (List Int)) : Bool → Int → Prop := BRes (PMap f s) (NonF f s)
theorem NonRes.ex (f s : List (List Int)) : ∃ r code, NonRes f s r code := BRes.ex _ _

/-- What a pair map leads a pair to. -/
def AppRes (f s : List (List Int)) (x y u v code : Int) : Prop :=
  (PMap f s ∧ (0 ≤ x ∧ x < (f.length : Int)) ∧ (0 ≤ y ∧ y < (f.length : Int)) ∧ u = (ap f x.toNat y.toNat : Int) ∧ v = (ap s x.toNat y.toNat : Int) ∧ code = 0) ∨
  (PMap f s ∧ ¬ ((0 ≤ x ∧ x < (f.length : Int)) ∧ (0 ≤ y ∧ y < (f.length : Int))) ∧ u = 0 ∧ v = 0 ∧ code = 2) ∨ (¬ PMap f s ∧ u = 0 ∧ v = 0 ∧ code = 1)
theorem AppRes.ex (f s : List (List Int)) (x y : Int) : ∃ u v code, AppRes f s x y u v code := by
  by_cases h : PMap f s
  · by_cases h1 : (0 ≤ x ∧ x < (f.length : Int)) ∧ (0 ≤ y ∧ y < (f.length : Int))
    · exact ⟨_, _, _, .inl ⟨h, h1.1, h1.2, rfl, rfl, rfl⟩⟩
    · exact ⟨_, _, _, .inr (.inl ⟨h, h1, rfl, rfl, rfl⟩)⟩
  · exact ⟨_, _, _, .inr (.inr ⟨h, rfl, rfl, rfl⟩)⟩
end Go.Proofs.Ytaejgmdeiemhcab
namespace Go.Proofs.Ytaejgmdeiemhcab
open Go Go.RowKit
set_option maxHeartbeats 1000000

theorem text_any (A : Option Addr) (n c : Nat) (xs : List Int) (w : World) (hn : xs.length = n) (hb : n ≤ 1048576) (hx : Rd w A xs) (hin : ∀ x ∈ xs, 0 ≤ x ∧ x < 12) :
    Calls Try.prog 68 #[.slice A n c] w fun e w' => e = .returned (.string (lineS xs)) ∧ Below w.heap.size w w' := by
  have HN := hide hn
  have HIN := hide hin
  clear hn hin
  go_enter Try.func68, Try.ntmps68
  go_wp2_with fail
  refine (digitsOf_any _ _ _ xs _ HN.out hb hx HIN.out).mono ?_
  rintro e w3 ⟨rfl, hq3⟩
  have HQ3 := hide hq3
  clear hq3
  go_wp2_with fail
  go_ret
  exact ⟨rfl, HQ3.out⟩
end Go.Proofs.Ytaejgmdeiemhcab
namespace Go.Proofs.Ytaejgmdeiemhcab
open Go Go.RowKit
theorem neInfo : (Try.prog.info? 2).map (fun i => (i.zero, i.size, i.bytes)) = some (some (.int .i64 0), 1, 8) := by kernel_rfl
theorem neInfo2 : (Try.prog.info? 32).map (fun i => (i.zero, i.size, i.bytes)) = some (some (.slice none 0 0), 1, 24) := by kernel_rfl
theorem ne_new {w : World} {v : Value} {t : TypeId} : ∀ j u, [v][j]? = some u → (w.alloc (.cells #[v] t)).cell? ((⟨w.heap.size, 0, none⟩ : Addr).add j) = some u := by
  intro j u hj
  match j, hj with
  | 0, hj => simp at hj; subst hj; simp [Addr.add, World.cell?_alloc_new]
theorem ne_empty (w : World) (t : TypeId) : (w.alloc (.cells #[] t)).ownsRow w.heap.size t 1 (.slice (some ⟨w.heap.size, 0, none⟩) 0 0) 0 [] :=
  ⟨by simp, .inr ⟨w.heap.size, 0, #[], rfl, Nat.le_refl _, heap_alloc_new _ _, Nat.le_refl _, by unfold maxLen; omega, by simp, by simp⟩⟩
/-- Row x of the table of a function. -/
def frow (n : Nat) (h : Nat → Nat → Int) (x : Nat) : List Int := (List.range n).map fun (b : Nat) => h x b
theorem frow_length (n : Nat) (h : Nat → Nat → Int) (x : Nat) : (frow n h x).length = n := by simp [frow]
theorem frow_take (n : Nat) (h : Nat → Nat → Int) (x y : Nat) (hy : y < n) : ints ((frow n h x).take y) ++ [.int .i64 (h x y)] = ints ((frow n h x).take (y + 1)) := by
  rw [List.take_succ_eq_append_getElem (by rw [frow_length]; exact hy)]
  simp [ints, frow]
theorem grid_take (n : Nat) (h : Nat → Nat → Int) (x : Nat) (hx : x < n) : (grid n h).take (x + 1) = (grid n h).take x ++ [frow n h x] := by
  rw [List.take_succ_eq_append_getElem (by rw [grid_length]; exact hx)]
  simp [grid, frow]
end Go.Proofs.Ytaejgmdeiemhcab
