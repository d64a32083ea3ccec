import Derived.Test.YtngfdkmiifpbgaaDoorZf
import Derived.Test.YtngfdkmiifpbgaaDoorZe
import Derived.Test.YtngfdkmiifpbgaaDoorZc
import Derived.Test.YtngfdkmiifpbgaaDoorProg
import Derived.Test.YtngfdkmiifpbgaaDoorZa
namespace Go.Proofs.YtngfdkmiifpbgaaDoor
open Go Go.RowKit
set_option maxHeartbeats 1000000

theorem szGroup (A : Option Addr) (n c : Nat) (f : List (List Int)) (L : Int) (w : World) (hn : f.length = n) (hb : n ≤ 9223372036854775807) (hbs : ∀ i, i < f.length → (f.getD i []).length ≤ 9223372036854775807) (h0 : 0 ≤ L) (h1 : L ≤ 1048576) (hr : Rd2 w A f) :
    Calls Tryd.prog 4 #[.agg #[.slice A n c], .int .i64 L] w fun e w' => ∃ r, Szd L f r ∧ e = .returned (.int .i64 r) ∧ Below w.heap.size w w' := by
  have HN := hide hn
  have HBS := hide hbs
  clear hn hbs
  go_enter Tryd.func4, Tryd.ntmps4
  go_wp2_with fail
  have HB0 := hide ((Below.refl _ w).alloc (Nat.le_refl _) (Obj.cells #[Value.slice A n c] 24))
  refine (szz_any _ _ _ f L _ HN.out hb HBS.out h0 h1 (hr.later HB0.out)).mono ?_
  rintro e w1 ⟨l, hsz, rfl, rfl⟩
  rcases hsz with rfl | ⟨p, q, u, y⟩
  · go_wp2_with fail
    go_ret
    exact ⟨-1, .inl rfl, rfl, HB0.out⟩
  · have U := hide u
    have Y := hide y
    clear u y
    go_wp2_with fail
    go_ret
    exact ⟨l, .inr ⟨p, q, U.out, Y.out⟩, rfl, HB0.out⟩

theorem copyGroup (A : Option Addr) (n c : Nat) (f : List (List Int)) (w : World) (hn : f.length = n) (hb : n ≤ 1048576) (hbs : ∀ i, i < f.length → (f.getD i []).length ≤ 1048576) (hr : Rd2 w A f) :
    Calls Tryd.prog 6 #[.agg #[.slice A n c]] w fun e w' => ∃ A' c', e = .returned (.agg #[.slice A' n c']) ∧ Below w.heap.size w w' ∧ Obj2 26 2 w.heap.size w'.heap.size w' A' f := by
  have HN := hide hn
  have HBS := hide hbs
  clear hn hbs
  go_enter Tryd.func6, Tryd.ntmps6
  go_wp2_with fail
  have HB0 := hide (((((Below.refl _ w).alloc (Nat.le_refl _) (Obj.cells #[Value.slice A n c] 24)).alloc (by simp) (Obj.cells #[Value.slice none 0 0] 29)).alloc (by simp; omega) (Obj.cells #[Value.slice none 0 0] 29)))
  have HK0 := hide (Blk.new ((w.alloc (Obj.cells #[Value.slice A n c] 24)).alloc (Obj.cells #[Value.slice none 0 0] 29)) 29 [.slice none 0 0])
  have HR0 := hide ((Blk.new (w.alloc (Obj.cells #[Value.slice A n c] 24)) 29 [.slice none 0 0]).alloc (Obj.cells #[Value.slice none 0 0] 29))
  refine (copyT _ _ _ f _ HN.out hb HBS.out (hr.later HB0.out)).mono ?_
  rintro e w1 ⟨A1, rfl, hb1, ho1⟩
  have hs1 := hb1.size
  simp at hs1
  have HB1 := hide (HB0.out.trans (hb1.mono (by simp; omega)))
  have HO1 := hide ho1
  have HK1 := hide (HK0.out.later hb1)
  have HR1 := hide (HR0.out.later hb1)
  clear hb1 ho1 HK0 HR0
  simp at HK1 HR1
  have k0 := HK1.out.cell 0 _ rfl
  have k1 := HK1.out.frozen 0
  have k3 := HR1.out.cell 0 _ rfl
  have k5 := HR1.out.frozen 0
  go_wp2_with fail
  refine bp_gen fun wf hwf => ?_
  have HRF : Hid (Blk wf (w.heap.size + 1) 29 [.slice A1 n n]) := hide (by rw [hwf]; exact (HR1.out.far (by simp) _).set 0 _)
  have HBF : Hid (Below w.heap.size w wf) := hide (by rw [hwf]; exact (HB1.out.setCell (by simp; omega) _).setCell (by simp) _)
  have HOF : Hid (Obj2 26 2 w.heap.size wf.heap.size wf A1 f) := hide (by rw [hwf]; exact (((HO1.out.set (by simp) _).set (by simp) _).mono (by simp; omega) (by simp [World.setCell])))
  have q0 := HRF.out.cell 0 _ rfl
  clear hwf k0 k1 k3 k5
  exact bodyPost_ret (v := .agg #[.slice A1 n n]) (by simp [results, Tryd.results6, go_sem, q0]) rfl ⟨_, _, rfl, HBF.out, HOF.out⟩

end Go.Proofs.YtngfdkmiifpbgaaDoor
namespace Go.Proofs.YtngfdkmiifpbgaaDoor
open Go Go.RowKit

/-- What a pair map is. -/
def PMap (f s : List (List Int)) : Prop := Tbl f ∧ Tbl s ∧ f.length = s.length

/-- The value of a table at two elements. -/
def ap (rows : List (List Int)) (a b : Nat) : Nat := ((rows.getD a []).getD b 0).toNat

theorem Tbl.ap_lt {rows : List (List Int)} (h : Tbl rows) {a b n : Nat} (hn : rows.length = n) (ha : a < n) (hb : b < n) : ap rows a b < n := by
  have h1 := (h.2.2 a (by omega)).2 b (by omega)
  unfold ap
  omega
theorem Tbl.ap_eq {rows : List (List Int)} (h : Tbl rows) {a b n : Nat} (hn : rows.length = n) (ha : a < n) (hb : b < n) : (rows.getD a []).getD b 0 = (ap rows a b : Int) := by
  have h1 := (h.2.2 a (by omega)).2 b (by omega)
  unfold ap
  omega
theorem Tbl.row_len {rows : List (List Int)} (h : Tbl rows) {a n : Nat} (hn : rows.length = n) (ha : a < n) : (rows.getD a []).length = n := by
  rw [h.rows a (by omega), hn]

/-- The cells of a table that is read in a world, at two elements. -/
theorem Tbl.cells {rows : List (List Int)} {w : World} {A : Option Addr} (h : Tbl rows) (hr : Rd2 w A rows) {n : Nat} (hn : rows.length = n) :
    ∃ b o, A = some ⟨b, o, none⟩ ∧ b < w.heap.size ∧ ∀ x, x < n → ∃ bx ox cx, w.cell? ⟨b, o + x, none⟩ = some (.slice (some ⟨bx, ox, none⟩) n cx) ∧ bx < w.heap.size ∧ ∀ y, y < n → w.cell? ⟨bx, ox + y, none⟩ = some (.int .i64 (ap rows x y)) := by
  have h1 := h.1
  obtain ⟨b, o, rfl, hb, hc⟩ := hr (by omega)
  refine ⟨b, o, rfl, hb, fun x hx => ?_⟩
  obtain ⟨Ax, cx, h2, h3⟩ := hc x (by omega)
  rw [h.row_len hn hx] at h2
  obtain ⟨bx, ox, rfl, h4, h5⟩ := h3 (by rw [h.row_len hn hx]; omega)
  refine ⟨bx, ox, cx, h2, h4, fun y hy => ?_⟩
  rw [h5 y (by rw [h.row_len hn hx]; exact hy), h.ap_eq hn hx hy]

/-- A result that is told only of what is good. -/
def BRes (good cond : Prop) (r : Bool) (code : Int) : Prop := (good ∧ (r = true ↔ cond) ∧ code = 0) ∨ (¬ good ∧ r = false ∧ code = 1)
theorem BRes.ex (good cond : Prop) : ∃ r code, BRes good cond r code := by
  by_cases h : good
  · obtain ⟨r, hr⟩ := bool_of cond
    exact ⟨r, _, .inl ⟨h, hr, rfl⟩⟩
  · exact ⟨_, _, .inr ⟨h, rfl, rfl⟩⟩
def PRes (f s : List (List Int)) (r : Bool) : Prop := r = true ↔ PMap f s
theorem PRes.ex (f s : List (List Int)) : ∃ r, PRes f s r := bool_of _

/-- Each pair of equal elements is led to itself. -/
def SqF (f s : List (List Int)) : Prop := ∀ x, x < f.length → ap f x x = x ∧ ap s x x = x
def SqRes (f s : List (List Int)) : Bool → Int → Prop := BRes (PMap f s) (SqF f s)
theorem SqRes.ex (f s : List (List Int)) : ∃ r code, SqRes f s r code := BRes.ex _ _
/-- Doing it twice leads each pair to itself. -/
def InvF (f s : List (List Int)) : Prop := ∀ x y, x < f.length → y < f.length → ap f (ap f x y) (ap s x y) = x ∧ ap s (ap f x y) (ap s x y) = y
def InvoRes (f s : List (List Int)) : Bool → Int → Prop := BRes (PMap f s) (InvF f s)
theorem InvoRes.ex (f s : List (List Int)) : ∃ r code, InvoRes f s r code := BRes.ex _ _
def NonF (f s : List (List Int)) : Prop := AllPrm f ∧ AllPrm (turnL s)
def NonRes (f s : List (List Int)) : Bool → Int → Prop := BRes (PMap f s) (NonF f s)
theorem NonRes.ex (f s : List (List Int)) : ∃ r code, NonRes f s r code := BRes.ex _ _

/-- What a pair map leads a pair to. -/
def AppRes (f s : List (List Int)) (x y u v code : Int) : Prop :=
  (PMap f s ∧ (0 ≤ x ∧ x < (f.length : Int)) ∧ (0 ≤ y ∧ y < (f.length : Int)) ∧ u = (ap f x.toNat y.toNat : Int) ∧ v = (ap s x.toNat y.toNat : Int) ∧ code = 0) ∨
  (PMap f s ∧ ¬ ((0 ≤ x ∧ x < (f.length : Int)) ∧ (0 ≤ y ∧ y < (f.length : Int))) ∧ u = 0 ∧ v = 0 ∧ code = 2) ∨ (¬ PMap f s ∧ u = 0 ∧ v = 0 ∧ code = 1)
theorem AppRes.ex (f s : List (List Int)) (x y : Int) : ∃ u v code, AppRes f s x y u v code := by
  by_cases h : PMap f s
  · by_cases h1 : (0 ≤ x ∧ x < (f.length : Int)) ∧ (0 ≤ y ∧ y < (f.length : Int))
    · exact ⟨_, _, _, .inl ⟨h, h1.1, h1.2, rfl, rfl, rfl⟩⟩
    · exact ⟨_, _, _, .inr (.inl ⟨h, h1, rfl, rfl, rfl⟩)⟩
  · exact ⟨_, _, _, .inr (.inr ⟨h, rfl, rfl, rfl⟩)⟩
end Go.Proofs.YtngfdkmiifpbgaaDoor
namespace Go.Proofs.YtngfdkmiifpbgaaDoor
open Go Go.RowKit

/-- What a system is. -/
def Sys (n : Int) (rows : List (List Int)) : Prop := 1 ≤ n ∧ n ≤ 12 ∧ rows.length ≤ 16 ∧ ∀ i, i < rows.length → ((rows.getD i []).length : Int) = n ∧ Prm (rows.getD i [])
/-- A step of a system from an element to an element. -/
def stp (rows : List (List Int)) (x y : Nat) : Prop := ∃ i, i < rows.length ∧ ((rows.getD i []).getD x 0).toNat = y
inductive Rch (rows : List (List Int)) (x : Nat) : Nat → Prop
  | start : Rch rows x x
  | step {y z : Nat} : Rch rows x y → stp rows y z → Rch rows x z
end Go.Proofs.YtngfdkmiifpbgaaDoor
namespace Go.Proofs.YtngfdkmiifpbgaaDoor
open Go Go.RowKit

/-- A slice of n slices in block g of which the first k are laid: the rows h 0, h 1, .. in blocks of their own behind it. -/
structure Fil (ts t : TypeId) (n k : Nat) (h : Nat → List Int) (lo g : Nat) (w : World) : Prop where
  low : lo ≤ g
  all : ∃ (cur : Array Value) (R : Nat → Option Addr) (C : Nat → Nat), w.heap[g]? = some (.cells cur ts (0, 0)) ∧ cur.size = n ∧ (∀ i, i < k → cur[i]? = some (.slice (R i) (h i).length (C i))) ∧ (∀ i, i < k → Obj1 t (g + 1) w.heap.size w (R i) (h i)) ∧
    (∀ i j, i < k → j < k → i ≠ j → ∀ a b, R i = some a → R j = some b → a.block ≠ b.block)

section
variable {ts t : TypeId} {n k : Nat} {h : Nat → List Int} {lo g : Nat} {w w' : World}
theorem Fil.lt (f : Fil ts t n k h lo g w) : g < w.heap.size := by
  obtain ⟨_, cur, R, C, h1, _⟩ := f
  exact (Array.getElem?_eq_some_iff.1 h1).1
theorem Fil.start (w : World) (hlo : lo ≤ w.heap.size) : Fil ts t n 0 h lo w.heap.size (w.alloc (.cells (madeCells #[.slice none 0 0] n) ts)) :=
  ⟨hlo, _, fun _ => none, fun _ => 0, heap_alloc_new _ _, by simp [madeCells], fun i hi => absurd hi (Nat.not_lt_zero _), fun i hi => absurd hi (Nat.not_lt_zero _), fun i j hi => absurd hi (Nat.not_lt_zero _)⟩
theorem Fil.later (f : Fil ts t n k h lo g w) (hb : Below w.heap.size w w') : Fil ts t n k h lo g w' := by
  have hl := f.lt
  obtain ⟨h0, cur, R, C, h1, h2, h3, h4, h5⟩ := f
  exact ⟨h0, cur, R, C, (hb.block g hl).trans h1, h2, h3, fun i hi => ((h4 i hi).later hb).mono (Nat.le_refl _) hb.size, h5⟩
theorem Fil.at (f : Fil ts t n k h lo g w) (i : Nat) (hi : i < n) : (∃ v, w.cell? ⟨g, i, none⟩ = some v) ∧ w.frozen? ⟨g, i, none⟩ = false := by
  obtain ⟨_, cur, R, C, h1, h2, _⟩ := f
  refine ⟨?_, by simp [World.frozen?, h1]⟩
  rw [cell_of_row w g i cur ts (0, 0) h1]
  exact ⟨cur[i]'(by omega), by simp [h2, hi]⟩
theorem Fil.push {A : Option Addr} {c : Nat} (f : Fil ts t n k h lo g w) (hb : Below w.heap.size w w') (hA : Res t w.heap.size w' A (h k)) (hk : k < n) :
    Fil ts t n (k + 1) h lo g (w'.setCell ⟨g, k, none⟩ (.slice A (h k).length c)) := by
  have hl := f.lt
  have f' := f.later hb
  obtain ⟨h0, cur, R, C, h1, h2, h3, h4, h5⟩ := f
  have hg' : w'.heap[g]? = some (.cells cur ts (0, 0)) := (hb.block g hl).trans h1
  have hold : ∀ i, i < k → Obj1 t (g + 1) w.heap.size w' (R i) (h i) := fun i hi => (h4 i hi).later hb
  have hnew : Obj1 t w.heap.size w'.heap.size w' A (h k) := hA.obj
  refine ⟨h0, cur.set! k (.slice A (h k).length c), fun i => if i = k then A else R i, fun i => if i = k then c else C i, ?_, by simp [h2], ?_, ?_, ?_⟩
  · simp [World.setCell, Array.getElem?_modify, hg']
  · intro i hi
    by_cases e : i = k
    · subst e
      simp [h2, hk]
    · simp only [if_neg e]
      rw [Array.set!_eq_setIfInBounds, Array.getElem?_setIfInBounds_ne (fun e2 => e e2.symm)]
      exact h3 i (by omega)
  · intro i hi
    have hs : (w'.setCell ⟨g, k, none⟩ (.slice A (h k).length c)).heap.size = w'.heap.size := by simp [World.setCell]
    rw [hs]
    by_cases e : i = k
    · subst e
      simp only [if_pos]
      exact (hnew.mono (lo' := g + 1) (by omega) (Nat.le_refl _)).set (.inl (Nat.lt_succ_self _)) _
    · simp only [if_neg e]
      exact ((hold i (by omega)).mono (Nat.le_refl _) hb.size).set (.inl (Nat.lt_succ_self _)) _
  · intro i j hi hj hne a b ha hb'
    by_cases e1 : i = k
    · have e2 : j ≠ k := fun e2 => hne (e1.trans e2.symm)
      simp only [if_pos e1, if_neg e2] at ha hb'
      have p := hnew.bounds a ha
      have q := (h4 j (by omega)).bounds b hb'
      omega
    · simp only [if_neg e1] at ha
      by_cases e2 : j = k
      · simp only [if_pos e2] at hb'
        have p := hnew.bounds b hb'
        have q := (h4 i (by omega)).bounds a ha
        omega
      · simp only [if_neg e2] at hb'
        exact h5 i j (by omega) (by omega) hne a b ha hb'
theorem Fil.done (f : Fil ts t n n h lo g w) : Obj2 ts t lo w.heap.size w (some ⟨g, 0, none⟩) ((List.range n).map h) := by
  have hl := f.lt
  obtain ⟨h0, cur, R, C, h1, h2, h3, h4, h5⟩ := f
  have hg : ∀ i, i < n → ((List.range n).map h).getD i [] = h i := fun i hi => by simp [hi]
  refine .inr ⟨g, R, C, rfl, h0, hl, ⟨cur, h1, fun i hi => ?_⟩, fun i hi => ?_, fun i j hi hj => ?_⟩
  · simp only [List.length_map, List.length_range] at hi
    rw [hg i hi]
    exact h3 i hi
  · simp only [List.length_map, List.length_range] at hi
    rw [hg i hi]
    exact (h4 i hi).mono (by omega) (Nat.le_refl _)
  · simp only [List.length_map, List.length_range] at hi hj
    exact h5 i j hi hj
end

theorem rd_rows {w : World} {A : Option Addr} {f : List (List Int)} {n : Nat} (ht : Tbl f) (hr : Rd2 w A f) (hn : f.length = n) : ∃ b o, A = some ⟨b, o, none⟩ ∧ b < w.heap.size ∧ ∀ x, x < n → ∃ B c, w.cell? ⟨b, o + x, none⟩ = some (.slice B n c) ∧ Rd w B (f.getD x []) := by
  have h1 := ht.1
  obtain ⟨b, o, rfl, hb, hc⟩ := hr (by omega)
  refine ⟨b, o, rfl, hb, fun x hx => ?_⟩
  obtain ⟨B, c, h2, h3⟩ := hc x (by omega)
  rw [ht.rows x (by omega), hn] at h2
  exact ⟨B, c, h2, h3⟩

/-- What is asked of the function value: of each row, in each later world, it makes the row h x in memory of its own. -/
def RowFn (P : Program) (t : TypeId) (F : FuncId) (post : Array Value) (w : World) (n : Nat) (f : List (List Int)) (h : Nat → List Int) : Prop :=
  ∀ (W : World) (x : Nat) (B : Option Addr) (d : Nat), x < n → Below w.heap.size w W → Rd W B (f.getD x []) → Calls P F (#[.slice B n d] ++ post) W fun e w' => ∃ A' c', e = .returned (.slice A' (h x).length c') ∧ Below W.heap.size W w' ∧ Res t W.heap.size w' A' (h x)
end Go.Proofs.YtngfdkmiifpbgaaDoor
namespace Go.Proofs.YtngfdkmiifpbgaaDoor
open Go Go.RowKit
theorem neInfo : (Tryd.prog.info? 2).map (fun i => (i.zero, i.size, i.bytes)) = some (some (.int .i64 0), 1, 8) := by kernel_rfl
theorem neInfo2 : (Tryd.prog.info? 26).map (fun i => (i.zero, i.size, i.bytes)) = some (some (.slice none 0 0), 1, 24) := by kernel_rfl
theorem ne_new {w : World} {v : Value} {t : TypeId} : ∀ j u, [v][j]? = some u → (w.alloc (.cells #[v] t)).cell? ((⟨w.heap.size, 0, none⟩ : Addr).add j) = some u := by
  intro j u hj
  match j, hj with
  | 0, hj => simp at hj; subst hj; simp [Addr.add, World.cell?_alloc_new]
theorem ne_empty (w : World) (t : TypeId) : (w.alloc (.cells #[] t)).ownsRow w.heap.size t 1 (.slice (some ⟨w.heap.size, 0, none⟩) 0 0) 0 [] :=
  ⟨by simp, .inr ⟨w.heap.size, 0, #[], rfl, Nat.le_refl _, heap_alloc_new _ _, Nat.le_refl _, by unfold maxLen; omega, by simp, by simp⟩⟩
/-- Row x of the table of a function. -/
def frow (n : Nat) (h : Nat → Nat → Int) (x : Nat) : List Int := (List.range n).map fun (b : Nat) => h x b
theorem frow_length (n : Nat) (h : Nat → Nat → Int) (x : Nat) : (frow n h x).length = n := by simp [frow]
theorem frow_take (n : Nat) (h : Nat → Nat → Int) (x y : Nat) (hy : y < n) : ints ((frow n h x).take y) ++ [.int .i64 (h x y)] = ints ((frow n h x).take (y + 1)) := by
  rw [List.take_succ_eq_append_getElem (by rw [frow_length]; exact hy)]
  simp [ints, frow]
theorem grid_take (n : Nat) (h : Nat → Nat → Int) (x : Nat) (hx : x < n) : (grid n h).take (x + 1) = (grid n h).take x ++ [frow n h x] := by
  rw [List.take_succ_eq_append_getElem (by rw [grid_length]; exact hx)]
  simp [grid, frow]
end Go.Proofs.YtngfdkmiifpbgaaDoor
