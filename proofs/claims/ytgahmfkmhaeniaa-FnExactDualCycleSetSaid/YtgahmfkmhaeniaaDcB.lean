import Derived.Test.YtgahmfkmhaeniaaPairsI
import Derived.Test.YtgahmfkmhaeniaaEqF
import Derived.Test.YtgahmfkmhaeniaaHeld
import Derived.Shelf.Abstract
import Derived.Shelf.Lay
import Derived.Test.YtgahmfkmhaeniaaRkF
import Derived.Test.YtgahmfkmhaeniaaProg
import Derived.Test.YtgahmfkmhaeniaaOwn
import Derived.Test.YtgahmfkmhaeniaaBackS
import Derived.Test.YtgahmfkmhaeniaaPMapF
import Derived.Test.YtgahmfkmhaeniaaHas
import Derived.Test.YtgahmfkmhaeniaaZArg
import Derived.Test.YtgahmfkmhaeniaaLst
import Derived.Test.YtgahmfkmhaeniaaBlk
import Derived.Test.YtgahmfkmhaeniaaZEnd
import Derived.Deep.Cut
import Derived.Test.YtgahmfkmhaeniaaTblI
import Derived.Test.YtgahmfkmhaeniaaRowsI
import Derived.WalkSpells
import Derived.Test.YtgahmfkmhaeniaaObj
import Derived.Test.YtgahmfkmhaeniaaTabRes
import Derived.Test.YtgahmfkmhaeniaaNewTab
import Derived.Test.YtgahmfkmhaeniaaObjZ
import Derived.Test.YtgahmfkmhaeniaaSetI
import Derived.Test.YtgahmfkmhaeniaaBackI
import Derived.Test.YtgahmfkmhaeniaaRowsS
import Derived.Test.YtgahmfkmhaeniaaTblS
import Derived.Test.YtgahmfkmhaeniaaPrmS
import Derived.Deep.AppendLies
import Derived.Deep.RegionLaw
import Derived.Test.YtgahmfkmhaeniaaPairF
namespace Go.Proofs.Ytgahmfkmhaeniaa
open Go Go.RowKit

/-- What is asked of the function value: for each three elements, in each later world, it says whether they are as asked, and leaves what there was. -/
def BoolFn3 (P : Program) (F : FuncId) (lb : Array Value) (n : Nat) (q : Nat → Nat → Nat → Bool) (w : World) : Prop :=
  ∀ (W : World) (x y z : Nat), x < n → y < n → z < n → Below w.heap.size w W → Calls P F (#[.int .i64 x, .int .i64 y, .int .i64 z] ++ lb) W fun e w' => e = .returned (.bool (q x y z)) ∧ Below W.heap.size W w'
theorem BoolFn3.later {P : Program} {F : FuncId} {lb : Array Value} {n : Nat} {q : Nat → Nat → Nat → Bool} {w w' : World} (hc : BoolFn3 P F lb n q w) (hb : Below w.heap.size w w') : BoolFn3 P F lb n q w' :=
  fun W x y z hx hy hz hw => hc W x y z hx hy hz (hb.trans (hw.mono hb.size))

/-- What is said of the list of number T. -/
def qAt (q : Nat → Nat → Nat → Bool) (n T : Nat) : Bool := q (trip n T).1 (trip n T).2.1 (trip n T).2.2
theorem qAt_at {q : Nat → Nat → Nat → Bool} {n x y z : Nat} (hy : y < n) (hz : z < n) : qAt q n ((x * n + y) * n + z) = q x y z := by
  unfold qAt
  rw [trip_of hy hz]
/-- T is the first that is as asked, or behind all. -/
def FirstQ (q : Nat → Nat → Nat → Bool) (n T : Nat) : Prop := (∀ i, i < T → qAt q n i = false) ∧ T ≤ n * n * n ∧ (T < n * n * n → qAt q n T = true)
theorem FirstQ.bad {q : Nat → Nat → Nat → Bool} {n T k : Nat} (h : FirstQ q n T) (h1 : ∀ i, i < k → qAt q n i = false) (hk : k < n * n * n) (h2 : qAt q n k = true) : T = k := by
  have a : ¬ k < T := fun h3 => by have := h.1 k h3; rw [h2] at this; exact absurd this (by simp)
  have b : ¬ T < k := fun h3 => by have := h1 T h3; rw [h.2.2 (by omega)] at this; exact absurd this (by simp)
  omega
theorem FirstQ.all {q : Nat → Nat → Nat → Bool} {n T : Nat} (h : FirstQ q n T) (h1 : ∀ i, i < n * n * n → qAt q n i = false) : T = n * n * n := by
  have a := h.2.1
  have b : ¬ T < n * n * n := fun h3 => by have := h1 T h3; rw [h.2.2 h3] at this; exact absurd this (by simp)
  omega
theorem FirstQ.ex (q : Nat → Nat → Nat → Bool) (n : Nat) : ∃ T, FirstQ q n T := by
  have h : ∀ k, k ≤ n * n * n → (∀ i, i < k → qAt q n i = false) ∨ ∃ T, FirstQ q n T := by
    intro k
    induction k with
    | zero => intro _; exact .inl (fun i hi => absurd hi (Nat.not_lt_zero _))
    | succ k ih =>
      intro hk
      rcases ih (by omega) with h | h
      · rcases e : qAt q n k with _ | _
        · refine .inl (fun i hi => ?_)
          by_cases e2 : i = k
          · subst e2; exact e
          · exact h i (by omega)
        · exact .inr ⟨k, h, by omega, fun _ => e⟩
      · exact .inr h
  rcases h _ (Nat.le_refl _) with h | h
  · exact ⟨_, h, Nat.le_refl _, fun h2 => absurd h2 (by omega)⟩
  · exact h
theorem FirstQ.iff {q : Nat → Nat → Nat → Bool} {n T : Nat} (h : FirstQ q n T) : T = n * n * n ↔ ∀ i, i < n * n * n → qAt q n i = false :=
  ⟨fun e i hi => h.1 i (by omega), h.all⟩
end Go.Proofs.Ytgahmfkmhaeniaa
namespace Go.Proofs.Ytgahmfkmhaeniaa
open Go Go.RowKit
def kinkL (f : List (List Int)) : List Int := (List.range f.length).map fun (x : Nat) => ((ap f x x : Nat) : Int)
theorem kinkL_length (f : List (List Int)) : (kinkL f).length = f.length := by simp [kinkL]
theorem kinkL_getD (f : List (List Int)) (k : Nat) (h : k < f.length) : (kinkL f).getD k 0 = ((ap f k k : Nat) : Int) := by simp [kinkL, h]
def KinkRes (f : List (List Int)) (zs : List Int) (code : Int) : Prop := (Rck f ∧ zs = kinkL f ∧ code = 0) ∨ (¬ Rck f ∧ zs = [] ∧ code = 1)
theorem KinkRes.ex (f : List (List Int)) : ∃ zs code, KinkRes f zs code ∧ zs.length ≤ 1048576 := by
  by_cases h : Rck f
  · exact ⟨_, _, .inl ⟨h, rfl, rfl⟩, by rw [kinkL_length]; have := h.tbl.2.1; omega⟩
  · exact ⟨_, _, .inr ⟨h, rfl, rfl⟩, by simp⟩
theorem kq_take (zs : List Int) (k : Nat) (y : Int) (h : k < zs.length) (hy : zs.getD k 0 = y) : ints (zs.take k) ++ [.int .i64 y] = ints (zs.take (k + 1)) := by
  rw [List.take_succ_eq_append_getElem h]
  have : zs[k] = y := by simpa [h] using hy
  simp [ints, this]
theorem kq_empty (w : World) (t : TypeId) : (w.alloc (.cells #[] t)).ownsRow w.heap.size t 1 (.slice (some ⟨w.heap.size, 0, none⟩) 0 0) 0 [] :=
  ⟨by simp, .inr ⟨w.heap.size, 0, #[], rfl, Nat.le_refl _, heap_alloc_new _ _, Nat.le_refl _, by unfold maxLen; omega, by simp, by simp⟩⟩
theorem kq_new {w : World} {v : Value} {t : TypeId} : ∀ j u, [v][j]? = some u → (w.alloc (.cells #[v] t)).cell? ((⟨w.heap.size, 0, none⟩ : Addr).add j) = some u := by
  intro j u hj
  match j, hj with
  | 0, hj => simp at hj; subst hj; simp [Addr.add, World.cell?_alloc_new]
theorem kqInfo : (Try.prog.info? 2).map (fun i => (i.zero, i.size, i.bytes)) = some (some (.int .i64 0), 1, 8) := by kernel_rfl
/-- The last lines of a row that was filled from the front. -/
theorem kq_fill (zs : List Int) (n k : Nat) (hz : zs.length = n) (hk : k < n) : ((zs.take k ++ List.replicate (n - k) 0).set k (zs.getD k 0)) = zs.take (k + 1) ++ List.replicate (n - (k + 1)) 0 := by
  apply List.ext_getElem
  · simp; omega
  · intro i h1 h2
    simp only [List.getElem_set, List.getElem_append, List.length_take, List.getElem_take, List.getElem_replicate]
    by_cases e : k = i
    · subst e
      rw [if_pos rfl, dif_pos (by omega)]
      simp [show k < zs.length by omega]
    · rw [if_neg e]
      by_cases e2 : i < k
      · rw [dif_pos (by omega), dif_pos (by omega)]
      · rw [dif_neg (by omega), dif_neg (by omega)]
end Go.Proofs.Ytgahmfkmhaeniaa
namespace Go.Proofs.Ytgahmfkmhaeniaa
open Go Go.RowKit
/-- Whether three elements show that a dot table is no cycle set. -/
def cyq (f : List (List Int)) : Nat → Nat → Nat → Bool := fun x y z => !decide (ap f (ap f x y) (ap f x z) = ap f (ap f y x) (ap f y z))
/-- What a cycle set is. -/
def Cyc (f : List (List Int)) : Prop := (Tbl f ∧ AllPrm f) ∧ Prm (kinkL f) ∧ ∀ i, i < f.length * f.length * f.length → qAt (cyq f) f.length i = false
theorem Cyc.tbl {f : List (List Int)} (h : Cyc f) : Tbl f := h.1.1
theorem Cyc.prm {f : List (List Int)} (h : Cyc f) : AllPrm f := h.1.2
theorem Cyc.le {f : List (List Int)} (h : Cyc f) : f.length ≤ 12 := h.tbl.2.1
def CyRes (f : List (List Int)) (r : Bool) : Prop := r = true ↔ Cyc f
theorem CyRes.ex (f : List (List Int)) : ∃ r, CyRes f r := bool_of _
def CyFRes (f : List (List Int)) (zs : List Int) (code : Int) : Prop :=
  (∃ T, Tbl f ∧ FirstQ (cyq f) f.length T ∧ ((T < f.length * f.length * f.length ∧ zs = lst3 (trip f.length T) ∧ code = 0) ∨ (T = f.length * f.length * f.length ∧ zs = [] ∧ code = 4))) ∨ (¬ Tbl f ∧ zs = [] ∧ code = 1)
theorem CyFRes.ex (f : List (List Int)) : ∃ zs code, CyFRes f zs code ∧ zs.length ≤ 1048576 := by
  by_cases h : Tbl f
  · obtain ⟨T, hT⟩ := FirstQ.ex (cyq f) f.length
    by_cases h2 : T < f.length * f.length * f.length
    · exact ⟨_, _, .inl ⟨T, h, hT, .inl ⟨h2, rfl, rfl⟩⟩, by simp [lst3]⟩
    · exact ⟨_, _, .inl ⟨T, h, hT, .inr ⟨by have := hT.2.1; omega, rfl, rfl⟩⟩, by simp⟩
  · exact ⟨_, _, .inr ⟨h, rfl, rfl⟩, by simp⟩
def DqRes (f : List (List Int)) (zs : List Int) (code : Int) : Prop := (Tbl f ∧ zs = kinkL f ∧ code = 0) ∨ (¬ Tbl f ∧ zs = [] ∧ code = 1)
theorem DqRes.ex (f : List (List Int)) : ∃ zs code, DqRes f zs code ∧ zs.length ≤ 1048576 := by
  by_cases h : Tbl f
  · exact ⟨_, _, .inl ⟨h, rfl, rfl⟩, by rw [kinkL_length]; have := h.2.1; omega⟩
  · exact ⟨_, _, .inr ⟨h, rfl, rfl⟩, by simp⟩
end Go.Proofs.Ytgahmfkmhaeniaa
namespace Go.Proofs.Ytgahmfkmhaeniaa
open Go Go.RowKit
/-- Doing each row twice leads each element to itself. -/
def IvF (f : List (List Int)) : Prop := ∀ x y, x < f.length → y < f.length → ap f x (ap f x y) = y
def IvRes (f : List (List Int)) : Bool → Int → Prop := BRes (Rck f) (IvF f)
theorem IvRes.ex (f : List (List Int)) : ∃ r code, IvRes f r code := BRes.ex _ _
theorem prm_at {p : List Int} (h : Prm p) {y : Nat} (hy : y < p.length) : 0 ≤ p.getD y 0 ∧ p.getD y 0 < (p.length : Int) := by
  have hm : p.getD y 0 ∈ p := by simp [hy]
  exact h.2.2.1 _ hm
theorem prm_inj {p : List Int} (h : Prm p) {y z : Nat} (hy : y < p.length) (hz : z < p.length) (e : p.getD y 0 = p.getD z 0) : y = z := by
  have hn := h.2.2.2
  have e1 : p[y] = p[z] := by simpa [hy, hz] using e
  exact (List.getElem_inj hn).1 e1
theorem backTo_hit {p : List Int} (h : Prm p) : ∀ k, k ≤ p.length → ∀ y, y < k → (backTo p k).getD (p.getD y 0).toNat 0 = (y : Int) := by
  intro k
  induction k with
  | zero => intro _ y hy; omega
  | succ k ih =>
    intro hk y hy
    have hyl : y < p.length := by omega
    have a := prm_at h hyl
    have b := prm_at h (show k < p.length by omega)
    unfold backTo
    simp only [List.getD_eq_getElem?_getD] at *
    by_cases e : y = k
    · subst e
      rw [List.getElem?_set_self (by rw [backTo_length]; omega)]
      rfl
    · rw [List.getElem?_set_ne]
      · exact ih (by omega) y (by omega)
      · intro e2
        apply e
        apply prm_inj h hyl (by omega)
        simp only [List.getD_eq_getElem?_getD]
        omega
theorem back_iff {p : List Int} (h : Prm p) : p = backTo p p.length ↔ ∀ y, y < p.length → p.getD (p.getD y 0).toNat 0 = (y : Int) := by
  constructor
  · intro e y hy
    have h1 := backTo_hit h p.length (Nat.le_refl _) y hy
    rw [← e] at h1
    exact h1
  · intro hall
    apply List.ext_getElem
    · rw [backTo_length]
    · intro z h1 h2
      have a := prm_at h h1
      have b := hall z h1
      have c := backTo_hit h p.length (Nat.le_refl _) (p.getD z 0).toNat (by omega)
      rw [b] at c
      have d : ((z : Int)).toNat = z := by omega
      rw [d] at c
      have e1 : p.getD z 0 = p[z] := by simp [h1]
      have e2 : (backTo p p.length).getD z 0 = (backTo p p.length)[z] := by simp [h2]
      rw [← e1, ← e2, c]
      omega
theorem iv_row {f : List (List Int)} (ht : Tbl f) (hp : AllPrm f) {n x : Nat} (hn : f.length = n) (hx : x < n) : f.getD x [] = backTo (f.getD x []) n ↔ ∀ y, y < n → ap f x (ap f x y) = y := by
  have hl := ht.row_len hn hx
  have h := back_iff (hp x (by omega))
  rw [hl] at h
  rw [h]
  have key : ∀ y, y < n → ((f.getD x []).getD ((f.getD x []).getD y 0).toNat 0 = (y : Int) ↔ ap f x (ap f x y) = y) := by
    intro y hy
    have e1 := ht.ap_eq hn hx hy
    have hlt := ht.ap_lt hn hx hy
    have e2 := ht.ap_eq hn hx hlt
    rw [e1]
    have e3 : ((ap f x y : Nat) : Int).toNat = ap f x y := by omega
    rw [e3, e2]
    omega
  exact ⟨fun h y hy => (key y hy).1 (h y hy), fun h y hy => (key y hy).2 (h y hy)⟩
end Go.Proofs.Ytgahmfkmhaeniaa
namespace Go.Proofs.Ytgahmfkmhaeniaa
open Go Go.RowKit
def rowsL (f : List (List Int)) (h : Nat → List Int) : List (List Int) := (List.range f.length).map h
theorem rowsL_length (f : List (List Int)) (h : Nat → List Int) : (rowsL f h).length = f.length := by simp [rowsL]
theorem rowsL_at (f : List (List Int)) (h : Nat → List Int) (i : Nat) (hi : i < f.length) : (rowsL f h).getD i [] = h i := by simp [rowsL, hi]
def dualL (f : List (List Int)) : List (List Int) := rowsL f (fun i => backTo (f.getD i []) f.length)
def DuRes (f zs : List (List Int)) (code : Int) : Prop := (Rck f ∧ zs = dualL f ∧ code = 0) ∨ (¬ Rck f ∧ zs = [] ∧ code = 1)
theorem DuRes.ex (f : List (List Int)) : ∃ zs code, DuRes f zs code ∧ zs.length ≤ 1048576 ∧ ∀ i, i < zs.length → (zs.getD i []).length ≤ 1048576 := by
  by_cases h : Rck f
  · have h12 := h.tbl.2.1
    refine ⟨_, _, .inl ⟨h, rfl, rfl⟩, ?_, fun i hi => ?_⟩
    · rw [dualL, rowsL_length]; omega
    · rw [dualL, rowsL_length] at hi
      rw [dualL, rowsL_at f _ i hi, backTo_length, h.tbl.rows i hi]
      omega
  · exact ⟨_, _, .inr ⟨h, rfl, rfl⟩, by simp, by simp⟩
end Go.Proofs.Ytgahmfkmhaeniaa
namespace Go.Proofs.Ytgahmfkmhaeniaa
open Go Go.RowKit
/-- The place at which row x has z. -/
def sol (f : List (List Int)) (x z : Nat) : Nat := (ixOf (f.getD x []) (z : Int)).toNat
theorem sol_spec {f : List (List Int)} (ht : Tbl f) (hp : AllPrm f) {n x z : Nat} (hn : f.length = n) (hx : x < n) (hz : z < n) :
    sol f x z < n ∧ ixOf (f.getD x []) (z : Int) = ((sol f x z : Nat) : Int) ∧ (f.getD x []).getD (sol f x z) 0 = (z : Int) ∧ ap f x (sol f x z) = z := by
  have hl : (f.getD x []).length = n := ht.row_len hn hx
  have hpx : Prm (f.getD x []) := hp x (by omega)
  have hm : (z : Int) ∈ f.getD x [] := (prm_iff _).1 hpx |>.2.2 z (by omega) (by omega)
  have hi := List.idxOf_lt_length_iff.2 hm
  have e1 : ixOf (f.getD x []) (z : Int) = (((f.getD x []).idxOf (z : Int) : Nat) : Int) := by unfold ixOf; rw [if_pos hm]
  have e2 : sol f x z = (f.getD x []).idxOf (z : Int) := by unfold sol; rw [e1]; simp
  have e3 : (f.getD x []).getD ((f.getD x []).idxOf (z : Int)) 0 = (z : Int) := by
    generalize f.getD x [] = p at hi
    rw [List.getD_eq_getElem?_getD, List.getElem?_eq_getElem hi]
    simp
  rw [e2]
  refine ⟨by omega, e1, e3, ?_⟩
  unfold ap
  rw [e3]
  simp
theorem sol_lt {f : List (List Int)} (ht : Tbl f) (hp : AllPrm f) {n x z : Nat} (hn : f.length = n) (hx : x < n) (hz : z < n) : sol f x z < n := (sol_spec ht hp hn hx hz).1
theorem sol_ix {f : List (List Int)} (ht : Tbl f) (hp : AllPrm f) {n x z : Nat} (hn : f.length = n) (hx : x < n) (hz : z < n) : ixOf (f.getD x []) (z : Int) = ((sol f x z : Nat) : Int) := (sol_spec ht hp hn hx hz).2.1
theorem dual_row {f : List (List Int)} {n x : Nat} (hn : f.length = n) (hx : x < n) : (dualL f).getD x [] = backTo (f.getD x []) n := by
  unfold dualL
  rw [rowsL_at f _ x (by omega), hn]
theorem sol_dual {f : List (List Int)} (ht : Tbl f) (hp : AllPrm f) {n x z : Nat} (hn : f.length = n) (hx : x < n) (hz : z < n) : ((dualL f).getD x []).getD z 0 = ((sol f x z : Nat) : Int) := by
  have hl : (f.getD x []).length = n := ht.row_len hn hx
  have hpx : Prm (f.getD x []) := hp x (by omega)
  obtain ⟨h1, _, h3, _⟩ := sol_spec ht hp hn hx hz
  have h := backTo_hit hpx n (by omega) (sol f x z) h1
  rw [h3] at h
  rw [dual_row hn hx]
  simpa using h
theorem dualL_len (f : List (List Int)) : (dualL f).length = f.length := by unfold dualL; rw [rowsL_length]
theorem dual_len {f : List (List Int)} (ht : Tbl f) {n x : Nat} (hn : f.length = n) (hx : x < n) : ((dualL f).getD x []).length = n := by rw [dual_row hn hx, backTo_length]; exact ht.row_len hn hx
theorem dual_tbl {f : List (List Int)} (ht : Tbl f) (hp : AllPrm f) : Tbl (dualL f) := by
  refine ⟨by rw [dualL_len]; exact ht.1, by rw [dualL_len]; exact ht.2.1, ?_⟩
  intro i hi
  rw [dualL_len] at hi
  refine ⟨by rw [dual_len ht rfl hi, dualL_len], fun j hj => ?_⟩
  rw [dualL_len] at hj
  have h := sol_lt ht hp rfl hi hj
  rw [sol_dual ht hp rfl hi hj, dualL_len]
  omega
theorem sol_ap {f : List (List Int)} (ht : Tbl f) (hp : AllPrm f) {n x z : Nat} (hn : f.length = n) (hx : x < n) (hz : z < n) : ap (dualL f) x z = sol f x z := by
  have h := sol_dual ht hp hn hx hz
  unfold ap
  rw [h]
  simp
def DsRes (f : List (List Int)) (x z v code : Int) : Prop :=
  (Cyc f ∧ (0 ≤ x ∧ x < (f.length : Int)) ∧ (0 ≤ z ∧ z < (f.length : Int)) ∧ v = ((sol f x.toNat z.toNat : Nat) : Int) ∧ code = 0) ∨ (Cyc f ∧ ¬ ((0 ≤ x ∧ x < (f.length : Int)) ∧ (0 ≤ z ∧ z < (f.length : Int))) ∧ v = 0 ∧ code = 2) ∨ (¬ Cyc f ∧ v = 0 ∧ code = 1)
theorem DsRes.ex (f : List (List Int)) (x z : Int) : ∃ v code, DsRes f x z v code := by
  by_cases h : Cyc f
  · by_cases h2 : (0 ≤ x ∧ x < (f.length : Int)) ∧ (0 ≤ z ∧ z < (f.length : Int))
    · exact ⟨_, _, .inl ⟨h, h2.1, h2.2, rfl, rfl⟩⟩
    · exact ⟨_, _, .inr (.inl ⟨h, h2, rfl, rfl⟩)⟩
  · exact ⟨_, _, .inr (.inr ⟨h, rfl, rfl⟩)⟩
end Go.Proofs.Ytgahmfkmhaeniaa
namespace Go.Proofs.Ytgahmfkmhaeniaa
open Go Go.RowKit

theorem grid_sz {n : Nat} (h : n ≤ 1048576) (f g : Nat → Nat → Int) : ZSz 1048576 (grid n f) (grid n f).length (grid n g) (grid n g).length :=
  ⟨rfl, by rw [grid_length]; exact h, fun i hi => by rw [grid_length] at hi; rw [grid_row_length _ _ _ hi]; exact h, rfl, by rw [grid_length]; exact h, fun i hi => by rw [grid_length] at hi; rw [grid_row_length _ _ _ hi]; exact h⟩
theorem nil_sz : ZSz 1048576 [] ([] : List (List Int)).length [] ([] : List (List Int)).length := ⟨rfl, by simp, by simp, rfl, by simp, by simp⟩

/-- A pair of tables where all is well, else a code. -/
def GRes (good : Prop) (n : Nat) (h1 h2 : Nat → Nat → Int) (err : Int) (zf zg : List (List Int)) (code : Int) : Prop := (good ∧ zf = grid n h1 ∧ zg = grid n h2 ∧ code = 0) ∨ (¬ good ∧ zf = [] ∧ zg = [] ∧ code = err)
theorem GRes.ex (good : Prop) (n : Nat) (h1 h2 : Nat → Nat → Int) (err : Int) (hn : good → n ≤ 1048576) : ∃ zf zg code, GRes good n h1 h2 err zf zg code ∧ ZSz 1048576 zf zf.length zg zg.length := by
  by_cases h : good
  · exact ⟨_, _, _, .inl ⟨h, rfl, rfl, rfl⟩, grid_sz (hn h) _ _⟩
  · exact ⟨_, _, _, .inr ⟨h, rfl, rfl, rfl⟩, nil_sz⟩

def mir1 (s : List (List Int)) : Nat → Nat → Int := fun x y => ((ap s y x : Nat) : Int)
def MirRes (f s : List (List Int)) : List (List Int) → List (List Int) → Int → Prop := GRes (PMap f s) f.length (mir1 s) (mir1 f) 1
theorem MirRes.ex (f s : List (List Int)) : ∃ zf zg code, MirRes f s zf zg code ∧ ZSz 1048576 zf zf.length zg zg.length := GRes.ex _ _ _ _ _ (fun h => by have := h.1.2.1; omega)
theorem mir_turn {s : List (List Int)} (h : Tbl s) : grid s.length (mir1 s) = turnL s := by
  unfold turnL
  refine grid_congr _ _ _ fun a b ha hb => ?_
  unfold mir1
  rw [h.ap_eq rfl hb ha]
def FlipRes (n : Int) : List (List Int) → List (List Int) → Int → Prop := GRes (1 ≤ n ∧ n ≤ 12) n.toNat (fun _ y => (y : Int)) (fun x _ => (x : Int)) 2
theorem FlipRes.ex (n : Int) : ∃ zf zg code, FlipRes n zf zg code ∧ ZSz 1048576 zf zf.length zg zg.length := GRes.ex _ _ _ _ _ (fun h => by omega)
end Go.Proofs.Ytgahmfkmhaeniaa
namespace Go.Proofs.Ytgahmfkmhaeniaa
open Go Go.RowKit
/-- The solution of a cycle set. -/
def csH1 (f : List (List Int)) : Nat → Nat → Int := fun x y => ((sol f x y : Nat) : Int)
def csH2 (f : List (List Int)) : Nat → Nat → Int := fun x y => ((ap f (sol f x y) x : Nat) : Int)
def CsoRes (f : List (List Int)) : List (List Int) → List (List Int) → Int → Prop := GRes (Cyc f) f.length (csH1 f) (csH2 f) 1
theorem CsoRes.ex (f : List (List Int)) : ∃ zf zg code, CsoRes f zf zg code ∧ ZSz 1048576 zf zf.length zg zg.length := GRes.ex _ _ _ _ _ (fun h => by have := h.le; omega)
end Go.Proofs.Ytgahmfkmhaeniaa
namespace Go.Proofs.Ytgahmfkmhaeniaa
open Go Go.RowKit
/-- What makes a cycle set, said of elements. -/
theorem Cyc.eqn {f : List (List Int)} (h : Cyc f) {n x y z : Nat} (hn : f.length = n) (hx : x < n) (hy : y < n) (hz : z < n) : ap f (ap f x y) (ap f x z) = ap f (ap f y x) (ap f y z) := by
  subst hn
  have h1 := h.2.2 ((x * f.length + y) * f.length + z) (trip_lt hx hy hz)
  rw [qAt_at hy hz] at h1
  unfold cyq at h1
  simpa using h1
theorem row_ap {f : List (List Int)} (ht : Tbl f) {n a x : Nat} (hn : f.length = n) (ha : a < n) (hx : x < n) : (f.getD a []).getD x 0 = ((ap f a x : Nat) : Int) := by
  have h := (ht.2.2 a (by omega)).2 x (by omega)
  unfold ap
  omega
theorem ap_inj {f : List (List Int)} (ht : Tbl f) (hp : AllPrm f) {n a x x' : Nat} (hn : f.length = n) (ha : a < n) (hx : x < n) (hx' : x' < n) (e : ap f a x = ap f a x') : x = x' := by
  have hl := ht.row_len hn ha
  refine prm_inj (hp a (by omega)) (by omega) (by omega) ?_
  rw [row_ap ht hn ha hx, row_ap ht hn ha hx', e]
theorem sq_inj {f : List (List Int)} (h : Cyc f) {n x x' : Nat} (hn : f.length = n) (hx : x < n) (hx' : x' < n) (e : ap f x x = ap f x' x') : x = x' := by
  refine prm_inj h.2.1 (by rw [kinkL_length]; omega) (by rw [kinkL_length]; omega) ?_
  rw [kinkL_getD f x (by omega), kinkL_getD f x' (by omega), e]
/-- The other half of the solution of a cycle set: its second values, with the second element kept, are all different. -/
theorem rho_inj {f : List (List Int)} (h : Cyc f) {n x x' y : Nat} (hn : f.length = n) (hx : x < n) (hx' : x' < n) (hy : y < n) (e : ap f (sol f x y) x = ap f (sol f x' y) x') : x = x' := by
  obtain ⟨u1, _, _, u4⟩ := sol_spec h.tbl h.prm hn hx hy
  obtain ⟨v1, _, _, v4⟩ := sol_spec h.tbl h.prm hn hx' hy
  have e1 := h.eqn hn hx u1 hx
  have e2 := h.eqn hn hx' v1 hx'
  rw [u4] at e1
  rw [v4, ← e, ← e1] at e2
  exact sq_inj h hn hx hx' (ap_inj h.tbl h.prm hn hy (h.tbl.ap_lt hn hx hx) (h.tbl.ap_lt hn hx' hx') e2.symm)
theorem ap_grid {n : Nat} (h : Nat → Nat → Int) {a b : Nat} (ha : a < n) (hb : b < n) : ap (grid n h) a b = (h a b).toNat := by
  unfold ap
  rw [grid_at n h a b ha hb]
theorem grid_tbl {n : Nat} (h : Nat → Nat → Int) (h1 : 1 ≤ n) (h12 : n ≤ 12) (hh : ∀ a b, a < n → b < n → 0 ≤ h a b ∧ h a b < (n : Int)) : Tbl (grid n h) := by
  refine ⟨by rw [grid_length]; exact h1, by rw [grid_length]; exact h12, fun i hi => ?_⟩
  rw [grid_length] at hi
  refine ⟨by rw [grid_row_length n h i hi, grid_length], fun j hj => ?_⟩
  rw [grid_length] at hj
  rw [grid_at n h i j hi hj, grid_length]
  exact hh i j hi hj
def cs1 (f : List (List Int)) : List (List Int) := grid f.length (csH1 f)
def cs2 (f : List (List Int)) : List (List Int) := grid f.length (csH2 f)
theorem Cyc.ge {f : List (List Int)} (h : Cyc f) : 1 ≤ f.length := h.tbl.1
theorem cs1_tbl {f : List (List Int)} (h : Cyc f) : Tbl (cs1 f) := grid_tbl _ h.ge h.le fun a b ha hb => by
  have := sol_lt h.tbl h.prm rfl ha hb
  unfold csH1
  omega
theorem cs2_tbl {f : List (List Int)} (h : Cyc f) : Tbl (cs2 f) := grid_tbl _ h.ge h.le fun a b ha hb => by
  have := h.tbl.ap_lt rfl (sol_lt h.tbl h.prm rfl ha hb) ha
  unfold csH2
  omega
theorem cs_pmap {f : List (List Int)} (h : Cyc f) : PMap (cs1 f) (cs2 f) := ⟨cs1_tbl h, cs2_tbl h, by unfold cs1 cs2; rw [grid_length, grid_length]⟩
theorem cs2_len (f : List (List Int)) : (cs2 f).length = f.length := grid_length _ _
theorem cs1_len (f : List (List Int)) : (cs1 f).length = f.length := grid_length _ _
/-- The first table of the mirror of the solution. -/
def dcM (f : List (List Int)) : List (List Int) := turnL (cs2 f)
theorem dcM_grid {f : List (List Int)} (h : Cyc f) : dcM f = grid f.length (mir1 (cs2 f)) := by
  have h1 := mir_turn (cs2_tbl h)
  rw [cs2_len] at h1
  exact h1.symm
theorem dc_at {f : List (List Int)} (h : Cyc f) {i j : Nat} (hi : i < f.length) (hj : j < f.length) : mir1 (cs2 f) i j = ((ap f (sol f j i) j : Nat) : Int) := by
  unfold mir1 cs2
  rw [ap_grid _ hj hi]
  unfold csH2
  simp
theorem dcM_len (f : List (List Int)) (h : Cyc f) : (dcM f).length = f.length := by rw [dcM_grid h, grid_length]
theorem dcM_tbl {f : List (List Int)} (h : Cyc f) : Tbl (dcM f) := by
  rw [dcM_grid h]
  refine grid_tbl _ h.ge h.le fun a b ha hb => ?_
  rw [dc_at h ha hb]
  have := h.tbl.ap_lt rfl (sol_lt h.tbl h.prm rfl hb ha) hb
  omega
theorem dcM_prm {f : List (List Int)} (h : Cyc f) : AllPrm (dcM f) := by
  intro i hi
  have ht := dcM_tbl h
  have hr := ht.rows i hi
  have hl := dcM_len f h
  have hif : i < f.length := by omega
  refine ⟨by have := ht.1; omega, by have := ht.2.1; omega, fun v hv => ?_, ?_⟩
  · obtain ⟨j, hj, e⟩ := List.getElem_of_mem hv
    have h2 := (ht.2.2 i hi).2 j (by omega)
    have h3 : ((dcM f).getD i []).getD j 0 = v := by
      rw [← e]
      generalize (dcM f).getD i [] = p at hj
      rw [List.getD_eq_getElem?_getD, List.getElem?_eq_getElem hj]
      rfl
    rw [h3] at h2
    omega
  · rw [dcM_grid h, grid_row _ _ i hif]
    refine List.pairwise_map.2 (List.Pairwise.imp_of_mem (fun {a b} ha hb hlt e => ?_) List.pairwise_lt_range)
    have ha' : a < f.length := List.mem_range.1 ha
    have hb' : b < f.length := List.mem_range.1 hb
    rw [dc_at h hif ha', dc_at h hif hb'] at e
    have e2 : ap f (sol f a i) a = ap f (sol f b i) b := by omega
    have := rho_inj h rfl ha' hb' hif e2
    omega
def DcRes (f zs : List (List Int)) (code : Int) : Prop := (Cyc f ∧ zs = dualL (dcM f) ∧ code = 0) ∨ (¬ Cyc f ∧ zs = [] ∧ code = 1)
theorem DcRes.ex (f : List (List Int)) : ∃ zs code, DcRes f zs code ∧ zs.length ≤ 1048576 ∧ ∀ i, i < zs.length → (zs.getD i []).length ≤ 1048576 := by
  by_cases h : Cyc f
  · have h12 := h.le
    have hl := dcM_len f h
    refine ⟨_, _, .inl ⟨h, rfl, rfl⟩, ?_, fun i hi => ?_⟩
    · rw [dualL, rowsL_length]; omega
    · rw [dualL, rowsL_length] at hi
      rw [dualL, rowsL_at _ _ i hi, backTo_length, (dcM_tbl h).rows i hi]
      omega
  · exact ⟨_, _, .inr ⟨h, rfl, rfl⟩, by simp, by simp⟩
end Go.Proofs.Ytgahmfkmhaeniaa
namespace Go.Proofs.Ytgahmfkmhaeniaa
open Go Go.RowKit
set_option maxHeartbeats 1000000

def colL (rows : List (List Int)) (j : Nat) : List Int := (List.range rows.length).map fun (x : Nat) => (rows.getD x []).getD j 0
theorem colL_length (rows : List (List Int)) (j : Nat) : (colL rows j).length = rows.length := by simp [colL]
theorem colL_getD (rows : List (List Int)) (j k : Nat) (h : k < rows.length) : (colL rows j).getD k 0 = (rows.getD k []).getD j 0 := by simp [colL, h]
theorem turnL_row (rows : List (List Int)) (j : Nat) (h : j < rows.length) : (turnL rows).getD j [] = colL rows j := by
  unfold turnL
  rw [grid_row _ _ _ h]
  rfl

theorem ints_take_succ (zs : List Int) (k : Nat) (y : Int) (h : k < zs.length) (hy : zs.getD k 0 = y) : ints (zs.take k) ++ [.int .i64 y] = ints (zs.take (k + 1)) := by
  rw [List.take_succ_eq_append_getElem h]
  have : zs[k] = y := by simpa [h] using hy
  simp [ints, this]

theorem colInfo : (Try.prog.info? 2).map (fun i => (i.zero, i.size, i.bytes)) = some (some (.int .i64 0), 1, 8) := by kernel_rfl
theorem colsInfo2 : (Try.prog.info? 31).map (fun i => (i.zero, i.size, i.bytes)) = some (some (.slice none 0 0), 1, 24) := by kernel_rfl

theorem row_empty (w : World) (t : TypeId) : (w.alloc (.cells #[] t)).ownsRow w.heap.size t 1 (.slice (some ⟨w.heap.size, 0, none⟩) 0 0) 0 [] :=
  ⟨by simp, .inr ⟨w.heap.size, 0, #[], rfl, Nat.le_refl _, heap_alloc_new _ _, Nat.le_refl _, by unfold maxLen; omega, by simp, by simp⟩⟩

theorem one_new {w : World} {v : Value} {t : TypeId} : ∀ j u, [v][j]? = some u → (w.alloc (.cells #[v] t)).cell? ((⟨w.heap.size, 0, none⟩ : Addr).add j) = some u := by
  intro j u hj
  match j, hj with
  | 0, hj => simp at hj; subst hj; simp [Addr.add, World.cell?_alloc_new]

theorem l01Column_any (A : Option Addr) (n c m j : Nat) (rows : List (List Int)) (w : World) (hn : rows.length = n) (hb : n ≤ 1048576) (hm : m ≤ 1048576) (hbs : ∀ i, i < rows.length → (rows.getD i []).length = m) (hj : j < m) (hr : Rd2 w A rows) :
    Calls Try.prog 138 #[.slice A n c, .int .i64 j] w fun e w' => ∃ A' c', e = .returned (.slice A' n c') ∧ Below w.heap.size w w' ∧ Res 2 w.heap.size w' A' (colL rows j) := by
  have HN := hide hn
  have HZ : Hid ((colL rows j).length = n) := hide ((colL_length rows j).trans hn)
  clear hn
  obtain ⟨i0, hi, hz0, hz1, hz2⟩ := info_parts colInfo
  go_enter Try.func138, Try.ntmps138
  go_wp2_with fail
  go_loopw [5, 6] (fun v i wr => ∃ k : Nat, k ≤ n ∧ i = .int .i64 k ∧ Below w.heap.size w wr ∧ wr.ownsRow w.heap.size 2 1 v k (ints ((colL rows j).take k)) ∧ w.heap.size ≤ wr.heap.size) (fun _ i _ => n - (intOf i).toNat)
  case atStart => exact ⟨0, Nat.zero_le _, rfl, (Below.refl _ _).alloc (Nat.le_refl _) _, by simpa [ints] using row_empty w _, by simp⟩
  case round =>
    obtain ⟨k, hk, rfl, hbe, hown, hsz⟩ := hrel
    have HB := hide hbe
    have HO := hide hown
    clear hbe hown
    by_cases hlt : k < n
    · obtain ⟨b, o, rfl, hbw, hc⟩ := hr (by have := HN.out; omega)
      obtain ⟨Ak, ck, hcell, hrd⟩ := hc k (by have := HN.out; omega)
      have hl := hbs k (by have := HN.out; omega)
      obtain ⟨r, hx'⟩ : ∃ r, r = rows.getD k [] := ⟨_, rfl⟩
      rw [← hx'] at hcell hrd hl
      rw [hl] at hcell
      have HX := hide hx'
      have HL := hide hl
      have hcell' : wr.cell? ⟨b, o + k, none⟩ = some (.slice Ak m ck) := (HB.out.cell (p := ⟨b, o + k, none⟩) hbw).trans hcell
      obtain ⟨b2, o2, rfl, hbw2, hc2⟩ := hrd (by omega)
      have hc3 : wr.cell? ⟨b2, o2 + j, none⟩ = some (.int .i64 (r.getD j 0)) := (HB.out.cell (p := ⟨b2, o2 + j, none⟩) hbw2).trans (hc2 j (by omega))
      obtain ⟨y, hy'⟩ : ∃ y, r.getD j 0 = y := ⟨_, rfl⟩
      rw [hy'] at hc3
      have HY : Hid ((colL rows j).getD k 0 = y) := hide (by rw [colL_getD rows j k (by have := HN.out; omega), ← HX.out]; exact hy')
      clear hx' hc hc2 hy' hcell hrd hl hbs hr
      have hltz : (k : Int) < n := by omega
      have hjz : (j : Int) < m := by omega
      go_wp2_with (at_builtin; refine wpList_append_own _ rfl _ _ 31 rfl w.heap.size 2 i0 (.int .i64 0) 1 8 Try.underlying31 hi hz0 hz1 hz2 rfl (by decide) _ _ _ rfl (HO.out.alloc _) ⟨wr.heap.size, 0, none⟩ 1 1 [.int .i64 y] rfl rfl ?c1 ?c2 ?c3 ?c4 ?c5 ?_)
      case c1 => exact one_new
      case c2 => intro u hu; simp at hu; subst hu; rfl
      case c3 => unfold maxLen; omega
      case c4 => omega
      case c5 => simp; omega
      intro v' w1 hown' hgrow _
      have HO' := hide hown'
      have HG := hide hgrow
      clear hown' hgrow
      go_wp2_with fail
      go_roundw
      case rel =>
        have hB1 : Below w.heap.size w w1 := (HB.out.alloc hsz _).grown HG.out (by simp; omega) (fun g hg => (HO.out.alloc (.cells #[.int .i64 y] 2)).lt g hg |>.1)
        refine ⟨k + 1, by omega, by go_num, hB1, ?_, by have := hB1.size; omega⟩
        have h := HO'.out
        rw [ints_take_succ _ k y (by have := HZ.out; omega) HY.out] at h
        exact h
      case measure => simp [intOf]; omega
    · have hkn : k = n := by omega
      subst hkn
      go_wp2_with fail
      have h := HO.out
      rw [List.take_of_length_le (by have := HZ.out; omega)] at h
      go_ret
      obtain ⟨A', c', hv, hres⟩ := own_shape h
      exact ⟨A', c', by rw [← hv]; rfl, HB.out, hres⟩

theorem l01Turn_any (A : Option Addr) (n c : Nat) (rows : List (List Int)) (w : World) (hn : rows.length = n) (hb : n ≤ 1048576) (hbs : ∀ i, i < rows.length → (rows.getD i []).length = n) (hr : Rd2 w A rows) :
    Calls Try.prog 111 #[.slice A n c] w fun e w' => ∃ A' c', e = .returned (.slice A' n c') ∧ Below w.heap.size w w' ∧ Obj2 31 2 w.heap.size w'.heap.size w' A' (turnL rows) := by
  have HN := hide hn
  have HZ : Hid ((turnL rows).length = n) := hide ((turnL_length rows).trans hn)
  clear hn
  obtain ⟨i0, hi, hz0, hz1, hz2⟩ := info_parts colsInfo2
  go_enter Try.func111, Try.ntmps111
  go_wp2_with fail
  go_loopw [3, 4] (fun v i wr => ∃ (k : Nat) (vals : List Value), k ≤ n ∧ i = .int .i64 k ∧ Below w.heap.size w wr ∧ LstV 31 2 w.heap.size wr v ((turnL rows).take k) vals ∧ w.heap.size ≤ wr.heap.size) (fun _ i _ => n - (intOf i).toNat)
  case atStart => exact ⟨0, [], Nat.zero_le _, rfl, (Below.refl _ _).alloc (Nat.le_refl _) _, by simpa using LstV.start w _ _, by simp⟩
  case round =>
    obtain ⟨k, vals, hk, rfl, hbe, hlst, hsz⟩ := hrel
    have HB := hide hbe
    have HL := hide hlst
    clear hbe hlst
    by_cases hlt : k < n
    · have hltz : (k : Int) < n := by omega
      go_wp2_with fail
      refine (l01Column_any _ _ _ n k rows _ HN.out hb hb hbs hlt (hr.later HB.out)).mono ?_
      rintro e w2 ⟨A2, c2, rfl, hb2, hres⟩
      have HB2 := hide hb2
      have HR2 := hide hres.obj
      clear hb2 hres
      have HL2 := hide (HL.out.later HB2.out)
      have hlen : ((turnL rows).take k).length = k := by have := HZ.out; simp; omega
      have hown : w2.ownsRow w.heap.size 31 1 u3 k vals := by have := HL2.out.own; rwa [hlen] at this
      have HO := hide hown
      have hs2 : w.heap.size ≤ w2.heap.size := by have := HB2.out.size; omega
      clear hown hlen
      go_wp2_with (at_builtin; refine wpList_append_own _ rfl _ _ 22 rfl w.heap.size 31 i0 (.slice none 0 0) 1 24 Try.underlying22 hi hz0 hz1 hz2 rfl (by decide) _ _ _ rfl (HO.out.alloc _) ⟨w2.heap.size, 0, none⟩ 1 1 [.slice A2 n c2] rfl rfl ?c1 ?c2 ?c3 ?c4 ?c5 ?_)
      case c1 => exact one_new
      case c2 => intro u hu; simp at hu; subst hu; rfl
      case c3 => unfold maxLen; omega
      case c4 => omega
      case c5 => simp; omega
      intro v' w3 hown' hgrow _
      have HO' := hide hown'
      have HG := hide hgrow
      clear hown' hgrow
      go_wp2_with fail
      go_roundw
      case rel =>
        have hB3 : Below w.heap.size w w3 := ((HB.out.trans (HB2.out.mono hsz)).alloc hs2 _).grown HG.out (by simp; omega) (fun g hg => (HO.out.alloc (.cells #[.slice A2 n c2] 31)).lt g hg |>.1)
        have hN := HN.out
        have hlen : ((turnL rows).take k).length = k := by have := HZ.out; simp; omega
        have hrow : (turnL rows).getD k [] = colL rows k := turnL_row rows k (by omega)
        have hcl : (colL rows k).length = n := by rw [colL_length]; exact hN
        have hpush := LstV.push (tmp := .cells #[.slice A2 n c2] 31) (A := A2) (c := c2) (r := colL rows k) (w1 := w3) (v' := v') (by decide) hsz HL.out HB2.out HR2.out (by rw [hlen, hcl]; exact HO'.out) HG.out
        refine ⟨k + 1, vals ++ [.slice A2 (colL rows k).length c2], by omega, by go_num, hB3, ?_, by have := hB3.size; omega⟩
        have e : (turnL rows).take (k + 1) = (turnL rows).take k ++ [colL rows k] := by
          have hl : k < (turnL rows).length := by have := HZ.out; omega
          rw [List.take_succ_eq_append_getElem hl, ← hrow]
          simp [hl]
        rw [e]
        exact hpush
      case measure => simp [intOf]; omega
    · have hkn : k = n := by omega
      subst hkn
      go_wp2_with fail
      have h := HL.out
      rw [List.take_of_length_le (by have := HZ.out; omega)] at h
      go_ret
      obtain ⟨A', c', hv, hobj⟩ := h.shape
      have hz := HZ.out
      exact ⟨A', c', by rw [hz] at hv; rw [← hv]; rfl, HB.out, hobj⟩
end Go.Proofs.Ytgahmfkmhaeniaa
namespace Go.Proofs.Ytgahmfkmhaeniaa
open Go Go.RowKit

/-- The cells that are read at two elements of both tables of a pair map. -/
theorem ZArg.reads {K : Nat} {w : World} {A : Option Addr} {n : Nat} {f : List (List Int)} {B : Option Addr} {m : Nat} {s : List (List Int)} (hz : ZArg K w A n f B m s) (hp : PMap f s) {x y : Nat} (hx : x < n) (hy : y < n) :
    ∃ b o b2 o2 bx ox cx by' oy cy, A = some ⟨b, o, none⟩ ∧ B = some ⟨b2, o2, none⟩ ∧ w.cell? ⟨b, o + x, none⟩ = some (.slice (some ⟨bx, ox, none⟩) n cx) ∧ w.cell? ⟨b2, o2 + x, none⟩ = some (.slice (some ⟨by', oy, none⟩) n cy) ∧
      w.cell? ⟨bx, ox + y, none⟩ = some (.int .i64 (ap f x y : Nat)) ∧ w.cell? ⟨by', oy + y, none⟩ = some (.int .i64 (ap s x y : Nat)) ∧ b < w.heap.size ∧ b2 < w.heap.size ∧ bx < w.heap.size ∧ by' < w.heap.size := by
  obtain ⟨b, o, rfl, hb, hc⟩ := hp.1.cells hz.fst hz.sz.fl
  have hm : s.length = n := by rw [← hp.2.2]; exact hz.sz.fl
  obtain ⟨b2, o2, rfl, hb2, hc2⟩ := hp.2.1.cells hz.snd hm
  obtain ⟨bx, ox, cx, h1, h2, h3⟩ := hc x hx
  obtain ⟨by', oy, cy, h4, h5, h6⟩ := hc2 x hx
  exact ⟨b, o, b2, o2, bx, ox, cx, by', oy, cy, rfl, rfl, h1, h4, h3 y hy, h6 y hy, hb, hb2, h2, h5⟩
theorem ZArg.same {K : Nat} {w : World} {A : Option Addr} {n : Nat} {f : List (List Int)} {B : Option Addr} {m : Nat} {s : List (List Int)} (hz : ZArg K w A n f B m s) (hp : PMap f s) : m = n := by
  rw [← hz.sz.sl, ← hp.2.2]; exact hz.sz.fl
theorem ZArg.small {K : Nat} {w : World} {A : Option Addr} {n : Nat} {f : List (List Int)} {B : Option Addr} {m : Nat} {s : List (List Int)} (hz : ZArg K w A n f B m s) (hp : PMap f s) : 1 ≤ n ∧ n ≤ 12 := by
  have h1 := hp.1.1
  have h2 := hp.1.2.1
  have h3 := hz.sz.fl
  omega
theorem PMap.lt1 {f s : List (List Int)} (hp : PMap f s) {n x y : Nat} (hn : f.length = n) (hx : x < n) (hy : y < n) : ap f x y < n := hp.1.ap_lt hn hx hy
theorem PMap.lt2 {f s : List (List Int)} (hp : PMap f s) {n x y : Nat} (hn : f.length = n) (hx : x < n) (hy : y < n) : ap s x y < n := hp.2.1.ap_lt (by rw [← hp.2.2]; exact hn) hx hy
end Go.Proofs.Ytgahmfkmhaeniaa
namespace Go.Proofs.Ytgahmfkmhaeniaa
open Go Go.RowKit
set_option maxHeartbeats 2000000
/-- A table in memory from lo on. -/
def ObjIn (ts t : TypeId) (lo : Nat) (w : World) (A : Option Addr) (f : List (List Int)) : Prop := Obj2 ts t lo w.heap.size w A f
theorem ObjIn.later {ts t : TypeId} {lo : Nat} {w w' : World} {A : Option Addr} {f : List (List Int)} (h : ObjIn ts t lo w A f) (hb : Below w.heap.size w w') : ObjIn ts t lo w' A f := (Obj2.later h hb).mono (Nat.le_refl _) hb.size

set_option maxRecDepth 100000 in
theorem mirrorS_any (A B : Option Addr) (n c d : Nat) (f s : List (List Int)) (w : World) (hz : ZArg 1048576 w A n f B n s) (hp : PMap f s) :
    Calls Try.prog 80 #[.agg #[.slice A n c, .slice B n d]] w fun e w' => ∃ A' c' B' d', e = .returned (.agg #[.slice A' n c', .slice B' n d']) ∧ Below w.heap.size w w' ∧ ObjW 31 2 w.heap.size w'.heap.size w' A' (turnL s) B' (turnL f) := by
  have h12 : n ≤ 12 := by rw [← hz.sz.fl]; exact hp.1.2.1
  have HFL := hide hz.sz.fl
  have HSL := hide hz.sz.sl
  have HFR : Hid (∀ i, i < f.length → (f.getD i []).length = n) := hide (fun i hi => hp.1.row_len hz.sz.fl (by rw [← hz.sz.fl]; exact hi))
  have HSR : Hid (∀ i, i < s.length → (s.getD i []).length = n) := hide (fun i hi => hp.2.1.row_len hz.sz.sl (by rw [← hz.sz.sl]; exact hi))
  have HZ := hide hz
  have HB0 := hide (((Below.refl _ w).alloc (Nat.le_refl _) (Obj.cells #[Value.slice A n c, Value.slice B n d] 41)).alloc (by simp) (Obj.cells #[.slice none 0 0, .slice none 0 0] 41))
  have HK0 := hide ((Blk.new w 41 [.slice A n c, .slice B n d]).alloc (Obj.cells #[.slice none 0 0, .slice none 0 0] 41))
  have HR0 : Hid (Blk ((w.alloc (Obj.cells #[Value.slice A n c, Value.slice B n d] 41)).alloc (Obj.cells #[.slice none 0 0, .slice none 0 0] 41)) (w.heap.size + 1) 41 [.slice none 0 0, .slice none 0 0]) := hide (by have h := Blk.new (w.alloc (Obj.cells #[Value.slice A n c, Value.slice B n d] 41)) 41 [.slice none 0 0, .slice none 0 0]; simpa using h)
  clear hz hp
  go_enter Try.func80, Try.ntmps80
  go_upto_region 1 with fail
  refine wp_gen fun w0 hw0 => ?_
  have HBc : Hid (Below w.heap.size w w0) := hide (by rw [hw0]; exact HB0.out)
  have HKc : Hid (Blk w0 w.heap.size 41 [.slice A n c, .slice B n d]) := hide (by rw [hw0]; exact HK0.out)
  have HRc : Hid (Blk w0 (w.heap.size + 1) 41 [.slice none 0 0, .slice none 0 0]) := hide (by rw [hw0]; exact HR0.out)
  have HSZ := hide HRc.out.lt
  have HLO := hide HBc.out.size
  have HB1 := hide (Below.refl w0.heap.size w0)
  clear hw0
  have k0 := HKc.out.cell 0 _ rfl
  have k1 := HKc.out.cell 1 _ rfl
  have r0 := HRc.out.cell 0 _ rfl
  have r1 := HRc.out.cell 1 _ rfl
  have f0 := HRc.out.frozen 0
  have f1 := HRc.out.frozen 1
  have n0 : w.heap.size + 1 ≠ w.heap.size := by omega
  have n1 := n0.symm
  have tok0 : True := trivial
  go_wp2_with fail
  go_region_held3 (fun w' => w'.cell? ⟨w.heap.size, 0, none⟩ = some (.slice A n c) ∧ w'.cell? ⟨w.heap.size, 1, none⟩ = some (.slice B n d)) (first | exact ⟨k0, k1⟩ | go_keep) (first | (go_at_call 111; have _t := tok0; clear _t tok0; go_must (refine calls_gen fun wc hwc => ?_; (first | have hbx := drew_below hwc | have hbx := eq_below hwc); replace HBc := hide (HBc.out.trans (hbx.mono HBc.out.size)); replace HB1 := hide (HB1.out.trans (hbx.mono HB1.out.size)); replace HKc := hide (HKc.out.later hbx); replace HRc := hide (HRc.out.later hbx); clear hwc hbx; refine (l01Turn_any _ n _ s _ HSL.out (by omega) HSR.out (HZ.out.snd.later HBc.out)).mono ?_; rintro e wd ⟨A4, c4, rfl, hbd, hobj⟩; have HO4 := hide ((show ObjIn 31 2 w0.heap.size wd A4 (turnL s) from Obj2.mono hobj HB1.out.size (Nat.le_refl _))); clear hobj; replace HBc := hide (HBc.out.trans (hbd.mono HBc.out.size)); replace HB1 := hide (HB1.out.trans (hbd.mono HB1.out.size)); replace HKc := hide (HKc.out.later hbd); replace HRc := hide (HRc.out.later hbd); clear hbd; have k0 := HKc.out.cell 0 _ rfl; have k1 := HKc.out.cell 1 _ rfl; have r0 := HRc.out.cell 0 _ rfl; have r1 := HRc.out.cell 1 _ rfl; have f0 := HRc.out.frozen 0; have f1 := HRc.out.frozen 1)) | (go_at_call 111; go_must (refine calls_gen fun wc hwc => ?_; (first | have hbx := drew_below hwc | have hbx := eq_below hwc); replace HBc := hide (HBc.out.trans (hbx.mono HBc.out.size)); replace HB1 := hide (HB1.out.trans (hbx.mono HB1.out.size)); replace HKc := hide (HKc.out.later hbx); replace HRc := hide (HRc.out.later hbx); replace HO4 := hide (HO4.out.later hbx); clear hwc hbx; refine (l01Turn_any _ n _ f _ HFL.out (by omega) HFR.out (HZ.out.fst.later HBc.out)).mono ?_; rintro e wd ⟨A5, c5, rfl, hbd, hobj⟩; have HO5 := hide ((show ObjIn 31 2 w0.heap.size wd A5 (turnL f) from Obj2.mono hobj HB1.out.size (Nat.le_refl _))); clear hobj; replace HBc := hide (HBc.out.trans (hbd.mono HBc.out.size)); replace HB1 := hide (HB1.out.trans (hbd.mono HB1.out.size)); replace HKc := hide (HKc.out.later hbd); replace HRc := hide (HRc.out.later hbd); replace HO4 := hide (HO4.out.later hbd); clear hbd; have k0 := HKc.out.cell 0 _ rfl; have k1 := HKc.out.cell 1 _ rfl; have r0 := HRc.out.cell 0 _ rfl; have r1 := HRc.out.cell 1 _ rfl; have f0 := HRc.out.frozen 0; have f1 := HRc.out.frozen 1)))
  all_goals
    clear k0 k1 r0 r1 f0 f1
    go_wp2_with fail
    refine bp_gen fun wf hwf => ?_
    obtain ⟨q0, q1, hbf, hof⟩ := wend hwf HRc.out (by omega) HSZ.out HBc.out HLO.out ⟨HO4.out, HO5.out⟩
    clear hwf
    exact bodyPost_ret (v := .agg #[.slice A4 n c4, .slice A5 n c5]) (by simp [results, Try.results80, go_sem, q0, q1]) rfl ⟨_, _, _, _, rfl, hbf, hof⟩
end Go.Proofs.Ytgahmfkmhaeniaa
namespace Go.Proofs.Ytgahmfkmhaeniaa
open Go Go.RowKit
set_option maxHeartbeats 2000000

set_option maxRecDepth 100000 in
theorem firstTriple_any (F : FuncId) (lb : Array Value) (n : Nat) (q : Nat → Nat → Nat → Bool) (T : Nat) (w : World) (eg : ∀ args w, (callFunc F args).run Try.prog w = .ok (.enter F args) w) (h1 : 1 ≤ n) (h12 : n ≤ 12) (hp : BoolFn3 Try.prog F lb n q w) (hT : FirstQ q n T) :
    Calls Try.prog 102 #[.int .i64 n, .func (.func F) #[] lb] w fun e w' => (T = n * n * n ∧ e = .returned (.slice none 0 0) ∧ Below w.heap.size w w') ∨ (T < n * n * n ∧ ∃ g, e = .returned (.slice (some ⟨g, 0, none⟩) 3 3) ∧ Below w.heap.size w w' ∧ w.heap.size ≤ g ∧ OwnB 2 w' g (lst3 (trip n T))) := by
  have HPF := hide hp
  have HT := hide hT
  obtain ⟨N, hN⟩ : ∃ N, n * n = N := ⟨_, rfl⟩
  have hN144 : N ≤ 144 := by rw [← hN]; exact sq_le n h12
  have HNN := hide hN
  clear hT hN hp
  go_enter Try.func102, Try.ntmps102
  go_wp2_with fail
  refine (pairsOf_any n N _ h1 h12 HNN.out).mono ?_
  rintro e w3 ⟨g, rfl, hb3, hg3, hpa⟩
  have HB3 := hide hb3
  have HPA3 := hide hpa
  clear hb3 hpa
  go_wp2_with fail
  go_loopw [11] (fun i wr => ∃ k : Nat, k ≤ N ∧ i = .int .i64 k ∧ Below w.heap.size w wr ∧ PairsAt wr g n ∧ ∀ i, i < k * n → qAt q n i = false) (fun i _ => N - (intOf i).toNat)
  case atStart => exact ⟨0, Nat.zero_le _, rfl, HB3.out, HPA3.out, fun i hi => absurd hi (by omega)⟩
  case round =>
    obtain ⟨k, hk, rfl, hbe, hpa, hall⟩ := hrel
    have HB := hide hbe
    have HPA := hide hpa
    have HALL := hide hall
    clear hbe hpa hall
    by_cases hlt : k < N
    · have hkz : (k : Int) < N := by omega
      obtain ⟨p0, p1⟩ := HPA.out.2 k (by rw [HNN.out]; exact hlt)
      have hxn : k / n < n := div_lt_sq (by rw [HNN.out]; exact hlt)
      have hyn : k % n < n := mod_lt_sq (by rw [HNN.out]; exact hlt)
      obtain ⟨x, hx⟩ : ∃ x, k / n = x := ⟨_, rfl⟩
      obtain ⟨y, hy⟩ : ∃ y, k % n = y := ⟨_, rfl⟩
      rw [hx] at p0 hxn
      rw [hy] at p1 hyn
      have HX := hide hx
      have HY := hide hy
      clear hx hy
      go_wp2_with fail
      refine wp_gen fun w4 hw4 => ?_
      obtain ⟨P, hPe⟩ : ∃ P, wr.heap.size = P := ⟨_, rfl⟩
      have HB4 : Hid (Below w.heap.size w w4) := hide (by rw [hw4]; exact HB.out.alloc HB.out.size _)
      have HP4 : Hid (Blk w4 P 104 [.int .i64 x, .int .i64 y]) := hide (by rw [hw4, ← hPe]; exact Blk.new _ _ _)
      have HA4 : Hid (PairsAt w4 g n) := hide (by rw [hw4]; exact HPA.out.later ((Below.refl _ _).alloc (Nat.le_refl _) _))
      rw [hPe]
      clear hw4 p0 p1 hPe
      go_loopw [16] (fun i wi => ∃ z : Nat, z ≤ n ∧ i = .int .i64 z ∧ Below w.heap.size w wi ∧ Blk wi P 104 [.int .i64 x, .int .i64 y] ∧ PairsAt wi g n ∧ ∀ i, i < k * n + z → qAt q n i = false) (fun i _ => n - (intOf i).toNat)
      case atStart => exact ⟨0, Nat.zero_le _, rfl, HB4.out, HP4.out, HA4.out, HALL.out⟩
      case round =>
        obtain ⟨z, hzn, rfl, hbe, hpp, hpa, hall⟩ := hrel
        have HBc := hide hbe
        have HPc := hide hpp
        have HAc := hide hpa
        have HALLI := hide hall
        clear hbe hpp hpa hall
        by_cases hltz : z < n
        · have hzz : (z : Int) < n := by omega
          have hklt : k * n + z < n * n * n := by
            have h := trip_lt (n := n) hxn hyn hltz
            rw [← HX.out, ← HY.out, pair_eta] at h
            exact h
          have hat : qAt q n (k * n + z) = q x y z := by
            have h := qAt_at (q := q) (n := n) (x := x) hyn hltz
            rw [← HX.out, ← HY.out, pair_eta] at h
            rw [← HX.out, ← HY.out]
            exact h
          have htr : trip n (k * n + z) = (x, y, z) := by
            have h := trip_of (n := n) (x := x) hyn hltz
            rw [← HX.out, ← HY.out, pair_eta, HX.out, HY.out] at h
            exact h
          have HTR := hide htr
          have HKL := hide hklt
          clear htr hklt
          obtain ⟨bq, hbq⟩ : ∃ b, q x y z = b := ⟨_, rfl⟩
          rw [hbq] at hat
          have HAT := hide hat
          have HBQ := hide hbq
          clear hat hbq
          have k0 := HPc.out.cell 0 _ rfl
          have k1 := HPc.out.cell 1 _ rfl
          cases bq with
          | false =>
            go_wp2_with (go_at_fn F; go_must (refine calls_gen fun wc hwc => ?_; (first | have hbx := drew_below hwc | have hbx := eq_below hwc); replace HBc := hide (HBc.out.trans (hbx.mono HBc.out.size)); replace HPc := hide (HPc.out.later hbx); replace HAc := hide (HAc.out.later hbx); clear hwc hbx; refine (HPF.out _ x y z hxn hyn hltz HBc.out).mono ?_; rw [HBQ.out]; rintro e wd ⟨rfl, hbd⟩; replace HBc := hide (HBc.out.trans (hbd.mono HBc.out.size)); replace HPc := hide (HPc.out.later hbd); replace HAc := hide (HAc.out.later hbd); clear hbd; have k0 := HPc.out.cell 0 _ rfl; have k1 := HPc.out.cell 1 _ rfl; clear k0 k1))
            clear k0 k1
            go_wp2_with fail
            go_roundw
            case rel => exact ⟨z + 1, by omega, by go_num, HBc.out, HPc.out, HAc.out, fun i hi => by
              by_cases e : i = k * n + z
              · rw [e]; exact HAT.out
              · exact HALLI.out i (by omega)⟩
            case measure => simp [intOf]; omega
          | true =>
            have HTB2 := hide (HT.out.bad HALLI.out HKL.out HAT.out)
            go_wp2_with (go_at_fn F; go_must (refine calls_gen fun wc hwc => ?_; (first | have hbx := drew_below hwc | have hbx := eq_below hwc); replace HBc := hide (HBc.out.trans (hbx.mono HBc.out.size)); replace HPc := hide (HPc.out.later hbx); replace HAc := hide (HAc.out.later hbx); clear hwc hbx; refine (HPF.out _ x y z hxn hyn hltz HBc.out).mono ?_; rw [HBQ.out]; rintro e wd ⟨rfl, hbd⟩; replace HBc := hide (HBc.out.trans (hbd.mono HBc.out.size)); replace HPc := hide (HPc.out.later hbd); replace HAc := hide (HAc.out.later hbd); clear hbd; have k0 := HPc.out.cell 0 _ rfl; have k1 := HPc.out.cell 1 _ rfl; have k2 := fun o => (HPc.out.alloc o).cell 0 _ rfl; have k3 := fun o => (HPc.out.alloc o).cell 1 _ rfl))
            clear k0 k1
            go_wp2_with fail
            refine bp_gen fun wf hwf => ?_
            have HBF : Below w.heap.size w wf := by rw [hwf]; exact HBc.out.alloc HBc.out.size _
            have HLF : Hid (Blk wf wd.heap.size 2 [.int .i64 x, .int .i64 y, .int .i64 z]) := hide (by rw [hwf]; exact Blk.new _ _ _)
            have hlo : w.heap.size ≤ wd.heap.size := HBc.out.size
            clear hwf
            go_ret
            exact .inr ⟨by rw [HTB2.out]; exact HKL.out, _, rfl, HBF, hlo, _, HLF.out, fun i hi => by
              rw [HTB2.out, HTR.out] at hi ⊢
              simp [lst3] at hi
              rcases i with _ | _ | _ | i
              · rfl
              · rfl
              · rfl
              · omega⟩
        · have hzn' : z = n := by omega
          subst hzn'
          go_wp2_with fail
          go_roundw
          case rel => exact ⟨k + 1, by omega, by go_num, HBc.out, HAc.out, fun i hi => HALLI.out i (by rw [Nat.add_mul, Nat.one_mul] at hi; exact hi)⟩
          case measure => simp [intOf]; omega
    · have hkn : k = N := by omega
      subst hkn
      go_wp2_with fail
      go_ret
      exact .inl ⟨HT.out.all (fun i hi => HALL.out i (by rw [HNN.out] at hi; exact hi)), rfl, HB.out⟩
end Go.Proofs.Ytgahmfkmhaeniaa
namespace Go.Proofs.Ytgahmfkmhaeniaa
open Go Go.RowKit
set_option maxHeartbeats 2000000

theorem dsize_any (A : Option Addr) (n c : Nat) (w : World) (_hn : n ≤ 1048576) :
    Calls Try.prog 67 #[.slice A n c] w fun e w' => e = .returned (.int .i64 n) ∧ Below w.heap.size w w' := by
  go_enter Try.func67, Try.ntmps67
  go_wp2_with fail
  go_ret
  exact ⟨rfl, Below.refl _ _⟩

theorem dot_any (A : Option Addr) (n c : Nat) (f : List (List Int)) (x y u : Nat) (w : World) (hn : f.length = n) (ht : Tbl f) (hr : Rd2 w A f) (hx : x < n) (hy : y < n) (hu : ap f x y = u) :
    Calls Try.prog 93 #[.slice A n c, .int .i64 x, .int .i64 y] w fun e w' => e = .returned (.int .i64 u) ∧ Below w.heap.size w w' := by
  have h12 : n ≤ 12 := by rw [← hn]; exact ht.2.1
  obtain ⟨b, o, rfl, hb, hc⟩ := ht.cells hr hn
  obtain ⟨bx, ox, cx, h1, h2, h3⟩ := hc x hx
  have h4 := h3 y hy
  rw [hu] at h4
  have hxz : (x : Int) < n := by omega
  have hyz : (y : Int) < n := by omega
  have hxz0 : (0 : Int) ≤ x := by omega
  have hyz0 : (0 : Int) ≤ y := by omega
  clear hc hu hr ht hn h3
  go_enter Try.func93, Try.ntmps93
  go_wp2_with fail
  go_ret
  exact ⟨rfl, Below.refl _ _⟩

set_option maxRecDepth 100000 in
theorem squares_any (A : Option Addr) (n c : Nat) (f : List (List Int)) (w : World) (hn : f.length = n) (ht : Tbl f) (hr : Rd2 w A f) :
    Calls Try.prog 63 #[.slice A n c] w fun e w' => ∃ g, e = .returned (.slice (some ⟨g, 0, none⟩) n n) ∧ Below w.heap.size w w' ∧ w.heap.size ≤ g ∧ OwnB 2 w' g (kinkL f) := by
  have h1 : 1 ≤ n := by rw [← hn]; exact ht.1
  have h12 : n ≤ 12 := by rw [← hn]; exact ht.2.1
  have HN := hide hn
  have HTB := hide ht
  have HR := hide hr
  have HZ : Hid ((kinkL f).length = n) := hide ((kinkL_length f).trans hn)
  have hmk := run_make_row' (P := Try.prog) 65 2 (.int .i64 0) 8 Try.underlying65 kqInfo rfl .i64 .i64 n (by omega) (by omega)
  clear hn ht hr
  go_enter Try.func63, Try.ntmps63
  go_wp2_with fail
  refine (dsize_any _ _ _ _ (by omega)).mono ?_
  rintro e w0 ⟨rfl, hb0⟩
  have HB0 := hide hb0
  clear hb0
  go_wp2_with fail
  clear hmk
  refine calls_gen fun w1 hw1 => ?_
  have HB1 : Hid (Below w.heap.size w w1) := hide (by rw [hw1]; exact HB0.out.alloc HB0.out.size _)
  obtain ⟨G, hG⟩ : ∃ G, w0.heap.size = G := ⟨_, rfl⟩
  have hgw : w.heap.size ≤ G := by have := HB0.out.size; omega
  have HROW1 : Hid (Row 2 w1 G (List.replicate n 0)) := hide (by rw [hw1, ← hG]; simpa using Row.made 2 w0 n)
  rw [hG]
  clear hw1 hG
  refine (dsize_any _ _ _ _ (by omega)).mono ?_
  rintro e w2 ⟨rfl, hb2⟩
  have HB2 := hide (HB1.out.trans (hb2.mono HB1.out.size))
  have HROW2 := hide (HROW1.out.own.later hb2 HROW1.out.own.lt)
  clear hb2
  go_wp2_with fail
  go_loopw [10] (fun i wr => ∃ k : Nat, k ≤ n ∧ i = .int .i64 k ∧ Below w.heap.size w wr ∧ OwnB 2 wr G ((kinkL f).take k ++ List.replicate (n - k) 0)) (fun i _ => n - (intOf i).toNat)
  case atStart => exact ⟨0, Nat.zero_le _, rfl, HB2.out, by simpa using HROW2.out⟩
  case round =>
    obtain ⟨k, hk, rfl, hbe, hrow⟩ := hrel
    have HBc := hide hbe
    have HOc := hide hrow
    clear hbe hrow
    by_cases hlt : k < n
    · have hltz : (k : Int) < n := by omega
      obtain ⟨u, hu⟩ : ∃ u, ap f k k = u := ⟨_, rfl⟩
      have HU := hide hu
      have hl : ((kinkL f).take k ++ List.replicate (n - k) 0).length = n := by have := HZ.out; simp; omega
      have HL := hide hl
      clear hu hl
      go_wp2_with fail
      refine (dot_any _ _ _ f k k u _ HN.out HTB.out (HR.out.later HBc.out) hlt hlt HU.out).mono ?_
      rintro e wd ⟨rfl, hbd⟩
      have HBd := hide (HBc.out.trans (hbd.mono HBc.out.size))
      have HOd := hide (HOc.out.later hbd HOc.out.lt)
      clear hbd
      have h2 := HOd.out.cell (i := k) (by have := HL.out; omega)
      have h3 := HOd.out.frozen k
      go_wp2_with fail
      go_roundw
      case rel =>
        have hst := HOd.out.set k (u : Int) (by have := HL.out; omega)
        have hg : (kinkL f).getD k 0 = (u : Int) := by rw [kinkL_getD f k (by have := HN.out; omega), HU.out]
        rw [← hg, kq_fill (kinkL f) n k HZ.out hlt, hg] at hst
        exact ⟨k + 1, by omega, by go_num, HBd.out.setCell (p := ⟨G, k, none⟩) hgw _, hst⟩
      case measure => simp [intOf]; omega
    · have hkn : k = n := by omega
      subst hkn
      go_wp2_with fail
      go_ret
      have h := HOc.out
      have hz := HZ.out
      rw [Nat.sub_self, List.replicate_zero, List.append_nil, List.take_of_length_le (by omega)] at h
      exact ⟨_, rfl, HBc.out, hgw, h⟩
end Go.Proofs.Ytgahmfkmhaeniaa
namespace Go.Proofs.Ytgahmfkmhaeniaa
open Go Go.RowKit
set_option maxHeartbeats 2000000

set_option maxRecDepth 100000 in
theorem dfC_any (A : Option Addr) (n c : Nat) (f : List (List Int)) (b : Nat) (w : World) (hn : f.length = n) (ht : Tbl f) (hr : Rd2 w A f) (hk : Blk w b 59 [.slice A n c]) :
    BoolFn3 Try.prog 103 #[.pointer (some ⟨b, 0, none⟩)] n (cyq f) w := by
  intro W x y z hx hy hz hb
  have HR := hide (hr.later hb)
  have HKc := hide (hk.later hb)
  have HBc := hide (Below.refl W.heap.size W)
  have HN := hide hn
  have HTB := hide ht
  show Calls Try.prog 103 #[.int .i64 x, .int .i64 y, .int .i64 z, .pointer (some ⟨b, 0, none⟩)] W _
  clear hn ht hr hk hb
  have hq1 := HTB.out.ap_lt HN.out hx hy
  have hq3 := HTB.out.ap_lt HN.out hy hx
  have hq2 := HTB.out.ap_lt HN.out hx hz
  have hq4 := HTB.out.ap_lt HN.out hy hz
  obtain ⟨bq, hat⟩ : ∃ bq, cyq f x y z = bq := ⟨_, rfl⟩
  rw [hat]
  unfold cyq at hat
  obtain ⟨q1, h_1⟩ : ∃ u, ap f x y = u := ⟨_, rfl⟩
  obtain ⟨q2, h_2⟩ : ∃ u, ap f x z = u := ⟨_, rfl⟩
  obtain ⟨q3, h_3⟩ : ∃ u, ap f y x = u := ⟨_, rfl⟩
  obtain ⟨q4, h_4⟩ : ∃ u, ap f y z = u := ⟨_, rfl⟩
  rw [h_1, h_2, h_3, h_4] at hat
  rw [h_1] at hq1
  rw [h_2] at hq2
  rw [h_3] at hq3
  rw [h_4] at hq4
  obtain ⟨q5, h_5⟩ : ∃ u, ap f q1 q2 = u := ⟨_, rfl⟩
  obtain ⟨q6, h_6⟩ : ∃ u, ap f q3 q4 = u := ⟨_, rfl⟩
  rw [h_5, h_6] at hat
  have HAT : Hid ((!decide (q5 = q6)) = bq) := hide hat
  have U1 := hide h_1
  have U2 := hide h_2
  have U3 := hide h_3
  have U4 := hide h_4
  have U5 := hide h_5
  have U6 := hide h_6
  clear h_1 h_2 h_3 h_4 h_5 h_6 hat
  have k0 := HKc.out.cell 0 _ rfl
  have tok0 : True := trivial
  have tok1 : True := trivial
  have tok2 : True := trivial
  have tok3 : True := trivial
  have tok4 : True := trivial
  go_enter Try.func103, Try.ntmps103
  by_cases hcs : q5 = q6
  · have hbq : bq = false := by rw [← HAT.out, hcs]; simp
    subst hcs
    subst hbq
    go_wp2_with fail
    go_region_held3 (fun w' => w'.cell? ⟨b, 0, none⟩ = some (.slice A n c)) (first | exact k0 | go_keep) (first | (go_at_call 93; have _t := tok0; clear _t tok0; go_must (refine calls_gen fun wc hwc => ?_; (first | have hbx := drew_below hwc | have hbx := eq_below hwc); replace HBc := hide (HBc.out.trans (hbx.mono HBc.out.size)); replace HKc := hide (HKc.out.later hbx); clear hwc hbx; refine (dot_any _ _ _ f x y q1 _ HN.out HTB.out (HR.out.later HBc.out) hx hy U1.out).mono ?_; rintro e wd ⟨rfl, hbd⟩; replace HBc := hide (HBc.out.trans (hbd.mono HBc.out.size)); replace HKc := hide (HKc.out.later hbd); clear hbd; have k0 := HKc.out.cell 0 _ rfl)) | (go_at_call 93; have _t := tok1; clear _t tok1; go_must (refine calls_gen fun wc hwc => ?_; (first | have hbx := drew_below hwc | have hbx := eq_below hwc); replace HBc := hide (HBc.out.trans (hbx.mono HBc.out.size)); replace HKc := hide (HKc.out.later hbx); clear hwc hbx; refine (dot_any _ _ _ f x z q2 _ HN.out HTB.out (HR.out.later HBc.out) hx hz U2.out).mono ?_; rintro e wd ⟨rfl, hbd⟩; replace HBc := hide (HBc.out.trans (hbd.mono HBc.out.size)); replace HKc := hide (HKc.out.later hbd); clear hbd; have k0 := HKc.out.cell 0 _ rfl)) | (go_at_call 93; have _t := tok2; clear _t tok2; go_must (refine calls_gen fun wc hwc => ?_; (first | have hbx := drew_below hwc | have hbx := eq_below hwc); replace HBc := hide (HBc.out.trans (hbx.mono HBc.out.size)); replace HKc := hide (HKc.out.later hbx); clear hwc hbx; refine (dot_any _ _ _ f q1 q2 q5 _ HN.out HTB.out (HR.out.later HBc.out) hq1 hq2 U5.out).mono ?_; rintro e wd ⟨rfl, hbd⟩; replace HBc := hide (HBc.out.trans (hbd.mono HBc.out.size)); replace HKc := hide (HKc.out.later hbd); clear hbd; have k0 := HKc.out.cell 0 _ rfl)) | (go_at_call 93; have _t := tok3; clear _t tok3; go_must (refine calls_gen fun wc hwc => ?_; (first | have hbx := drew_below hwc | have hbx := eq_below hwc); replace HBc := hide (HBc.out.trans (hbx.mono HBc.out.size)); replace HKc := hide (HKc.out.later hbx); clear hwc hbx; refine (dot_any _ _ _ f y x q3 _ HN.out HTB.out (HR.out.later HBc.out) hy hx U3.out).mono ?_; rintro e wd ⟨rfl, hbd⟩; replace HBc := hide (HBc.out.trans (hbd.mono HBc.out.size)); replace HKc := hide (HKc.out.later hbd); clear hbd; have k0 := HKc.out.cell 0 _ rfl)) | (go_at_call 93; have _t := tok4; clear _t tok4; go_must (refine calls_gen fun wc hwc => ?_; (first | have hbx := drew_below hwc | have hbx := eq_below hwc); replace HBc := hide (HBc.out.trans (hbx.mono HBc.out.size)); replace HKc := hide (HKc.out.later hbx); clear hwc hbx; refine (dot_any _ _ _ f y z q4 _ HN.out HTB.out (HR.out.later HBc.out) hy hz U4.out).mono ?_; rintro e wd ⟨rfl, hbd⟩; replace HBc := hide (HBc.out.trans (hbd.mono HBc.out.size)); replace HKc := hide (HKc.out.later hbd); clear hbd; have k0 := HKc.out.cell 0 _ rfl)) | (go_at_call 93; go_must (refine calls_gen fun wc hwc => ?_; (first | have hbx := drew_below hwc | have hbx := eq_below hwc); replace HBc := hide (HBc.out.trans (hbx.mono HBc.out.size)); replace HKc := hide (HKc.out.later hbx); clear hwc hbx; refine (dot_any _ _ _ f q3 q4 q5 _ HN.out HTB.out (HR.out.later HBc.out) hq3 hq4 U6.out).mono ?_; rintro e wd ⟨rfl, hbd⟩; replace HBc := hide (HBc.out.trans (hbd.mono HBc.out.size)); replace HKc := hide (HKc.out.later hbd); clear hbd; have k0 := HKc.out.cell 0 _ rfl)))
    go_wp2_with fail
    go_ret
    exact ⟨rfl, HBc.out⟩
  · have hbq : bq = true := by rw [← HAT.out]; simp [hcs]
    have hcz : ((q5 : Int) != (q6 : Int)) = true := by rw [bne_iff_ne]; omega
    subst hbq
    go_wp2_with fail
    go_region_held3 (fun w' => w'.cell? ⟨b, 0, none⟩ = some (.slice A n c)) (first | exact k0 | go_keep) (first | (go_at_call 93; have _t := tok0; clear _t tok0; go_must (refine calls_gen fun wc hwc => ?_; (first | have hbx := drew_below hwc | have hbx := eq_below hwc); replace HBc := hide (HBc.out.trans (hbx.mono HBc.out.size)); replace HKc := hide (HKc.out.later hbx); clear hwc hbx; refine (dot_any _ _ _ f x y q1 _ HN.out HTB.out (HR.out.later HBc.out) hx hy U1.out).mono ?_; rintro e wd ⟨rfl, hbd⟩; replace HBc := hide (HBc.out.trans (hbd.mono HBc.out.size)); replace HKc := hide (HKc.out.later hbd); clear hbd; have k0 := HKc.out.cell 0 _ rfl)) | (go_at_call 93; have _t := tok1; clear _t tok1; go_must (refine calls_gen fun wc hwc => ?_; (first | have hbx := drew_below hwc | have hbx := eq_below hwc); replace HBc := hide (HBc.out.trans (hbx.mono HBc.out.size)); replace HKc := hide (HKc.out.later hbx); clear hwc hbx; refine (dot_any _ _ _ f x z q2 _ HN.out HTB.out (HR.out.later HBc.out) hx hz U2.out).mono ?_; rintro e wd ⟨rfl, hbd⟩; replace HBc := hide (HBc.out.trans (hbd.mono HBc.out.size)); replace HKc := hide (HKc.out.later hbd); clear hbd; have k0 := HKc.out.cell 0 _ rfl)) | (go_at_call 93; have _t := tok2; clear _t tok2; go_must (refine calls_gen fun wc hwc => ?_; (first | have hbx := drew_below hwc | have hbx := eq_below hwc); replace HBc := hide (HBc.out.trans (hbx.mono HBc.out.size)); replace HKc := hide (HKc.out.later hbx); clear hwc hbx; refine (dot_any _ _ _ f q1 q2 q5 _ HN.out HTB.out (HR.out.later HBc.out) hq1 hq2 U5.out).mono ?_; rintro e wd ⟨rfl, hbd⟩; replace HBc := hide (HBc.out.trans (hbd.mono HBc.out.size)); replace HKc := hide (HKc.out.later hbd); clear hbd; have k0 := HKc.out.cell 0 _ rfl)) | (go_at_call 93; have _t := tok3; clear _t tok3; go_must (refine calls_gen fun wc hwc => ?_; (first | have hbx := drew_below hwc | have hbx := eq_below hwc); replace HBc := hide (HBc.out.trans (hbx.mono HBc.out.size)); replace HKc := hide (HKc.out.later hbx); clear hwc hbx; refine (dot_any _ _ _ f y x q3 _ HN.out HTB.out (HR.out.later HBc.out) hy hx U3.out).mono ?_; rintro e wd ⟨rfl, hbd⟩; replace HBc := hide (HBc.out.trans (hbd.mono HBc.out.size)); replace HKc := hide (HKc.out.later hbd); clear hbd; have k0 := HKc.out.cell 0 _ rfl)) | (go_at_call 93; have _t := tok4; clear _t tok4; go_must (refine calls_gen fun wc hwc => ?_; (first | have hbx := drew_below hwc | have hbx := eq_below hwc); replace HBc := hide (HBc.out.trans (hbx.mono HBc.out.size)); replace HKc := hide (HKc.out.later hbx); clear hwc hbx; refine (dot_any _ _ _ f y z q4 _ HN.out HTB.out (HR.out.later HBc.out) hy hz U4.out).mono ?_; rintro e wd ⟨rfl, hbd⟩; replace HBc := hide (HBc.out.trans (hbd.mono HBc.out.size)); replace HKc := hide (HKc.out.later hbd); clear hbd; have k0 := HKc.out.cell 0 _ rfl)) | (go_at_call 93; go_must (refine calls_gen fun wc hwc => ?_; (first | have hbx := drew_below hwc | have hbx := eq_below hwc); replace HBc := hide (HBc.out.trans (hbx.mono HBc.out.size)); replace HKc := hide (HKc.out.later hbx); clear hwc hbx; refine (dot_any _ _ _ f q3 q4 q6 _ HN.out HTB.out (HR.out.later HBc.out) hq3 hq4 U6.out).mono ?_; rintro e wd ⟨rfl, hbd⟩; replace HBc := hide (HBc.out.trans (hbd.mono HBc.out.size)); replace HKc := hide (HKc.out.later hbd); clear hbd; have k0 := HKc.out.cell 0 _ rfl)))
    go_wp2_with fail
    go_ret
    exact ⟨rfl, HBc.out⟩

set_option maxRecDepth 100000 in
theorem dfault_any (A : Option Addr) (n c : Nat) (f : List (List Int)) (T : Nat) (w : World) (hn : f.length = n) (ht : Tbl f) (hr : Rd2 w A f) (hT : FirstQ (cyq f) n T) :
    Calls Try.prog 60 #[.slice A n c] w fun e w' => (T = n * n * n ∧ e = .returned (.slice none 0 0) ∧ Below w.heap.size w w') ∨ (T < n * n * n ∧ ∃ g, e = .returned (.slice (some ⟨g, 0, none⟩) 3 3) ∧ Below w.heap.size w w' ∧ w.heap.size ≤ g ∧ OwnB 2 w' g (lst3 (trip n T))) := by
  have h1 : 1 ≤ n := by rw [← hn]; exact ht.1
  have h12 : n ≤ 12 := by rw [← hn]; exact ht.2.1
  have HN := hide hn
  have HTB := hide ht
  have HR := hide hr
  have HT := hide hT
  have HB0 := hide ((Below.refl _ w).alloc (Nat.le_refl _) (Obj.cells #[Value.slice A n c] 59))
  have HK0 := hide (Blk.new w 59 [.slice A n c])
  clear hn ht hr hT
  go_enter Try.func60, Try.ntmps60
  go_wp2_with fail
  refine (dsize_any _ _ _ _ (by omega)).mono ?_
  rintro e w2 ⟨rfl, hb2⟩
  have HB2 := hide (HB0.out.trans (hb2.mono HB0.out.size))
  have HK2 := hide (HK0.out.later hb2)
  clear hb2
  go_wp2_with fail
  refine (firstTriple_any 103 _ n (cyq f) T _ (fun _ _ => rfl) h1 h12 (dfC_any A n c f w.heap.size _ HN.out HTB.out (HR.out.later HB2.out) HK2.out) HT.out).mono ?_
  rintro e w3 (⟨hTe, rfl, hb3⟩ | ⟨hTl, g, rfl, hb3, hg, hob⟩)
  · have HB3 := hide (HB2.out.trans (hb3.mono HB2.out.size))
    clear hb3
    go_wp2_with fail
    go_ret
    exact .inl ⟨hTe, rfl, HB3.out⟩
  · have HB3 := hide (HB2.out.trans (hb3.mono HB2.out.size))
    have HO3 := hide hob
    have hlo : w.heap.size ≤ g := by have := HB2.out.size; omega
    clear hb3 hob
    go_wp2_with fail
    go_ret
    exact .inr ⟨hTl, _, rfl, HB3.out, hlo, HO3.out⟩

set_option maxRecDepth 100000 in
theorem isCycD (A : Option Addr) (n c : Nat) (f : List (List Int)) (r : Bool) (w : World) (hn : f.length = n) (hb : n ≤ 1048576) (hbs : ∀ i, i < f.length → (f.getD i []).length ≤ 1048576) (hr : Rd2 w A f) (hres : CyRes f r) :
    Calls Try.prog 55 #[.slice A n c] w fun e w' => e = .returned (.bool r) ∧ Below w.heap.size w w' := by
  have HN := hide hn
  have HBS := hide hbs
  have HRD := hide hr
  have HR := hide hres
  have HB0 := hide (Below.refl w.heap.size w)
  have hnil : ∀ (u : World) (a : Option Addr) (n c : Nat), (binOp .eql 31 (.slice a n c) (.slice none 0 0)).run Try.prog u = .ok (.bool a.isNone) u := fun u a n c => Lib.run_eql_slice_nil u 31 _ a n c 0 0 Try.underlying31
  have hno : ¬ Cyc f → r = false := fun h => by
    cases r
    · rfl
    · exact absurd (hres.1 rfl) h
  have HNO := hide hno
  have hyes : Cyc f → r = true := fun h => hres.2 h
  have HYES := hide hyes
  clear hno hyes hn hbs hr hres
  by_cases ht : Tbl f
  · have HTB := hide ht
    clear ht
    have h12 : n ≤ 12 := by rw [← HN.out]; exact HTB.out.2.1
    go_enter Try.func55, Try.ntmps55
    go_wp2_with fail
    refine (isTable_any _ _ _ f true _ HN.out (by omega) (fun i hi => by have := HBS.out i hi; omega) (HRD.out.later HB0.out) (by simp [HTB.out])).mono ?_
    rintro e w1 ⟨rfl, hq1⟩
    have HB1 := hide (HB0.out.trans (hq1.below _))
    clear hq1
    by_cases hp : AllPrm f
    · have HP := hide hp
      clear hp
      go_wp2_with fail
      refine (rowsI_any _ _ _ f true _ HN.out hb HBS.out (HRD.out.later HB1.out) ⟨fun _ => HP.out, fun _ => rfl⟩).mono ?_
      rintro e w2 ⟨rfl, hb2⟩
      have HB2 := hide (HB1.out.trans (hb2.mono HB1.out.size))
      clear hb2
      go_wp2_with fail
      refine (squares_any _ _ _ f _ HN.out HTB.out (HRD.out.later HB2.out)).mono ?_
      rintro e w3 ⟨g3, rfl, hb3, hg3, hres3⟩
      have HB3 := hide (HB2.out.trans (hb3.mono HB2.out.size))
      have HS3 := hide hres3.rd
      clear hb3 hres3
      by_cases hs : Prm (kinkL f)
      · have HS := hide hs
        clear hs
        go_wp2_with fail
        refine (valid_any _ _ _ (kinkL f) true _ ((kinkL_length f).trans HN.out) (by omega) HS3.out (by simp [HS.out])).mono ?_
        rintro e w4 ⟨rfl, hb4⟩
        have HB4 := hide (HB3.out.trans (hb4.mono HB3.out.size))
        clear hb4
        go_wp2_with fail
        obtain ⟨T, hT⟩ := FirstQ.ex (cyq f) n
        have HT := hide hT
        clear hT
        refine (dfault_any _ _ _ f T _ HN.out HTB.out (HRD.out.later HB4.out) HT.out).mono ?_
        rintro e w5 (⟨hTe, rfl, hb5⟩ | ⟨hTl, g, rfl, hb5, hg, hob⟩)
        · have hrt : r = true := HYES.out ⟨⟨HTB.out, HP.out⟩, HS.out, by rw [HN.out]; exact HT.out.iff.1 hTe⟩
          subst hrt
          have HB5 := hide (HB4.out.trans (hb5.mono HB4.out.size))
          clear hb5 hTe
          go_wp2_with fail
          go_ret
          exact ⟨rfl, HB5.out⟩
        · have hrf : r = false := HNO.out fun h => by
            have h := h.2.2
            rw [HN.out] at h
            have := HT.out.iff.2 h
            omega
          subst hrf
          have HB5 := hide (HB4.out.trans (hb5.mono HB4.out.size))
          clear hb5 hTl hob
          go_wp2_with fail
          go_ret
          exact ⟨rfl, HB5.out⟩
      · have HS := hide hs
        clear hs
        go_wp2_with fail
        refine (valid_any _ _ _ (kinkL f) false _ ((kinkL_length f).trans HN.out) (by omega) HS3.out (by simp [HS.out])).mono ?_
        rintro e w4 ⟨rfl, hb4⟩
        have HB4 := hide (HB3.out.trans (hb4.mono HB3.out.size))
        clear hb4
        have hrf : r = false := HNO.out fun h => HS.out h.2.1
        subst hrf
        go_wp2_with fail
        go_ret
        exact ⟨rfl, HB4.out⟩
    · have HP := hide hp
      clear hp
      go_wp2_with fail
      refine (rowsI_any _ _ _ f false _ HN.out hb HBS.out (HRD.out.later HB1.out) ⟨fun h => (by cases h), fun h => absurd h HP.out⟩).mono ?_
      rintro e w2 ⟨rfl, hb2⟩
      have HB2 := hide (HB1.out.trans (hb2.mono HB1.out.size))
      clear hb2
      have hrf : r = false := HNO.out fun h => HP.out h.prm
      subst hrf
      go_wp2_with fail
      go_ret
      exact ⟨rfl, HB2.out⟩
  · have HTB := hide ht
    clear ht
    have hrf : r = false := HNO.out fun h => HTB.out h.tbl
    subst hrf
    go_enter Try.func55, Try.ntmps55
    go_wp2_with fail
    refine (isTable_any _ _ _ f false _ HN.out (by omega) (fun i hi => by have := HBS.out i hi; omega) (HRD.out.later HB0.out) (by simp [HTB.out])).mono ?_
    rintro e w1 ⟨rfl, hq1⟩
    have HB1 := hide (HB0.out.trans (hq1.below _))
    clear hq1
    go_wp2_with fail
    go_ret
    exact ⟨rfl, HB1.out⟩
end Go.Proofs.Ytgahmfkmhaeniaa
namespace Go.Proofs.Ytgahmfkmhaeniaa
open Go Go.RowKit

/-- A slice of n slices in block g of which the first k are laid: the rows h 0, h 1, .. in blocks of their own behind it. -/
structure Fil (ts t : TypeId) (n k : Nat) (h : Nat → List Int) (lo g : Nat) (w : World) : Prop where
  low : lo ≤ g
  all : ∃ (cur : Array Value) (R : Nat → Option Addr) (C : Nat → Nat), w.heap[g]? = some (.cells cur ts (0, 0)) ∧ cur.size = n ∧ (∀ i, i < k → cur[i]? = some (.slice (R i) (h i).length (C i))) ∧ (∀ i, i < k → Obj1 t (g + 1) w.heap.size w (R i) (h i)) ∧
    (∀ i j, i < k → j < k → i ≠ j → ∀ a b, R i = some a → R j = some b → a.block ≠ b.block)

section
variable {ts t : TypeId} {n k : Nat} {h : Nat → List Int} {lo g : Nat} {w w' : World}
theorem Fil.lt (f : Fil ts t n k h lo g w) : g < w.heap.size := by
  obtain ⟨_, cur, R, C, h1, _⟩ := f
  exact (Array.getElem?_eq_some_iff.1 h1).1
theorem Fil.start (w : World) (hlo : lo ≤ w.heap.size) : Fil ts t n 0 h lo w.heap.size (w.alloc (.cells (madeCells #[.slice none 0 0] n) ts)) :=
  ⟨hlo, _, fun _ => none, fun _ => 0, heap_alloc_new _ _, by simp [madeCells], fun i hi => absurd hi (Nat.not_lt_zero _), fun i hi => absurd hi (Nat.not_lt_zero _), fun i j hi => absurd hi (Nat.not_lt_zero _)⟩
theorem Fil.later (f : Fil ts t n k h lo g w) (hb : Below w.heap.size w w') : Fil ts t n k h lo g w' := by
  have hl := f.lt
  obtain ⟨h0, cur, R, C, h1, h2, h3, h4, h5⟩ := f
  exact ⟨h0, cur, R, C, (hb.block g hl).trans h1, h2, h3, fun i hi => ((h4 i hi).later hb).mono (Nat.le_refl _) hb.size, h5⟩
theorem Fil.at (f : Fil ts t n k h lo g w) (i : Nat) (hi : i < n) : (∃ v, w.cell? ⟨g, i, none⟩ = some v) ∧ w.frozen? ⟨g, i, none⟩ = false := by
  obtain ⟨_, cur, R, C, h1, h2, _⟩ := f
  refine ⟨?_, by simp [World.frozen?, h1]⟩
  rw [cell_of_row w g i cur ts (0, 0) h1]
  exact ⟨cur[i]'(by omega), by simp [h2, hi]⟩
theorem Fil.push {A : Option Addr} {c : Nat} (f : Fil ts t n k h lo g w) (hb : Below w.heap.size w w') (hA : Res t w.heap.size w' A (h k)) (hk : k < n) :
    Fil ts t n (k + 1) h lo g (w'.setCell ⟨g, k, none⟩ (.slice A (h k).length c)) := by
  have hl := f.lt
  have f' := f.later hb
  obtain ⟨h0, cur, R, C, h1, h2, h3, h4, h5⟩ := f
  have hg' : w'.heap[g]? = some (.cells cur ts (0, 0)) := (hb.block g hl).trans h1
  have hold : ∀ i, i < k → Obj1 t (g + 1) w.heap.size w' (R i) (h i) := fun i hi => (h4 i hi).later hb
  have hnew : Obj1 t w.heap.size w'.heap.size w' A (h k) := hA.obj
  refine ⟨h0, cur.set! k (.slice A (h k).length c), fun i => if i = k then A else R i, fun i => if i = k then c else C i, ?_, by simp [h2], ?_, ?_, ?_⟩
  · simp [World.setCell, Array.getElem?_modify, hg']
  · intro i hi
    by_cases e : i = k
    · subst e
      simp [h2, hk]
    · simp only [if_neg e]
      rw [Array.set!_eq_setIfInBounds, Array.getElem?_setIfInBounds_ne (fun e2 => e e2.symm)]
      exact h3 i (by omega)
  · intro i hi
    have hs : (w'.setCell ⟨g, k, none⟩ (.slice A (h k).length c)).heap.size = w'.heap.size := by simp [World.setCell]
    rw [hs]
    by_cases e : i = k
    · subst e
      simp only [if_pos]
      exact (hnew.mono (lo' := g + 1) (by omega) (Nat.le_refl _)).set (.inl (Nat.lt_succ_self _)) _
    · simp only [if_neg e]
      exact ((hold i (by omega)).mono (Nat.le_refl _) hb.size).set (.inl (Nat.lt_succ_self _)) _
  · intro i j hi hj hne a b ha hb'
    by_cases e1 : i = k
    · have e2 : j ≠ k := fun e2 => hne (e1.trans e2.symm)
      simp only [if_pos e1, if_neg e2] at ha hb'
      have p := hnew.bounds a ha
      have q := (h4 j (by omega)).bounds b hb'
      omega
    · simp only [if_neg e1] at ha
      by_cases e2 : j = k
      · simp only [if_pos e2] at hb'
        have p := hnew.bounds b hb'
        have q := (h4 i (by omega)).bounds a ha
        omega
      · simp only [if_neg e2] at hb'
        exact h5 i j (by omega) (by omega) hne a b ha hb'
theorem Fil.done (f : Fil ts t n n h lo g w) : Obj2 ts t lo w.heap.size w (some ⟨g, 0, none⟩) ((List.range n).map h) := by
  have hl := f.lt
  obtain ⟨h0, cur, R, C, h1, h2, h3, h4, h5⟩ := f
  have hg : ∀ i, i < n → ((List.range n).map h).getD i [] = h i := fun i hi => by simp [hi]
  refine .inr ⟨g, R, C, rfl, h0, hl, ⟨cur, h1, fun i hi => ?_⟩, fun i hi => ?_, fun i j hi hj => ?_⟩
  · simp only [List.length_map, List.length_range] at hi
    rw [hg i hi]
    exact h3 i hi
  · simp only [List.length_map, List.length_range] at hi
    rw [hg i hi]
    exact (h4 i hi).mono (by omega) (Nat.le_refl _)
  · simp only [List.length_map, List.length_range] at hi hj
    exact h5 i j hi hj
end

theorem rd_rows {w : World} {A : Option Addr} {f : List (List Int)} {n : Nat} (ht : Tbl f) (hr : Rd2 w A f) (hn : f.length = n) : ∃ b o, A = some ⟨b, o, none⟩ ∧ b < w.heap.size ∧ ∀ x, x < n → ∃ B c, w.cell? ⟨b, o + x, none⟩ = some (.slice B n c) ∧ Rd w B (f.getD x []) := by
  have h1 := ht.1
  obtain ⟨b, o, rfl, hb, hc⟩ := hr (by omega)
  refine ⟨b, o, rfl, hb, fun x hx => ?_⟩
  obtain ⟨B, c, h2, h3⟩ := hc x (by omega)
  rw [ht.rows x (by omega), hn] at h2
  exact ⟨B, c, h2, h3⟩

/-- What is asked of the function value: of each row, in each later world, it makes the row h x in memory of its own. -/
def RowFn (P : Program) (t : TypeId) (F : FuncId) (post : Array Value) (w : World) (n : Nat) (f : List (List Int)) (h : Nat → List Int) : Prop :=
  ∀ (W : World) (x : Nat) (B : Option Addr) (d : Nat), x < n → Below w.heap.size w W → Rd W B (f.getD x []) → Calls P F (#[.slice B n d] ++ post) W fun e w' => ∃ A' c', e = .returned (.slice A' (h x).length c') ∧ Below W.heap.size W w' ∧ Res t W.heap.size w' A' (h x)
end Go.Proofs.Ytgahmfkmhaeniaa
namespace Go.Proofs.Ytgahmfkmhaeniaa
open Go Go.RowKit

section
variable {ts t tz : TypeId} {B : Nat} {w w' w1 : World} {v v' : Value} {rows : List (List Int)} {vals : List Value}

theorem own_type {n : Nat} {xs : List Value} (h : w.ownsRow B ts 1 v n xs) {g : Nat} (hg : v.ownBlock = some g) : g < w.heap.size ∧ B ≤ g ∧ ∃ cur : Array Value, w.heap[g]? = some (.cells cur ts (0, 0)) := by
  rcases h.2 with ⟨hv, _⟩ | ⟨g', cap, cur, hv, h1, hh, _⟩
  · rw [hv] at hg; cases hg
  · rw [hv] at hg
    have e : g' = g := by simpa [Value.ownBlock] using hg
    subst e
    exact ⟨(Array.getElem?_eq_some_iff.1 hh).1, h1, cur, hh⟩

theorem own_form {n : Nat} {xs : List Value} (h : w.ownsRow B ts 1 v (n + 1) xs) : ∃ g cap, v = .slice (some ⟨g, 0, none⟩) (n + 1) cap := by
  rcases h.2 with ⟨_, h0⟩ | ⟨g, cap, cur, hv, _⟩
  · omega
  · exact ⟨g, cap, hv⟩

theorem LstV.beside {o : Option Nat} (h : LstV ts t B w v rows vals) (hg : w.grownBy w' o) (hv : v.ownBlock = none ∨ v.ownBlock ≠ o) (hk : KeepT t w w') : LstV ts t B w' v rows vals :=
  ⟨h.own.kept hg hv, fun i hi => by
    obtain ⟨A, c, h1, h2⟩ := h.row i hi
    exact ⟨A, c, h1, (hk.obj h2).mono (Nat.le_refl _) hg.size⟩, h.ne⟩

/-- Two lists of rows that the call builds by append, in the box ob. -/
structure Two (ts t tz : TypeId) (B : Nat) (w : World) (ob : Nat) (v1 v2 : Value) (rows1 rows2 : List (List Int)) (vals1 vals2 : List Value) : Prop where
  box : Blk w ob tz [v1, v2]
  low : ob < B
  bsz : B ≤ w.heap.size
  l1 : LstV ts t B w v1 rows1 vals1
  l2 : LstV ts t B w v2 rows2 vals2
  ne : ∀ g, v1.ownBlock = some g → v2.ownBlock ≠ some g

variable {ob : Nat} {v1 v2 : Value} {rows1 rows2 : List (List Int)} {vals1 vals2 : List Value}

theorem Two.later (h : Two ts t tz B w ob v1 v2 rows1 rows2 vals1 vals2) (hb : Below w.heap.size w w') : Two ts t tz B w' ob v1 v2 rows1 rows2 vals1 vals2 :=
  ⟨h.box.later hb, h.low, Nat.le_trans h.bsz hb.size, h.l1.later hb, h.l2.later hb, h.ne⟩

theorem store_low (h : LstV ts t B w v rows vals) (hl : ob < B) (i : Nat) (u : Value) : LstV ts t B (w.setCell ⟨ob, i, none⟩ u) v rows vals :=
  h.of_blocks (fun k hk _ => Below.heap_setCell w ⟨ob, i, none⟩ u k (by show k ≠ ob; omega)) (by simp [World.setCell])

theorem Two.kept1 {tmp : Obj} (h : Two ts t tz B w ob v1 v2 rows1 rows2 vals1 vals2) (hg : (w.alloc tmp).grownBy w1 v1.ownBlock) : Blk w1 ob tz [v1, v2] :=
  (hg.block ob (by have := h.box.lt; simp; omega) (fun e => by
    have := (own_type h.l1.own e.symm).2.1
    have := h.low
    omega)).trans (h.box.later ((Below.refl _ _).alloc (Nat.le_refl _) _))
theorem Two.kept2 {tmp : Obj} (h : Two ts t tz B w ob v1 v2 rows1 rows2 vals1 vals2) (hg : (w.alloc tmp).grownBy w1 v2.ownBlock) : Blk w1 ob tz [v1, v2] :=
  (hg.block ob (by have := h.box.lt; simp; omega) (fun e => by
    have := (own_type h.l2.own e.symm).2.1
    have := h.low
    omega)).trans (h.box.later ((Below.refl _ _).alloc (Nat.le_refl _) _))

/-- A row is appended to the first list. -/
theorem Two.push1 {A : Option Addr} {c : Nat} {r : List Int} {tmp : Obj} (hne : ts ≠ t) (h : Two ts t tz B w ob v1 v2 rows1 rows2 vals1 vals2) (hA : Obj1 t B w.heap.size w A r)
    (hdis : ∀ (i : Nat) (u : Value) (g : Nat), vals1[i]? = some u → u.ownBlock = some g → ∀ a, A = some a → a.block ≠ g)
    (hown : w1.ownsRow B ts 1 v' (rows1.length + 1) (vals1 ++ [.slice A r.length c])) (hg : (w.alloc tmp).grownBy w1 v1.ownBlock) (hat : v'.ownBlock = v1.ownBlock ∨ v'.ownBlock = some (w.alloc tmp).heap.size) :
    Two ts t tz B (w1.setCell ⟨ob, 0, none⟩ v') ob v' v2 (rows1 ++ [r]) rows2 (vals1 ++ [.slice A r.length c]) vals2 := by
  have hal : Below w.heap.size w (w.alloc tmp) := (Below.refl _ _).alloc (Nat.le_refl _) _
  have hobw : ob < w.heap.size := h.box.lt
  have hob1 : some ob ≠ v1.ownBlock := fun e => by
    have := (own_type h.l1.own e.symm).2.1
    have := h.low
    omega
  have hv2 : v2.ownBlock = none ∨ v2.ownBlock ≠ v1.ownBlock := by
    cases e : v2.ownBlock with
    | none => exact .inl rfl
    | some g => exact .inr (fun e2 => h.ne g e2.symm e)
  have hk : KeepT t (w.alloc tmp) w1 := KeepT.of_grown hne (ownsRow_below h.l1.own hal) hg
  refine ⟨?_, h.low, by have h1 := hg.size; have h2 := h.bsz; simp at h1; simp [World.setCell]; omega, store_low (h.l1.push2 hne hA hdis hown hg) h.low _ _, store_low ((h.l2.later hal).beside hg hv2 hk) h.low _ _, fun g hg1 => ?_⟩
  · have hb1 : Blk w1 ob tz [v1, v2] := (hg.block ob (by simp; omega) hob1).trans (h.box.later hal)
    exact hb1.set 0 v'
  · rcases hat with e | e
    · exact h.ne g (e ▸ hg1)
    · intro e2
      have h3 := (own_type h.l2.own e2).1
      rw [e] at hg1
      simp at hg1
      omega

/-- .. to the second one. -/
theorem Two.push2 {A : Option Addr} {c : Nat} {r : List Int} {tmp : Obj} (hne : ts ≠ t) (h : Two ts t tz B w ob v1 v2 rows1 rows2 vals1 vals2) (hA : Obj1 t B w.heap.size w A r)
    (hdis : ∀ (i : Nat) (u : Value) (g : Nat), vals2[i]? = some u → u.ownBlock = some g → ∀ a, A = some a → a.block ≠ g)
    (hown : w1.ownsRow B ts 1 v' (rows2.length + 1) (vals2 ++ [.slice A r.length c])) (hg : (w.alloc tmp).grownBy w1 v2.ownBlock) (hat : v'.ownBlock = v2.ownBlock ∨ v'.ownBlock = some (w.alloc tmp).heap.size) :
    Two ts t tz B (w1.setCell ⟨ob, 1, none⟩ v') ob v1 v' rows1 (rows2 ++ [r]) vals1 (vals2 ++ [.slice A r.length c]) := by
  have hal : Below w.heap.size w (w.alloc tmp) := (Below.refl _ _).alloc (Nat.le_refl _) _
  have hobw : ob < w.heap.size := h.box.lt
  have hob1 : some ob ≠ v2.ownBlock := fun e => by
    have := (own_type h.l2.own e.symm).2.1
    have := h.low
    omega
  have hv2 : v1.ownBlock = none ∨ v1.ownBlock ≠ v2.ownBlock := by
    cases e : v1.ownBlock with
    | none => exact .inl rfl
    | some g => exact .inr (fun e2 => h.ne g e e2.symm)
  have hk : KeepT t (w.alloc tmp) w1 := KeepT.of_grown hne (ownsRow_below h.l2.own hal) hg
  refine ⟨?_, h.low, by have h1 := hg.size; have h2 := h.bsz; simp at h1; simp [World.setCell]; omega, store_low ((h.l1.later hal).beside hg hv2 hk) h.low _ _, store_low (h.l2.push2 hne hA hdis hown hg) h.low _ _, fun g hg1 e2 => ?_⟩
  · have hb1 : Blk w1 ob tz [v1, v2] := (hg.block ob (by simp; omega) hob1).trans (h.box.later hal)
    exact hb1.set 1 v'
  · rcases hat with e | e
    · exact h.ne g hg1 (e ▸ e2)
    · have h3 := (own_type h.l1.own hg1).1
      rw [e] at e2
      simp at e2
      omega

theorem Two.start (w : World) (ts t tz : TypeId) (hb : Blk w ob tz [.slice none 0 0, .slice none 0 0]) : Two ts t tz (ob + 1) w ob (.slice none 0 0) (.slice none 0 0) [] [] [] [] :=
  ⟨hb, Nat.lt_succ_self _, hb.lt, LstV.nil _ _ _ _, LstV.nil _ _ _ _, fun g h => by cases h⟩

/-- Block g of the row is kept by pushing to a list. -/
theorem push_keeps {lo hi : Nat} {A : Option Addr} {xs : List Int} {n : Nat} {ys : List Value} {tmp : Obj} (hne : ts ≠ t) (ho : w.ownsRow B ts 1 v n ys) (hg : (w.alloc tmp).grownBy w1 v.ownBlock) (h : Obj1 t lo hi w A xs) : Obj1 t lo hi w1 A xs :=
  (KeepT.of_grown (t := t) hne (ownsRow_below ho ((Below.refl _ _).alloc (Nat.le_refl _) _)) hg).obj (h.later ((Below.refl _ _).alloc (Nat.le_refl _) _))

/-- Appending to list 1 and storing the result leaves the blocks below the lists, but for the box. -/
theorem Two.frame1 {tmp : Obj} (h : Two ts t tz B w ob v1 v2 rows1 rows2 vals1 vals2) (hg : (w.alloc tmp).grownBy w1 v1.ownBlock) (u : Value) {k : Nat} (hk : k < B) (hne : k ≠ ob) (hkw : k < w.heap.size) : (w1.setCell ⟨ob, 0, none⟩ u).heap[k]? = w.heap[k]? :=
  (Below.heap_setCell w1 ⟨ob, 0, none⟩ u k hne).trans ((hg.block k (by simp; omega) (fun e => by
    have := (own_type h.l1.own e.symm).2.1
    omega)).trans (((Below.refl w.heap.size w).alloc (Nat.le_refl _) tmp).block k hkw))
theorem Two.below1 {tmp : Obj} {b0 : Nat} {w0 : World} (h : Two ts t tz B w ob v1 v2 rows1 rows2 vals1 vals2) (hg : (w.alloc tmp).grownBy w1 v1.ownBlock) (u : Value) (hb : Below b0 w0 w) (h0 : b0 ≤ ob) : Below b0 w0 (w1.setCell ⟨ob, 0, none⟩ u) :=
  ((hb.alloc (by have := h.box.lt; omega) tmp).grown hg (by have := h.box.lt; simp; omega) (fun g e => by
    have := (own_type h.l1.own e).2.1
    have := h.low
    omega)).setCell (p := ⟨ob, 0, none⟩) h0 u
theorem Two.add1 {w0 : World} {A : Option Addr} {c k x gg cap : Nat} {r : List Int} {tmp : Obj} {lo : Nat} (hne : ts ≠ t) (h0 : Two ts t tz B w0 ob v1 v2 rows1 rows2 vals1 vals2 ∨ ∃ u u' R R' VS VS', Two ts t tz B w0 ob u u' R R' VS VS' ∧ v1 = u ∧ rows1 = R ∧ vals1 = VS) (h : Two ts t tz B w ob v1 v2 rows1 rows2 vals1 vals2) (hlo : w0.heap.size ≤ lo) (hA : Obj1 t lo w.heap.size w A r) (hl : rows1.length = x) (hr : r.length = k)
    (hown : w1.ownsRow B ts 1 (.slice (some ⟨gg, 0, none⟩) (x + 1) cap) (x + 1) (vals1 ++ [.slice A k c])) (hg : (w.alloc tmp).grownBy w1 v1.ownBlock) (hat : v1.ownBlock = some gg ∨ gg = w.heap.size + 1) :
    Two ts t tz B (w1.setCell ⟨ob, 0, none⟩ (.slice (some ⟨gg, 0, none⟩) (x + 1) cap)) ob (.slice (some ⟨gg, 0, none⟩) (x + 1) cap) v2 (rows1 ++ [r]) rows2 (vals1 ++ [.slice A k c]) vals2 := by
  have hlow : ∀ (i : Nat) (u : Value) (g : Nat), vals1[i]? = some u → u.ownBlock = some g → g < w0.heap.size := by
    rcases h0 with h0 | ⟨u, u', R, R', VS, VS', h0, rfl, rfl, rfl⟩
    · exact h0.l1.low
    · exact h0.l1.low
  have hB : B ≤ w0.heap.size := by
    rcases h0 with h0 | ⟨u, u', R, R', VS, VS', h0, _⟩
    · have := h0.box.lt; have := h0.low; have := h0.l1.own; exact h0.bsz
    · exact h0.bsz
  subst hr
  subst hl
  refine h.push1 hne (hA.mono (by omega) (Nat.le_refl _)) (fun i u g hu hug a ha => ?_) hown hg ?_
  · have h1 := hlow i u g hu hug
    have h2 := (hA.bounds a ha).1
    omega
  · rcases hat with e | e
    · exact .inl (by rw [e]; rfl)
    · exact .inr (by rw [e]; simp [Value.ownBlock])

/-- Appending to list 2 and storing the result leaves the blocks below the lists, but for the box. -/
theorem Two.frame2 {tmp : Obj} (h : Two ts t tz B w ob v1 v2 rows1 rows2 vals1 vals2) (hg : (w.alloc tmp).grownBy w1 v2.ownBlock) (u : Value) {k : Nat} (hk : k < B) (hne : k ≠ ob) (hkw : k < w.heap.size) : (w1.setCell ⟨ob, 1, none⟩ u).heap[k]? = w.heap[k]? :=
  (Below.heap_setCell w1 ⟨ob, 1, none⟩ u k hne).trans ((hg.block k (by simp; omega) (fun e => by
    have := (own_type h.l2.own e.symm).2.1
    omega)).trans (((Below.refl w.heap.size w).alloc (Nat.le_refl _) tmp).block k hkw))
theorem Two.below2 {tmp : Obj} {b0 : Nat} {w0 : World} (h : Two ts t tz B w ob v1 v2 rows1 rows2 vals1 vals2) (hg : (w.alloc tmp).grownBy w1 v2.ownBlock) (u : Value) (hb : Below b0 w0 w) (h0 : b0 ≤ ob) : Below b0 w0 (w1.setCell ⟨ob, 1, none⟩ u) :=
  ((hb.alloc (by have := h.box.lt; omega) tmp).grown hg (by have := h.box.lt; simp; omega) (fun g e => by
    have := (own_type h.l2.own e).2.1
    have := h.low
    omega)).setCell (p := ⟨ob, 1, none⟩) h0 u
theorem Two.add2 {w0 : World} {A : Option Addr} {c k x gg cap : Nat} {r : List Int} {tmp : Obj} {lo : Nat} (hne : ts ≠ t) (h0 : Two ts t tz B w0 ob v1 v2 rows1 rows2 vals1 vals2 ∨ ∃ u u' R R' VS VS', Two ts t tz B w0 ob u u' R R' VS VS' ∧ v2 = u' ∧ rows2 = R' ∧ vals2 = VS') (h : Two ts t tz B w ob v1 v2 rows1 rows2 vals1 vals2) (hlo : w0.heap.size ≤ lo) (hA : Obj1 t lo w.heap.size w A r) (hl : rows2.length = x) (hr : r.length = k)
    (hown : w1.ownsRow B ts 1 (.slice (some ⟨gg, 0, none⟩) (x + 1) cap) (x + 1) (vals2 ++ [.slice A k c])) (hg : (w.alloc tmp).grownBy w1 v2.ownBlock) (hat : v2.ownBlock = some gg ∨ gg = w.heap.size + 1) :
    Two ts t tz B (w1.setCell ⟨ob, 1, none⟩ (.slice (some ⟨gg, 0, none⟩) (x + 1) cap)) ob v1 (.slice (some ⟨gg, 0, none⟩) (x + 1) cap) rows1 (rows2 ++ [r]) vals1 (vals2 ++ [.slice A k c]) := by
  have hlow : ∀ (i : Nat) (u : Value) (g : Nat), vals2[i]? = some u → u.ownBlock = some g → g < w0.heap.size := by
    rcases h0 with h0 | ⟨u, u', R, R', VS, VS', h0, rfl, rfl, rfl⟩
    · exact h0.l2.low
    · exact h0.l2.low
  have hB : B ≤ w0.heap.size := by
    rcases h0 with h0 | ⟨u, u', R, R', VS, VS', h0, _⟩
    · have := h0.box.lt; have := h0.low; have := h0.l1.own; exact h0.bsz
    · exact h0.bsz
  subst hr
  subst hl
  refine h.push2 hne (hA.mono (by omega) (Nat.le_refl _)) (fun i u g hu hug a ha => ?_) hown hg ?_
  · have h1 := hlow i u g hu hug
    have h2 := (hA.bounds a ha).1
    omega
  · rcases hat with e | e
    · exact .inl (by rw [e]; rfl)
    · exact .inr (by rw [e]; simp [Value.ownBlock])

theorem row_kept {k : Nat} {lo hi : Nat} {A : Option Addr} {xs : List Int} {n : Nat} {ys : List Value} {tmp : Obj} (hne : ts ≠ t) (ho : w.ownsRow B ts 1 v n ys) (hg : (w.alloc tmp).grownBy w1 v.ownBlock) (h : Obj1 t lo hi w A xs) (hk : ob < lo) (u : Value) : Obj1 t lo hi (w1.setCell ⟨ob, k, none⟩ u) A xs :=
  (push_keeps hne ho hg h).set (p := ⟨ob, k, none⟩) (.inl hk) u
end
end Go.Proofs.Ytgahmfkmhaeniaa
namespace Go.Proofs.Ytgahmfkmhaeniaa
open Go Go.RowKit

section
variable {ts t tz : TypeId} {B : Nat} {w w' w1 : World} {v v' : Value} {rows : List (List Int)} {vals : List Value} {ob : Nat}

/-- A list of rows that the call builds by append, in cell s of the box ob, whose other cells are cs. -/
structure One (ts t tz : TypeId) (B : Nat) (w : World) (ob s : Nat) (cs : List Value) (v : Value) (rows : List (List Int)) (vals : List Value) : Prop where
  box : Blk w ob tz (cs.set s v)
  low : ob < B
  bsz : B ≤ w.heap.size
  l : LstV ts t B w v rows vals

variable {s : Nat} {cs : List Value}
theorem One.later (h : One ts t tz B w ob s cs v rows vals) (hb : Below w.heap.size w w') : One ts t tz B w' ob s cs v rows vals :=
  ⟨h.box.later hb, h.low, Nat.le_trans h.bsz hb.size, h.l.later hb⟩
theorem One.kept {tmp : Obj} (h : One ts t tz B w ob s cs v rows vals) (hg : (w.alloc tmp).grownBy w1 v.ownBlock) : Blk w1 ob tz (cs.set s v) :=
  (hg.block ob (by have := h.box.lt; simp; omega) (fun e => by
    have := (own_type h.l.own e.symm).2.1
    have := h.low
    omega)).trans (h.box.later ((Below.refl _ _).alloc (Nat.le_refl _) _))
theorem One.push {A : Option Addr} {c : Nat} {r : List Int} {tmp : Obj} (hne : ts ≠ t) (h : One ts t tz B w ob s cs v rows vals) (hA : Obj1 t B w.heap.size w A r)
    (hdis : ∀ (i : Nat) (u : Value) (g : Nat), vals[i]? = some u → u.ownBlock = some g → ∀ a, A = some a → a.block ≠ g)
    (hown : w1.ownsRow B ts 1 v' (rows.length + 1) (vals ++ [.slice A r.length c])) (hg : (w.alloc tmp).grownBy w1 v.ownBlock) :
    One ts t tz B (w1.setCell ⟨ob, s, none⟩ v') ob s cs v' (rows ++ [r]) (vals ++ [.slice A r.length c]) := by
  refine ⟨?_, h.low, by have h1 := hg.size; have h2 := h.bsz; simp at h1; simp [World.setCell]; omega, store_low (h.l.push2 hne hA hdis hown hg) h.low _ _⟩
  have hb1 : Blk w1 ob tz (cs.set s v) := h.kept hg
  have h2 := hb1.set s v'
  rw [List.set_set] at h2
  exact h2
theorem One.start (w : World) (ts t tz : TypeId) (hb : Blk w ob tz (cs.set s (.slice none 0 0))) (hB : ob < B) (hw : B ≤ w.heap.size) : One ts t tz B w ob s cs (.slice none 0 0) [] [] :=
  ⟨hb, hB, hw, LstV.nil _ _ _ _⟩
theorem One.frame {tmp : Obj} (h : One ts t tz B w ob s cs v rows vals) (hg : (w.alloc tmp).grownBy w1 v.ownBlock) (u : Value) {k : Nat} (hk : k < B) (hne : k ≠ ob) (hkw : k < w.heap.size) : (w1.setCell ⟨ob, s, none⟩ u).heap[k]? = w.heap[k]? :=
  (Below.heap_setCell w1 ⟨ob, s, none⟩ u k hne).trans ((hg.block k (by simp; omega) (fun e => by
    have := (own_type h.l.own e.symm).2.1
    omega)).trans (((Below.refl w.heap.size w).alloc (Nat.le_refl _) tmp).block k hkw))
theorem One.below {tmp : Obj} {b0 : Nat} {w0 : World} (h : One ts t tz B w ob s cs v rows vals) (hg : (w.alloc tmp).grownBy w1 v.ownBlock) (u : Value) (hb : Below b0 w0 w) (h0 : b0 ≤ ob) : Below b0 w0 (w1.setCell ⟨ob, s, none⟩ u) :=
  ((hb.alloc (by have := h.box.lt; omega) tmp).grown hg (by have := h.box.lt; simp; omega) (fun g e => by
    have := (own_type h.l.own e).2.1
    have := h.low
    omega)).setCell (p := ⟨ob, s, none⟩) h0 u
/-- A row that a call has made behind the world w0, in which the list lay already, is appended and stored. -/
theorem One.add {w0 : World} {A : Option Addr} {c k x gg cap : Nat} {r : List Int} {tmp : Obj} {lo : Nat} (hne : ts ≠ t) (h0 : One ts t tz B w0 ob s cs v rows vals) (h : One ts t tz B w ob s cs v rows vals) (hlo : w0.heap.size ≤ lo) (hA : Obj1 t lo w.heap.size w A r) (hl : rows.length = x) (hr : r.length = k)
    (hown : w1.ownsRow B ts 1 (.slice (some ⟨gg, 0, none⟩) (x + 1) cap) (x + 1) (vals ++ [.slice A k c])) (hg : (w.alloc tmp).grownBy w1 v.ownBlock) :
    One ts t tz B (w1.setCell ⟨ob, s, none⟩ (.slice (some ⟨gg, 0, none⟩) (x + 1) cap)) ob s cs (.slice (some ⟨gg, 0, none⟩) (x + 1) cap) (rows ++ [r]) (vals ++ [.slice A k c]) := by
  have hB := h0.bsz
  subst hr
  subst hl
  refine h.push hne (hA.mono (by omega) (Nat.le_refl _)) (fun i u g hu hug a ha => ?_) hown hg
  have h1 := h0.l.low i u g hu hug
  have h2 := (hA.bounds a ha).1
  omega
end

/-- The table of a result is laid into its box. -/
theorem kend {ts t tz : TypeId} {w w3 wf : World} {r lo hi : Nat} {A : Option Addr} {n c : Nat} {f : List (List Int)} {u : Value} (hwf : wf = w3.setCell ⟨r, 0, none⟩ (.slice A n c)) (hr : Blk w3 r tz [u]) (hr0 : w.heap.size ≤ r) (hb : Below w.heap.size w w3) (ho : Obj2 ts t lo hi w3 A f) (hlo : w.heap.size ≤ lo) (hrl : r < lo) (hhi : hi ≤ w3.heap.size) :
    wf.cell? ⟨r, 0, none⟩ = some (.slice A n c) ∧ Below w.heap.size w wf ∧ Obj2 ts t w.heap.size wf.heap.size wf A f := by
  have hR : Blk wf r tz [.slice A n c] := by rw [hwf]; exact hr.set 0 _
  refine ⟨hR.cell 0 _ rfl, ?_, ?_⟩
  · rw [hwf]; exact hb.setCell (p := ⟨r, 0, none⟩) hr0 _
  · rw [hwf]; exact (ho.set (p := ⟨r, 0, none⟩) (.inl hrl) _).mono hlo (by simp [World.setCell]; exact hhi)
end Go.Proofs.Ytgahmfkmhaeniaa
namespace Go.Proofs.Ytgahmfkmhaeniaa
open Go Go.RowKit
set_option maxHeartbeats 1000000

/-- What is asked of the function value: at each pair of elements, in each later world, it hands back the pair of both functions' values, and leaves what there was. -/
def PairFnB (P : Program) (F : FuncId) (u : Value) (n : Nat) (h1 h2 : Nat → Nat → Int) (w : World) : Prop :=
  ∀ (W : World) (x y : Nat), x < n → y < n → Below w.heap.size w W → Calls P F #[u, .agg #[.int .i64 x, .int .i64 y]] W fun e w' => e = .returned (.agg #[.int .i64 (h1 x y), .int .i64 (h2 x y)]) ∧ Below W.heap.size W w'

/-- After k pairs. -/
def pmpTo (h : Nat → Nat → Int) (n k : Nat) : Nat → Nat → Int := fun a b => if a * n + b < k then h a b else 0
theorem pmpTo_upd (h : Nat → Nat → Int) (n k x y : Nat) (hx : k / n = x) (hy : k % n = y) (_hyn : y < n) : ∀ a b, a < n → b < n → updF (pmpTo h n k) x y (h x y) a b = pmpTo h n (k + 1) a b := by
  intro a b _ hb
  have hk : k = x * n + y := by rw [← hx, ← hy]; exact (pair_eta n k).symm
  unfold updF pmpTo
  by_cases e : a = x ∧ b = y
  · obtain ⟨rfl, rfl⟩ := e
    rw [if_pos ⟨rfl, rfl⟩, if_pos (by omega)]
  · rw [if_neg e]
    have hne : a * n + b ≠ k := fun hh => e (by
      have h1 := pair_div n a b hb
      have h2 := pair_mod n a b hb
      rw [hh] at h1 h2
      omega)
    by_cases h2 : a * n + b < k
    · rw [if_pos h2, if_pos (by omega)]
    · rw [if_neg h2, if_neg (by omega)]

set_option maxRecDepth 100000 in
theorem pmp_any (F : FuncId) (u : Value) (n : Nat) (h1 h2 : Nat → Nat → Int) (w : World) (eg : ∀ args w, (callFunc F args).run Try.prog w = .ok (.enter F args) w) (h0 : 1 ≤ n) (h12 : n ≤ 12) (hp : PairFnB Try.prog F u n h1 h2 w) :
    Calls Try.prog 106 #[.int .i64 n, .func (.func F) #[u] #[]] w fun e w' => ∃ A c B d, e = .returned (.agg #[.slice A n c, .slice B n d]) ∧ Below w.heap.size w w' ∧ ObjZ 31 2 w.heap.size w'.heap.size w' A (grid n h1) B (grid n h2) := by
  have HPF := hide hp
  clear hp
  obtain ⟨N, hN⟩ : ∃ N, n * n = N := ⟨_, rfl⟩
  have hN144 : N ≤ 144 := by rw [← hN]; exact sq_le n h12
  have HN := hide hN
  clear hN
  go_enter Try.func106, Try.ntmps106
  go_wp2_with fail
  refine calls_gen fun w0 hw0 => ?_
  have HB0 : Hid (Below w.heap.size w w0) := hide (by rw [hw0]; exact (Below.refl _ _).alloc (Nat.le_refl _) _)
  have HK0 : Hid (Blk w0 w.heap.size 41 [.slice none 0 0, .slice none 0 0]) := hide (by rw [hw0]; exact Blk.new _ _ _)
  have Z0 : Hid (w0.heap.size = w.heap.size + 1) := hide (by rw [hw0]; simp)
  clear hw0
  refine (newTable_any n _ (by omega)).mono ?_
  rintro e w1 ⟨rfl, hb1, ht1, hs1⟩
  have HB1 := hide (HB0.out.trans (hb1.mono HB0.out.size))
  have HK1 := hide (HK0.out.later hb1)
  have HT1 := hide ht1
  have Z1 := hide hs1
  clear hb1 ht1 hs1
  go_wp2_with fail
  refine (newTable_any n _ (by omega)).mono ?_
  rintro e w2 ⟨rfl, hb2, ht2, hs2⟩
  have HB2 := hide (HB1.out.trans (hb2.mono HB1.out.size))
  have HK2 := hide (HK1.out.later hb2)
  have HT12 := hide (HT1.out.later hb2)
  have HT2 := hide ht2
  have Z2 := hide hs2
  clear hb2 ht2 hs2
  go_wp2_with fail
  refine calls_gen fun w3 hw3 => ?_
  have hb3 : Below w2.heap.size w2 w3 := by rw [hw3]; exact (Below.refl _ _).alloc (Nat.le_refl _) _
  have HB3 := hide (HB2.out.trans (hb3.mono HB2.out.size))
  have HK3 := hide (HK2.out.later hb3)
  have HS3 : Hid (Blk w3 w2.heap.size 41 [.slice (some ⟨w0.heap.size, 0, none⟩) n n, .slice (some ⟨w1.heap.size, 0, none⟩) n n]) := hide (by rw [hw3]; exact Blk.new _ _ _)
  have HT13 := hide (HT12.out.later hb3)
  have HT23 := hide (HT2.out.later hb3)
  have Z3 : Hid (w3.heap.size = w2.heap.size + 1) := hide (by rw [hw3]; simp)
  clear hw3 hb3
  refine (pairsOf_any n N _ h0 h12 HN.out).mono ?_
  rintro e w4 ⟨g, rfl, hb4, hg4, hpa⟩
  have HB4 := hide (HB3.out.trans (hb4.mono HB3.out.size))
  have HK4 := hide (HK3.out.later hb4)
  have HS4 := hide (HS3.out.later hb4)
  have HT14 := hide (HT13.out.later hb4)
  have HT24 := hide (HT23.out.later hb4)
  have HPA4 := hide hpa
  have hs4 := hb4.size
  clear hb4 hpa
  go_wp2_with fail
  go_loopw [16] (fun i wr => ∃ k : Nat, k ≤ N ∧ i = .int .i64 k ∧ Below w.heap.size w wr ∧ w4.heap.size ≤ wr.heap.size ∧ Blk wr w.heap.size 41 [.slice none 0 0, .slice none 0 0] ∧ Blk wr w2.heap.size 41 [.slice (some ⟨w0.heap.size, 0, none⟩) n n, .slice (some ⟨w1.heap.size, 0, none⟩) n n] ∧ PairsAt wr g n ∧ TabF 31 2 wr w0.heap.size (fun i => w0.heap.size + 1 + i) n (pmpTo h1 n k) ∧ TabF 31 2 wr w1.heap.size (fun i => w1.heap.size + 1 + i) n (pmpTo h2 n k)) (fun i _ => N - (intOf i).toNat)
  case atStart => exact ⟨0, Nat.zero_le _, rfl, HB4.out, Nat.le_refl _, HK4.out, HS4.out, HPA4.out, HT14.out.congr (fun a b _ _ => by simp [pmpTo]), HT24.out.congr (fun a b _ _ => by simp [pmpTo])⟩
  case round =>
    obtain ⟨k, hk, rfl, hbe, hsz, hkk, hss, hpa, ht1, ht2⟩ := hrel
    have HB := hide hbe
    have HK := hide hkk
    have HS := hide hss
    have HPA := hide hpa
    have HT1 := hide ht1
    have HT2 := hide ht2
    clear hbe hkk hss hpa ht1 ht2
    by_cases hlt : k < N
    · have hkz : (k : Int) < N := by omega
      obtain ⟨p0, p1⟩ := HPA.out.2 k (by rw [HN.out]; exact hlt)
      have hxn : k / n < n := div_lt_sq (by rw [HN.out]; exact hlt)
      have hyn : k % n < n := mod_lt_sq (by rw [HN.out]; exact hlt)
      obtain ⟨x, hx⟩ : ∃ x, k / n = x := ⟨_, rfl⟩
      obtain ⟨y, hy⟩ : ∃ y, k % n = y := ⟨_, rfl⟩
      rw [hx] at p0 hxn
      rw [hy] at p1 hyn
      have HX := hide hx
      have HY := hide hy
      clear hx hy
      go_wp2_with fail
      refine wp_gen fun w5 hw5 => ?_
      obtain ⟨P, hPe⟩ : ∃ P, wr.heap.size = P := ⟨_, rfl⟩
      have hb5 : Below wr.heap.size wr w5 := by rw [hw5]; exact (Below.refl _ _).alloc (Nat.le_refl _) _
      have HPP : Hid (w4.heap.size ≤ P) := hide (by rw [← hPe]; exact hsz)
      have HBc := hide (HB.out.trans (hb5.mono HB.out.size))
      have HKc := hide (HK.out.later hb5)
      have HSc := hide (HS.out.later hb5)
      have HAc := hide (HPA.out.later hb5)
      have HT1c := hide (HT1.out.later hb5)
      have HT2c := hide (HT2.out.later hb5)
      have HPc : Hid (Blk w5 P 104 [.int .i64 x, .int .i64 y]) := hide (by rw [hw5, ← hPe]; exact Blk.new _ _ _)
      have hszc : w4.heap.size ≤ w5.heap.size := by have := hb5.size; omega
      rw [hPe]
      clear hw5 hb5 p0 p1 hPe
      have k0 := HSc.out.cell 0 _ rfl
      have k1 := HSc.out.cell 1 _ rfl
      have k2 := HPc.out.cell 0 _ rfl
      have k3 := HPc.out.cell 1 _ rfl
      go_region_held3 (fun w' => w'.cell? ⟨w2.heap.size, 0, none⟩ = some (.slice (some ⟨w0.heap.size, 0, none⟩) n n) ∧ w'.cell? ⟨w2.heap.size, 1, none⟩ = some (.slice (some ⟨w1.heap.size, 0, none⟩) n n) ∧ w'.cell? ⟨P, 0, none⟩ = some (.int .i64 x) ∧ w'.cell? ⟨P, 1, none⟩ = some (.int .i64 y)) (first | exact ⟨k0, k1, k2, k3⟩ | go_keep) (first | (go_at_fn F; go_must (refine calls_gen fun wc hwc => ?_; have hbx : Below w5.heap.size w5 wc := (by rw [hwc]; first | exact Below.refl _ _ | exact (Below.refl _ _).drew); replace HBc := hide (HBc.out.trans (hbx.mono HBc.out.size)); replace HKc := hide (HKc.out.later hbx); replace HSc := hide (HSc.out.later hbx); replace HAc := hide (HAc.out.later hbx); replace HT1c := hide (HT1c.out.later hbx); replace HT2c := hide (HT2c.out.later hbx); replace HPc := hide (HPc.out.later hbx); replace hszc : w4.heap.size ≤ wc.heap.size := (by have := hbx.size; omega); clear hwc hbx; refine (HPF.out wc x y hxn hyn HBc.out).mono ?_; rintro e wd ⟨rfl, hbd⟩; replace HBc := hide (HBc.out.trans (hbd.mono HBc.out.size)); replace HKc := hide (HKc.out.later hbd); replace HSc := hide (HSc.out.later hbd); replace HAc := hide (HAc.out.later hbd); replace HT1c := hide (HT1c.out.later hbd); replace HT2c := hide (HT2c.out.later hbd); replace HPc := hide (HPc.out.later hbd); replace hszc : w4.heap.size ≤ wd.heap.size := (by have := hbd.size; omega); clear hbd; have k0 := HSc.out.cell 0 _ rfl; have k1 := HSc.out.cell 1 _ rfl; have k2 := HPc.out.cell 0 _ rfl; have k3 := HPc.out.cell 1 _ rfl)) | (go_at_call 136; go_must (refine (set_any w0.heap.size w1.heap.size w2.heap.size _ _ _ _ n _ _ _ _ x y _ _ _ HT1c.out HT2c.out (by have z1 := Z1.out; omega) (fun i hi => by have z1 := Z1.out; omega) (by have z2 := Z2.out; omega) (fun i hi => by have z2 := Z2.out; omega) (by have z3 := Z3.out; omega) h12 hxn hyn).mono ?_; rintro e wd ⟨rfl, htd, ht1, ht2⟩; replace HBc := hide (htd.below HBc.out HBc.out.size (by have z0 := Z0.out; omega)); replace HKc := hide (HKc.out.touch htd (.inl (by have z0 := Z0.out; omega))); replace HSc := hide (HSc.out.touch htd (.inr (Nat.le_refl _))); replace HPc := hide (HPc.out.touch htd (.inr (by have := HPP.out; have z3 := Z3.out; omega))); replace HAc : Hid (PairsAt wd g n) := hide (HAc.out.touch htd (.inr (by have z3 := Z3.out; omega))); replace HT1c := hide ht1; replace HT2c := hide ht2; replace hszc : w4.heap.size ≤ wd.heap.size := (by have := htd.size; omega); clear htd ht1 ht2; have k0 := HSc.out.cell 0 _ rfl; have k1 := HSc.out.cell 1 _ rfl; have k2 := HPc.out.cell 0 _ rfl; have k3 := HPc.out.cell 1 _ rfl)))
      go_wp2_with fail
      go_roundw
      case rel => exact ⟨k + 1, by omega, by go_num, HBc.out, hszc, HKc.out, HSc.out, HAc.out, HT1c.out.congr (pmpTo_upd h1 n k x y HX.out HY.out hyn), HT2c.out.congr (pmpTo_upd h2 n k x y HX.out HY.out hyn)⟩
      case measure => simp [intOf]; omega
    · have hkn : k = N := by omega
      subst hkn
      have k0 := HS.out.cell 0 _ rfl
      have k1 := HS.out.cell 1 _ rfl
      have k2 := HK.out.cell 0 _ rfl
      have k3 := HK.out.cell 1 _ rfl
      have k4 := HK.out.frozen 0
      have k5 := HK.out.frozen 1
      go_wp2_with fail
      refine bp_gen fun wf hwf => ?_
      have HRF : Blk wf w.heap.size 41 [.slice (some ⟨w0.heap.size, 0, none⟩) n n, .slice (some ⟨w1.heap.size, 0, none⟩) n n] := by rw [hwf]; exact ((HK.out.set 0 _).set 1 _)
      have HBF : Below w.heap.size w wf := by rw [hwf]; exact ((HB.out.setCell (p := ⟨w.heap.size, 0, none⟩) (Nat.le_refl _) _).setCell (p := ⟨w.heap.size, 1, none⟩) (Nat.le_refl _) _)
      have z0 := Z0.out
      have z1 := Z1.out
      have z2 := Z2.out
      have z3 := Z3.out
      have HF1 : TabF 31 2 wf w0.heap.size (fun i => w0.heap.size + 1 + i) n h1 := by rw [hwf]; exact ((HT1.out.far1 (p := ⟨w.heap.size, 0, none⟩) (by show w0.heap.size ≠ w.heap.size; omega) (fun i hi => by show w0.heap.size + 1 + i ≠ w.heap.size; omega) _).far1 (p := ⟨w.heap.size, 1, none⟩) (by show w0.heap.size ≠ w.heap.size; omega) (fun i hi => by show w0.heap.size + 1 + i ≠ w.heap.size; omega) _).congr (fun a b ha hb => by unfold pmpTo; rw [if_pos (by rw [← HN.out]; exact pair_lt n a b ha hb)])
      have HF2 : TabF 31 2 wf w1.heap.size (fun i => w1.heap.size + 1 + i) n h2 := by rw [hwf]; exact ((HT2.out.far1 (p := ⟨w.heap.size, 0, none⟩) (by show w1.heap.size ≠ w.heap.size; omega) (fun i hi => by show w1.heap.size + 1 + i ≠ w.heap.size; omega) _).far1 (p := ⟨w.heap.size, 1, none⟩) (by show w1.heap.size ≠ w.heap.size; omega) (fun i hi => by show w1.heap.size + 1 + i ≠ w.heap.size; omega) _).congr (fun a b ha hb => by unfold pmpTo; rw [if_pos (by rw [← HN.out]; exact pair_lt n a b ha hb)])
      have hsf : wf.heap.size = wr.heap.size := by rw [hwf]; simp [World.setCell]
      have q0 := HRF.cell 0 _ rfl
      have q1 := HRF.cell 1 _ rfl
      clear hwf k0 k1 k2 k3 k4 k5
      exact bodyPost_ret (v := .agg #[.slice (some ⟨w0.heap.size, 0, none⟩) n n, .slice (some ⟨w1.heap.size, 0, none⟩) n n]) (by simp [results, Try.results106, go_sem, q0, q1]) rfl ⟨_, _, _, _, rfl, HBF, w1.heap.size, by omega, by omega, HF1.obj (by omega) (by omega) (fun i hi => by omega), HF2.obj (by omega) (by omega) (fun i hi => by omega)⟩
end Go.Proofs.Ytgahmfkmhaeniaa
namespace Go.Proofs.Ytgahmfkmhaeniaa
open Go Go.RowKit
set_option maxHeartbeats 2000000
theorem cytInfo2 : (Try.prog.info? 65).map (fun i => (i.zero, i.size, i.bytes)) = some (some (.slice none 0 0), 1, 24) := by kernel_rfl
/-- The inverses of the rows of a table that has been tested, and the pair of it and them. -/
def Inv2 (lo hi : Nat) (w : World) (B : Option Addr) (f : List (List Int)) : Prop := Obj2 65 2 lo hi w B (dualL f)

set_option maxRecDepth 100000 in
theorem tested_any (A : Option Addr) (n c : Nat) (f : List (List Int)) (r : Bool) (w : World) (hn : f.length = n) (hb : n ≤ 1048576) (hbs : ∀ i, i < f.length → (f.getD i []).length ≤ 1048576) (hr : Rd2 w A f) (hres : CyRes f r) :
    Calls Try.prog 66 #[.agg #[.slice A n c]] w fun e w' => (r = true ∧ ∃ B d, e = .returned (.tuple #[.agg #[.slice A n c, .slice B n d], .bool true]) ∧ Below w.heap.size w w' ∧ Inv2 w.heap.size w'.heap.size w' B f) ∨ (r = false ∧ e = .returned (.tuple #[.agg #[.slice none 0 0, .slice none 0 0], .bool false]) ∧ Below w.heap.size w w') := by
  have HN := hide hn
  have HBS := hide hbs
  have HRD := hide hr
  have HRS := hide hres
  have HB0 := hide (((Below.refl _ w).alloc (Nat.le_refl _) (Obj.cells #[Value.slice A n c] 27)).alloc (by simp) (Obj.cells #[.slice none 0 0, .slice none 0 0] 71))
  have HR0 : Hid (Blk ((w.alloc (Obj.cells #[Value.slice A n c] 27)).alloc (Obj.cells #[.slice none 0 0, .slice none 0 0] 71)) (w.heap.size + 1) 71 [.slice none 0 0, .slice none 0 0]) := hide (by have h := Blk.new (w.alloc (Obj.cells #[Value.slice A n c] 27)) 71 [.slice none 0 0, .slice none 0 0]; simpa using h)
  have hmk := run_make_row' (P := Try.prog) 69 65 (.slice none 0 0) 24 Try.underlying69 cytInfo2 rfl .i64 .i64 n (by omega) (by omega)
  clear hn hbs hr hres
  go_enter Try.func66, Try.ntmps66
  go_wp2_with fail
  refine (isCycD _ _ _ f r _ HN.out hb HBS.out (HRD.out.later HB0.out) HRS.out).mono ?_
  rintro e w1 ⟨rfl, hb1⟩
  have HB1 := hide (HB0.out.trans (hb1.mono HB0.out.size))
  have HR1 := hide (HR0.out.later hb1)
  clear hb1
  cases r with
  | false =>
    clear hmk
    have k0 := HR1.out.cell 0 _ rfl
    have k1 := HR1.out.cell 1 _ rfl
    have k2 := HR1.out.frozen 0
    have k3 := HR1.out.frozen 1
    go_wp2_with fail
    refine bp_gen fun wf hwf => ?_
    have HRF : Blk wf (w.heap.size + 1) 71 [.slice none 0 0, .slice none 0 0] := by rw [hwf]; first | exact HR1.out | exact (HR1.out.set 0 _).set 1 _
    have hbf : Below w.heap.size w wf := by rw [hwf]; first | exact HB1.out | exact (HB1.out.setCell (p := ⟨w.heap.size + 1, 0, none⟩) (by show w.heap.size ≤ w.heap.size + 1; omega) _).setCell (p := ⟨w.heap.size + 1, 1, none⟩) (by show w.heap.size ≤ w.heap.size + 1; omega) _
    have q0 := HRF.cell 0 _ rfl
    have q1 := HRF.cell 1 _ rfl
    clear hwf k0 k1 k2 k3
    exact bodyPost_ret (v := .tuple #[.agg #[.slice none 0 0, .slice none 0 0], .bool false]) (by simp [results, Try.results66, go_sem, q0, q1]) rfl ⟨rfl, hbf⟩
  | true =>
    have hcy : Cyc f := HRS.out.1 rfl
    have HTB := hide hcy.tbl
    have HPM := hide hcy.prm
    have h1 : 1 ≤ n := by rw [← HN.out]; exact HTB.out.1
    have h12 : n ≤ 12 := by rw [← HN.out]; exact HTB.out.2.1
    clear hcy
    go_wp2_with fail
    clear hmk
    refine wp_gen fun w0 hw0 => ?_
    obtain ⟨G, hG⟩ : ∃ G, w1.heap.size = G := ⟨_, rfl⟩
    have hGw : w.heap.size + 1 < G := by have := HR1.out.lt; omega
    have HBm : Hid (Below w.heap.size w w0) := hide (by rw [hw0]; exact HB1.out.alloc HB1.out.size _)
    have HRm : Hid (Blk w0 (w.heap.size + 1) 71 [.slice none 0 0, .slice none 0 0]) := hide (by rw [hw0]; exact HR1.out.alloc _)
    have HFm : Hid (Fil 65 2 n 0 (fun i => backTo (f.getD i []) n) G G w0) := hide (by rw [hw0, ← hG]; exact Fil.start w1 (Nat.le_refl _))
    rw [hG]
    clear hw0 hG
    go_loopw [19] (fun i wr => ∃ k : Nat, k ≤ n ∧ i = .int .i64 k ∧ Below w.heap.size w wr ∧ Blk wr (w.heap.size + 1) 71 [.slice none 0 0, .slice none 0 0] ∧ Fil 65 2 n k (fun i => backTo (f.getD i []) n) G G wr) (fun i _ => n - (intOf i).toNat)
    case atStart => exact ⟨0, Nat.zero_le _, rfl, HBm.out, HRm.out, HFm.out⟩
    case round =>
      obtain ⟨k, hk, rfl, hbe, hrr, hff⟩ := hrel
      have HBc := hide hbe
      have HRc := hide hrr
      have HFc := hide hff
      clear hbe hrr hff
      by_cases hlt : k < n
      · have hkl : Hid (k < f.length) := hide (by have := HN.out; omega)
        obtain ⟨b, o, hA, hbw, hc⟩ := (HRD.out.later HBc.out) (by have := hkl.out; omega)
        obtain ⟨Ak, ck, hcell, hrd⟩ := hc k hkl.out
        have hl := HTB.out.row_len HN.out hlt
        rw [hl] at hcell
        have HL := hide hl
        have HRR := hide hrd
        have hltz : (k : Int) < n := by omega
        subst hA
        clear hc hrd hl
        go_wp2_with fail
        refine (inverse_any Ak n ck (f.getD k []) _ HL.out (by omega) HRR.out (by have h := (HPM.out k hkl.out).2.2.1; rw [HL.out] at h; exact h)).mono ?_
        rintro e wd ⟨A5, c5, rfl, hbd, hres⟩
        have HPU := hide (HFc.out.push (c := c5) hbd hres hlt)
        have HBd := hide (HBc.out.trans (hbd.mono HBc.out.size))
        have HRd := hide (HRc.out.later hbd)
        have HFd := hide (HFc.out.later hbd)
        have HLB : Hid ((backTo (f.getD k []) n).length = n) := hide (by rw [backTo_length]; exact HL.out)
        clear hbd hres
        rw [HLB.out] at HPU
        obtain ⟨⟨v0, hv0⟩, hz0⟩ := HFd.out.at k hlt
        go_wp2_with fail
        go_roundw
        case rel => exact ⟨k + 1, by omega, by go_num, HBd.out.setCell (p := ⟨G, k, none⟩) (by show w.heap.size ≤ G; omega) _, HRd.out.far (p := ⟨G, k, none⟩) (by show w.heap.size + 1 ≠ G; omega) _, HPU.out⟩
        case measure => simp [intOf]; omega
      · have hkn : k = n := by omega
        subst hkn
        have HO := hide HFc.out.done
        have k0 := HRc.out.cell 0 _ rfl
        have k1 := HRc.out.cell 1 _ rfl
        have k2 := HRc.out.frozen 0
        have k3 := HRc.out.frozen 1
        have hgl := HFc.out.lt
        go_wp2_with fail
        refine bp_gen fun wf hwf => ?_
        have HRF : Blk wf (w.heap.size + 1) 71 [.slice A k c, .slice (some ⟨G, 0, none⟩) k k] := by rw [hwf]; exact (HRc.out.set 0 _).set 1 _
        have hbf : Below w.heap.size w wf := by rw [hwf]; exact (HBc.out.setCell (p := ⟨w.heap.size + 1, 0, none⟩) (by show w.heap.size ≤ w.heap.size + 1; omega) _).setCell (p := ⟨w.heap.size + 1, 1, none⟩) (by show w.heap.size ≤ w.heap.size + 1; omega) _
        have hsf : wf.heap.size = wr.heap.size := by rw [hwf]; simp [World.setCell]
        have hof : Obj2 65 2 G wr.heap.size wf (some ⟨G, 0, none⟩) ((List.range k).map (fun i => backTo (f.getD i []) k)) := by rw [hwf]; exact (HO.out.set (.inl hGw) _).set (.inl hGw) _
        have hdl : dualL f = (List.range k).map (fun i => backTo (f.getD i []) k) := by unfold dualL rowsL; rw [HN.out]
        have q0 := HRF.cell 0 _ rfl
        have q1 := HRF.cell 1 _ rfl
        clear hwf k0 k1 k2 k3
        refine bodyPost_ret (v := .tuple #[.agg #[.slice A k c, .slice (some ⟨G, 0, none⟩) k k], .bool true]) (by simp [results, Try.results66, go_sem, q0, q1]) rfl ⟨_, ⟨_, rfl⟩, hbf, ?_⟩
        unfold Inv2
        rw [hdl]
        exact hof.mono (by omega) (by omega)

/-- What there is of a tested cycle set. -/
structure CyHeld (w : World) (A B : Option Addr) (n : Nat) (f : List (List Int)) : Prop where
  len : f.length = n
  cyc : Cyc f
  rd : Rd2 w A f
  inv : Rd2 w B (dualL f)
theorem CyHeld.later {w w' : World} {A B : Option Addr} {n : Nat} {f : List (List Int)} (h : CyHeld w A B n f) (hb : Below w.heap.size w w') : CyHeld w' A B n f := ⟨h.len, h.cyc, h.rd.later hb, h.inv.later hb⟩

set_option maxRecDepth 100000 in
theorem solve_any (A B : Option Addr) (n c d : Nat) (f : List (List Int)) (x z : Nat) (w : World) (h : CyHeld w A B n f) (hx : x < n) (hz : z < n) :
    Calls Try.prog 68 #[.agg #[.slice A n c, .slice B n d], .int .i64 x, .int .i64 z] w fun e w' => e = .returned (.int .i64 (sol f x z : Nat)) ∧ Below w.heap.size w w' := by
  have h12 : n ≤ 12 := by rw [← h.len]; exact h.cyc.le
  have hdt := dual_tbl h.cyc.tbl h.cyc.prm
  have hdl : (dualL f).length = n := by rw [dualL_len]; exact h.len
  have hu := sol_ap h.cyc.tbl h.cyc.prm h.len hx hz
  obtain ⟨u, hu2⟩ : ∃ u, sol f x z = u := ⟨_, rfl⟩
  rw [hu2] at hu ⊢
  obtain ⟨b, o, rfl, hb, hc⟩ := hdt.cells h.inv hdl
  obtain ⟨bx, ox, cx, h1, h2, h3⟩ := hc x hx
  have h4 := h3 z hz
  rw [hu] at h4
  have hbb := ((Below.refl _ w).alloc (Nat.le_refl _) (Obj.cells #[Value.slice A n c, Value.slice (some ⟨b, o, none⟩) n d] 71))
  have HB0 := hide hbb
  have a4 := (hbb.cell (p := ⟨b, o + x, none⟩) hb).trans h1
  have a6 := (hbb.cell (p := ⟨bx, ox + z, none⟩) h2).trans h4
  have hxz : (x : Int) < n := by omega
  have hzz : (z : Int) < n := by omega
  clear hbb h1 h3 h4 hc hu hu2 hdt hdl h
  go_enter Try.func68, Try.ntmps68
  go_wp2_with fail
  go_ret
  exact ⟨rfl, HB0.out⟩
end Go.Proofs.Ytgahmfkmhaeniaa
namespace Go.Proofs.Ytgahmfkmhaeniaa
open Go Go.RowKit
set_option maxHeartbeats 2000000

set_option maxRecDepth 100000 in
theorem clead_any (A B : Option Addr) (n c d : Nat) (f : List (List Int)) (x y : Nat) (w : World) (h : CyHeld w A B n f) (hx : x < n) (hy : y < n) :
    Calls Try.prog 107 #[.agg #[.slice A n c, .slice B n d], .agg #[.int .i64 x, .int .i64 y]] w fun e w' => e = .returned (.agg #[.int .i64 (csH1 f x y), .int .i64 (csH2 f x y)]) ∧ Below w.heap.size w w' := by
  have HC := hide h
  have hs := sol_lt h.cyc.tbl h.cyc.prm h.len hx hy
  unfold csH1 csH2
  obtain ⟨u, hu⟩ : ∃ u, sol f x y = u := ⟨_, rfl⟩
  rw [hu] at hs ⊢
  obtain ⟨v, hv⟩ : ∃ v, ap f u x = v := ⟨_, rfl⟩
  rw [hv]
  have HU := hide hu
  have HV := hide hv
  clear h hu hv
  go_enter Try.func107, Try.ntmps107
  go_upto_region 1 with fail
  refine wp_gen fun w1 hw1 => ?_
  have HBc : Hid (Below w.heap.size w w1) := hide (by rw [hw1]; exact (((Below.refl _ _).alloc (Nat.le_refl _) _).alloc (by simp) _).alloc (by simp; omega) _)
  have HKc : Hid (Blk w1 w.heap.size 71 [.slice A n c, .slice B n d]) := hide (by rw [hw1]; exact ((Blk.new _ _ _).alloc _).alloc _)
  have HPc : Hid (Blk w1 (w.heap.size + 1) 104 [.int .i64 x, .int .i64 y]) := hide (by rw [hw1]; have h := (Blk.new (w.alloc (Obj.cells #[.slice A n c, .slice B n d] 71)) 104 [.int .i64 x, .int .i64 y]).alloc (Obj.cells #[Value.int IntKind.i64 0, Value.int IntKind.i64 0] 104); simpa using h)
  have HRc : Hid (Blk w1 (w.heap.size + 1 + 1) 104 [.int .i64 0, .int .i64 0]) := hide (by rw [hw1]; have h := (Blk.new ((w.alloc (Obj.cells #[.slice A n c, .slice B n d] 71)).alloc (Obj.cells #[Value.int IntKind.i64 x, Value.int IntKind.i64 y] 104)) 104 [.int .i64 0, .int .i64 0]); simpa using h)
  clear hw1
  have k0 := HKc.out.cell 0 _ rfl
  have k1 := HKc.out.cell 1 _ rfl
  have p0 := HPc.out.cell 0 _ rfl
  have p1 := HPc.out.cell 1 _ rfl
  go_wp2_with fail
  refine (solve_any A B n c d f x y _ (HC.out.later HBc.out) hx hy).mono ?_
  rintro e w2 ⟨rfl, hb2⟩
  rw [HU.out]
  replace HBc := hide (HBc.out.trans (hb2.mono HBc.out.size))
  replace HKc := hide (HKc.out.later hb2)
  replace HPc := hide (HPc.out.later hb2)
  replace HRc := hide (HRc.out.later hb2)
  clear hb2 k0 k1 p0 p1
  have k0 := HKc.out.cell 0 _ rfl
  have p0 := HPc.out.cell 0 _ rfl
  go_wp2_with fail
  refine (dot_any _ _ _ f u x v _ HC.out.len HC.out.cyc.tbl (HC.out.rd.later HBc.out) hs hx HV.out).mono ?_
  rintro e w3 ⟨rfl, hb3⟩
  replace HBc := hide (HBc.out.trans (hb3.mono HBc.out.size))
  replace HRc := hide (HRc.out.later hb3)
  clear hb3 k0 p0
  have r0 := HRc.out.cell 0 _ rfl
  have r1 := HRc.out.cell 1 _ rfl
  have f0 := HRc.out.frozen 0
  have f1 := HRc.out.frozen 1
  go_wp2_with fail
  refine bp_gen fun wf hwf => ?_
  have HRF : Blk wf (w.heap.size + 1 + 1) 104 [.int .i64 u, .int .i64 v] := by rw [hwf]; first | exact ((HRc.out.set 0 _).set 1 _) | exact ((HRc.out.set 0 _).set 1 _).drew
  have HBF : Below w.heap.size w wf := by rw [hwf]; first | exact ((HBc.out.setCell (by show w.heap.size ≤ w.heap.size + 1 + 1; omega) _).setCell (by show w.heap.size ≤ w.heap.size + 1 + 1; omega) _) | exact ((HBc.out.setCell (by show w.heap.size ≤ w.heap.size + 1 + 1; omega) _).setCell (by show w.heap.size ≤ w.heap.size + 1 + 1; omega) _).drew
  have q0 := HRF.cell 0 _ rfl
  have q1 := HRF.cell 1 _ rfl
  clear hwf r0 r1 f0 f1
  exact bodyPost_ret (v := .agg #[.int .i64 u, .int .i64 v]) (by simp [results, Try.results107, go_sem, q0, q1]) rfl ⟨rfl, HBF⟩

set_option maxRecDepth 100000 in
theorem csolution_any (A B : Option Addr) (n c d : Nat) (f : List (List Int)) (w : World) (h : CyHeld w A B n f) :
    Calls Try.prog 70 #[.agg #[.slice A n c, .slice B n d]] w fun e w' => ∃ A' c' B' d', e = .returned (.agg #[.slice A' n c', .slice B' n d']) ∧ Below w.heap.size w w' ∧ ObjZ 31 2 w.heap.size w'.heap.size w' A' (grid n (csH1 f)) B' (grid n (csH2 f)) := by
  have h1 : 1 ≤ n := by rw [← h.len]; exact h.cyc.tbl.1
  have h12 : n ≤ 12 := by rw [← h.len]; exact h.cyc.le
  have HC := hide h
  have HB0 := hide (((Below.refl _ w).alloc (Nat.le_refl _) (Obj.cells #[Value.slice A n c, Value.slice B n d] 71)).alloc (by simp) (Obj.cells #[.slice none 0 0, .slice none 0 0] 41))
  have HK0 := hide ((Blk.new w 71 [.slice A n c, .slice B n d]).alloc (Obj.cells #[.slice none 0 0, .slice none 0 0] 41))
  have HR0 : Hid (Blk ((w.alloc (Obj.cells #[Value.slice A n c, Value.slice B n d] 71)).alloc (Obj.cells #[.slice none 0 0, .slice none 0 0] 41)) (w.heap.size + 1) 41 [.slice none 0 0, .slice none 0 0]) := hide (by have h := Blk.new (w.alloc (Obj.cells #[Value.slice A n c, Value.slice B n d] 71)) 41 [.slice none 0 0, .slice none 0 0]; simpa using h)
  clear h
  go_enter Try.func70, Try.ntmps70
  go_upto_region 1 with fail
  refine wp_gen fun w0 hw0 => ?_
  have HBc : Hid (Below w.heap.size w w0) := hide (by rw [hw0]; exact HB0.out)
  have HKc : Hid (Blk w0 w.heap.size 71 [.slice A n c, .slice B n d]) := hide (by rw [hw0]; exact HK0.out)
  have HRc : Hid (Blk w0 (w.heap.size + 1) 41 [.slice none 0 0, .slice none 0 0]) := hide (by rw [hw0]; exact HR0.out)
  clear hw0
  have k0 := HKc.out.cell 0 _ rfl
  have k1 := HKc.out.cell 1 _ rfl
  have r0 := HRc.out.cell 0 _ rfl
  have r1 := HRc.out.cell 1 _ rfl
  have f0 := HRc.out.frozen 0
  have f1 := HRc.out.frozen 1
  have n0 : w.heap.size + 1 ≠ w.heap.size := by omega
  have n1 := n0.symm
  go_wp2_with fail
  go_region_held3 (fun w' => w'.cell? ⟨w.heap.size, 0, none⟩ = some (.slice A n c) ∧ w'.cell? ⟨w.heap.size, 1, none⟩ = some (.slice B n d)) (first | exact ⟨k0, k1⟩ | go_keep) (first | (go_at_call 67; go_must (refine calls_gen fun wc hwc => ?_; (first | have hbx := drew_below hwc | have hbx := eq_below hwc); replace HBc := hide (HBc.out.trans (hbx.mono HBc.out.size)); replace HKc := hide (HKc.out.later hbx); replace HRc := hide (HRc.out.later hbx); clear hwc hbx; refine (dsize_any _ _ _ _ (by omega)).mono ?_; rintro e wd ⟨rfl, hbd⟩; replace HBc := hide (HBc.out.trans (hbd.mono HBc.out.size)); replace HKc := hide (HKc.out.later hbd); replace HRc := hide (HRc.out.later hbd); clear hbd; have k0 := HKc.out.cell 0 _ rfl; have k1 := HKc.out.cell 1 _ rfl; have r0 := HRc.out.cell 0 _ rfl; have r1 := HRc.out.cell 1 _ rfl; have f0 := HRc.out.frozen 0; have f1 := HRc.out.frozen 1)) | (go_at_call 106; go_must (refine calls_gen fun wc hwc => ?_; (first | have hbx := drew_below hwc | have hbx := eq_below hwc); replace HBc := hide (HBc.out.trans (hbx.mono HBc.out.size)); replace HKc := hide (HKc.out.later hbx); replace HRc := hide (HRc.out.later hbx); clear hwc hbx; refine (pmp_any 107 (.agg #[.slice A n c, .slice B n d]) n (csH1 f) (csH2 f) _ (enters_of Try.func107 (by kernel_rfl) rfl) h1 h12 (fun W x y hx hy hbe => clead_any _ _ _ _ _ f x y W (HC.out.later (HBc.out.trans (hbe.mono HBc.out.size))) hx hy)).mono ?_; rintro e wd ⟨A3, c3, B3, d3, rfl, hbd, hobj⟩; have HSZ := hide HRc.out.lt; have HLO := hide HBc.out.size; have HO := hide (hobj); clear hobj; replace HBc := hide (HBc.out.trans (hbd.mono HBc.out.size)); replace HKc := hide (HKc.out.later hbd); replace HRc := hide (HRc.out.later hbd); clear hbd; have k0 := HKc.out.cell 0 _ rfl; have k1 := HKc.out.cell 1 _ rfl; have r0 := HRc.out.cell 0 _ rfl; have r1 := HRc.out.cell 1 _ rfl; have f0 := HRc.out.frozen 0; have f1 := HRc.out.frozen 1)))
  all_goals
    clear k0 k1 r0 r1 f0 f1
    go_wp2_with fail
    refine bp_gen fun wf hwf => ?_
    obtain ⟨q0, q1, hbf, hof⟩ := zend hwf HRc.out (by omega) HSZ.out HBc.out HLO.out HO.out
    clear hwf
    exact bodyPost_ret (v := .agg #[.slice A3 n c3, .slice B3 n d3]) (by simp [results, Try.results70, go_sem, q0, q1]) rfl ⟨_, _, _, _, rfl, hbf, hof⟩

set_option maxRecDepth 100000 in
theorem csoI_any (A : Option Addr) (n c : Nat) (f : List (List Int)) (zf zg : List (List Int)) (code : Int) (k kw : Nat) (w : World) (hn : f.length = n) (hb : n ≤ 1048576) (hbs : ∀ i, i < f.length → (f.getD i []).length ≤ 1048576) (hr : Rd2 w A f) (hres : CsoRes f zf zg code) (hk : ZSz 1048576 zf k zg kw) :
    Calls Try.prog 31 #[.agg #[.slice A n c]] w (fun e w' => ∃ A' c' B' d', e = .returned (.tuple #[.agg #[.slice A' k c', .slice B' kw d'], .int .i64 code]) ∧ Below w.heap.size w w' ∧ ObjZ 31 2 w.heap.size w'.heap.size w' A' zf B' zg) := by
  have HN := hide hn
  have HBS := hide hbs
  have HRD := hide hr
  have HB0 := hide (((Below.refl _ w).alloc (Nat.le_refl _) (Obj.cells #[Value.slice A n c] 27)).alloc (by simp) (Obj.cells #[.slice none 0 0, .slice none 0 0] 41))
  have HK0 := hide ((Blk.new w 27 [.slice A n c]).alloc (Obj.cells #[.slice none 0 0, .slice none 0 0] 41))
  have HR0 : Hid (Blk ((w.alloc (Obj.cells #[Value.slice A n c] 27)).alloc (Obj.cells #[.slice none 0 0, .slice none 0 0] 41)) (w.heap.size + 1) 41 [.slice none 0 0, .slice none 0 0]) := hide (by have h := Blk.new (w.alloc (Obj.cells #[Value.slice A n c] 27)) 41 [.slice none 0 0, .slice none 0 0]; simpa using h)
  rcases hres with ⟨hcy, rfl, rfl, rfl⟩ | ⟨hcy, rfl, rfl, rfl⟩
  · have hk1 : k = n := by rw [← hk.fl, grid_length, hn]
    have hk2 : kw = n := by rw [← hk.sl, grid_length, hn]
    subst hk1
    subst hk2
    rw [hn]
    clear hn hbs hr hk
    have HCY := hide hcy
    have HTB := hide hcy.tbl
    have h1 : 1 ≤ kw := by rw [← HN.out]; exact HTB.out.1
    have h12 : kw ≤ 12 := by rw [← HN.out]; exact HTB.out.2.1
    have HCR : Hid (CyRes f true) := hide ⟨fun _ => HCY.out, fun _ => rfl⟩
    clear hcy
    go_enter Try.func31, Try.ntmps31
    have k0 := HK0.out.cell 0 _ rfl
    go_upto_region 1 with fail
    go_wp2_with fail
    refine (tested_any _ _ _ f true _ HN.out hb HBS.out (HRD.out.later HB0.out) HCR.out).mono ?_
    rintro e w1 (⟨_, B, d, rfl, hb1, hiv⟩ | ⟨h, _⟩)
    rotate_left
    · exact absurd h (by simp)
    have HB1 := hide (HB0.out.trans (hb1.mono HB0.out.size))
    have HIV1 : Hid (Rd2 w1 B (dualL f)) := hide (Obj2.rd hiv)
    replace HR0 := hide (HR0.out.later hb1)
    clear hb1 hiv k0
    go_upto_region 4 with fail
    refine wp_gen fun w2 hw2 => ?_
    obtain ⟨P, hP⟩ : ∃ P, w1.heap.size = P := ⟨_, rfl⟩
    have hq : Below w1.heap.size w1 w2 := by rw [hw2]; exact (Below.refl _ _).alloc (Nat.le_refl _) _
    have HBc := hide (HB1.out.trans (hq.mono HB1.out.size))
    have HKc : Hid (Blk w2 P 71 [.slice A kw c, .slice B kw d]) := hide (by rw [hw2, ← hP]; exact Blk.new _ _ _)
    have HIV := hide (HIV1.out.later hq)
    replace HR0 := hide (HR0.out.later hq)
    rw [hP]
    clear hw2 hq HB1 HIV1 hP
    have k0 := HKc.out.cell 0 _ rfl
    have k1 := HKc.out.cell 1 _ rfl
    go_wp2_with fail
    refine (csolution_any A B kw c d f _ ⟨HN.out, HCY.out, HRD.out.later HBc.out, HIV.out⟩).mono ?_
    rintro e w3 ⟨A3, c3, B3, d3, rfl, hb3, hobj⟩
    have HR3 := hide (HR0.out.later hb3)
    have HO := hide hobj
    have HLT := hide HR0.out.lt
    have HLO := hide HBc.out.size
    have HB3 := hide (HBc.out.trans (hb3.mono HBc.out.size))
    clear hb3 hobj k0 k1
    have k2 := HR3.out.cell 0 _ rfl
    have k3 := HR3.out.cell 1 _ rfl
    have k4 := HR3.out.frozen 0
    have k5 := HR3.out.frozen 1
    go_wp2_with fail
    refine bp_gen fun wf hwf => ?_
    obtain ⟨q0, q1, hbf, hof⟩ := zend hwf HR3.out (by omega) HLT.out HB3.out HLO.out HO.out
    clear hwf k2 k3 k4 k5
    exact bodyPost_ret (v := .tuple #[.agg #[.slice A3 kw c3, .slice B3 kw d3], .int .i64 0]) (by simp [results, Try.results31, go_sem, q0, q1]) rfl ⟨_, _, _, _, rfl, hbf, hof⟩
  · have hk1 : k = 0 := by rw [← hk.fl]; rfl
    have hk2 : kw = 0 := by rw [← hk.sl]; rfl
    subst hk1
    subst hk2
    clear hn hbs hr hk
    have HCR : Hid (CyRes f false) := hide ⟨fun h => (by cases h), fun h => absurd h hcy⟩
    clear hcy
    go_enter Try.func31, Try.ntmps31
    have k0 := HK0.out.cell 0 _ rfl
    go_upto_region 1 with fail
    go_wp2_with fail
    refine (tested_any _ _ _ f false _ HN.out hb HBS.out (HRD.out.later HB0.out) HCR.out).mono ?_
    rintro e w1 (⟨h, _⟩ | ⟨_, rfl, hb1⟩)
    · exact absurd h (by simp)
    have HB1 := hide (HB0.out.trans (hb1.mono HB0.out.size))
    have HR1 := hide (HR0.out.later hb1)
    clear hb1 k0
    go_upto_region 2 with fail
    refine wp_gen fun w2 hw2 => ?_
    have HB2 : Hid (Below w.heap.size w w2) := hide (by rw [hw2]; exact HB1.out.alloc HB1.out.size _)
    have HR2 : Hid (Blk w2 (w.heap.size + 1) 41 [.slice none 0 0, .slice none 0 0]) := hide (by rw [hw2]; exact HR1.out.alloc _)
    clear hw2 HB1 HR1
    have k2 := HR2.out.cell 0 _ rfl
    have k3 := HR2.out.frozen 0
    have k4 := HR2.out.cell 1 _ rfl
    have k5 := HR2.out.frozen 1
    go_wp2_with fail
    refine bp_gen fun wf hwf => ?_
    have HRF : Blk wf (w.heap.size + 1) 41 [.slice none 0 0, .slice none 0 0] := by rw [hwf]; first | exact HR2.out | exact HR2.out.set 0 _ | exact (HR2.out.set 0 _).set 1 _
    have hbf : Below w.heap.size w wf := by rw [hwf]; first | exact HB2.out | exact HB2.out.setCell (p := ⟨w.heap.size + 1, 0, none⟩) (by show w.heap.size ≤ w.heap.size + 1; omega) _ | exact (HB2.out.setCell (p := ⟨w.heap.size + 1, 0, none⟩) (by show w.heap.size ≤ w.heap.size + 1; omega) _).setCell (p := ⟨w.heap.size + 1, 1, none⟩) (by show w.heap.size ≤ w.heap.size + 1; omega) _
    have q0 := HRF.cell 0 _ rfl
    have q1 := HRF.cell 1 _ rfl
    clear hwf k2 k3
    exact bodyPost_ret (v := .tuple #[.agg #[.slice none 0 0, .slice none 0 0], .int .i64 1]) (by simp [results, Try.results31, go_sem, q0, q1]) rfl ⟨_, _, _, _, rfl, hbf, ObjZ.empty hbf.size⟩
end Go.Proofs.Ytgahmfkmhaeniaa
namespace Go.Proofs.Ytgahmfkmhaeniaa
open Go Go.RowKit
set_option maxHeartbeats 2000000

set_option maxRecDepth 100000 in
theorem faultD_any (A : Option Addr) (n c : Nat) (f : List (List Int)) (T : Nat) (w : World) (hn : f.length = n) (ht : Tbl f) (hr : Rd2 w A f) (hT : FirstQ (cyq f) n T) :
    Calls Try.prog 58 #[.slice A n c] w fun e w' => (T = n * n * n ∧ ∃ g, e = .returned (.slice (some ⟨g, 0, none⟩) 0 0) ∧ Below w.heap.size w w') ∨ (T < n * n * n ∧ ∃ g, e = .returned (.slice (some ⟨g, 0, none⟩) 3 3) ∧ Below w.heap.size w w' ∧ w.heap.size ≤ g ∧ OwnB 2 w' g (lst3 (trip n T))) := by
  have h1 : 1 ≤ n := by rw [← hn]; exact ht.1
  have h12 : n ≤ 12 := by rw [← hn]; exact ht.2.1
  obtain ⟨b, o, rfl, hb, hc⟩ := ht.cells hr hn
  have HC := hide hc
  have HN := hide hn
  have HTB := hide ht
  have HT := hide hT
  clear hn ht hr hT hc
  go_enter Try.func58, Try.ntmps58
  go_wp2_with fail
  go_loopw [4] (fun i wr => ∃ x : Nat, x ≤ n ∧ i = .int .i64 x ∧ Quiet w wr ∧ ∀ i, i < x * n * n → qAt (cyq f) n i = false) (fun i _ => n - (intOf i).toNat)
  case atStart => exact ⟨0, Nat.zero_le _, rfl, Quiet.refl _, fun i hi => absurd hi (by omega)⟩
  case round =>
    obtain ⟨x, hx, rfl, hq, hall⟩ := hrel
    have HQ := hide hq
    clear hq
    have HALL := hide hall
    clear hall
    by_cases hlt : x < n
    · have hxz : (x : Int) < n := by omega
      go_wp2_with fail
      go_loopw [5] (fun i wi => ∃ y : Nat, y ≤ n ∧ i = .int .i64 y ∧ Quiet w wi ∧ ∀ i, i < (x * n + y) * n → qAt (cyq f) n i = false) (fun i _ => n - (intOf i).toNat)
      case atStart => exact ⟨0, Nat.zero_le _, rfl, HQ.out, fun i hi => HALL.out i (by rw [Nat.add_zero] at hi; exact hi)⟩
      case round =>
        obtain ⟨y, hy, rfl, hq, halli⟩ := hrel
        have HQI := hide hq
        clear hq
        have HALLI := hide halli
        clear halli
        by_cases hlty : y < n
        · have hyz : (y : Int) < n := by omega
          go_wp2_with fail
          go_loopw [6] (fun i wi => ∃ z : Nat, z ≤ n ∧ i = .int .i64 z ∧ Quiet w wi ∧ ∀ i, i < (x * n + y) * n + z → qAt (cyq f) n i = false) (fun i _ => n - (intOf i).toNat)
          case atStart => exact ⟨0, Nat.zero_le _, rfl, HQI.out, HALLI.out⟩
          case round =>
            obtain ⟨z, hzn, rfl, hq, hallj⟩ := hrel
            have HQJ := hide hq
            clear hq
            have HALLJ := hide hallj
            clear hallj
            by_cases hltz : z < n
            · have hzz : (z : Int) < n := by omega
              have hq1 := HTB.out.ap_lt HN.out hlt hlty
              have hq3 := HTB.out.ap_lt HN.out hlty hlt
              have hq2 := HTB.out.ap_lt HN.out hlt hltz
              have hq4 := HTB.out.ap_lt HN.out hlty hltz
              have hat := qAt_at (q := cyq f) (n := n) (x := x) hlty hltz
              have HTR := hide (trip_of (n := n) (x := x) hlty hltz)
              have HKL := hide (trip_lt (n := n) hlt hlty hltz)
              unfold cyq at hat
              obtain ⟨q1, h_1⟩ : ∃ u, ap f x y = u := ⟨_, rfl⟩
              obtain ⟨q2, h_2⟩ : ∃ u, ap f x z = u := ⟨_, rfl⟩
              obtain ⟨q3, h_3⟩ : ∃ u, ap f y x = u := ⟨_, rfl⟩
              obtain ⟨q4, h_4⟩ : ∃ u, ap f y z = u := ⟨_, rfl⟩
              rw [h_1, h_2, h_3, h_4] at hat
              rw [h_1] at hq1
              rw [h_2] at hq2
              rw [h_3] at hq3
              rw [h_4] at hq4
              obtain ⟨q5, h_5⟩ : ∃ u, ap f q1 q2 = u := ⟨_, rfl⟩
              obtain ⟨q6, h_6⟩ : ∃ u, ap f q3 q4 = u := ⟨_, rfl⟩
              rw [h_5, h_6] at hat
              have HAT : Hid (qAt (cyq f) n ((x * n + y) * n + z) = !decide (q5 = q6)) := hide hat
              obtain ⟨bx, ox, cx, r1, r2, r3⟩ := HC.out x hlt
              obtain ⟨by', oy, cy, s1, s2, s3⟩ := HC.out y hlty
              obtain ⟨bp, op, cp, t1, t2, t3⟩ := HC.out q1 hq1
              obtain ⟨bq, oq, cq, v1, v2, v3⟩ := HC.out q3 hq3
              have e1 := r3 y hlty
              rw [h_1] at e1
              have e2 := r3 z hltz
              rw [h_2] at e2
              have e3 := s3 x hlt
              rw [h_3] at e3
              have e4 := s3 z hltz
              rw [h_4] at e4
              have e5 := t3 q2 hq2
              rw [h_5] at e5
              have e6 := v3 q4 hq4
              rw [h_6] at e6
              have z1 : (q1 : Int) < n := by omega
              have z2 : (q2 : Int) < n := by omega
              have z3 : (q3 : Int) < n := by omega
              have z4 : (q4 : Int) < n := by omega
              have hbl := HQJ.out.below w.heap.size
              replace r1 := (hbl.cell (p := ⟨b, o + x, none⟩) hb).trans r1
              replace s1 := (hbl.cell (p := ⟨b, o + y, none⟩) hb).trans s1
              replace t1 := (hbl.cell (p := ⟨b, o + q1, none⟩) hb).trans t1
              replace v1 := (hbl.cell (p := ⟨b, o + q3, none⟩) hb).trans v1
              replace e1 := (hbl.cell (p := ⟨bx, ox + y, none⟩) r2).trans e1
              replace e2 := (hbl.cell (p := ⟨bx, ox + z, none⟩) r2).trans e2
              replace e3 := (hbl.cell (p := ⟨by', oy + x, none⟩) s2).trans e3
              replace e4 := (hbl.cell (p := ⟨by', oy + z, none⟩) s2).trans e4
              replace e5 := (hbl.cell (p := ⟨bp, op + q2, none⟩) t2).trans e5
              replace e6 := (hbl.cell (p := ⟨bq, oq + q4, none⟩) v2).trans e6
              clear hbl h_1 h_2 h_3 h_4 h_5 h_6 hat r3 s3 t3 v3
              by_cases hcs : q5 = q6
              · have HGOOD : Hid (qAt (cyq f) n ((x * n + y) * n + z) = false) := hide (by rw [HAT.out, hcs]; simp)
                subst hcs
                go_wp2_with fail
                go_quiet (fail)
                go_wp2_with fail
                go_roundw
                case rel => exact ⟨z + 1, by omega, by go_num, HQJ.out.drewN _, fun i hi => by
                  by_cases e : i = (x * n + y) * n + z
                  · rw [e]; exact HGOOD.out
                  · exact HALLJ.out i (by omega)⟩
                case measure => simp [intOf]; omega
              · have hbad : qAt (cyq f) n ((x * n + y) * n + z) = true := by rw [HAT.out]; simp [hcs]
                have HTB2 := hide (HT.out.bad HALLJ.out HKL.out hbad)
                have hcz : ¬ (q5 : Int) = q6 := by omega
                clear hbad
                go_wp2_with fail
                go_quiet (fail)
                go_wp2_with fail
                refine bp_gen fun wf hwf => ?_
                have HBF : Below w.heap.size w wf := by rw [hwf]; exact ((HQJ.out.drewN nq).below _).alloc ((HQJ.out.drewN nq).below 0).size _
                have HLF : Hid (Blk wf (wr.drewN nq).heap.size 2 [.int .i64 x, .int .i64 y, .int .i64 z]) := hide (by rw [hwf]; exact Blk.new _ _ _)
                have hlo : w.heap.size ≤ (wr.drewN nq).heap.size := ((HQJ.out.drewN nq).below 0).size
                clear hwf
                go_ret
                exact .inr ⟨by rw [HTB2.out]; exact HKL.out, _, rfl, HBF, hlo, _, HLF.out, fun i hi => by
                  rw [HTB2.out, HTR.out] at hi ⊢
                  simp [lst3] at hi
                  rcases i with _ | _ | _ | i
                  · rfl
                  · rfl
                  · rfl
                  · omega⟩
            · have hzn' : z = n := by omega
              subst hzn'
              go_wp2_with fail
              go_roundw
              case rel => exact ⟨y + 1, by omega, by go_num, HQJ.out, fun i hi => HALLJ.out i (by rw [← Nat.add_assoc, Nat.add_mul _ 1, Nat.one_mul] at hi; exact hi)⟩
              case measure => simp [intOf]; omega
        · have hyn' : y = n := by omega
          subst hyn'
          go_wp2_with fail
          go_roundw
          case rel => exact ⟨x + 1, by omega, by go_num, HQI.out, fun i hi => HALLI.out i (by rw [Nat.add_mul x 1, Nat.one_mul] at hi; exact hi)⟩
          case measure => simp [intOf]; omega
    · have hxn : x = n := by omega
      subst hxn
      go_wp2_with fail
      refine bp_gen fun wf hwf => ?_
      have HBF : Below w.heap.size w wf := by rw [hwf]; exact (HQ.out.below _).alloc (HQ.out.below 0).size _
      clear hwf
      go_ret
      exact .inl ⟨HT.out.all HALL.out, _, rfl, HBF⟩

set_option maxRecDepth 100000 in
theorem squaresS_any (A : Option Addr) (n c : Nat) (f : List (List Int)) (w : World) (hn : f.length = n) (ht : Tbl f) (hr : Rd2 w A f) :
    Calls Try.prog 62 #[.slice A n c] w fun e w' => ∃ A' c', e = .returned (.slice A' n c') ∧ Below w.heap.size w w' ∧ Res 2 w.heap.size w' A' (kinkL f) := by
  have h1 : 1 ≤ n := by rw [← hn]; exact ht.1
  have h12 : n ≤ 12 := by rw [← hn]; exact ht.2.1
  obtain ⟨b, o, rfl, hb, hc⟩ := ht.cells hr hn
  have HC := hide hc
  have HN := hide hn
  have HZ : Hid ((kinkL f).length = n) := hide ((kinkL_length f).trans hn)
  obtain ⟨i0, hi, hz0, hz1, hz2⟩ := info_parts kqInfo
  have HB0 := hide ((Below.refl _ w).alloc (Nat.le_refl _) (Obj.cells #[] 2))
  have HE0 := hide (kq_empty w 2)
  clear hn ht hr hc
  go_enter Try.func62, Try.ntmps62
  go_wp2_with fail
  go_loopw [3, 4] (fun v i wr => ∃ k : Nat, k ≤ n ∧ i = .int .i64 k ∧ Below w.heap.size w wr ∧ wr.ownsRow w.heap.size 2 1 v k (ints ((kinkL f).take k)) ∧ w.heap.size ≤ wr.heap.size) (fun _ i _ => n - (intOf i).toNat)
  case atStart => exact ⟨0, Nat.zero_le _, rfl, HB0.out, by simpa [ints] using HE0.out, by simp⟩
  case round =>
    obtain ⟨k, hk, rfl, hbe, hown, hsz⟩ := hrel
    have HB := hide hbe
    have HO := hide hown
    clear hbe hown
    by_cases hlt : k < n
    · obtain ⟨bx, ox, cx, r1, r2, r3⟩ := HC.out k hlt
      have e1 := r3 k hlt
      obtain ⟨u, hu⟩ : ∃ u, ap f k k = u := ⟨_, rfl⟩
      rw [hu] at e1
      have HU := hide hu
      replace r1 := (HB.out.cell (p := ⟨b, o + k, none⟩) hb).trans r1
      replace e1 := (HB.out.cell (p := ⟨bx, ox + k, none⟩) r2).trans e1
      clear r3 hu
      have hltz : (k : Int) < n := by omega
      go_wp2_with (at_builtin; refine wpList_append_own _ rfl _ _ 31 rfl w.heap.size 2 i0 (.int .i64 0) 1 8 Try.underlying31 hi hz0 hz1 hz2 rfl (by decide) _ _ _ rfl (HO.out.alloc _) ⟨wr.heap.size, 0, none⟩ 1 1 [.int .i64 (u : Int)] rfl rfl ?c1 ?c2 ?c3 ?c4 ?c5 ?_)
      case c1 => exact kq_new
      case c2 => intro u hu; simp at hu; subst hu; rfl
      case c3 => unfold maxLen; omega
      case c4 => omega
      case c5 => simp; omega
      intro v' w1 hown' hgrow _
      have HO' := hide hown'
      have HG := hide hgrow
      clear hown' hgrow
      go_wp2_with fail
      go_roundw
      case rel =>
        have hlow : w.heap.size ≤ wr.heap.size := by omega
        have hB1 : Below w.heap.size w w1 := (HB.out.alloc hlow _).grown HG.out (by simp; omega) (fun g hg => by have h := ((HO.out.alloc (.cells #[.int .i64 (u : Int)] 2)).lt g hg).1; omega)
        refine ⟨k + 1, by omega, by go_num, hB1, ?_, hB1.size⟩
        have h := HO'.out
        rw [kq_take _ k (u : Int) (by have := HZ.out; omega) (by rw [kinkL_getD f k (by have := HN.out; omega), HU.out])] at h
        exact h
      case measure => simp [intOf]; omega
    · have hkn : k = n := by omega
      subst hkn
      go_wp2_with fail
      have h := HO.out
      rw [List.take_of_length_le (by have := HZ.out; omega)] at h
      go_ret
      obtain ⟨A', c', hv, hres⟩ := own_shape h
      exact ⟨A', c', by rw [← hv]; rfl, HB.out, hres.mono (by omega)⟩

set_option maxRecDepth 100000 in
theorem isCycS (A : Option Addr) (n c : Nat) (f : List (List Int)) (r : Bool) (w : World) (hn : f.length = n) (hb : n ≤ 1048576) (hbs : ∀ i, i < f.length → (f.getD i []).length ≤ 1048576) (hr : Rd2 w A f) (hres : CyRes f r) :
    Calls Try.prog 53 #[.agg #[.slice A n c]] w fun e w' => e = .returned (.bool r) ∧ Below w.heap.size w w' := by
  have HN := hide hn
  have HBS := hide hbs
  have HRD := hide hr
  have HR := hide hres
  have HB0 := hide ((Below.refl _ w).alloc (Nat.le_refl _) (Obj.cells #[Value.slice A n c] 27))
  have HK0 := hide (Blk.new w 27 [.slice A n c])
  have hno : ¬ Cyc f → r = false := fun h => by
    cases r
    · rfl
    · exact absurd (hres.1 rfl) h
  have HNO := hide hno
  have hyes : Cyc f → r = true := fun h => hres.2 h
  have HYES := hide hyes
  clear hno hyes hn hbs hr hres
  by_cases ht : Tbl f
  · have HTB := hide ht
    clear ht
    have h12 : n ≤ 12 := by rw [← HN.out]; exact HTB.out.2.1
    go_enter Try.func53, Try.ntmps53
    go_wp2_with fail
    refine (l01Table_any _ _ _ f true _ HN.out (by omega) (fun i hi => by have := HBS.out i hi; omega) (HRD.out.later HB0.out) (by simp [HTB.out])).mono ?_
    rintro e w1 ⟨rfl, hq1⟩
    have HB1 := hide (HB0.out.trans (hq1.below _))
    have HK1 := hide (HK0.out.later (hq1.below _))
    clear hq1
    have k0 := HK1.out.cell 0 _ rfl
    by_cases hp : AllPrm f
    · have HP := hide hp
      clear hp
      go_wp2_with fail
      clear k0
      refine (rowsS_any _ _ _ f true _ HN.out hb HBS.out (HRD.out.later HB1.out) ⟨fun _ => HP.out, fun _ => rfl⟩).mono ?_
      rintro e w2 ⟨rfl, hb2⟩
      have HB2 := hide (HB1.out.trans (hb2.mono HB1.out.size))
      have HK2 := hide (HK1.out.later hb2)
      clear hb2
      have k0 := HK2.out.cell 0 _ rfl
      go_wp2_with fail
      clear k0
      refine (squaresS_any _ _ _ f _ HN.out HTB.out (HRD.out.later HB2.out)).mono ?_
      rintro e w3 ⟨A3, c3, rfl, hb3, hres3⟩
      have HB3 := hide (HB2.out.trans (hb3.mono HB2.out.size))
      have HK3 := hide (HK2.out.later hb3)
      have HS3 := hide hres3.rd
      clear hb3 hres3
      by_cases hs : Prm (kinkL f)
      · have HS := hide hs
        clear hs
        go_wp2_with fail
        refine (prmS_below _ _ _ (kinkL f) true _ ((kinkL_length f).trans HN.out) (by omega) HS3.out (by simp [HS.out])).mono ?_
        rintro e w4 ⟨rfl, hb4⟩
        have HB4 := hide (HB3.out.trans (hb4.mono HB3.out.size))
        have HK4 := hide (HK3.out.later hb4)
        clear hb4
        have k0 := HK4.out.cell 0 _ rfl
        go_wp2_with fail
        clear k0
        obtain ⟨T, hT⟩ := FirstQ.ex (cyq f) n
        have HT := hide hT
        clear hT
        refine (faultD_any _ _ _ f T _ HN.out HTB.out (HRD.out.later HB4.out) HT.out).mono ?_
        rintro e w5 (⟨hTe, g, rfl, hb5⟩ | ⟨hTl, g, rfl, hb5, hg, hob⟩)
        · have hrt : r = true := HYES.out ⟨⟨HTB.out, HP.out⟩, HS.out, by rw [HN.out]; exact HT.out.iff.1 hTe⟩
          subst hrt
          have HB5 := hide (HB4.out.trans (hb5.mono HB4.out.size))
          clear hb5 hTe
          go_wp2_with fail
          go_ret
          exact ⟨rfl, HB5.out⟩
        · have hrf : r = false := HNO.out fun h => by
            have h := h.2.2
            rw [HN.out] at h
            have := HT.out.iff.2 h
            omega
          subst hrf
          have HB5 := hide (HB4.out.trans (hb5.mono HB4.out.size))
          clear hb5 hTl hob
          go_wp2_with fail
          go_ret
          exact ⟨rfl, HB5.out⟩
      · have HS := hide hs
        clear hs
        go_wp2_with fail
        refine (prmS_below _ _ _ (kinkL f) false _ ((kinkL_length f).trans HN.out) (by omega) HS3.out (by simp [HS.out])).mono ?_
        rintro e w4 ⟨rfl, hb4⟩
        have HB4 := hide (HB3.out.trans (hb4.mono HB3.out.size))
        clear hb4
        have hrf : r = false := HNO.out fun h => HS.out h.2.1
        subst hrf
        go_wp2_with fail
        go_ret
        exact ⟨rfl, HB4.out⟩
    · have HP := hide hp
      clear hp
      go_wp2_with fail
      clear k0
      refine (rowsS_any _ _ _ f false _ HN.out hb HBS.out (HRD.out.later HB1.out) ⟨fun h => (by cases h), fun h => absurd h HP.out⟩).mono ?_
      rintro e w2 ⟨rfl, hb2⟩
      have HB2 := hide (HB1.out.trans (hb2.mono HB1.out.size))
      clear hb2
      have hrf : r = false := HNO.out fun h => HP.out h.prm
      subst hrf
      go_wp2_with fail
      go_ret
      exact ⟨rfl, HB2.out⟩
  · have HTB := hide ht
    clear ht
    have hrf : r = false := HNO.out fun h => HTB.out h.tbl
    subst hrf
    go_enter Try.func53, Try.ntmps53
    go_wp2_with fail
    refine (l01Table_any _ _ _ f false _ HN.out (by omega) (fun i hi => by have := HBS.out i hi; omega) (HRD.out.later HB0.out) (by simp [HTB.out])).mono ?_
    rintro e w1 ⟨rfl, hq1⟩
    have HB1 := hide (HB0.out.trans (hq1.below _))
    clear hq1
    go_wp2_with fail
    go_ret
    exact ⟨rfl, HB1.out⟩
end Go.Proofs.Ytgahmfkmhaeniaa
namespace Go.Proofs.Ytgahmfkmhaeniaa
open Go Go.RowKit

/-- What is asked of the function value: for each two elements, in each later world, it hands back a number, and leaves what there was. -/
def CellFn (P : Program) (F : FuncId) (lb : Array Value) (n : Nat) (h : Nat → Nat → Int) (w : World) : Prop :=
  ∀ (W : World) (x y : Nat), x < n → y < n → Below w.heap.size w W → Calls P F (#[.int .i64 x, .int .i64 y] ++ lb) W fun e w' => e = .returned (.int .i64 (h x y)) ∧ Below W.heap.size W w'
theorem CellFn.later {P : Program} {F : FuncId} {lb : Array Value} {n : Nat} {h : Nat → Nat → Int} {w w' : World} (hc : CellFn P F lb n h w) (hb : Below w.heap.size w w') : CellFn P F lb n h w' :=
  fun W x y hx hy hw => hc W x y hx hy (hb.trans (hw.mono hb.size))

/-- After k pairs. -/
def rfTo (h : Nat → Nat → Int) (n k : Nat) : Nat → Nat → Int := fun a b => if a * n + b < k then h a b else 0
theorem rfTo_upd (h : Nat → Nat → Int) (n k x y : Nat) (hx : k / n = x) (hy : k % n = y) (_hyn : y < n) : ∀ a b, a < n → b < n → (if a = x ∧ b = y then h x y else rfTo h n k a b) = rfTo h n (k + 1) a b := by
  intro a b _ hb
  have hk : k = x * n + y := by rw [← hx, ← hy]; exact (pair_eta n k).symm
  unfold rfTo
  by_cases e : a = x ∧ b = y
  · obtain ⟨rfl, rfl⟩ := e
    rw [if_pos ⟨rfl, rfl⟩, if_pos (by omega)]
  · rw [if_neg e]
    have hne : a * n + b ≠ k := fun hh => e (by
      have h1 := pair_div n a b hb
      have h2 := pair_mod n a b hb
      rw [hh] at h1 h2
      omega)
    by_cases h2 : a * n + b < k
    · rw [if_pos h2, if_pos (by omega)]
    · rw [if_neg h2, if_neg (by omega)]
theorem TabF.away {ts t : TypeId} {w : World} {g : Nat} {G : Nat → Nat} {n : Nat} {f : Nat → Nat → Int} (h : TabF ts t w g G n f) {p : Addr} (hg : g ≠ p.block) (hG : ∀ i, i < n → G i ≠ p.block) (v : Value) : TabF ts t (w.setCell p v) g G n f := by
  obtain ⟨C, r⟩ := h.top
  exact ⟨⟨C, r.far hg v⟩, fun i hi => (h.row i hi).far (hG i hi) v, h.ne, h.inj⟩
theorem PairsAt.away {w : World} {g n : Nat} (h : PairsAt w g n) {p : Addr} (hp : g ≠ p.block) (v : Value) : PairsAt (w.setCell p v) g n :=
  h.touch (lo := p.block) (hi := p.block + 1) ⟨rfl, rfl, rfl, by simp [World.setCell], fun k _ hne => Below.heap_setCell w p v k (by omega)⟩ (by omega)
end Go.Proofs.Ytgahmfkmhaeniaa
namespace Go.Proofs.Ytgahmfkmhaeniaa
open Go Go.RowKit
set_option maxHeartbeats 1000000

def hdr (G : Nat → Nat) (n x : Nat) : List Value := (List.range x).map fun i => .slice (some ⟨G i, 0, none⟩) n n
theorem hdr_length (G : Nat → Nat) (n x : Nat) : (hdr G n x).length = x := by simp [hdr]
theorem hdr_succ (G : Nat → Nat) (n x R : Nat) : hdr (fun i => if i = x then R else G i) n (x + 1) = hdr G n x ++ [.slice (some ⟨R, 0, none⟩) n n] := by
  unfold hdr
  rw [List.range_succ, List.map_append]
  congr 1
  · refine List.map_congr_left fun i hi => ?_
    have := List.mem_range.1 hi
    show Value.slice (some ⟨if i = x then R else G i, 0, none⟩) n n = _
    rw [if_neg (by omega)]
  · simp
section
variable {ts t tz : TypeId} {B : Nat} {w w' w1 : World} {ob : Nat} {v1 v2 v' : Value} {x1 x2 n : Nat} {G1 G2 : Nat → Nat}
/-- Two tables of zeros that the call builds row by row, in the box ob. -/
structure Emp (ts t : TypeId) (B : Nat) (w : World) (ob : Nat) (v1 v2 : Value) (x1 x2 n : Nat) (G1 G2 : Nat → Nat) : Prop where
  low : ob < B
  bsz : B ≤ w.heap.size
  o1 : w.ownsRow B ts 1 v1 x1 (hdr G1 n x1)
  o2 : w.ownsRow B ts 1 v2 x2 (hdr G2 n x2)
  ne : ∀ g, v1.ownBlock = some g → v2.ownBlock ≠ some g
  r1 : ∀ i, i < x1 → B ≤ G1 i ∧ PreIs w (G1 i) t n (fun _ => .int .i64 0)
  r2 : ∀ i, i < x2 → B ≤ G2 i ∧ PreIs w (G2 i) t n (fun _ => .int .i64 0)
  i1 : ∀ i j, i < x1 → j < x1 → i ≠ j → G1 i ≠ G1 j
  i2 : ∀ i j, i < x2 → j < x2 → i ≠ j → G2 i ≠ G2 j
  i12 : ∀ i j, i < x1 → j < x2 → G1 i ≠ G2 j

theorem Emp.start (w : World) (ts t : TypeId) (n : Nat) (h : ob < w.heap.size) : Emp ts t w.heap.size w ob (.slice none 0 0) (.slice none 0 0) 0 0 n (fun _ => 0) (fun _ => 0) :=
  ⟨h, Nat.le_refl _, World.ownsRow_nil _ _ _ _, World.ownsRow_nil _ _ _ _, fun g hg => by simp [Value.ownBlock] at hg, fun i hi => absurd hi (Nat.not_lt_zero _), fun i hi => absurd hi (Nat.not_lt_zero _), fun i j hi => absurd hi (Nat.not_lt_zero _), fun i j hi => absurd hi (Nat.not_lt_zero _), fun i j hi => absurd hi (Nat.not_lt_zero _)⟩

theorem PreIs.later' {b : Nat} {f : Nat → Value} (r : PreIs w b t n f) (hb : Below w.heap.size w w') : PreIs w' b t n f := r.of_block (hb.block b r.lt)

theorem Emp.swapped (h : Emp ts t B w ob v1 v2 x1 x2 n G1 G2) : Emp ts t B w ob v2 v1 x2 x1 n G2 G1 :=
  ⟨h.low, h.bsz, h.o2, h.o1, fun g h1 h2 => h.ne g h2 h1, h.r2, h.r1, h.i2, h.i1, fun i j hi hj e => h.i12 j i hj hi e.symm⟩

theorem pre_ne_own {b g : Nat} {f : Nat → Value} {v : Value} {k : Nat} {xs : List Value} (hne : ts ≠ t) (r : PreIs w b t n f) (h : w.ownsRow B ts 1 v k xs) (hg : v.ownBlock = some g) : b ≠ g := by
  intro e
  subst e
  obtain ⟨_, _, cur, h1⟩ := own_type h hg
  obtain ⟨cur', h2, _⟩ := r
  rw [h1] at h2
  injection h2 with h2
  injection h2 with _ h2
  exact hne h2

theorem Emp.kept (h : Emp ts t B w ob v1 v2 x1 x2 n G1 G2) {cs : List Value} (hk : Blk w ob tz cs) {W : World} (hbw : Below w.heap.size w W) (hg : W.grownBy w1 v1.ownBlock) : Blk w1 ob tz cs :=
  (hg.block ob (Nat.lt_of_lt_of_le hk.lt hbw.size) (fun e => by
    have := (own_type h.o1 e.symm).2.1
    have := h.low
    omega)).trans (hk.later hbw)
theorem Emp.keptR (h : Emp ts t B w ob v1 v2 x1 x2 n G1 G2) {b : Nat} {cs : List Value} (hk : Blk w b tz cs) (hb : b < B) (hne : b ≠ ob) {W : World} (hbw : Below w.heap.size w W) (hg : W.grownBy w1 v1.ownBlock) (q : Nat) (u : Value) : Blk (w1.setCell ⟨ob, q, none⟩ u) b tz cs :=
  (Below.heap_setCell w1 ⟨ob, q, none⟩ u b hne).trans ((hg.block b (Nat.lt_of_lt_of_le hk.lt hbw.size) (fun e => by
    have := (own_type h.o1 e.symm).2.1
    omega)).trans (hk.later hbw))
/-- What a row more in one list leaves. -/
theorem Emp.push (hne : ts ≠ t) (h : Emp ts t B w ob v1 v2 x1 x2 n G1 G2) {q : Nat} {W : World} (hbw : Below w.heap.size w W) (hWs : W.heap.size = w.heap.size + 1 + 1) (hWr : PreIs W w.heap.size t n (fun _ => .int .i64 0))
    (hown : w1.ownsRow B ts 1 v' (x1 + 1) (hdr G1 n x1 ++ [.slice (some ⟨w.heap.size, 0, none⟩) n n])) (hg : W.grownBy w1 v1.ownBlock)
    (hat : v'.ownBlock = v1.ownBlock ∨ v'.ownBlock = some (w.heap.size + 1 + 1)) :
    Emp ts t B (w1.setCell ⟨ob, q, none⟩ v') ob v' v2 (x1 + 1) x2 n (fun i => if i = x1 then w.heap.size else G1 i) G2 := by
  have hsz := hg.size
  rw [hWs] at hsz
  have hlow := h.low
  have hbsz := h.bsz
  have keep : ∀ b, b < w.heap.size → v1.ownBlock ≠ some b → b ≠ ob → (w1.setCell ⟨ob, q, none⟩ v').heap[b]? = w.heap[b]? := fun b h1 h2 h3 =>
    (Below.heap_setCell w1 ⟨ob, q, none⟩ v' b h3).trans ((hg.block b (by omega) (fun e => h2 e.symm)).trans (hbw.block b h1))
  have krow : ∀ b, B ≤ b → PreIs w b t n (fun _ => .int .i64 0) → PreIs (w1.setCell ⟨ob, q, none⟩ v') b t n (fun _ => .int .i64 0) := fun b hB r =>
    r.of_block (keep b r.lt (fun e => pre_ne_own hne r h.o1 e rfl) (by omega))
  have hnew : PreIs (w1.setCell ⟨ob, q, none⟩ v') w.heap.size t n (fun _ => .int .i64 0) := by
    refine hWr.of_block ((Below.heap_setCell w1 ⟨ob, q, none⟩ v' w.heap.size (by show w.heap.size ≠ ob; omega)).trans (hg.block _ (by omega) (fun e => ?_)))
    have := (own_type h.o1 e.symm).1
    omega
  refine ⟨hlow, by simp [World.setCell]; omega, ownsRow_setCell_below (by rw [hdr_succ]; exact hown) hlow _, ownsRow_setCell_below ((ownsRow_below h.o2 hbw).kept hg ?_) hlow _, fun g h1 h2 => ?_, fun i hi => ?_, fun i hi => ?_, fun i j hi hj hij => ?_, h.i2, fun i j hi hj => ?_⟩
  · by_cases e : v2.ownBlock = none
    · exact .inl e
    · refine .inr (fun e2 => ?_)
      cases e3 : v2.ownBlock with
      | none => exact e e3
      | some g => exact h.ne g (e2.symm.trans e3) e3
  · rcases hat with e | e
    · exact h.ne g (e.symm.trans h1) h2
    · rw [h1] at e
      injection e with e
      have := (own_type h.o2 h2).1
      omega
  · by_cases e : i = x1
    · rw [if_pos e]; exact ⟨hbsz, hnew⟩
    · simp only [if_neg e]
      have hr := h.r1 i (by omega)
      exact ⟨hr.1, krow _ hr.1 hr.2⟩
  · have hr := h.r2 i hi
    exact ⟨hr.1, krow _ hr.1 hr.2⟩
  · by_cases e : i = x1
    · by_cases e2 : j = x1
      · omega
      · simp only [if_pos e, if_neg e2]
        have := (h.r1 j (by omega)).2.lt
        omega
    · by_cases e2 : j = x1
      · simp only [if_neg e, if_pos e2]
        have := (h.r1 i (by omega)).2.lt
        omega
      · simp only [if_neg e, if_neg e2]
        exact h.i1 i j (by omega) (by omega) hij
  · by_cases e : i = x1
    · simp only [if_pos e]
      have := (h.r2 j hj).2.lt
      omega
    · simp only [if_neg e]
      exact h.i12 i j (by omega) hj

theorem Emp.lowset (h : Emp ts t B w ob v1 v2 x1 x2 n G1 G2) {p : Addr} (hp : p.block < B) (u : Value) : Emp ts t B (w.setCell p u) ob v1 v2 x1 x2 n G1 G2 :=
  ⟨h.low, by simpa [World.setCell] using h.bsz, ownsRow_setCell_below h.o1 hp _, ownsRow_setCell_below h.o2 hp _, h.ne, fun i hi => ⟨(h.r1 i hi).1, (h.r1 i hi).2.far (by have := (h.r1 i hi).1; omega) _⟩, fun i hi => ⟨(h.r2 i hi).1, (h.r2 i hi).2.far (by have := (h.r2 i hi).1; omega) _⟩, h.i1, h.i2, h.i12⟩
/-- Two tables that have no block in common, all from lo on. -/
structure Duo (ts t : TypeId) (lo : Nat) (w : World) (n : Nat) (g1 : Nat) (G1 : Nat → Nat) (f1 : Nat → Nat → Int) (g2 : Nat) (G2 : Nat → Nat) (f2 : Nat → Nat → Int) : Prop where
  t1 : TabF ts t w g1 G1 n f1
  t2 : TabF ts t w g2 G2 n f2
  l1 : lo ≤ g1 ∧ ∀ i, i < n → lo ≤ G1 i
  l2 : lo ≤ g2 ∧ ∀ i, i < n → lo ≤ G2 i
  ne : g1 ≠ g2
  n12 : ∀ i, i < n → g1 ≠ G2 i
  n21 : ∀ i, i < n → g2 ≠ G1 i
  rows : ∀ i j, i < n → j < n → G1 i ≠ G2 j
theorem tabF_of {g c : Nat} (hne : ts ≠ t) (ho : w.ownsRow B ts 1 (.slice (some ⟨g, 0, none⟩) n c) n (hdr G1 n n)) (hr : ∀ i, i < n → B ≤ G1 i ∧ PreIs w (G1 i) t n (fun _ => .int .i64 0)) (hi : ∀ i j, i < n → j < n → i ≠ j → G1 i ≠ G1 j) : TabF ts t w g G1 n (fun _ _ => 0) := by
  obtain ⟨_, _, cur, hh⟩ := own_type ho (g := g) rfl
  refine ⟨⟨fun _ => n, cur, hh, fun i hin => ?_⟩, fun i hin => (hr i hin).2, fun i hin e => pre_ne_own hne (hr i hin).2 ho rfl e.symm, hi⟩
  have h := ho.cells (g := g) rfl i (.slice (some ⟨G1 i, 0, none⟩) n n) (by unfold hdr; simp [hin])
  have e : ((⟨g, 0, none⟩ : Addr).add i) = ⟨g, i, none⟩ := by
    unfold Addr.add
    split
    · rename_i e; rw [e]
    · simp
  rw [e, cell_of_row w g i cur ts (0, 0) hh] at h
  exact h
theorem Emp.duo {g1 g2 c1 c2 lo : Nat} (h : Emp ts t B w ob (.slice (some ⟨g1, 0, none⟩) n c1) (.slice (some ⟨g2, 0, none⟩) n c2) n n n G1 G2) (hne : ts ≠ t) (hlo : lo ≤ B) : Duo ts t lo w n g1 G1 (fun _ _ => 0) g2 G2 (fun _ _ => 0) :=
  ⟨tabF_of hne h.o1 h.r1 h.i1, tabF_of hne h.o2 h.r2 h.i2, ⟨Nat.le_trans hlo (own_type h.o1 (g := g1) rfl).2.1, fun i hi => Nat.le_trans hlo (h.r1 i hi).1⟩, ⟨Nat.le_trans hlo (own_type h.o2 (g := g2) rfl).2.1, fun i hi => Nat.le_trans hlo (h.r2 i hi).1⟩, fun e => h.ne g1 rfl (by rw [e]; rfl), fun i hi e => pre_ne_own hne (h.r2 i hi).2 h.o1 rfl e.symm, fun i hi e => pre_ne_own hne (h.r1 i hi).2 h.o2 rfl e.symm, h.i12⟩
end
end Go.Proofs.Ytgahmfkmhaeniaa
namespace Go.Proofs.Ytgahmfkmhaeniaa
open Go Go.RowKit
set_option maxHeartbeats 2000000
theorem em_new {w : World} {v : Value} {t : TypeId} : ∀ j u, [v][j]? = some u → (w.alloc (.cells #[v] t)).cell? ((⟨w.heap.size, 0, none⟩ : Addr).add j) = some u := by
  intro j u hj
  match j, hj with
  | 0, hj => simp at hj; subst hj; simp [Addr.add, World.cell?_alloc_new]

theorem em_new2 {w : World} {o : Obj} {v : Value} {t : TypeId} : ∀ j u, [v][j]? = some u → ((w.alloc o).alloc (.cells #[v] t)).drew.cell? ((⟨w.heap.size + 1, 0, none⟩ : Addr).add j) = some u := by
  intro j u hj
  have h := em_new (w := w.alloc o) (v := v) (t := t) j u hj
  have e : (w.alloc o).heap.size = w.heap.size + 1 := by simp
  rw [e] at h
  exact h
/-- The world in which a row is appended. -/
theorem em_world (w : World) (n : Nat) (u : Value) (ts t : TypeId) : Below w.heap.size w ((w.alloc (.cells (madeCells #[.int .i64 0] n) t)).alloc (.cells #[u] ts)).drew ∧ ((w.alloc (.cells (madeCells #[.int .i64 0] n) t)).alloc (.cells #[u] ts)).drew.heap.size = w.heap.size + 1 + 1 ∧ PreIs ((w.alloc (.cells (madeCells #[.int .i64 0] n) t)).alloc (.cells #[u] ts)).drew w.heap.size t n (fun _ => .int .i64 0) := by
  have h0 := PreIs.of_row (World.rowIs_made w (.int .i64 0) n t)
  have h1 : Below w.heap.size w ((w.alloc (.cells (madeCells #[.int .i64 0] n) t)).alloc (.cells #[u] ts)) := ((Below.refl _ _).alloc (Nat.le_refl _) _).alloc (by simp) _
  refine ⟨h1.drew, by simp [World.drew], ?_⟩
  exact (h0.later' ((Below.refl _ _).alloc (Nat.le_refl _) _) : PreIs ((w.alloc (.cells (madeCells #[.int .i64 0] n) t)).alloc (.cells #[u] ts)) w.heap.size t n (fun _ => .int .i64 0))

def EmPost (n : Nat) (w : World) (e : Ending) (w' : World) : Prop := ∃ g1 c1 g2 c2 G1 G2, e = .returned (.agg #[.slice (some ⟨g1, 0, none⟩) n c1, .slice (some ⟨g2, 0, none⟩) n c2]) ∧ Below w.heap.size w w' ∧ Duo 31 2 w.heap.size w' n g1 G1 (fun _ _ => 0) g2 G2 (fun _ _ => 0)
set_option maxRecDepth 100000 in
theorem emptyS_any (n : Nat) (w : World) (h1 : 1 ≤ n) (h12 : n ≤ 12) :
    Calls Try.prog 105 #[.int .i64 n] w (EmPost n w) := by
  have hmk := run_make_row' (P := Try.prog) 31 2 (.int .i64 0) 8 Try.underlying31 ntInfo rfl .i64 .i64 n (by omega) (by omega)
  obtain ⟨i2, hj, hy0, hy1, hy2⟩ := info_parts ntInfo2
  go_enter Try.func105, Try.ntmps105
  go_wp2_with fail
  refine wp_gen fun w0 hw0 => ?_
  have hb0 : Below w.heap.size w w0 := by rw [hw0]; exact ((Below.refl _ _).alloc (Nat.le_refl _) _).alloc (by simp) _
  have HB0 := hide hb0
  have HR0 : Hid (Blk w0 w.heap.size 41 [.slice none 0 0, .slice none 0 0]) := hide (by rw [hw0]; exact (Blk.new _ _ _).alloc _)
  have HO0 : Hid (Blk w0 (w.heap.size + 1) 41 [.slice none 0 0, .slice none 0 0]) := hide (by rw [hw0]; have h := Blk.new (w.alloc (Obj.cells #[Value.slice none 0 0, Value.slice none 0 0] 41)) 41 [.slice none 0 0, .slice none 0 0]; simpa using h)
  have hs0 : w0.heap.size = w.heap.size + 1 + 1 := by rw [hw0]; simp
  have he := Emp.start w0 31 2 n HO0.out.lt
  rw [hs0] at he
  have HE0 := hide he
  clear hw0 hb0 he
  go_loopw [4] (fun i wr => ∃ (x : Nat) (v1 v2 : Value) (G1 G2 : Nat → Nat), x ≤ n ∧ i = .int .i64 x ∧ Below w.heap.size w wr ∧ Blk wr w.heap.size 41 [.slice none 0 0, .slice none 0 0] ∧ Blk wr (w.heap.size + 1) 41 [v1, v2] ∧ Emp 31 2 (w.heap.size + 1 + 1) wr (w.heap.size + 1) v1 v2 x x n G1 G2) (fun i _ => n - (intOf i).toNat)
  case atStart => exact ⟨0, _, _, _, _, Nat.zero_le _, rfl, HB0.out, HR0.out, HO0.out, HE0.out⟩
  case round =>
    obtain ⟨x, v1, v2, G1, G2, hx, rfl, hbe, hrr, hoo, hem⟩ := hrel
    have HB := hide hbe
    have HR := hide hrr
    have HO := hide hoo
    have HE := hide hem
    clear hbe hrr hoo hem
    by_cases hlt : x < n
    · have hxz : (x : Int) < n := by omega
      have k0 := HO.out.cell 0 _ rfl
      have k1 := HO.out.cell 1 _ rfl
      have k2 := HO.out.frozen 0
      have k3 := HO.out.frozen 1
      have k4 := fun o => (HO.out.alloc o).cell 0 _ rfl
      have k5 := fun o1 o2 => ((HO.out.alloc o1).alloc o2).cell 0 _ rfl
      go_wp2_with fail
      have HOW1 := hide HE.out.o1
      have hobl := HO.out.lt
      go_region_law (first | (refine step_append_lies _ (by rfl) _ _ _ (by rfl) (w.heap.size + 1 + 1) 31 i2 _ 1 24 Try.underlying22 hj hy0 hy1 hy2 rfl (by omega) v1 x (hdr G1 n x) (by rfl) ((HOW1.out.alloc _).alloc _) ⟨wr.heap.size + 1, 0, none⟩ 1 1 [.slice (some ⟨wr.heap.size, 0, none⟩) n n] (by rfl) (by rfl) (by first | exact em_new | exact em_new2) (by simp [Value.oneCell']) (by omega) (by unfold maxLen; omega) (by omega) (by simp; omega) (wr.heap.size + 1 + 1) (by simp) ?_; intro gg cap w5 hown5 hgrow5 hat5 hlt5; obtain ⟨hw1, hw2, hw3⟩ := em_world wr n (.slice (some ⟨wr.heap.size, 0, none⟩) n n) 31 2; have hbk := HE.out.kept HO.out hw1 hgrow5; have k0 := hbk.cell 0 _ rfl; have k1 := hbk.cell 1 _ rfl; have k2 := hbk.frozen 0; have k3 := hbk.frozen 1))
      all_goals
        have HE3 := hide (HE.out.push (q := 0) (by decide) hw1 hw2 hw3 hown5 hgrow5 (hat5.imp (fun e => e.symm) (fun e => by rw [e]; rfl)))
        have hr3 : Blk (w5.setCell ⟨w.heap.size + 1, 0, none⟩ (.slice (some ⟨gg, 0, none⟩) (x + 1) cap)) w.heap.size 41 [.slice none 0 0, .slice none 0 0] := HE.out.keptR HR.out (by omega) (by omega) hw1 hgrow5 _ _
        have hb3 : Below w.heap.size w (w5.setCell ⟨w.heap.size + 1, 0, none⟩ (.slice (some ⟨gg, 0, none⟩) (x + 1) cap)) := ((HB.out.trans (hw1.mono HB.out.size)).grown hgrow5 (Nat.le_trans HB.out.size hw1.size) (fun j e => by have := (own_type HE.out.o1 e).2.1; omega)).setCell (p := ⟨w.heap.size + 1, 0, none⟩) (by show w.heap.size ≤ w.heap.size + 1; omega) _
        have ho3 : Blk (w5.setCell ⟨w.heap.size + 1, 0, none⟩ (.slice (some ⟨gg, 0, none⟩) (x + 1) cap)) (w.heap.size + 1) 41 [.slice (some ⟨gg, 0, none⟩) (x + 1) cap, v2] := hbk.set 0 _
        have HR3 := hide hr3
        have HB3 := hide hb3
        have HO3 := hide ho3
        clear k0 k1 k2 k3 k4 k5 hr3 hb3 ho3 hown5 hgrow5 hat5 hlt5 hw1 hw2 hw3 hbk hobl HOW1
        generalize hw6 : w5.setCell ⟨w.heap.size + 1, 0, none⟩ (.slice (some ⟨gg, 0, none⟩) (x + 1) cap) = w6 at HE3 HR3 HB3 HO3 ⊢
        clear hw6
        have k0 := HO3.out.cell 0 _ rfl
        have k1 := HO3.out.cell 1 _ rfl
        have k2 := HO3.out.frozen 0
        have k3 := HO3.out.frozen 1
        have k4 := fun o => (HO3.out.alloc o).cell 1 _ rfl
        have k5 := fun o1 o2 => ((HO3.out.alloc o1).alloc o2).cell 1 _ rfl
        go_wp2_with fail
        have HE4 := hide HE3.out.swapped
        have HOW2 := hide HE4.out.o1
        have hobl := HO3.out.lt
        go_region_law (first | (refine step_append_lies _ (by rfl) _ _ _ (by rfl) (w.heap.size + 1 + 1) 31 i2 _ 1 24 Try.underlying22 hj hy0 hy1 hy2 rfl (by omega) v2 x (hdr G2 n x) (by rfl) ((HOW2.out.alloc _).alloc _) ⟨w6.heap.size + 1, 0, none⟩ 1 1 [.slice (some ⟨w6.heap.size, 0, none⟩) n n] (by rfl) (by rfl) (by first | exact em_new | exact em_new2) (by simp [Value.oneCell']) (by omega) (by unfold maxLen; omega) (by omega) (by simp; omega) (w6.heap.size + 1 + 1) (by simp) ?_; intro gg2 cap2 w7 hown7 hgrow7 hat7 hlt7; obtain ⟨hw1, hw2, hw3⟩ := em_world w6 n (.slice (some ⟨w6.heap.size, 0, none⟩) n n) 31 2; have hbk := HE4.out.kept HO3.out hw1 hgrow7; have k0 := hbk.cell 0 _ rfl; have k1 := hbk.cell 1 _ rfl; have k2 := hbk.frozen 0; have k3 := hbk.frozen 1))
        all_goals
          have HE5 := hide (HE4.out.push (q := 1) (by decide) hw1 hw2 hw3 hown7 hgrow7 (hat7.imp (fun e => e.symm) (fun e => by rw [e]; rfl)))
          have hr5 : Blk (w7.setCell ⟨w.heap.size + 1, 1, none⟩ (.slice (some ⟨gg2, 0, none⟩) (x + 1) cap2)) w.heap.size 41 [.slice none 0 0, .slice none 0 0] := HE4.out.keptR HR3.out (by omega) (by omega) hw1 hgrow7 _ _
          have hb5 : Below w.heap.size w (w7.setCell ⟨w.heap.size + 1, 1, none⟩ (.slice (some ⟨gg2, 0, none⟩) (x + 1) cap2)) := ((HB3.out.trans (hw1.mono HB3.out.size)).grown hgrow7 (Nat.le_trans HB3.out.size hw1.size) (fun j e => by have := (own_type HE4.out.o1 e).2.1; omega)).setCell (p := ⟨w.heap.size + 1, 1, none⟩) (by show w.heap.size ≤ w.heap.size + 1; omega) _
          have ho5 : Blk (w7.setCell ⟨w.heap.size + 1, 1, none⟩ (.slice (some ⟨gg2, 0, none⟩) (x + 1) cap2)) (w.heap.size + 1) 41 [.slice (some ⟨gg, 0, none⟩) (x + 1) cap, .slice (some ⟨gg2, 0, none⟩) (x + 1) cap2] := hbk.set 1 _
          have HR5 := hide hr5
          have HB5 := hide hb5
          have HO5 := hide ho5
          clear k0 k1 k2 k3 k4 k5 hr5 hb5 ho5 hown7 hgrow7 hat7 hlt7 hw1 hw2 hw3 hbk hobl HOW2
          go_wp2_with fail
          go_roundw
          case rel => exact ⟨x + 1, _, _, _, _, by omega, by go_num, HB5.out, HR5.out, HO5.out, HE5.out.swapped⟩
          case measure => simp [intOf]; omega
    · have hxn : x = n := by omega
      subst hxn
      have k0 := HO.out.cell 0 _ rfl
      have k1 := HO.out.cell 1 _ rfl
      have k2 := HR.out.cell 0 _ rfl
      have k3 := HR.out.cell 1 _ rfl
      have k4 := HR.out.frozen 0
      have k5 := HR.out.frozen 1
      obtain ⟨g1, c1, hv1⟩ : ∃ g c, v1 = .slice (some ⟨g, 0, none⟩) x c := by
        rcases HE.out.o1.2 with ⟨_, h0⟩ | ⟨g, cap, cur, hv, _⟩
        · omega
        · exact ⟨g, cap, hv⟩
      obtain ⟨g2, c2, hv2⟩ : ∃ g c, v2 = .slice (some ⟨g, 0, none⟩) x c := by
        rcases HE.out.o2.2 with ⟨_, h0⟩ | ⟨g, cap, cur, hv, _⟩
        · omega
        · exact ⟨g, cap, hv⟩
      subst hv1
      subst hv2
      go_wp2_with fail
      clear k0 k1 k2 k3 k4 k5
      refine bp_gen fun wf hwf => ?_
      have HRF : Blk wf w.heap.size 41 [.slice (some ⟨g1, 0, none⟩) x c1, .slice (some ⟨g2, 0, none⟩) x c2] := by rw [hwf]; exact (HR.out.set 0 _).set 1 _
      have HBF : Below w.heap.size w wf := by rw [hwf]; exact (HB.out.setCell (p := ⟨w.heap.size, 0, none⟩) (Nat.le_refl _) _).setCell (p := ⟨w.heap.size, 1, none⟩) (Nat.le_refl _) _
      have HEF : Emp 31 2 (w.heap.size + 1 + 1) wf (w.heap.size + 1) (.slice (some ⟨g1, 0, none⟩) x c1) (.slice (some ⟨g2, 0, none⟩) x c2) x x x G1 G2 := by rw [hwf]; exact (HE.out.lowset (by show w.heap.size < w.heap.size + 1 + 1; omega) _).lowset (by show w.heap.size < w.heap.size + 1 + 1; omega) _
      have q0 := HRF.cell 0 _ rfl
      have q1 := HRF.cell 1 _ rfl
      clear hwf
      exact bodyPost_ret (v := .agg #[.slice (some ⟨g1, 0, none⟩) x c1, .slice (some ⟨g2, 0, none⟩) x c2]) (by simp [results, Try.results105, go_sem, q0, q1]) rfl (by unfold EmPost; exact ⟨g1, c1, g2, c2, G1, G2, rfl, HBF, HEF.duo (by decide) (by omega)⟩)
end Go.Proofs.Ytgahmfkmhaeniaa
namespace Go.Proofs.Ytgahmfkmhaeniaa
open Go Go.RowKit
section
variable {ts t : TypeId} {lo n g1 g2 : Nat} {w w' : World} {G1 G2 : Nat → Nat} {f1 f2 : Nat → Nat → Int}
theorem Duo.later (h : Duo ts t lo w n g1 G1 f1 g2 G2 f2) (hb : Below w.heap.size w w') : Duo ts t lo w' n g1 G1 f1 g2 G2 f2 :=
  ⟨h.t1.later hb, h.t2.later hb, h.l1, h.l2, h.ne, h.n12, h.n21, h.rows⟩
theorem Duo.set1 (h : Duo ts t lo w n g1 G1 f1 g2 G2 f2) (i j : Nat) (v : Int) (hi : i < n) : Duo ts t lo (w.setCell ⟨G1 i, j, none⟩ (.int .i64 v)) n g1 G1 (fun a b => if a = i ∧ b = j then v else f1 a b) g2 G2 f2 :=
  ⟨h.t1.set i j v hi, h.t2.far1 (p := ⟨G1 i, j, none⟩) (h.n21 i hi) (fun a ha e => h.rows i a hi ha e.symm) _, h.l1, h.l2, h.ne, h.n12, h.n21, h.rows⟩
theorem Duo.set2 (h : Duo ts t lo w n g1 G1 f1 g2 G2 f2) (i j : Nat) (v : Int) (hi : i < n) : Duo ts t lo (w.setCell ⟨G2 i, j, none⟩ (.int .i64 v)) n g1 G1 f1 g2 G2 (fun a b => if a = i ∧ b = j then v else f2 a b) :=
  ⟨h.t1.far1 (p := ⟨G2 i, j, none⟩) (h.n12 i hi) (fun a ha e => h.rows a i ha hi e) _, h.t2.set i j v hi, h.l1, h.l2, h.ne, h.n12, h.n21, h.rows⟩
theorem Duo.congr {h1 h2 : Nat → Nat → Int} (h : Duo ts t lo w n g1 G1 f1 g2 G2 f2) (e1 : ∀ a b, a < n → b < n → f1 a b = h1 a b) (e2 : ∀ a b, a < n → b < n → f2 a b = h2 a b) : Duo ts t lo w n g1 G1 h1 g2 G2 h2 :=
  ⟨h.t1.congr e1, h.t2.congr e2, h.l1, h.l2, h.ne, h.n12, h.n21, h.rows⟩
theorem Duo.objW (h : Duo ts t lo w n g1 G1 f1 g2 G2 f2) {hi : Nat} (hhi : w.heap.size ≤ hi) : ObjW ts t lo hi w (some ⟨g1, 0, none⟩) (grid n f1) (some ⟨g2, 0, none⟩) (grid n f2) :=
  ⟨h.t1.obj h.l1.1 (Nat.lt_of_lt_of_le h.t1.lt hhi) (fun i hin => ⟨h.l1.2 i hin, Nat.lt_of_lt_of_le (h.t1.row i hin).lt hhi⟩), h.t2.obj h.l2.1 (Nat.lt_of_lt_of_le h.t2.lt hhi) (fun i hin => ⟨h.l2.2 i hin, Nat.lt_of_lt_of_le (h.t2.row i hin).lt hhi⟩)⟩
end
end Go.Proofs.Ytgahmfkmhaeniaa
namespace Go.Proofs.Ytgahmfkmhaeniaa
open Go Go.RowKit
set_option maxHeartbeats 2000000

set_option maxRecDepth 100000 in
theorem solS_any (A : Option Addr) (n c : Nat) (f : List (List Int)) (w : World) (hn : f.length = n) (hcy : Cyc f) (hr : Rd2 w A f) :
    Calls Try.prog 69 #[.agg #[.slice A n c]] w fun e w' => ∃ A' c' B' d', e = .returned (.agg #[.slice A' n c', .slice B' n d']) ∧ Below w.heap.size w w' ∧ ObjW 31 2 w.heap.size w'.heap.size w' A' (grid n (csH1 f)) B' (grid n (csH2 f)) := by
  have HCY := hide hcy
  have HTB := hide hcy.tbl
  have h1 : 1 ≤ n := by rw [← hn]; exact HTB.out.1
  have h12 : n ≤ 12 := by rw [← hn]; exact HTB.out.2.1
  have HN := hide hn
  have HRD := hide hr
  obtain ⟨b, o, rfl, hbw, hc⟩ := HTB.out.cells hr hn
  obtain ⟨b', o', hA, hbw', hc'⟩ := rd_rows HTB.out hr hn
  injection hA with hA
  injection hA with e1 e2
  subst e1
  subst e2
  have HC := hide hc
  have HC' := hide hc'
  clear hc hc' hbw' hn hcy hr
  go_enter Try.func69, Try.ntmps69
  go_upto_region 1 with fail
  refine wp_gen fun w0 hw0 => ?_
  have hb0 : Below w.heap.size w w0 := by rw [hw0]; exact ((Below.refl _ _).alloc (Nat.le_refl _) _).alloc (by simp) _
  have HB0 := hide hb0
  have HK0 : Hid (Blk w0 w.heap.size 27 [.slice (some ⟨b, o, none⟩) n c]) := hide (by rw [hw0]; exact (Blk.new _ _ _).alloc _)
  have HR0 : Hid (Blk w0 (w.heap.size + 1) 41 [.slice none 0 0, .slice none 0 0]) := hide (by rw [hw0]; have h := Blk.new (w.alloc (Obj.cells #[Value.slice (some ⟨b, o, none⟩) n c] 27)) 41 [.slice none 0 0, .slice none 0 0]; simpa using h)
  clear hw0 hb0
  have k0 := HK0.out.cell 0 _ rfl
  go_wp2_with fail
  clear k0
  refine (emptyS_any n _ h1 h12).mono ?_
  unfold EmPost
  rintro e w1 ⟨g1, c1, g2, c2, G1, G2, rfl, hb1, hd⟩
  have HB1 := hide (HB0.out.trans (hb1.mono HB0.out.size))
  have HK1 := hide (HK0.out.later hb1)
  have HR1 := hide (HR0.out.later hb1)
  have HD1 := hide hd
  have hlo : w.heap.size + 1 < w0.heap.size := HR0.out.lt
  have hG1 : ∀ i, i < n → G1 i < w1.heap.size := fun i hi => (hd.t1.row i hi).lt
  have hG2 : ∀ i, i < n → G2 i < w1.heap.size := fun i hi => (hd.t2.row i hi).lt
  have HG1 := hide hG1
  have HG2 := hide hG2
  clear hb1 hd hG1 hG2
  go_wp2_with fail
  refine wp_gen fun w2 hw2 => ?_
  have hb2 : Below w1.heap.size w1 w2 := by rw [hw2]; exact (Below.refl _ _).alloc (Nat.le_refl _) _
  have HO2 : Hid (Blk w2 w1.heap.size 41 [.slice (some ⟨g1, 0, none⟩) n c1, .slice (some ⟨g2, 0, none⟩) n c2]) := hide (by rw [hw2]; exact Blk.new _ _ _)
  have HB2 := hide (HB1.out.trans (hb2.mono HB1.out.size))
  have HK2 := hide (HK1.out.later hb2)
  have HR2 := hide (HR1.out.later hb2)
  have HD2 := hide ((HD1.out.later hb2).congr (h1 := rfTo (csH1 f) n 0) (h2 := rfTo (csH2 f) n 0) (fun a b _ _ => by simp [rfTo]) (fun a b _ _ => by simp [rfTo]))
  clear hw2 hb2
  go_loopw [5] (fun i wr => ∃ x : Nat, x ≤ n ∧ i = .int .i64 x ∧ Below w.heap.size w wr ∧ Blk wr w.heap.size 27 [.slice (some ⟨b, o, none⟩) n c] ∧ Blk wr (w.heap.size + 1) 41 [.slice none 0 0, .slice none 0 0] ∧ Blk wr w1.heap.size 41 [.slice (some ⟨g1, 0, none⟩) n c1, .slice (some ⟨g2, 0, none⟩) n c2] ∧ Duo 31 2 w0.heap.size wr n g1 G1 (rfTo (csH1 f) n (x * n)) g2 G2 (rfTo (csH2 f) n (x * n))) (fun i _ => n - (intOf i).toNat)
  case atStart => exact ⟨0, Nat.zero_le _, rfl, HB2.out, HK2.out, HR2.out, HO2.out, by rw [Nat.zero_mul]; exact HD2.out⟩
  case round =>
    obtain ⟨x, hx, rfl, hbe, hkk, hrr, hoo, hdd⟩ := hrel
    have HB := hide hbe
    have HK := hide hkk
    have HR := hide hrr
    have HO := hide hoo
    have HD := hide hdd
    clear hbe hkk hrr hoo hdd
    by_cases hlt : x < n
    · have hxz : (x : Int) < n := by omega
      obtain ⟨C1, r1⟩ := HD.out.t1.top
      obtain ⟨C2, r2⟩ := HD.out.t2.top
      have c1' := r1.cell hlt
      have c2' := r2.cell hlt
      have k0 := HO.out.cell 0 _ rfl
      have k1 := HO.out.cell 1 _ rfl
      obtain ⟨cx1, hcx1⟩ : ∃ a, C1 x = a := ⟨_, rfl⟩
      obtain ⟨cx2, hcx2⟩ : ∃ a, C2 x = a := ⟨_, rfl⟩
      rw [hcx1] at c1'
      rw [hcx2] at c2'
      clear r1 r2 hcx1 hcx2
      go_wp2_with fail
      go_quiet (fail)
      go_wp2_with fail
      clear k0 k1 c1' c2'
      refine wp_gen fun wo hwo => ?_
      have hW : Below wr.heap.size wr wo := by rw [hwo]; exact (Quiet.of wr nq).below _
      have HBo := hide (HB.out.trans (hW.mono HB.out.size))
      have HKo := hide (HK.out.later hW)
      have HRo := hide (HR.out.later hW)
      have HOo := hide (HO.out.later hW)
      have HDo := hide (HD.out.later hW)
      clear hwo hW
      go_loopw [8] (fun i wi => ∃ y : Nat, y ≤ n ∧ i = .int .i64 y ∧ Below w.heap.size w wi ∧ Blk wi w.heap.size 27 [.slice (some ⟨b, o, none⟩) n c] ∧ Blk wi (w.heap.size + 1) 41 [.slice none 0 0, .slice none 0 0] ∧ Blk wi w1.heap.size 41 [.slice (some ⟨g1, 0, none⟩) n c1, .slice (some ⟨g2, 0, none⟩) n c2] ∧ Duo 31 2 w0.heap.size wi n g1 G1 (rfTo (csH1 f) n (x * n + y)) g2 G2 (rfTo (csH2 f) n (x * n + y))) (fun i _ => n - (intOf i).toNat)
      case atStart => exact ⟨0, Nat.zero_le _, rfl, HBo.out, HKo.out, HRo.out, HOo.out, HDo.out⟩
      case round =>
        obtain ⟨y, hy, rfl, hbi, hki, hri, hoi, hdi⟩ := hrel
        have HBI := hide hbi
        have HKI := hide hki
        have HRI := hide hri
        have HOI := hide hoi
        have HDI := hide hdi
        clear hbi hki hri hoi hdi
        by_cases hlty : y < n
        · have hyz : (y : Int) < n := by omega
          have hu := sol_lt HCY.out.tbl HCY.out.prm HN.out hlt hlty
          have hix := sol_ix HCY.out.tbl HCY.out.prm HN.out hlt hlty
          obtain ⟨Bx, cx, r1, hrd⟩ := HC'.out x hlt
          obtain ⟨u, hue⟩ : ∃ u, sol f x y = u := ⟨_, rfl⟩
          rw [hue] at hu hix
          obtain ⟨v, hve⟩ : ∃ v, ap f u x = v := ⟨_, rfl⟩
          have HZ1 : Hid (csH1 f x y = (u : Int)) := hide (by unfold csH1; rw [hue])
          have HZ2 : Hid (csH2 f x y = (v : Int)) := hide (by unfold csH2; rw [hue, hve])
          obtain ⟨bu, ou, cu, s1, s2, s3⟩ := HC.out u hu
          have s4 := s3 x hlt
          rw [hve] at s4
          have HIX := hide hix
          have HRX := hide (hrd.later HBI.out)
          have HLX := hide (HTB.out.row_len HN.out hlt)
          replace r1 := (HBI.out.cell (p := ⟨b, o + x, none⟩) hbw).trans r1
          have S1 := hide s1
          have S2 := hide s2
          have S4 := hide s4
          have k0 := HKI.out.cell 0 _ rfl
          have huz : (u : Int) < n := by omega
          clear hue hve hix hrd s1 s2 s3 s4
          go_wp2_with fail
          refine (index_any _ _ _ (f.getD x []) (y : Int) _ HLX.out (by omega) HRX.out).mono ?_
          rintro e w4 ⟨rfl, hq4⟩
          rw [HIX.out]
          have hq := hq4.below wr.heap.size
          replace HBI := hide (HBI.out.trans (hq.mono HBI.out.size))
          replace HKI := hide (HKI.out.later hq)
          replace HRI := hide (HRI.out.later hq)
          replace HOI := hide (HOI.out.later hq)
          replace HDI := hide (HDI.out.later hq)
          clear hq4 hq k0 r1
          have j1 := (HDI.out.t1.row x hlt).cell hlty
          have j2 := (HDI.out.t1.row x hlt).frozen y
          have lG1 := HDI.out.l1.2 x hlt
          have lG2 := HDI.out.l2.2 x hlt
          have gu1 := HG1.out x hlt
          have gu2 := HG2.out x hlt
          go_upto_region 12 with fail
          refine wp_gen fun w5 hw5 => ?_
          have HB5 : Hid (Below w.heap.size w w5) := hide (by rw [hw5]; exact HBI.out.setCell (p := ⟨G1 x, y, none⟩) (by show w.heap.size ≤ G1 x; omega) _)
          have HK5 : Hid (Blk w5 w.heap.size 27 [.slice (some ⟨b, o, none⟩) n c]) := hide (by rw [hw5]; exact HKI.out.far (p := ⟨G1 x, y, none⟩) (by show w.heap.size ≠ G1 x; omega) _)
          have HR5 : Hid (Blk w5 (w.heap.size + 1) 41 [.slice none 0 0, .slice none 0 0]) := hide (by rw [hw5]; exact HRI.out.far (p := ⟨G1 x, y, none⟩) (by show w.heap.size + 1 ≠ G1 x; omega) _)
          have HO5 : Hid (Blk w5 w1.heap.size 41 [.slice (some ⟨g1, 0, none⟩) n c1, .slice (some ⟨g2, 0, none⟩) n c2]) := hide (by rw [hw5]; exact HOI.out.far (p := ⟨G1 x, y, none⟩) (by show w1.heap.size ≠ G1 x; omega) _)
          have HD5 := HDI.out.set1 x y (u : Int) hlt
          rw [← hw5] at HD5
          replace HD5 := hide HD5
          clear hw5 j1 j2
          have k0 := HK5.out.cell 0 _ rfl
          have j3 := (HD5.out.t2.row x hlt).cell hlty
          have j4 := (HD5.out.t2.row x hlt).frozen y
          have s1 := (HB5.out.cell (p := ⟨b, o + u, none⟩) hbw).trans S1.out
          have s4 := (HB5.out.cell (p := ⟨bu, ou + x, none⟩) S2.out).trans S4.out
          go_wp2_with fail
          clear k0 j3 j4 s1 s4
          go_roundw
          case rel =>
            refine ⟨y + 1, by omega, by go_num, HB5.out.setCell (p := ⟨G2 x, y, none⟩) (by show w.heap.size ≤ G2 x; omega) _, HK5.out.far (p := ⟨G2 x, y, none⟩) (by show w.heap.size ≠ G2 x; omega) _, HR5.out.far (p := ⟨G2 x, y, none⟩) (by show w.heap.size + 1 ≠ G2 x; omega) _, HO5.out.far (p := ⟨G2 x, y, none⟩) (by show w1.heap.size ≠ G2 x; omega) _, ?_⟩
            have hd := HD5.out.set2 x y (v : Int) hlt
            rw [← HZ1.out, ← HZ2.out] at hd
            rw [← HZ2.out]
            exact hd.congr (rfTo_upd (csH1 f) n (x * n + y) x y (pair_div n x y hlty) (pair_mod n x y hlty) hlty) (rfTo_upd (csH2 f) n (x * n + y) x y (pair_div n x y hlty) (pair_mod n x y hlty) hlty)
          case measure => simp [intOf]; omega
        · have hyn : y = n := by omega
          subst hyn
          go_wp2_with fail
          go_roundw
          case rel => exact ⟨x + 1, by omega, by go_num, HBI.out, HKI.out, HRI.out, HOI.out, by rw [Nat.add_mul, Nat.one_mul]; exact HDI.out⟩
          case measure => simp [intOf]; omega
    · have hxn : x = n := by omega
      subst hxn
      have k0 := HO.out.cell 0 _ rfl
      have k1 := HO.out.cell 1 _ rfl
      have k2 := HR.out.cell 0 _ rfl
      have k3 := HR.out.cell 1 _ rfl
      have k4 := HR.out.frozen 0
      have k5 := HR.out.frozen 1
      go_wp2_with fail
      refine bp_gen fun wf hwf => ?_
      have rfa : ∀ (h : Nat → Nat → Int) (a b : Nat), a < x → b < x → rfTo h x (x * x) a b = h a b := fun h a b ha hb => by unfold rfTo; rw [if_pos (pair_lt x a b ha hb)]
      have HDF := HD.out.congr (rfa (csH1 f)) (rfa (csH2 f))
      obtain ⟨q0, q1, hbf, hof⟩ := wend hwf HR.out (by omega) hlo HB.out HB0.out.size (HDF.objW (Nat.le_refl _))
      clear hwf k0 k1 k2 k3 k4 k5
      exact bodyPost_ret (v := .agg #[.slice (some ⟨g1, 0, none⟩) x c1, .slice (some ⟨g2, 0, none⟩) x c2]) (by simp [results, Try.results69, go_sem, q0, q1]) rfl ⟨_, _, _, _, rfl, hbf, hof⟩

set_option maxRecDepth 100000 in
theorem csoS_any (A : Option Addr) (n c : Nat) (f : List (List Int)) (zf zg : List (List Int)) (code : Int) (k kw : Nat) (w : World) (hn : f.length = n) (hb : n ≤ 1048576) (hbs : ∀ i, i < f.length → (f.getD i []).length ≤ 1048576) (hr : Rd2 w A f) (hres : CsoRes f zf zg code) (hk : ZSz 1048576 zf k zg kw) :
    Calls Try.prog 30 #[.agg #[.slice A n c]] w (fun e w' => ∃ A' c' B' d', e = .returned (.tuple #[.agg #[.slice A' k c', .slice B' kw d'], .int .i64 code]) ∧ Below w.heap.size w w' ∧ ObjW 31 2 w.heap.size w'.heap.size w' A' zf B' zg) := by
  have HN := hide hn
  have HBS := hide hbs
  have HRD := hide hr
  have HB0 := hide (((Below.refl _ w).alloc (Nat.le_refl _) (Obj.cells #[Value.slice A n c] 27)).alloc (by simp) (Obj.cells #[.slice none 0 0, .slice none 0 0] 41))
  have HK0 := hide ((Blk.new w 27 [.slice A n c]).alloc (Obj.cells #[.slice none 0 0, .slice none 0 0] 41))
  have HR0 : Hid (Blk ((w.alloc (Obj.cells #[Value.slice A n c] 27)).alloc (Obj.cells #[.slice none 0 0, .slice none 0 0] 41)) (w.heap.size + 1) 41 [.slice none 0 0, .slice none 0 0]) := hide (by have h := Blk.new (w.alloc (Obj.cells #[Value.slice A n c] 27)) 41 [.slice none 0 0, .slice none 0 0]; simpa using h)
  rcases hres with ⟨hcy, rfl, rfl, rfl⟩ | ⟨hcy, rfl, rfl, rfl⟩
  · have hk1 : k = n := by rw [← hk.fl, grid_length, hn]
    have hk2 : kw = n := by rw [← hk.sl, grid_length, hn]
    subst hk1
    subst hk2
    rw [hn]
    clear hn hbs hr hk
    have HCY := hide hcy
    have HTB := hide hcy.tbl
    have h1 : 1 ≤ kw := by rw [← HN.out]; exact HTB.out.1
    have h12 : kw ≤ 12 := by rw [← HN.out]; exact HTB.out.2.1
    have HCR : Hid (CyRes f true) := hide ⟨fun _ => HCY.out, fun _ => rfl⟩
    clear hcy
    go_enter Try.func30, Try.ntmps30
    have k0 := HK0.out.cell 0 _ rfl
    go_wp2_with fail
    refine (isCycS _ _ _ f true _ HN.out hb HBS.out (HRD.out.later HB0.out) HCR.out).mono ?_
    rintro e w1 ⟨rfl, hb1⟩
    have HB1 := hide (HB0.out.trans (hb1.mono HB0.out.size))
    have HK1 := hide (HK0.out.later hb1)
    replace HR0 := hide (HR0.out.later hb1)
    clear hb1 k0
    have k0 := HK1.out.cell 0 _ rfl
    go_wp2_with fail
    refine (solS_any A kw c f _ HN.out HCY.out (HRD.out.later HB1.out)).mono ?_
    rintro e w3 ⟨A3, c3, B3, d3, rfl, hb3, hobj⟩
    have HR3 := hide (HR0.out.later hb3)
    have HO := hide hobj
    have HLT := hide HR0.out.lt
    have HLO := hide HB1.out.size
    have HB3 := hide (HB1.out.trans (hb3.mono HB1.out.size))
    clear hb3 hobj k0
    have k2 := HR3.out.cell 0 _ rfl
    have k3 := HR3.out.cell 1 _ rfl
    have k4 := HR3.out.frozen 0
    have k5 := HR3.out.frozen 1
    go_wp2_with fail
    refine bp_gen fun wf hwf => ?_
    obtain ⟨q0, q1, hbf, hof⟩ := wend hwf HR3.out (by omega) HLT.out HB3.out HLO.out HO.out
    clear hwf k2 k3 k4 k5
    exact bodyPost_ret (v := .tuple #[.agg #[.slice A3 kw c3, .slice B3 kw d3], .int .i64 0]) (by simp [results, Try.results30, go_sem, q0, q1]) rfl ⟨_, _, _, _, rfl, hbf, hof⟩
  · have hk1 : k = 0 := by rw [← hk.fl]; rfl
    have hk2 : kw = 0 := by rw [← hk.sl]; rfl
    subst hk1
    subst hk2
    clear hn hbs hr hk
    have HCR : Hid (CyRes f false) := hide ⟨fun h => (by cases h), fun h => absurd h hcy⟩
    clear hcy
    go_enter Try.func30, Try.ntmps30
    have k0 := HK0.out.cell 0 _ rfl
    go_wp2_with fail
    refine (isCycS _ _ _ f false _ HN.out hb HBS.out (HRD.out.later HB0.out) HCR.out).mono ?_
    rintro e w1 ⟨rfl, hb1⟩
    have HB1 := hide (HB0.out.trans (hb1.mono HB0.out.size))
    have HK1 := hide (HK0.out.later hb1)
    replace HR0 := hide (HR0.out.later hb1)
    clear hb1 k0
    have k2 := HR0.out.cell 0 _ rfl
    have k3 := HR0.out.frozen 0
    have k4 := HR0.out.cell 1 _ rfl
    have k5 := HR0.out.frozen 1
    go_wp2_with fail
    refine bp_gen fun wf hwf => ?_
    have HRF : Blk wf (w.heap.size + 1) 41 [.slice none 0 0, .slice none 0 0] := by rw [hwf]; first | exact HR0.out | exact HR0.out.set 0 _ | exact (HR0.out.set 0 _).set 1 _
    have hbf : Below w.heap.size w wf := by rw [hwf]; first | exact HB1.out | exact HB1.out.setCell (p := ⟨w.heap.size + 1, 0, none⟩) (by show w.heap.size ≤ w.heap.size + 1; omega) _ | exact (HB1.out.setCell (p := ⟨w.heap.size + 1, 0, none⟩) (by show w.heap.size ≤ w.heap.size + 1; omega) _).setCell (p := ⟨w.heap.size + 1, 1, none⟩) (by show w.heap.size ≤ w.heap.size + 1; omega) _
    have q0 := HRF.cell 0 _ rfl
    have q1 := HRF.cell 1 _ rfl
    clear hwf k2 k3
    exact bodyPost_ret (v := .tuple #[.agg #[.slice none 0 0, .slice none 0 0], .int .i64 1]) (by simp [results, Try.results30, go_sem, q0, q1]) rfl ⟨_, _, _, _, rfl, hbf, ObjW.empty⟩

end Go.Proofs.Ytgahmfkmhaeniaa
namespace Go.Proofs.Ytgahmfkmhaeniaa
open Go Go.RowKit
set_option maxHeartbeats 1000000

theorem mapI_any (A : Option Addr) (n c : Nat) (f : List (List Int)) (B : Option Addr) (m d : Nat) (s : List (List Int)) (r : Bool) (w : World) (hz : ZArg 1048576 w A n f B m s) (hr : r = true ↔ PMap f s) :
    Calls Try.prog 113 #[.agg #[.slice A n c, .slice B m d]] w fun e w' => e = .returned (.bool r) ∧ Below w.heap.size w w' := by
  have HZ := hide hz
  have HR := hide hr
  clear hz hr
  have HB0 := hide ((Below.refl _ w).alloc (Nat.le_refl _) (Obj.cells #[Value.slice A n c, Value.slice B m d] 41))
  have HK0 := hide (Blk.new w 41 [.slice A n c, .slice B m d])
  by_cases h1 : Tbl f
  · have H1 := hide h1
    clear h1
    by_cases h2 : Tbl s
    · have H2 := hide h2
      clear h2
      have HEQ : Hid (r = true ↔ n = m) := hide (by rw [HR.out, ← HZ.out.sz.fl, ← HZ.out.sz.sl]; exact ⟨fun h => h.2.2, fun h => ⟨H1.out, H2.out, h⟩⟩)
      have hfin : r = decide (n = m) := by
        have h := HEQ.out
        cases r <;> simp at h ⊢ <;> exact h
      by_cases hnm : n = m
      · subst hnm
        simp at hfin
        subst hfin
        go_enter Try.func113, Try.ntmps113
        go_wp2_with fail
        refine (isTable_any _ _ _ f true _ HZ.out.sz.fl (by have := HZ.out.sz.nb; omega) (fun i hi => by have := HZ.out.sz.nr i hi; omega) (HZ.out.fst.later HB0.out) (by simp [H1.out])).mono ?_
        rintro e w1 ⟨rfl, hq1⟩
        have HB1 := hide (HB0.out.trans (hq1.below _))
        have HK1 := hide (HK0.out.later (hq1.below _))
        have k0 := HK1.out.cell 0 _ rfl
        have k1 := HK1.out.cell 1 _ rfl
        clear hq1
        go_wp2_with fail
        clear k0 k1
        refine (isTable_any _ _ _ s true _ HZ.out.sz.sl (by have := HZ.out.sz.mb; omega) (fun i hi => by have := HZ.out.sz.mr i hi; omega) (HZ.out.snd.later HB1.out) (by simp [H2.out])).mono ?_
        rintro e w2 ⟨rfl, hq2⟩
        have HB2 := hide (HB1.out.trans (hq2.below _))
        have HK2 := hide (HK1.out.later (hq2.below _))
        have k0 := HK2.out.cell 0 _ rfl
        have k1 := HK2.out.cell 1 _ rfl
        have hnb := HZ.out.sz.nb
        clear hq2
        go_wp2_with fail
        go_ret
        exact ⟨rfl, HB2.out⟩
      · have hne : decide ((n : Int) = (m : Int)) = false := by simp; omega
        have hne2 : ((n : Int) == (m : Int)) = false := by simp; omega
        simp [hnm] at hfin
        subst hfin
        clear hnm
        go_enter Try.func113, Try.ntmps113
        go_wp2_with fail
        refine (isTable_any _ _ _ f true _ HZ.out.sz.fl (by have := HZ.out.sz.nb; omega) (fun i hi => by have := HZ.out.sz.nr i hi; omega) (HZ.out.fst.later HB0.out) (by simp [H1.out])).mono ?_
        rintro e w1 ⟨rfl, hq1⟩
        have HB1 := hide (HB0.out.trans (hq1.below _))
        have HK1 := hide (HK0.out.later (hq1.below _))
        have k0 := HK1.out.cell 0 _ rfl
        have k1 := HK1.out.cell 1 _ rfl
        clear hq1
        go_wp2_with fail
        clear k0 k1
        refine (isTable_any _ _ _ s true _ HZ.out.sz.sl (by have := HZ.out.sz.mb; omega) (fun i hi => by have := HZ.out.sz.mr i hi; omega) (HZ.out.snd.later HB1.out) (by simp [H2.out])).mono ?_
        rintro e w2 ⟨rfl, hq2⟩
        have HB2 := hide (HB1.out.trans (hq2.below _))
        have HK2 := hide (HK1.out.later (hq2.below _))
        have k0 := HK2.out.cell 0 _ rfl
        have k1 := HK2.out.cell 1 _ rfl
        have hnb := HZ.out.sz.nb
        have hmb := HZ.out.sz.mb
        clear hq2
        go_wp2_with fail
        go_ret
        exact ⟨rfl, HB2.out⟩
    · have hrt : r = false := by
        cases r
        · rfl
        · exact absurd (HR.out.1 rfl).2.1 h2
      have H2 := hide h2
      subst hrt
      clear h2
      go_enter Try.func113, Try.ntmps113
      go_wp2_with fail
      refine (isTable_any _ _ _ f true _ HZ.out.sz.fl (by have := HZ.out.sz.nb; omega) (fun i hi => by have := HZ.out.sz.nr i hi; omega) (HZ.out.fst.later HB0.out) (by simp [H1.out])).mono ?_
      rintro e w1 ⟨rfl, hq1⟩
      have HB1 := hide (HB0.out.trans (hq1.below _))
      have HK1 := hide (HK0.out.later (hq1.below _))
      have k0 := HK1.out.cell 0 _ rfl
      have k1 := HK1.out.cell 1 _ rfl
      clear hq1
      go_wp2_with fail
      refine (isTable_any _ _ _ s false _ HZ.out.sz.sl (by have := HZ.out.sz.mb; omega) (fun i hi => by have := HZ.out.sz.mr i hi; omega) (HZ.out.snd.later HB1.out) (by simp [H2.out])).mono ?_
      rintro e w2 ⟨rfl, hq2⟩
      have HB2 := hide (HB1.out.trans (hq2.below _))
      clear hq2
      go_wp2_with fail
      go_ret
      exact ⟨rfl, HB2.out⟩
  · have hrt : r = false := by
      cases r
      · rfl
      · exact absurd (HR.out.1 rfl).1 h1
    have H1 := hide h1
    subst hrt
    clear h1
    go_enter Try.func113, Try.ntmps113
    go_wp2_with fail
    refine (isTable_any _ _ _ f false _ HZ.out.sz.fl (by have := HZ.out.sz.nb; omega) (fun i hi => by have := HZ.out.sz.nr i hi; omega) (HZ.out.fst.later HB0.out) (by simp [H1.out])).mono ?_
    rintro e w1 ⟨rfl, hq1⟩
    have HB1 := hide (HB0.out.trans (hq1.below _))
    clear hq1
    go_wp2_with fail
    go_ret
    exact ⟨rfl, HB1.out⟩
end Go.Proofs.Ytgahmfkmhaeniaa
namespace Go.Proofs.Ytgahmfkmhaeniaa
open Go Go.RowKit
set_option maxHeartbeats 1000000

theorem cell_other {w : World} {b o k j : Nat} (h : b ≠ k) (v : Value) : (w.setCell ⟨k, j, none⟩ v).cell? ⟨b, o, none⟩ = w.cell? ⟨b, o, none⟩ :=
  World.cell?_of_block (a := ⟨b, o, none⟩) (Below.heap_setCell w ⟨k, j, none⟩ v b h)

theorem lead_any (A : Option Addr) (n c : Nat) (f : List (List Int)) (B : Option Addr) (m d : Nat) (s : List (List Int)) (x y : Nat) (w : World) (hz : ZArg 1048576 w A n f B m s) (hp : PMap f s) (hx : x < n) (hy : y < n) :
    Calls Try.prog 119 #[.agg #[.slice A n c, .slice B m d], .agg #[.int .i64 x, .int .i64 y]] w fun e w' => e = .returned (.agg #[.int .i64 (ap f x y : Nat), .int .i64 (ap s x y : Nat)]) ∧ Below w.heap.size w w' := by
  obtain ⟨b, o, rfl, hb, hc⟩ := hp.1.cells hz.fst hz.sz.fl
  have hm : s.length = n := by rw [← hp.2.2]; exact hz.sz.fl
  obtain ⟨b2, o2, rfl, hb2, hc2⟩ := hp.2.1.cells hz.snd hm
  obtain ⟨bx, ox, cx, h1, h2, h3⟩ := hc x hx
  obtain ⟨by', oy, cy, h4, h5, h6⟩ := hc2 x hx
  have h7 := h3 y hy
  have h8 := h6 y hy
  have hmn : m = n := by rw [← hz.sz.sl]; exact hm
  subst hmn
  have hnb := hz.sz.nb
  obtain ⟨u, hu⟩ : ∃ u, ap f x y = u := ⟨_, rfl⟩
  obtain ⟨v, hv⟩ : ∃ v, ap s x y = v := ⟨_, rfl⟩
  rw [hu] at h7 ⊢
  rw [hv] at h8 ⊢
  have H1 := hide h1
  have H4 := hide h4
  have H7 := hide h7
  have H8 := hide h8
  clear h1 h3 h4 h6 h7 h8 hc hc2 hu hv hm hz hp
  go_enter Try.func119, Try.ntmps119
  go_wp2_with fail
  refine wp_gen fun w1 hw1 => ?_
  have hbb : Below w.heap.size w w1 := by rw [hw1]; exact (((Below.refl _ _).alloc (Nat.le_refl _) _).alloc (by simp) _).alloc (by simp; omega) _
  have HBB := hide hbb
  have hk0 : Blk w1 w.heap.size 41 [.slice (some ⟨b, o, none⟩) m c, .slice (some ⟨b2, o2, none⟩) m d] := by rw [hw1]; exact ((Blk.new _ _ _).alloc _).alloc _
  have hk1 : Blk w1 (w.heap.size + 1) 104 [.int .i64 x, .int .i64 y] := by rw [hw1]; have h := (Blk.new (w.alloc (Obj.cells #[.slice (some ⟨b, o, none⟩) m c, .slice (some ⟨b2, o2, none⟩) m d] 41)) 104 [.int .i64 x, .int .i64 y]).alloc (Obj.cells #[Value.int IntKind.i64 0, Value.int IntKind.i64 0] 104); simpa using h
  have hk2 : Blk w1 (w.heap.size + 1 + 1) 104 [.int .i64 0, .int .i64 0] := by rw [hw1]; have h := (Blk.new ((w.alloc (Obj.cells #[.slice (some ⟨b, o, none⟩) m c, .slice (some ⟨b2, o2, none⟩) m d] 41)).alloc (Obj.cells #[Value.int IntKind.i64 x, Value.int IntKind.i64 y] 104)) 104 [.int .i64 0, .int .i64 0]); simpa using h
  have HK2 := hide hk2
  have a0 := hk0.cell 0 _ rfl
  have a1 := hk0.cell 1 _ rfl
  have a2 := hk1.cell 0 _ rfl
  have a3 := hk1.cell 1 _ rfl
  have a4 : w1.cell? ⟨b, o + x, none⟩ = some (.slice (some ⟨bx, ox, none⟩) m cx) := (hbb.cell (p := ⟨b, o + x, none⟩) hb).trans H1.out
  have a5 : w1.cell? ⟨b2, o2 + x, none⟩ = some (.slice (some ⟨by', oy, none⟩) m cy) := (hbb.cell (p := ⟨b2, o2 + x, none⟩) hb2).trans H4.out
  have a6 : w1.cell? ⟨bx, ox + y, none⟩ = some (.int .i64 u) := (hbb.cell (p := ⟨bx, ox + y, none⟩) h2).trans H7.out
  have a7 : w1.cell? ⟨by', oy + y, none⟩ = some (.int .i64 v) := (hbb.cell (p := ⟨by', oy + y, none⟩) h5).trans H8.out
  have a8 := hk2.cell 0 _ rfl
  have a9 := hk2.cell 1 _ rfl
  have b0 := hk2.frozen 0
  have b1 := hk2.frozen 1
  have hxz : (x : Int) < m := by omega
  have hyz : (y : Int) < m := by omega
  have hxz0 : (0 : Int) ≤ x := by omega
  have hyz0 : (0 : Int) ≤ y := by omega
  have k1 : w.heap.size + 1 + 1 ≠ w.heap.size := by omega
  have k2 : w.heap.size + 1 + 1 ≠ b := by omega
  have k3 : w.heap.size + 1 + 1 ≠ b2 := by omega
  have k4 : w.heap.size + 1 + 1 ≠ bx := by omega
  have k5 : w.heap.size + 1 + 1 ≠ by' := by omega
  have j1 := k1.symm
  have j2 := k2.symm
  have j3 := k3.symm
  have j4 := k4.symm
  have j5 := k5.symm
  clear hw1 hk0 hk1 hk2 hbb hb hb2 h2 h5
  go_region_held3 (fun w' => w'.cell? ⟨w.heap.size, 0, none⟩ = some (.slice (some ⟨b, o, none⟩) m c) ∧ w'.cell? ⟨w.heap.size, 1, none⟩ = some (.slice (some ⟨b2, o2, none⟩) m d) ∧ w'.cell? ⟨w.heap.size + 1, 0, none⟩ = some (.int .i64 x) ∧ w'.cell? ⟨w.heap.size + 1, 1, none⟩ = some (.int .i64 y) ∧ w'.cell? ⟨b, o + x, none⟩ = some (.slice (some ⟨bx, ox, none⟩) m cx) ∧ w'.cell? ⟨b2, o2 + x, none⟩ = some (.slice (some ⟨by', oy, none⟩) m cy) ∧ w'.cell? ⟨bx, ox + y, none⟩ = some (.int .i64 u) ∧ w'.cell? ⟨by', oy + y, none⟩ = some (.int .i64 v)) (first | exact ⟨a0, a1, a2, a3, a4, a5, a6, a7⟩ | go_keep) (first | fail)
  clear k1 k2 k3 k4 k5 j1 j2 j3 j4 j5 a0 a1 a2 a3 a4 a5 a6 a7 a8 a9 b0 b1
  go_wp2_with fail
  refine bp_gen fun wf hwf => ?_
  have HRF : Blk wf (w.heap.size + 1 + 1) 104 [.int .i64 u, .int .i64 v] := by rw [hwf]; exact ((HK2.out.set 0 _).set 1 _).drew
  have HBF : Below w.heap.size w wf := by rw [hwf]; exact ((HBB.out.setCell (by show w.heap.size ≤ w.heap.size + 1 + 1; omega) _).setCell (by show w.heap.size ≤ w.heap.size + 1 + 1; omega) _).drew
  have q0 := HRF.cell 0 _ rfl
  have q1 := HRF.cell 1 _ rfl
  clear hwf
  exact bodyPost_ret (v := .agg #[.int .i64 u, .int .i64 v]) (by simp [results, Try.results119, go_sem, q0, q1]) rfl ⟨rfl, HBF⟩
end Go.Proofs.Ytgahmfkmhaeniaa
namespace Go.Proofs.Ytgahmfkmhaeniaa
open Go Go.RowKit
set_option maxHeartbeats 1000000

theorem size_any (A : Option Addr) (n c : Nat) (B : Option Addr) (m d : Nat) (w : World) (_hn : n ≤ 1048576) :
    Calls Try.prog 118 #[.agg #[.slice A n c, .slice B m d]] w fun e w' => e = .returned (.int .i64 n) ∧ Below w.heap.size w w' := by
  have HB0 := hide ((Below.refl _ w).alloc (Nat.le_refl _) (Obj.cells #[Value.slice A n c, Value.slice B m d] 41))
  go_enter Try.func118, Try.ntmps118
  go_wp2_with fail
  go_ret
  exact ⟨rfl, HB0.out⟩
end Go.Proofs.Ytgahmfkmhaeniaa
namespace Go.Proofs.Ytgahmfkmhaeniaa
open Go Go.RowKit
set_option maxHeartbeats 1000000

/-- What is asked of the function value: at each pair of elements, in each later world, it hands back the pair of both functions' values, and leaves what there was. -/
def PairFn (P : Program) (F : FuncId) (lb : Array Value) (n : Nat) (h1 h2 : Nat → Nat → Int) (w : World) : Prop :=
  ∀ (W : World) (x y : Nat), x < n → y < n → Below w.heap.size w W → Calls P F (#[.agg #[.int .i64 x, .int .i64 y]] ++ lb) W fun e w' => e = .returned (.agg #[.int .i64 (h1 x y), .int .i64 (h2 x y)]) ∧ Below W.heap.size W w'

/-- After k pairs. -/
def pmTo (h : Nat → Nat → Int) (n k : Nat) : Nat → Nat → Int := fun a b => if a * n + b < k then h a b else 0
theorem pmTo_upd (h : Nat → Nat → Int) (n k x y : Nat) (hx : k / n = x) (hy : k % n = y) (_hyn : y < n) : ∀ a b, a < n → b < n → updF (pmTo h n k) x y (h x y) a b = pmTo h n (k + 1) a b := by
  intro a b _ hb
  have hk : k = x * n + y := by rw [← hx, ← hy]; exact (pair_eta n k).symm
  unfold updF pmTo
  by_cases e : a = x ∧ b = y
  · obtain ⟨rfl, rfl⟩ := e
    rw [if_pos ⟨rfl, rfl⟩, if_pos (by omega)]
  · rw [if_neg e]
    have hne : a * n + b ≠ k := fun hh => e (by
      have h1 := pair_div n a b hb
      have h2 := pair_mod n a b hb
      rw [hh] at h1 h2
      omega)
    by_cases h2 : a * n + b < k
    · rw [if_pos h2, if_pos (by omega)]
    · rw [if_neg h2, if_neg (by omega)]

set_option maxRecDepth 100000 in
theorem pmo_any (F : FuncId) (lb : Array Value) (n : Nat) (h1 h2 : Nat → Nat → Int) (w : World) (eg : ∀ args w, (callFunc F args).run Try.prog w = .ok (.enter F args) w) (h0 : 1 ≤ n) (h12 : n ≤ 12) (hp : PairFn Try.prog F lb n h1 h2 w) :
    Calls Try.prog 106 #[.int .i64 n, .func (.func F) #[] lb] w fun e w' => ∃ A c B d, e = .returned (.agg #[.slice A n c, .slice B n d]) ∧ Below w.heap.size w w' ∧ ObjZ 31 2 w.heap.size w'.heap.size w' A (grid n h1) B (grid n h2) := by
  have HPF := hide hp
  clear hp
  obtain ⟨N, hN⟩ : ∃ N, n * n = N := ⟨_, rfl⟩
  have hN144 : N ≤ 144 := by rw [← hN]; exact sq_le n h12
  have HN := hide hN
  clear hN
  go_enter Try.func106, Try.ntmps106
  go_wp2_with fail
  refine calls_gen fun w0 hw0 => ?_
  have HB0 : Hid (Below w.heap.size w w0) := hide (by rw [hw0]; exact (Below.refl _ _).alloc (Nat.le_refl _) _)
  have HK0 : Hid (Blk w0 w.heap.size 41 [.slice none 0 0, .slice none 0 0]) := hide (by rw [hw0]; exact Blk.new _ _ _)
  have Z0 : Hid (w0.heap.size = w.heap.size + 1) := hide (by rw [hw0]; simp)
  clear hw0
  refine (newTable_any n _ (by omega)).mono ?_
  rintro e w1 ⟨rfl, hb1, ht1, hs1⟩
  have HB1 := hide (HB0.out.trans (hb1.mono HB0.out.size))
  have HK1 := hide (HK0.out.later hb1)
  have HT1 := hide ht1
  have Z1 := hide hs1
  clear hb1 ht1 hs1
  go_wp2_with fail
  refine (newTable_any n _ (by omega)).mono ?_
  rintro e w2 ⟨rfl, hb2, ht2, hs2⟩
  have HB2 := hide (HB1.out.trans (hb2.mono HB1.out.size))
  have HK2 := hide (HK1.out.later hb2)
  have HT12 := hide (HT1.out.later hb2)
  have HT2 := hide ht2
  have Z2 := hide hs2
  clear hb2 ht2 hs2
  go_wp2_with fail
  refine calls_gen fun w3 hw3 => ?_
  have hb3 : Below w2.heap.size w2 w3 := by rw [hw3]; exact (Below.refl _ _).alloc (Nat.le_refl _) _
  have HB3 := hide (HB2.out.trans (hb3.mono HB2.out.size))
  have HK3 := hide (HK2.out.later hb3)
  have HS3 : Hid (Blk w3 w2.heap.size 41 [.slice (some ⟨w0.heap.size, 0, none⟩) n n, .slice (some ⟨w1.heap.size, 0, none⟩) n n]) := hide (by rw [hw3]; exact Blk.new _ _ _)
  have HT13 := hide (HT12.out.later hb3)
  have HT23 := hide (HT2.out.later hb3)
  have Z3 : Hid (w3.heap.size = w2.heap.size + 1) := hide (by rw [hw3]; simp)
  clear hw3 hb3
  refine (pairsOf_any n N _ h0 h12 HN.out).mono ?_
  rintro e w4 ⟨g, rfl, hb4, hg4, hpa⟩
  have HB4 := hide (HB3.out.trans (hb4.mono HB3.out.size))
  have HK4 := hide (HK3.out.later hb4)
  have HS4 := hide (HS3.out.later hb4)
  have HT14 := hide (HT13.out.later hb4)
  have HT24 := hide (HT23.out.later hb4)
  have HPA4 := hide hpa
  have hs4 := hb4.size
  clear hb4 hpa
  go_wp2_with fail
  go_loopw [16] (fun i wr => ∃ k : Nat, k ≤ N ∧ i = .int .i64 k ∧ Below w.heap.size w wr ∧ w4.heap.size ≤ wr.heap.size ∧ Blk wr w.heap.size 41 [.slice none 0 0, .slice none 0 0] ∧ Blk wr w2.heap.size 41 [.slice (some ⟨w0.heap.size, 0, none⟩) n n, .slice (some ⟨w1.heap.size, 0, none⟩) n n] ∧ PairsAt wr g n ∧ TabF 31 2 wr w0.heap.size (fun i => w0.heap.size + 1 + i) n (pmTo h1 n k) ∧ TabF 31 2 wr w1.heap.size (fun i => w1.heap.size + 1 + i) n (pmTo h2 n k)) (fun i _ => N - (intOf i).toNat)
  case atStart => exact ⟨0, Nat.zero_le _, rfl, HB4.out, Nat.le_refl _, HK4.out, HS4.out, HPA4.out, HT14.out.congr (fun a b _ _ => by simp [pmTo]), HT24.out.congr (fun a b _ _ => by simp [pmTo])⟩
  case round =>
    obtain ⟨k, hk, rfl, hbe, hsz, hkk, hss, hpa, ht1, ht2⟩ := hrel
    have HB := hide hbe
    have HK := hide hkk
    have HS := hide hss
    have HPA := hide hpa
    have HT1 := hide ht1
    have HT2 := hide ht2
    clear hbe hkk hss hpa ht1 ht2
    by_cases hlt : k < N
    · have hkz : (k : Int) < N := by omega
      obtain ⟨p0, p1⟩ := HPA.out.2 k (by rw [HN.out]; exact hlt)
      have hxn : k / n < n := div_lt_sq (by rw [HN.out]; exact hlt)
      have hyn : k % n < n := mod_lt_sq (by rw [HN.out]; exact hlt)
      obtain ⟨x, hx⟩ : ∃ x, k / n = x := ⟨_, rfl⟩
      obtain ⟨y, hy⟩ : ∃ y, k % n = y := ⟨_, rfl⟩
      rw [hx] at p0 hxn
      rw [hy] at p1 hyn
      have HX := hide hx
      have HY := hide hy
      clear hx hy
      go_wp2_with fail
      refine wp_gen fun w5 hw5 => ?_
      obtain ⟨P, hPe⟩ : ∃ P, wr.heap.size = P := ⟨_, rfl⟩
      have hb5 : Below wr.heap.size wr w5 := by rw [hw5]; exact (Below.refl _ _).alloc (Nat.le_refl _) _
      have HPP : Hid (w4.heap.size ≤ P) := hide (by rw [← hPe]; exact hsz)
      have HBc := hide (HB.out.trans (hb5.mono HB.out.size))
      have HKc := hide (HK.out.later hb5)
      have HSc := hide (HS.out.later hb5)
      have HAc := hide (HPA.out.later hb5)
      have HT1c := hide (HT1.out.later hb5)
      have HT2c := hide (HT2.out.later hb5)
      have HPc : Hid (Blk w5 P 104 [.int .i64 x, .int .i64 y]) := hide (by rw [hw5, ← hPe]; exact Blk.new _ _ _)
      have hszc : w4.heap.size ≤ w5.heap.size := by have := hb5.size; omega
      rw [hPe]
      clear hw5 hb5 p0 p1 hPe
      have k0 := HSc.out.cell 0 _ rfl
      have k1 := HSc.out.cell 1 _ rfl
      have k2 := HPc.out.cell 0 _ rfl
      have k3 := HPc.out.cell 1 _ rfl
      go_region_held3 (fun w' => w'.cell? ⟨w2.heap.size, 0, none⟩ = some (.slice (some ⟨w0.heap.size, 0, none⟩) n n) ∧ w'.cell? ⟨w2.heap.size, 1, none⟩ = some (.slice (some ⟨w1.heap.size, 0, none⟩) n n) ∧ w'.cell? ⟨P, 0, none⟩ = some (.int .i64 x) ∧ w'.cell? ⟨P, 1, none⟩ = some (.int .i64 y)) (first | exact ⟨k0, k1, k2, k3⟩ | go_keep) (first | (go_at_fn F; go_must (refine calls_gen fun wc hwc => ?_; have hbx : Below w5.heap.size w5 wc := (by rw [hwc]; first | exact Below.refl _ _ | exact (Below.refl _ _).drew); replace HBc := hide (HBc.out.trans (hbx.mono HBc.out.size)); replace HKc := hide (HKc.out.later hbx); replace HSc := hide (HSc.out.later hbx); replace HAc := hide (HAc.out.later hbx); replace HT1c := hide (HT1c.out.later hbx); replace HT2c := hide (HT2c.out.later hbx); replace HPc := hide (HPc.out.later hbx); replace hszc : w4.heap.size ≤ wc.heap.size := (by have := hbx.size; omega); clear hwc hbx; refine (HPF.out wc x y hxn hyn HBc.out).mono ?_; rintro e wd ⟨rfl, hbd⟩; replace HBc := hide (HBc.out.trans (hbd.mono HBc.out.size)); replace HKc := hide (HKc.out.later hbd); replace HSc := hide (HSc.out.later hbd); replace HAc := hide (HAc.out.later hbd); replace HT1c := hide (HT1c.out.later hbd); replace HT2c := hide (HT2c.out.later hbd); replace HPc := hide (HPc.out.later hbd); replace hszc : w4.heap.size ≤ wd.heap.size := (by have := hbd.size; omega); clear hbd; have k0 := HSc.out.cell 0 _ rfl; have k1 := HSc.out.cell 1 _ rfl; have k2 := HPc.out.cell 0 _ rfl; have k3 := HPc.out.cell 1 _ rfl)) | (go_at_call 136; go_must (refine (set_any w0.heap.size w1.heap.size w2.heap.size _ _ _ _ n _ _ _ _ x y _ _ _ HT1c.out HT2c.out (by have z1 := Z1.out; omega) (fun i hi => by have z1 := Z1.out; omega) (by have z2 := Z2.out; omega) (fun i hi => by have z2 := Z2.out; omega) (by have z3 := Z3.out; omega) h12 hxn hyn).mono ?_; rintro e wd ⟨rfl, htd, ht1, ht2⟩; replace HBc := hide (htd.below HBc.out HBc.out.size (by have z0 := Z0.out; omega)); replace HKc := hide (HKc.out.touch htd (.inl (by have z0 := Z0.out; omega))); replace HSc := hide (HSc.out.touch htd (.inr (Nat.le_refl _))); replace HPc := hide (HPc.out.touch htd (.inr (by have := HPP.out; have z3 := Z3.out; omega))); replace HAc : Hid (PairsAt wd g n) := hide (HAc.out.touch htd (.inr (by have z3 := Z3.out; omega))); replace HT1c := hide ht1; replace HT2c := hide ht2; replace hszc : w4.heap.size ≤ wd.heap.size := (by have := htd.size; omega); clear htd ht1 ht2; have k0 := HSc.out.cell 0 _ rfl; have k1 := HSc.out.cell 1 _ rfl; have k2 := HPc.out.cell 0 _ rfl; have k3 := HPc.out.cell 1 _ rfl)))
      go_wp2_with fail
      go_roundw
      case rel => exact ⟨k + 1, by omega, by go_num, HBc.out, hszc, HKc.out, HSc.out, HAc.out, HT1c.out.congr (pmTo_upd h1 n k x y HX.out HY.out hyn), HT2c.out.congr (pmTo_upd h2 n k x y HX.out HY.out hyn)⟩
      case measure => simp [intOf]; omega
    · have hkn : k = N := by omega
      subst hkn
      have k0 := HS.out.cell 0 _ rfl
      have k1 := HS.out.cell 1 _ rfl
      have k2 := HK.out.cell 0 _ rfl
      have k3 := HK.out.cell 1 _ rfl
      have k4 := HK.out.frozen 0
      have k5 := HK.out.frozen 1
      go_wp2_with fail
      refine bp_gen fun wf hwf => ?_
      have HRF : Blk wf w.heap.size 41 [.slice (some ⟨w0.heap.size, 0, none⟩) n n, .slice (some ⟨w1.heap.size, 0, none⟩) n n] := by rw [hwf]; exact ((HK.out.set 0 _).set 1 _)
      have HBF : Below w.heap.size w wf := by rw [hwf]; exact ((HB.out.setCell (p := ⟨w.heap.size, 0, none⟩) (Nat.le_refl _) _).setCell (p := ⟨w.heap.size, 1, none⟩) (Nat.le_refl _) _)
      have z0 := Z0.out
      have z1 := Z1.out
      have z2 := Z2.out
      have z3 := Z3.out
      have HF1 : TabF 31 2 wf w0.heap.size (fun i => w0.heap.size + 1 + i) n h1 := by rw [hwf]; exact ((HT1.out.far1 (p := ⟨w.heap.size, 0, none⟩) (by show w0.heap.size ≠ w.heap.size; omega) (fun i hi => by show w0.heap.size + 1 + i ≠ w.heap.size; omega) _).far1 (p := ⟨w.heap.size, 1, none⟩) (by show w0.heap.size ≠ w.heap.size; omega) (fun i hi => by show w0.heap.size + 1 + i ≠ w.heap.size; omega) _).congr (fun a b ha hb => by unfold pmTo; rw [if_pos (by rw [← HN.out]; exact pair_lt n a b ha hb)])
      have HF2 : TabF 31 2 wf w1.heap.size (fun i => w1.heap.size + 1 + i) n h2 := by rw [hwf]; exact ((HT2.out.far1 (p := ⟨w.heap.size, 0, none⟩) (by show w1.heap.size ≠ w.heap.size; omega) (fun i hi => by show w1.heap.size + 1 + i ≠ w.heap.size; omega) _).far1 (p := ⟨w.heap.size, 1, none⟩) (by show w1.heap.size ≠ w.heap.size; omega) (fun i hi => by show w1.heap.size + 1 + i ≠ w.heap.size; omega) _).congr (fun a b ha hb => by unfold pmTo; rw [if_pos (by rw [← HN.out]; exact pair_lt n a b ha hb)])
      have hsf : wf.heap.size = wr.heap.size := by rw [hwf]; simp [World.setCell]
      have q0 := HRF.cell 0 _ rfl
      have q1 := HRF.cell 1 _ rfl
      clear hwf k0 k1 k2 k3 k4 k5
      exact bodyPost_ret (v := .agg #[.slice (some ⟨w0.heap.size, 0, none⟩) n n, .slice (some ⟨w1.heap.size, 0, none⟩) n n]) (by simp [results, Try.results106, go_sem, q0, q1]) rfl ⟨_, _, _, _, rfl, HBF, w1.heap.size, by omega, by omega, HF1.obj (by omega) (by omega) (fun i hi => by omega), HF2.obj (by omega) (by omega) (fun i hi => by omega)⟩
end Go.Proofs.Ytgahmfkmhaeniaa
namespace Go.Proofs.Ytgahmfkmhaeniaa
open Go Go.RowKit
set_option maxHeartbeats 1000000

theorem swapped_any (x y : Int) (w : World) :
    Calls Try.prog 121 #[.agg #[.int .i64 x, .int .i64 y]] w fun e w' => e = .returned (.agg #[.int .i64 y, .int .i64 x]) ∧ Below w.heap.size w w' := by
  go_enter Try.func121, Try.ntmps121
  go_wp2_with fail
  refine bp_gen fun wf hwf => ?_
  have HRF : Blk wf (w.heap.size + 1) 104 [.int .i64 y, .int .i64 x] := by rw [hwf]; have h := Blk.new (w.alloc (Obj.cells #[Value.int IntKind.i64 x, Value.int IntKind.i64 y] 104)) 104 [.int .i64 y, .int .i64 x]; simpa using h
  have HBF : Below w.heap.size w wf := by rw [hwf]; exact ((Below.refl _ _).alloc (Nat.le_refl _) _).alloc (by simp) _
  have q0 := HRF.cell 0 _ rfl
  have q1 := HRF.cell 1 _ rfl
  clear hwf
  exact bodyPost_ret (v := .agg #[.int .i64 y, .int .i64 x]) (by simp [results, Try.results121, go_sem, q0, q1]) rfl ⟨rfl, HBF⟩

set_option maxRecDepth 100000 in
theorem mirC_any (A : Option Addr) (n c : Nat) (f : List (List Int)) (B : Option Addr) (m d : Nat) (s : List (List Int)) (b : Nat) (w : World) (hz : ZArg 1048576 w A n f B m s) (hp : PMap f s) (hk : Blk w b 41 [.slice A n c, .slice B m d]) :
    PairFn Try.prog 120 #[.pointer (some ⟨b, 0, none⟩)] n (mir1 s) (mir1 f) w := by
  intro W x y hx hy hb
  have HZ := hide (hz.later hb)
  have HK := hide (hk.later hb)
  have HP := hide hp
  have hbW : b < W.heap.size := HK.out.lt
  clear hz hp hk hb
  show Calls Try.prog 120 #[.agg #[.int .i64 x, .int .i64 y], .pointer (some ⟨b, 0, none⟩)] W _
  unfold mir1
  go_enter Try.func120, Try.ntmps120
  go_wp2_with fail
  refine wp_gen fun w1 hw1 => ?_
  have hb1 : Below W.heap.size W w1 := by rw [hw1]; exact ((Below.refl _ _).alloc (Nat.le_refl _) _).alloc (by simp) _
  have HQ : Hid (Blk w1 W.heap.size 104 [.int .i64 x, .int .i64 y]) := hide (by rw [hw1]; exact (Blk.new _ _ _).alloc _)
  have HR : Hid (Blk w1 (W.heap.size + 1) 104 [.int .i64 0, .int .i64 0]) := hide (by rw [hw1]; have h := Blk.new (W.alloc (Obj.cells #[Value.int IntKind.i64 x, Value.int IntKind.i64 y] 104)) 104 [.int .i64 0, .int .i64 0]; simpa using h)
  have HBc := hide hb1
  replace HZ := hide (HZ.out.later hb1)
  replace HK := hide (HK.out.later hb1)
  clear hw1 hb1
  have k0 := HK.out.cell 0 _ rfl
  have k1 := HK.out.cell 1 _ rfl
  have k2 := HQ.out.cell 0 _ rfl
  have k3 := HQ.out.cell 1 _ rfl
  have k4 := HR.out.cell 0 _ rfl
  have k5 := HR.out.cell 1 _ rfl
  have k6 := HR.out.frozen 0
  have k7 := HR.out.frozen 1
  have j1 : W.heap.size + 1 ≠ b := by omega
  have j2 := j1.symm
  go_region_held3 (fun w' => w'.cell? ⟨b, 0, none⟩ = some (.slice A n c) ∧ w'.cell? ⟨b, 1, none⟩ = some (.slice B m d) ∧ w'.cell? ⟨W.heap.size, 0, none⟩ = some (.int .i64 x) ∧ w'.cell? ⟨W.heap.size, 1, none⟩ = some (.int .i64 y)) (first | exact ⟨k0, k1, k2, k3⟩ | go_keep) (first | (go_at_call 121; go_must (refine calls_gen fun wc hwc => ?_; (first | have hbx := drew_below hwc | have hbx := eq_below hwc); replace HBc := hide (HBc.out.trans (hbx.mono HBc.out.size)); replace HZ := hide (HZ.out.later hbx); replace HK := hide (HK.out.later hbx); replace HQ := hide (HQ.out.later hbx); replace HR := hide (HR.out.later hbx); clear hwc hbx; refine (swapped_any _ _ _).mono ?_; rintro e wd ⟨rfl, hbd⟩; replace HBc := hide (HBc.out.trans (hbd.mono HBc.out.size)); replace HZ := hide (HZ.out.later hbd); replace HK := hide (HK.out.later hbd); replace HQ := hide (HQ.out.later hbd); replace HR := hide (HR.out.later hbd); clear hbd; have k0 := HK.out.cell 0 _ rfl; have k1 := HK.out.cell 1 _ rfl; have k2 := HQ.out.cell 0 _ rfl; have k3 := HQ.out.cell 1 _ rfl; have k4 := HR.out.cell 0 _ rfl; have k5 := HR.out.cell 1 _ rfl; have k6 := HR.out.frozen 0; have k7 := HR.out.frozen 1)) | (go_at_call 119; go_must (refine calls_gen fun wc hwc => ?_; (first | have hbx := drew_below hwc | have hbx := eq_below hwc); replace HBc := hide (HBc.out.trans (hbx.mono HBc.out.size)); replace HZ := hide (HZ.out.later hbx); replace HK := hide (HK.out.later hbx); replace HQ := hide (HQ.out.later hbx); replace HR := hide (HR.out.later hbx); clear hwc hbx; refine (lead_any _ _ _ f _ _ _ s y x _ HZ.out HP.out hy hx).mono ?_; rintro e wd ⟨rfl, hbd⟩; replace HBc := hide (HBc.out.trans (hbd.mono HBc.out.size)); replace HZ := hide (HZ.out.later hbd); replace HK := hide (HK.out.later hbd); replace HQ := hide (HQ.out.later hbd); replace HR := hide (HR.out.later hbd); clear hbd; have k0 := HK.out.cell 0 _ rfl; have k1 := HK.out.cell 1 _ rfl; have k2 := HQ.out.cell 0 _ rfl; have k3 := HQ.out.cell 1 _ rfl; have k4 := HR.out.cell 0 _ rfl; have k5 := HR.out.cell 1 _ rfl; have k6 := HR.out.frozen 0; have k7 := HR.out.frozen 1)))
  clear j1 j2
  go_wp2_with fail
  refine bp_gen fun wf hwf => ?_
  have HRF : Blk wf (W.heap.size + 1) 104 [.int .i64 (ap s y x : Nat), .int .i64 (ap f y x : Nat)] := by rw [hwf]; exact ((HR.out.set 0 _).set 1 _)
  have HBF : Below W.heap.size W wf := by rw [hwf]; exact (HBc.out.setCell (p := ⟨W.heap.size + 1, 0, none⟩) (by show W.heap.size ≤ W.heap.size + 1; omega) _).setCell (p := ⟨W.heap.size + 1, 1, none⟩) (by show W.heap.size ≤ W.heap.size + 1; omega) _
  have q0 := HRF.cell 0 _ rfl
  have q1 := HRF.cell 1 _ rfl
  clear hwf k0 k1 k2 k3 k4 k5 k6 k7
  exact bodyPost_ret (v := .agg #[.int .i64 (ap s y x : Nat), .int .i64 (ap f y x : Nat)]) (by simp [results, Try.results120, go_sem, q0, q1]) rfl ⟨rfl, HBF⟩

set_option maxRecDepth 100000 in
theorem mirI_any (A : Option Addr) (n c : Nat) (f : List (List Int)) (B : Option Addr) (m d : Nat) (s : List (List Int)) (zf zg : List (List Int)) (code : Int) (kz kw : Nat) (w : World) (hz : ZArg 1048576 w A n f B m s) (hr : MirRes f s zf zg code) (hk : ZSz 1048576 zf kz zg kw) :
    Calls Try.prog 81 #[.agg #[.slice A n c, .slice B m d]] w (ZPost 31 2 kz kw zf zg code w) := by
  have hnb := hz.sz.nb
  have HZ := hide hz
  have HFL := hide hz.sz.fl
  rcases hr with ⟨hp, rfl, rfl, rfl⟩ | ⟨hp, rfl, rfl, rfl⟩
  · have HP := hide hp
    have h12 := hz.small hp
    obtain rfl : kz = n := by rw [← hk.fl, grid_length, HFL.out]
    obtain rfl : kw = kz := by rw [← hk.sl, grid_length, HFL.out]
    clear hp hz hk
    go_enter Try.func81, Try.ntmps81
    go_wp2_with fail
    refine calls_gen fun w0 hw0 => ?_
    have hb0 : Below w.heap.size w w0 := by rw [hw0]; exact ((Below.refl _ _).alloc (Nat.le_refl _) _).alloc (by simp) _
    have HB0 := hide hb0
    have HK0 : Hid (Blk w0 w.heap.size 41 [.slice A kw c, .slice B m d]) := hide (by rw [hw0]; exact (Blk.new _ _ _).alloc _)
    have HR0 : Hid (Blk w0 (w.heap.size + 1) 41 [.slice none 0 0, .slice none 0 0]) := hide (by rw [hw0]; have h := Blk.new (w.alloc (Obj.cells #[Value.slice A kw c, Value.slice B m d] 41)) 41 [.slice none 0 0, .slice none 0 0]; simpa using h)
    clear hw0 hb0
    refine (mapI_any _ _ _ f _ _ _ s true _ (HZ.out.later HB0.out) (by simp [HP.out])).mono ?_
    rintro e w1 ⟨rfl, hb1⟩
    have HB1 := hide (HB0.out.trans (hb1.mono HB0.out.size))
    have HK1 := hide (HK0.out.later hb1)
    have HR1 := hide (HR0.out.later hb1)
    have k0 := HK1.out.cell 0 _ rfl
    have k1 := HK1.out.cell 1 _ rfl
    clear hb1
    go_wp2_with fail
    refine (size_any _ _ _ _ _ _ _ hnb).mono ?_
    rintro e w2 ⟨rfl, hb2⟩
    have HB2 := hide (HB1.out.trans (hb2.mono HB1.out.size))
    have HK2 := hide (HK1.out.later hb2)
    have HR2 := hide (HR1.out.later hb2)
    have k0 := HK2.out.cell 0 _ rfl
    have k1 := HK2.out.cell 1 _ rfl
    clear hb2
    go_wp2_with fail
    refine (pmo_any 120 _ _ (mir1 s) (mir1 f) _ (enters_of Try.func120 (by kernel_rfl) rfl) h12.1 h12.2 (mirC_any _ _ _ f _ _ _ s w.heap.size _ (HZ.out.later HB2.out) HP.out HK2.out)).mono ?_
    rintro e w3 ⟨A3, c3, B3, d3, rfl, hb3, ho3⟩
    have HB3 := hide (HB2.out.trans (hb3.mono HB2.out.size))
    have HR3 := hide (HR2.out.later hb3)
    have HO3 := hide ho3
    have HRL := hide HR2.out.lt
    have k2 := HR3.out.cell 0 _ rfl
    have k3 := HR3.out.cell 1 _ rfl
    have k4 := HR3.out.frozen 0
    have k5 := HR3.out.frozen 1
    clear hb3 ho3
    go_wp2_with fail
    refine bp_gen fun wf hwf => ?_
    obtain ⟨q0, q1, hbf, hof⟩ := zend hwf HR3.out (by omega) HRL.out HB3.out HB2.out.size HO3.out
    clear hwf k0 k1 k2 k3 k4 k5
    rw [HFL.out]
    exact bodyPost_ret (v := .tuple #[.agg #[.slice A3 kw c3, .slice B3 kw d3], .int .i64 0]) (by simp [results, Try.results81, go_sem, q0, q1]) rfl ⟨_, _, _, _, rfl, hbf, hof⟩
  · have HP := hide hp
    obtain rfl : kz = 0 := by simpa using hk.fl.symm
    obtain rfl : kw = 0 := by simpa using hk.sl.symm
    clear hp hz hk
    go_enter Try.func81, Try.ntmps81
    go_wp2_with fail
    refine calls_gen fun w0 hw0 => ?_
    have hb0 : Below w.heap.size w w0 := by rw [hw0]; exact ((Below.refl _ _).alloc (Nat.le_refl _) _).alloc (by simp) _
    have HB0 := hide hb0
    have HR0 : Hid (Blk w0 (w.heap.size + 1) 41 [.slice none 0 0, .slice none 0 0]) := hide (by rw [hw0]; have h := Blk.new (w.alloc (Obj.cells #[Value.slice A n c, Value.slice B m d] 41)) 41 [.slice none 0 0, .slice none 0 0]; simpa using h)
    clear hw0 hb0
    refine (mapI_any _ _ _ f _ _ _ s false _ (HZ.out.later HB0.out) (by simp [HP.out])).mono ?_
    rintro e w1 ⟨rfl, hb1⟩
    have HB1 := hide (HB0.out.trans (hb1.mono HB0.out.size))
    have HR1 := hide (HR0.out.later hb1)
    have k2 := HR1.out.cell 0 _ rfl
    have k3 := HR1.out.cell 1 _ rfl
    have k4 := HR1.out.frozen 0
    have k5 := HR1.out.frozen 1
    clear hb1
    go_wp2_with fail
    refine bp_gen fun wf hwf => ?_
    obtain ⟨q0, q1, hbf, hof⟩ := zend (ts := 31) (t := 2) (w2 := w1) hwf HR1.out (by omega) HR1.out.lt HB1.out HB1.out.size (ObjZ.empty (Nat.le_refl _))
    clear hwf k2 k3 k4 k5
    exact bodyPost_ret (v := .tuple #[.agg #[.slice none 0 0, .slice none 0 0], .int .i64 1]) (by simp [results, Try.results81, go_sem, q0, q1]) rfl ⟨_, _, _, _, rfl, hbf, hof⟩
end Go.Proofs.Ytgahmfkmhaeniaa
namespace Go.Proofs.Ytgahmfkmhaeniaa
open Go Go.RowKit
/-- The pair to which pair number k is led. -/
def ledK (f s : List (List Int)) (n k : Nat) : Nat × Nat := (ap f (k / n) (k % n), ap s (k / n) (k % n))
/-- The numbers below k that are led to q. -/
def ledL (f s : List (List Int)) (n k : Nat) (q : Nat × Nat) : List Nat := (List.range k).filter (fun j => decide (ledK f s n j = q))
theorem ledL_succ (f s : List (List Int)) (n k : Nat) (q : Nat × Nat) : ledL f s n (k + 1) q = if ledK f s n k = q then ledL f s n k q ++ [k] else ledL f s n k q := by
  unfold ledL
  rw [List.range_succ, List.filter_append]
  by_cases h : ledK f s n k = q
  · simp [h]
  · simp [h]
theorem ledL_mem {f s : List (List Int)} {n k : Nat} {q : Nat × Nat} {j : Nat} : j ∈ ledL f s n k q ↔ j < k ∧ ledK f s n j = q := by
  unfold ledL
  simp
theorem ledL_sorted (f s : List (List Int)) (n k : Nat) (q : Nat × Nat) : (ledL f s n k q).Pairwise (· < ·) := by
  unfold ledL
  exact List.Pairwise.filter _ List.pairwise_lt_range
theorem ledL_len (f s : List (List Int)) (n k : Nat) (q : Nat × Nat) : (ledL f s n k q).length ≤ k := by
  have h := List.length_filter_le (fun j => decide (ledK f s n j = q)) (List.range k)
  unfold ledL
  simpa using h
def NoCol (f s : List (List Int)) (n : Nat) : Prop := ∀ i j, i < n * n → j < n * n → i ≠ j → ledK f s n i ≠ ledK f s n j
/-- The first two that are led to one. -/
def FstCol (f s : List (List Int)) (n a b : Nat) : Prop := a < n * n ∧ b < n * n ∧ a ≠ b ∧ ledK f s n a = ledK f s n b ∧ (∀ i, i < a → ∀ j, j < n * n → j ≠ i → ledK f s n i ≠ ledK f s n j) ∧ (∀ j, j < b → j ≠ a → ledK f s n a ≠ ledK f s n j)
theorem FstCol.uniq {f s : List (List Int)} {n a b a' b' : Nat} (h : FstCol f s n a b) (h' : FstCol f s n a' b') : a = a' ∧ b = b' := by
  obtain ⟨h1, h2, h3, h4, h5, h6⟩ := h
  obtain ⟨g1, g2, g3, g4, g5, g6⟩ := h'
  have e : a = a' := by
    rcases Nat.lt_trichotomy a a' with hl | hl | hl
    · exact absurd h4 (g5 a hl b h2 h3.symm)
    · exact hl
    · exact absurd g4 (h5 a' hl b' g2 g3.symm)
  subst e
  refine ⟨rfl, ?_⟩
  rcases Nat.lt_trichotomy b b' with hl | hl | hl
  · exact absurd h4 (g6 b hl h3.symm)
  · exact hl
  · exact absurd g4 (h6 b' hl g3.symm)
theorem FstCol.not {f s : List (List Int)} {n a b : Nat} (h : FstCol f s n a b) : ¬ NoCol f s n := fun hn => hn a b h.1 h.2.1 h.2.2.1 h.2.2.2.1
/-- At the first one whose list has two, the second one of the list. -/
theorem FstCol.of_list {f s : List (List Int)} {n k : Nat} (hk : k < n * n) (h1 : ∀ i, i < k → (ledL f s n (n * n) (ledK f s n i)).length ≤ 1) (h2 : 1 < (ledL f s n (n * n) (ledK f s n k)).length) :
    FstCol f s n k ((ledL f s n (n * n) (ledK f s n k)).getD 1 0) := by
  have hnone : ∀ i, i < k → ∀ j, j < n * n → j ≠ i → ledK f s n i ≠ ledK f s n j := by
    intro i hi j hj hne e
    have m1 : i ∈ ledL f s n (n * n) (ledK f s n i) := ledL_mem.2 ⟨by omega, rfl⟩
    have m2 : j ∈ ledL f s n (n * n) (ledK f s n i) := ledL_mem.2 ⟨hj, e.symm⟩
    have hl := h1 i hi
    match hL : ledL f s n (n * n) (ledK f s n i), m1, m2 with
    | [x], m1, m2 => simp at m1 m2; omega
    | x :: y :: r, _, _ => rw [hL] at hl; simp at hl
  match hL : ledL f s n (n * n) (ledK f s n k), h2 with
  | x :: y :: r, _ =>
    have hs := ledL_sorted f s n (n * n) (ledK f s n k)
    rw [hL] at hs
    have hxy : x < y := by
      have := (List.pairwise_cons.1 hs).1 y (by simp)
      exact this
    have mx : x < n * n ∧ ledK f s n x = ledK f s n k := ledL_mem.1 (by rw [hL]; simp)
    have my : y < n * n ∧ ledK f s n y = ledK f s n k := ledL_mem.1 (by rw [hL]; simp)
    have mk : k ∈ ledL f s n (n * n) (ledK f s n k) := ledL_mem.2 ⟨hk, rfl⟩
    have hxk : x = k := by
      rcases Nat.lt_trichotomy x k with hl | hl | hl
      · exact absurd mx.2 (hnone x hl k hk (by omega))
      · exact hl
      · rw [hL] at mk
        rcases List.mem_cons.1 mk with e | e
        · omega
        · have := (List.pairwise_cons.1 hs).1 k e; omega
    subst hxk
    simp only [List.getD_cons_succ, List.getD_cons_zero]
    refine ⟨hk, my.1, by omega, my.2.symm, hnone, fun j hj hne e => ?_⟩
    have mj : j ∈ ledL f s n (n * n) (ledK f s n x) := ledL_mem.2 ⟨by have := my.1; omega, e.symm⟩
    rw [hL] at mj
    rcases List.mem_cons.1 mj with e1 | e1
    · exact hne e1
    · rcases List.mem_cons.1 e1 with e2 | e2
      · omega
      · have h3 := (List.pairwise_cons.1 hs).2
        have := (List.pairwise_cons.1 h3).1 j e2
        omega
theorem NoCol.of_list {f s : List (List Int)} {n : Nat} (h1 : ∀ i, i < n * n → (ledL f s n (n * n) (ledK f s n i)).length ≤ 1) : NoCol f s n := by
  intro i j hi hj hne e
  have m1 : i ∈ ledL f s n (n * n) (ledK f s n i) := ledL_mem.2 ⟨hi, rfl⟩
  have m2 : j ∈ ledL f s n (n * n) (ledK f s n i) := ledL_mem.2 ⟨hj, e.symm⟩
  have hl := h1 i hi
  match hL : ledL f s n (n * n) (ledK f s n i), m1, m2 with
  | [x], m1, m2 => simp at m1 m2; omega
  | x :: y :: r, _, _ => rw [hL] at hl; simp at hl
theorem col_or (f s : List (List Int)) (n : Nat) : NoCol f s n ∨ ∃ a b, FstCol f s n a b := by
  have key : ∀ k, k ≤ n * n → (∀ i, i < k → (ledL f s n (n * n) (ledK f s n i)).length ≤ 1) ∨ ∃ a b, FstCol f s n a b := by
    intro k
    induction k with
    | zero => intro _; exact .inl (fun i hi => absurd hi (Nat.not_lt_zero _))
    | succ k ih =>
      intro hk
      rcases ih (by omega) with h | h
      · by_cases e : 1 < (ledL f s n (n * n) (ledK f s n k)).length
        · exact .inr ⟨_, _, FstCol.of_list (by omega) h e⟩
        · exact .inl (fun i hi => by
            by_cases e2 : i = k
            · subst e2; omega
            · exact h i (by omega))
      · exact .inr h
  rcases key _ (Nat.le_refl _) with h | h
  · exact .inl (NoCol.of_list h)
  · exact .inr h
/-- The cells of pairs, given by their numbers. -/
def pcs (n : Nat) (l : List Nat) : List Value := l.flatMap (fun j => [.int .i64 ((j / n : Nat) : Int), .int .i64 ((j % n : Nat) : Int)])
theorem pcs_length (n : Nat) (l : List Nat) : (pcs n l).length = l.length * 2 := by
  induction l with
  | nil => rfl
  | cons a r ih => simp only [pcs, List.flatMap_cons, List.length_append, List.length_cons, List.length_nil] at ih ⊢; omega
theorem pcs_snoc (n : Nat) (l : List Nat) (k : Nat) : pcs n (l ++ [k]) = pcs n l ++ [.int .i64 ((k / n : Nat) : Int), .int .i64 ((k % n : Nat) : Int)] := by simp [pcs]
theorem pcs_second (n : Nat) (l : List Nat) (h : 1 < l.length) : (pcs n l)[2]? = some (.int .i64 ((l.getD 1 0 / n : Nat) : Int)) ∧ (pcs n l)[3]? = some (.int .i64 ((l.getD 1 0 % n : Nat) : Int)) := by
  match l, h with
  | a :: b :: r, _ => simp [pcs]
def CoRes (f s : List (List Int)) (zs : List Int) (code : Int) : Prop :=
  (∃ a b, PMap f s ∧ FstCol f s f.length a b ∧ zs = [((a / f.length : Nat) : Int), ((a % f.length : Nat) : Int), ((b / f.length : Nat) : Int), ((b % f.length : Nat) : Int)] ∧ code = 0) ∨ (PMap f s ∧ NoCol f s f.length ∧ zs = [] ∧ code = 4) ∨ (¬ PMap f s ∧ zs = [] ∧ code = 1)
theorem CoRes.ex (f s : List (List Int)) : ∃ zs code, CoRes f s zs code ∧ zs.length ≤ 1048576 := by
  by_cases h : PMap f s
  · rcases col_or f s f.length with h1 | ⟨a, b, h1⟩
    · exact ⟨_, _, .inr (.inl ⟨h, h1, rfl, rfl⟩), by simp⟩
    · exact ⟨_, _, .inl ⟨a, b, h, h1, rfl, rfl⟩, by simp⟩
  · exact ⟨_, _, .inr (.inr ⟨h, rfl, rfl⟩), by simp⟩
end Go.Proofs.Ytgahmfkmhaeniaa
namespace Go.Proofs.Ytgahmfkmhaeniaa
open Go Go.RowKit
set_option maxHeartbeats 1000000
def SolF (f s : List (List Int)) : Prop := PMap f s ∧ NoCol f s f.length ∧ First f s f.length (f.length * f.length * f.length)
def IsRes (f s : List (List Int)) (r : Bool) : Prop := r = true ↔ SolF f s
theorem IsRes.ex (f s : List (List Int)) : ∃ r, IsRes f s r := by
  by_cases h : SolF f s
  · exact ⟨true, by simp [IsRes, h]⟩
  · exact ⟨false, by simp [IsRes, h]⟩
theorem First.uniq {f s : List (List Int)} {n T T' : Nat} (h : First f s n T) (h' : First f s n T') : T = T' := by
  rcases Nat.lt_trichotomy T T' with e | e | e
  · exact absurd (h'.1 T e) (h.2.2 (by have := h'.2.1; omega))
  · exact e
  · exact absurd (h.1 T' e) (h'.2.2 (by have := h.2.1; omega))
/-- The four ways of it. -/
theorem IsRes.cases {f s : List (List Int)} {n : Nat} (hn : f.length = n) {r : Bool} (h : IsRes f s r) :
    (¬ PMap f s ∧ r = false) ∨ (PMap f s ∧ ∃ T, First f s n T ∧ ((T < n * n * n ∧ ((NoCol f s n ∧ r = false) ∨ ((∃ a b, FstCol f s n a b) ∧ r = false))) ∨ (T = n * n * n ∧ (((∃ a b, FstCol f s n a b) ∧ r = false) ∨ (NoCol f s n ∧ r = true))))) := by
  subst hn
  have hb : ∀ h9 : ¬ SolF f s, r = false := fun h9 => Bool.eq_false_iff.2 (fun e => h9 (h.1 e))
  by_cases hp : PMap f s
  · obtain ⟨T, hT⟩ := First.ex f s f.length
    refine .inr ⟨hp, T, hT, ?_⟩
    by_cases h2 : T < f.length * f.length * f.length
    · have hr := hb (fun h9 => by have := First.uniq hT h9.2.2; omega)
      rcases col_or f s f.length with hc | hc
      · exact .inl ⟨h2, .inl ⟨hc, hr⟩⟩
      · exact .inl ⟨h2, .inr ⟨hc, hr⟩⟩
    · have he : T = f.length * f.length * f.length := by have := hT.2.1; omega
      subst he
      refine .inr ⟨rfl, ?_⟩
      rcases col_or f s f.length with hc | hc
      · exact .inr ⟨hc, h.2 ⟨hp, hc, hT⟩⟩
      · exact .inl ⟨hc, hb (fun h9 => by obtain ⟨a, b, hf⟩ := hc; exact hf.not h9.2.1)⟩
  · exact .inl ⟨hp, hb (fun h9 => hp h9.1)⟩
end Go.Proofs.Ytgahmfkmhaeniaa
namespace Go.Proofs.Ytgahmfkmhaeniaa
open Go Go.RowKit
/-- What CycleSetOfSolution answers. -/
def ZcRes (f s zs : List (List Int)) (code : Int) : Prop := (SolF f s ∧ (NonF f s ∧ InvF f s) ∧ zs = dualL f ∧ code = 0) ∨ (SolF f s ∧ ¬ (NonF f s ∧ InvF f s) ∧ zs = [] ∧ code = 5) ∨ (¬ SolF f s ∧ zs = [] ∧ code = 1)
theorem ZcRes.ex (f s : List (List Int)) : ∃ zs code, ZcRes f s zs code ∧ zs.length ≤ 1048576 ∧ ∀ i, i < zs.length → (zs.getD i []).length ≤ 1048576 := by
  by_cases h : SolF f s
  · by_cases h2 : NonF f s ∧ InvF f s
    · have ht : Tbl f := h.1.1
      have h12 := ht.2.1
      refine ⟨_, _, .inl ⟨h, h2, rfl, rfl⟩, ?_, fun i hi => ?_⟩
      · rw [dualL, rowsL_length]; omega
      · rw [dualL, rowsL_length] at hi
        rw [dualL, rowsL_at f _ i hi, backTo_length, ht.rows i hi]
        omega
    · exact ⟨_, _, .inr (.inl ⟨h, h2, rfl, rfl⟩), by simp, by simp⟩
  · exact ⟨_, _, .inr (.inr ⟨h, rfl, rfl⟩), by simp, by simp⟩
end Go.Proofs.Ytgahmfkmhaeniaa
namespace Go.Proofs.Ytgahmfkmhaeniaa
open Go Go.RowKit
set_option maxHeartbeats 2000000
theorem zcInfo2 : (Try.prog.info? 31).map (fun i => (i.zero, i.size, i.bytes)) = some (some (.slice none 0 0), 1, 24) := by kernel_rfl

set_option maxRecDepth 100000 in
theorem zcycle_any (A B : Option Addr) (n c m d : Nat) (f : List (List Int)) (w : World) (hn : f.length = n) (ht : Tbl f) (hp : AllPrm f) (hr : Rd2 w A f) :
    Calls Try.prog 79 #[.agg #[.slice A n c, .slice B m d]] w fun e w' => ∃ A' c', e = .returned (.agg #[.slice A' n c']) ∧ Below w.heap.size w w' ∧ Obj2 31 2 w.heap.size w'.heap.size w' A' (dualL f) := by
  have HN := hide hn
  have HTB := hide ht
  have HPM := hide hp
  have HRD := hide hr
  have h1 : 1 ≤ n := by rw [← hn]; exact ht.1
  have h12 : n ≤ 12 := by rw [← hn]; exact ht.2.1
  have HB0 := hide (((Below.refl _ w).alloc (Nat.le_refl _) (Obj.cells #[Value.slice A n c, Value.slice B m d] 41)).alloc (by simp) (Obj.cells #[.slice none 0 0] 27))
  have HK0 := hide ((Blk.new w 41 [.slice A n c, .slice B m d]).alloc (Obj.cells #[.slice none 0 0] 27))
  have HR0 : Hid (Blk ((w.alloc (Obj.cells #[Value.slice A n c, Value.slice B m d] 41)).alloc (Obj.cells #[.slice none 0 0] 27)) (w.heap.size + 1) 27 [.slice none 0 0]) := hide (by have h := Blk.new (w.alloc (Obj.cells #[Value.slice A n c, Value.slice B m d] 41)) 27 [.slice none 0 0]; simpa using h)
  have hmk := run_make_row' (P := Try.prog) 22 31 (.slice none 0 0) 24 Try.underlying22 zcInfo2 rfl .i64 .i64 n (by omega) (by omega)
  clear hn ht hp hr
  go_enter Try.func79, Try.ntmps79
  go_upto_region 1 with fail
  refine wp_gen fun w1 hw1 => ?_
  have HB1 : Hid (Below w.heap.size w w1) := hide (by rw [hw1]; exact HB0.out)
  have HK1 : Hid (Blk w1 w.heap.size 41 [.slice A n c, .slice B m d]) := hide (by rw [hw1]; exact HK0.out)
  have HR1 : Hid (Blk w1 (w.heap.size + 1) 27 [.slice none 0 0]) := hide (by rw [hw1]; exact HR0.out)
  clear hw1
  have k0 := HK1.out.cell 0 _ rfl
  have k2 := fun o => (HK1.out.alloc o).cell 0 _ rfl
  go_wp2_with fail
  clear hmk k0 k2
  refine wp_gen fun w0 hw0 => ?_
  obtain ⟨G, hG⟩ : ∃ G, w1.heap.size = G := ⟨_, rfl⟩
  have hGw : w.heap.size + 1 < G := by have := HR1.out.lt; omega
  have HBm : Hid (Below w.heap.size w w0) := hide (by rw [hw0]; exact HB1.out.alloc HB1.out.size _)
  have HRm : Hid (Blk w0 (w.heap.size + 1) 27 [.slice none 0 0]) := hide (by rw [hw0]; exact HR1.out.alloc _)
  have HFm : Hid (Fil 31 2 n 0 (fun i => backTo (f.getD i []) n) G G w0) := hide (by rw [hw0, ← hG]; exact Fil.start w1 (Nat.le_refl _))
  rw [hG]
  clear hw0 hG
  go_loopw [13] (fun i wr => ∃ k : Nat, k ≤ n ∧ i = .int .i64 k ∧ Below w.heap.size w wr ∧ Blk wr (w.heap.size + 1) 27 [.slice none 0 0] ∧ Fil 31 2 n k (fun i => backTo (f.getD i []) n) G G wr) (fun i _ => n - (intOf i).toNat)
  case atStart => exact ⟨0, Nat.zero_le _, rfl, HBm.out, HRm.out, HFm.out⟩
  case round =>
    obtain ⟨k, hk, rfl, hbe, hrr, hff⟩ := hrel
    have HBc := hide hbe
    have HRc := hide hrr
    have HFc := hide hff
    clear hbe hrr hff
    by_cases hlt : k < n
    · have hkl : Hid (k < f.length) := hide (by have := HN.out; omega)
      obtain ⟨b, o, hA, hbw, hc⟩ := (HRD.out.later HBc.out) (by have := hkl.out; omega)
      obtain ⟨Ak, ck, hcell, hrd⟩ := hc k hkl.out
      have hl := HTB.out.row_len HN.out hlt
      rw [hl] at hcell
      have HL := hide hl
      have HRR := hide hrd
      have hltz : (k : Int) < n := by omega
      subst hA
      clear hc hrd hl
      go_wp2_with fail
      refine (inverse_any Ak n ck (f.getD k []) _ HL.out (by omega) HRR.out (by have h := (HPM.out k hkl.out).2.2.1; rw [HL.out] at h; exact h)).mono ?_
      rintro e wd ⟨A5, c5, rfl, hbd, hres⟩
      have HPU := hide (HFc.out.push (c := c5) hbd hres hlt)
      have HBd := hide (HBc.out.trans (hbd.mono HBc.out.size))
      have HRd := hide (HRc.out.later hbd)
      have HFd := hide (HFc.out.later hbd)
      have HLB : Hid ((backTo (f.getD k []) n).length = n) := hide (by rw [backTo_length]; exact HL.out)
      clear hbd hres
      rw [HLB.out] at HPU
      obtain ⟨⟨v0, hv0⟩, hz0⟩ := HFd.out.at k hlt
      go_wp2_with fail
      go_roundw
      case rel => exact ⟨k + 1, by omega, by go_num, HBd.out.setCell (p := ⟨G, k, none⟩) (by show w.heap.size ≤ G; omega) _, HRd.out.far (p := ⟨G, k, none⟩) (by show w.heap.size + 1 ≠ G; omega) _, HPU.out⟩
      case measure => simp [intOf]; omega
    · have hkn : k = n := by omega
      subst hkn
      have HO := hide HFc.out.done
      have k0 := HRc.out.cell 0 _ rfl
      have k1 := HRc.out.frozen 0
      have hgl := HFc.out.lt
      go_wp2_with fail
      refine bp_gen fun wf hwf => ?_
      obtain ⟨q0, hbf, hof⟩ := kend hwf HRc.out (by omega) HBc.out HO.out (by omega) (by omega) (Nat.le_refl _)
      have hdl : dualL f = (List.range k).map (fun i => backTo (f.getD i []) k) := by unfold dualL rowsL; rw [HN.out]
      clear hwf k0 k1
      exact bodyPost_ret (v := .agg #[.slice (some ⟨G, 0, none⟩) k k]) (by simp [results, Try.results79, go_sem, q0]) rfl ⟨_, _, rfl, hbf, by rw [hdl]; exact hof⟩
end Go.Proofs.Ytgahmfkmhaeniaa
namespace Go.Proofs.Ytgahmfkmhaeniaa
open Go Go.RowKit
set_option maxHeartbeats 2000000
theorem zcsInfo2 : (Try.prog.info? 31).map (fun i => (i.zero, i.size, i.bytes)) = some (some (.slice none 0 0), 1, 24) := by kernel_rfl
theorem rowsC_take (f : List (List Int)) (h : Nat → List Int) (x : Nat) (hx : x < f.length) : (rowsL f h).take (x + 1) = (rowsL f h).take x ++ [h x] := by
  unfold rowsL
  rw [← List.map_take, ← List.map_take, List.take_range, List.take_range, Nat.min_eq_left (by omega), Nat.min_eq_left (by omega), List.range_succ, List.map_append]
  rfl

set_option maxRecDepth 100000 in
theorem cycleS_any (A B : Option Addr) (n c m d : Nat) (f : List (List Int)) (w : World) (hn : f.length = n) (ht : Tbl f) (hp : AllPrm f) (hr : Rd2 w A f) :
    Calls Try.prog 75 #[.agg #[.slice A n c, .slice B m d]] w fun e w' => ∃ A' c', e = .returned (.agg #[.slice A' n c']) ∧ Below w.heap.size w w' ∧ Obj2 31 2 w.heap.size w'.heap.size w' A' (dualL f) := by
  have HN := hide hn
  have HTB := hide ht
  have HPM := hide hp
  have HRD := hide hr
  have h1 : 1 ≤ n := by rw [← hn]; exact ht.1
  have h12 : n ≤ 12 := by rw [← hn]; exact ht.2.1
  have HB0 := hide (((Below.refl _ w).alloc (Nat.le_refl _) (Obj.cells #[Value.slice A n c, Value.slice B m d] 41)).alloc (by simp) (Obj.cells #[.slice none 0 0] 27))
  have HK0 := hide ((Blk.new w 41 [.slice A n c, .slice B m d]).alloc (Obj.cells #[.slice none 0 0] 27))
  have HR0 : Hid (Blk ((w.alloc (Obj.cells #[Value.slice A n c, Value.slice B m d] 41)).alloc (Obj.cells #[.slice none 0 0] 27)) (w.heap.size + 1) 27 [.slice none 0 0]) := hide (by have h := Blk.new (w.alloc (Obj.cells #[Value.slice A n c, Value.slice B m d] 41)) 27 [.slice none 0 0]; simpa using h)

  obtain ⟨i2, hj, hy0, hy1, hy2⟩ := info_parts zcsInfo2
  clear hn ht hp hr
  obtain ⟨b, o, hA, hbw, hc⟩ := rd_rows HTB.out HRD.out HN.out
  subst hA
  have HC := hide hc
  clear hc
  go_enter Try.func75, Try.ntmps75
  go_upto_region 1 with fail
  refine wp_gen fun w1 hw1 => ?_
  have HB1 : Hid (Below w.heap.size w w1) := hide (by rw [hw1]; exact HB0.out)
  have HK1 : Hid (Blk w1 w.heap.size 41 [.slice (some ⟨b, o, none⟩) n c, .slice B m d]) := hide (by rw [hw1]; exact HK0.out)
  have HR1 : Hid (Blk w1 (w.heap.size + 1) 27 [.slice none 0 0]) := hide (by rw [hw1]; exact HR0.out)
  clear hw1
  go_wp2_with fail
  refine wp_gen fun w2 hw2 => ?_
  obtain ⟨ob, hob⟩ : ∃ ob, w1.heap.size = ob := ⟨_, rfl⟩
  have hob1 : w.heap.size + 1 < ob := by rw [← hob]; exact HR1.out.lt
  have HB2 : Hid (Below w.heap.size w w2) := hide (by rw [hw2]; exact HB1.out.alloc HB1.out.size _)
  have HK2 : Hid (Blk w2 w.heap.size 41 [.slice (some ⟨b, o, none⟩) n c, .slice B m d]) := hide (by rw [hw2]; exact HK1.out.alloc _)
  have HR2 : Hid (Blk w2 (w.heap.size + 1) 27 [.slice none 0 0]) := hide (by rw [hw2]; exact HR1.out.alloc _)
  have HO2 : Hid (Blk w2 ob 27 [.slice none 0 0]) := hide (by rw [hw2, ← hob]; exact Blk.new _ _ _)
  have HT2 : Hid (One 31 2 27 (ob + 1) w2 ob 0 [.slice none 0 0] (.slice none 0 0) [] []) := hide (One.start w2 _ _ _ HO2.out (Nat.lt_succ_self _) HO2.out.lt)
  rw [hob]
  clear hw2 hob
  go_loopw [4] (fun i wr => ∃ (x : Nat) (v : Value) (vals : List Value), x ≤ n ∧ i = .int .i64 x ∧ Below w.heap.size w wr ∧ Blk wr w.heap.size 41 [.slice (some ⟨b, o, none⟩) n c, .slice B m d] ∧ Blk wr (w.heap.size + 1) 27 [.slice none 0 0] ∧ One 31 2 27 (ob + 1) wr ob 0 [.slice none 0 0] v ((dualL f).take x) vals) (fun i _ => n - (intOf i).toNat)
  case atStart => exact ⟨0, _, _, Nat.zero_le _, rfl, HB2.out, HK2.out, HR2.out, by simpa using HT2.out⟩
  case round =>
    obtain ⟨x, v, vals, hx, rfl, hbe, hkk, hrr, htw⟩ := hrel
    clear HB2 HK2 HR2 HT2 HO2
    have HB2 := hide hbe
    have HK2 := hide hkk
    have HR2 := hide hrr
    have HT2 := hide htw
    clear hbe hkk hrr htw
    have j0 := HK2.out.cell 0 _ rfl
    by_cases hlt : x < n
    · have hxz : (x : Int) < n := by omega
      obtain ⟨Bx, cx, r1, hrd⟩ := HC.out x hlt
      have R1 := hide r1
      have HRR := hide hrd
      have HRL : Hid ((f.getD x []).length = n) := hide (HTB.out.row_len HN.out hlt)
      have HIN : Hid (∀ y ∈ f.getD x [], 0 ≤ y ∧ y < (n : Int)) := hide (by have h := (HPM.out x (by have := HN.out; omega)).2.2.1; rw [HRL.out] at h; exact h)
      have HBL : Hid ((backTo (f.getD x []) n).length = n) := hide ((backTo_length _ _).trans HRL.out)
      have HTL : Hid (((dualL f).take x).length = x) := hide (by rw [List.length_take, dualL, rowsL_length]; have := HN.out; omega)
      replace r1 := (HB2.out.cell (p := ⟨b, o + x, none⟩) hbw).trans R1.out
      clear hrd
      go_wp2_with fail
      have k0 := HT2.out.box.cell 0 _ rfl
      have k2 := HT2.out.box.frozen 0
      go_region_law (first | (go_simp; go_at_call 112; go_must (refine calls_gen fun wc hwc => ?_; (first | have hbx := drew_below hwc | have hbx := eq_below hwc); replace HB2 := hide (HB2.out.trans (hbx.mono HB2.out.size)); replace HT2 := hide (HT2.out.later hbx); replace HR2 := hide (HR2.out.later hbx); replace HK2 := hide (HK2.out.later hbx); clear hwc hbx; refine (l01Back_any _ n _ (f.getD x []) _ HRL.out (by omega) (HRR.out.later HB2.out) HIN.out).mono ?_; rintro e wd ⟨A5, c5, rfl, hbd, hr5⟩; have HLW := hide HT2.out; replace HB2 := hide (HB2.out.trans (hbd.mono HB2.out.size)); replace HT2 := hide (HT2.out.later hbd); replace HR2 := hide (HR2.out.later hbd); replace HK2 := hide (HK2.out.later hbd); have HR5 := hide hr5; have HOW1 : Hid (wd.ownsRow (ob + 1) 31 1 v x vals) := hide (by have h := HT2.out.l.own; rw [HTL.out] at h; exact h); have hobl := HT2.out.box.lt; clear hbd hr5; have k0 := HT2.out.box.cell 0 _ rfl; have k2 := HT2.out.box.frozen 0; have j0 := HK2.out.cell 0 _ rfl; have r1 := (HB2.out.cell (p := ⟨b, o + x, none⟩) hbw).trans R1.out)) | (refine step_append_lies _ (by rfl) _ _ _ (by rfl) (ob + 1) 31 i2 _ 1 24 Try.underlying22 hj hy0 hy1 hy2 rfl (by omega) v x vals (by rfl) (HOW1.out.alloc _) ⟨wd.heap.size, 0, none⟩ 1 1 [.slice A5 n c5] (by rfl) (by rfl) kq_new (by simp [Value.oneCell']) (by omega) (by unfold maxLen; omega) (by omega) (by simp; omega) (wd.heap.size + 1) (by simp) ?_; intro gg cap w5 hown5 hgrow5 hat5 hlt5; have hbk := HT2.out.kept hgrow5; have k0 := hbk.cell 0 _ rfl; have k2 := hbk.frozen 0))
      all_goals
        have HT3 := hide (One.add (by decide) HLW.out HT2.out (Nat.le_refl _) HR5.out.obj HTL.out HBL.out hown5 hgrow5)
        have HB3 := hide (HT2.out.below hgrow5 (.slice (some ⟨gg, 0, none⟩) (x + 1) cap) HB2.out (by omega))
        have HK3 := hide ((HT2.out.frame hgrow5 (.slice (some ⟨gg, 0, none⟩) (x + 1) cap) (by omega) (by omega) HK2.out.lt).trans HK2.out)
        have HR3 := hide ((HT2.out.frame hgrow5 (.slice (some ⟨gg, 0, none⟩) (x + 1) cap) (by omega) (by omega) HR2.out.lt).trans HR2.out)
        clear hown5 hat5 hlt5 hgrow5 hbk k0 k2 j0 r1
        go_wp2_with fail
        go_roundw
        case rel =>
          refine ⟨x + 1, .slice (some ⟨gg, 0, none⟩) (x + 1) cap, vals ++ [.slice A5 n c5], by omega, by go_num, HB3.out, HK3.out, HR3.out, ?_⟩
          rw [dualL, rowsC_take f _ x (by have := HN.out; omega)]
          have h := HT3.out
          rw [← HN.out] at h
          rw [dualL, HN.out] at h
          rw [HN.out]
          exact h
        case measure => simp [intOf]; omega
    · have hxn : x = n := by omega
      subst hxn
      obtain ⟨A1, c1, hv1, ho1⟩ := HT2.out.l.shape
      have hll : (dualL f).length = x := by rw [dualL, rowsL_length]; exact HN.out
      rw [List.take_of_length_le (by omega)] at hv1 ho1
      rw [hll] at hv1
      subst hv1
      have HA1 := hide ho1
      clear ho1
      have k0 := HT2.out.box.cell 0 _ rfl
      have k2 := HR2.out.cell 0 _ rfl
      have k3 := HR2.out.frozen 0
      go_wp2_with fail
      refine bp_gen fun wf hwf => ?_
      obtain ⟨q0, hbf, hof⟩ := kend hwf HR2.out (by omega) HB2.out HA1.out (by omega) (by omega) (Nat.le_refl _)
      clear hwf k0 k2 k3
      exact bodyPost_ret (v := .agg #[.slice A1 x c1]) (by simp [results, Try.results75, go_sem, q0]) rfl ⟨_, _, rfl, hbf, hof⟩
end Go.Proofs.Ytgahmfkmhaeniaa
namespace Go.Proofs.Ytgahmfkmhaeniaa
open Go Go.RowKit
set_option maxHeartbeats 2000000
theorem cs_sz {f : List (List Int)} {n : Nat} (hn : f.length = n) (h12 : n ≤ 12) : ZSz 1048576 (cs1 f) n (cs2 f) n := by
  have h := grid_sz (n := n) (by omega) (csH1 f) (csH2 f)
  unfold cs1 cs2
  rw [hn]
  simpa [grid_length] using h

set_option maxRecDepth 100000 in
theorem dcI_any (A : Option Addr) (n c : Nat) (f : List (List Int)) (zs : List (List Int)) (code : Int) (k : Nat) (w : World) (hn : f.length = n) (hb : n ≤ 1048576) (hbs : ∀ i, i < f.length → (f.getD i []).length ≤ 1048576) (hr : Rd2 w A f) (hres : DcRes f zs code) (hk : zs.length = k) :
    Calls Try.prog 41 #[.agg #[.slice A n c]] w (fun e w' => ∃ A' c', e = .returned (.tuple #[.agg #[.slice A' k c'], .int .i64 code]) ∧ Below w.heap.size w w' ∧ Obj2 31 2 w.heap.size w'.heap.size w' A' zs) := by
  have HN := hide hn
  have HBS := hide hbs
  have HRD := hide hr
  have HB0 := hide (((Below.refl _ w).alloc (Nat.le_refl _) (Obj.cells #[Value.slice A n c] 27)).alloc (by simp) (Obj.cells #[.slice none 0 0] 27))
  have HK0 := hide ((Blk.new w 27 [.slice A n c]).alloc (Obj.cells #[.slice none 0 0] 27))
  have HR0 : Hid (Blk ((w.alloc (Obj.cells #[Value.slice A n c] 27)).alloc (Obj.cells #[.slice none 0 0] 27)) (w.heap.size + 1) 27 [.slice none 0 0]) := hide (by have h := Blk.new (w.alloc (Obj.cells #[Value.slice A n c] 27)) 27 [.slice none 0 0]; simpa using h)
  rcases hres with ⟨hcy, rfl, rfl⟩ | ⟨hcy, rfl, rfl⟩
  · have hk2 : k = n := by rw [← hk, dualL_len, dcM_len f hcy, hn]
    subst hk2
    clear hn hbs hr hk
    have HCY := hide hcy
    have HTB := hide hcy.tbl
    have h1 : 1 ≤ k := by rw [← HN.out]; exact HTB.out.1
    have h12 : k ≤ 12 := by rw [← HN.out]; exact HTB.out.2.1
    have HCR : Hid (CyRes f true) := hide ⟨fun _ => HCY.out, fun _ => rfl⟩
    clear hcy
    go_enter Try.func41, Try.ntmps41
    have k0 := HK0.out.cell 0 _ rfl
    go_upto_region 1 with fail
    go_wp2_with fail
    refine (tested_any _ _ _ f true _ HN.out hb HBS.out (HRD.out.later HB0.out) HCR.out).mono ?_
    rintro e w1 (⟨_, B, d, rfl, hb1, hiv⟩ | ⟨h, _⟩)
    rotate_left
    · exact absurd h (by simp)
    have HB1 := hide (HB0.out.trans (hb1.mono HB0.out.size))
    have HIV1 : Hid (Rd2 w1 B (dualL f)) := hide (Obj2.rd hiv)
    replace HR0 := hide (HR0.out.later hb1)
    clear hb1 hiv k0
    go_upto_region 4 with fail
    refine wp_gen fun w2 hw2 => ?_
    obtain ⟨P, hP⟩ : ∃ P, w1.heap.size = P := ⟨_, rfl⟩
    have hq : Below w1.heap.size w1 w2 := by rw [hw2]; exact (Below.refl _ _).alloc (Nat.le_refl _) _
    have HBc := hide (HB1.out.trans (hq.mono HB1.out.size))
    have HKc : Hid (Blk w2 P 71 [.slice A k c, .slice B k d]) := hide (by rw [hw2, ← hP]; exact Blk.new _ _ _)
    have HIV := hide (HIV1.out.later hq)
    replace HR0 := hide (HR0.out.later hq)
    rw [hP]
    clear hw2 hq HB1 HIV1 hP
    have k0 := HKc.out.cell 0 _ rfl
    have k1 := HKc.out.cell 1 _ rfl
    go_wp2_with fail
    refine (csolution_any A B k c d f _ ⟨HN.out, HCY.out, HRD.out.later HBc.out, HIV.out⟩).mono ?_
    rintro e w3 ⟨A3, c3, B3, d3, rfl, hb3, hobj⟩
    have HR3 := hide (HR0.out.later hb3)
    have HO3 : Hid (ZArg 1048576 w3 A3 k (cs1 f) B3 k (cs2 f)) := hide ⟨cs_sz HN.out h12, by have h := hobj.fst; unfold cs1; rw [HN.out]; exact h, by have h := hobj.snd; unfold cs2; rw [HN.out]; exact h⟩
    have HB3 := hide (HBc.out.trans (hb3.mono HBc.out.size))
    clear hb3 hobj k0 k1
    go_wp2_with fail
    obtain ⟨zg, hzg⟩ : ∃ zg, grid (cs1 f).length (mir1 (cs1 f)) = zg := ⟨_, rfl⟩
    have HG1 : Hid (grid (cs1 f).length (mir1 (cs2 f)) = dcM f) := hide (by rw [cs1_len, dcM_grid HCY.out])
    have HMR : Hid (MirRes (cs1 f) (cs2 f) (dcM f) zg 0) := hide (.inl ⟨cs_pmap HCY.out, HG1.out.symm, hzg.symm, rfl⟩)
    have HMZ : Hid (ZSz 1048576 (dcM f) k zg k) := hide (by
      have h := grid_sz (n := k) (by omega) (mir1 (cs2 f)) (mir1 (cs1 f))
      rw [← HG1.out, ← hzg, cs1_len, HN.out]
      simpa [grid_length] using h)
    clear hzg
    refine (mirI_any A3 k c3 (cs1 f) B3 k d3 (cs2 f) (dcM f) zg 0 k k _ HO3.out HMR.out HMZ.out).mono ?_
    unfold ZPost
    rintro e w4 ⟨A4, c4, B4, d4, rfl, hb4, hobj⟩
    have HR4 := hide (HR3.out.later hb4)
    have HB4 := hide (HB3.out.trans (hb4.mono HB3.out.size))
    have HD4 := hide hobj.fst
    clear hb4 hobj
    go_upto_region 5 with fail
    refine wp_gen fun w5 hw5 => ?_
    obtain ⟨M, hM⟩ : ∃ M, w4.heap.size = M := ⟨_, rfl⟩
    have hq : Below w4.heap.size w4 w5 := by rw [hw5]; exact (Below.refl _ _).alloc (Nat.le_refl _) _
    have HM5 : Hid (Blk w5 M 41 [.slice A4 k c4, .slice B4 k d4]) := hide (by rw [hw5, ← hM]; exact Blk.new _ _ _)
    have HB5 := hide (HB4.out.trans (hq.mono HB4.out.size))
    have HR5 := hide (HR4.out.later hq)
    have HD5 := hide (HD4.out.later hq)
    rw [hM]
    clear hw5 hq hM
    have k0 := HM5.out.cell 0 _ rfl
    have k1 := HM5.out.cell 1 _ rfl
    go_wp2_with fail
    clear k0 k1
    refine (zcycle_any A4 B4 k c4 k d4 (dcM f) _ ((dcM_len f HCY.out).trans HN.out) (dcM_tbl HCY.out) (dcM_prm HCY.out) HD5.out).mono ?_
    rintro e w9 ⟨A9, c9, rfl, hb9, ho9⟩
    have HB9 := hide (HB5.out.trans (hb9.mono HB5.out.size))
    have HR9 := hide (HR5.out.later hb9)
    have HO9 := hide ho9
    have HLO := hide HB5.out.size
    have HLT := hide HR5.out.lt
    clear hb9 ho9
    have k2 := HR9.out.cell 0 _ rfl
    have k3 := HR9.out.frozen 0
    go_wp2_with fail
    refine bp_gen fun wf hwf => ?_
    obtain ⟨q0, hbf, hof⟩ := kend hwf HR9.out (by omega) HB9.out HO9.out HLO.out HLT.out (Nat.le_refl _)
    clear hwf k2 k3
    exact bodyPost_ret (v := .tuple #[.agg #[.slice A9 k c9], .int .i64 0]) (by simp [results, Try.results41, go_sem, q0]) rfl ⟨_, _, rfl, hbf, hof⟩
  · have hk0 : k = 0 := by rw [← hk]; rfl
    subst hk0
    clear hn hbs hr hk
    have HCR : Hid (CyRes f false) := hide ⟨fun h => (by cases h), fun h => absurd h hcy⟩
    clear hcy
    go_enter Try.func41, Try.ntmps41
    have k0 := HK0.out.cell 0 _ rfl
    go_upto_region 1 with fail
    go_wp2_with fail
    refine (tested_any _ _ _ f false _ HN.out hb HBS.out (HRD.out.later HB0.out) HCR.out).mono ?_
    rintro e w1 (⟨h, _⟩ | ⟨_, rfl, hb1⟩)
    · exact absurd h (by simp)
    have HB1 := hide (HB0.out.trans (hb1.mono HB0.out.size))
    have HR1 := hide (HR0.out.later hb1)
    clear hb1 k0
    go_upto_region 2 with fail
    refine wp_gen fun w2 hw2 => ?_
    have HB2 : Hid (Below w.heap.size w w2) := hide (by rw [hw2]; exact HB1.out.alloc HB1.out.size _)
    have HR2 : Hid (Blk w2 (w.heap.size + 1) 27 [.slice none 0 0]) := hide (by rw [hw2]; exact HR1.out.alloc _)
    clear hw2 HB1 HR1
    have k2 := HR2.out.cell 0 _ rfl
    have k3 := HR2.out.frozen 0
    go_wp2_with fail
    refine bp_gen fun wf hwf => ?_
    have HRF : Blk wf (w.heap.size + 1) 27 [.slice none 0 0] := by rw [hwf]; first | exact HR2.out | exact HR2.out.set 0 _ | exact (HR2.out.set 0 _).set 1 _
    have hbf : Below w.heap.size w wf := by rw [hwf]; first | exact HB2.out | exact HB2.out.setCell (p := ⟨w.heap.size + 1, 0, none⟩) (by show w.heap.size ≤ w.heap.size + 1; omega) _ | exact (HB2.out.setCell (p := ⟨w.heap.size + 1, 0, none⟩) (by show w.heap.size ≤ w.heap.size + 1; omega) _).setCell (p := ⟨w.heap.size + 1, 1, none⟩) (by show w.heap.size ≤ w.heap.size + 1; omega) _
    have q0 := HRF.cell 0 _ rfl
    clear hwf k2 k3
    exact bodyPost_ret (v := .tuple #[.agg #[.slice none 0 0], .int .i64 1]) (by simp [results, Try.results41, go_sem, q0]) rfl ⟨_, _, rfl, hbf, .inl ⟨rfl, rfl⟩⟩

set_option maxRecDepth 100000 in
theorem dcS_any (A : Option Addr) (n c : Nat) (f : List (List Int)) (zs : List (List Int)) (code : Int) (k : Nat) (w : World) (hn : f.length = n) (hb : n ≤ 1048576) (hbs : ∀ i, i < f.length → (f.getD i []).length ≤ 1048576) (hr : Rd2 w A f) (hres : DcRes f zs code) (hk : zs.length = k) :
    Calls Try.prog 40 #[.agg #[.slice A n c]] w (fun e w' => ∃ A' c', e = .returned (.tuple #[.agg #[.slice A' k c'], .int .i64 code]) ∧ Below w.heap.size w w' ∧ Obj2 31 2 w.heap.size w'.heap.size w' A' zs) := by
  have HN := hide hn
  have HBS := hide hbs
  have HRD := hide hr
  have HB0 := hide (((Below.refl _ w).alloc (Nat.le_refl _) (Obj.cells #[Value.slice A n c] 27)).alloc (by simp) (Obj.cells #[.slice none 0 0] 27))
  have HK0 := hide ((Blk.new w 27 [.slice A n c]).alloc (Obj.cells #[.slice none 0 0] 27))
  have HR0 : Hid (Blk ((w.alloc (Obj.cells #[Value.slice A n c] 27)).alloc (Obj.cells #[.slice none 0 0] 27)) (w.heap.size + 1) 27 [.slice none 0 0]) := hide (by have h := Blk.new (w.alloc (Obj.cells #[Value.slice A n c] 27)) 27 [.slice none 0 0]; simpa using h)
  rcases hres with ⟨hcy, rfl, rfl⟩ | ⟨hcy, rfl, rfl⟩
  · have hk2 : k = n := by rw [← hk, dualL_len, dcM_len f hcy, hn]
    subst hk2
    clear hn hbs hr hk
    have HCY := hide hcy
    have HTB := hide hcy.tbl
    have h1 : 1 ≤ k := by rw [← HN.out]; exact HTB.out.1
    have h12 : k ≤ 12 := by rw [← HN.out]; exact HTB.out.2.1
    have HCR : Hid (CyRes f true) := hide ⟨fun _ => HCY.out, fun _ => rfl⟩
    clear hcy
    go_enter Try.func40, Try.ntmps40
    have k0 := HK0.out.cell 0 _ rfl
    go_wp2_with fail
    refine (isCycS _ _ _ f true _ HN.out hb HBS.out (HRD.out.later HB0.out) HCR.out).mono ?_
    rintro e w1 ⟨rfl, hb1⟩
    have HB1 := hide (HB0.out.trans (hb1.mono HB0.out.size))
    have HK1 := hide (HK0.out.later hb1)
    replace HR0 := hide (HR0.out.later hb1)
    clear hb1 k0
    have k0 := HK1.out.cell 0 _ rfl
    go_wp2_with fail
    refine (solS_any A k c f _ HN.out HCY.out (HRD.out.later HB1.out)).mono ?_
    rintro e w3 ⟨A3, c3, B3, d3, rfl, hb3, hobj⟩
    have HR3 := hide (HR0.out.later hb3)
    have HO3 : Hid (ZArg 1048576 w3 A3 k (cs1 f) B3 k (cs2 f)) := hide ⟨cs_sz HN.out h12, by have h := hobj.fst; unfold cs1; rw [HN.out]; exact h, by have h := hobj.snd; unfold cs2; rw [HN.out]; exact h⟩
    have HB3 := hide (HB1.out.trans (hb3.mono HB1.out.size))
    clear hb3 hobj k0
    go_wp2_with fail
    refine (mirrorS_any A3 B3 k c3 d3 (cs1 f) (cs2 f) _ HO3.out (cs_pmap HCY.out)).mono ?_
    rintro e w5 ⟨A4, c4, B4, d4, rfl, hb4, hobj⟩
    have HR5 := hide (HR3.out.later hb4)
    have HB5 := hide (HB3.out.trans (hb4.mono HB3.out.size))
    have HD5 : Hid (Rd2 w5 A4 (dcM f)) := hide hobj.fst
    clear hb4 hobj
    go_wp2_with fail
    refine (cycleS_any A4 B4 k c4 k d4 (dcM f) _ ((dcM_len f HCY.out).trans HN.out) (dcM_tbl HCY.out) (dcM_prm HCY.out) HD5.out).mono ?_
    rintro e w9 ⟨A9, c9, rfl, hb9, ho9⟩
    have HB9 := hide (HB5.out.trans (hb9.mono HB5.out.size))
    have HR9 := hide (HR5.out.later hb9)
    have HO9 := hide ho9
    have HLO := hide HB5.out.size
    have HLT := hide HR5.out.lt
    clear hb9 ho9
    have k2 := HR9.out.cell 0 _ rfl
    have k3 := HR9.out.frozen 0
    go_wp2_with fail
    refine bp_gen fun wf hwf => ?_
    obtain ⟨q0, hbf, hof⟩ := kend hwf HR9.out (by omega) HB9.out HO9.out HLO.out HLT.out (Nat.le_refl _)
    clear hwf k2 k3
    exact bodyPost_ret (v := .tuple #[.agg #[.slice A9 k c9], .int .i64 0]) (by simp [results, Try.results40, go_sem, q0]) rfl ⟨_, _, rfl, hbf, hof⟩
  · have hk0 : k = 0 := by rw [← hk]; rfl
    subst hk0
    clear hn hbs hr hk
    have HCR : Hid (CyRes f false) := hide ⟨fun h => (by cases h), fun h => absurd h hcy⟩
    clear hcy
    go_enter Try.func40, Try.ntmps40
    have k0 := HK0.out.cell 0 _ rfl
    go_wp2_with fail
    refine (isCycS _ _ _ f false _ HN.out hb HBS.out (HRD.out.later HB0.out) HCR.out).mono ?_
    rintro e w1 ⟨rfl, hb1⟩
    have HB1 := hide (HB0.out.trans (hb1.mono HB0.out.size))
    have HK1 := hide (HK0.out.later hb1)
    replace HR0 := hide (HR0.out.later hb1)
    clear hb1 k0
    have k2 := HR0.out.cell 0 _ rfl
    have k3 := HR0.out.frozen 0
    go_wp2_with fail
    refine bp_gen fun wf hwf => ?_
    have HRF : Blk wf (w.heap.size + 1) 27 [.slice none 0 0] := by rw [hwf]; first | exact HR0.out | exact HR0.out.set 0 _ | exact (HR0.out.set 0 _).set 1 _
    have hbf : Below w.heap.size w wf := by rw [hwf]; first | exact HB1.out | exact HB1.out.setCell (p := ⟨w.heap.size + 1, 0, none⟩) (by show w.heap.size ≤ w.heap.size + 1; omega) _ | exact (HB1.out.setCell (p := ⟨w.heap.size + 1, 0, none⟩) (by show w.heap.size ≤ w.heap.size + 1; omega) _).setCell (p := ⟨w.heap.size + 1, 1, none⟩) (by show w.heap.size ≤ w.heap.size + 1; omega) _
    have q0 := HRF.cell 0 _ rfl
    clear hwf k2 k3
    exact bodyPost_ret (v := .tuple #[.agg #[.slice none 0 0], .int .i64 1]) (by simp [results, Try.results40, go_sem, q0]) rfl ⟨_, _, rfl, hbf, .inl ⟨rfl, rfl⟩⟩

end Go.Proofs.Ytgahmfkmhaeniaa
