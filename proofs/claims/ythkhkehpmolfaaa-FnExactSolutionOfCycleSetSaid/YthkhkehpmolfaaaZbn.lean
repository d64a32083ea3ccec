import Derived.Test.YthkhkehpmolfaaaZt
import Derived.Test.YthkhkehpmolfaaaZbh
import Derived.Test.YthkhkehpmolfaaaZb
namespace Go.Proofs.Ythkhkehpmolfaaa
open Go Go.RowKit
/-- The place at which row x has z. -/
def sol (f : List (List Int)) (x z : Nat) : Nat := (ixOf (f.getD x []) (z : Int)).toNat
theorem sol_spec {f : List (List Int)} (ht : Tbl f) (hp : AllPrm f) {n x z : Nat} (hn : f.length = n) (hx : x < n) (hz : z < n) :
    sol f x z < n ∧ ixOf (f.getD x []) (z : Int) = ((sol f x z : Nat) : Int) ∧ (f.getD x []).getD (sol f x z) 0 = (z : Int) ∧ ap f x (sol f x z) = z := by
  have hl : (f.getD x []).length = n := ht.row_len hn hx
  have hpx : Prm (f.getD x []) := hp x (by omega)
  have hm : (z : Int) ∈ f.getD x [] := (prm_iff _).1 hpx |>.2.2 z (by omega) (by omega)
  have hi := List.idxOf_lt_length_iff.2 hm
  have e1 : ixOf (f.getD x []) (z : Int) = (((f.getD x []).idxOf (z : Int) : Nat) : Int) := by unfold ixOf; rw [if_pos hm]
  have e2 : sol f x z = (f.getD x []).idxOf (z : Int) := by unfold sol; rw [e1]; simp
  have e3 : (f.getD x []).getD ((f.getD x []).idxOf (z : Int)) 0 = (z : Int) := by
    generalize f.getD x [] = p at hi
    rw [List.getD_eq_getElem?_getD, List.getElem?_eq_getElem hi]
    simp
  rw [e2]
  refine ⟨by omega, e1, e3, ?_⟩
  unfold ap
  rw [e3]
  simp
theorem sol_lt {f : List (List Int)} (ht : Tbl f) (hp : AllPrm f) {n x z : Nat} (hn : f.length = n) (hx : x < n) (hz : z < n) : sol f x z < n := (sol_spec ht hp hn hx hz).1
theorem sol_ix {f : List (List Int)} (ht : Tbl f) (hp : AllPrm f) {n x z : Nat} (hn : f.length = n) (hx : x < n) (hz : z < n) : ixOf (f.getD x []) (z : Int) = ((sol f x z : Nat) : Int) := (sol_spec ht hp hn hx hz).2.1
theorem dual_row {f : List (List Int)} {n x : Nat} (hn : f.length = n) (hx : x < n) : (dualL f).getD x [] = backTo (f.getD x []) n := by
  unfold dualL
  rw [rowsL_at f _ x (by omega), hn]
theorem sol_dual {f : List (List Int)} (ht : Tbl f) (hp : AllPrm f) {n x z : Nat} (hn : f.length = n) (hx : x < n) (hz : z < n) : ((dualL f).getD x []).getD z 0 = ((sol f x z : Nat) : Int) := by
  have hl : (f.getD x []).length = n := ht.row_len hn hx
  have hpx : Prm (f.getD x []) := hp x (by omega)
  obtain ⟨h1, _, h3, _⟩ := sol_spec ht hp hn hx hz
  have h := backTo_hit hpx n (by omega) (sol f x z) h1
  rw [h3] at h
  rw [dual_row hn hx]
  simpa using h
theorem dualL_len (f : List (List Int)) : (dualL f).length = f.length := by unfold dualL; rw [rowsL_length]
theorem dual_len {f : List (List Int)} (ht : Tbl f) {n x : Nat} (hn : f.length = n) (hx : x < n) : ((dualL f).getD x []).length = n := by rw [dual_row hn hx, backTo_length]; exact ht.row_len hn hx
theorem dual_tbl {f : List (List Int)} (ht : Tbl f) (hp : AllPrm f) : Tbl (dualL f) := by
  refine ⟨by rw [dualL_len]; exact ht.1, by rw [dualL_len]; exact ht.2.1, ?_⟩
  intro i hi
  rw [dualL_len] at hi
  refine ⟨by rw [dual_len ht rfl hi, dualL_len], fun j hj => ?_⟩
  rw [dualL_len] at hj
  have h := sol_lt ht hp rfl hi hj
  rw [sol_dual ht hp rfl hi hj, dualL_len]
  omega
theorem sol_ap {f : List (List Int)} (ht : Tbl f) (hp : AllPrm f) {n x z : Nat} (hn : f.length = n) (hx : x < n) (hz : z < n) : ap (dualL f) x z = sol f x z := by
  have h := sol_dual ht hp hn hx hz
  unfold ap
  rw [h]
  simp
def DsRes (f : List (List Int)) (x z v code : Int) : Prop :=
  (Cyc f ∧ (0 ≤ x ∧ x < (f.length : Int)) ∧ (0 ≤ z ∧ z < (f.length : Int)) ∧ v = ((sol f x.toNat z.toNat : Nat) : Int) ∧ code = 0) ∨ (Cyc f ∧ ¬ ((0 ≤ x ∧ x < (f.length : Int)) ∧ (0 ≤ z ∧ z < (f.length : Int))) ∧ v = 0 ∧ code = 2) ∨ (¬ Cyc f ∧ v = 0 ∧ code = 1)
theorem DsRes.ex (f : List (List Int)) (x z : Int) : ∃ v code, DsRes f x z v code := by
  by_cases h : Cyc f
  · by_cases h2 : (0 ≤ x ∧ x < (f.length : Int)) ∧ (0 ≤ z ∧ z < (f.length : Int))
    · exact ⟨_, _, .inl ⟨h, h2.1, h2.2, rfl, rfl⟩⟩
    · exact ⟨_, _, .inr (.inl ⟨h, h2, rfl, rfl⟩)⟩
  · exact ⟨_, _, .inr (.inr ⟨h, rfl, rfl⟩)⟩
end Go.Proofs.Ythkhkehpmolfaaa
