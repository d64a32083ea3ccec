import Derived.Test.YthkhkehpmolfaaaZp
import Derived.Test.YthkhkehpmolfaaaZaa
import Derived.Test.YthkhkehpmolfaaaZj
namespace Go.Proofs.Ythkhkehpmolfaaa
open Go Go.RowKit
/-- Doing each row twice leads each element to itself. -/
def IvF (f : List (List Int)) : Prop := ∀ x y, x < f.length → y < f.length → ap f x (ap f x y) = y
def IvRes (f : List (List Int)) : Bool → Int → Prop := BRes (Rck f) (IvF f)
theorem IvRes.ex (f : List (List Int)) : ∃ r code, IvRes f r code := BRes.ex _ _
theorem prm_at {p : List Int} (h : Prm p) {y : Nat} (hy : y < p.length) : 0 ≤ p.getD y 0 ∧ p.getD y 0 < (p.length : Int) := by
  have hm : p.getD y 0 ∈ p := by simp [hy]
  exact h.2.2.1 _ hm
theorem prm_inj {p : List Int} (h : Prm p) {y z : Nat} (hy : y < p.length) (hz : z < p.length) (e : p.getD y 0 = p.getD z 0) : y = z := by
  have hn := h.2.2.2
  have e1 : p[y] = p[z] := by simpa [hy, hz] using e
  exact (List.getElem_inj hn).1 e1
theorem backTo_hit {p : List Int} (h : Prm p) : ∀ k, k ≤ p.length → ∀ y, y < k → (backTo p k).getD (p.getD y 0).toNat 0 = (y : Int) := by
  intro k
  induction k with
  | zero => intro _ y hy; omega
  | succ k ih =>
    intro hk y hy
    have hyl : y < p.length := by omega
    have a := prm_at h hyl
    have b := prm_at h (show k < p.length by omega)
    unfold backTo
    simp only [List.getD_eq_getElem?_getD] at *
    by_cases e : y = k
    · subst e
      rw [List.getElem?_set_self (by rw [backTo_length]; omega)]
      rfl
    · rw [List.getElem?_set_ne]
      · exact ih (by omega) y (by omega)
      · intro e2
        apply e
        apply prm_inj h hyl (by omega)
        simp only [List.getD_eq_getElem?_getD]
        omega
theorem back_iff {p : List Int} (h : Prm p) : p = backTo p p.length ↔ ∀ y, y < p.length → p.getD (p.getD y 0).toNat 0 = (y : Int) := by
  constructor
  · intro e y hy
    have h1 := backTo_hit h p.length (Nat.le_refl _) y hy
    rw [← e] at h1
    exact h1
  · intro hall
    apply List.ext_getElem
    · rw [backTo_length]
    · intro z h1 h2
      have a := prm_at h h1
      have b := hall z h1
      have c := backTo_hit h p.length (Nat.le_refl _) (p.getD z 0).toNat (by omega)
      rw [b] at c
      have d : ((z : Int)).toNat = z := by omega
      rw [d] at c
      have e1 : p.getD z 0 = p[z] := by simp [h1]
      have e2 : (backTo p p.length).getD z 0 = (backTo p p.length)[z] := by simp [h2]
      rw [← e1, ← e2, c]
      omega
theorem iv_row {f : List (List Int)} (ht : Tbl f) (hp : AllPrm f) {n x : Nat} (hn : f.length = n) (hx : x < n) : f.getD x [] = backTo (f.getD x []) n ↔ ∀ y, y < n → ap f x (ap f x y) = y := by
  have hl := ht.row_len hn hx
  have h := back_iff (hp x (by omega))
  rw [hl] at h
  rw [h]
  have key : ∀ y, y < n → ((f.getD x []).getD ((f.getD x []).getD y 0).toNat 0 = (y : Int) ↔ ap f x (ap f x y) = y) := by
    intro y hy
    have e1 := ht.ap_eq hn hx hy
    have hlt := ht.ap_lt hn hx hy
    have e2 := ht.ap_eq hn hx hlt
    rw [e1]
    have e3 : ((ap f x y : Nat) : Int).toNat = ap f x y := by omega
    rw [e3, e2]
    omega
  exact ⟨fun h y hy => (key y hy).1 (h y hy), fun h y hy => (key y hy).2 (h y hy)⟩
end Go.Proofs.Ythkhkehpmolfaaa
namespace Go.Proofs.Ythkhkehpmolfaaa
open Go Go.RowKit
def rowsL (f : List (List Int)) (h : Nat → List Int) : List (List Int) := (List.range f.length).map h
theorem rowsL_length (f : List (List Int)) (h : Nat → List Int) : (rowsL f h).length = f.length := by simp [rowsL]
theorem rowsL_at (f : List (List Int)) (h : Nat → List Int) (i : Nat) (hi : i < f.length) : (rowsL f h).getD i [] = h i := by simp [rowsL, hi]
def dualL (f : List (List Int)) : List (List Int) := rowsL f (fun i => backTo (f.getD i []) f.length)
def DuRes (f zs : List (List Int)) (code : Int) : Prop := (Rck f ∧ zs = dualL f ∧ code = 0) ∨ (¬ Rck f ∧ zs = [] ∧ code = 1)
theorem DuRes.ex (f : List (List Int)) : ∃ zs code, DuRes f zs code ∧ zs.length ≤ 1048576 ∧ ∀ i, i < zs.length → (zs.getD i []).length ≤ 1048576 := by
  by_cases h : Rck f
  · have h12 := h.tbl.2.1
    refine ⟨_, _, .inl ⟨h, rfl, rfl⟩, ?_, fun i hi => ?_⟩
    · rw [dualL, rowsL_length]; omega
    · rw [dualL, rowsL_length] at hi
      rw [dualL, rowsL_at f _ i hi, backTo_length, h.tbl.rows i hi]
      omega
  · exact ⟨_, _, .inr ⟨h, rfl, rfl⟩, by simp, by simp⟩
end Go.Proofs.Ythkhkehpmolfaaa
