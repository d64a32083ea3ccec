import Derived.Test.YthkhkehpmolfaaaZt
import Derived.Test.YthkhkehpmolfaaaZbp
namespace Go.Proofs.Ythkhkehpmolfaaa
open Go Go.RowKit
/-- The order of a permutation. -/
noncomputable def ordV (p : List Int) : Nat := ordTo (cyc [p] p.length p.length) (cyc [p] p.length p.length).length
theorem ordV_of {p ys : List Int} {n : Nat} (hn : p.length = n) (hp : Prm p) (h : ys.Perm (cyc [p] n n)) : ordTo ys ys.length = ordV p := by
  subst hn
  have h1 := ord_of p ys p.length rfl hp h
  have h2 := ord_of p (cyc [p] p.length p.length) p.length rfl hp (List.Perm.refl _)
  unfold ordV
  exact Nat.dvd_antisymm ((h1.2.2 _).1 ((h2.2.2 _).2 (Nat.dvd_refl _))) ((h2.2.2 _).1 ((h1.2.2 _).2 (Nat.dvd_refl _)))
theorem ordV_spec {p : List Int} {n : Nat} (hn : p.length = n) (hp : Prm p) : 1 ≤ ordV p ∧ ordV p ≤ 12 ^ 12 ∧ ∀ k, (∀ y, y < n → it p k y = y) ↔ ordV p ∣ k := by
  subst hn
  exact ord_of p (cyc [p] p.length p.length) p.length rfl hp (List.Perm.refl _)
noncomputable def roL (f : List (List Int)) : List Int := (List.range f.length).map fun (x : Nat) => ((ordV (f.getD x []) : Nat) : Int)
theorem roL_length (f : List (List Int)) : (roL f).length = f.length := by simp [roL]
theorem roL_getD (f : List (List Int)) (k : Nat) (h : k < f.length) : (roL f).getD k 0 = ((ordV (f.getD k []) : Nat) : Int) := by
  simp [roL, h]
def RoRes (f : List (List Int)) (zs : List Int) (code : Int) : Prop := (Cyc f ∧ zs = roL f ∧ code = 0) ∨ (¬ Cyc f ∧ zs = [] ∧ code = 1)
theorem RoRes.ex (f : List (List Int)) : ∃ zs code, RoRes f zs code ∧ zs.length ≤ 1048576 := by
  by_cases h : Cyc f
  · exact ⟨_, _, .inl ⟨h, rfl, rfl⟩, by rw [roL_length]; have := h.le; omega⟩
  · exact ⟨_, _, .inr ⟨h, rfl, rfl⟩, by simp⟩
end Go.Proofs.Ythkhkehpmolfaaa
