import Derived.Test.YtocdcibfbecdgabMirF
import Derived.Test.YtocdcibfbecdgabPig
namespace Go.Proofs.Ytocdcibfbecdgab
open Go Go.RowKit
/-- q behind p. -/
def thn (p q : List Int) : List Int := p.map fun y => q.getD y.toNat 0
def Perms2 (p q : List Int) : Prop := Prm p ∧ Prm q ∧ p.length = q.length
def tw1 (p : List Int) : Nat → Nat → Int := fun _ y => p.getD y 0
def tw2 (q : List Int) : Nat → Nat → Int := fun x _ => q.getD x 0
def TwRes (p q : List Int) (zf zg : List (List Int)) (code : Int) : Prop :=
  (Perms2 p q ∧ thn p q = thn q p ∧ zf = grid p.length (tw1 p) ∧ zg = grid p.length (tw2 q) ∧ code = 0) ∨ (Perms2 p q ∧ ¬ thn p q = thn q p ∧ zf = [] ∧ zg = [] ∧ code = 5) ∨ (¬ Perms2 p q ∧ zf = [] ∧ zg = [] ∧ code = 2)
theorem TwRes.ex (p q : List Int) : ∃ zf zg code, TwRes p q zf zg code ∧ ZSz 1048576 zf zf.length zg zg.length := by
  by_cases h : Perms2 p q
  · by_cases h2 : thn p q = thn q p
    · exact ⟨_, _, _, .inl ⟨h, h2, rfl, rfl, rfl⟩, grid_sz (by have := h.1.2.1; omega) _ _⟩
    · exact ⟨_, _, _, .inr (.inl ⟨h, h2, rfl, rfl, rfl⟩), nil_sz⟩
  · exact ⟨_, _, _, .inr (.inr ⟨h, rfl, rfl, rfl⟩), nil_sz⟩
end Go.Proofs.Ytocdcibfbecdgab
