import Derived.Test.YtljdfanebjhhmaaZv
import Derived.Test.YtljdfanebjhhmaaZac
namespace Go.Proofs.Ytljdfanebjhhmaa
open Go Go.RowKit
/-- A rack made of two, where they are racks and there is room. -/
def RuRes (f g : List (List Int)) (N : Nat) (h : Nat → Nat → Int) (zs : List (List Int)) (code : Int) : Prop :=
  ((Rck f ∧ Rck g) ∧ N ≤ 12 ∧ zs = grid N h ∧ code = 0) ∨ ((Rck f ∧ Rck g) ∧ ¬ N ≤ 12 ∧ zs = [] ∧ code = 3) ∨ (¬ (Rck f ∧ Rck g) ∧ zs = [] ∧ code = 1)
theorem RuRes.ex (f g : List (List Int)) (N : Nat) (h : Nat → Nat → Int) : ∃ zs code, RuRes f g N h zs code ∧ zs.length ≤ 1048576 ∧ ∀ i, i < zs.length → (zs.getD i []).length ≤ 1048576 := by
  by_cases hg : Rck f ∧ Rck g
  · by_cases h3 : N ≤ 12
    · refine ⟨_, _, .inl ⟨hg, h3, rfl, rfl⟩, by rw [grid_length]; omega, fun i hi => ?_⟩
      rw [grid_length] at hi
      rw [grid_row_length _ _ _ hi]; omega
    · exact ⟨_, _, .inr (.inl ⟨hg, h3, rfl, rfl⟩), by simp, by simp⟩
  · exact ⟨_, _, .inr (.inr ⟨hg, rfl, rfl⟩), by simp, by simp⟩
/-- The product of two racks. -/
def pdH (f g : List (List Int)) (m : Nat) : Nat → Nat → Int := fun a b => ((ap f (a / m) (b / m) * m + ap g (a % m) (b % m) : Nat) : Int)
/-- The union of two racks. -/
def udH (f g : List (List Int)) (n : Nat) : Nat → Nat → Int := fun a b => if a < n ∧ b < n then ((ap f a b : Nat) : Int) else if n ≤ a ∧ n ≤ b then ((ap g (a - n) (b - n) + n : Nat) : Int) else (b : Int)
def PdRes (f g : List (List Int)) : List (List Int) → Int → Prop := RuRes f g (f.length * g.length) (pdH f g g.length)
def UdRes (f g : List (List Int)) : List (List Int) → Int → Prop := RuRes f g (f.length + g.length) (udH f g f.length)
theorem PdRes.ex (f g : List (List Int)) : ∃ zs code, PdRes f g zs code ∧ zs.length ≤ 1048576 ∧ ∀ i, i < zs.length → (zs.getD i []).length ≤ 1048576 := RuRes.ex _ _ _ _
theorem UdRes.ex (f g : List (List Int)) : ∃ zs code, UdRes f g zs code ∧ zs.length ≤ 1048576 ∧ ∀ i, i < zs.length → (zs.getD i []).length ≤ 1048576 := RuRes.ex _ _ _ _
end Go.Proofs.Ytljdfanebjhhmaa
