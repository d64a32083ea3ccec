import Derived.Test.YthkhkehpmolfaaaZt
import Derived.Test.YthkhkehpmolfaaaZf
namespace Go.Proofs.Ythkhkehpmolfaaa
open Go Go.RowKit
def afH (n a b c : Nat) : Nat → Nat → Int := fun x y => (((a * x + b * y + c) % n : Nat) : Int)
def afT (n a b c : Int) : List (List Int) := grid n.toNat (afH n.toNat a.toNat b.toNat c.toNat)
def AfR (n a b c : Int) : Prop := (1 ≤ n ∧ n ≤ 12) ∧ (0 ≤ a ∧ a < n) ∧ (0 ≤ b ∧ b < n) ∧ (0 ≤ c ∧ c < n)
def AfRes (n a b c : Int) (zs : List (List Int)) (code : Int) : Prop := (AfR n a b c ∧ Cyc (afT n a b c) ∧ zs = afT n a b c ∧ code = 0) ∨ (AfR n a b c ∧ ¬ Cyc (afT n a b c) ∧ zs = [] ∧ code = 5) ∨ (¬ AfR n a b c ∧ zs = [] ∧ code = 2)
theorem grid_rows_le (n : Nat) (h : Nat → Nat → Int) (hn : n ≤ 1048576) : ∀ i, i < (grid n h).length → ((grid n h).getD i []).length ≤ 1048576 := by
  intro i hi
  rw [grid_length] at hi
  have : ((grid n h).getD i []).length = n := by simp [grid, hi]
  omega
theorem AfRes.ex (n a b c : Int) : ∃ zs code, AfRes n a b c zs code ∧ zs.length ≤ 1048576 ∧ ∀ i, i < zs.length → (zs.getD i []).length ≤ 1048576 := by
  by_cases h : AfR n a b c
  · have h12 : n.toNat ≤ 12 := by have := h.1; omega
    by_cases h2 : Cyc (afT n a b c)
    · exact ⟨_, _, .inl ⟨h, h2, rfl, rfl⟩, by unfold afT; rw [grid_length]; omega, grid_rows_le _ _ (by omega)⟩
    · exact ⟨_, _, .inr (.inl ⟨h, h2, rfl, rfl⟩), by simp, by simp⟩
  · exact ⟨_, _, .inr (.inr ⟨h, rfl, rfl⟩), by simp, by simp⟩
end Go.Proofs.Ythkhkehpmolfaaa
