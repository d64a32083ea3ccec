import Derived.Test.YtkagfjofjbpfeaaZk
import Derived.Test.YtkagfjofjbpfeaaZr
namespace Go.Proofs.Ytkagfjofjbpfeaa
open Go Go.RowKit

/-- One row of a table renamed by p, written into what is there, after y values. -/
def renRow (rows : List (List Int)) (p : List Int) (x : Nat) : Nat → (Nat → Nat → Int) → Nat → Nat → Int
  | 0, f => f
  | y + 1, f => fun a b => if a = (p.getD x 0).toNat ∧ b = (p.getD y 0).toNat then p.getD ((rows.getD x []).getD y 0).toNat 0 else renRow rows p x y f a b
/-- .. and after x rows of n values. -/
def renTo (rows : List (List Int)) (p : List Int) (n : Nat) : Nat → (Nat → Nat → Int) → Nat → Nat → Int
  | 0, f => f
  | x + 1, f => renRow rows p x n (renTo rows p n x f)
/-- The table renamed. -/
def renL (rows : List (List Int)) (p : List Int) : List (List Int) := grid rows.length (renTo rows p rows.length rows.length fun _ _ => 0)
theorem renL_length (rows : List (List Int)) (p : List Int) : (renL rows p).length = rows.length := grid_length _ _

theorem elem_range {p : List Int} {n : Nat} (h : ∀ x ∈ p, 0 ≤ x ∧ x < (n : Int)) {i : Nat} (hi : i < p.length) : ∃ j : Nat, p.getD i 0 = (j : Int) ∧ j < n := by
  have h1 := h (p.getD i 0) (by simp [hi])
  obtain ⟨j, hj⟩ := Int.eq_ofNat_of_zero_le h1.1
  exact ⟨j, hj, by omega⟩

def RenRes (rows : List (List Int)) (p : List Int) (zs : List (List Int)) (code : Int) : Prop :=
  (Tbl rows ∧ Prm p ∧ rows.length = p.length ∧ zs = renL rows p ∧ code = 0) ∨ (¬ (Tbl rows ∧ Prm p ∧ rows.length = p.length) ∧ zs = [] ∧ code = 1)
theorem RenRes.ex (rows : List (List Int)) (p : List Int) : ∃ zs code, RenRes rows p zs code ∧ zs.length ≤ 1048576 ∧ ∀ i, i < zs.length → (zs.getD i []).length ≤ 1048576 := by
  by_cases h : Tbl rows ∧ Prm p ∧ rows.length = p.length
  · refine ⟨_, _, .inl ⟨h.1, h.2.1, h.2.2, rfl, rfl⟩, by rw [renL_length]; have := h.1.2.1; omega, fun i hi => ?_⟩
    rw [renL_length] at hi
    unfold renL
    rw [grid_row_length _ _ _ hi]
    have := h.1.2.1
    omega
  · exact ⟨_, _, .inr ⟨h, rfl, rfl⟩, by simp, fun i hi => by simp at hi⟩
end Go.Proofs.Ytkagfjofjbpfeaa
