import Derived.Test.YthkhkehpmolfaaaZbh
import Derived.Test.YthkhkehpmolfaaaZbe
import Derived.Test.YthkhkehpmolfaaaZh
namespace Go.Proofs.Ythkhkehpmolfaaa
open Go Go.RowKit
/-- What CycleSetOfSolution answers. -/
def ZcRes (f s zs : List (List Int)) (code : Int) : Prop := (SolF f s ∧ (NonF f s ∧ InvF f s) ∧ zs = dualL f ∧ code = 0) ∨ (SolF f s ∧ ¬ (NonF f s ∧ InvF f s) ∧ zs = [] ∧ code = 5) ∨ (¬ SolF f s ∧ zs = [] ∧ code = 1)
theorem ZcRes.ex (f s : List (List Int)) : ∃ zs code, ZcRes f s zs code ∧ zs.length ≤ 1048576 ∧ ∀ i, i < zs.length → (zs.getD i []).length ≤ 1048576 := by
  by_cases h : SolF f s
  · by_cases h2 : NonF f s ∧ InvF f s
    · have ht : Tbl f := h.1.1
      have h12 := ht.2.1
      refine ⟨_, _, .inl ⟨h, h2, rfl, rfl⟩, ?_, fun i hi => ?_⟩
      · rw [dualL, rowsL_length]; omega
      · rw [dualL, rowsL_length] at hi
        rw [dualL, rowsL_at f _ i hi, backTo_length, ht.rows i hi]
        omega
    · exact ⟨_, _, .inr (.inl ⟨h, h2, rfl, rfl⟩), by simp, by simp⟩
  · exact ⟨_, _, .inr (.inr ⟨h, rfl, rfl⟩), by simp, by simp⟩
end Go.Proofs.Ythkhkehpmolfaaa
