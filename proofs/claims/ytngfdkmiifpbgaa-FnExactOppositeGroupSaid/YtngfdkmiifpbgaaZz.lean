import Derived.Test.YtngfdkmiifpbgaaZl
import Derived.Test.YtngfdkmiifpbgaaZh
namespace Go.Proofs.Ytngfdkmiifpbgaa
open Go Go.RowKit
def OpRes (f zs : List (List Int)) (code : Int) : Prop := (Grp f ∧ zs = turnL f ∧ code = 0) ∨ (¬ Grp f ∧ zs = [] ∧ code = 1)
theorem OpRes.ex (f : List (List Int)) : ∃ zs code, OpRes f zs code ∧ zs.length ≤ 1048576 ∧ ∀ i, i < zs.length → (zs.getD i []).length ≤ 1048576 := by
  by_cases h : Grp f
  · have h12 := h.tbl.2.1
    refine ⟨_, _, .inl ⟨h, rfl, rfl⟩, by rw [turnL_length]; omega, fun i hi => ?_⟩
    rw [turnL_length] at hi
    unfold turnL
    rw [grid_row_length _ _ _ hi]
    omega
  · exact ⟨_, _, .inr ⟨h, rfl, rfl⟩, by simp, fun i hi => by simp at hi⟩
end Go.Proofs.Ytngfdkmiifpbgaa
