import Derived.Test.YtkflmhmbkilmpabRkF
import Derived.Test.YtkflmhmbkilmpabLeastF
namespace Go.Proofs.Ytkflmhmbkilmpab
open Go Go.RowKit
def LrRes (f zs : List (List Int)) (code : Int) : Prop := (Rck f ∧ f.length ≤ 7 ∧ zs = bestS f f.length (permsS f.length).length ∧ code = 0) ∨ (Rck f ∧ 7 < f.length ∧ zs = [] ∧ code = 3) ∨ (¬ Rck f ∧ zs = [] ∧ code = 1)
theorem LrRes.ex (f : List (List Int)) : ∃ zs code, LrRes f zs code ∧ zs.length ≤ 1048576 ∧ ∀ i, i < zs.length → (zs.getD i []).length ≤ 1048576 := by
  by_cases h : Rck f
  · have h12 := h.tbl.2.1
    by_cases h7 : f.length ≤ 7
    · have hs := bestS_shape f f.length (permsS f.length).length rfl (fun i hi => h.tbl.rows i hi)
      exact ⟨_, _, .inl ⟨h, h7, rfl, rfl⟩, by rw [hs.1]; omega, fun i hi => by rw [hs.1] at hi; rw [hs.2 i hi]; omega⟩
    · exact ⟨_, _, .inr (.inl ⟨h, by omega, rfl, rfl⟩), by simp, by simp⟩
  · exact ⟨_, _, .inr (.inr ⟨h, rfl, rfl⟩), by simp, by simp⟩
end Go.Proofs.Ytkflmhmbkilmpab
