import Derived.Test.YtkflmhmbkilmpabRkF
import Derived.Test.YtkflmhmbkilmpabTabT
namespace Go.Proofs.Ytkflmhmbkilmpab
open Go Go.RowKit
def RkTx (f : List (List Int)) (s : ByteArray) (code : Int) : Prop := (Rck f ∧ s = tabS f ∧ code = 0) ∨ (¬ Rck f ∧ s = ⟨#[]⟩ ∧ code = 1)
theorem RkTx.ex (f : List (List Int)) : ∃ s code, RkTx f s code := by
  by_cases h : Rck f
  · exact ⟨_, _, .inl ⟨h, rfl, rfl⟩⟩
  · exact ⟨_, _, .inr ⟨h, rfl, rfl⟩⟩
end Go.Proofs.Ytkflmhmbkilmpab
