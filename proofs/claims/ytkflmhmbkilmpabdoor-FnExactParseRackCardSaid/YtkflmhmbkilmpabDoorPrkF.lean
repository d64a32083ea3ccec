import Derived.Test.YtkflmhmbkilmpabDoorSpF
import Derived.Test.YtkflmhmbkilmpabDoorRkF
namespace Go.Proofs.YtkflmhmbkilmpabDoor
open Go Go.RowKit
def PrRes (s : ByteArray) (zs : List (List Int)) (code : Int) : Prop := ((AllP s ∧ Rck (rowsL s)) ∧ zs = rowsL s ∧ code = 0) ∨ (¬ (AllP s ∧ Rck (rowsL s)) ∧ zs = [] ∧ code = 6)
theorem PrRes.ex (s : ByteArray) : ∃ zs code, PrRes s zs code ∧ zs.length ≤ 1048576 ∧ ∀ i, i < zs.length → (zs.getD i []).length ≤ 1048576 := by
  by_cases h : AllP s ∧ Rck (rowsL s)
  · refine ⟨_, _, .inl ⟨h, rfl, rfl⟩, by have := h.2.tbl.2.1; omega, fun i hi => ?_⟩
    have h1 := h.2.tbl.row_len rfl hi
    have := h.2.tbl.2.1
    omega
  · exact ⟨_, _, .inr ⟨h, rfl, rfl⟩, by simp, fun i hi => by simp at hi⟩
theorem nil_not_rck : ¬ Rck [] := fun h => by have := h.tbl.1; simp at this
theorem PtRes.rck {s : ByteArray} {zs : List (List Int)} {code : Int} (h : PtRes s zs code) : Rck zs ↔ (AllP s ∧ Rck (rowsL s)) := by
  rcases h with ⟨h1, rfl, _⟩ | ⟨h1, rfl, _⟩
  · exact ⟨fun h => ⟨h1.1, h⟩, fun h => h.2⟩
  · exact ⟨fun h => absurd h nil_not_rck, fun h => absurd ⟨h.1, h.2.tbl⟩ h1⟩
theorem PtRes.eq {s : ByteArray} {zs : List (List Int)} {code : Int} (h : PtRes s zs code) (hr : AllP s ∧ Rck (rowsL s)) : zs = rowsL s ∧ code = 0 := by
  rcases h with ⟨h1, h2, h3⟩ | ⟨h1, _, _⟩
  · exact ⟨h2, h3⟩
  · exact absurd ⟨hr.1, hr.2.tbl⟩ h1
end Go.Proofs.YtkflmhmbkilmpabDoor
