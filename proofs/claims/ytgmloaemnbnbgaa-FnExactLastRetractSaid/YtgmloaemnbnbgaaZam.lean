import Derived.Test.YtgmloaemnbnbgaaZal
namespace Go.Proofs.Ytgmloaemnbnbgaa
open Go Go.RowKit
open Classical
/-- All rows lead x to itself. -/
def FixAt (rows : List (List Int)) (x : Nat) : Prop := ∀ i, i < rows.length → (rows.getD i []).getD x 0 = (x : Int)
/-- The elements below k that all rows lead to themselves. -/
noncomputable def fixTo (rows : List (List Int)) : Nat → List Int
  | 0 => []
  | k + 1 => if FixAt rows k then fixTo rows k ++ [(k : Int)] else fixTo rows k
theorem fixTo_le (rows : List (List Int)) (k : Nat) : (fixTo rows k).length ≤ k := by
  induction k with
  | zero => simp [fixTo]
  | succ k ih =>
    unfold fixTo
    split
    · simp; omega
    · omega
def FixRes (f s : List (List Int)) : List Int → Int → Prop := RRes7 (NdS f s) (fixTo (bothL f s) f.length)
theorem FixRes.ex (f s : List (List Int)) : ∃ zs code, FixRes f s zs code ∧ zs.length ≤ 1048576 := RRes7.ex _ _ (fun h => by have h1 := fixTo_le (bothL f s) f.length; have := h.sizes rfl; omega)
end Go.Proofs.Ytgmloaemnbnbgaa
