import Derived.Test.YtkagfjofjbpfeaaProg
import Derived.Test.YtkagfjofjbpfeaaZd
namespace Go.Proofs.Ytkagfjofjbpfeaa
open Go Go.RowKit
set_option maxHeartbeats 1000000

/-- The inverse after k rounds. -/
def backTo (p : List Int) : Nat → List Int
  | 0 => List.replicate p.length 0
  | k + 1 => (backTo p k).set (p.getD k 0).toNat (k : Int)
theorem backTo_length (p : List Int) (k : Nat) : (backTo p k).length = p.length := by
  induction k with
  | zero => simp [backTo]
  | succ k ih => simp [backTo, ih]

def InvRes (p zs : List Int) (code : Int) : Prop := (Prm p ∧ zs = backTo p p.length ∧ code = 0) ∨ (¬ Prm p ∧ zs = [] ∧ code = 1)
theorem InvRes.ex (p : List Int) : ∃ zs code, InvRes p zs code ∧ zs.length ≤ 12 := by
  by_cases h : Prm p
  · exact ⟨_, _, .inl ⟨h, rfl, rfl⟩, by rw [backTo_length]; exact h.2.1⟩
  · exact ⟨_, _, .inr ⟨h, rfl, rfl⟩, by simp⟩

theorem backInfo : (Try.prog.info? 2).map (fun i => (i.zero, i.size, i.bytes)) = some (some (.int .i64 0), 1, 8) := by kernel_rfl

end Go.Proofs.Ytkagfjofjbpfeaa
