import Derived.Test.YtanldiildinbdaaProg
import Derived.Test.YtanldiildinbdaaZa
import Derived.Test.YtanldiildinbdaaZj
namespace Go.Proofs.Ytanldiildinbdaa
open Go Go.RowKit
set_option maxHeartbeats 1000000

theorem swap_any (x y : Int) (w : World) :
    Calls Try.prog 71 #[.agg #[.int .i64 x, .int .i64 y]] w fun e w' => e = .returned (.agg #[.int .i64 y, .int .i64 x]) ∧ Below w.heap.size w w' := by
  go_enter Try.func71, Try.ntmps71
  go_wp2_with fail
  refine bp_gen fun wf hwf => ?_
  have HRF : Blk wf (w.heap.size + 1) 53 [.int .i64 y, .int .i64 x] := by rw [hwf]; have h := Blk.new (w.alloc (Obj.cells #[Value.int IntKind.i64 x, Value.int IntKind.i64 y] 53)) 53 [.int .i64 y, .int .i64 x]; simpa using h
  have HBF : Below w.heap.size w wf := by rw [hwf]; exact ((Below.refl _ _).alloc (Nat.le_refl _) _).alloc (by simp) _
  have q0 := HRF.cell 0 _ rfl
  have q1 := HRF.cell 1 _ rfl
  clear hwf
  exact bodyPost_ret (v := .agg #[.int .i64 y, .int .i64 x]) (by simp [results, Try.results71, go_sem, q0, q1]) rfl ⟨rfl, HBF⟩
end Go.Proofs.Ytanldiildinbdaa
