import Derived.Test.YtjgjnekpdeffaaaProg
import Derived.Test.YtjgjnekpdeffaaaZArg
import Derived.Test.YtjgjnekpdeffaaaBlk
namespace Go.Proofs.Ytjgjnekpdeffaaa
open Go Go.RowKit
set_option maxHeartbeats 1000000

theorem size_any (A : Option Addr) (n c : Nat) (B : Option Addr) (m d : Nat) (w : World) (_hn : n ≤ 1048576) :
    Calls Try.prog 52 #[.agg #[.slice A n c, .slice B m d]] w fun e w' => e = .returned (.int .i64 n) ∧ Below w.heap.size w w' := by
  have HB0 := hide ((Below.refl _ w).alloc (Nat.le_refl _) (Obj.cells #[Value.slice A n c, Value.slice B m d] 48))
  go_enter Try.func52, Try.ntmps52
  go_wp2_with fail
  go_ret
  exact ⟨rfl, HB0.out⟩
end Go.Proofs.Ytjgjnekpdeffaaa
