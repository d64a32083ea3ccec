import Derived.Test.YtcmoeapgpljeiaaProg
import Derived.Test.YtcmoeapgpljeiaaZArg
import Derived.Test.YtcmoeapgpljeiaaBlk
namespace Go.Proofs.Ytcmoeapgpljeiaa
open Go Go.RowKit
set_option maxHeartbeats 1000000

theorem size_any (A : Option Addr) (n c : Nat) (B : Option Addr) (m d : Nat) (w : World) (_hn : n ≤ 1048576) :
    Calls Try.prog 67 #[.agg #[.slice A n c, .slice B m d]] w fun e w' => e = .returned (.int .i64 n) ∧ Below w.heap.size w w' := by
  have HB0 := hide ((Below.refl _ w).alloc (Nat.le_refl _) (Obj.cells #[Value.slice A n c, Value.slice B m d] 29))
  go_enter Try.func67, Try.ntmps67
  go_wp2_with fail
  go_ret
  exact ⟨rfl, HB0.out⟩
end Go.Proofs.Ytcmoeapgpljeiaa
