import Derived.Test.YtanldiildinbdaaZbu
namespace Go.Proofs.Ytanldiildinbdaa
open Go Go.RowKit
set_option maxHeartbeats 1000000
theorem isWS_any (A : Option Addr) (n c : Nat) (f : List (List Int)) (B : Option Addr) (m d : Nat) (s : List (List Int)) (r : Bool) (w : World) (hz : ZArg 1048576 w A n f B m s) (hr : IsRes f s r) :
    Calls Try.prog 16 #[.agg #[.slice A n c, .slice B m d]] w fun e w' => e = .returned (.bool r) ∧ Below w.heap.size w w' := by
  have HZ := hide hz
  have HB0 := hide ((Below.refl _ w).alloc (Nat.le_refl _) (Obj.cells #[Value.slice A n c, Value.slice B m d] 27))
  have HK0 := hide (Blk.new w 27 [.slice A n c, .slice B m d])
  go_enter Try.func16, Try.ntmps16
  go_wp2_with fail
  refine (isS_any _ _ _ f _ _ _ s r _ (hz.later HB0.out) hr).mono ?_
  rintro e w1 ⟨rfl, hb1⟩
  have HB1 := hide (HB0.out.trans (hb1.mono HB0.out.size))
  go_wp2_with fail
  go_ret
  exact ⟨rfl, HB1.out⟩
end Go.Proofs.Ytanldiildinbdaa
