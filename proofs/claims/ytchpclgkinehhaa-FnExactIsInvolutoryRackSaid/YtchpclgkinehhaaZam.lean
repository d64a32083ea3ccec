import Derived.Test.YtchpclgkinehhaaZag
import Derived.Test.YtchpclgkinehhaaZy
import Derived.Test.YtchpclgkinehhaaZak
import Derived.Test.YtchpclgkinehhaaZaf
namespace Go.Proofs.Ytchpclgkinehhaa
open Go Go.RowKit
set_option maxHeartbeats 2000000

set_option maxRecDepth 100000 in
theorem jwInvolutoryRackI (A : Option Addr) (n c : Nat) (f : List (List Int)) (r : Bool) (code : Int) (w : World) (hn : f.length = n) (hb : n ≤ 1048576) (hbs : ∀ i, i < f.length → (f.getD i []).length ≤ 1048576) (hr : Rd2 w A f) (hres : IvRes f r code) :
    Calls Try.prog 38 #[.agg #[.slice A n c]] w fun e w' => e = .returned (.tuple #[.bool r, .int .i64 code]) ∧ Below w.heap.size w w' := by
  have HN := hide hn
  have HBS := hide hbs
  have HRD := hide hr
  have HB0 := hide ((Below.refl _ w).alloc (Nat.le_refl _) (Obj.cells #[Value.slice A n c] 27))
  have HK0 := hide (Blk.new w 27 [.slice A n c])
  have HRES := hide hres
  clear hn hbs hr hres
  go_enter Try.func38, Try.ntmps38
  go_wp2_with fail
  refine (judged_any 75 _ _ _ f (IvF f) r code _ (enters_of Try.func75 (by kernel_rfl) rfl) HN.out hb HBS.out (HRD.out.later HB0.out) HRES.out (fun h1 h2 W hbe => isIv_any _ _ _ f r W HN.out h1.tbl ((HRD.out.later HB0.out).later hbe) h2)).mono ?_
  rintro e w1 ⟨rfl, hb1⟩
  have HB1 := hide (HB0.out.trans (hb1.mono HB0.out.size))
  clear hb1
  go_wp2_with fail
  go_ret2
  exact ⟨rfl, HB1.out⟩

end Go.Proofs.Ytchpclgkinehhaa
