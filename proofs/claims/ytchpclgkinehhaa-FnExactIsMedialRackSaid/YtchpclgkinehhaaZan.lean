import Derived.Test.YtchpclgkinehhaaZag
import Derived.Test.YtchpclgkinehhaaZy
import Derived.Test.YtchpclgkinehhaaZal
import Derived.Test.YtchpclgkinehhaaZae
namespace Go.Proofs.Ytchpclgkinehhaa
open Go Go.RowKit
set_option maxHeartbeats 2000000

set_option maxRecDepth 100000 in
theorem jwMedialRackI (A : Option Addr) (n c : Nat) (f : List (List Int)) (r : Bool) (code : Int) (w : World) (hn : f.length = n) (hb : n ≤ 1048576) (hbs : ∀ i, i < f.length → (f.getD i []).length ≤ 1048576) (hr : Rd2 w A f) (hres : MdRes f r code) :
    Calls Try.prog 40 #[.agg #[.slice A n c]] w fun e w' => e = .returned (.tuple #[.bool r, .int .i64 code]) ∧ Below w.heap.size w w' := by
  have HN := hide hn
  have HBS := hide hbs
  have HRD := hide hr
  have HB0 := hide ((Below.refl _ w).alloc (Nat.le_refl _) (Obj.cells #[Value.slice A n c] 27))
  have HK0 := hide (Blk.new w 27 [.slice A n c])
  have HRES := hide hres
  clear hn hbs hr hres
  go_enter Try.func40, Try.ntmps40
  go_wp2_with fail
  refine (judged_any 76 _ _ _ f (MdF f) r code _ (enters_of Try.func76 (by kernel_rfl) rfl) HN.out hb HBS.out (HRD.out.later HB0.out) HRES.out (fun h1 h2 W hbe => isMd_any _ _ _ f r W HN.out h1.tbl ((HRD.out.later HB0.out).later hbe) h2)).mono ?_
  rintro e w1 ⟨rfl, hb1⟩
  have HB1 := hide (HB0.out.trans (hb1.mono HB0.out.size))
  clear hb1
  go_wp2_with fail
  go_ret2
  exact ⟨rfl, HB1.out⟩

end Go.Proofs.Ytchpclgkinehhaa
