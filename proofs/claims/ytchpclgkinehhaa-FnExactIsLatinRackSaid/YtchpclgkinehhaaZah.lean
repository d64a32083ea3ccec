import Derived.Test.YtchpclgkinehhaaZx
import Derived.Test.YtchpclgkinehhaaZag
import Derived.Test.YtchpclgkinehhaaZm
namespace Go.Proofs.Ytchpclgkinehhaa
open Go Go.RowKit
set_option maxHeartbeats 2000000

set_option maxRecDepth 100000 in
theorem isLt_any (A : Option Addr) (n c : Nat) (f : List (List Int)) (r : Bool) (w : World) (hn : f.length = n) (ht : Tbl f) (hr : Rd2 w A f) (hrc : r = true ↔ LtF f) :
    Calls Try.prog 71 #[.agg #[.slice A n c]] w fun e w' => e = .returned (.bool r) ∧ Below w.heap.size w w' := by
  have h12 : n ≤ 12 := by rw [← hn]; exact ht.2.1
  have HN := hide hn
  have HTB := hide ht
  have HR := hide hr
  have HRC := hide hrc
  have HB0 := hide ((Below.refl _ w).alloc (Nat.le_refl _) (Obj.cells #[Value.slice A n c] 27))
  clear hn ht hr hrc
  go_enter Try.func71, Try.ntmps71
  go_wp2_with fail
  refine (turnI_any _ _ _ f _ HN.out (by omega) (fun i hi => by rw [HTB.out.rows i hi]; exact HN.out) (HR.out.later HB0.out)).mono ?_
  rintro e w3 ⟨A3, c3, rfl, hb3, hobj⟩
  have HB3 := hide (HB0.out.trans (hb3.mono HB0.out.size))
  have HOBJ := hide hobj
  clear hb3 hobj
  go_wp2_with fail
  refine (rowsI_any _ _ _ (turnL f) r _ (by rw [turnL_length]; exact HN.out) (by omega) (fun i hi => by rw [turnL_length] at hi; unfold turnL; rw [grid_row_length _ _ _ hi, HN.out]; omega) HOBJ.out.rd HRC.out).mono ?_
  rintro e w4 ⟨rfl, hb4⟩
  have HB4 := hide (HB3.out.trans (hb4.mono HB3.out.size))
  clear hb4
  go_wp2_with fail
  go_ret
  exact ⟨rfl, HB4.out⟩
end Go.Proofs.Ytchpclgkinehhaa
