import Derived.Test.YtchpclgkinehhaaZaa
import Derived.Test.YtchpclgkinehhaaZe
import Derived.Test.YtchpclgkinehhaaZag
namespace Go.Proofs.Ytchpclgkinehhaa
open Go Go.RowKit
set_option maxHeartbeats 2000000

set_option maxRecDepth 100000 in
theorem isQ_any (A : Option Addr) (n c : Nat) (f : List (List Int)) (r : Bool) (w : World) (hn : f.length = n) (ht : Tbl f) (hr : Rd2 w A f) (hrc : r = true ↔ QuF f) :
    Calls Try.prog 66 #[.agg #[.slice A n c]] w fun e w' => e = .returned (.bool r) ∧ Below w.heap.size w w' := by
  have h12 : n ≤ 12 := by rw [← hn]; exact ht.2.1
  have HN := hide hn
  have HTB := hide ht
  have HR := hide hr
  have HRC : Hid (r = true ↔ kinkL f = unitL n) := hide (by rw [hrc, ← kink_unit, hn])
  have HKL : Hid ((kinkL f).length = n) := hide ((kinkL_length f).trans hn)
  have HB0 := hide ((Below.refl _ w).alloc (Nat.le_refl _) (Obj.cells #[Value.slice A n c] 27))
  have HK0 := hide (Blk.new w 27 [.slice A n c])
  clear hn ht hr hrc
  go_enter Try.func66, Try.ntmps66
  go_wp2_with fail

  refine wp_gen fun w0 hw0 => ?_
  have HBc : Hid (Below w.heap.size w w0) := hide (by rw [hw0]; exact HB0.out)
  have HKc : Hid (Blk w0 w.heap.size 27 [.slice A n c]) := hide (by rw [hw0]; exact HK0.out)
  clear hw0
  have k0 := HKc.out.cell 0 _ rfl
  go_region_held3 (fun w' => w'.cell? ⟨w.heap.size, 0, none⟩ = some (.slice A n c)) (first | exact k0 | go_keep) (first | (go_at_call 80; go_must (refine calls_gen fun wc hwc => ?_; (first | have hbx := drew_below hwc | have hbx := eq_below hwc); replace HBc := hide (HBc.out.trans (hbx.mono HBc.out.size)); replace HKc := hide (HKc.out.later hbx); clear hwc hbx; refine (kink_any _ _ _ f _ HN.out HTB.out (HR.out.later HBc.out)).mono ?_; rintro e wd ⟨g, rfl, hbd, hg, hobj⟩; have HO := hide (hobj); clear hobj; replace HBc := hide (HBc.out.trans (hbd.mono HBc.out.size)); replace HKc := hide (HKc.out.later hbd); clear hbd; have k0 := HKc.out.cell 0 _ rfl)) | (go_at_call 93; go_must (refine calls_gen fun wc hwc => ?_; (first | have hbx := drew_below hwc | have hbx := eq_below hwc); replace HBc := hide (HBc.out.trans (hbx.mono HBc.out.size)); replace HKc := hide (HKc.out.later hbx); (first | replace HO := hide (HO.out.later hbx HO.out.lt) | skip); clear hwc hbx; refine (ksize_any _ _ _ _ (by omega)).mono ?_; rintro e wd ⟨rfl, hbd⟩; replace HBc := hide (HBc.out.trans (hbd.mono HBc.out.size)); replace HKc := hide (HKc.out.later hbd); (first | replace HO := hide (HO.out.later hbd HO.out.lt) | skip); clear hbd; have k0 := HKc.out.cell 0 _ rfl)) | (go_at_call 99; go_must (refine calls_gen fun wc hwc => ?_; (first | have hbx := drew_below hwc | have hbx := eq_below hwc); replace HBc := hide (HBc.out.trans (hbx.mono HBc.out.size)); replace HKc := hide (HKc.out.later hbx); (first | replace HO := hide (HO.out.later hbx HO.out.lt) | skip); clear hwc hbx; refine (identityOf_any n _ (by omega)).mono ?_; rintro e wd ⟨rfl, hbd, hobj, hsz⟩; have HU := hide (hobj.own); clear hobj; replace HBc := hide (HBc.out.trans (hbd.mono HBc.out.size)); replace HKc := hide (HKc.out.later hbd); (first | replace HO := hide (HO.out.later hbd HO.out.lt) | skip); clear hbd; have k0 := HKc.out.cell 0 _ rfl)) | (go_at_call 98; go_must (refine calls_gen fun wc hwc => ?_; (first | have hbx := drew_below hwc | have hbx := eq_below hwc); replace HBc := hide (HBc.out.trans (hbx.mono HBc.out.size)); replace HKc := hide (HKc.out.later hbx); (first | replace HO := hide (HO.out.later hbx HO.out.lt) | skip); (first | replace HU := hide (HU.out.later hbx HU.out.lt) | skip); clear hwc hbx; refine (eql_any _ _ _ _ _ _ (kinkL f) (unitL n) r _ HKL.out (unitL_length n) (by omega) (by omega) HO.out.rd HU.out.rd HRC.out).mono ?_; rintro e wd ⟨rfl, hqd⟩; have hbd := hqd.below wc.heap.size; replace HBc := hide (HBc.out.trans (hbd.mono HBc.out.size)); replace HKc := hide (HKc.out.later hbd); (first | replace HO := hide (HO.out.later hbd HO.out.lt) | skip); (first | replace HU := hide (HU.out.later hbd HU.out.lt) | skip); clear hbd; have k0 := HKc.out.cell 0 _ rfl)))
  go_wp2_with fail
  go_ret
  exact ⟨rfl, HBc.out⟩

end Go.Proofs.Ytchpclgkinehhaa
