import Derived.Test.YtaejgmdeiemhcaaZai
import Derived.Test.YtaejgmdeiemhcaaZp
import Derived.Test.YtaejgmdeiemhcaaZac
import Derived.Test.YtaejgmdeiemhcaaZj
import Derived.Deep.Cut
import Derived.Deep.RegionHeld3
namespace Go.Proofs.Ytaejgmdeiemhcaa
open Go Go.RowKit
set_option maxHeartbeats 2000000
set_option maxRecDepth 100000 in
theorem wsyZ_any (A : Option Addr) (n c : Nat) (f : List (List Int)) (B : Option Addr) (d : Nat) (s : List (List Int)) (w : World) (hz : ZArg 1048576 w A n f B n s) (hp : PMap f s) :
    Calls Try.prog 66 #[.agg #[.slice A n c, .slice B n d]] w fun e w' => ∃ A' c', e = .returned (.slice A' (n + n) c') ∧ Below w.heap.size w w' ∧ Rd2 w' A' (bothL f s) := by
  have h12 := hz.small hp
  have h1 : 1 ≤ n := by have := hp.1.1; have := hz.sz.fl; omega
  have HZ := hide hz
  have HP := hide hp
  have HBc := hide ((Below.refl _ w).alloc (Nat.le_refl _) (Obj.cells #[Value.slice A n c, Value.slice B n d] 28))
  have HKc := hide (Blk.new w 28 [.slice A n c, .slice B n d])
  clear hz hp
  go_enter Try.func66, Try.ntmps66
  go_upto_region 1 with fail
  refine wp_gen fun w0 hw0 => ?_
  have HB0 := hide (show Below w.heap.size w w0 by rw [hw0]; exact HBc.out)
  replace HKc := hide (show Blk w0 w.heap.size 28 [.slice A n c, .slice B n d] by rw [hw0]; exact HKc.out)
  clear hw0 HBc
  have HBc := HB0
  clear HB0
  have k0 := HKc.out.cell 0 _ rfl
  have k1 := HKc.out.cell 1 _ rfl
  go_region_held3 (fun w' => w'.cell? ⟨w.heap.size, 0, none⟩ = some (.slice A n c) ∧ w'.cell? ⟨w.heap.size, 1, none⟩ = some (.slice B n d)) (first | exact ⟨k0, k1⟩ | go_keep) (first | (go_at_call 59; go_must (refine calls_gen fun wc hwc => ?_; (first | have hbx := drew_below hwc | have hbx := eq_below hwc); replace HBc := hide (HBc.out.trans (hbx.mono HBc.out.size)); replace HKc := hide (HKc.out.later hbx); clear hwc hbx; refine (rhoZ_any _ n _ f _ n _ s _ (HZ.out.later HBc.out) HP.out).mono ?_; rintro e wd ⟨A2, c2, rfl, hbd, hobj⟩; replace HBc := hide (HBc.out.trans (hbd.mono HBc.out.size)); replace HKc := hide (HKc.out.later hbd); clear hbd; have k0 := HKc.out.cell 0 _ rfl; have k1 := HKc.out.cell 1 _ rfl; have HO := hide hobj.rd; clear hobj)) | (go_at_call 96; go_must (refine calls_gen fun wc hwc => ?_; (first | have hbx := al_drew_below hwc | have hbx := al_below hwc); have HBQ := (by first | exact hide (blk_al_drew hwc) | exact hide (blk_al hwc)); have HZS := hide HBc.out.size; replace HBc := hide (HBc.out.trans (hbx.mono HBc.out.size)); replace HKc := hide (HKc.out.later hbx); replace HO := hide (HO.out.later hbx); clear hwc hbx; refine (concat2_any _ n _ f _ n _ (turnL s) _ _ HZ.out.sz.fl (by rw [turnL_length]; exact HZ.out.sz.sl) h1 h1 (by omega) (by omega) (HZ.out.later HBc.out).fst HO.out HBQ.out).mono ?_; rintro e wd ⟨A3, c3, rfl, hbd, hrd⟩; replace HBc := hide (HBc.out.trans (hbd.mono HBc.out.size)); replace HKc := hide (HKc.out.later hbd); have HRD := hide hrd; clear hbd hrd; have k0 := HKc.out.cell 0 _ rfl; have k1 := HKc.out.cell 1 _ rfl)))
  clear k0 k1
  go_wp2_with fail
  go_ret
  exact ⟨_, _, rfl, HBc.out, HRD.out⟩
end Go.Proofs.Ytaejgmdeiemhcaa
