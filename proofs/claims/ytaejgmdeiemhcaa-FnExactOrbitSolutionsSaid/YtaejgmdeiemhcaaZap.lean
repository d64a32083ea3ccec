import Derived.Test.YtaejgmdeiemhcaaZal
import Derived.Test.YtaejgmdeiemhcaaZak
import Derived.Test.YtaejgmdeiemhcaaZh
import Derived.Test.YtaejgmdeiemhcaaZan
namespace Go.Proofs.Ytaejgmdeiemhcaa
open Go Go.RowKit
set_option maxHeartbeats 2000000
set_option maxRecDepth 100000 in
theorem orbZ_any (A : Option Addr) (n c : Nat) (f : List (List Int)) (B : Option Addr) (d : Nat) (s : List (List Int)) (w : World) (hz : ZArg 1048576 w A n f B n s) (hg : NdS f s) :
    Calls Try.prog 69 #[.agg #[.slice A n c, .slice B n d]] w fun e w' => ∃ g c', e = .returned (.slice (some ⟨g, 0, none⟩) n c') ∧ Below w.heap.size w w' ∧ w.heap.size ≤ g ∧ OwnB 2 w' g (orbS f s) := by
  have h12 := hz.small hg.map
  have h1 : 1 ≤ n := by have := hg.map.1.1; have := hz.sz.fl; omega
  have HZ := hide hz
  have HG := hide hg
  have HBc := hide ((Below.refl _ w).alloc (Nat.le_refl _) (Obj.cells #[Value.slice A n c, Value.slice B n d] 28))
  have HKc := hide (Blk.new w 28 [.slice A n c, .slice B n d])
  clear hz hg
  go_enter Try.func69, Try.ntmps69
  go_upto_region 1 with fail
  refine wp_gen fun w0 hw0 => ?_
  have HB0 := hide (show Below w.heap.size w w0 by rw [hw0]; exact HBc.out)
  replace HKc := hide (show Blk w0 w.heap.size 28 [.slice A n c, .slice B n d] by rw [hw0]; exact HKc.out)
  clear hw0 HBc
  have HBc := HB0
  clear HB0
  have k0 := HKc.out.cell 0 _ rfl
  have k1 := HKc.out.cell 1 _ rfl
  go_region_held3 (fun w' => w'.cell? ⟨w.heap.size, 0, none⟩ = some (.slice A n c) ∧ w'.cell? ⟨w.heap.size, 1, none⟩ = some (.slice B n d)) (first | exact ⟨k0, k1⟩ | go_keep) (first | (go_at_call 62; go_must (refine calls_gen fun wc hwc => ?_; (first | have hbx := drew_below hwc | have hbx := eq_below hwc); replace HBc := hide (HBc.out.trans (hbx.mono HBc.out.size)); replace HKc := hide (HKc.out.later hbx); clear hwc hbx; refine (size_any _ n _ _ _ _ _ HZ.out.sz.nb).mono ?_; rintro e wd ⟨rfl, hbd⟩; replace HBc := hide (HBc.out.trans (hbd.mono HBc.out.size)); replace HKc := hide (HKc.out.later hbd); clear hbd; have k0 := HKc.out.cell 0 _ rfl; have k1 := HKc.out.cell 1 _ rfl; skip)) | (go_at_call 66; go_must (refine calls_gen fun wc hwc => ?_; (first | have hbx := drew_below hwc | have hbx := eq_below hwc); replace HBc := hide (HBc.out.trans (hbx.mono HBc.out.size)); replace HKc := hide (HKc.out.later hbx); clear hwc hbx; refine (wsyZ_any _ n _ f _ _ s _ (HZ.out.later HBc.out) HG.out.map).mono ?_; rintro e wd ⟨A2, c2, rfl, hbd, hrd⟩; replace HBc := hide (HBc.out.trans (hbd.mono HBc.out.size)); replace HKc := hide (HKc.out.later hbd); clear hbd; have k0 := HKc.out.cell 0 _ rfl; have k1 := HKc.out.cell 1 _ rfl; have HRD := hide hrd; clear hrd)) | (go_at_call 100; go_must (refine calls_gen fun wc hwc => ?_; (first | have hbx := drew_below hwc | have hbx := eq_below hwc); replace HBc := hide (HBc.out.trans (hbx.mono HBc.out.size)); replace HKc := hide (HKc.out.later hbx); replace HRD := hide (HRD.out.later hbx); clear hwc hbx; have HLO := hide HBc.out.size; refine (orbL_any _ (n + n) _ n (bothL f s) _ (bothL_length HZ.out.sz.fl HZ.out.sz.sl) (by omega) h1 h12.2 (HG.out.both HZ.out.sz.fl) HRD.out).mono ?_; rintro e wd ⟨g, c3, rfl, hbd, hg3, how⟩; replace HBc := hide (HBc.out.trans (hbd.mono HBc.out.size)); replace HKc := hide (HKc.out.later hbd); clear hbd; have k0 := HKc.out.cell 0 _ rfl; have k1 := HKc.out.cell 1 _ rfl; have HOW := hide how; have HGL := hide hg3; clear how hg3)))
  clear k0 k1
  go_wp2_with fail
  go_ret
  refine ⟨_, _, rfl, HBc.out, Nat.le_trans HLO.out HGL.out, ?_⟩
  unfold orbS
  rw [HZ.out.sz.fl]
  exact HOW.out
set_option maxRecDepth 100000 in
theorem indZ_any (A : Option Addr) (n c : Nat) (f : List (List Int)) (B : Option Addr) (d : Nat) (s : List (List Int)) (r : Bool) (w : World) (hz : ZArg 1048576 w A n f B n s) (hg : NdS f s) (hr : r = true ↔ orbN f s = 1) :
    Calls Try.prog 71 #[.agg #[.slice A n c, .slice B n d]] w fun e w' => e = .returned (.bool r) ∧ Below w.heap.size w w' := by
  have h12 := hz.small hg.map
  have h1 : 1 ≤ n := by have := hg.map.1.1; have := hz.sz.fl; omega
  have HZ := hide hz
  have HG := hide hg
  have HB0 := hide ((Below.refl _ w).alloc (Nat.le_refl _) (Obj.cells #[Value.slice A n c, Value.slice B n d] 28))
  have HK0 := hide (Blk.new w 28 [.slice A n c, .slice B n d])
  obtain ⟨q, hq⟩ : ∃ q, orbN f s = q := ⟨_, rfl⟩
  rw [hq] at hr
  have hm := orb_max hg
  rw [hq] at hm
  have HM := hide hm
  obtain ⟨m, hm2⟩ : ∃ m, (q : Int) - 1 = m := ⟨_, rfl⟩
  rw [hm2] at HM
  have hr2 : r = true ↔ m = 0 := by rw [hr]; omega
  have HR2 := hide hr2
  clear hz hg hr hq hm hm2 hr2
  go_enter Try.func71, Try.ntmps71
  go_wp2_with fail
  refine (orbZ_any _ n _ f _ _ s _ (HZ.out.later HB0.out) HG.out).mono ?_
  rintro e w1 ⟨g, c1, rfl, hb1, hg1, how⟩
  have HB1 := hide (HB0.out.trans (hb1.mono HB0.out.size))
  have HOW := hide how
  clear hb1 how
  go_wp2_with fail
  refine (max_any _ n _ (orbS f s) m _ (by rw [orbS_length]; exact HZ.out.sz.fl) h1 HZ.out.sz.nb HOW.out.rd HM.out).mono ?_
  rintro e w2 ⟨rfl, hb2⟩
  have HB2 := hide (HB1.out.trans (hb2.mono HB1.out.size))
  clear hb2
  by_cases h0 : m = 0
  · have hrt : r = true := HR2.out.2 h0
    subst hrt
    subst h0
    go_wp2_with fail
    go_ret
    exact ⟨rfl, HB2.out⟩
  · have hrt : r = false := by
      cases r
      · rfl
      · exact absurd (HR2.out.1 rfl) h0
    subst hrt
    have hbeq : (m == 0) = false := by simpa using h0
    go_wp2_with fail
    go_ret
    exact ⟨by simp, HB2.out⟩
end Go.Proofs.Ytaejgmdeiemhcaa
