import Derived.Test.YtaejgmdeiemhcaaZs
import Derived.Test.YtaejgmdeiemhcaaZap
import Derived.Test.YtaejgmdeiemhcaaZai
import Derived.Test.YtaejgmdeiemhcaaZaf
import Derived.Test.YtaejgmdeiemhcaaZak
import Derived.Test.YtaejgmdeiemhcaaZan
import Derived.Deep.Cut
import Derived.Deep.RegionHeld3
namespace Go.Proofs.Ytaejgmdeiemhcaa
open Go Go.RowKit
set_option maxHeartbeats 2000000
theorem oswI (A : Option Addr) (n c : Nat) (f : List (List Int)) (B : Option Addr) (m d : Nat) (s : List (List Int)) (zs : List Int) (code : Int) (kz : Nat) (w : World) (hz : ZArg 1048576 w A n f B m s) (hr : OsRes7 f s zs code) (hk : zs.length = kz) :
    Calls Try.prog 35 #[.agg #[.slice A n c, .slice B m d]] w (RPost 2 kz zs code w) := by
  have HZ := hide hz
  have HB0 := hide ((Below.refl _ w).alloc (Nat.le_refl _) (Obj.cells #[Value.slice A n c, Value.slice B m d] 28))
  have HK0 := hide (Blk.new w 28 [.slice A n c, .slice B m d])
  rcases hr with ⟨hg, hzs, rfl⟩ | ⟨hg, rfl, rfl⟩
  · obtain rfl := hz.same hg.map
    have h1 := (hg.sizes hz.sz.fl).1
    have h12 := (hg.sizes hz.sz.fl).2.1
    have HG := hide hg
    obtain rfl : m = kz := by rw [← hk, hzs, orbS_length]; exact hz.sz.fl.symm
    have hzs := hzs.symm
    subst hzs
    clear hk
    clear hg hz
    go_enter Try.func35, Try.ntmps35
    go_wp2_with fail
    refine (nd7I _ _ _ f _ _ _ s true _ (HZ.out.later HB0.out) (by simp [HG.out])).mono ?_
    rintro e w1 ⟨rfl, hb1⟩
    have HB1 := hide (HB0.out.trans (hb1.mono HB0.out.size))
    have HK1 := hide (HK0.out.later hb1)
    have k0 := HK1.out.cell 0 _ rfl
    have k1 := HK1.out.cell 1 _ rfl
    clear hb1
    go_wp2_with fail
    refine (orbZ_any _ _ _ f _ _ s _ (HZ.out.later HB1.out) HG.out).mono ?_
    rintro e w2 ⟨g2, c2, rfl, hb2, hg2, hobj⟩
    have HB2 := hide (HB1.out.trans (hb2.mono HB1.out.size))
    have HO2 := hide (show Res 2 w.heap.size w2 (some ⟨g2, 0, none⟩) (orbS f s) from .inr ⟨g2, rfl, Nat.le_trans HB1.out.size hg2, hobj⟩)
    clear hb2 hobj k0 k1
    go_wp2_with fail
    go_ret2
    exact ⟨_, _, rfl, HB2.out, HO2.out⟩
  · skip
    obtain rfl : kz = 0 := by simpa using hk.symm
    have HG := hide hg
    clear hg hz
    go_enter Try.func35, Try.ntmps35
    go_wp2_with fail
    refine (nd7I _ _ _ f _ _ _ s false _ (HZ.out.later HB0.out) (by simp [HG.out])).mono ?_
    rintro e w1 ⟨rfl, hb1⟩
    have HB1 := hide (HB0.out.trans (hb1.mono HB0.out.size))
    clear hb1
    go_wp2_with fail
    go_ret2
    exact ⟨_, _, rfl, HB1.out, .inl ⟨rfl, rfl⟩⟩
theorem indI (A : Option Addr) (n c : Nat) (f : List (List Int)) (B : Option Addr) (m d : Nat) (s : List (List Int)) (v : Bool) (code : Int) (w : World) (hz : ZArg 1048576 w A n f B m s) (hr : IndRes f s v code) :
    Calls Try.prog 40 #[.agg #[.slice A n c, .slice B m d]] w fun e w' => e = .returned (.tuple #[.bool v, .int .i64 code]) ∧ Below w.heap.size w w' := by
  have HZ := hide hz
  have HB0 := hide ((Below.refl _ w).alloc (Nat.le_refl _) (Obj.cells #[Value.slice A n c, Value.slice B m d] 28))
  have HK0 := hide (Blk.new w 28 [.slice A n c, .slice B m d])
  rcases hr with ⟨hg, hv, rfl⟩ | ⟨hg, rfl, rfl⟩
  · obtain rfl := hz.same hg.map
    have h1 := (hg.sizes hz.sz.fl).1
    have h12 := (hg.sizes hz.sz.fl).2.1
    have HG := hide hg
    have HV := hide hv
    clear hv
    clear hg hz
    go_enter Try.func40, Try.ntmps40
    go_wp2_with fail
    refine (nd7I _ _ _ f _ _ _ s true _ (HZ.out.later HB0.out) (by simp [HG.out])).mono ?_
    rintro e w1 ⟨rfl, hb1⟩
    have HB1 := hide (HB0.out.trans (hb1.mono HB0.out.size))
    have HK1 := hide (HK0.out.later hb1)
    have k0 := HK1.out.cell 0 _ rfl
    have k1 := HK1.out.cell 1 _ rfl
    clear hb1
    go_wp2_with fail
    refine (indZ_any _ _ _ f _ _ s v _ (HZ.out.later HB1.out) HG.out HV.out).mono ?_
    rintro e w2 ⟨rfl, hb2⟩
    have HB2 := hide (HB1.out.trans (hb2.mono HB1.out.size))
    clear hb2 k0 k1
    go_wp2_with fail
    go_ret2
    exact ⟨rfl, HB2.out⟩
  · skip
    have HG := hide hg
    clear hg hz
    go_enter Try.func40, Try.ntmps40
    go_wp2_with fail
    refine (nd7I _ _ _ f _ _ _ s false _ (HZ.out.later HB0.out) (by simp [HG.out])).mono ?_
    rintro e w1 ⟨rfl, hb1⟩
    have HB1 := hide (HB0.out.trans (hb1.mono HB0.out.size))
    clear hb1
    go_wp2_with fail
    go_ret2
    exact ⟨rfl, HB1.out⟩
end Go.Proofs.Ytaejgmdeiemhcaa
namespace Go.Proofs.Ytaejgmdeiemhcaa
open Go Go.RowKit
set_option maxHeartbeats 2000000
set_option maxRecDepth 100000 in
theorem orbS_any (A : Option Addr) (n c : Nat) (f : List (List Int)) (B : Option Addr) (d : Nat) (s : List (List Int)) (w : World) (hz : ZArg 1048576 w A n f B n s) (hg : NdS f s) :
    Calls Try.prog 67 #[.agg #[.slice A n c, .slice B n d]] w fun e w' => ∃ A' c', e = .returned (.slice A' n c') ∧ Below w.heap.size w w' ∧ Res 2 w.heap.size w' A' (orbS f s) := by
  have h12 := hz.small hg.map
  have h1 : 1 ≤ n := by have := hg.map.1.1; have := hz.sz.fl; omega
  have HZ := hide hz
  have HG := hide hg
  have HBc := hide ((Below.refl _ w).alloc (Nat.le_refl _) (Obj.cells #[Value.slice A n c, Value.slice B n d] 28))
  have HKc := hide (Blk.new w 28 [.slice A n c, .slice B n d])
  clear hz hg
  go_enter Try.func67, Try.ntmps67
  go_upto_region 1 with fail
  refine wp_gen fun w0 hw0 => ?_
  have HB0 := hide (show Below w.heap.size w w0 by rw [hw0]; exact HBc.out)
  replace HKc := hide (show Blk w0 w.heap.size 28 [.slice A n c, .slice B n d] by rw [hw0]; exact HKc.out)
  clear hw0 HBc
  have HBc := HB0
  clear HB0
  have k0 := HKc.out.cell 0 _ rfl
  have k1 := HKc.out.cell 1 _ rfl
  go_region_held3 (fun w' => w'.cell? ⟨w.heap.size, 0, none⟩ = some (.slice A n c) ∧ w'.cell? ⟨w.heap.size, 1, none⟩ = some (.slice B n d)) (first | exact ⟨k0, k1⟩ | go_keep) (first | (go_at_call 65; go_must (refine calls_gen fun wc hwc => ?_; (first | have hbx := drew_below hwc | have hbx := eq_below hwc); replace HBc := hide (HBc.out.trans (hbx.mono HBc.out.size)); replace HKc := hide (HKc.out.later hbx); clear hwc hbx; refine (bothS_any _ n _ f _ _ s _ (HZ.out.later HBc.out) HG.out.map).mono ?_; rintro e wd ⟨A2, c2, rfl, hbd, hrd⟩; replace HBc := hide (HBc.out.trans (hbd.mono HBc.out.size)); replace HKc := hide (HKc.out.later hbd); clear hbd; have k0 := HKc.out.cell 0 _ rfl; have k1 := HKc.out.cell 1 _ rfl; have HRD := hide hrd; clear hrd)) | (go_at_call 97; go_must (refine calls_gen fun wc hwc => ?_; (first | have hbx := drew_below hwc | have hbx := eq_below hwc); replace HBc := hide (HBc.out.trans (hbx.mono HBc.out.size)); replace HKc := hide (HKc.out.later hbx); replace HRD := hide (HRD.out.later hbx); clear hwc hbx; have HLO := hide HBc.out.size; refine (l01Orbits_any _ (n + n) _ n (bothL f s) _ (bothL_length HZ.out.sz.fl HZ.out.sz.sl) (by omega) h1 h12.2 (HG.out.both HZ.out.sz.fl) HRD.out).mono ?_; rintro e wd ⟨A3, c3, rfl, hbd, hres⟩; replace HBc := hide (HBc.out.trans (hbd.mono HBc.out.size)); replace HKc := hide (HKc.out.later hbd); clear hbd; have k0 := HKc.out.cell 0 _ rfl; have k1 := HKc.out.cell 1 _ rfl; have HRS := hide (hres.mono HLO.out); clear hres)))
  clear k0 k1
  go_wp2_with fail
  go_ret
  refine ⟨_, _, rfl, HBc.out, ?_⟩
  unfold orbS
  rw [HZ.out.sz.fl]
  exact HRS.out
/-- One more than the greatest number of an orbit. -/
theorem orb_great {f s : List (List Int)} {n : Nat} (hg : NdS f s) (hn : f.length = n) : gI (orbS f s) n = (orbN f s : Int) := by
  subst hn
  exact gI_lab (bothL f s) f.length (hg.both rfl)
theorem orb_12 {f s : List (List Int)} {n : Nat} (hg : NdS f s) (hn : f.length = n) : ∀ j, j < n → (orbS f s).getD j 0 ≤ 12 := by
  subst hn
  intro j hj
  have h1 := (orb_rng hg j hj).2
  have h2 := @orb_le f s
  have h3 := (hg.sizes rfl).2.1
  omega
theorem oswS (A : Option Addr) (n c : Nat) (f : List (List Int)) (B : Option Addr) (m d : Nat) (s : List (List Int)) (zs : List Int) (code : Int) (kz : Nat) (w : World) (hz : ZArg 1048576 w A n f B m s) (hr : OsRes7 f s zs code) (hk : zs.length = kz) :
    Calls Try.prog 34 #[.agg #[.slice A n c, .slice B m d]] w (RPost 2 kz zs code w) := by
  have HZ := hide hz
  have HB0 := hide ((Below.refl _ w).alloc (Nat.le_refl _) (Obj.cells #[Value.slice A n c, Value.slice B m d] 28))
  have HK0 := hide (Blk.new w 28 [.slice A n c, .slice B m d])
  rcases hr with ⟨hg, hzs, rfl⟩ | ⟨hg, rfl, rfl⟩
  · obtain rfl := hz.same hg.map
    have h1 := (hg.sizes hz.sz.fl).1
    have h12 := (hg.sizes hz.sz.fl).2.1
    have HG := hide hg
    obtain rfl : m = kz := by rw [← hk, hzs, orbS_length]; exact hz.sz.fl.symm
    have hzs := hzs.symm
    subst hzs
    clear hk
    clear hg hz
    go_enter Try.func34, Try.ntmps34
    go_wp2_with fail
    refine (nd7S _ _ _ f _ _ _ s true _ (HZ.out.later HB0.out) (by simp [HG.out])).mono ?_
    rintro e w1 ⟨rfl, hb1⟩
    have HB1 := hide (HB0.out.trans (hb1.mono HB0.out.size))
    have HK1 := hide (HK0.out.later hb1)
    have k0 := HK1.out.cell 0 _ rfl
    have k1 := HK1.out.cell 1 _ rfl
    clear hb1
    go_wp2_with fail
    refine (orbS_any _ _ _ f _ _ s _ (HZ.out.later HB1.out) HG.out).mono ?_
    rintro e w2 ⟨A2, c2, rfl, hb2, hobj⟩
    have HB2 := hide (HB1.out.trans (hb2.mono HB1.out.size))
    have HO2 := hide (hobj.mono HB1.out.size)
    clear hb2 hobj k0 k1
    go_wp2_with fail
    go_ret2
    exact ⟨_, _, rfl, HB2.out, HO2.out⟩
  · skip
    obtain rfl : kz = 0 := by simpa using hk.symm
    have HG := hide hg
    clear hg hz
    go_enter Try.func34, Try.ntmps34
    go_wp2_with fail
    refine (nd7S _ _ _ f _ _ _ s false _ (HZ.out.later HB0.out) (by simp [HG.out])).mono ?_
    rintro e w1 ⟨rfl, hb1⟩
    have HB1 := hide (HB0.out.trans (hb1.mono HB0.out.size))
    clear hb1
    go_wp2_with fail
    go_ret2
    exact ⟨_, _, rfl, HB1.out, .inl ⟨rfl, rfl⟩⟩
theorem indS (A : Option Addr) (n c : Nat) (f : List (List Int)) (B : Option Addr) (m d : Nat) (s : List (List Int)) (v : Bool) (code : Int) (w : World) (hz : ZArg 1048576 w A n f B m s) (hr : IndRes f s v code) :
    Calls Try.prog 39 #[.agg #[.slice A n c, .slice B m d]] w fun e w' => e = .returned (.tuple #[.bool v, .int .i64 code]) ∧ Below w.heap.size w w' := by
  have HZ := hide hz
  have HB0 := hide ((Below.refl _ w).alloc (Nat.le_refl _) (Obj.cells #[Value.slice A n c, Value.slice B m d] 28))
  have HK0 := hide (Blk.new w 28 [.slice A n c, .slice B m d])
  rcases hr with ⟨hg, hv, rfl⟩ | ⟨hg, rfl, rfl⟩
  · obtain rfl := hz.same hg.map
    have h1 := (hg.sizes hz.sz.fl).1
    have h12 := (hg.sizes hz.sz.fl).2.1
    have HG := hide hg
    have HV := hide hv
    clear hv
    clear hg hz
    go_enter Try.func39, Try.ntmps39
    go_wp2_with fail
    refine (nd7S _ _ _ f _ _ _ s true _ (HZ.out.later HB0.out) (by simp [HG.out])).mono ?_
    rintro e w1 ⟨rfl, hb1⟩
    have HB1 := hide (HB0.out.trans (hb1.mono HB0.out.size))
    have HK1 := hide (HK0.out.later hb1)
    have k0 := HK1.out.cell 0 _ rfl
    have k1 := HK1.out.cell 1 _ rfl
    clear hb1
    go_wp2_with fail
    refine (orbS_any _ _ _ f _ _ s _ (HZ.out.later HB1.out) HG.out).mono ?_
    rintro e w2 ⟨A2, c2, rfl, hb2, hobj⟩
    have HB2 := hide (HB1.out.trans (hb2.mono HB1.out.size))
    have HO2 := hide hobj
    clear hb2 hobj k0 k1
    go_wp2_with fail
    refine (greatest_any _ _ _ (orbS f s) (orbN f s : Int) _ (by rw [orbS_length]; exact HZ.out.sz.fl) (by omega) HO2.out.rd (orb_12 HG.out HZ.out.sz.fl) (orb_great HG.out HZ.out.sz.fl)).mono ?_
    rintro e w3 ⟨rfl, hq3⟩
    have HB3 := hide (HB2.out.trans (hq3.below _))
    obtain ⟨q, hq⟩ : ∃ q, orbN f s = q := ⟨_, rfl⟩
    rw [hq]
    have hv2 : v = true ↔ q = 1 := by rw [← hq]; exact HV.out
    have HV2 := hide hv2
    clear hq3 hq hv2
    by_cases h0 : q = 1
    · have hrt : v = true := HV2.out.2 h0
      subst hrt
      subst h0
      go_wp2_with fail
      go_ret2
      exact ⟨rfl, HB3.out⟩
    · have hrt : v = false := by
        cases v
        · rfl
        · exact absurd (HV2.out.1 rfl) h0
      subst hrt
      have hbeq : ((q : Int) == 1) = false := by simpa using (by omega : ¬ (q : Int) = 1)
      go_wp2_with fail
      go_ret2
      exact ⟨by simp, HB3.out⟩
  · skip
    have HG := hide hg
    clear hg hz
    go_enter Try.func39, Try.ntmps39
    go_wp2_with fail
    refine (nd7S _ _ _ f _ _ _ s false _ (HZ.out.later HB0.out) (by simp [HG.out])).mono ?_
    rintro e w1 ⟨rfl, hb1⟩
    have HB1 := hide (HB0.out.trans (hb1.mono HB0.out.size))
    clear hb1
    go_wp2_with fail
    go_ret2
    exact ⟨rfl, HB1.out⟩
end Go.Proofs.Ytaejgmdeiemhcaa
