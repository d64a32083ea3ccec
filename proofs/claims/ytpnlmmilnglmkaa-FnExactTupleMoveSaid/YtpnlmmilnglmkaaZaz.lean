import Derived.Test.YtpnlmmilnglmkaaZat
import Derived.Test.YtpnlmmilnglmkaaZax
import Derived.Test.YtpnlmmilnglmkaaZj
import Derived.Test.YtpnlmmilnglmkaaZam
import Derived.Deep.Cut
namespace Go.Proofs.Ytpnlmmilnglmkaa
open Go Go.RowKit
set_option maxHeartbeats 4000000

set_option maxRecDepth 100000 in
theorem tmI_any (A : Option Addr) (n c : Nat) (f : List (List Int)) (B : Option Addr) (k d : Nat) (s : List (List Int)) (C : Option Addr) (m e : Nat) (xs : List Int) (kk : Int) (zs : List Int) (code : Int) (kz : Nat) (w : World) (hz : ZArg 1048576 w A n f B k s) (hm : xs.length = m) (hb : m ≤ 1048576) (hr : Rd w C xs) (hk0 : -9223372036854775808 ≤ kk) (hk1 : kk ≤ 9223372036854775807) (hres : TmRes f s xs kk zs code) (hkz : zs.length = kz) :
    Calls Try.prog 25 #[.agg #[.slice A n c, .slice B k d], .slice C m e, .int .i64 kk] w fun e w' => ∃ A' c', e = .returned (.tuple #[.slice A' kz c', .int .i64 code]) ∧ Below w.heap.size w w' ∧ Obj1 105 w.heap.size w'.heap.size w' A' zs := by
  have HZ := hide hz
  have HM := hide hm
  have HR := hide hr
  have HKZ := hide hkz
  have HB0 := hide ((Below.refl _ w).alloc (Nat.le_refl _) (Obj.cells #[Value.slice A n c, Value.slice B k d] 30))
  have HK0 := hide (Blk.new w 30 [Value.slice A n c, Value.slice B k d])
  rcases hres with ⟨hg, hmv⟩ | ⟨hg, rfl, rfl⟩
  · have HMV := hide hmv
    have HG := hide hg
    have HP : Hid (PMap f s) := hide hg.1
    obtain rfl := (hz.same hg.1).symm
    have HN := hide hz.sz.fl
    have h12 := (hz.small hg.1).2
    replace HMV : Hid (MvR n (leH f) (leH s) xs kk zs code) := hide (by have h := hmv; rw [hz.sz.fl] at h; exact h)
    have HTF : Hid (IsRes f s true) := hide ⟨fun _ => HG.out, fun _ => rfl⟩
    clear hm hr hkz hg hmv hz
    go_enter Try.func25, Try.ntmps25
    have k0 := HK0.out.cell 0 _ rfl
    have k1 := HK0.out.cell 1 _ rfl
    go_wp2_with fail
    clear k0 k1
    refine (isI_any _ _ _ f _ _ _ s true _ (HZ.out.later HB0.out) HTF.out).mono ?_
    rintro e w1 ⟨rfl, hb1⟩
    have HBc := hide (HB0.out.trans (hb1.mono HB0.out.size))
    have HKc := hide (HK0.out.later hb1)
    clear hb1
    have k0 := HKc.out.cell 0 _ rfl
    have k1 := HKc.out.cell 1 _ rfl
    go_wp2_with fail
    go_region_held3 (fun w' => w'.cell? ⟨w.heap.size, 0, none⟩ = some (.slice A n c) ∧ w'.cell? ⟨w.heap.size, 1, none⟩ = some (.slice B n d)) (first | exact ⟨k0, k1⟩ | go_keep) (first | (go_at_call 68; go_must (refine calls_gen fun wc hwc => ?_; (first | have hbx := drew_below hwc | have hbx := eq_below hwc); replace HBc := hide (HBc.out.trans (hbx.mono HBc.out.size)); replace HKc := hide (HKc.out.later hbx); clear hwc hbx; refine (size_any _ _ _ _ _ _ _ (by omega)).mono ?_; rintro e wd ⟨rfl, hbd⟩; replace HBc := hide (HBc.out.trans (hbd.mono HBc.out.size)); replace HKc := hide (HKc.out.later hbd); clear hbd; have k0 := HKc.out.cell 0 _ rfl; have k1 := HKc.out.cell 1 _ rfl)) | (go_at_call 67; go_must (refine calls_gen fun wc hwc => ?_; (first | have hbx := drew_below hwc | have hbx := eq_below hwc); replace HBc := hide (HBc.out.trans (hbx.mono HBc.out.size)); replace HKc := hide (HKc.out.later hbx); clear hwc hbx; have HLO := hide HBc.out.size; refine (moveOf_any 69 (.agg #[.slice A n c, .slice B n d]) n (leH f) (leH s) C m _ xs kk zs code kz _ (enters_of Try.func69 (by kernel_rfl) rfl) HM.out hb (HR.out.later HBc.out) hk0 hk1 (fun W x y hx hy hbe => lead_any _ _ _ f _ _ _ s x y W (HZ.out.later (HBc.out.trans (hbe.mono HBc.out.size))) HP.out hx hy) HMV.out HKZ.out).mono ?_; rintro e wd ⟨A5, c5, rfl, hbd, ho5⟩; have HO5 := hide (ho5.mono HLO.out (Nat.le_refl _)); clear ho5; replace HBc := hide (HBc.out.trans (hbd.mono HBc.out.size)); replace HKc := hide (HKc.out.later hbd); clear hbd; have k0 := HKc.out.cell 0 _ rfl; have k1 := HKc.out.cell 1 _ rfl)))
    all_goals
      clear k0 k1
      go_wp2_with fail
      go_ret2
      exact ⟨_, _, rfl, HBc.out, HO5.out⟩
  · obtain rfl : kz = 0 := by rw [← hkz]; rfl
    have HG := hide hg
    clear hm hr hkz hg hz
    go_enter Try.func25, Try.ntmps25
    have k0 := HK0.out.cell 0 _ rfl
    have k1 := HK0.out.cell 1 _ rfl
    go_wp2_with fail
    clear k0 k1
    refine (isI_any _ _ _ f _ _ _ s false _ (HZ.out.later HB0.out) ⟨fun h => absurd h (by simp), fun h => absurd h HG.out⟩).mono ?_
    rintro e w1 ⟨rfl, hb1⟩
    have HB1 := hide (HB0.out.trans (hb1.mono HB0.out.size))
    clear hb1
    go_wp2_with fail
    go_ret2
    exact ⟨_, _, rfl, HB1.out, .inl ⟨rfl, rfl⟩⟩
end Go.Proofs.Ytpnlmmilnglmkaa
