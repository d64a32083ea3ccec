import Derived.Test.YtaejgmdeiemhcaaZaz
import Derived.Test.YtaejgmdeiemhcaaZs
import Derived.Test.YtaejgmdeiemhcaaZc
import Derived.Test.YtaejgmdeiemhcaaZf
import Derived.Test.YtaejgmdeiemhcaaZac
import Derived.Deep.Cut
import Derived.Deep.RegionHeld3
namespace Go.Proofs.Ytaejgmdeiemhcaa
open Go Go.RowKit
set_option maxHeartbeats 4000000
set_option maxRecDepth 100000 in
theorem abI (A : Option Addr) (n c : Nat) (f : List (List Int)) (B : Option Addr) (m d : Nat) (s : List (List Int)) (v : Bool) (code : Int) (w : World) (hz : ZArg 1048576 w A n f B m s) (hca : n ≤ c) (_hcb : m ≤ d) (hr : AbRes f s v code) :
    Calls Try.prog 42 #[.agg #[.slice A n c, .slice B m d]] w fun e w' => e = .returned (.tuple #[.bool v, .int .i64 code]) ∧ Below w.heap.size w w' := by
  have HZ := hide hz
  have HB0 := hide ((Below.refl _ w).alloc (Nat.le_refl _) (Obj.cells #[Value.slice A n c, Value.slice B m d] 28))
  have HK0 := hide (Blk.new w 28 [.slice A n c, .slice B m d])
  rcases hr with ⟨hg, hv, rfl⟩ | ⟨hg, rfl, rfl⟩
  · obtain rfl := hz.same hg.map
    have h1 := (hg.sizes hz.sz.fl).1
    have h12 := (hg.sizes hz.sz.fl).2.1
    have HG := hide hg
    have HV := hide hv
    clear hv
    clear hg hz
    go_enter Try.func42, Try.ntmps42
    go_wp2_with fail
    refine (nd7I _ _ _ f _ _ _ s true _ (HZ.out.later HB0.out) (by simp [HG.out])).mono ?_
    rintro e w1 ⟨rfl, hb1⟩
    have HB1 := hide (HB0.out.trans (hb1.mono HB0.out.size))
    have HK1 := hide (HK0.out.later hb1)
    have k0 := HK1.out.cell 0 _ rfl
    have k1 := HK1.out.cell 1 _ rfl
    clear hb1
    go_wp2_with fail
    refine (comI_any _ m _ m f v _ HZ.out.sz.fl (by omega) hca h12 (HG.out.lam HZ.out.sz.fl) (HZ.out.later HB1.out).fst HV.out).mono ?_
    rintro e w2 ⟨rfl, hb2⟩
    have HB2 := hide (HB1.out.trans (hb2.mono HB1.out.size))
    clear hb2 k0 k1
    go_wp2_with fail
    go_ret2
    exact ⟨rfl, HB2.out⟩
  · skip
    have HG := hide hg
    clear hg hz
    go_enter Try.func42, Try.ntmps42
    go_wp2_with fail
    refine (nd7I _ _ _ f _ _ _ s false _ (HZ.out.later HB0.out) (by simp [HG.out])).mono ?_
    rintro e w1 ⟨rfl, hb1⟩
    have HB1 := hide (HB0.out.trans (hb1.mono HB0.out.size))
    clear hb1
    go_wp2_with fail
    go_ret2
    exact ⟨rfl, HB1.out⟩
set_option maxRecDepth 100000 in
theorem abS (A : Option Addr) (n c : Nat) (f : List (List Int)) (B : Option Addr) (m d : Nat) (s : List (List Int)) (v : Bool) (code : Int) (w : World) (hz : ZArg 1048576 w A n f B m s) (hr : AbRes f s v code) :
    Calls Try.prog 41 #[.agg #[.slice A n c, .slice B m d]] w fun e w' => e = .returned (.tuple #[.bool v, .int .i64 code]) ∧ Below w.heap.size w w' := by
  have HZ := hide hz
  have HB0 := hide ((Below.refl _ w).alloc (Nat.le_refl _) (Obj.cells #[Value.slice A n c, Value.slice B m d] 28))
  have HK0 := hide (Blk.new w 28 [.slice A n c, .slice B m d])
  rcases hr with ⟨hg, hv, rfl⟩ | ⟨hg, rfl, rfl⟩
  · obtain rfl := hz.same hg.map
    have h1 := (hg.sizes hz.sz.fl).1
    have h12 := (hg.sizes hz.sz.fl).2.1
    have HG := hide hg
    have HV := hide hv
    clear hv
    clear hg hz
    go_enter Try.func41, Try.ntmps41
    go_wp2_with fail
    refine (nd7S _ _ _ f _ _ _ s true _ (HZ.out.later HB0.out) (by simp [HG.out])).mono ?_
    rintro e w1 ⟨rfl, hb1⟩
    have HB1 := hide (HB0.out.trans (hb1.mono HB0.out.size))
    have HK1 := hide (HK0.out.later hb1)
    have k0 := HK1.out.cell 0 _ rfl
    have k1 := HK1.out.cell 1 _ rfl
    clear hb1
    have HBW := HB1
    have HKW := HK1
    obtain ⟨b, o, rfl, hbw, hc⟩ := HZ.out.fst (by have := HZ.out.sz.fl; omega)
    have HCC := hide hc
    clear hc k0 k1 HB1 HK1
    go_wp2_with fail
    go_loopw [4] (fun i wr => ∃ k : Nat, k ≤ m ∧ i = .int .i64 k ∧ Below w.heap.size w wr ∧ Blk wr w.heap.size 28 [.slice (some ⟨b, o, none⟩) m c, .slice B m d] ∧ ComTo f k 0) (fun i _ => m - (intOf i).toNat)
    case atStart => exact ⟨0, Nat.zero_le _, rfl, HBW.out, HKW.out, ComTo.start f⟩
    case round =>
      clear HBW HKW
      obtain ⟨i, hi, rfl, hbe, hkk, hco⟩ := hrel
      have HB := hide hbe
      have HK := hide hkk
      have HC := hide hco
      clear hbe hkk hco
      by_cases hlt : i < m
      · have hltz : (i : Int) < m := by omega
        have hil : i < f.length := by have := HZ.out.sz.fl; omega
        obtain ⟨Ai, ci, hcell, hrd⟩ := HCC.out i hil
        have hrow := HG.out.lam HZ.out.sz.fl i hil
        rw [hrow.1] at hcell
        have HCI := hide hcell
        obtain ⟨p, hpe⟩ : ∃ p, f.getD i [] = p := ⟨_, rfl⟩
        rw [hpe] at hrow hrd
        have HPE := hide hpe
        have HP := hide hrow
        have HRP := hide hrd
        have hinp : ∀ x ∈ p, 0 ≤ x ∧ x < (m : Int) := by have h := hrow.2.2.2.1; rw [hrow.1] at h; exact h
        have HINP := hide hinp
        have k0 := HK.out.cell 0 _ rfl
        clear hcell hrd hrow hpe hinp
        go_wp2_with fail
        clear k0
        go_loopw [5] (fun j wr2 => ∃ k : Nat, k ≤ i ∧ j = .int .i64 k ∧ Below w.heap.size w wr2 ∧ Blk wr2 w.heap.size 28 [.slice (some ⟨b, o, none⟩) m c, .slice B m d] ∧ ComTo f i k) (fun j _ => i - (intOf j).toNat)
        case atStart => exact ⟨0, Nat.zero_le _, rfl, HB.out, HK.out, HC.out⟩
        case round =>
          clear HB HK HC
          obtain ⟨j, hj, rfl, hbe, hkk, hco⟩ := hrel
          have HBc := hide hbe
          have HKc := hide hkk
          have HC := hide hco
          clear hbe hkk hco
          by_cases hlt2 : j < i
          · have hltz2 : (j : Int) < i := by omega
            have hjm : (j : Int) < m := by omega
            have hjl : j < f.length := by omega
            obtain ⟨Aj, cj, hcellj, hrdj⟩ := HCC.out j hjl
            have hrowj := HG.out.lam HZ.out.sz.fl j hjl
            rw [hrowj.1] at hcellj
            have HCJ := hide hcellj
            obtain ⟨u, hue⟩ : ∃ u, f.getD j [] = u := ⟨_, rfl⟩
            rw [hue] at hrowj hrdj
            have HUE := hide hue
            have HU := hide hrowj
            have HRU := hide hrdj
            have hinu : ∀ x ∈ u, 0 ≤ x ∧ x < (m : Int) := by have h := hrowj.2.2.2.1; rw [hrowj.1] at h; exact h
            have HINU := hide hinu
            clear hcellj hrdj hrowj hue hinu
            have tok0 : True := trivial
            go_upto_region 9 with fail
            have k0 := HKc.out.cell 0 _ rfl
            have ci' := (HBc.out.cell (p := ⟨b, o + i, none⟩) hbw).trans HCI.out
            have cj' := (HBc.out.cell (p := ⟨b, o + j, none⟩) hbw).trans HCJ.out
            by_cases heq : thenL p u = thenL u p
            · have HE := hide heq
              clear heq
              go_region_held3 (fun w' => w'.cell? ⟨w.heap.size, 0, none⟩ = some (.slice (some ⟨b, o, none⟩) m c) ∧ w'.cell? ⟨b, o + i, none⟩ = some (.slice Ai m ci) ∧ w'.cell? ⟨b, o + j, none⟩ = some (.slice Aj m cj)) (first | exact ⟨k0, ci', cj'⟩ | go_keep) (first | (go_at_call 73; have _t := tok0; clear _t tok0; go_must (refine calls_gen fun wc hwc => ?_; (first | have hbx := drew_below hwc | have hbx := eq_below hwc); replace HBc := hide (HBc.out.trans (hbx.mono HBc.out.size)); replace HKc := hide (HKc.out.later hbx); clear hwc hbx; refine (l01Then_any _ _ m _ m _ p u _ HP.out.1 HU.out.1 (by omega) (by omega) (HRP.out.later HBc.out) (HRU.out.later HBc.out) HINP.out).mono ?_; rintro e wd ⟨A2, c2, rfl, hbd, hr2⟩; replace HBc := hide (HBc.out.trans (hbd.mono HBc.out.size)); replace HKc := hide (HKc.out.later hbd); clear hbd; have HR2 := hide hr2.obj; clear hr2; have k0 := HKc.out.cell 0 _ rfl; have ci' := (HBc.out.cell (p := ⟨b, o + i, none⟩) hbw).trans HCI.out; have cj' := (HBc.out.cell (p := ⟨b, o + j, none⟩) hbw).trans HCJ.out)) | (go_at_call 73; go_must (refine calls_gen fun wc hwc => ?_; (first | have hbx := drew_below hwc | have hbx := eq_below hwc); replace HBc := hide (HBc.out.trans (hbx.mono HBc.out.size)); replace HKc := hide (HKc.out.later hbx); replace HR2 := hide (HR2.out.later hbx); clear hwc hbx; refine (l01Then_any _ _ m _ m _ u p _ HU.out.1 HP.out.1 (by omega) (by omega) (HRU.out.later HBc.out) (HRP.out.later HBc.out) HINU.out).mono ?_; rintro e wd ⟨A3, c3, rfl, hbd, hr3⟩; replace HBc := hide (HBc.out.trans (hbd.mono HBc.out.size)); replace HKc := hide (HKc.out.later hbd); replace HR2 := hide (HR2.out.later hbd); clear hbd; have HR3 := hide hr3.obj; clear hr3; have k0 := HKc.out.cell 0 _ rfl; have ci' := (HBc.out.cell (p := ⟨b, o + i, none⟩) hbw).trans HCI.out; have cj' := (HBc.out.cell (p := ⟨b, o + j, none⟩) hbw).trans HCJ.out)) | (go_at_call 72; go_must (refine calls_gen fun wc hwc => ?_; (first | have hbx := drew_below hwc | have hbx := eq_below hwc); replace HBc := hide (HBc.out.trans (hbx.mono HBc.out.size)); replace HKc := hide (HKc.out.later hbx); replace HR2 := hide (HR2.out.later hbx); replace HR3 := hide (HR3.out.later hbx); clear hwc hbx; refine (same_any _ _ _ _ _ _ (thenL p u) (thenL u p) true _ (by rw [thenL_length]; exact HP.out.1) (by rw [thenL_length]; exact HU.out.1) (by omega) (by omega) HR2.out.rd HR3.out.rd (by simp [HE.out])).mono ?_; rintro e wd ⟨rfl, hqd⟩; have hbd := hqd.below wc.heap.size; clear hqd; replace HBc := hide (HBc.out.trans (hbd.mono HBc.out.size)); replace HKc := hide (HKc.out.later hbd); replace HR2 := hide (HR2.out.later hbd); replace HR3 := hide (HR3.out.later hbd); clear hbd; have k0 := HKc.out.cell 0 _ rfl; have ci' := (HBc.out.cell (p := ⟨b, o + i, none⟩) hbw).trans HCI.out; have cj' := (HBc.out.cell (p := ⟨b, o + j, none⟩) hbw).trans HCJ.out)))
              clear k0 ci' cj'
              go_wp2_with fail
              go_roundw
              case rel => exact ⟨j + 1, by omega, by go_num, HBc.out, HKc.out, HC.out.step (by rw [HPE.out, HUE.out]; exact HE.out)⟩
              case measure => simp [intOf]; omega
            · have HE := hide heq
              clear heq
              have hrf : v = false := by
                cases v
                · rfl
                · have h := HV.out.1 rfl i hil j (by omega)
                  rw [HPE.out, HUE.out] at h
                  exact absurd h HE.out
              subst hrf
              go_region_held3 (fun w' => w'.cell? ⟨w.heap.size, 0, none⟩ = some (.slice (some ⟨b, o, none⟩) m c) ∧ w'.cell? ⟨b, o + i, none⟩ = some (.slice Ai m ci) ∧ w'.cell? ⟨b, o + j, none⟩ = some (.slice Aj m cj)) (first | exact ⟨k0, ci', cj'⟩ | go_keep) (first | (go_at_call 73; have _t := tok0; clear _t tok0; go_must (refine calls_gen fun wc hwc => ?_; (first | have hbx := drew_below hwc | have hbx := eq_below hwc); replace HBc := hide (HBc.out.trans (hbx.mono HBc.out.size)); replace HKc := hide (HKc.out.later hbx); clear hwc hbx; refine (l01Then_any _ _ m _ m _ p u _ HP.out.1 HU.out.1 (by omega) (by omega) (HRP.out.later HBc.out) (HRU.out.later HBc.out) HINP.out).mono ?_; rintro e wd ⟨A2, c2, rfl, hbd, hr2⟩; replace HBc := hide (HBc.out.trans (hbd.mono HBc.out.size)); replace HKc := hide (HKc.out.later hbd); clear hbd; have HR2 := hide hr2.obj; clear hr2; have k0 := HKc.out.cell 0 _ rfl; have ci' := (HBc.out.cell (p := ⟨b, o + i, none⟩) hbw).trans HCI.out; have cj' := (HBc.out.cell (p := ⟨b, o + j, none⟩) hbw).trans HCJ.out)) | (go_at_call 73; go_must (refine calls_gen fun wc hwc => ?_; (first | have hbx := drew_below hwc | have hbx := eq_below hwc); replace HBc := hide (HBc.out.trans (hbx.mono HBc.out.size)); replace HKc := hide (HKc.out.later hbx); replace HR2 := hide (HR2.out.later hbx); clear hwc hbx; refine (l01Then_any _ _ m _ m _ u p _ HU.out.1 HP.out.1 (by omega) (by omega) (HRU.out.later HBc.out) (HRP.out.later HBc.out) HINU.out).mono ?_; rintro e wd ⟨A3, c3, rfl, hbd, hr3⟩; replace HBc := hide (HBc.out.trans (hbd.mono HBc.out.size)); replace HKc := hide (HKc.out.later hbd); replace HR2 := hide (HR2.out.later hbd); clear hbd; have HR3 := hide hr3.obj; clear hr3; have k0 := HKc.out.cell 0 _ rfl; have ci' := (HBc.out.cell (p := ⟨b, o + i, none⟩) hbw).trans HCI.out; have cj' := (HBc.out.cell (p := ⟨b, o + j, none⟩) hbw).trans HCJ.out)) | (go_at_call 72; go_must (refine calls_gen fun wc hwc => ?_; (first | have hbx := drew_below hwc | have hbx := eq_below hwc); replace HBc := hide (HBc.out.trans (hbx.mono HBc.out.size)); replace HKc := hide (HKc.out.later hbx); replace HR2 := hide (HR2.out.later hbx); replace HR3 := hide (HR3.out.later hbx); clear hwc hbx; refine (same_any _ _ _ _ _ _ (thenL p u) (thenL u p) false _ (by rw [thenL_length]; exact HP.out.1) (by rw [thenL_length]; exact HU.out.1) (by omega) (by omega) HR2.out.rd HR3.out.rd (by simp [HE.out])).mono ?_; rintro e wd ⟨rfl, hqd⟩; have hbd := hqd.below wc.heap.size; clear hqd; replace HBc := hide (HBc.out.trans (hbd.mono HBc.out.size)); replace HKc := hide (HKc.out.later hbd); replace HR2 := hide (HR2.out.later hbd); replace HR3 := hide (HR3.out.later hbd); clear hbd; have k0 := HKc.out.cell 0 _ rfl; have ci' := (HBc.out.cell (p := ⟨b, o + i, none⟩) hbw).trans HCI.out; have cj' := (HBc.out.cell (p := ⟨b, o + j, none⟩) hbw).trans HCJ.out)))
              clear k0 ci' cj'
              go_wp2_with fail
              go_ret2
              exact ⟨rfl, HBc.out⟩
          · have hji : j = i := by omega
            subst hji
            go_wp2_with fail
            go_roundw
            case rel => exact ⟨j + 1, by omega, by go_num, HBc.out, HKc.out, HC.out.next⟩
            case measure => simp [intOf]; omega
      · have hin : i = m := by omega
        subst hin
        have hvt : v = true := HV.out.2 (by have h := HC.out; rw [← HZ.out.sz.fl] at h; exact h.fin)
        subst hvt
        have k0 := HK.out.cell 0 _ rfl
        go_wp2_with fail
        clear k0
        go_ret2
        exact ⟨rfl, HB.out⟩
  · skip
    have HG := hide hg
    clear hg hz
    go_enter Try.func41, Try.ntmps41
    go_wp2_with fail
    refine (nd7S _ _ _ f _ _ _ s false _ (HZ.out.later HB0.out) (by simp [HG.out])).mono ?_
    rintro e w1 ⟨rfl, hb1⟩
    have HB1 := hide (HB0.out.trans (hb1.mono HB0.out.size))
    clear hb1
    go_wp2_with fail
    go_ret2
    exact ⟨rfl, HB1.out⟩
end Go.Proofs.Ytaejgmdeiemhcaa
