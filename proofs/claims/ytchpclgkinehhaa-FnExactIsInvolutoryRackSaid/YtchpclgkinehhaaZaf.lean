import Derived.Test.YtchpclgkinehhaaZv
import Derived.Test.YtchpclgkinehhaaZy
import Derived.Test.YtchpclgkinehhaaZi
namespace Go.Proofs.Ytchpclgkinehhaa
open Go Go.RowKit
set_option maxHeartbeats 2000000

set_option maxRecDepth 100000 in
theorem jwInvolutoryRackS (A : Option Addr) (n c : Nat) (f : List (List Int)) (r : Bool) (code : Int) (w : World) (hn : f.length = n) (hb : n ≤ 1048576) (hbs : ∀ i, i < f.length → (f.getD i []).length ≤ 1048576) (hr : Rd2 w A f) (hres : IvRes f r code) :
    Calls Try.prog 37 #[.agg #[.slice A n c]] w fun e w' => e = .returned (.tuple #[.bool r, .int .i64 code]) ∧ Below w.heap.size w w' := by
  have HN := hide hn
  have HBS := hide hbs
  have HRD := hide hr
  have HB0 := hide ((Below.refl _ w).alloc (Nat.le_refl _) (Obj.cells #[Value.slice A n c] 27))
  have HK0 := hide (Blk.new w 27 [.slice A n c])
  rcases hres with ⟨hp, hrc, rfl⟩ | ⟨hp, rfl, rfl⟩
  · have HTB := hide hp.tbl
    have HPM := hide hp.prm
    have h1 : 1 ≤ n := by rw [← hn]; exact hp.tbl.1
    have h12 : n ≤ 12 := by rw [← hn]; exact hp.tbl.2.1
    have HRC := hide hrc
    clear hrc
    have HRK : Hid (RkRes f true) := hide (by unfold RkRes; simp [hp])
    have HP := hide hp
    clear hn hbs hr hp
    go_enter Try.func37, Try.ntmps37
    go_wp2_with fail
    refine (isRackS _ _ _ f true _ HN.out hb HBS.out (HRD.out.later HB0.out) HRK.out).mono ?_
    rintro e w1 ⟨rfl, hb1⟩
    have HB1 := hide (HB0.out.trans (hb1.mono HB0.out.size))
    have HK1 := hide (HK0.out.later hb1)
    clear hb1
    obtain ⟨b, o, hA, hbw, hc⟩ := HTB.out.cells HRD.out HN.out
    subst hA
    have HC := hide hc
    clear hc
    go_wp2_with fail
    go_loopw [4] (fun i wr => ∃ k : Nat, k ≤ n ∧ i = .int .i64 k ∧ Below w.heap.size w wr ∧ Blk wr w.heap.size 27 [.slice (some ⟨b, o, none⟩) n c] ∧ ∀ x, x < k → ∀ y, y < n → ap f x (ap f x y) = y) (fun i _ => n - (intOf i).toNat)
    case atStart => exact ⟨0, Nat.zero_le _, rfl, HB1.out, HK1.out, fun i hi => absurd hi (Nat.not_lt_zero _)⟩
    case round =>
      obtain ⟨k, hk, rfl, hbe, hkk, hall⟩ := hrel
      have HBc := hide hbe
      have HKc := hide hkk
      have HALL := hide hall
      clear hbe hkk hall
      have k0 := HKc.out.cell 0 _ rfl
      by_cases hlt : k < n
      · obtain ⟨bx, ox, cx, r1, r2, _⟩ := HC.out k hlt
        have R1 := hide r1
        replace r1 := (HBc.out.cell (p := ⟨b, o + k, none⟩) hbw).trans r1
        have HRR : Hid (Rd w (some ⟨bx, ox, none⟩) (f.getD k [])) := hide (by
          obtain ⟨b', o', hbo, _, hcc⟩ := HRD.out (by have := HN.out; omega)
          obtain ⟨Ak, ck, hcell, hrd⟩ := hcc k (by have := HN.out; omega)
          injection hbo with hbo
          injection hbo with e1 e2
          subst e1; subst e2
          have h9 := hcell.symm.trans R1.out
          simp at h9
          rw [← h9.1]
          exact hrd)
        have HRL : Hid ((f.getD k []).length = n) := hide (HTB.out.row_len HN.out hlt)
        have HIN : Hid (∀ x ∈ f.getD k [], 0 ≤ x ∧ x < (n : Int)) := hide (by have h := (HPM.out k (by have := HN.out; omega)).2.2.1; rw [HRL.out] at h; exact h)
        have HIV := hide (iv_row HTB.out HPM.out HN.out hlt)
        have hltz : (k : Int) < n := by omega
        go_wp2_with fail
        by_cases hcs : f.getD k [] = backTo (f.getD k []) n
        · have HYES := hide (HIV.out.1 hcs)
          have HCS := hide hcs
          clear hcs
          go_region_held3 (fun w' => w'.cell? ⟨w.heap.size, 0, none⟩ = some (.slice (some ⟨b, o, none⟩) n c) ∧ w'.cell? ⟨b, o + k, none⟩ = some (.slice (some ⟨bx, ox, none⟩) n cx)) (first | exact ⟨k0, r1⟩ | go_keep) (first | (go_at_call 74; go_must (refine calls_gen fun wc hwc => ?_; (first | have hbx := drew_below hwc | have hbx := eq_below hwc); replace HBc := hide (HBc.out.trans (hbx.mono HBc.out.size)); replace HKc := hide (HKc.out.later hbx); clear hwc hbx; refine (l01Back_any _ n _ (f.getD k []) _ HRL.out (by omega) (HRR.out.later HBc.out) HIN.out).mono ?_; rintro e wd ⟨A2, c2, rfl, hbd, hobj⟩; have HO := hide (hobj); clear hobj; replace HBc := hide (HBc.out.trans (hbd.mono HBc.out.size)); replace HKc := hide (HKc.out.later hbd); clear hbd; have k0 := HKc.out.cell 0 _ rfl; have r1 := (HBc.out.cell (p := ⟨b, o + k, none⟩) hbw).trans R1.out)) | (go_at_call 72; go_must (refine calls_gen fun wc hwc => ?_; (first | have hbx := drew_below hwc | have hbx := eq_below hwc); replace HBc := hide (HBc.out.trans (hbx.mono HBc.out.size)); replace HKc := hide (HKc.out.later hbx); replace HO := hide (HO.out.later hbx); clear hwc hbx; refine (same_any _ _ _ _ _ _ (f.getD k []) (backTo (f.getD k []) n) true _ HRL.out ((backTo_length _ _).trans HRL.out) (by omega) (by omega) (HRR.out.later HBc.out) HO.out.rd ⟨fun _ => HCS.out, fun _ => rfl⟩).mono ?_; rintro e wd ⟨rfl, hqd⟩; have hbd := hqd.below wc.heap.size; replace HBc := hide (HBc.out.trans (hbd.mono HBc.out.size)); replace HKc := hide (HKc.out.later hbd); replace HO := hide (HO.out.later hbd); clear hbd; have k0 := HKc.out.cell 0 _ rfl; have r1 := (HBc.out.cell (p := ⟨b, o + k, none⟩) hbw).trans R1.out)))
          clear k0 r1
          go_wp2_with fail
          go_roundw
          case rel => exact ⟨k + 1, by omega, by go_num, HBc.out, HKc.out, fun i hi => by
            by_cases e : i = k
            · rw [e]; exact HYES.out
            · exact HALL.out i (by omega)⟩
          case measure => simp [intOf]; omega
        · have hrf : r = false := by
            cases r
            · rfl
            · exact absurd (HIV.out.2 (fun y hy => HRC.out.1 rfl k y (by have := HN.out; omega) (by have := HN.out; omega))) hcs
          subst hrf
          have HCS := hide hcs
          clear hcs
          go_region_held3 (fun w' => w'.cell? ⟨w.heap.size, 0, none⟩ = some (.slice (some ⟨b, o, none⟩) n c) ∧ w'.cell? ⟨b, o + k, none⟩ = some (.slice (some ⟨bx, ox, none⟩) n cx)) (first | exact ⟨k0, r1⟩ | go_keep) (first | (go_at_call 74; go_must (refine calls_gen fun wc hwc => ?_; (first | have hbx := drew_below hwc | have hbx := eq_below hwc); replace HBc := hide (HBc.out.trans (hbx.mono HBc.out.size)); replace HKc := hide (HKc.out.later hbx); clear hwc hbx; refine (l01Back_any _ n _ (f.getD k []) _ HRL.out (by omega) (HRR.out.later HBc.out) HIN.out).mono ?_; rintro e wd ⟨A2, c2, rfl, hbd, hobj⟩; have HO := hide (hobj); clear hobj; replace HBc := hide (HBc.out.trans (hbd.mono HBc.out.size)); replace HKc := hide (HKc.out.later hbd); clear hbd; have k0 := HKc.out.cell 0 _ rfl; have r1 := (HBc.out.cell (p := ⟨b, o + k, none⟩) hbw).trans R1.out)) | (go_at_call 72; go_must (refine calls_gen fun wc hwc => ?_; (first | have hbx := drew_below hwc | have hbx := eq_below hwc); replace HBc := hide (HBc.out.trans (hbx.mono HBc.out.size)); replace HKc := hide (HKc.out.later hbx); replace HO := hide (HO.out.later hbx); clear hwc hbx; refine (same_any _ _ _ _ _ _ (f.getD k []) (backTo (f.getD k []) n) false _ HRL.out ((backTo_length _ _).trans HRL.out) (by omega) (by omega) (HRR.out.later HBc.out) HO.out.rd ⟨fun h => (by cases h), fun h => absurd h HCS.out⟩).mono ?_; rintro e wd ⟨rfl, hqd⟩; have hbd := hqd.below wc.heap.size; replace HBc := hide (HBc.out.trans (hbd.mono HBc.out.size)); replace HKc := hide (HKc.out.later hbd); replace HO := hide (HO.out.later hbd); clear hbd; have k0 := HKc.out.cell 0 _ rfl; have r1 := (HBc.out.cell (p := ⟨b, o + k, none⟩) hbw).trans R1.out)))
          clear k0 r1
          go_wp2_with fail
          go_ret2
          exact ⟨rfl, HBc.out⟩
      · have hkn : k = n := by omega
        subst hkn
        have hrt : r = true := HRC.out.2 (fun x y hx hy => HALL.out x (by have := HN.out; omega) y (by have := HN.out; omega))
        subst hrt
        go_wp2_with fail
        go_ret2
        exact ⟨rfl, HBc.out⟩
  · skip
    have HRK : Hid (RkRes f false) := hide (by unfold RkRes; simp [hp])
    have HP := hide hp
    clear hn hbs hr hp
    go_enter Try.func37, Try.ntmps37
    go_wp2_with fail
    refine (isRackS _ _ _ f false _ HN.out hb HBS.out (HRD.out.later HB0.out) HRK.out).mono ?_
    rintro e w1 ⟨rfl, hb1⟩
    have HB1 := hide (HB0.out.trans (hb1.mono HB0.out.size))
    have HK1 := hide (HK0.out.later hb1)
    clear hb1
    go_wp2_with fail
    go_ret2
    exact ⟨rfl, HB1.out⟩

end Go.Proofs.Ytchpclgkinehhaa
