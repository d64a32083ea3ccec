import Derived.Test.YtchpclgkinehhaaZv
import Derived.Test.YtchpclgkinehhaaZs
import Derived.Test.YtchpclgkinehhaaZq
import Derived.Test.YtchpclgkinehhaaZo
import Derived.Test.YtchpclgkinehhaaZag
namespace Go.Proofs.Ytchpclgkinehhaa
open Go Go.RowKit
set_option maxHeartbeats 2000000

set_option maxRecDepth 100000 in
theorem isIv_any (A : Option Addr) (n c : Nat) (f : List (List Int)) (r : Bool) (w : World) (hn : f.length = n) (ht : Tbl f) (hr : Rd2 w A f) (hrc : r = true ↔ IvF f) :
    Calls Try.prog 75 #[.agg #[.slice A n c]] w fun e w' => e = .returned (.bool r) ∧ Below w.heap.size w w' := by
  have h1 : 1 ≤ n := by rw [← hn]; exact ht.1
  have h12 : n ≤ 12 := by rw [← hn]; exact ht.2.1
  have HN := hide hn
  have HTB := hide ht
  have HR := hide hr
  have HRC := hide hrc
  obtain ⟨N, hN⟩ : ∃ N, n * n = N := ⟨_, rfl⟩
  have hN144 : N ≤ 144 := by rw [← hN]; exact sq_le n h12
  have HNN := hide hN
  have HB0 := hide ((Below.refl _ w).alloc (Nat.le_refl _) (Obj.cells #[Value.slice A n c] 27))
  have HK0 := hide (Blk.new w 27 [.slice A n c])
  clear hn ht hr hrc hN
  go_enter Try.func75, Try.ntmps75
  go_wp2_with fail
  refine (ksize_any _ _ _ _ (by omega)).mono ?_
  rintro e w2 ⟨rfl, hb2⟩
  have HB2 := hide (HB0.out.trans (hb2.mono HB0.out.size))
  have HK2 := hide (HK0.out.later hb2)
  clear hb2
  go_wp2_with fail
  refine (pairsOf_any n N _ h1 h12 HNN.out).mono ?_
  rintro e w3 ⟨g, rfl, hb3, hg3, hpa⟩
  have HB3 := hide (HB2.out.trans (hb3.mono HB2.out.size))
  have HK3 := hide (HK2.out.later hb3)
  have HPA3 := hide hpa
  clear hb3 hpa
  go_wp2_with fail
  go_loopw [9] (fun i wr => ∃ k : Nat, k ≤ N ∧ i = .int .i64 k ∧ Below w.heap.size w wr ∧ Blk wr w.heap.size 27 [.slice A n c] ∧ PairsAt wr g n ∧ ∀ i, i < k → ap f (i / n) (ap f (i / n) (i % n)) = i % n) (fun i _ => N - (intOf i).toNat)
  case atStart => exact ⟨0, Nat.zero_le _, rfl, HB3.out, HK3.out, HPA3.out, fun i hi => absurd hi (by omega)⟩
  case round =>
    obtain ⟨k, hk, rfl, hbe, hkk, hpa, hall⟩ := hrel
    have HB := hide hbe
    have HK := hide hkk
    have HPA := hide hpa
    have HALL := hide hall
    clear hbe hkk hpa hall
    have k0 := HK.out.cell 0 _ rfl
    have k2 := fun o => (HK.out.alloc o).cell 0 _ rfl
    by_cases hlt : k < N
    · have hkz : (k : Int) < N := by omega
      obtain ⟨p0, p1⟩ := HPA.out.2 k (by rw [HNN.out]; exact hlt)
      have hxn : k / n < n := div_lt_sq (by rw [HNN.out]; exact hlt)
      have hyn : k % n < n := mod_lt_sq (by rw [HNN.out]; exact hlt)
      obtain ⟨x, hx⟩ : ∃ x, k / n = x := ⟨_, rfl⟩
      obtain ⟨y, hy⟩ : ∃ y, k % n = y := ⟨_, rfl⟩
      rw [hx] at p0 hxn
      rw [hy] at p1 hyn
      have HX := hide hx
      have HY := hide hy
      clear hx hy
      have hq1 := HTB.out.ap_lt HN.out hxn hyn
      obtain ⟨q1, h_1⟩ : ∃ u, ap f x y = u := ⟨_, rfl⟩
      rw [h_1] at hq1
      obtain ⟨q2, h_2⟩ : ∃ u, ap f x q1 = u := ⟨_, rfl⟩
      have U1 := hide h_1
      have U2 := hide h_2
      clear h_1 h_2
      go_wp2_with fail
      refine wp_gen fun w4 hw4 => ?_
      obtain ⟨P, hPe⟩ : ∃ P, wr.heap.size = P := ⟨_, rfl⟩
      have HBc : Hid (Below w.heap.size w w4) := hide (by rw [hw4]; exact HB.out.alloc HB.out.size _)
      have HKc : Hid (Blk w4 w.heap.size 27 [.slice A n c]) := hide (by rw [hw4]; exact HK.out.alloc _)
      have HPc : Hid (Blk w4 P 87 [.int .i64 x, .int .i64 y]) := hide (by rw [hw4, ← hPe]; exact Blk.new _ _ _)
      have HAc : Hid (PairsAt w4 g n) := hide (by rw [hw4]; exact HPA.out.later ((Below.refl _ _).alloc (Nat.le_refl _) _))
      rw [hPe]
      clear hw4 k0 k2 p0 p1 hPe
      have k0 := HKc.out.cell 0 _ rfl
      have p0 := HPc.out.cell 0 _ rfl
      have p1 := HPc.out.cell 1 _ rfl
      have tok0 : True := trivial
      by_cases hcs : q2 = y
      · have HYES : Hid (ap f x (ap f x y) = y) := hide (by rw [U1.out, U2.out, hcs])
        replace U2 : Hid (ap f x q1 = y) := hide (U2.out.trans hcs)
        clear hcs
        go_region_held3 (fun w' => w'.cell? ⟨w.heap.size, 0, none⟩ = some (.slice A n c) ∧ w'.cell? ⟨P, 0, none⟩ = some (.int .i64 x) ∧ w'.cell? ⟨P, 1, none⟩ = some (.int .i64 y)) (first | exact ⟨k0, p0, p1⟩ | go_keep) (first | (go_at_call 95; have _t := tok0; clear _t tok0; go_must (refine calls_gen fun wc hwc => ?_; (first | have hbx := drew_below hwc | have hbx := eq_below hwc); replace HBc := hide (HBc.out.trans (hbx.mono HBc.out.size)); replace HKc := hide (HKc.out.later hbx); replace HPc := hide (HPc.out.later hbx); replace HAc := hide (HAc.out.later hbx); clear hwc hbx; refine (act_any _ _ _ f x y q1 _ HN.out HTB.out (HR.out.later HBc.out) hxn hyn U1.out).mono ?_; rintro e wd ⟨rfl, hbd⟩; replace HBc := hide (HBc.out.trans (hbd.mono HBc.out.size)); replace HKc := hide (HKc.out.later hbd); replace HPc := hide (HPc.out.later hbd); replace HAc := hide (HAc.out.later hbd); clear hbd; have k0 := HKc.out.cell 0 _ rfl; have p0 := HPc.out.cell 0 _ rfl; have p1 := HPc.out.cell 1 _ rfl)) | (go_at_call 95; go_must (refine calls_gen fun wc hwc => ?_; (first | have hbx := drew_below hwc | have hbx := eq_below hwc); replace HBc := hide (HBc.out.trans (hbx.mono HBc.out.size)); replace HKc := hide (HKc.out.later hbx); replace HPc := hide (HPc.out.later hbx); replace HAc := hide (HAc.out.later hbx); clear hwc hbx; refine (act_any _ _ _ f x q1 y _ HN.out HTB.out (HR.out.later HBc.out) hxn hq1 U2.out).mono ?_; rintro e wd ⟨rfl, hbd⟩; replace HBc := hide (HBc.out.trans (hbd.mono HBc.out.size)); replace HKc := hide (HKc.out.later hbd); replace HPc := hide (HPc.out.later hbd); replace HAc := hide (HAc.out.later hbd); clear hbd; have k0 := HKc.out.cell 0 _ rfl; have p0 := HPc.out.cell 0 _ rfl; have p1 := HPc.out.cell 1 _ rfl)))
        clear k0 p0 p1
        go_wp2_with fail
        go_roundw
        case rel => exact ⟨k + 1, by omega, by go_num, HBc.out, HKc.out, HAc.out, fun i hi => by
          by_cases e : i = k
          · rw [e, HX.out, HY.out]; exact HYES.out
          · exact HALL.out i (by omega)⟩
        case measure => simp [intOf]; omega
      · have hcz : ¬ (q2 : Int) = y := by omega
        have hrf : r = false := by
          cases r
          · rfl
          · have h := HRC.out.1 rfl x y (by have := HN.out; omega) (by have := HN.out; omega)
            rw [U1.out, U2.out] at h
            exact absurd h hcs
        subst hrf
        go_region_held3 (fun w' => w'.cell? ⟨w.heap.size, 0, none⟩ = some (.slice A n c) ∧ w'.cell? ⟨P, 0, none⟩ = some (.int .i64 x) ∧ w'.cell? ⟨P, 1, none⟩ = some (.int .i64 y)) (first | exact ⟨k0, p0, p1⟩ | go_keep) (first | (go_at_call 95; have _t := tok0; clear _t tok0; go_must (refine calls_gen fun wc hwc => ?_; (first | have hbx := drew_below hwc | have hbx := eq_below hwc); replace HBc := hide (HBc.out.trans (hbx.mono HBc.out.size)); replace HKc := hide (HKc.out.later hbx); replace HPc := hide (HPc.out.later hbx); replace HAc := hide (HAc.out.later hbx); clear hwc hbx; refine (act_any _ _ _ f x y q1 _ HN.out HTB.out (HR.out.later HBc.out) hxn hyn U1.out).mono ?_; rintro e wd ⟨rfl, hbd⟩; replace HBc := hide (HBc.out.trans (hbd.mono HBc.out.size)); replace HKc := hide (HKc.out.later hbd); replace HPc := hide (HPc.out.later hbd); replace HAc := hide (HAc.out.later hbd); clear hbd; have k0 := HKc.out.cell 0 _ rfl; have p0 := HPc.out.cell 0 _ rfl; have p1 := HPc.out.cell 1 _ rfl)) | (go_at_call 95; go_must (refine calls_gen fun wc hwc => ?_; (first | have hbx := drew_below hwc | have hbx := eq_below hwc); replace HBc := hide (HBc.out.trans (hbx.mono HBc.out.size)); replace HKc := hide (HKc.out.later hbx); replace HPc := hide (HPc.out.later hbx); replace HAc := hide (HAc.out.later hbx); clear hwc hbx; refine (act_any _ _ _ f x q1 q2 _ HN.out HTB.out (HR.out.later HBc.out) hxn hq1 U2.out).mono ?_; rintro e wd ⟨rfl, hbd⟩; replace HBc := hide (HBc.out.trans (hbd.mono HBc.out.size)); replace HKc := hide (HKc.out.later hbd); replace HPc := hide (HPc.out.later hbd); replace HAc := hide (HAc.out.later hbd); clear hbd; have k0 := HKc.out.cell 0 _ rfl; have p0 := HPc.out.cell 0 _ rfl; have p1 := HPc.out.cell 1 _ rfl)))
        clear k0 p0 p1
        go_wp2_with fail
        go_ret
        exact ⟨rfl, HBc.out⟩
    · have hkn : k = N := by omega
      subst hkn
      have hrt : r = true := HRC.out.2 (fun a b ha hb => by
        have ha' : a < n := by have := HN.out; omega
        have hb' : b < n := by have := HN.out; omega
        have h := HALL.out (a * n + b) (by rw [← HNN.out]; exact pair_lt n a b ha' hb')
        rw [pair_div n a b hb', pair_mod n a b hb'] at h
        exact h)
      subst hrt
      clear k0 k2
      go_wp2_with fail
      go_ret
      exact ⟨rfl, HB.out⟩

end Go.Proofs.Ytchpclgkinehhaa
