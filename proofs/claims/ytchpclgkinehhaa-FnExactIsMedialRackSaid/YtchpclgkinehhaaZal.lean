import Derived.Test.YtchpclgkinehhaaZw
import Derived.Test.YtchpclgkinehhaaZs
import Derived.Test.YtchpclgkinehhaaZq
import Derived.Test.YtchpclgkinehhaaZo
import Derived.Test.YtchpclgkinehhaaZag
namespace Go.Proofs.Ytchpclgkinehhaa
open Go Go.RowKit
set_option maxHeartbeats 4000000

set_option maxRecDepth 100000 in
theorem isMd_any (A : Option Addr) (n c : Nat) (f : List (List Int)) (r : Bool) (w : World) (hn : f.length = n) (ht : Tbl f) (hr : Rd2 w A f) (hrc : r = true ↔ MdF f) :
    Calls Try.prog 76 #[.agg #[.slice A n c]] w fun e w' => e = .returned (.bool r) ∧ Below w.heap.size w w' := by
  have h1 : 1 ≤ n := by rw [← hn]; exact ht.1
  have h12 : n ≤ 12 := by rw [← hn]; exact ht.2.1
  have HN := hide hn
  have HTB := hide ht
  have HR := hide hr
  have HRC := hide hrc
  obtain ⟨N, hN⟩ : ∃ N, n * n = N := ⟨_, rfl⟩
  have hN144 : N ≤ 144 := by rw [← hN]; exact sq_le n h12
  have HNN := hide hN
  have HB0 := hide ((Below.refl _ w).alloc (Nat.le_refl _) (Obj.cells #[Value.slice A n c] 27))
  have HK0 := hide (Blk.new w 27 [.slice A n c])
  clear hn ht hr hrc hN
  go_enter Try.func76, Try.ntmps76
  go_wp2_with fail
  refine (ksize_any _ _ _ _ (by omega)).mono ?_
  rintro e w2 ⟨rfl, hb2⟩
  have HB2 := hide (HB0.out.trans (hb2.mono HB0.out.size))
  have HK2 := hide (HK0.out.later hb2)
  clear hb2
  go_wp2_with fail
  refine (pairsOf_any n N _ h1 h12 HNN.out).mono ?_
  rintro e w3 ⟨g, rfl, hb3, hg3, hpa⟩
  have HB3 := hide (HB2.out.trans (hb3.mono HB2.out.size))
  have HK3 := hide (HK2.out.later hb3)
  have HPA3 := hide hpa
  clear hb3 hpa
  go_wp2_with fail

  go_loopw [15] (fun i wr => ∃ k : Nat, k ≤ N ∧ i = .int .i64 k ∧ Below w.heap.size w wr ∧ Blk wr w.heap.size 27 [.slice A n c] ∧ PairsAt wr g n ∧ ∀ i, i < k → ∀ j, j < N → Md4 f (i / n) (i % n) (j / n) (j % n)) (fun i _ => N - (intOf i).toNat)
  case atStart => exact ⟨0, Nat.zero_le _, rfl, HB3.out, HK3.out, HPA3.out, fun i hi => absurd hi (Nat.not_lt_zero _)⟩
  case round =>
    obtain ⟨k, hk, rfl, hbe, hkk, hpa, hall⟩ := hrel
    have HB := hide hbe
    have HK := hide hkk
    have HPA := hide hpa
    have HALL := hide hall
    clear hbe hkk hpa hall
    by_cases hlt : k < N
    · have hkz : (k : Int) < N := by omega
      obtain ⟨p0, p1⟩ := HPA.out.2 k (by rw [HNN.out]; exact hlt)
      have hxn : k / n < n := div_lt_sq (by rw [HNN.out]; exact hlt)
      have hyn : k % n < n := mod_lt_sq (by rw [HNN.out]; exact hlt)
      obtain ⟨x, hx⟩ : ∃ x, k / n = x := ⟨_, rfl⟩
      obtain ⟨y, hy⟩ : ∃ y, k % n = y := ⟨_, rfl⟩
      rw [hx] at p0 hxn
      rw [hy] at p1 hyn
      have HX := hide hx
      have HY := hide hy
      clear hx hy
      go_wp2_with fail
      refine wp_gen fun w4 hw4 => ?_
      obtain ⟨P, hPe⟩ : ∃ P, wr.heap.size = P := ⟨_, rfl⟩
      have HB4 : Hid (Below w.heap.size w w4) := hide (by rw [hw4]; exact HB.out.alloc HB.out.size _)
      have HK4 : Hid (Blk w4 w.heap.size 27 [.slice A n c]) := hide (by rw [hw4]; exact HK.out.alloc _)
      have HP4 : Hid (Blk w4 P 87 [.int .i64 x, .int .i64 y]) := hide (by rw [hw4, ← hPe]; exact Blk.new _ _ _)
      have HA4 : Hid (PairsAt w4 g n) := hide (by rw [hw4]; exact HPA.out.later ((Below.refl _ _).alloc (Nat.le_refl _) _))
      rw [hPe]
      clear hw4 p0 p1 hPe
      go_wp2_with fail
      go_loopw [21] (fun i wi => ∃ j : Nat, j ≤ N ∧ i = .int .i64 j ∧ Below w.heap.size w wi ∧ Blk wi w.heap.size 27 [.slice A n c] ∧ Blk wi P 87 [.int .i64 x, .int .i64 y] ∧ PairsAt wi g n ∧ ∀ j', j' < j → Md4 f x y (j' / n) (j' % n)) (fun i _ => N - (intOf i).toNat)
      case atStart => exact ⟨0, Nat.zero_le _, rfl, HB4.out, HK4.out, HP4.out, HA4.out, fun i hi => absurd hi (Nat.not_lt_zero _)⟩
      case round =>
        obtain ⟨j, hj, rfl, hbe, hkk, hpp, hpa, hall⟩ := hrel
        have HBi := hide hbe
        have HKi := hide hkk
        have HPi := hide hpp
        have HAi := hide hpa
        have HALLI := hide hall
        clear hbe hkk hpp hpa hall
        by_cases hltj : j < N
        · have hjz : (j : Int) < N := by omega
          obtain ⟨p0, p1⟩ := HAi.out.2 j (by rw [HNN.out]; exact hltj)
          have hzn : j / n < n := div_lt_sq (by rw [HNN.out]; exact hltj)
          have hvn : j % n < n := mod_lt_sq (by rw [HNN.out]; exact hltj)
          obtain ⟨z, hz⟩ : ∃ z, j / n = z := ⟨_, rfl⟩
          obtain ⟨v, hv⟩ : ∃ v, j % n = v := ⟨_, rfl⟩
          rw [hz] at p0 hzn
          rw [hv] at p1 hvn
          have HZ := hide hz
          have HV := hide hv
          clear hz hv
          have hs1 := HTB.out.ap_lt HN.out hxn hyn
          have hs2 := HTB.out.ap_lt HN.out hzn hvn
          have ht1 := HTB.out.ap_lt HN.out hxn hzn
          have ht2 := HTB.out.ap_lt HN.out hyn hvn
          obtain ⟨s1, e1⟩ : ∃ u, ap f x y = u := ⟨_, rfl⟩
          obtain ⟨s2, e2⟩ : ∃ u, ap f z v = u := ⟨_, rfl⟩
          obtain ⟨t1, e3⟩ : ∃ u, ap f x z = u := ⟨_, rfl⟩
          obtain ⟨t2, e4⟩ : ∃ u, ap f y v = u := ⟨_, rfl⟩
          rw [e1] at hs1
          rw [e2] at hs2
          rw [e3] at ht1
          rw [e4] at ht2
          obtain ⟨s3, e5⟩ : ∃ u, ap f s1 s2 = u := ⟨_, rfl⟩
          obtain ⟨t3, e6⟩ : ∃ u, ap f t1 t2 = u := ⟨_, rfl⟩
          have U1 := hide e1
          have U2 := hide e2
          have U3 := hide e5
          have V1 := hide e3
          have V2 := hide e4
          have V3 := hide e6
          have HAT : Hid (Md4 f x y z v ↔ s3 = t3) := hide (by unfold Md4; rw [e1, e2, e3, e4, e5, e6])
          clear e1 e2 e3 e4 e5 e6
          go_wp2_with fail
          refine wp_gen fun w5 hw5 => ?_
          obtain ⟨Q, hQe⟩ : ∃ Q, wr.heap.size = Q := ⟨_, rfl⟩
          have HBc : Hid (Below w.heap.size w w5) := hide (by rw [hw5]; exact HBi.out.alloc HBi.out.size _)
          have HKc : Hid (Blk w5 w.heap.size 27 [.slice A n c]) := hide (by rw [hw5]; exact HKi.out.alloc _)
          have HPc : Hid (Blk w5 P 87 [.int .i64 x, .int .i64 y]) := hide (by rw [hw5]; exact HPi.out.alloc _)
          have HQc : Hid (Blk w5 Q 87 [.int .i64 z, .int .i64 v]) := hide (by rw [hw5, ← hQe]; exact Blk.new _ _ _)
          have HAc : Hid (PairsAt w5 g n) := hide (by rw [hw5]; exact HAi.out.later ((Below.refl _ _).alloc (Nat.le_refl _) _))
          rw [hQe]
          clear hw5 p0 p1 hQe
          have k0 := HKc.out.cell 0 _ rfl
          have p0 := HPc.out.cell 0 _ rfl
          have p1 := HPc.out.cell 1 _ rfl
          have q0 := HQc.out.cell 0 _ rfl
          have q1 := HQc.out.cell 1 _ rfl
          have tok0 : True := trivial
          have tok1 : True := trivial
          go_region_held3 (fun w' => w'.cell? ⟨w.heap.size, 0, none⟩ = some (.slice A n c) ∧ w'.cell? ⟨P, 0, none⟩ = some (.int .i64 x) ∧ w'.cell? ⟨P, 1, none⟩ = some (.int .i64 y) ∧ w'.cell? ⟨Q, 0, none⟩ = some (.int .i64 z) ∧ w'.cell? ⟨Q, 1, none⟩ = some (.int .i64 v)) (first | exact ⟨k0, p0, p1, q0, q1⟩ | go_keep) (first | (go_at_call 95; have _t := tok0; clear _t tok0; go_must (refine calls_gen fun wc hwc => ?_; (first | have hbx := drew_below hwc | have hbx := eq_below hwc); replace HBc := hide (HBc.out.trans (hbx.mono HBc.out.size)); replace HKc := hide (HKc.out.later hbx); replace HPc := hide (HPc.out.later hbx); replace HQc := hide (HQc.out.later hbx); replace HAc := hide (HAc.out.later hbx); clear hwc hbx; refine (act_any _ _ _ f x y s1 _ HN.out HTB.out (HR.out.later HBc.out) hxn hyn U1.out).mono ?_; rintro e wd ⟨rfl, hbd⟩; replace HBc := hide (HBc.out.trans (hbd.mono HBc.out.size)); replace HKc := hide (HKc.out.later hbd); replace HPc := hide (HPc.out.later hbd); replace HQc := hide (HQc.out.later hbd); replace HAc := hide (HAc.out.later hbd); clear hbd; have k0 := HKc.out.cell 0 _ rfl; have p0 := HPc.out.cell 0 _ rfl; have p1 := HPc.out.cell 1 _ rfl; have q0 := HQc.out.cell 0 _ rfl; have q1 := HQc.out.cell 1 _ rfl)) | (go_at_call 95; have _t := tok1; clear _t tok1; go_must (refine calls_gen fun wc hwc => ?_; (first | have hbx := drew_below hwc | have hbx := eq_below hwc); replace HBc := hide (HBc.out.trans (hbx.mono HBc.out.size)); replace HKc := hide (HKc.out.later hbx); replace HPc := hide (HPc.out.later hbx); replace HQc := hide (HQc.out.later hbx); replace HAc := hide (HAc.out.later hbx); clear hwc hbx; refine (act_any _ _ _ f z v s2 _ HN.out HTB.out (HR.out.later HBc.out) hzn hvn U2.out).mono ?_; rintro e wd ⟨rfl, hbd⟩; replace HBc := hide (HBc.out.trans (hbd.mono HBc.out.size)); replace HKc := hide (HKc.out.later hbd); replace HPc := hide (HPc.out.later hbd); replace HQc := hide (HQc.out.later hbd); replace HAc := hide (HAc.out.later hbd); clear hbd; have k0 := HKc.out.cell 0 _ rfl; have p0 := HPc.out.cell 0 _ rfl; have p1 := HPc.out.cell 1 _ rfl; have q0 := HQc.out.cell 0 _ rfl; have q1 := HQc.out.cell 1 _ rfl)) | (go_at_call 95; go_must (refine calls_gen fun wc hwc => ?_; (first | have hbx := drew_below hwc | have hbx := eq_below hwc); replace HBc := hide (HBc.out.trans (hbx.mono HBc.out.size)); replace HKc := hide (HKc.out.later hbx); replace HPc := hide (HPc.out.later hbx); replace HQc := hide (HQc.out.later hbx); replace HAc := hide (HAc.out.later hbx); clear hwc hbx; refine (act_any _ _ _ f s1 s2 s3 _ HN.out HTB.out (HR.out.later HBc.out) hs1 hs2 U3.out).mono ?_; rintro e wd ⟨rfl, hbd⟩; replace HBc := hide (HBc.out.trans (hbd.mono HBc.out.size)); replace HKc := hide (HKc.out.later hbd); replace HPc := hide (HPc.out.later hbd); replace HQc := hide (HQc.out.later hbd); replace HAc := hide (HAc.out.later hbd); clear hbd; have k0 := HKc.out.cell 0 _ rfl; have p0 := HPc.out.cell 0 _ rfl; have p1 := HPc.out.cell 1 _ rfl; have q0 := HQc.out.cell 0 _ rfl; have q1 := HQc.out.cell 1 _ rfl)))
          have tok0 : True := trivial
          have tok1 : True := trivial
          clear k0 p0 p1 q0 q1
          have k0 := HKc.out.cell 0 _ rfl
          have p0 := HPc.out.cell 0 _ rfl
          have p1 := HPc.out.cell 1 _ rfl
          have q0 := HQc.out.cell 0 _ rfl
          have q1 := HQc.out.cell 1 _ rfl
          by_cases hcs : s3 = t3
          · have HYES := hide (HAT.out.2 hcs)
            replace V3 : Hid (ap f t1 t2 = s3) := hide (V3.out.trans hcs.symm)
            clear hcs
            go_wp2_with fail
            go_region_held3 (fun w' => w'.cell? ⟨w.heap.size, 0, none⟩ = some (.slice A n c) ∧ w'.cell? ⟨P, 0, none⟩ = some (.int .i64 x) ∧ w'.cell? ⟨P, 1, none⟩ = some (.int .i64 y) ∧ w'.cell? ⟨Q, 0, none⟩ = some (.int .i64 z) ∧ w'.cell? ⟨Q, 1, none⟩ = some (.int .i64 v)) (first | exact ⟨k0, p0, p1, q0, q1⟩ | go_keep) (first | (go_at_call 95; have _t := tok0; clear _t tok0; go_must (refine calls_gen fun wc hwc => ?_; (first | have hbx := drew_below hwc | have hbx := eq_below hwc); replace HBc := hide (HBc.out.trans (hbx.mono HBc.out.size)); replace HKc := hide (HKc.out.later hbx); replace HPc := hide (HPc.out.later hbx); replace HQc := hide (HQc.out.later hbx); replace HAc := hide (HAc.out.later hbx); clear hwc hbx; refine (act_any _ _ _ f x z t1 _ HN.out HTB.out (HR.out.later HBc.out) hxn hzn V1.out).mono ?_; rintro e wd ⟨rfl, hbd⟩; replace HBc := hide (HBc.out.trans (hbd.mono HBc.out.size)); replace HKc := hide (HKc.out.later hbd); replace HPc := hide (HPc.out.later hbd); replace HQc := hide (HQc.out.later hbd); replace HAc := hide (HAc.out.later hbd); clear hbd; have k0 := HKc.out.cell 0 _ rfl; have p0 := HPc.out.cell 0 _ rfl; have p1 := HPc.out.cell 1 _ rfl; have q0 := HQc.out.cell 0 _ rfl; have q1 := HQc.out.cell 1 _ rfl)) | (go_at_call 95; have _t := tok1; clear _t tok1; go_must (refine calls_gen fun wc hwc => ?_; (first | have hbx := drew_below hwc | have hbx := eq_below hwc); replace HBc := hide (HBc.out.trans (hbx.mono HBc.out.size)); replace HKc := hide (HKc.out.later hbx); replace HPc := hide (HPc.out.later hbx); replace HQc := hide (HQc.out.later hbx); replace HAc := hide (HAc.out.later hbx); clear hwc hbx; refine (act_any _ _ _ f y v t2 _ HN.out HTB.out (HR.out.later HBc.out) hyn hvn V2.out).mono ?_; rintro e wd ⟨rfl, hbd⟩; replace HBc := hide (HBc.out.trans (hbd.mono HBc.out.size)); replace HKc := hide (HKc.out.later hbd); replace HPc := hide (HPc.out.later hbd); replace HQc := hide (HQc.out.later hbd); replace HAc := hide (HAc.out.later hbd); clear hbd; have k0 := HKc.out.cell 0 _ rfl; have p0 := HPc.out.cell 0 _ rfl; have p1 := HPc.out.cell 1 _ rfl; have q0 := HQc.out.cell 0 _ rfl; have q1 := HQc.out.cell 1 _ rfl)) | (go_at_call 95; go_must (refine calls_gen fun wc hwc => ?_; (first | have hbx := drew_below hwc | have hbx := eq_below hwc); replace HBc := hide (HBc.out.trans (hbx.mono HBc.out.size)); replace HKc := hide (HKc.out.later hbx); replace HPc := hide (HPc.out.later hbx); replace HQc := hide (HQc.out.later hbx); replace HAc := hide (HAc.out.later hbx); clear hwc hbx; refine (act_any _ _ _ f t1 t2 s3 _ HN.out HTB.out (HR.out.later HBc.out) ht1 ht2 V3.out).mono ?_; rintro e wd ⟨rfl, hbd⟩; replace HBc := hide (HBc.out.trans (hbd.mono HBc.out.size)); replace HKc := hide (HKc.out.later hbd); replace HPc := hide (HPc.out.later hbd); replace HQc := hide (HQc.out.later hbd); replace HAc := hide (HAc.out.later hbd); clear hbd; have k0 := HKc.out.cell 0 _ rfl; have p0 := HPc.out.cell 0 _ rfl; have p1 := HPc.out.cell 1 _ rfl; have q0 := HQc.out.cell 0 _ rfl; have q1 := HQc.out.cell 1 _ rfl)))
            clear k0 p0 p1 q0 q1
            go_wp2_with fail
            go_roundw
            case rel => exact ⟨j + 1, by omega, by go_num, HBc.out, HKc.out, HPc.out, HAc.out, fun i hi => by
              by_cases e : i = j
              · rw [e, HZ.out, HV.out]; exact HYES.out
              · exact HALLI.out i (by omega)⟩
            case measure => simp [intOf]; omega
          · have hcz : ¬ (s3 : Int) = t3 := by omega
            have hrf : r = false := by
              cases r
              · rfl
              · exact absurd (HAT.out.1 (HRC.out.1 rfl x y z v (by have := HN.out; omega) (by have := HN.out; omega) (by have := HN.out; omega) (by have := HN.out; omega))) hcs
            subst hrf
            go_wp2_with fail
            go_region_held3 (fun w' => w'.cell? ⟨w.heap.size, 0, none⟩ = some (.slice A n c) ∧ w'.cell? ⟨P, 0, none⟩ = some (.int .i64 x) ∧ w'.cell? ⟨P, 1, none⟩ = some (.int .i64 y) ∧ w'.cell? ⟨Q, 0, none⟩ = some (.int .i64 z) ∧ w'.cell? ⟨Q, 1, none⟩ = some (.int .i64 v)) (first | exact ⟨k0, p0, p1, q0, q1⟩ | go_keep) (first | (go_at_call 95; have _t := tok0; clear _t tok0; go_must (refine calls_gen fun wc hwc => ?_; (first | have hbx := drew_below hwc | have hbx := eq_below hwc); replace HBc := hide (HBc.out.trans (hbx.mono HBc.out.size)); replace HKc := hide (HKc.out.later hbx); replace HPc := hide (HPc.out.later hbx); replace HQc := hide (HQc.out.later hbx); replace HAc := hide (HAc.out.later hbx); clear hwc hbx; refine (act_any _ _ _ f x z t1 _ HN.out HTB.out (HR.out.later HBc.out) hxn hzn V1.out).mono ?_; rintro e wd ⟨rfl, hbd⟩; replace HBc := hide (HBc.out.trans (hbd.mono HBc.out.size)); replace HKc := hide (HKc.out.later hbd); replace HPc := hide (HPc.out.later hbd); replace HQc := hide (HQc.out.later hbd); replace HAc := hide (HAc.out.later hbd); clear hbd; have k0 := HKc.out.cell 0 _ rfl; have p0 := HPc.out.cell 0 _ rfl; have p1 := HPc.out.cell 1 _ rfl; have q0 := HQc.out.cell 0 _ rfl; have q1 := HQc.out.cell 1 _ rfl)) | (go_at_call 95; have _t := tok1; clear _t tok1; go_must (refine calls_gen fun wc hwc => ?_; (first | have hbx := drew_below hwc | have hbx := eq_below hwc); replace HBc := hide (HBc.out.trans (hbx.mono HBc.out.size)); replace HKc := hide (HKc.out.later hbx); replace HPc := hide (HPc.out.later hbx); replace HQc := hide (HQc.out.later hbx); replace HAc := hide (HAc.out.later hbx); clear hwc hbx; refine (act_any _ _ _ f y v t2 _ HN.out HTB.out (HR.out.later HBc.out) hyn hvn V2.out).mono ?_; rintro e wd ⟨rfl, hbd⟩; replace HBc := hide (HBc.out.trans (hbd.mono HBc.out.size)); replace HKc := hide (HKc.out.later hbd); replace HPc := hide (HPc.out.later hbd); replace HQc := hide (HQc.out.later hbd); replace HAc := hide (HAc.out.later hbd); clear hbd; have k0 := HKc.out.cell 0 _ rfl; have p0 := HPc.out.cell 0 _ rfl; have p1 := HPc.out.cell 1 _ rfl; have q0 := HQc.out.cell 0 _ rfl; have q1 := HQc.out.cell 1 _ rfl)) | (go_at_call 95; go_must (refine calls_gen fun wc hwc => ?_; (first | have hbx := drew_below hwc | have hbx := eq_below hwc); replace HBc := hide (HBc.out.trans (hbx.mono HBc.out.size)); replace HKc := hide (HKc.out.later hbx); replace HPc := hide (HPc.out.later hbx); replace HQc := hide (HQc.out.later hbx); replace HAc := hide (HAc.out.later hbx); clear hwc hbx; refine (act_any _ _ _ f t1 t2 t3 _ HN.out HTB.out (HR.out.later HBc.out) ht1 ht2 V3.out).mono ?_; rintro e wd ⟨rfl, hbd⟩; replace HBc := hide (HBc.out.trans (hbd.mono HBc.out.size)); replace HKc := hide (HKc.out.later hbd); replace HPc := hide (HPc.out.later hbd); replace HQc := hide (HQc.out.later hbd); replace HAc := hide (HAc.out.later hbd); clear hbd; have k0 := HKc.out.cell 0 _ rfl; have p0 := HPc.out.cell 0 _ rfl; have p1 := HPc.out.cell 1 _ rfl; have q0 := HQc.out.cell 0 _ rfl; have q1 := HQc.out.cell 1 _ rfl)))
            clear k0 p0 p1 q0 q1
            go_wp2_with fail
            go_ret
            exact ⟨rfl, HBc.out⟩
        · have hjn : j = N := by omega
          subst hjn
          go_wp2_with fail
          go_roundw
          case rel => exact ⟨k + 1, by omega, by go_num, HBi.out, HKi.out, HAi.out, fun i hi => by
            by_cases e : i = k
            · rw [e, HX.out, HY.out]; exact HALLI.out
            · exact HALL.out i (by omega)⟩
          case measure => simp [intOf]; omega
    · have hkn : k = N := by omega
      subst hkn
      have hrt : r = true := HRC.out.2 (md_pairs HN.out (fun i hi j hj => HALL.out i (by rw [← HNN.out]; exact hi) j (by rw [← HNN.out]; exact hj)))
      subst hrt
      go_wp2_with fail
      go_ret
      exact ⟨rfl, HB.out⟩

end Go.Proofs.Ytchpclgkinehhaa
