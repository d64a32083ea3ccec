import Derived.Test.YtljdfanebjhhmaaZag
import Derived.Test.YtljdfanebjhhmaaZae
import Derived.Test.YtljdfanebjhhmaaZz
import Derived.Test.YtljdfanebjhhmaaProg
import Derived.Test.YtljdfanebjhhmaaZa
import Derived.Test.YtljdfanebjhhmaaZg
namespace Go.Proofs.Ytljdfanebjhhmaa
open Go Go.RowKit
set_option maxHeartbeats 4000000

set_option maxRecDepth 100000 in
theorem hasCg_any (A : Option Addr) (n c : Nat) (f : List (List Int)) (B : Option Addr) (m d : Nat) (xs : List Int) (r : Bool) (w : World) (hn : f.length = n) (ht : Tbl f) (hr : Rd2 w A f) (hm : xs.length = m) (hx : Rd w B xs) (hp : Part f xs) (hrc : r = true ↔ CgF f xs) :
    Calls Try.prog 53 #[.agg #[.slice A n c], .slice B m d] w fun e w' => e = .returned (.bool r) ∧ Below w.heap.size w w' := by
  have h1 : 1 ≤ n := by rw [← hn]; exact ht.1
  have h12 : n ≤ 12 := by rw [← hn]; exact ht.2.1
  have hmn : m = n := by rw [← hm, hp.1, hn]
  subst hmn
  obtain ⟨b, o, hB, hbw, hc⟩ := hx (by omega)
  subst hB
  have HC : Hid (∀ i : Nat, i < m → w.cell? ⟨b, o + i, none⟩ = some (.int .i64 (cl xs i)) ∧ cl xs i < m) := hide (fun i hi => by
    have h := hp.2.val (i := i) (by omega)
    rw [hm] at h
    exact ⟨by rw [← h.1]; exact hc i (by omega), h.2⟩)
  have HN := hide hn
  have HTB := hide ht
  have HR := hide hr
  have HRC := hide hrc
  obtain ⟨N, hN⟩ : ∃ N, m * m = N := ⟨_, rfl⟩
  have hN144 : N ≤ 144 := by rw [← hN]; exact sq_le m h12
  have HNN := hide hN
  have HB0 := hide ((Below.refl _ w).alloc (Nat.le_refl _) (Obj.cells #[Value.slice A m c] 26))
  have HK0 := hide (Blk.new w 26 [.slice A m c])
  clear hn ht hr hrc hN hm hp hc
  go_enter Try.func53, Try.ntmps53
  go_wp2_with fail
  refine (ksize_any _ _ _ _ (by omega)).mono ?_
  rintro e w2 ⟨rfl, hb2⟩
  have HB2 := hide (HB0.out.trans (hb2.mono HB0.out.size))
  have HK2 := hide (HK0.out.later hb2)
  clear hb2
  go_wp2_with fail
  refine (pairsOf_any m N _ h1 h12 HNN.out).mono ?_
  rintro e w3 ⟨g, rfl, hb3, hg3, hpa⟩
  have HB3 := hide (HB2.out.trans (hb3.mono HB2.out.size))
  have HK3 := hide (HK2.out.later hb3)
  have HPA3 := hide hpa
  clear hb3 hpa
  go_wp2_with fail

  go_loopw [14] (fun i wr => ∃ k : Nat, k ≤ N ∧ i = .int .i64 k ∧ Below w.heap.size w wr ∧ Blk wr w.heap.size 26 [.slice A m c] ∧ PairsAt wr g m ∧ ∀ i, i < k → Cg2 f xs (i / m) (i % m)) (fun i _ => N - (intOf i).toNat)
  case atStart => exact ⟨0, Nat.zero_le _, rfl, HB3.out, HK3.out, HPA3.out, fun i hi => absurd hi (Nat.not_lt_zero _)⟩
  case round =>
    obtain ⟨k, hk, rfl, hbe, hkk, hpa, hall⟩ := hrel
    have HB := hide hbe
    have HK := hide hkk
    have HPA := hide hpa
    have HALL := hide hall
    clear hbe hkk hpa hall
    by_cases hlt : k < N
    · have hkz : (k : Int) < N := by omega
      obtain ⟨p0, p1⟩ := HPA.out.2 k (by rw [HNN.out]; exact hlt)
      have hxn : k / m < m := div_lt_sq (by rw [HNN.out]; exact hlt)
      have hyn : k % m < m := mod_lt_sq (by rw [HNN.out]; exact hlt)
      obtain ⟨x, hx⟩ : ∃ x, k / m = x := ⟨_, rfl⟩
      obtain ⟨z, hz⟩ : ∃ z, k % m = z := ⟨_, rfl⟩
      rw [hx] at p0 hxn
      rw [hz] at p1 hyn
      have HX := hide hx
      have HZ := hide hz
      clear hx hz
      have hxz : (x : Int) < m := by omega
      have hzz : (z : Int) < m := by omega
      go_wp2_with fail
      refine wp_gen fun w4 hw4 => ?_
      obtain ⟨P, hPe⟩ : ∃ P, wr.heap.size = P := ⟨_, rfl⟩
      have HB4 : Hid (Below w.heap.size w w4) := hide (by rw [hw4]; exact HB.out.alloc HB.out.size _)
      have HK4 : Hid (Blk w4 w.heap.size 26 [.slice A m c]) := hide (by rw [hw4]; exact HK.out.alloc _)
      have HP4 : Hid (Blk w4 P 84 [.int .i64 x, .int .i64 z]) := hide (by rw [hw4, ← hPe]; exact Blk.new _ _ _)
      have HA4 : Hid (PairsAt w4 g m) := hide (by rw [hw4]; exact HPA.out.later ((Below.refl _ _).alloc (Nat.le_refl _) _))
      rw [hPe]
      clear hw4 p0 p1 hPe
      obtain ⟨a, ha⟩ : ∃ a, cl xs x = a := ⟨_, rfl⟩
      obtain ⟨a', ha'⟩ : ∃ a, cl xs z = a := ⟨_, rfl⟩
      have c0 := (HB4.out.cell (p := ⟨b, o + x, none⟩) hbw).trans (HC.out x hxn).1
      have c1 := (HB4.out.cell (p := ⟨b, o + z, none⟩) hbw).trans (HC.out z hyn).1
      rw [ha] at c0
      rw [ha'] at c1
      have p0 := HP4.out.cell 0 _ rfl
      have p1 := HP4.out.cell 1 _ rfl
      have HEQ : Hid (cl xs x = cl xs z ↔ a = a') := hide (by rw [ha, ha'])
      clear ha ha'
      by_cases hq : a = a'
      · have HYES := hide (HEQ.out.2 hq)
        subst hq
        go_region_held3 (fun w' => w'.cell? ⟨P, 0, none⟩ = some (.int .i64 x) ∧ w'.cell? ⟨P, 1, none⟩ = some (.int .i64 z) ∧ w'.cell? ⟨b, o + x, none⟩ = some (.int .i64 a) ∧ w'.cell? ⟨b, o + z, none⟩ = some (.int .i64 a)) (first | exact ⟨p0, p1, c0, c1⟩ | go_keep) (first | fail)
        all_goals
          clear p0 p1 c0 c1
          have k0 := HK4.out.drew.cell 0 _ rfl
          go_wp2_with fail
          clear k0
          refine (ksize_any _ m _ _ (by omega)).mono ?_
          rintro e w6 ⟨rfl, hb6⟩
          have HB6 := hide (HB4.out.drew.trans (hb6.mono HB4.out.drew.size))
          have HK6 := hide (Blk.later HK4.out.drew hb6)
          have HP6 := hide (Blk.later HP4.out.drew hb6)
          have HA6 := hide ((HA4.out.later ((Below.refl _ _).drew)).later hb6)
          clear hb6
          go_wp2_with fail
          go_loopw [31] (fun i wi => ∃ y : Nat, y ≤ m ∧ i = .int .i64 y ∧ Below w.heap.size w wi ∧ Blk wi w.heap.size 26 [.slice A m c] ∧ Blk wi P 84 [.int .i64 x, .int .i64 z] ∧ PairsAt wi g m ∧ ∀ y', y' < y → Cg3 f xs x z y') (fun i _ => m - (intOf i).toNat)
          case atStart => exact ⟨0, Nat.zero_le _, rfl, HB6.out, HK6.out, HP6.out, HA6.out, fun i hi => absurd hi (Nat.not_lt_zero _)⟩
          case round =>
            obtain ⟨y, hy, rfl, hbe, hkk, hpp, hpa, hall⟩ := hrel
            have HBc := hide hbe
            have HKc := hide hkk
            have HPc := hide hpp
            have HAc := hide hpa
            have HALLI := hide hall
            clear hbe hkk hpp hpa hall
            by_cases hlty : y < m
            · have hyz : (y : Int) < m := by omega
              have h1' := HTB.out.ap_lt HN.out hxn hlty
              have h2' := HTB.out.ap_lt HN.out hyn hlty
              have h3' := HTB.out.ap_lt HN.out hlty hxn
              have h4' := HTB.out.ap_lt HN.out hlty hyn
              obtain ⟨s1, e1⟩ : ∃ u, ap f x y = u := ⟨_, rfl⟩
              obtain ⟨s2, e2⟩ : ∃ u, ap f z y = u := ⟨_, rfl⟩
              obtain ⟨s3, e3⟩ : ∃ u, ap f y x = u := ⟨_, rfl⟩
              obtain ⟨s4, e4⟩ : ∃ u, ap f y z = u := ⟨_, rfl⟩
              rw [e1] at h1'
              rw [e2] at h2'
              rw [e3] at h3'
              rw [e4] at h4'
              have d1 := (HC.out s1 h1').1
              have d2 := (HC.out s2 h2').1
              have d3 := (HC.out s3 h3').1
              have d4 := (HC.out s4 h4').1
              have HAT : Hid (Cg3 f xs x z y ↔ cl xs s1 = cl xs s2 ∧ cl xs s3 = cl xs s4) := hide (by unfold Cg3; rw [e1, e2, e3, e4])
              obtain ⟨v1, f1⟩ : ∃ u, cl xs s1 = u := ⟨_, rfl⟩
              obtain ⟨v2, f2⟩ : ∃ u, cl xs s2 = u := ⟨_, rfl⟩
              obtain ⟨v3, f3⟩ : ∃ u, cl xs s3 = u := ⟨_, rfl⟩
              obtain ⟨v4, f4⟩ : ∃ u, cl xs s4 = u := ⟨_, rfl⟩
              rw [f1] at d1
              rw [f2] at d2
              rw [f3] at d3
              rw [f4] at d4
              rw [f1, f2, f3, f4] at HAT
              have U1 := hide e1
              have U2 := hide e2
              have U3 := hide e3
              have U4 := hide e4
              have D1 := hide d1
              have D2 := hide d2
              have D3 := hide d3
              have D4 := hide d4
              have z1 : (s1 : Int) < m := by omega
              have z2 : (s2 : Int) < m := by omega
              have z3 : (s3 : Int) < m := by omega
              have z4 : (s4 : Int) < m := by omega
              clear e1 e2 e3 e4 f1 f2 f3 f4 d1 d2 d3 d4
              by_cases hl : v1 = v2
              · by_cases hr' : v3 = v4
                · have HYY := hide (HAT.out.2 ⟨hl, hr'⟩)
                  subst hl
                  subst hr'
                  go_wp2_with fail
                  have tok0 : True := trivial
                  have k0 := HKc.out.cell 0 _ rfl
                  have p0 := HPc.out.cell 0 _ rfl
                  have p1 := HPc.out.cell 1 _ rfl
                  have c0 := (HBc.out.cell (p := ⟨b, o + s1, none⟩) hbw).trans D1.out
                  have c1 := (HBc.out.cell (p := ⟨b, o + s2, none⟩) hbw).trans D2.out
                  go_region_held3 (fun w' => w'.cell? ⟨w.heap.size, 0, none⟩ = some (.slice A m c) ∧ w'.cell? ⟨P, 0, none⟩ = some (.int .i64 x) ∧ w'.cell? ⟨P, 1, none⟩ = some (.int .i64 z) ∧ w'.cell? ⟨b, o + s1, none⟩ = some (.int .i64 v1) ∧ w'.cell? ⟨b, o + s2, none⟩ = some (.int .i64 v1)) (first | exact ⟨k0, p0, p1, c0, c1⟩ | go_keep) (first | (go_at_call 45; have _t := tok0; clear _t tok0; go_must (refine calls_gen fun wc hwc => ?_; (first | have hbx := drew_below hwc | have hbx := eq_below hwc); replace HBc := hide (HBc.out.trans (hbx.mono HBc.out.size)); replace HKc := hide (HKc.out.later hbx); replace HPc := hide (HPc.out.later hbx); replace HAc := hide (HAc.out.later hbx); clear hwc hbx; refine (act_any _ _ _ f x y s1 _ HN.out HTB.out (HR.out.later HBc.out) hxn hlty U1.out).mono ?_; rintro e wd ⟨rfl, hbd⟩; replace HBc := hide (HBc.out.trans (hbd.mono HBc.out.size)); replace HKc := hide (HKc.out.later hbd); replace HPc := hide (HPc.out.later hbd); replace HAc := hide (HAc.out.later hbd); clear hbd; have k0 := HKc.out.cell 0 _ rfl; have p0 := HPc.out.cell 0 _ rfl; have p1 := HPc.out.cell 1 _ rfl; have c0 := (HBc.out.cell (p := ⟨b, o + s1, none⟩) hbw).trans D1.out; have c1 := (HBc.out.cell (p := ⟨b, o + s2, none⟩) hbw).trans D2.out)) | (go_at_call 45; go_must (refine calls_gen fun wc hwc => ?_; (first | have hbx := drew_below hwc | have hbx := eq_below hwc); replace HBc := hide (HBc.out.trans (hbx.mono HBc.out.size)); replace HKc := hide (HKc.out.later hbx); replace HPc := hide (HPc.out.later hbx); replace HAc := hide (HAc.out.later hbx); clear hwc hbx; refine (act_any _ _ _ f z y s2 _ HN.out HTB.out (HR.out.later HBc.out) hyn hlty U2.out).mono ?_; rintro e wd ⟨rfl, hbd⟩; replace HBc := hide (HBc.out.trans (hbd.mono HBc.out.size)); replace HKc := hide (HKc.out.later hbd); replace HPc := hide (HPc.out.later hbd); replace HAc := hide (HAc.out.later hbd); clear hbd; have k0 := HKc.out.cell 0 _ rfl; have p0 := HPc.out.cell 0 _ rfl; have p1 := HPc.out.cell 1 _ rfl; have c0 := (HBc.out.cell (p := ⟨b, o + s1, none⟩) hbw).trans D1.out; have c1 := (HBc.out.cell (p := ⟨b, o + s2, none⟩) hbw).trans D2.out)))
                  clear k0 p0 p1 c0 c1
                  go_wp2_with fail
                  have tok0 : True := trivial
                  have k0 := HKc.out.cell 0 _ rfl
                  have p0 := HPc.out.cell 0 _ rfl
                  have p1 := HPc.out.cell 1 _ rfl
                  have c0 := (HBc.out.cell (p := ⟨b, o + s3, none⟩) hbw).trans D3.out
                  have c1 := (HBc.out.cell (p := ⟨b, o + s4, none⟩) hbw).trans D4.out
                  go_region_held3 (fun w' => w'.cell? ⟨w.heap.size, 0, none⟩ = some (.slice A m c) ∧ w'.cell? ⟨P, 0, none⟩ = some (.int .i64 x) ∧ w'.cell? ⟨P, 1, none⟩ = some (.int .i64 z) ∧ w'.cell? ⟨b, o + s3, none⟩ = some (.int .i64 v3) ∧ w'.cell? ⟨b, o + s4, none⟩ = some (.int .i64 v3)) (first | exact ⟨k0, p0, p1, c0, c1⟩ | go_keep) (first | (go_at_call 45; have _t := tok0; clear _t tok0; go_must (refine calls_gen fun wc hwc => ?_; (first | have hbx := drew_below hwc | have hbx := eq_below hwc); replace HBc := hide (HBc.out.trans (hbx.mono HBc.out.size)); replace HKc := hide (HKc.out.later hbx); replace HPc := hide (HPc.out.later hbx); replace HAc := hide (HAc.out.later hbx); clear hwc hbx; refine (act_any _ _ _ f y x s3 _ HN.out HTB.out (HR.out.later HBc.out) hlty hxn U3.out).mono ?_; rintro e wd ⟨rfl, hbd⟩; replace HBc := hide (HBc.out.trans (hbd.mono HBc.out.size)); replace HKc := hide (HKc.out.later hbd); replace HPc := hide (HPc.out.later hbd); replace HAc := hide (HAc.out.later hbd); clear hbd; have k0 := HKc.out.cell 0 _ rfl; have p0 := HPc.out.cell 0 _ rfl; have p1 := HPc.out.cell 1 _ rfl; have c0 := (HBc.out.cell (p := ⟨b, o + s3, none⟩) hbw).trans D3.out; have c1 := (HBc.out.cell (p := ⟨b, o + s4, none⟩) hbw).trans D4.out)) | (go_at_call 45; go_must (refine calls_gen fun wc hwc => ?_; (first | have hbx := drew_below hwc | have hbx := eq_below hwc); replace HBc := hide (HBc.out.trans (hbx.mono HBc.out.size)); replace HKc := hide (HKc.out.later hbx); replace HPc := hide (HPc.out.later hbx); replace HAc := hide (HAc.out.later hbx); clear hwc hbx; refine (act_any _ _ _ f y z s4 _ HN.out HTB.out (HR.out.later HBc.out) hlty hyn U4.out).mono ?_; rintro e wd ⟨rfl, hbd⟩; replace HBc := hide (HBc.out.trans (hbd.mono HBc.out.size)); replace HKc := hide (HKc.out.later hbd); replace HPc := hide (HPc.out.later hbd); replace HAc := hide (HAc.out.later hbd); clear hbd; have k0 := HKc.out.cell 0 _ rfl; have p0 := HPc.out.cell 0 _ rfl; have p1 := HPc.out.cell 1 _ rfl; have c0 := (HBc.out.cell (p := ⟨b, o + s3, none⟩) hbw).trans D3.out; have c1 := (HBc.out.cell (p := ⟨b, o + s4, none⟩) hbw).trans D4.out)))
                  clear k0 p0 p1 c0 c1
                  go_wp2_with fail
                  go_roundw
                  case rel => exact ⟨y + 1, by omega, by go_num, HBc.out, HKc.out, HPc.out, HAc.out, fun i hi => by
                    by_cases e : i = y
                    · rw [e]; exact HYY.out
                    · exact HALLI.out i (by omega)⟩
                  case measure => simp [intOf]; omega
                · have g3 : ((v3 : Int) == (v4 : Int)) = false := by simpa using fun h => hr' (by omega)
                  have g4 : ¬ (v3 : Int) = (v4 : Int) := fun h => hr' (by omega)
                  have hrf : r = false := by
                    cases r
                    · rfl
                    · exact absurd (HAT.out.1 (HRC.out.1 rfl x (by have := HN.out; omega) z (by have := HN.out; omega) HYES.out y (by have := HN.out; omega))) (fun h => hr' h.2)
                  subst hrf
                  subst hl
                  go_wp2_with fail
                  have tok0 : True := trivial
                  have k0 := HKc.out.cell 0 _ rfl
                  have p0 := HPc.out.cell 0 _ rfl
                  have p1 := HPc.out.cell 1 _ rfl
                  have c0 := (HBc.out.cell (p := ⟨b, o + s1, none⟩) hbw).trans D1.out
                  have c1 := (HBc.out.cell (p := ⟨b, o + s2, none⟩) hbw).trans D2.out
                  go_region_held3 (fun w' => w'.cell? ⟨w.heap.size, 0, none⟩ = some (.slice A m c) ∧ w'.cell? ⟨P, 0, none⟩ = some (.int .i64 x) ∧ w'.cell? ⟨P, 1, none⟩ = some (.int .i64 z) ∧ w'.cell? ⟨b, o + s1, none⟩ = some (.int .i64 v1) ∧ w'.cell? ⟨b, o + s2, none⟩ = some (.int .i64 v1)) (first | exact ⟨k0, p0, p1, c0, c1⟩ | go_keep) (first | (go_at_call 45; have _t := tok0; clear _t tok0; go_must (refine calls_gen fun wc hwc => ?_; (first | have hbx := drew_below hwc | have hbx := eq_below hwc); replace HBc := hide (HBc.out.trans (hbx.mono HBc.out.size)); replace HKc := hide (HKc.out.later hbx); replace HPc := hide (HPc.out.later hbx); replace HAc := hide (HAc.out.later hbx); clear hwc hbx; refine (act_any _ _ _ f x y s1 _ HN.out HTB.out (HR.out.later HBc.out) hxn hlty U1.out).mono ?_; rintro e wd ⟨rfl, hbd⟩; replace HBc := hide (HBc.out.trans (hbd.mono HBc.out.size)); replace HKc := hide (HKc.out.later hbd); replace HPc := hide (HPc.out.later hbd); replace HAc := hide (HAc.out.later hbd); clear hbd; have k0 := HKc.out.cell 0 _ rfl; have p0 := HPc.out.cell 0 _ rfl; have p1 := HPc.out.cell 1 _ rfl; have c0 := (HBc.out.cell (p := ⟨b, o + s1, none⟩) hbw).trans D1.out; have c1 := (HBc.out.cell (p := ⟨b, o + s2, none⟩) hbw).trans D2.out)) | (go_at_call 45; go_must (refine calls_gen fun wc hwc => ?_; (first | have hbx := drew_below hwc | have hbx := eq_below hwc); replace HBc := hide (HBc.out.trans (hbx.mono HBc.out.size)); replace HKc := hide (HKc.out.later hbx); replace HPc := hide (HPc.out.later hbx); replace HAc := hide (HAc.out.later hbx); clear hwc hbx; refine (act_any _ _ _ f z y s2 _ HN.out HTB.out (HR.out.later HBc.out) hyn hlty U2.out).mono ?_; rintro e wd ⟨rfl, hbd⟩; replace HBc := hide (HBc.out.trans (hbd.mono HBc.out.size)); replace HKc := hide (HKc.out.later hbd); replace HPc := hide (HPc.out.later hbd); replace HAc := hide (HAc.out.later hbd); clear hbd; have k0 := HKc.out.cell 0 _ rfl; have p0 := HPc.out.cell 0 _ rfl; have p1 := HPc.out.cell 1 _ rfl; have c0 := (HBc.out.cell (p := ⟨b, o + s1, none⟩) hbw).trans D1.out; have c1 := (HBc.out.cell (p := ⟨b, o + s2, none⟩) hbw).trans D2.out)))
                  clear k0 p0 p1 c0 c1
                  go_wp2_with fail
                  have tok0 : True := trivial
                  have k0 := HKc.out.cell 0 _ rfl
                  have p0 := HPc.out.cell 0 _ rfl
                  have p1 := HPc.out.cell 1 _ rfl
                  have c0 := (HBc.out.cell (p := ⟨b, o + s3, none⟩) hbw).trans D3.out
                  have c1 := (HBc.out.cell (p := ⟨b, o + s4, none⟩) hbw).trans D4.out
                  go_region_held3 (fun w' => w'.cell? ⟨w.heap.size, 0, none⟩ = some (.slice A m c) ∧ w'.cell? ⟨P, 0, none⟩ = some (.int .i64 x) ∧ w'.cell? ⟨P, 1, none⟩ = some (.int .i64 z) ∧ w'.cell? ⟨b, o + s3, none⟩ = some (.int .i64 v3) ∧ w'.cell? ⟨b, o + s4, none⟩ = some (.int .i64 v4)) (first | exact ⟨k0, p0, p1, c0, c1⟩ | go_keep) (first | (go_at_call 45; have _t := tok0; clear _t tok0; go_must (refine calls_gen fun wc hwc => ?_; (first | have hbx := drew_below hwc | have hbx := eq_below hwc); replace HBc := hide (HBc.out.trans (hbx.mono HBc.out.size)); replace HKc := hide (HKc.out.later hbx); replace HPc := hide (HPc.out.later hbx); replace HAc := hide (HAc.out.later hbx); clear hwc hbx; refine (act_any _ _ _ f y x s3 _ HN.out HTB.out (HR.out.later HBc.out) hlty hxn U3.out).mono ?_; rintro e wd ⟨rfl, hbd⟩; replace HBc := hide (HBc.out.trans (hbd.mono HBc.out.size)); replace HKc := hide (HKc.out.later hbd); replace HPc := hide (HPc.out.later hbd); replace HAc := hide (HAc.out.later hbd); clear hbd; have k0 := HKc.out.cell 0 _ rfl; have p0 := HPc.out.cell 0 _ rfl; have p1 := HPc.out.cell 1 _ rfl; have c0 := (HBc.out.cell (p := ⟨b, o + s3, none⟩) hbw).trans D3.out; have c1 := (HBc.out.cell (p := ⟨b, o + s4, none⟩) hbw).trans D4.out)) | (go_at_call 45; go_must (refine calls_gen fun wc hwc => ?_; (first | have hbx := drew_below hwc | have hbx := eq_below hwc); replace HBc := hide (HBc.out.trans (hbx.mono HBc.out.size)); replace HKc := hide (HKc.out.later hbx); replace HPc := hide (HPc.out.later hbx); replace HAc := hide (HAc.out.later hbx); clear hwc hbx; refine (act_any _ _ _ f y z s4 _ HN.out HTB.out (HR.out.later HBc.out) hlty hyn U4.out).mono ?_; rintro e wd ⟨rfl, hbd⟩; replace HBc := hide (HBc.out.trans (hbd.mono HBc.out.size)); replace HKc := hide (HKc.out.later hbd); replace HPc := hide (HPc.out.later hbd); replace HAc := hide (HAc.out.later hbd); clear hbd; have k0 := HKc.out.cell 0 _ rfl; have p0 := HPc.out.cell 0 _ rfl; have p1 := HPc.out.cell 1 _ rfl; have c0 := (HBc.out.cell (p := ⟨b, o + s3, none⟩) hbw).trans D3.out; have c1 := (HBc.out.cell (p := ⟨b, o + s4, none⟩) hbw).trans D4.out)))
                  clear k0 p0 p1 c0 c1
                  go_wp2_with fail
                  go_ret
                  exact ⟨rfl, HBc.out⟩
              · by_cases hr' : v3 = v4
                · have g1 : ((v1 : Int) == (v2 : Int)) = false := by simpa using fun h => hl (by omega)
                  have g2 : ¬ (v1 : Int) = (v2 : Int) := fun h => hl (by omega)
                  have hrf : r = false := by
                    cases r
                    · rfl
                    · exact absurd (HAT.out.1 (HRC.out.1 rfl x (by have := HN.out; omega) z (by have := HN.out; omega) HYES.out y (by have := HN.out; omega))) (fun h => hl h.1)
                  subst hrf
                  subst hr'
                  go_wp2_with fail
                  have tok0 : True := trivial
                  have k0 := HKc.out.cell 0 _ rfl
                  have p0 := HPc.out.cell 0 _ rfl
                  have p1 := HPc.out.cell 1 _ rfl
                  have c0 := (HBc.out.cell (p := ⟨b, o + s1, none⟩) hbw).trans D1.out
                  have c1 := (HBc.out.cell (p := ⟨b, o + s2, none⟩) hbw).trans D2.out
                  go_region_held3 (fun w' => w'.cell? ⟨w.heap.size, 0, none⟩ = some (.slice A m c) ∧ w'.cell? ⟨P, 0, none⟩ = some (.int .i64 x) ∧ w'.cell? ⟨P, 1, none⟩ = some (.int .i64 z) ∧ w'.cell? ⟨b, o + s1, none⟩ = some (.int .i64 v1) ∧ w'.cell? ⟨b, o + s2, none⟩ = some (.int .i64 v2)) (first | exact ⟨k0, p0, p1, c0, c1⟩ | go_keep) (first | (go_at_call 45; have _t := tok0; clear _t tok0; go_must (refine calls_gen fun wc hwc => ?_; (first | have hbx := drew_below hwc | have hbx := eq_below hwc); replace HBc := hide (HBc.out.trans (hbx.mono HBc.out.size)); replace HKc := hide (HKc.out.later hbx); replace HPc := hide (HPc.out.later hbx); replace HAc := hide (HAc.out.later hbx); clear hwc hbx; refine (act_any _ _ _ f x y s1 _ HN.out HTB.out (HR.out.later HBc.out) hxn hlty U1.out).mono ?_; rintro e wd ⟨rfl, hbd⟩; replace HBc := hide (HBc.out.trans (hbd.mono HBc.out.size)); replace HKc := hide (HKc.out.later hbd); replace HPc := hide (HPc.out.later hbd); replace HAc := hide (HAc.out.later hbd); clear hbd; have k0 := HKc.out.cell 0 _ rfl; have p0 := HPc.out.cell 0 _ rfl; have p1 := HPc.out.cell 1 _ rfl; have c0 := (HBc.out.cell (p := ⟨b, o + s1, none⟩) hbw).trans D1.out; have c1 := (HBc.out.cell (p := ⟨b, o + s2, none⟩) hbw).trans D2.out)) | (go_at_call 45; go_must (refine calls_gen fun wc hwc => ?_; (first | have hbx := drew_below hwc | have hbx := eq_below hwc); replace HBc := hide (HBc.out.trans (hbx.mono HBc.out.size)); replace HKc := hide (HKc.out.later hbx); replace HPc := hide (HPc.out.later hbx); replace HAc := hide (HAc.out.later hbx); clear hwc hbx; refine (act_any _ _ _ f z y s2 _ HN.out HTB.out (HR.out.later HBc.out) hyn hlty U2.out).mono ?_; rintro e wd ⟨rfl, hbd⟩; replace HBc := hide (HBc.out.trans (hbd.mono HBc.out.size)); replace HKc := hide (HKc.out.later hbd); replace HPc := hide (HPc.out.later hbd); replace HAc := hide (HAc.out.later hbd); clear hbd; have k0 := HKc.out.cell 0 _ rfl; have p0 := HPc.out.cell 0 _ rfl; have p1 := HPc.out.cell 1 _ rfl; have c0 := (HBc.out.cell (p := ⟨b, o + s1, none⟩) hbw).trans D1.out; have c1 := (HBc.out.cell (p := ⟨b, o + s2, none⟩) hbw).trans D2.out)))
                  clear k0 p0 p1 c0 c1
                  go_wp2_with fail
                  have tok0 : True := trivial
                  have k0 := HKc.out.cell 0 _ rfl
                  have p0 := HPc.out.cell 0 _ rfl
                  have p1 := HPc.out.cell 1 _ rfl
                  have c0 := (HBc.out.cell (p := ⟨b, o + s3, none⟩) hbw).trans D3.out
                  have c1 := (HBc.out.cell (p := ⟨b, o + s4, none⟩) hbw).trans D4.out
                  go_region_held3 (fun w' => w'.cell? ⟨w.heap.size, 0, none⟩ = some (.slice A m c) ∧ w'.cell? ⟨P, 0, none⟩ = some (.int .i64 x) ∧ w'.cell? ⟨P, 1, none⟩ = some (.int .i64 z) ∧ w'.cell? ⟨b, o + s3, none⟩ = some (.int .i64 v3) ∧ w'.cell? ⟨b, o + s4, none⟩ = some (.int .i64 v3)) (first | exact ⟨k0, p0, p1, c0, c1⟩ | go_keep) (first | (go_at_call 45; have _t := tok0; clear _t tok0; go_must (refine calls_gen fun wc hwc => ?_; (first | have hbx := drew_below hwc | have hbx := eq_below hwc); replace HBc := hide (HBc.out.trans (hbx.mono HBc.out.size)); replace HKc := hide (HKc.out.later hbx); replace HPc := hide (HPc.out.later hbx); replace HAc := hide (HAc.out.later hbx); clear hwc hbx; refine (act_any _ _ _ f y x s3 _ HN.out HTB.out (HR.out.later HBc.out) hlty hxn U3.out).mono ?_; rintro e wd ⟨rfl, hbd⟩; replace HBc := hide (HBc.out.trans (hbd.mono HBc.out.size)); replace HKc := hide (HKc.out.later hbd); replace HPc := hide (HPc.out.later hbd); replace HAc := hide (HAc.out.later hbd); clear hbd; have k0 := HKc.out.cell 0 _ rfl; have p0 := HPc.out.cell 0 _ rfl; have p1 := HPc.out.cell 1 _ rfl; have c0 := (HBc.out.cell (p := ⟨b, o + s3, none⟩) hbw).trans D3.out; have c1 := (HBc.out.cell (p := ⟨b, o + s4, none⟩) hbw).trans D4.out)) | (go_at_call 45; go_must (refine calls_gen fun wc hwc => ?_; (first | have hbx := drew_below hwc | have hbx := eq_below hwc); replace HBc := hide (HBc.out.trans (hbx.mono HBc.out.size)); replace HKc := hide (HKc.out.later hbx); replace HPc := hide (HPc.out.later hbx); replace HAc := hide (HAc.out.later hbx); clear hwc hbx; refine (act_any _ _ _ f y z s4 _ HN.out HTB.out (HR.out.later HBc.out) hlty hyn U4.out).mono ?_; rintro e wd ⟨rfl, hbd⟩; replace HBc := hide (HBc.out.trans (hbd.mono HBc.out.size)); replace HKc := hide (HKc.out.later hbd); replace HPc := hide (HPc.out.later hbd); replace HAc := hide (HAc.out.later hbd); clear hbd; have k0 := HKc.out.cell 0 _ rfl; have p0 := HPc.out.cell 0 _ rfl; have p1 := HPc.out.cell 1 _ rfl; have c0 := (HBc.out.cell (p := ⟨b, o + s3, none⟩) hbw).trans D3.out; have c1 := (HBc.out.cell (p := ⟨b, o + s4, none⟩) hbw).trans D4.out)))
                  clear k0 p0 p1 c0 c1
                  go_wp2_with fail
                  go_ret
                  exact ⟨rfl, HBc.out⟩
                · have g1 : ((v1 : Int) == (v2 : Int)) = false := by simpa using fun h => hl (by omega)
                  have g2 : ¬ (v1 : Int) = (v2 : Int) := fun h => hl (by omega)
                  have g3 : ((v3 : Int) == (v4 : Int)) = false := by simpa using fun h => hr' (by omega)
                  have g4 : ¬ (v3 : Int) = (v4 : Int) := fun h => hr' (by omega)
                  have hrf : r = false := by
                    cases r
                    · rfl
                    · exact absurd (HAT.out.1 (HRC.out.1 rfl x (by have := HN.out; omega) z (by have := HN.out; omega) HYES.out y (by have := HN.out; omega))) (fun h => hl h.1)
                  subst hrf
                  go_wp2_with fail
                  have tok0 : True := trivial
                  have k0 := HKc.out.cell 0 _ rfl
                  have p0 := HPc.out.cell 0 _ rfl
                  have p1 := HPc.out.cell 1 _ rfl
                  have c0 := (HBc.out.cell (p := ⟨b, o + s1, none⟩) hbw).trans D1.out
                  have c1 := (HBc.out.cell (p := ⟨b, o + s2, none⟩) hbw).trans D2.out
                  go_region_held3 (fun w' => w'.cell? ⟨w.heap.size, 0, none⟩ = some (.slice A m c) ∧ w'.cell? ⟨P, 0, none⟩ = some (.int .i64 x) ∧ w'.cell? ⟨P, 1, none⟩ = some (.int .i64 z) ∧ w'.cell? ⟨b, o + s1, none⟩ = some (.int .i64 v1) ∧ w'.cell? ⟨b, o + s2, none⟩ = some (.int .i64 v2)) (first | exact ⟨k0, p0, p1, c0, c1⟩ | go_keep) (first | (go_at_call 45; have _t := tok0; clear _t tok0; go_must (refine calls_gen fun wc hwc => ?_; (first | have hbx := drew_below hwc | have hbx := eq_below hwc); replace HBc := hide (HBc.out.trans (hbx.mono HBc.out.size)); replace HKc := hide (HKc.out.later hbx); replace HPc := hide (HPc.out.later hbx); replace HAc := hide (HAc.out.later hbx); clear hwc hbx; refine (act_any _ _ _ f x y s1 _ HN.out HTB.out (HR.out.later HBc.out) hxn hlty U1.out).mono ?_; rintro e wd ⟨rfl, hbd⟩; replace HBc := hide (HBc.out.trans (hbd.mono HBc.out.size)); replace HKc := hide (HKc.out.later hbd); replace HPc := hide (HPc.out.later hbd); replace HAc := hide (HAc.out.later hbd); clear hbd; have k0 := HKc.out.cell 0 _ rfl; have p0 := HPc.out.cell 0 _ rfl; have p1 := HPc.out.cell 1 _ rfl; have c0 := (HBc.out.cell (p := ⟨b, o + s1, none⟩) hbw).trans D1.out; have c1 := (HBc.out.cell (p := ⟨b, o + s2, none⟩) hbw).trans D2.out)) | (go_at_call 45; go_must (refine calls_gen fun wc hwc => ?_; (first | have hbx := drew_below hwc | have hbx := eq_below hwc); replace HBc := hide (HBc.out.trans (hbx.mono HBc.out.size)); replace HKc := hide (HKc.out.later hbx); replace HPc := hide (HPc.out.later hbx); replace HAc := hide (HAc.out.later hbx); clear hwc hbx; refine (act_any _ _ _ f z y s2 _ HN.out HTB.out (HR.out.later HBc.out) hyn hlty U2.out).mono ?_; rintro e wd ⟨rfl, hbd⟩; replace HBc := hide (HBc.out.trans (hbd.mono HBc.out.size)); replace HKc := hide (HKc.out.later hbd); replace HPc := hide (HPc.out.later hbd); replace HAc := hide (HAc.out.later hbd); clear hbd; have k0 := HKc.out.cell 0 _ rfl; have p0 := HPc.out.cell 0 _ rfl; have p1 := HPc.out.cell 1 _ rfl; have c0 := (HBc.out.cell (p := ⟨b, o + s1, none⟩) hbw).trans D1.out; have c1 := (HBc.out.cell (p := ⟨b, o + s2, none⟩) hbw).trans D2.out)))
                  clear k0 p0 p1 c0 c1
                  go_wp2_with fail
                  have tok0 : True := trivial
                  have k0 := HKc.out.cell 0 _ rfl
                  have p0 := HPc.out.cell 0 _ rfl
                  have p1 := HPc.out.cell 1 _ rfl
                  have c0 := (HBc.out.cell (p := ⟨b, o + s3, none⟩) hbw).trans D3.out
                  have c1 := (HBc.out.cell (p := ⟨b, o + s4, none⟩) hbw).trans D4.out
                  go_region_held3 (fun w' => w'.cell? ⟨w.heap.size, 0, none⟩ = some (.slice A m c) ∧ w'.cell? ⟨P, 0, none⟩ = some (.int .i64 x) ∧ w'.cell? ⟨P, 1, none⟩ = some (.int .i64 z) ∧ w'.cell? ⟨b, o + s3, none⟩ = some (.int .i64 v3) ∧ w'.cell? ⟨b, o + s4, none⟩ = some (.int .i64 v4)) (first | exact ⟨k0, p0, p1, c0, c1⟩ | go_keep) (first | (go_at_call 45; have _t := tok0; clear _t tok0; go_must (refine calls_gen fun wc hwc => ?_; (first | have hbx := drew_below hwc | have hbx := eq_below hwc); replace HBc := hide (HBc.out.trans (hbx.mono HBc.out.size)); replace HKc := hide (HKc.out.later hbx); replace HPc := hide (HPc.out.later hbx); replace HAc := hide (HAc.out.later hbx); clear hwc hbx; refine (act_any _ _ _ f y x s3 _ HN.out HTB.out (HR.out.later HBc.out) hlty hxn U3.out).mono ?_; rintro e wd ⟨rfl, hbd⟩; replace HBc := hide (HBc.out.trans (hbd.mono HBc.out.size)); replace HKc := hide (HKc.out.later hbd); replace HPc := hide (HPc.out.later hbd); replace HAc := hide (HAc.out.later hbd); clear hbd; have k0 := HKc.out.cell 0 _ rfl; have p0 := HPc.out.cell 0 _ rfl; have p1 := HPc.out.cell 1 _ rfl; have c0 := (HBc.out.cell (p := ⟨b, o + s3, none⟩) hbw).trans D3.out; have c1 := (HBc.out.cell (p := ⟨b, o + s4, none⟩) hbw).trans D4.out)) | (go_at_call 45; go_must (refine calls_gen fun wc hwc => ?_; (first | have hbx := drew_below hwc | have hbx := eq_below hwc); replace HBc := hide (HBc.out.trans (hbx.mono HBc.out.size)); replace HKc := hide (HKc.out.later hbx); replace HPc := hide (HPc.out.later hbx); replace HAc := hide (HAc.out.later hbx); clear hwc hbx; refine (act_any _ _ _ f y z s4 _ HN.out HTB.out (HR.out.later HBc.out) hlty hyn U4.out).mono ?_; rintro e wd ⟨rfl, hbd⟩; replace HBc := hide (HBc.out.trans (hbd.mono HBc.out.size)); replace HKc := hide (HKc.out.later hbd); replace HPc := hide (HPc.out.later hbd); replace HAc := hide (HAc.out.later hbd); clear hbd; have k0 := HKc.out.cell 0 _ rfl; have p0 := HPc.out.cell 0 _ rfl; have p1 := HPc.out.cell 1 _ rfl; have c0 := (HBc.out.cell (p := ⟨b, o + s3, none⟩) hbw).trans D3.out; have c1 := (HBc.out.cell (p := ⟨b, o + s4, none⟩) hbw).trans D4.out)))
                  clear k0 p0 p1 c0 c1
                  go_wp2_with fail
                  go_ret
                  exact ⟨rfl, HBc.out⟩
            · have hym : y = m := by omega
              subst hym
              go_wp2_with fail
              go_roundw
              case rel => exact ⟨k + 1, by omega, by go_num, HBc.out, HKc.out, HAc.out, fun i hi => by
                by_cases e : i = k
                · rw [e, HX.out, HZ.out]; exact fun _ y' hy' => HALLI.out y' (by have := HN.out; omega)
                · exact HALL.out i (by omega)⟩
              case measure => simp [intOf]; omega
      · have HNO := hide (fun h => hq (HEQ.out.1 h))
        have hqz : ((a : Int) == (a' : Int)) = false := by simpa using fun h => hq (by omega)
        have hqz2 : ((a : Int) != (a' : Int)) = true := by simpa using fun h => hq (by omega)
        go_region_held3 (fun w' => w'.cell? ⟨P, 0, none⟩ = some (.int .i64 x) ∧ w'.cell? ⟨P, 1, none⟩ = some (.int .i64 z) ∧ w'.cell? ⟨b, o + x, none⟩ = some (.int .i64 a) ∧ w'.cell? ⟨b, o + z, none⟩ = some (.int .i64 a')) (first | exact ⟨p0, p1, c0, c1⟩ | go_keep) (first | fail)
        all_goals
          clear p0 p1 c0 c1
          go_wp2_with fail
          go_roundw
          case rel => exact ⟨k + 1, by omega, by go_num, HB4.out.drew, HK4.out.drew, HA4.out.later ((Below.refl _ _).drew), fun i hi => by
            by_cases e : i = k
            · rw [e, HX.out, HZ.out]; exact fun h => absurd h HNO.out
            · exact HALL.out i (by omega)⟩
          case measure => simp [intOf]; omega
    · have hkn : k = N := by omega
      subst hkn
      have hrt : r = true := HRC.out.2 (cg_pairs HN.out (fun i hi => HALL.out i (by rw [← HNN.out]; exact hi)))
      subst hrt
      go_wp2_with fail
      go_ret
      exact ⟨rfl, HB.out⟩
end Go.Proofs.Ytljdfanebjhhmaa
namespace Go.Proofs.Ytljdfanebjhhmaa
open Go Go.RowKit
set_option maxHeartbeats 1000000

set_option maxRecDepth 100000 in
theorem isPart_any (A : Option Addr) (n c : Nat) (B : Option Addr) (m d : Nat) (xs : List Int) (r : Bool) (w : World) (hn : n ≤ 1048576) (hm : xs.length = m) (hb : m ≤ 1048576) (hr : Rd w B xs) (hres : r = true ↔ m = n ∧ Canon xs) :
    Calls Try.prog 52 #[.agg #[.slice A n c], .slice B m d] w fun e w' => e = .returned (.bool r) ∧ Below w.heap.size w w' := by
  have HM := hide hm
  have HRES := hide hres
  have HR := hide hr
  have HB0 := hide ((Below.refl _ w).alloc (Nat.le_refl _) (Obj.cells #[Value.slice A n c] 26))
  clear hm hres hr
  by_cases hmn : m = n
  · subst hmn
    go_enter Try.func52, Try.ntmps52
    go_wp2_with fail
    go_loopw [5, 16] (fun v i wr => ∃ k : Nat, k ≤ m ∧ v = .int .i64 (nxt xs k) ∧ i = .int .i64 k ∧ Below w.heap.size w wr ∧ ∀ j, j < k → 0 ≤ xs.getD j 0 ∧ xs.getD j 0 ≤ (nxt xs j : Int)) (fun _ i _ => m - (intOf i).toNat)
    case atStart => exact ⟨0, Nat.zero_le _, rfl, rfl, HB0.out, fun j hj => absurd hj (Nat.not_lt_zero _)⟩
    case round =>
      obtain ⟨k, hk, rfl, rfl, hbe, hall⟩ := hrel
      have HB := hide hbe
      have HALL := hide hall
      clear hbe hall
      by_cases hlt : k < m
      · obtain ⟨b, o, rfl, hbw, hc⟩ := HR.out (by have := HM.out; omega)
        have hc1 := (HB.out.cell (p := ⟨b, o + k, none⟩) hbw).trans (hc k (by have := HM.out; omega))
        have hltz : (k : Int) < m := by omega
        have hnk := nxt_le xs k
        obtain ⟨x, hx⟩ : ∃ x, xs.getD k 0 = x := ⟨_, rfl⟩
        have hnx : nxt xs (k + 1) = if x = (nxt xs k : Int) then nxt xs k + 1 else nxt xs k := by rw [← hx]; rfl
        obtain ⟨q, hq⟩ : ∃ q, nxt xs k = q := ⟨_, rfl⟩
        rw [hx] at hc1
        rw [hq] at hnk hnx ⊢
        have HX := hide hx
        have HQ := hide hq
        have HNX := hide hnx
        clear hx hq hc hnx
        by_cases h1 : x < 0
        · have hrf : r = false := by
            cases r
            · rfl
            · exact absurd (by have h := (HRES.out.1 rfl).2 k (by have := HM.out; omega); rw [HX.out] at h; exact h.1) (by omega)
          subst hrf
          go_wp2_with fail
          go_ret
          exact ⟨rfl, HB.out⟩
        · by_cases h2 : (q : Int) < x
          · have hrf : r = false := by
              cases r
              · rfl
              · exact absurd (by have h := (HRES.out.1 rfl).2 k (by have := HM.out; omega); rw [HX.out, HQ.out] at h; exact h.2) (by omega)
            subst hrf
            go_wp2_with fail
            go_ret
            exact ⟨rfl, HB.out⟩
          · by_cases he : x = (q : Int)
            · subst he
              have HN1 : Hid (nxt xs (k + 1) = q + 1) := hide (by rw [HNX.out]; simp)
              go_wp2_with fail
              go_roundw
              case rel => exact ⟨k + 1, by omega, by rw [HN1.out]; go_num, by go_num, HB.out, fun j hj => by
                by_cases e : j = k
                · rw [e, HX.out, HQ.out]; omega
                · exact HALL.out j (by omega)⟩
              case measure => simp [intOf]; omega
            · have hxb : (x == (q : Int)) = false := by simpa using he
              have HN1 : Hid (nxt xs (k + 1) = q) := hide (by rw [HNX.out, if_neg he])
              clear he
              go_wp2_with fail
              go_roundw
              case rel => exact ⟨k + 1, by omega, by rw [HN1.out], by go_num, HB.out, fun j hj => by
                by_cases e : j = k
                · rw [e, HX.out, HQ.out]; omega
                · exact HALL.out j (by omega)⟩
              case measure => simp [intOf]; omega
      · have hkn : k = m := by omega
        subst hkn
        have hrt : r = true := HRES.out.2 ⟨by first | rfl | trivial, fun i hi => HALL.out i (by have := HM.out; omega)⟩
        subst hrt
        go_wp2_with fail
        go_ret
        exact ⟨rfl, HB.out⟩
  · have hrf : r = false := by
      cases r
      · rfl
      · exact absurd (HRES.out.1 rfl).1 hmn
    subst hrf
    have hez : ¬ (m : Int) = (n : Int) := by omega
    have hez2 : ((m : Int) != (n : Int)) = true := by simpa using hez
    go_enter Try.func52, Try.ntmps52
    go_wp2_with fail
    go_ret
    exact ⟨rfl, HB0.out⟩
end Go.Proofs.Ytljdfanebjhhmaa
