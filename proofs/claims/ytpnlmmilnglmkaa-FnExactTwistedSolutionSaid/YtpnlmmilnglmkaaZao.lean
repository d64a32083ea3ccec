import Derived.Test.YtpnlmmilnglmkaaZal
import Derived.Test.YtpnlmmilnglmkaaZak
import Derived.Test.YtpnlmmilnglmkaaZk
import Derived.Test.YtpnlmmilnglmkaaZj
import Derived.Test.YtpnlmmilnglmkaaZan
namespace Go.Proofs.Ytpnlmmilnglmkaa
open Go Go.RowKit
set_option maxHeartbeats 2000000

set_option maxRecDepth 100000 in
theorem hasAut_any (A : Option Addr) (n c : Nat) (f : List (List Int)) (D : Option Addr) (d : Nat) (p : List Int) (r : Bool) (w : World) (hn : f.length = n) (ht : Tbl f) (hr : Rd2 w A f) (hm : p.length = n) (hpr : Prm p) (hrp : Rd w D p) (hrc : r = true ↔ AutF f p) :
    Calls Try.prog 86 #[.agg #[.slice A n c], .slice D n d] w fun e w' => e = .returned (.bool r) ∧ Below w.heap.size w w' := by
  have h1 : 1 ≤ n := by rw [← hn]; exact ht.1
  have h12 : n ≤ 12 := by rw [← hn]; exact ht.2.1
  have HN := hide hn
  have HM := hide hm
  have HTB := hide ht
  have HR := hide hr
  have HRC := hide hrc
  have HPR := hide hpr
  obtain ⟨bp, op_, rfl, hbp, hcp⟩ := hrp (by omega)
  have HCP := hide hcp
  obtain ⟨N, hN⟩ : ∃ N, n * n = N := ⟨_, rfl⟩
  have hN144 : N ≤ 144 := by rw [← hN]; exact sq_le n h12
  have HNN := hide hN
  have HB0 := hide ((Below.refl _ w).alloc (Nat.le_refl _) (Obj.cells #[Value.slice A n c] 27))
  have HK0 := hide (Blk.new w 27 [.slice A n c])
  clear hn ht hr hrc hN hm hpr hcp
  go_enter Try.func86, Try.ntmps86
  go_wp2_with fail
  refine (ksize_any _ _ _ _ (by omega)).mono ?_
  rintro e w2 ⟨rfl, hb2⟩
  have HB2 := hide (HB0.out.trans (hb2.mono HB0.out.size))
  have HK2 := hide (HK0.out.later hb2)
  clear hb2
  go_wp2_with fail
  refine (pairsOf_any n N _ h1 h12 HNN.out).mono ?_
  rintro e w3 ⟨g, rfl, hb3, hg3, hpa⟩
  have HB3 := hide (HB2.out.trans (hb3.mono HB2.out.size))
  have HK3 := hide (HK2.out.later hb3)
  have HPA3 := hide hpa
  clear hb3 hpa
  go_wp2_with fail
  go_loopw [11] (fun i wr => ∃ k : Nat, k ≤ N ∧ i = .int .i64 k ∧ Below w.heap.size w wr ∧ Blk wr w.heap.size 27 [.slice A n c] ∧ PairsAt wr g n ∧ ∀ i, i < k → ap f (pq p (i / n)) (pq p (i % n)) = pq p (ap f (i / n) (i % n))) (fun i _ => N - (intOf i).toNat)
  case atStart => exact ⟨0, Nat.zero_le _, rfl, HB3.out, HK3.out, HPA3.out, fun i hi => absurd hi (by omega)⟩
  case round =>
    obtain ⟨k, hk, rfl, hbe, hkk, hpa, hall⟩ := hrel
    have HB := hide hbe
    have HK := hide hkk
    have HPA := hide hpa
    have HALL := hide hall
    clear hbe hkk hpa hall
    have k0 := HK.out.cell 0 _ rfl
    have k2 := fun o => (HK.out.alloc o).cell 0 _ rfl
    by_cases hlt : k < N
    · have hkz : (k : Int) < N := by omega
      obtain ⟨p0, p1⟩ := HPA.out.2 k (by rw [HNN.out]; exact hlt)
      have hxn : k / n < n := div_lt_sq (by rw [HNN.out]; exact hlt)
      have hyn : k % n < n := mod_lt_sq (by rw [HNN.out]; exact hlt)
      obtain ⟨x, hx⟩ : ∃ x, k / n = x := ⟨_, rfl⟩
      obtain ⟨y, hy⟩ : ∃ y, k % n = y := ⟨_, rfl⟩
      rw [hx] at p0 hxn
      rw [hy] at p1 hyn
      have HX := hide hx
      have HY := hide hy
      clear hx hy
      have hq1 := HTB.out.ap_lt HN.out hxn hyn
      obtain ⟨q1, h_1⟩ : ∃ u, ap f x y = u := ⟨_, rfl⟩
      rw [h_1] at hq1
      have hpx0 := pq_eq HPR.out (x := x) (by have := HM.out; omega)
      have hpy0 := pq_eq HPR.out (x := y) (by have := HM.out; omega)
      have hpv0 := pq_eq HPR.out (x := q1) (by have := HM.out; omega)
      have c1 := HCP.out q1 (by have := HM.out; omega)
      have c2 := HCP.out x (by have := HM.out; omega)
      have c3 := HCP.out y (by have := HM.out; omega)
      rw [hpv0.1] at c1
      rw [hpx0.1] at c2
      rw [hpy0.1] at c3
      have hpx := hpx0.2
      have hpy := hpy0.2
      rw [HM.out] at hpx hpy
      obtain ⟨px, h_px⟩ : ∃ u, pq p x = u := ⟨_, rfl⟩
      obtain ⟨py, h_py⟩ : ∃ u, pq p y = u := ⟨_, rfl⟩
      obtain ⟨v1, h_v1⟩ : ∃ u, pq p q1 = u := ⟨_, rfl⟩
      rw [h_px] at c2 hpx
      rw [h_py] at c3 hpy
      rw [h_v1] at c1
      obtain ⟨q2, h_2⟩ : ∃ u, ap f px py = u := ⟨_, rfl⟩
      have U1 := hide h_1
      have U2 := hide h_2
      have EPX := hide h_px
      have EPY := hide h_py
      have EV1 := hide h_v1
      have E1 := hide c1
      have E2 := hide c2
      have E3 := hide c3
      have hpxz : (px : Int) < n := by omega
      have hpyz : (py : Int) < n := by omega
      have hq1z : (q1 : Int) < n := by omega
      have hxz : (x : Int) < n := by omega
      have hyz : (y : Int) < n := by omega
      clear h_1 h_2 h_px h_py h_v1 c1 c2 c3 hpx0 hpy0 hpv0
      go_wp2_with fail
      refine wp_gen fun w4 hw4 => ?_
      obtain ⟨P, hPe⟩ : ∃ P, wr.heap.size = P := ⟨_, rfl⟩
      have HBc : Hid (Below w.heap.size w w4) := hide (by rw [hw4]; exact HB.out.alloc HB.out.size _)
      have HKc : Hid (Blk w4 w.heap.size 27 [.slice A n c]) := hide (by rw [hw4]; exact HK.out.alloc _)
      have HPc : Hid (Blk w4 P 97 [.int .i64 x, .int .i64 y]) := hide (by rw [hw4, ← hPe]; exact Blk.new _ _ _)
      have HAc : Hid (PairsAt w4 g n) := hide (by rw [hw4]; exact HPA.out.later ((Below.refl _ _).alloc (Nat.le_refl _) _))
      rw [hPe]
      clear hw4 k0 k2 p0 p1 hPe
      have k0 := HKc.out.cell 0 _ rfl
      have p0 := HPc.out.cell 0 _ rfl
      have p1 := HPc.out.cell 1 _ rfl
      have e1 := (HBc.out.cell (p := ⟨bp, op_ + q1, none⟩) hbp).trans E1.out
      have e2 := (HBc.out.cell (p := ⟨bp, op_ + x, none⟩) hbp).trans E2.out
      have e3 := (HBc.out.cell (p := ⟨bp, op_ + y, none⟩) hbp).trans E3.out
      have tok0 : True := trivial
      have tok1 : True := trivial
      by_cases hcs : v1 = q2
      · have HYES : Hid (ap f (pq p x) (pq p y) = pq p (ap f x y)) := hide (by rw [EPX.out, EPY.out, U1.out, U2.out, EV1.out, hcs])
        have hcz : ((v1 : Int) != (q2 : Int)) = false := by rw [hcs]; simp
        clear hcs
        go_region_held3 (fun w' => w'.cell? ⟨w.heap.size, 0, none⟩ = some (.slice A n c) ∧ w'.cell? ⟨P, 0, none⟩ = some (.int .i64 x) ∧ w'.cell? ⟨P, 1, none⟩ = some (.int .i64 y) ∧ w'.cell? ⟨bp, op_ + q1, none⟩ = some (.int .i64 v1) ∧ w'.cell? ⟨bp, op_ + x, none⟩ = some (.int .i64 px) ∧ w'.cell? ⟨bp, op_ + y, none⟩ = some (.int .i64 py)) (first | exact ⟨k0, p0, p1, e1, e2, e3⟩ | go_keep) (first | (go_at_call 90; have _t := tok0; clear _t tok0; go_must (refine calls_gen fun wc hwc => ?_; (first | have hbx := drew_below hwc | have hbx := eq_below hwc); replace HBc := hide (HBc.out.trans (hbx.mono HBc.out.size)); replace HKc := hide (HKc.out.later hbx); replace HPc := hide (HPc.out.later hbx); replace HAc := hide (HAc.out.later hbx); clear hwc hbx; refine (act_any _ _ _ f x y q1 _ HN.out HTB.out (HR.out.later HBc.out) hxn hyn U1.out).mono ?_; rintro e wd ⟨rfl, hbd⟩; replace HBc := hide (HBc.out.trans (hbd.mono HBc.out.size)); replace HKc := hide (HKc.out.later hbd); replace HPc := hide (HPc.out.later hbd); replace HAc := hide (HAc.out.later hbd); clear hbd; have k0 := HKc.out.cell 0 _ rfl; have p0 := HPc.out.cell 0 _ rfl; have p1 := HPc.out.cell 1 _ rfl; have e1 := (HBc.out.cell (p := ⟨bp, op_ + q1, none⟩) hbp).trans E1.out; have e2 := (HBc.out.cell (p := ⟨bp, op_ + x, none⟩) hbp).trans E2.out; have e3 := (HBc.out.cell (p := ⟨bp, op_ + y, none⟩) hbp).trans E3.out)) | (go_at_call 90; have _t := tok1; clear _t tok1; go_must (refine calls_gen fun wc hwc => ?_; (first | have hbx := drew_below hwc | have hbx := eq_below hwc); replace HBc := hide (HBc.out.trans (hbx.mono HBc.out.size)); replace HKc := hide (HKc.out.later hbx); replace HPc := hide (HPc.out.later hbx); replace HAc := hide (HAc.out.later hbx); clear hwc hbx; refine (act_any _ _ _ f px py q2 _ HN.out HTB.out (HR.out.later HBc.out) hpx hpy U2.out).mono ?_; rintro e wd ⟨rfl, hbd⟩; replace HBc := hide (HBc.out.trans (hbd.mono HBc.out.size)); replace HKc := hide (HKc.out.later hbd); replace HPc := hide (HPc.out.later hbd); replace HAc := hide (HAc.out.later hbd); clear hbd; have k0 := HKc.out.cell 0 _ rfl; have p0 := HPc.out.cell 0 _ rfl; have p1 := HPc.out.cell 1 _ rfl; have e1 := (HBc.out.cell (p := ⟨bp, op_ + q1, none⟩) hbp).trans E1.out; have e2 := (HBc.out.cell (p := ⟨bp, op_ + x, none⟩) hbp).trans E2.out; have e3 := (HBc.out.cell (p := ⟨bp, op_ + y, none⟩) hbp).trans E3.out)))
        all_goals
          clear k0 p0 p1 e1 e2 e3
          go_wp2_with fail
          go_roundw
          case rel => exact ⟨k + 1, by omega, by go_num, HBc.out, HKc.out, HAc.out, fun i hi => by
            by_cases e : i = k
            · rw [e, HX.out, HY.out]; exact HYES.out
            · exact HALL.out i (by omega)⟩
          case measure => simp [intOf]; omega
      · have hcz : ((v1 : Int) != (q2 : Int)) = true := by rw [bne_iff_ne]; omega
        have hrf : r = false := by
          cases r
          · rfl
          · have h := HRC.out.1 rfl x y (by have := HN.out; omega) (by have := HN.out; omega)
            rw [EPX.out, EPY.out, U1.out, U2.out, EV1.out] at h
            exact absurd h.symm hcs
        subst hrf
        go_region_held3 (fun w' => w'.cell? ⟨w.heap.size, 0, none⟩ = some (.slice A n c) ∧ w'.cell? ⟨P, 0, none⟩ = some (.int .i64 x) ∧ w'.cell? ⟨P, 1, none⟩ = some (.int .i64 y) ∧ w'.cell? ⟨bp, op_ + q1, none⟩ = some (.int .i64 v1) ∧ w'.cell? ⟨bp, op_ + x, none⟩ = some (.int .i64 px) ∧ w'.cell? ⟨bp, op_ + y, none⟩ = some (.int .i64 py)) (first | exact ⟨k0, p0, p1, e1, e2, e3⟩ | go_keep) (first | (go_at_call 90; have _t := tok0; clear _t tok0; go_must (refine calls_gen fun wc hwc => ?_; (first | have hbx := drew_below hwc | have hbx := eq_below hwc); replace HBc := hide (HBc.out.trans (hbx.mono HBc.out.size)); replace HKc := hide (HKc.out.later hbx); replace HPc := hide (HPc.out.later hbx); replace HAc := hide (HAc.out.later hbx); clear hwc hbx; refine (act_any _ _ _ f x y q1 _ HN.out HTB.out (HR.out.later HBc.out) hxn hyn U1.out).mono ?_; rintro e wd ⟨rfl, hbd⟩; replace HBc := hide (HBc.out.trans (hbd.mono HBc.out.size)); replace HKc := hide (HKc.out.later hbd); replace HPc := hide (HPc.out.later hbd); replace HAc := hide (HAc.out.later hbd); clear hbd; have k0 := HKc.out.cell 0 _ rfl; have p0 := HPc.out.cell 0 _ rfl; have p1 := HPc.out.cell 1 _ rfl; have e1 := (HBc.out.cell (p := ⟨bp, op_ + q1, none⟩) hbp).trans E1.out; have e2 := (HBc.out.cell (p := ⟨bp, op_ + x, none⟩) hbp).trans E2.out; have e3 := (HBc.out.cell (p := ⟨bp, op_ + y, none⟩) hbp).trans E3.out)) | (go_at_call 90; have _t := tok1; clear _t tok1; go_must (refine calls_gen fun wc hwc => ?_; (first | have hbx := drew_below hwc | have hbx := eq_below hwc); replace HBc := hide (HBc.out.trans (hbx.mono HBc.out.size)); replace HKc := hide (HKc.out.later hbx); replace HPc := hide (HPc.out.later hbx); replace HAc := hide (HAc.out.later hbx); clear hwc hbx; refine (act_any _ _ _ f px py q2 _ HN.out HTB.out (HR.out.later HBc.out) hpx hpy U2.out).mono ?_; rintro e wd ⟨rfl, hbd⟩; replace HBc := hide (HBc.out.trans (hbd.mono HBc.out.size)); replace HKc := hide (HKc.out.later hbd); replace HPc := hide (HPc.out.later hbd); replace HAc := hide (HAc.out.later hbd); clear hbd; have k0 := HKc.out.cell 0 _ rfl; have p0 := HPc.out.cell 0 _ rfl; have p1 := HPc.out.cell 1 _ rfl; have e1 := (HBc.out.cell (p := ⟨bp, op_ + q1, none⟩) hbp).trans E1.out; have e2 := (HBc.out.cell (p := ⟨bp, op_ + x, none⟩) hbp).trans E2.out; have e3 := (HBc.out.cell (p := ⟨bp, op_ + y, none⟩) hbp).trans E3.out)))
        all_goals
          clear k0 p0 p1 e1 e2 e3
          go_wp2_with fail
          go_ret
          exact ⟨rfl, HBc.out⟩
    · have hkn : k = N := by omega
      subst hkn
      have hrt : r = true := HRC.out.2 (fun a b ha hb => by
        have ha' : a < n := by have := HN.out; omega
        have hb' : b < n := by have := HN.out; omega
        have h := HALL.out (a * n + b) (by rw [← HNN.out]; exact pair_lt n a b ha' hb')
        rw [pair_div n a b hb', pair_mod n a b hb'] at h
        exact h)
      subst hrt
      clear k0 k2
      go_wp2_with fail
      go_ret
      exact ⟨rfl, HB.out⟩

end Go.Proofs.Ytpnlmmilnglmkaa
