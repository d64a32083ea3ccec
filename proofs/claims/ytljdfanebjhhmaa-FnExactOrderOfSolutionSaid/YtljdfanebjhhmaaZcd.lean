import Derived.Test.YtljdfanebjhhmaaZbv
import Derived.Test.YtljdfanebjhhmaaZcc
import Derived.Test.YtljdfanebjhhmaaZbk
namespace Go.Proofs.Ytljdfanebjhhmaa
open Go Go.RowKit
set_option maxHeartbeats 2000000

set_option maxRecDepth 100000 in
theorem osI_any (A : Option Addr) (n c : Nat) (f : List (List Int)) (B : Option Addr) (m d : Nat) (s : List (List Int)) (v code : Int) (w : World) (hz : ZArg 1048576 w A n f B m s) (hr : OsRes f s v code) :
    Calls Try.prog 36 #[.agg #[.slice A n c, .slice B m d]] w fun e w' => e = .returned (.tuple #[.int .i64 v, .int .i64 code]) ∧ Below w.heap.size w w' := by
  have hnb := hz.sz.nb
  have HZ := hide hz
  have HFL := hide hz.sz.fl
  have HB0 := hide ((Below.refl _ w).alloc (Nat.le_refl _) (Obj.cells #[Value.slice A n c, Value.slice B m d] 46))
  have HK0 := hide (Blk.new w 46 [.slice A n c, .slice B m d])
  have HR := hide hr
  by_cases hs : SolF f s
  · have HS := hide hs
    have HP := hide hs.1
    have hc := hs.2.1
    rw [hz.sz.fl] at hc
    have HC := hide hc
    have h12 := hz.small hs.1
    clear hz hr hs hc
    obtain ⟨N, hN⟩ : ∃ N, n * n = N := ⟨_, rfl⟩
    have hN144 : N ≤ 144 := by rw [← hN]; exact sq_le n h12.2
    have HN := hide hN
    clear hN
    go_enter Try.func36, Try.ntmps36
    go_wp2_with fail
    refine (isI_any _ _ _ f _ _ _ s true _ (HZ.out.later HB0.out) (by simp [IsRes, HS.out])).mono ?_
    rintro e w1 ⟨rfl, hb1⟩
    have HB1 := hide (HB0.out.trans (hb1.mono HB0.out.size))
    have HK1 := hide (HK0.out.later hb1)
    have k0 := HK1.out.cell 0 _ rfl
    have k1 := HK1.out.cell 1 _ rfl
    clear hb1
    go_wp2_with fail
    clear k0 k1
    refine (size_any _ _ _ _ _ _ _ hnb).mono ?_
    rintro e w2 ⟨rfl, hb2⟩
    have HB2 := hide (HB1.out.trans (hb2.mono HB1.out.size))
    have HK2 := hide (HK1.out.later hb2)
    clear hb2
    go_wp2_with fail
    refine (pairsOf_any n N _ h12.1 h12.2 HN.out).mono ?_
    rintro e w3 ⟨g, rfl, hb3, hg3, hpa⟩
    have HB3 := hide (HB2.out.trans (hb3.mono HB2.out.size))
    have HK3 := hide (HK2.out.later hb3)
    have HPA3 := hide hpa
    clear hb3 hpa
    go_wp2_with fail
    go_outline
    go_loopw [16, 4] (fun i o wr => ∃ k : Nat, k ≤ N ∧ i = .int .i64 k ∧ o = .int .i64 (ordN f s n k) ∧ Below w.heap.size w wr ∧ Blk wr w.heap.size 46 [.slice A n c, .slice B m d] ∧ PairsAt wr g n ∧ ∀ j, j ≤ k → ordN f s n j ≤ 1000000) (fun i _ _ => N - (intOf i).toNat)
    case atStart => exact ⟨0, Nat.zero_le _, rfl, rfl, HB3.out, HK3.out, HPA3.out, ordN_base f s n⟩
    case round =>
      obtain ⟨k, hk, rfl, rfl, hbe, hkk, hpa, hall⟩ := hrel
      have HB := hide hbe
      have HK := hide hkk
      have HPA := hide hpa
      have HALL := hide hall
      clear hbe hkk hpa hall
      by_cases hlt : k < N
      · have hkz : (k : Int) < N := by omega
        obtain ⟨p0, p1⟩ := HPA.out.2 k (by rw [HN.out]; exact hlt)
        have hxn : k / n < n := div_lt_sq (by rw [HN.out]; exact hlt)
        have hyn : k % n < n := mod_lt_sq (by rw [HN.out]; exact hlt)
        have hlen := lenN_of HP.out HFL.out HC.out (k := k) (by rw [HN.out]; exact hlt)
        have hpos := ordN_pos (f := f) (s := s) (n := n) (fun j hj => (lenN_of HP.out HFL.out HC.out (k := j) hj).2.1) k (by rw [HN.out]; exact hk)
        obtain ⟨L, hL⟩ : ∃ L, lenN f s n k = L := ⟨_, rfl⟩
        obtain ⟨o, ho⟩ : ∃ o, ordN f s n k = o := ⟨_, rfl⟩
        have ho6 : o ≤ 1000000 := by rw [← ho]; exact HALL.out k (Nat.le_refl _)
        have hnext : ordN f s n (k + 1) = Nat.lcm o L := by rw [← ho, ← hL]; rfl
        rw [hL, HN.out] at hlen
        rw [ho] at hpos
        rw [ho]
        obtain ⟨hL144, hL1, hLe, hLn⟩ := hlen
        have HNEXT := hide hnext
        have HLE := hide hLe
        have HLN := hide hLn
        have HLL := hide hL
        have HO := hide ho
        clear hL ho hLe hLn hnext
        obtain ⟨x, hx⟩ : ∃ x, k / n = x := ⟨_, rfl⟩
        obtain ⟨y, hy⟩ : ∃ y, k % n = y := ⟨_, rfl⟩
        rw [hx] at p0 hxn
        rw [hy] at p1 hyn
        have HX := hide hx
        have HY := hide hy
        clear hx hy
        have hstep1 := stpN_div HP.out HFL.out (k := k) (by rw [HN.out]; exact hlt)
        rw [HX.out, HY.out] at hstep1
        have k0 := fun o => (HK.out.alloc o).cell 0 _ rfl
        have k1 := fun o => (HK.out.alloc o).cell 1 _ rfl
        go_wp2_with fail
        clear k0 k1 p0 p1
        refine calls_gen fun w4 hw4 => ?_
        obtain ⟨P, hPe⟩ : ∃ P, wr.heap.size = P := ⟨_, rfl⟩
        have hbx : Below wr.heap.size wr w4 := by rw [hw4]; exact (Below.refl _ _).alloc (Nat.le_refl _) _
        have HP4 : Hid (Blk w4 P 84 [.int .i64 x, .int .i64 y]) := hide (by rw [hw4, ← hPe]; exact Blk.new _ _ _)
        have HB4 := hide (HB.out.trans (hbx.mono HB.out.size))
        have HK4 := hide (HK.out.later hbx)
        have HA4 := hide (HPA.out.later hbx)
        rw [hPe]
        clear hw4 hbx hPe
        refine (lead_any _ _ _ f _ _ _ s x y _ (HZ.out.later HB4.out) HP.out hxn hyn).mono ?_
        rintro e w5 ⟨rfl, hb5⟩
        have HP5 := hide (HP4.out.later hb5)
        have HB5 := hide (HB4.out.trans (hb5.mono HB4.out.size))
        have HK5 := hide (HK4.out.later hb5)
        have HA5 := hide (HA4.out.later hb5)
        clear hb5
        obtain ⟨u, hue⟩ : ∃ u, ap f x y = u := ⟨_, rfl⟩
        obtain ⟨v9, hve⟩ : ∃ v9, ap s x y = v9 := ⟨_, rfl⟩
        rw [hue, hve] at hstep1
        rw [hue, hve]
        have HST := hide hstep1
        clear hue hve hstep1
        go_wp2_with fail
        go_outline
        go_loopw [7, 8] (fun l q wi => ∃ (j Q a b : Nat), l = .int .i64 j ∧ q = .pointer (some ⟨Q, 0, none⟩) ∧ 1 ≤ j ∧ j ≤ L ∧ a < n ∧ b < n ∧ a = itf (stpN f s n) j k / n ∧ b = itf (stpN f s n) j k % n ∧ Below w5.heap.size w5 wi ∧ w5.heap.size ≤ Q ∧ Blk wi Q 84 [.int .i64 a, .int .i64 b]) (fun l _ _ => L - (intOf l).toNat)
        case atStart =>
          refine ⟨1, _, u, v9, rfl, rfl, Nat.le_refl _, hL1, ?_, ?_, HST.out.1.symm, HST.out.2.1.symm, (Below.refl _ _).alloc (Nat.le_refl _) _, Nat.le_refl _, Blk.new _ _ _⟩
          · rw [← HST.out.1]; exact div_lt_sq HST.out.2.2
          · rw [← HST.out.2.1]; exact mod_lt_sq HST.out.2.2
        case round =>
          obtain ⟨j, Q, a, b, rfl, rfl, hj1, hjL, han, hbn, ha, hb, hbi, hQ, hq⟩ := hrel
          have HA9 := hide ha
          have HB9 := hide hb
          have HBI := hide hbi
          have HQB := hide hq
          have HKI := hide (HK5.out.later hbi)
          have HPI := hide (HP5.out.later hbi)
          clear ha hb hbi hq
          have p0 := HPI.out.cell 0 _ rfl
          have p1 := HPI.out.cell 1 _ rfl
          have q0 := HQB.out.cell 0 _ rfl
          have q1 := HQB.out.cell 1 _ rfl
          have hcs : (((a : Int) == (x : Int)) = false ∧ Hid (itf (stpN f s n) j k ≠ k)) ∨ (((a : Int) == (x : Int)) = true ∧ ((b : Int) == (y : Int)) = false ∧ Hid (itf (stpN f s n) j k ≠ k)) ∨ (((a : Int) == (x : Int)) = true ∧ ((b : Int) == (y : Int)) = true ∧ Hid (itf (stpN f s n) j k = k)) := by
            by_cases z1 : a = x
            · by_cases z2 : b = y
              · refine .inr (.inr ⟨by simp [z1], by simp [z2], hide ?_⟩)
                have e1 : itf (stpN f s n) j k / n = k / n := by rw [← HA9.out, HX.out, z1]
                have e2 : itf (stpN f s n) j k % n = k % n := by rw [← HB9.out, HY.out, z2]
                have d1 := Nat.div_add_mod (itf (stpN f s n) j k) n
                have d2 := Nat.div_add_mod k n
                rw [e1, e2] at d1
                rw [← d1, d2]
              · exact .inr (.inl ⟨by simp [z1], by simp; omega, hide (fun e => z2 (by rw [HB9.out, e, HY.out]))⟩)
            · exact .inl ⟨by simp; omega, hide (fun e => z1 (by rw [HA9.out, e, HX.out]))⟩
          rcases hcs with ⟨t1, HNE⟩ | ⟨t1, t2, HNE⟩ | ⟨t1, t2, HEQ⟩
          · have hjl : j < L := by
              by_cases e : j = L
              · exact absurd (by rw [e]; exact HLE.out) HNE.out
              · omega
            have k0 := fun o => (HKI.out.alloc o).cell 0 _ rfl
            have k1 := fun o => (HKI.out.alloc o).cell 1 _ rfl
            go_wp2_with fail
            clear k0 k1 p0 p1 q0 q1
            refine calls_gen fun w6 hw6 => ?_
            obtain ⟨Q2, hQ2⟩ : ∃ Q2, wr.heap.size = Q2 := ⟨_, rfl⟩
            have HB6 : Hid (Below w5.heap.size w5 w6) := hide (by rw [hw6]; exact HBI.out.alloc HBI.out.size _)
            have HQ6 : Hid (Blk w6 Q2 84 [.int .i64 a, .int .i64 b]) := hide (by rw [hw6, ← hQ2]; exact Blk.new _ _ _)
            have hlo : w5.heap.size ≤ Q2 := by rw [← hQ2]; exact HBI.out.size
            rw [hQ2]
            clear hw6 hQ2
            refine (lead_any _ _ _ f _ _ _ s a b _ (HZ.out.later (HB5.out.trans (HB6.out.mono HB5.out.size))) HP.out han hbn).mono ?_
            rintro e w7 ⟨rfl, hb7⟩
            have HB7 := hide (HB6.out.trans (hb7.mono HB6.out.size))
            have HQ7 := hide (HQ6.out.later hb7)
            clear hb7
            have hk9 : itf (stpN f s n) j k < n * n := itf_lt (fun y hy => (stpN_div HP.out HFL.out hy).2.2) j k (by rw [HN.out]; exact hlt)
            have hstep2 := stpN_div HP.out HFL.out hk9
            rw [← HA9.out, ← HB9.out] at hstep2
            have hu := HP.out.lt1 HFL.out han hbn
            have hv := HP.out.lt2 HFL.out han hbn
            obtain ⟨u2, hue2⟩ : ∃ u2, ap f a b = u2 := ⟨_, rfl⟩
            obtain ⟨v2, hve2⟩ : ∃ v2, ap s a b = v2 := ⟨_, rfl⟩
            rw [hue2, hve2] at hstep2
            rw [hue2] at hu
            rw [hve2] at hv
            rw [hue2, hve2]
            have HST2 := hide hstep2
            clear hue2 hve2 hstep2
            have q0 := HQ7.out.cell 0 _ rfl
            have q1 := HQ7.out.cell 1 _ rfl
            have q2 := HQ7.out.frozen 0
            have q3 := HQ7.out.frozen 1
            go_wp2_with fail
            clear q0 q1 q2 q3
            go_roundw
            case rel => exact ⟨j + 1, Q2, u2, v2, by go_num, rfl, by omega, by omega, hu, hv, HST2.out.1.symm, HST2.out.2.1.symm, (HB7.out.setCell (p := ⟨Q2, 0, none⟩) hlo _).setCell (p := ⟨Q2, 1, none⟩) hlo _, hlo, (HQ7.out.set 0 _).set 1 _⟩
            case measure => simp [intOf]; omega
          · have hjl : j < L := by
              by_cases e : j = L
              · exact absurd (by rw [e]; exact HLE.out) HNE.out
              · omega
            have k0 := fun o => (HKI.out.alloc o).cell 0 _ rfl
            have k1 := fun o => (HKI.out.alloc o).cell 1 _ rfl
            go_wp2_with fail
            clear k0 k1 p0 p1 q0 q1
            refine calls_gen fun w6 hw6 => ?_
            obtain ⟨Q2, hQ2⟩ : ∃ Q2, wr.heap.size = Q2 := ⟨_, rfl⟩
            have HB6 : Hid (Below w5.heap.size w5 w6) := hide (by rw [hw6]; exact HBI.out.alloc HBI.out.size _)
            have HQ6 : Hid (Blk w6 Q2 84 [.int .i64 a, .int .i64 b]) := hide (by rw [hw6, ← hQ2]; exact Blk.new _ _ _)
            have hlo : w5.heap.size ≤ Q2 := by rw [← hQ2]; exact HBI.out.size
            rw [hQ2]
            clear hw6 hQ2
            refine (lead_any _ _ _ f _ _ _ s a b _ (HZ.out.later (HB5.out.trans (HB6.out.mono HB5.out.size))) HP.out han hbn).mono ?_
            rintro e w7 ⟨rfl, hb7⟩
            have HB7 := hide (HB6.out.trans (hb7.mono HB6.out.size))
            have HQ7 := hide (HQ6.out.later hb7)
            clear hb7
            have hk9 : itf (stpN f s n) j k < n * n := itf_lt (fun y hy => (stpN_div HP.out HFL.out hy).2.2) j k (by rw [HN.out]; exact hlt)
            have hstep2 := stpN_div HP.out HFL.out hk9
            rw [← HA9.out, ← HB9.out] at hstep2
            have hu := HP.out.lt1 HFL.out han hbn
            have hv := HP.out.lt2 HFL.out han hbn
            obtain ⟨u2, hue2⟩ : ∃ u2, ap f a b = u2 := ⟨_, rfl⟩
            obtain ⟨v2, hve2⟩ : ∃ v2, ap s a b = v2 := ⟨_, rfl⟩
            rw [hue2, hve2] at hstep2
            rw [hue2] at hu
            rw [hve2] at hv
            rw [hue2, hve2]
            have HST2 := hide hstep2
            clear hue2 hve2 hstep2
            have q0 := HQ7.out.cell 0 _ rfl
            have q1 := HQ7.out.cell 1 _ rfl
            have q2 := HQ7.out.frozen 0
            have q3 := HQ7.out.frozen 1
            go_wp2_with fail
            clear q0 q1 q2 q3
            go_roundw
            case rel => exact ⟨j + 1, Q2, u2, v2, by go_num, rfl, by omega, by omega, hu, hv, HST2.out.1.symm, HST2.out.2.1.symm, (HB7.out.setCell (p := ⟨Q2, 0, none⟩) hlo _).setCell (p := ⟨Q2, 1, none⟩) hlo _, hlo, (HQ7.out.set 0 _).set 1 _⟩
            case measure => simp [intOf]; omega
          · have hjl : j = L := by
              by_cases e : j = L
              · exact e
              · exact absurd HEQ.out (HLN.out j hj1 (by omega))
            subst hjl
            go_wp2_with fail
            clear p0 p1 q0 q1
            have hprod : o * j ≤ 1000000000000000000 := by
              have := Nat.mul_le_mul ho6 (show j ≤ 144 by omega)
              omega
            refine (lcm_any o j _ hpos hj1 hprod).mono ?_
            rintro e w6 ⟨rfl, hq6⟩
            have HB6 := hide (HBI.out.trans (hq6.below _))
            have HBF := hide (HB5.out.trans (HB6.out.mono HB5.out.size))
            have HKF := hide (HK5.out.later HB6.out)
            have HAF := hide (HA5.out.later HB6.out)
            obtain ⟨o2, ho2⟩ : ∃ o2, Nat.lcm o j = o2 := ⟨_, rfl⟩
            rw [ho2]
            have hord : ordN f s n (k + 1) = o2 := by rw [HNEXT.out, ho2]
            have HORD := hide hord
            clear hq6 ho2 hord
            by_cases hlim : o2 ≤ 1000000
            · have hlz : ¬ ((1000000 : Int) < (o2 : Int)) := by omega
              go_wp2_with fail
              go_roundw
              case rel => exact ⟨k + 1, by omega, by go_num, by rw [HORD.out], HBF.out, HKF.out, HAF.out, fun i hi => by
                by_cases e : i = k + 1
                · rw [e, HORD.out]; exact hlim
                · exact HALL.out i (by omega)⟩
              case measure => simp [intOf]; omega
            · have hlz : ((1000000 : Int) < (o2 : Int)) := by omega
              obtain ⟨hv, hcd⟩ := HR.out.lim HFL.out HS.out (k := k + 1) (by rw [HN.out]; omega) (by rw [HORD.out]; exact hlim)
              subst hv
              subst hcd
              go_wp2_with fail
              go_ret2
              exact ⟨rfl, HBF.out⟩
      · have hkn : k = N := by omega
        subst hkn
        obtain ⟨hv, hcd⟩ := HR.out.fin HFL.out HS.out (by rw [HN.out]; exact HALL.out)
        rw [HN.out] at hv
        subst hv
        subst hcd
        go_wp2_with fail
        go_ret2
        exact ⟨rfl, HB.out⟩
  · obtain ⟨rfl, rfl⟩ := HR.out.bad hs
    have HS := hide hs
    clear hz hr hs
    go_enter Try.func36, Try.ntmps36
    go_wp2_with fail
    refine (isI_any _ _ _ f _ _ _ s false _ (HZ.out.later HB0.out) (by simp [IsRes, HS.out])).mono ?_
    rintro e w1 ⟨rfl, hb1⟩
    have HB1 := hide (HB0.out.trans (hb1.mono HB0.out.size))
    go_wp2_with fail
    go_ret2
    exact ⟨rfl, HB1.out⟩
end Go.Proofs.Ytljdfanebjhhmaa
namespace Go.Proofs.Ytljdfanebjhhmaa
open Go Go.RowKit
set_option maxHeartbeats 2000000

set_option maxRecDepth 100000 in
theorem osS_any (A : Option Addr) (n c : Nat) (f : List (List Int)) (B : Option Addr) (m d : Nat) (s : List (List Int)) (v code : Int) (w : World) (hz : ZArg 1048576 w A n f B m s) (hr : OsRes f s v code) :
    Calls Try.prog 35 #[.agg #[.slice A n c, .slice B m d]] w fun e w' => e = .returned (.tuple #[.int .i64 v, .int .i64 code]) ∧ Below w.heap.size w w' := by
  have HZ := hide hz
  have HFL := hide hz.sz.fl
  have HB0 := hide ((Below.refl _ w).alloc (Nat.le_refl _) (Obj.cells #[Value.slice A n c, Value.slice B m d] 46))
  have HK0 := hide (Blk.new w 46 [.slice A n c, .slice B m d])
  have HR := hide hr
  by_cases hs : SolF f s
  · have HS := hide hs
    have HP := hide hs.1
    have hc := hs.2.1
    rw [hz.sz.fl] at hc
    have h12 := hz.small hs.1
    obtain rfl := hz.same hs.1
    have HC := hide hc
    clear hz hr hs hc
    go_enter Try.func35, Try.ntmps35
    go_wp2_with fail
    refine (isS_any _ _ _ f _ _ _ s true _ (HZ.out.later HB0.out) (by simp [IsRes, HS.out])).mono ?_
    rintro e w1 ⟨rfl, hb1⟩
    have HB1 := hide (HB0.out.trans (hb1.mono HB0.out.size))
    have HK1 := hide (HK0.out.later hb1)
    have k0 := HK1.out.cell 0 _ rfl
    have k1 := HK1.out.cell 1 _ rfl
    clear hb1
    go_wp2_with fail
    clear k0 k1
    go_loopw [5, 6] (fun o i wr => ∃ x : Nat, x ≤ m ∧ i = .int .i64 x ∧ o = .int .i64 (ordN f s m (x * m)) ∧ Below w.heap.size w wr ∧ Blk wr w.heap.size 46 [.slice A m c, .slice B m d] ∧ ∀ j, j ≤ x * m → ordN f s m j ≤ 1000000) (fun _ i _ => m - (intOf i).toNat)
    case atStart => exact ⟨0, Nat.zero_le _, rfl, by rw [Nat.zero_mul]; rfl, HB1.out, HK1.out, by rw [Nat.zero_mul]; exact ordN_base f s m⟩
    case round =>
      obtain ⟨x, hx, rfl, rfl, hbe, hkk, hall⟩ := hrel
      have HB := hide hbe
      have HK := hide hkk
      have HALL := hide hall
      clear hbe hkk hall
      by_cases hlt : x < m
      · have hxz : (x : Int) < m := by omega
        obtain ⟨o0, ho0⟩ : ∃ o0, ordN f s m (x * m) = o0 := ⟨_, rfl⟩
        rw [ho0]
        have HO0 := hide ho0
        clear ho0
        go_wp2_with fail
        obtain ⟨wo, rfl⟩ : ∃ wo : World, wo = wr := ⟨_, rfl⟩
        go_loopw [5, 7] (fun o i wi => ∃ y : Nat, y ≤ m ∧ i = .int .i64 y ∧ o = .int .i64 (ordN f s m (x * m + y)) ∧ Below w.heap.size w wi ∧ Blk wi w.heap.size 46 [.slice A m c, .slice B m d] ∧ ∀ j, j ≤ x * m + y → ordN f s m j ≤ 1000000) (fun _ i _ => m - (intOf i).toNat)
        case atStart => exact ⟨0, Nat.zero_le _, rfl, by rw [Nat.add_zero, HO0.out], HB.out, HK.out, HALL.out⟩
        case round =>
          obtain ⟨y, hy, rfl, rfl, hbi, hki, halli⟩ := hrel
          have HBI := hide hbi
          have HKI := hide hki
          have HALLI := hide halli
          clear hbi hki halli
          by_cases hlty : y < m
          · have hyz : (y : Int) < m := by omega
            obtain ⟨K, hK⟩ : ∃ K, x * m + y = K := ⟨_, rfl⟩
            have hKx : K / m = x := by rw [← hK]; exact pair_div m x y hlty
            have hKy : K % m = y := by rw [← hK]; exact pair_mod m x y hlty
            have hKN : K < m * m := by
              have h9 := Nat.mul_le_mul_right m (show x + 1 ≤ m from hlt)
              rw [Nat.add_mul, Nat.one_mul] at h9
              omega
            have hlen := lenN_of HP.out HFL.out HC.out hKN
            have hpos := ordN_pos (f := f) (s := s) (n := m) (fun j hj => (lenN_of HP.out HFL.out HC.out (k := j) hj).2.1) K (by omega)
            have hmm : m * m ≤ 144 := Nat.mul_le_mul h12.2 h12.2
            rw [hK]
            obtain ⟨L, hL⟩ : ∃ L, lenN f s m K = L := ⟨_, rfl⟩
            obtain ⟨o, ho⟩ : ∃ o, ordN f s m K = o := ⟨_, rfl⟩
            have ho6 : o ≤ 1000000 := by rw [← ho]; exact HALLI.out K (by omega)
            have hnext : ordN f s m (K + 1) = Nat.lcm o L := by rw [← ho, ← hL]; rfl
            rw [hL] at hlen
            rw [ho] at hpos
            rw [ho]
            obtain ⟨hLN, hL1, hLe, hLn⟩ := hlen
            have hL144 : L ≤ 144 := by omega
            have HNEXT := hide hnext
            have HLE := hide hLe
            have HLN := hide hLn
            have HKK := hide hK
            have HKX := hide hKx
            have HKY := hide hKy
            have HKN := hide hKN
            have hstep1 := stpN_div HP.out HFL.out hKN
            rw [hKx, hKy] at hstep1
            clear hL ho hLe hLn hnext hK hKx hKy hKN hLN hmm
            have k0 := HKI.out.cell 0 _ rfl
            have k1 := HKI.out.cell 1 _ rfl
            obtain ⟨bb, oo, b2, o2, bx, ox, cx, by', oy, cy, rfl, rfl, h1, h2, h3, h4, _, _, _, _⟩ := (HZ.out.later HBI.out).reads HP.out hlt hlty
            obtain ⟨u, hue⟩ : ∃ u, ap f x y = u := ⟨_, rfl⟩
            obtain ⟨v9, hve⟩ : ∃ v9, ap s x y = v9 := ⟨_, rfl⟩
            rw [hue, hve] at hstep1
            rw [hue] at h3
            rw [hve] at h4
            have HST := hide hstep1
            have HU := hide hue
            have HV := hide hve
            clear hue hve hstep1
            go_wp2_with fail
            go_quiet (fail)
            clear h1 h2 h3 h4 k0 k1
            have hun : u < m := by rw [← HST.out.1]; exact Nat.div_lt_of_lt_mul HST.out.2.2
            have hvn : v9 < m := by rw [← HST.out.2.1]; exact Nat.mod_lt _ (by omega)
            have hBN := bdrewN HBI.out nq
            have hKN := HKI.out.drewN nq
            obtain ⟨W, hW⟩ : ∃ W, wr.drewN nq = W := ⟨_, rfl⟩
            rw [hW] at hBN hKN
            rw [hW]
            have HBN := hide hBN
            have HKN2 := hide hKN
            clear hBN hKN hW
            go_wp2_with fail
            go_outline
            go_loopw [8, 9, 10] (fun p q l wi => ∃ (j a b : Nat), p = .int .i64 a ∧ q = .int .i64 b ∧ l = .int .i64 j ∧ wi = W ∧ 1 ≤ j ∧ j ≤ L ∧ a < m ∧ b < m ∧ a = itf (stpN f s m) j K / m ∧ b = itf (stpN f s m) j K % m) (fun _ _ l _ => L - (intOf l).toNat)
            case atStart => exact ⟨1, u, v9, rfl, rfl, rfl, rfl, Nat.le_refl _, hL1, hun, hvn, HST.out.1.symm, HST.out.2.1.symm⟩
            case round =>
              obtain ⟨j, a, b, rfl, rfl, rfl, rfl, hj1, hjL, han, hbn, ha, hb⟩ := hrel
              have HA9 := hide ha
              have HB9 := hide hb
              clear ha hb
              have hcs : (((a : Int) != (x : Int)) = true ∧ Hid (itf (stpN f s m) j K ≠ K)) ∨ (((a : Int) != (x : Int)) = false ∧ ((b : Int) != (y : Int)) = true ∧ Hid (itf (stpN f s m) j K ≠ K)) ∨ (((a : Int) != (x : Int)) = false ∧ ((b : Int) != (y : Int)) = false ∧ Hid (itf (stpN f s m) j K = K)) := by
                by_cases z1 : a = x
                · by_cases z2 : b = y
                  · refine .inr (.inr ⟨by simp [z1], by simp [z2], hide ?_⟩)
                    have e1 : itf (stpN f s m) j K / m = K / m := by rw [← HA9.out, HKX.out, z1]
                    have e2 : itf (stpN f s m) j K % m = K % m := by rw [← HB9.out, HKY.out, z2]
                    have d1 := Nat.div_add_mod (itf (stpN f s m) j K) m
                    have d2 := Nat.div_add_mod K m
                    rw [e1, e2] at d1
                    rw [← d1, d2]
                  · exact .inr (.inl ⟨by simp [z1], by simp; omega, hide (fun e => z2 (by rw [HB9.out, e, HKY.out]))⟩)
                · exact .inl ⟨by simp; omega, hide (fun e => z1 (by rw [HA9.out, e, HKX.out]))⟩
              rcases hcs with ⟨t1, HNE⟩ | ⟨t1, t2, HNE⟩ | ⟨t1, t2, HEQ⟩
              · have hjl : j < L := by
                  by_cases e : j = L
                  · exact absurd (by rw [e]; exact HLE.out) HNE.out
                  · omega
                have k0 := HKN2.out.cell 0 _ rfl
                have k1 := HKN2.out.cell 1 _ rfl
                obtain ⟨b', o', b2', o2', bu, ou, cu, bv, ov, cv, e1, e2, g1, g2, g3, g4, _, _, _, _⟩ := (HZ.out.later HBN.out).reads HP.out han hbn
                injection e1 with e1
                injection e1 with e1 e3 _
                injection e2 with e2
                injection e2 with e2 e4 _
                subst e1
                subst e3
                subst e2
                subst e4
                have hk9 : itf (stpN f s m) j K < m * m := itf_lt (fun y hy => (stpN_div HP.out HFL.out hy).2.2) j K HKN.out
                have hstep2 := stpN_div HP.out HFL.out hk9
                rw [← HA9.out, ← HB9.out] at hstep2
                have hu := HP.out.lt1 HFL.out han hbn
                have hv := HP.out.lt2 HFL.out han hbn
                obtain ⟨u2, hue2⟩ : ∃ u2, ap f a b = u2 := ⟨_, rfl⟩
                obtain ⟨v2, hve2⟩ : ∃ v2, ap s a b = v2 := ⟨_, rfl⟩
                rw [hue2, hve2] at hstep2
                rw [hue2] at hu g3
                rw [hve2] at hv g4
                have HST2 := hide hstep2
                have haz : (a : Int) < m := by omega
                have hbz : (b : Int) < m := by omega
                clear hue2 hve2 hstep2
                go_wp2_with fail
                clear g1 g2 g3 g4 k0 k1
                go_roundw
                case rel => exact ⟨j + 1, u2, v2, rfl, rfl, by go_num, (by first | exact trivial | rfl), by omega, by omega, hu, hv, HST2.out.1.symm, HST2.out.2.1.symm⟩
                case measure => simp [intOf]; omega
              · have hjl : j < L := by
                  by_cases e : j = L
                  · exact absurd (by rw [e]; exact HLE.out) HNE.out
                  · omega
                have k0 := HKN2.out.cell 0 _ rfl
                have k1 := HKN2.out.cell 1 _ rfl
                obtain ⟨b', o', b2', o2', bu, ou, cu, bv, ov, cv, e1, e2, g1, g2, g3, g4, _, _, _, _⟩ := (HZ.out.later HBN.out).reads HP.out han hbn
                injection e1 with e1
                injection e1 with e1 e3 _
                injection e2 with e2
                injection e2 with e2 e4 _
                subst e1
                subst e3
                subst e2
                subst e4
                have hk9 : itf (stpN f s m) j K < m * m := itf_lt (fun y hy => (stpN_div HP.out HFL.out hy).2.2) j K HKN.out
                have hstep2 := stpN_div HP.out HFL.out hk9
                rw [← HA9.out, ← HB9.out] at hstep2
                have hu := HP.out.lt1 HFL.out han hbn
                have hv := HP.out.lt2 HFL.out han hbn
                obtain ⟨u2, hue2⟩ : ∃ u2, ap f a b = u2 := ⟨_, rfl⟩
                obtain ⟨v2, hve2⟩ : ∃ v2, ap s a b = v2 := ⟨_, rfl⟩
                rw [hue2, hve2] at hstep2
                rw [hue2] at hu g3
                rw [hve2] at hv g4
                have HST2 := hide hstep2
                have haz : (a : Int) < m := by omega
                have hbz : (b : Int) < m := by omega
                clear hue2 hve2 hstep2
                go_wp2_with fail
                clear g1 g2 g3 g4 k0 k1
                go_roundw
                case rel => exact ⟨j + 1, u2, v2, rfl, rfl, by go_num, (by first | exact trivial | rfl), by omega, by omega, hu, hv, HST2.out.1.symm, HST2.out.2.1.symm⟩
                case measure => simp [intOf]; omega
              · have hjl : j = L := by
                  by_cases e : j = L
                  · exact e
                  · exact absurd HEQ.out (HLN.out j hj1 (by omega))
                subst hjl
                go_wp2_with fail
                refine (comS_any o j _ hpos (by omega) (by omega)).mono ?_
                rintro e w6 ⟨rfl, hq6⟩
                have HBF := hide (HBN.out.trans (hq6.below _))
                have HKF := hide (HKN2.out.later (hq6.below _))
                have hg1 : Nat.gcd o j ∣ o := Nat.gcd_dvd_left o j
                have hl : o / Nat.gcd o j * j = Nat.lcm o j := by
                  unfold Nat.lcm
                  rw [Nat.div_mul_right_comm hg1]
                have hg0 : 0 < Nat.gcd o j := Nat.gcd_pos_of_pos_left _ hpos
                obtain ⟨gg, hgg⟩ : ∃ gg, Nat.gcd o j = gg := ⟨_, rfl⟩
                rw [hgg] at hl hg0
                rw [hgg]
                have hq1 : ((o : Int)).tdiv (gg : Int) = ((o / gg : Nat) : Int) := by rw [Int.ofNat_tdiv]
                have hq2 : o / gg ≤ o := Nat.div_le_self o gg
                obtain ⟨mm, hm⟩ : ∃ mm, o / gg = mm := ⟨_, rfl⟩
                rw [hm] at hq1 hl hq2
                have hmj : mm * j ≤ 144000000 := by
                  have := Nat.mul_le_mul (Nat.le_trans hq2 ho6) (show j ≤ 144 by omega)
                  omega
                obtain ⟨o2, ho2⟩ : ∃ o2, Nat.lcm o j = o2 := ⟨_, rfl⟩
                have hl2 : ((mm : Int)) * (j : Int) = (o2 : Int) := by rw [← ho2, ← hl]; simp
                have ho2b : o2 ≤ 144000000 := by rw [← ho2, ← hl]; exact hmj
                have hord : ordN f s m (K + 1) = o2 := by rw [HNEXT.out, ho2]
                have HORD := hide hord
                have hgz : ¬ (gg : Int) = 0 := by omega
                have hgz2 : ¬ (gg : Int) = -1 := by omega
                clear hq6 ho2 hord hgg hm hl hmj hg1
                by_cases hlim : o2 ≤ 1000000
                · have hlz : ¬ ((1000000 : Int) < (o2 : Int)) := by omega
                  go_wp2_with fail
                  go_roundw
                  case rel => exact ⟨y + 1, by omega, by go_num, by rw [← Nat.add_assoc, HKK.out, HORD.out], HBF.out, HKF.out, fun i hi => by
                    by_cases e : i = K + 1
                    · rw [e, HORD.out]; exact hlim
                    · exact HALLI.out i (by have := HKK.out; omega)⟩
                  case measure => simp [intOf]; omega
                · have hlz : ((1000000 : Int) < (o2 : Int)) := by omega
                  obtain ⟨hv, hcd⟩ := HR.out.lim HFL.out HS.out (k := K + 1) HKN.out (by rw [HORD.out]; exact hlim)
                  subst hv
                  subst hcd
                  go_wp2_with fail
                  go_ret2
                  exact ⟨rfl, HBF.out⟩
          · have hyn : y = m := by omega
            subst hyn
            go_wp2_with fail
            go_roundw
            case rel => exact ⟨x + 1, by omega, by go_num, by rw [Nat.add_mul, Nat.one_mul], HBI.out, HKI.out, by rw [Nat.add_mul, Nat.one_mul]; exact HALLI.out⟩
            case measure => simp [intOf]; omega
      · have hxn : x = m := by omega
        subst hxn
        obtain ⟨hv, hcd⟩ := HR.out.fin HFL.out HS.out HALL.out
        subst hv
        subst hcd
        go_wp2_with fail
        go_ret2
        exact ⟨rfl, HB.out⟩
  · obtain ⟨rfl, rfl⟩ := HR.out.bad hs
    have HS := hide hs
    clear hz hr hs
    go_enter Try.func35, Try.ntmps35
    go_wp2_with fail
    refine (isS_any _ _ _ f _ _ _ s false _ (HZ.out.later HB0.out) (by simp [IsRes, HS.out])).mono ?_
    rintro e w1 ⟨rfl, hb1⟩
    have HB1 := hide (HB0.out.trans (hb1.mono HB0.out.size))
    go_wp2_with fail
    go_ret2
    exact ⟨rfl, HB1.out⟩
end Go.Proofs.Ytljdfanebjhhmaa
