import Derived.Test.YtaejgmdeiemhcabZak
import Derived.Test.YtaejgmdeiemhcabZag
import Derived.Test.YtaejgmdeiemhcabZz
import Derived.Test.YtaejgmdeiemhcabZab
import Derived.Test.YtaejgmdeiemhcabZal
import Derived.Test.YtaejgmdeiemhcabZad
namespace Go.Proofs.Ytaejgmdeiemhcab
open Go Go.RowKit
open Classical
set_option maxHeartbeats 4000000
set_option maxRecDepth 100000 in
theorem isSm_any (A : Option Addr) (n c : Nat) (f : List (List Int)) (r : Bool) (w : World) (hn : f.length = n) (ht : Tbl f) (hr : Rd2 w A f) (hrc : r = true ↔ SmF f) :
    Calls Try.prog 60 #[.agg #[.slice A n c]] w fun e w' => e = .returned (.bool r) ∧ Below w.heap.size w w' := by
  have h1 : 1 ≤ n := by rw [← hn]; exact ht.1
  have h12 : n ≤ 12 := by rw [← hn]; exact ht.2.1
  have HN := hide hn
  have HTB := hide ht
  have HR := hide hr
  have HRC := hide hrc
  obtain ⟨N, hN⟩ : ∃ N, n * n = N := ⟨_, rfl⟩
  have hN144 : N ≤ 144 := by rw [← hN]; exact sq_le n h12
  have HNN := hide hN
  have HB0 := hide ((Below.refl _ w).alloc (Nat.le_refl _) (Obj.cells #[Value.slice A n c] 49))
  have HK0 := hide (Blk.new w 49 [.slice A n c])
  clear hn ht hr hrc hN
  go_enter Try.func60, Try.ntmps60
  go_wp2_with fail
  refine (ksize_any _ _ _ _ (by omega)).mono ?_
  rintro e w2 ⟨rfl, hb2⟩
  have HB2 := hide (HB0.out.trans (hb2.mono HB0.out.size))
  have HK2 := hide (HK0.out.later hb2)
  clear hb2
  go_wp2_with fail
  refine (pairsOf_any n N _ h1 h12 HNN.out).mono ?_
  rintro e w3 ⟨g, rfl, hb3, hg3, hpa⟩
  have HB3 := hide (HB2.out.trans (hb3.mono HB2.out.size))
  have HK3 := hide (HK2.out.later hb3)
  have HPA3 := hide hpa
  clear hb3 hpa
  go_wp2_with fail
  go_loopw [9] (fun i wr => ∃ k : Nat, k ≤ N ∧ i = .int .i64 k ∧ Below w.heap.size w wr ∧ Blk wr w.heap.size 49 [.slice A n c] ∧ PairsAt wr g n ∧ ∀ i, i < k → i / n ≠ i % n → OneC f (i / n) (i % n)) (fun i _ => N - (intOf i).toNat)
  case atStart => exact ⟨0, Nat.zero_le _, rfl, HB3.out, HK3.out, HPA3.out, fun i hi => absurd hi (Nat.not_lt_zero _)⟩
  case round =>
    obtain ⟨k, hk, rfl, hbe, hkk, hpa, hall⟩ := hrel
    have HB := hide hbe
    have HK := hide hkk
    have HPA := hide hpa
    have HALL := hide hall
    clear hbe hkk hpa hall HB3 HK3 HPA3
    by_cases hlt : k < N
    · have hkz : (k : Int) < N := by omega
      obtain ⟨p0, p1⟩ := HPA.out.2 k (by rw [HNN.out]; exact hlt)
      have hxn : k / n < n := div_lt_sq (by rw [HNN.out]; exact hlt)
      have hyn : k % n < n := mod_lt_sq (by rw [HNN.out]; exact hlt)
      obtain ⟨x, hx⟩ : ∃ x, k / n = x := ⟨_, rfl⟩
      obtain ⟨y, hy⟩ : ∃ y, k % n = y := ⟨_, rfl⟩
      rw [hx] at p0 hxn
      rw [hy] at p1 hyn
      have HX := hide hx
      have HY := hide hy
      clear hx hy
      go_upto_region 4 with fail
      refine wp_gen fun w4 hw4 => ?_
      obtain ⟨P, hPe⟩ : ∃ P, wr.heap.size = P := ⟨_, rfl⟩
      have HB4 : Hid (Below w.heap.size w w4) := hide (by rw [hw4]; exact HB.out.alloc HB.out.size _)
      have HK4 : Hid (Blk w4 w.heap.size 49 [.slice A n c]) := hide (by rw [hw4]; exact HK.out.alloc _)
      have HP4 : Hid (Blk w4 P 71 [.int .i64 x, .int .i64 y]) := hide (by rw [hw4, ← hPe]; exact Blk.new _ _ _)
      have HA4 : Hid (PairsAt w4 g n) := hide (by rw [hw4]; exact HPA.out.later ((Below.refl _ _).alloc (Nat.le_refl _) _))
      rw [hPe]
      clear hw4 p0 p1 hPe HB HK HPA
      have k0 := HK4.out.cell 0 _ rfl
      have q0 := HP4.out.cell 0 _ rfl
      have q1 := HP4.out.cell 1 _ rfl
      by_cases hxy : x = y
      · have hbe : ((x : Int) != (y : Int)) = false := by simp [hxy]
        have HXY := hide hxy
        clear hxy
        go_wp2_with fail
        have HB5 := HB4
        have HK5 := HK4
        have HA5 := HA4
        go_roundw
        case rel => exact ⟨k + 1, by omega, by go_num, HB5.out, HK5.out, HA5.out, fun i hi hne => by
          by_cases e : i = k
          · subst e
            exact absurd (by rw [HX.out, HY.out]; exact HXY.out) hne
          · exact HALL.out i (by omega) hne⟩
        case measure => simp [intOf]; omega
      · have hbe : ((x : Int) != (y : Int)) = true := by simp; omega
        have HXY := hide hxy
        obtain ⟨m, hm⟩ := IsMax.ex (cfL f x y) (by rw [cfL_length, HN.out]; exact h1)
        have hone := one_max hm
        have HM := hide hm
        have HONE := hide hone
        clear hxy hm hone
        go_wp2_with fail
        refine (congI_any _ n _ x y f _ HN.out HTB.out (HR.out.later HB4.out) hxn hyn).mono ?_
        rintro e w5 ⟨g5, c5, rfl, hb5, hg5, ho5⟩
        have HB5 := hide (HB4.out.trans (hb5.mono HB4.out.size))
        have HK5 := hide (HK4.out.later hb5)
        have HA5 := hide (HA4.out.later hb5)
        have HO5 := hide ho5
        clear hb5 hg5 ho5 k0 q0 q1
        go_wp2_with fail
        refine (max_any _ n _ (cfL f x y) m _ (by rw [cfL_length, HN.out]) h1 (by omega) HO5.out.rd HM.out).mono ?_
        rintro e w6 ⟨rfl, hb6⟩
        have HBc := hide (HB5.out.trans (hb6.mono HB5.out.size))
        have HKc := hide (HK5.out.later hb6)
        have HAc := hide (HA5.out.later hb6)
        clear hb6
        by_cases hpos : 0 < m
        · have hno := HONE.out.1 hpos
          have hrf : r = false := by
            cases r
            · rfl
            · exact absurd ((HRC.out.1 rfl).at (by rw [HN.out]; exact hxn) (by rw [HN.out]; exact hyn) HXY.out) hno
          subst hrf
          have hgt : decide (0 < m) = true := by simpa using hpos
          have hgt2 : decide (m > 0) = true := hgt
          clear hno
          go_wp2_with fail
          go_ret
          exact ⟨rfl, HBc.out⟩
        · have hyes : OneC f x y := Classical.byContradiction fun h => hpos (HONE.out.2 h)
          have HYES := hide hyes
          have hgt : decide (0 < m) = false := by simpa using hpos
          have hgt2 : decide (m > 0) = false := hgt
          clear hyes
          go_wp2_with fail
          go_roundw
          case rel => exact ⟨k + 1, by omega, by go_num, HBc.out, HKc.out, HAc.out, fun i hi hne => by
            by_cases e : i = k
            · subst e; rw [HX.out, HY.out]; exact HYES.out
            · exact HALL.out i (by omega) hne⟩
          case measure => simp [intOf]; omega
    · have hkn : k = N := by omega
      subst hkn
      have k0 := HK.out.cell 0 _ rfl
      have hcond : r = true ↔ 1 < n := by
        rw [HRC.out]
        constructor
        · intro h; have := h.1; have := HN.out; omega
        · intro h; exact sm_pairs HN.out (by omega) fun i hi hne => HALL.out i (by have := HNN.out; omega) hne
      have hdec : decide ((1 : Int) < (n : Int)) = r := by
        cases r
        · have h0 : ¬ 1 < n := fun h => Bool.noConfusion (hcond.2 h)
          simp only [decide_eq_false_iff_not]
          omega
        · have := hcond.1 rfl
          simp only [decide_eq_true_eq]
          omega
      clear hcond
      go_wp2_with fail
      refine (ksize_any _ _ _ _ (by omega)).mono ?_
      rintro e w9 ⟨rfl, hb9⟩
      have HB9 := hide (HB.out.trans (hb9.mono HB.out.size))
      clear hb9
      go_wp2_with fail
      go_ret
      exact ⟨rfl, HB9.out⟩
end Go.Proofs.Ytaejgmdeiemhcab
namespace Go.Proofs.Ytaejgmdeiemhcab
open Go Go.RowKit
open Classical
set_option maxHeartbeats 4000000
set_option maxRecDepth 100000 in
theorem jwSimpleRackS (A : Option Addr) (n c : Nat) (f : List (List Int)) (r : Bool) (code : Int) (w : World) (hn : f.length = n) (hb : n ≤ 1048576) (hbs : ∀ i, i < f.length → (f.getD i []).length ≤ 1048576) (hr : Rd2 w A f) (hres : SmRes f r code) :
    Calls Try.prog 32 #[.agg #[.slice A n c]] w fun e w' => e = .returned (.tuple #[.bool r, .int .i64 code]) ∧ Below w.heap.size w w' := by
  have HN := hide hn
  have HBS := hide hbs
  have HRD := hide hr
  have HB0 := hide ((Below.refl _ w).alloc (Nat.le_refl _) (Obj.cells #[Value.slice A n c] 49))
  have HK0 := hide (Blk.new w 49 [.slice A n c])
  rcases hres with ⟨hp, hrc, rfl⟩ | ⟨hp, rfl, rfl⟩
  · have HTB := hide hp.tbl
    have h1 : 1 ≤ n := by rw [← hn]; exact hp.tbl.1
    have h12 : n ≤ 12 := by rw [← hn]; exact hp.tbl.2.1
    have HRC := hide hrc
    clear hrc
    have HRK : Hid (RkRes f true) := hide (by unfold RkRes; simp [hp])
    clear hn hbs hr hp
    go_enter Try.func32, Try.ntmps32
    go_wp2_with fail
    refine (isRackS _ _ _ f true _ HN.out hb HBS.out (HRD.out.later HB0.out) HRK.out).mono ?_
    rintro e w1 ⟨rfl, hb1⟩
    have HB1 := hide (HB0.out.trans (hb1.mono HB0.out.size))
    have HK1 := hide (HK0.out.later hb1)
    clear hb1 HRK
    have k0 := HK1.out.cell 0 _ rfl
    go_wp2_with fail
    clear k0
    go_loopw [5] (fun i wr => ∃ x : Nat, x ≤ n ∧ i = .int .i64 (x : Int) ∧ Below w.heap.size w wr ∧ Blk wr w.heap.size 49 [.slice A n c] ∧ ∀ a, a < x → ∀ b, a < b → b < n → OneC f a b) (fun i _ => n - (intOf i).toNat)
    case atStart => exact ⟨0, Nat.zero_le _, rfl, HB1.out, HK1.out, fun a ha => absurd ha (Nat.not_lt_zero _)⟩
    case round =>
      obtain ⟨x, hx, rfl, hbe, hkk, hall⟩ := hrel
      have HB := hide hbe
      have HK := hide hkk
      have HALL := hide hall
      clear hbe hkk hall HB1 HK1
      by_cases hltx : x < n
      · have hxz : (x : Int) < n := by omega
        go_wp2_with fail
        go_loopw [6] (fun i wr => ∃ y : Nat, x < y ∧ y ≤ n ∧ i = .int .i64 (y : Int) ∧ Below w.heap.size w wr ∧ Blk wr w.heap.size 49 [.slice A n c] ∧ ∀ b, x < b → b < y → OneC f x b) (fun i _ => n - (intOf i).toNat)
        case atStart => exact ⟨x + 1, by omega, by omega, by go_num, HB.out, HK.out, fun b h1 h2 => by omega⟩
        case round =>
          obtain ⟨y, hxy, hy, rfl, hbe, hkk, hall⟩ := hrel
          have HBy := hide hbe
          have HKy := hide hkk
          have HALLY := hide hall
          clear hbe hkk hall HB HK
          by_cases hlty : y < n
          · have hyz : (y : Int) < n := by omega
            have k0 := HKy.out.cell 0 _ rfl
            go_wp2_with fail
            refine (from_any _ n _ x y f _ HN.out HTB.out (HRD.out.later HBy.out) hltx hlty).mono ?_
            rintro e w5 ⟨A5, c5, rfl, hb5, hres5⟩
            have HBZ := hide (HBy.out.trans (hb5.mono HBy.out.size))
            have HKZ := hide (HKy.out.later hb5)
            have HRS := hide hres5.rd
            have hlen : (cfL f x y).length = n := by rw [cfL_length, HN.out]
            have HLEN := hide hlen
            clear hb5 hres5 k0 hlen HBy HKy
            go_wp2_with fail
            go_loopw [8] (fun i wr => ∃ z : Nat, z ≤ n ∧ i = .int .i64 (z : Int) ∧ wr = w5 ∧ ∀ z', z' < z → (cfL f x y).getD z' 0 = 0) (fun i _ => n - (intOf i).toNat)
            case atStart => exact ⟨0, Nat.zero_le _, rfl, rfl, fun a ha => absurd ha (Nat.not_lt_zero _)⟩
            case round =>
              obtain ⟨z, hz, rfl, hwe, hall⟩ := hrel
              have HALLZ := hide hall
              have HWE := hide hwe
              clear hall hwe
              by_cases hltz : z < n
              · have hzz : (z : Int) < n := by omega
                obtain ⟨bz, oz, hA5, hbz, hcz⟩ := HRS.out (by rw [HLEN.out]; omega)
                subst hA5
                have c0 := hcz z (by rw [HLEN.out]; exact hltz)
                obtain ⟨v, hv⟩ : ∃ v, (cfL f x y).getD z 0 = v := ⟨_, rfl⟩
                rw [hv, ← HWE.out] at c0
                have HV := hide hv
                clear hcz hbz hv
                by_cases hv0 : v = 0
                · have hbe : (v != 0) = false := by simp [hv0]
                  have HV0 := hide hv0
                  clear hv0
                  go_wp2_with fail
                  go_roundw
                  case rel => exact ⟨z + 1, by omega, by go_num, HWE.out, fun z' hz' => by
                    by_cases e : z' = z
                    · subst e; rw [HV.out]; exact HV0.out
                    · exact HALLZ.out z' (by omega)⟩
                  case measure => simp [intOf]; omega
                · have hbe : (v != 0) = true := by simp [hv0]
                  have hrf : r = false := by
                    cases r
                    · rfl
                    · exact absurd (((HRC.out.1 rfl).2 x y hxy (by rw [HN.out]; exact hlty)) z (by rw [HN.out]; exact hltz)) (by rw [HV.out]; exact hv0)
                  subst hrf
                  clear hv0
                  go_wp2_with fail
                  go_ret2
                  exact ⟨rfl, by rw [HWE.out]; exact HBZ.out⟩
              · have hzn : z = n := by omega
                have hyes : OneC f x y := fun z' hz' => HALLZ.out z' (by have := HN.out; omega)
                have HYES := hide hyes
                clear hyes
                go_wp2_with fail
                go_roundw
                case rel => exact ⟨y + 1, by omega, by omega, by go_num, by rw [HWE.out]; exact HBZ.out, by rw [HWE.out]; exact HKZ.out, fun b h1 h2 => by
                  by_cases e : b = y
                  · subst e; exact HYES.out
                  · exact HALLY.out b h1 (by omega)⟩
                case measure => simp [intOf]; omega
          · have hyn : y = n := by omega
            go_wp2_with fail
            go_roundw
            case rel => exact ⟨x + 1, by omega, by go_num, HBy.out, HKy.out, fun a ha b h1 h2 => by
              by_cases e : a = x
              · subst e; exact HALLY.out b h1 (by omega)
              · exact HALL.out a (by omega) b h1 h2⟩
            case measure => simp [intOf]; omega
      · have hxn : x = n := by omega
        have hcond : r = true ↔ 2 ≤ n := by
          rw [HRC.out]
          constructor
          · intro h; have := h.1; have := HN.out; omega
          · intro h; exact ⟨by have := HN.out; omega, fun a b hab hb => HALL.out a (by have := HN.out; omega) b hab (by have := HN.out; omega)⟩
        have hdec : decide ((2 : Int) ≤ (n : Int)) = r := by
          cases r
          · have h0 : ¬ 2 ≤ n := fun h => Bool.noConfusion (hcond.2 h)
            simp only [decide_eq_false_iff_not]
            omega
          · have := hcond.1 rfl
            simp only [decide_eq_true_eq]
            omega
        clear hcond
        go_wp2_with fail
        go_ret2
        exact ⟨rfl, HB.out⟩
  · have HRK : Hid (RkRes f false) := hide (by unfold RkRes; simp [hp])
    clear hn hbs hr hp
    go_enter Try.func32, Try.ntmps32
    go_wp2_with fail
    refine (isRackS _ _ _ f false _ HN.out hb HBS.out (HRD.out.later HB0.out) HRK.out).mono ?_
    rintro e w1 ⟨rfl, hb1⟩
    have HB1 := hide (HB0.out.trans (hb1.mono HB0.out.size))
    clear hb1
    go_wp2_with fail
    go_ret2
    exact ⟨rfl, HB1.out⟩
end Go.Proofs.Ytaejgmdeiemhcab
