import Derived.Test.YtanldiildinbdaaZy
import Derived.Test.YtanldiildinbdaaZz
import Derived.Test.YtanldiildinbdaaZu
import Derived.Test.YtanldiildinbdaaZac
import Derived.Test.YtanldiildinbdaaZh
import Derived.Test.YtanldiildinbdaaZa
import Derived.Test.YtanldiildinbdaaZc
import Derived.Test.YtanldiildinbdaaZb
namespace Go.Proofs.Ytanldiildinbdaa
open Go Go.RowKit
set_option maxHeartbeats 1000000

theorem inc_step {n j : Nat} {set : List Int} (h : ∀ i, i < j → (0 ≤ set.getD i 0 ∧ set.getD i 0 < (n : Int)) ∧ (0 < i → set.getD (i - 1) 0 < set.getD i 0)) (h1 : 0 ≤ set.getD j 0) (h2 : set.getD j 0 < (n : Int)) (h3 : 0 < j → set.getD (j - 1) 0 < set.getD j 0) : ∀ i, i < j + 1 → (0 ≤ set.getD i 0 ∧ set.getD i 0 < (n : Int)) ∧ (0 < i → set.getD (i - 1) 0 < set.getD i 0) := by
  intro i hi
  by_cases e : i = j
  · subst e; exact ⟨⟨h1, h2⟩, h3⟩
  · exact h i (by omega)

theorem hasSet_any (A : Option Addr) (n c : Nat) (B : Option Addr) (m d : Nat) (C : Option Addr) (k e : Nat) (set : List Int) (r : Bool) (w : World) (hn : n ≤ 1048576) (hk : set.length = k) (hkb : k ≤ 9223372036854775807) (hs : Rd w C set) (hr : r = true ↔ IncSet n set) :
    Calls Try.prog 78 #[.agg #[.slice A n c, .slice B m d], .slice C k e] w fun e w' => e = .returned (.bool r) ∧ Below w.heap.size w w' := by
  have HK := hide hk
  have HS := hide hs
  have HR := hide hr
  have HB0 := hide ((Below.refl _ w).alloc (Nat.le_refl _) (Obj.cells #[Value.slice A n c, Value.slice B m d] 27))
  have HK0 := hide (Blk.new w 27 [.slice A n c, .slice B m d])
  clear hk hs hr
  go_enter Try.func78, Try.ntmps78
  go_wp2_with fail
  go_loopw [9] (fun i wr => ∃ j : Nat, j ≤ k ∧ i = .int .i64 j ∧ Below w.heap.size w wr ∧ Blk wr w.heap.size 27 [.slice A n c, .slice B m d] ∧ ∀ i, i < j → (0 ≤ set.getD i 0 ∧ set.getD i 0 < (n : Int)) ∧ (0 < i → set.getD (i - 1) 0 < set.getD i 0)) (fun i _ => k - (intOf i).toNat)
  case atStart => exact ⟨0, Nat.zero_le _, rfl, HB0.out, HK0.out, fun i hi => absurd hi (Nat.not_lt_zero _)⟩
  case round =>
    obtain ⟨j, hj, rfl, hbe, hkk, hall⟩ := hrel
    have HB := hide hbe
    have HKK := hide hkk
    have HALL := hide hall
    clear hbe hkk hall
    have k0 := HKK.out.cell 0 _ rfl
    have k1 := HKK.out.cell 1 _ rfl
    by_cases hlt : j < k
    · have hjz : (j : Int) < k := by omega
      obtain ⟨b, o, rfl, hbw, hc⟩ := HS.out (by have := HK.out; omega)
      have hc1 := hc j (by have := HK.out; omega)
      obtain ⟨u, hu⟩ : ∃ u, set.getD j 0 = u := ⟨_, rfl⟩
      rw [hu] at hc1
      have HU := hide hu
      have hc2 : wr.cell? ⟨b, o + j, none⟩ = some (.int .i64 u) := (HB.out.cell (p := ⟨b, o + j, none⟩) hbw).trans hc1
      clear hu hc1
      have hno : ¬ ((0 ≤ u ∧ u < (n : Int)) ∧ (0 < j → set.getD (j - 1) 0 < u)) → r = false := fun h => by
        cases r
        · rfl
        · have h0 := (HR.out.1 rfl).1 j (by have := HK.out; omega)
          rw [HU.out] at h0
          exact absurd h0 h
      have HNO := hide hno
      clear hno
      by_cases h0 : u < 0
      · have hrf := HNO.out (fun h => by omega)
        subst hrf
        clear hc
        go_wp2_with fail
        go_ret
        exact ⟨rfl, HB.out⟩
      · have HC := hide hc
        have h00 : 0 ≤ u := by omega
        clear hc
        go_wp2_with fail
        refine (size_any _ _ _ _ _ _ _ hn).mono ?_
        rintro e w2 ⟨rfl, hb2⟩
        have HB2 := hide (HB.out.trans (hb2.mono HB.out.size))
        have HK2 := hide (HKK.out.later hb2)
        clear hb2 k0 k1 hc2
        by_cases h1 : (n : Int) ≤ u
        · have hrf := HNO.out (fun h => by omega)
          subst hrf
          go_wp2_with fail
          go_ret
          exact ⟨rfl, HB2.out⟩
        · have h11 : ¬ (n : Int) ≤ u := h1
          rcases j with _ | j
          · go_wp2_with fail
            go_roundw
            case rel => exact ⟨1, by omega, by go_num, HB2.out, HK2.out, inc_step HALL.out (by rw [HU.out]; omega) (by rw [HU.out]; omega) (fun h => absurd h (Nat.lt_irrefl _))⟩
            case measure => simp [intOf]; omega
          · have hp1 := HC.out j (by have := HK.out; omega)
            obtain ⟨v, hv⟩ : ∃ v, set.getD j 0 = v := ⟨_, rfl⟩
            rw [hv] at hp1
            have HV := hide hv
            have hp2 : w2.cell? ⟨b, o + j, none⟩ = some (.int .i64 v) := (HB2.out.cell (p := ⟨b, o + j, none⟩) hbw).trans hp1
            have hji : ((j + 1 : Nat) : Int) - 1 = (j : Int) := by omega
            have hj0 : (0 : Int) < ((j + 1 : Nat) : Int) := by omega
            clear hv hp1
            by_cases h2 : u ≤ v
            · have hrf := HNO.out (fun h => by have := h.2 (Nat.succ_pos _); rw [Nat.add_sub_cancel, HV.out] at this; omega)
              subst hrf
              go_wp2_with fail
              go_ret
              exact ⟨rfl, HB2.out⟩
            · have h22 : ¬ u ≤ v := h2
              go_wp2_with fail
              go_roundw
              case rel => exact ⟨j + 1 + 1, by omega, by go_num, HB2.out, HK2.out, inc_step HALL.out (by rw [HU.out]; omega) (by rw [HU.out]; omega) (fun _ => by rw [Nat.add_sub_cancel, HV.out, HU.out]; omega)⟩
              case measure => simp [intOf]; omega
    · have hjk : j = k := by omega
      subst hjk
      have hrv : r = decide (0 < j) := by
        by_cases h : 0 < j
        · have h1 : r = true := HR.out.2 ⟨fun i hi => HALL.out i (by have := HK.out; omega), by have := HK.out; omega⟩
          rw [h1]; simp [h]
        · have h1 : r = false := by
            cases r
            · rfl
            · have := (HR.out.1 rfl).2; have := HK.out; omega
          rw [h1]; simp [h]
      have HRV := hide hrv
      clear hrv
      go_wp2_with fail
      go_ret
      exact ⟨by rw [HRV.out]; rfl, HB.out⟩

theorem isClosed_any (A : Option Addr) (n c : Nat) (f : List (List Int)) (B : Option Addr) (m d : Nat) (s : List (List Int)) (C : Option Addr) (k e : Nat) (set : List Int) (r : Bool) (w : World) (hz : ZArg 1048576 w A n f B m s) (hp : PMap f s) (hk : set.length = k) (hi : IncSet n set) (hs : Rd w C set) (hr : r = true ↔ ClF f s set) :
    Calls Try.prog 79 #[.agg #[.slice A n c, .slice B m d], .slice C k e] w fun e w' => e = .returned (.bool r) ∧ Below w.heap.size w w' := by
  have HZ := hide hz
  have HP := hide hp
  have HK := hide hk
  have HI := hide hi
  have HS := hide hs
  have HR := hide hr
  have hkb : k ≤ 1048576 := by have h1 := hi.le; have h2 := hz.sz.nb; omega
  have HB0 := hide ((Below.refl _ w).alloc (Nat.le_refl _) (Obj.cells #[Value.slice A n c, Value.slice B m d] 27))
  have HK0 := hide (Blk.new w 27 [.slice A n c, .slice B m d])
  clear hz hp hk hi hs hr
  go_enter Try.func79, Try.ntmps79
  go_wp2_with fail
  go_loopw [12] (fun i wr => ∃ x : Nat, x ≤ k ∧ i = .int .i64 x ∧ Below w.heap.size w wr ∧ Blk wr w.heap.size 27 [.slice A n c, .slice B m d] ∧ ∀ i j, i < x → j < k → ((ap f (set.getD i 0).toNat (set.getD j 0).toNat : Nat) : Int) ∈ set ∧ ((ap s (set.getD i 0).toNat (set.getD j 0).toNat : Nat) : Int) ∈ set) (fun i _ => k - (intOf i).toNat)
  case atStart => exact ⟨0, Nat.zero_le _, rfl, HB0.out, HK0.out, fun i j hi => absurd hi (Nat.not_lt_zero _)⟩
  case round =>
    obtain ⟨x, hx, rfl, hbe, hkk, hall⟩ := hrel
    have HB := hide hbe
    have HKK := hide hkk
    have HALL := hide hall
    clear hbe hkk hall
    by_cases hlt : x < k
    · have hxz : (x : Int) < k := by omega
      obtain ⟨b, o, rfl, hbw, hc⟩ := HS.out (by have := HK.out; omega)
      obtain ⟨a, ha, han⟩ := HI.out.at (i := x) (by have := HK.out; omega)
      have hc1 := hc x (by have := HK.out; omega)
      rw [ha] at hc1
      have HA := hide ha
      have hc2 : wr.cell? ⟨b, o + x, none⟩ = some (.int .i64 a) := (HB.out.cell (p := ⟨b, o + x, none⟩) hbw).trans hc1
      have HC := hide hc
      clear ha hc1 hc
      go_wp2_with fail
      clear hc2
      obtain ⟨wo, rfl⟩ : ∃ wo : World, wo = wr := ⟨_, rfl⟩
      go_loopw [18] (fun i wi => ∃ y : Nat, y ≤ k ∧ i = .int .i64 y ∧ Below w.heap.size w wi ∧ Blk wi w.heap.size 27 [.slice A n c, .slice B m d] ∧ ∀ j, j < y → ((ap f a (set.getD j 0).toNat : Nat) : Int) ∈ set ∧ ((ap s a (set.getD j 0).toNat : Nat) : Int) ∈ set) (fun i _ => k - (intOf i).toNat)
      case atStart => exact ⟨0, Nat.zero_le _, rfl, HB.out, HKK.out, fun j hj => absurd hj (Nat.not_lt_zero _)⟩
      case round =>
        obtain ⟨y, hy, rfl, hbi, hki, halli⟩ := hrel
        have HBI := hide hbi
        have HKI := hide hki
        have HALLI := hide halli
        clear hbi hki halli
        by_cases hlty : y < k
        · have hyz : (y : Int) < k := by omega
          obtain ⟨g, hg, hgn⟩ := HI.out.at (i := y) (by have := HK.out; omega)
          have hd1 := HC.out y (by have := HK.out; omega)
          rw [hg] at hd1
          have HG := hide hg
          have hd2 : wr.cell? ⟨b, o + y, none⟩ = some (.int .i64 g) := (HBI.out.cell (p := ⟨b, o + y, none⟩) hbw).trans hd1
          have k0 := HKI.out.cell 0 _ rfl
          have k1 := HKI.out.cell 1 _ rfl
          obtain ⟨u, hu⟩ : ∃ u, ap f a g = u := ⟨_, rfl⟩
          obtain ⟨v, hv⟩ : ∃ v, ap s a g = v := ⟨_, rfl⟩
          have HU := hide hu
          have HV := hide hv
          have hno : ¬ ((u : Int) ∈ set ∧ (v : Int) ∈ set) → r = false := fun h => by
            cases r
            · rfl
            · have h0 := (HR.out.1 rfl) x y (by have := HK.out; omega) (by have := HK.out; omega)
              rw [HA.out, HG.out, Int.toNat_natCast, Int.toNat_natCast, HU.out, HV.out] at h0
              exact absurd h0 h
          have HNO := hide hno
          clear hg hd1 hu hv hno
          go_wp2_with fail
          refine calls_gen fun w3 hw3 => ?_
          have HB3 : Hid (Below w.heap.size w w3) := hide (by rw [hw3]; first | exact HBI.out.alloc HBI.out.size _ | exact HBI.out)
          have HK3 : Hid (Blk w3 w.heap.size 27 [.slice A n c, .slice B m d]) := hide (by rw [hw3]; first | exact HKI.out.alloc _ | exact HKI.out)
          refine (lead_any _ _ _ f _ _ _ s a g _ (HZ.out.later HB3.out) HP.out han hgn).mono ?_
          rintro e w4 ⟨rfl, hb4⟩
          rw [HU.out, HV.out]
          have HB4 := hide (HB3.out.trans (hb4.mono HB3.out.size))
          have HK4 := hide (HK3.out.later hb4)
          clear hb4 hw3 k0 k1 hd2
          go_wp2_with fail
          refine calls_gen fun w5 hw5 => ?_
          have HB5 : Hid (Below w.heap.size w w5) := hide (by rw [hw5]; exact HB4.out.alloc HB4.out.size _)
          have HK5 : Hid (Blk w5 w.heap.size 27 [.slice A n c, .slice B m d]) := hide (by rw [hw5]; exact HK4.out.alloc _)
          have HP5 : Hid (Blk w5 w4.heap.size 53 [.int .i64 u, .int .i64 v]) := hide (by rw [hw5]; exact Blk.new _ _ _)
          clear hw5
          by_cases hin1 : (u : Int) ∈ set
          · refine (containsI_any _ k e set u true _ HK.out (by omega) (HS.out.later HB5.out) (by simp [hin1])).mono ?_
            rintro e w6 ⟨rfl, hq6⟩
            have hb6 := hq6.below w5.heap.size
            have HB6 := hide (HB5.out.trans (hb6.mono HB5.out.size))
            have HK6 := hide (HK5.out.later hb6)
            have k2 := (HP5.out.later hb6).cell 0 _ rfl
            have k3 := (HP5.out.later hb6).cell 1 _ rfl
            clear hq6 hb6
            go_wp2_with fail
            clear k2 k3
            by_cases hin2 : (v : Int) ∈ set
            · have HIN := hide (And.intro hin1 hin2)
              refine (containsI_any _ k _ set v true _ HK.out (by omega) (HS.out.later HB6.out) (by simp [hin2])).mono ?_
              rintro e w7 ⟨rfl, hq7⟩
              have hb7 := hq7.below w6.heap.size
              have HB7 := hide (HB6.out.trans (hb7.mono HB6.out.size))
              have HK7 := hide (HK6.out.later hb7)
              clear hq7 hb7 hin1 hin2
              go_wp2_with fail
              go_roundw
              case rel =>
                refine ⟨y + 1, by omega, by go_num, HB7.out, HK7.out, fun j hj => ?_⟩
                by_cases e : j = y
                · subst e
                  rw [HG.out, Int.toNat_natCast, HU.out, HV.out]
                  exact HIN.out
                · exact HALLI.out j (by omega)
              case measure => simp [intOf]; omega
            · have hrf := HNO.out (fun h => hin2 h.2)
              subst hrf
              refine (containsI_any _ k _ set v false _ HK.out (by omega) (HS.out.later HB6.out) (by simp [hin2])).mono ?_
              rintro e w7 ⟨rfl, hq7⟩
              have HB7 := hide (HB6.out.trans (hq7.below _))
              clear hq7 hin1 hin2
              go_wp2_with fail
              go_ret
              exact ⟨rfl, HB7.out⟩
          · have hrf := HNO.out (fun h => hin1 h.1)
            subst hrf
            refine (containsI_any _ k _ set u false _ HK.out (by omega) (HS.out.later HB5.out) (by simp [hin1])).mono ?_
            rintro e w6 ⟨rfl, hq6⟩
            have HB6 := hide (HB5.out.trans (hq6.below _))
            clear hq6 hin1
            go_wp2_with fail
            go_ret
            exact ⟨rfl, HB6.out⟩
        · have hyk : y = k := by omega
          subst hyk
          go_wp2_with fail
          go_roundw
          case rel =>
            refine ⟨x + 1, by omega, by go_num, HBI.out, HKI.out, fun i j hi hj => ?_⟩
            by_cases e : i = x
            · subst e
              rw [HA.out, Int.toNat_natCast]
              exact HALLI.out j hj
            · exact HALL.out i j (by omega) hj
          case measure => simp [intOf]; omega
    · have hxk : x = k := by omega
      subst hxk
      have hrt : r = true := HR.out.2 (fun i j hi hj => HALL.out i j (by have := HK.out; omega) (by have := HK.out; omega))
      subst hrt
      go_wp2_with fail
      go_ret
      exact ⟨rfl, HB.out⟩

theorem csI_any (A : Option Addr) (n c : Nat) (f : List (List Int)) (B : Option Addr) (m d : Nat) (s : List (List Int)) (C : Option Addr) (k e : Nat) (set : List Int) (r : Bool) (code : Int) (w : World) (hz : ZArg 1048576 w A n f B m s) (hk : set.length = k) (hkb : k ≤ 1048576) (hs : Rd w C set) (hr : CsRes f s set r code) :
    Calls Try.prog 45 #[.agg #[.slice A n c, .slice B m d], .slice C k e] w fun e w' => e = .returned (.tuple #[.bool r, .int .i64 code]) ∧ Below w.heap.size w w' := by
  have hnb := hz.sz.nb
  have HZ := hide hz
  have HK := hide hk
  have HS := hide hs
  have hfl := hz.sz.fl
  have HB0 := hide ((Below.refl _ w).alloc (Nat.le_refl _) (Obj.cells #[Value.slice A n c, Value.slice B m d] 27))
  have HK0 := hide (Blk.new w 27 [.slice A n c, .slice B m d])
  have hpo : PMap f s ∨ ¬ PMap f s := Classical.em _
  rcases hpo with hp | hp
  · have HP := hide hp
    obtain ⟨r1, hr1⟩ := bool_of (IncSet f.length set)
    have HR1 := hide hr1
    rw [hfl] at hr1
    have HR1n := hide hr1
    have HR := hide hr
    clear hp hr hz hk hs hr1 hfl
    go_enter Try.func45, Try.ntmps45
    go_wp2_with fail
    refine (mapI_any _ _ _ f _ _ _ s true _ (HZ.out.later HB0.out) (by simp [HP.out])).mono ?_
    rintro e w1 ⟨rfl, hb1⟩
    have HB1 := hide (HB0.out.trans (hb1.mono HB0.out.size))
    have HK1 := hide (HK0.out.later hb1)
    have k0 := HK1.out.cell 0 _ rfl
    have k1 := HK1.out.cell 1 _ rfl
    clear hb1
    go_wp2_with fail
    refine (hasSet_any _ _ _ _ _ _ _ _ _ set r1 _ hnb HK.out (by omega) (HS.out.later HB1.out) HR1n.out).mono ?_
    rintro e w2 ⟨rfl, hb2⟩
    have HB2 := hide (HB1.out.trans (hb2.mono HB1.out.size))
    have HK2 := hide (HK1.out.later hb2)
    clear hb2 k0 k1
    have k0 := HK2.out.cell 0 _ rfl
    have k1 := HK2.out.cell 1 _ rfl
    cases r1
    · have hni : ¬ IncSet f.length set := fun h => by have := HR1.out.2 h; cases this
      rcases HR.out with ⟨_, h, _⟩ | ⟨_, _, rfl, rfl⟩ | ⟨h, _⟩
      · exact absurd h hni
      · clear hni
        go_wp2_with fail
        go_ret2
        exact ⟨rfl, HB2.out⟩
      · exact absurd HP.out h
    · have hin : IncSet f.length set := HR1.out.1 rfl
      rcases HR.out with ⟨_, _, hrr, rfl⟩ | ⟨_, h, _⟩ | ⟨h, _⟩
      · have HIN : Hid (IncSet n set) := hide (HR1n.out.1 rfl)
        have HRR := hide hrr
        clear hrr hin
        go_wp2_with fail
        refine (isClosed_any _ _ _ f _ _ _ s _ _ _ set r _ (HZ.out.later HB2.out) HP.out HK.out HIN.out (HS.out.later HB2.out) HRR.out).mono ?_
        rintro e w3 ⟨rfl, hb3⟩
        have HB3 := hide (HB2.out.trans (hb3.mono HB2.out.size))
        clear hb3 k0 k1
        go_wp2_with fail
        go_ret2
        exact ⟨rfl, HB3.out⟩
      · exact absurd hin h
      · exact absurd HP.out h
  · have HP := hide hp
    rcases hr with ⟨h, _⟩ | ⟨h, _⟩ | ⟨_, rfl, rfl⟩
    · exact absurd h hp
    · exact absurd h hp
    · clear hp hz hk hs
      go_enter Try.func45, Try.ntmps45
      go_wp2_with fail
      refine (mapI_any _ _ _ f _ _ _ s false _ (HZ.out.later HB0.out) (by simp [HP.out])).mono ?_
      rintro e w1 ⟨rfl, hb1⟩
      have HB1 := hide (HB0.out.trans (hb1.mono HB0.out.size))
      clear hb1
      go_wp2_with fail
      go_ret2
      exact ⟨rfl, HB1.out⟩
end Go.Proofs.Ytanldiildinbdaa
namespace Go.Proofs.Ytanldiildinbdaa
open Go Go.RowKit
set_option maxHeartbeats 1000000

theorem inc_stepS {n j : Nat} {set : List Int} (h : ∀ i, i < j → (0 ≤ set.getD i 0 ∧ set.getD i 0 < (n : Int)) ∧ (0 < i → set.getD (i - 1) 0 < set.getD i 0)) (h1 : 0 ≤ set.getD j 0) (h2 : set.getD j 0 < (n : Int)) (h3 : 0 < j → set.getD (j - 1) 0 < set.getD j 0) : ∀ i, i < j + 1 → (0 ≤ set.getD i 0 ∧ set.getD i 0 < (n : Int)) ∧ (0 < i → set.getD (i - 1) 0 < set.getD i 0) := by
  intro i hi
  by_cases e : i = j
  · subst e; exact ⟨⟨h1, h2⟩, h3⟩
  · exact h i (by omega)

set_option maxRecDepth 100000 in
theorem l02Set_any (n : Nat) (C : Option Addr) (k e : Nat) (set : List Int) (r : Bool) (w : World) (hn : n ≤ 1048576) (hk : set.length = k) (hkb : k ≤ 9223372036854775807) (hs : Rd w C set) (hr : r = true ↔ IncSet n set) :
    Calls Try.prog 96 #[.int .i64 n, .slice C k e] w fun e w' => e = .returned (.bool r) ∧ Below w.heap.size w w' := by
  have HK := hide hk
  have HS := hide hs
  have HR := hide hr
  have HB0 := hide (Below.refl w.heap.size w)
  clear hk hs hr
  go_enter Try.func96, Try.ntmps96
  go_wp2_with fail
  go_loopw [5] (fun i wr => ∃ j : Nat, j ≤ k ∧ i = .int .i64 j ∧ Below w.heap.size w wr ∧ ∀ i, i < j → (0 ≤ set.getD i 0 ∧ set.getD i 0 < (n : Int)) ∧ (0 < i → set.getD (i - 1) 0 < set.getD i 0)) (fun i _ => k - (intOf i).toNat)
  case atStart => exact ⟨0, Nat.zero_le _, rfl, HB0.out, fun i hi => absurd hi (Nat.not_lt_zero _)⟩
  case round =>
    obtain ⟨j, hj, rfl, hbe, hall⟩ := hrel
    have HB := hide hbe
    have HALL := hide hall
    clear hbe hall
    by_cases hlt : j < k
    · have hjz : (j : Int) < k := by omega
      obtain ⟨b, o, rfl, hbw, hc⟩ := HS.out (by have := HK.out; omega)
      have hc1 := hc j (by have := HK.out; omega)
      obtain ⟨u, hu⟩ : ∃ u, set.getD j 0 = u := ⟨_, rfl⟩
      rw [hu] at hc1
      have HU := hide hu
      have hc2 : wr.cell? ⟨b, o + j, none⟩ = some (.int .i64 u) := (HB.out.cell (p := ⟨b, o + j, none⟩) hbw).trans hc1
      have HU2 : Hid (w.cell? ⟨b, o + j, none⟩ = some (.int .i64 u)) := hide hc1
      clear hu hc1
      have hno : ¬ ((0 ≤ u ∧ u < (n : Int)) ∧ (0 < j → set.getD (j - 1) 0 < u)) → r = false := fun h => by
        cases r
        · rfl
        · have h0 := (HR.out.1 rfl).1 j (by have := HK.out; omega)
          rw [HU.out] at h0
          exact absurd h0 h
      have HNO := hide hno
      have HC := hide hc
      clear hno hc
      have hw1 : IntKind.i64.wrap ((n : Int) - 1) = (n : Int) - 1 := IntWalk.i64_in _ (by omega)
      by_cases h0 : 0 ≤ u ∧ u ≤ (n : Int) - 1
      · have HIN := hide h0
        clear h0
        by_cases hj0 : j = 0
        · have hjz0 : ¬ (0 : Int) < (j : Int) := by omega
          have hjn : decide (0 < j) = false := by simpa using hj0
          have HJ0 := hide hj0
          clear hj0
          go_wp2_with fail
          go_quiet ((go_at_call 101; exact quiet_call (in_any _ _ _ true _ (by simp [HIN.out.1, HIN.out.2]))))
          have HBc := hide (bdrewN HB.out nq)
          go_wp2_with fail
          go_roundw
          case rel => exact ⟨j + 1, by omega, by go_num, HBc.out, inc_stepS HALL.out (by rw [HU.out]; exact HIN.out.1) (by rw [HU.out]; have := HIN.out.2; omega) (fun h => absurd HJ0.out (by omega))⟩
          case measure => simp [intOf]; omega
        · obtain ⟨q, hq⟩ : ∃ q, j - 1 = q := ⟨_, rfl⟩
          have hp1 := HC.out q (by have := HK.out; omega)
          have HQ := hide hq
          obtain ⟨v, hv⟩ : ∃ v, set.getD q 0 = v := ⟨_, rfl⟩
          rw [hv] at hp1
          have HV := hide hv
          have hp2 : wr.cell? ⟨b, o + q, none⟩ = some (.int .i64 v) := (HB.out.cell (p := ⟨b, o + q, none⟩) hbw).trans hp1
          have hji : (j : Int) - 1 = (q : Int) := by omega
          have hjz0 : (0 : Int) < (j : Int) := by omega
          have hqk : (q : Int) < k := by omega
          have hjn : decide (0 < j) = true := by simp; omega
          have hw2 : IntKind.i64.wrap ((j : Int) - 1) = (q : Int) := by rw [hji]; exact IntWalk.i64_in _ (by omega)
          have HV2 : Hid (w.cell? ⟨b, o + q, none⟩ = some (.int .i64 v)) := hide hp1
          clear hv hp1 hq
          by_cases h2 : u ≤ v
          · have hrf := HNO.out (fun h => by have := h.2 (by omega); rw [HQ.out, HV.out] at this; omega)
            subst hrf
            go_wp2_with fail
            go_quiet ((go_at_call 101; exact quiet_call (in_any _ _ _ true _ (by simp [HIN.out.1, HIN.out.2]))))
            have HBc := hide (bdrewN HB.out nq)
            go_wp2_with fail
            go_ret
            exact ⟨rfl, HBc.out⟩
          · have h22 : ¬ u ≤ v := h2
            go_wp2_with fail
            go_quiet ((go_at_call 101; exact quiet_call (in_any _ _ _ true _ (by simp [HIN.out.1, HIN.out.2]))))
            have HBc := hide (bdrewN HB.out nq)
            go_wp2_with fail
            go_roundw
            case rel => exact ⟨j + 1, by omega, by go_num, HBc.out, inc_stepS HALL.out (by rw [HU.out]; exact HIN.out.1) (by rw [HU.out]; have := HIN.out.2; omega) (fun _ => by rw [HQ.out, HV.out, HU.out]; omega)⟩
            case measure => simp [intOf]; omega
      · have hrf := HNO.out (fun h => by omega)
        subst hrf
        have HIN := hide h0
        clear h0
        go_wp2_with fail
        go_quiet ((go_at_call 101; exact quiet_call (in_any _ _ _ false _ (by simpa using HIN.out))))
        have HBc := hide (bdrewN HB.out nq)
        go_wp2_with fail
        go_ret
        exact ⟨rfl, HBc.out⟩
    · have hjk : j = k := by omega
      subst hjk
      have hrv : r = decide (0 < j) := by
        by_cases h : 0 < j
        · have h1 : r = true := HR.out.2 ⟨fun i hi => HALL.out i (by have := HK.out; omega), by have := HK.out; omega⟩
          rw [h1]; simp [h]
        · have h1 : r = false := by
            cases r
            · rfl
            · have := (HR.out.1 rfl).2; have := HK.out; omega
          rw [h1]; simp [h]
      have HRV := hide hrv
      clear hrv
      go_wp2_with fail
      go_ret
      exact ⟨by rw [HRV.out]; rfl, HB.out⟩

set_option maxRecDepth 100000 in
theorem l02Closed_any (A : Option Addr) (n c : Nat) (f : List (List Int)) (B : Option Addr) (m d : Nat) (s : List (List Int)) (C : Option Addr) (k e : Nat) (set : List Int) (r : Bool) (w : World) (hz : ZArg 1048576 w A n f B m s) (hp : PMap f s) (hk : set.length = k) (hi : IncSet n set) (hs : Rd w C set) (hr : r = true ↔ ClF f s set) :
    Calls Try.prog 77 #[.agg #[.slice A n c, .slice B m d], .slice C k e] w fun e w' => e = .returned (.bool r) ∧ Below w.heap.size w w' := by
  have HZ := hide hz
  have HP := hide hp
  have HK := hide hk
  have HI := hide hi
  have HS := hide hs
  have HR := hide hr
  have hkb : k ≤ 1048576 := by have h1 := hi.le; have h2 := hz.sz.nb; omega
  have hnb := hz.sz.nb
  have HFL := hide hz.sz.fl
  obtain rfl := hz.same hp
  have HB0 := hide ((Below.refl _ w).alloc (Nat.le_refl _) (Obj.cells #[Value.slice A m c, Value.slice B m d] 27))
  have HK0 := hide (Blk.new w 27 [.slice A m c, .slice B m d])
  clear hz hp hk hi hs hr
  go_enter Try.func77, Try.ntmps77
  go_wp2_with fail
  go_loopw [5] (fun i wr => ∃ x : Nat, x ≤ k ∧ i = .int .i64 x ∧ Below w.heap.size w wr ∧ Blk wr w.heap.size 27 [.slice A m c, .slice B m d] ∧ ∀ i j, i < x → j < k → ((ap f (set.getD i 0).toNat (set.getD j 0).toNat : Nat) : Int) ∈ set ∧ ((ap s (set.getD i 0).toNat (set.getD j 0).toNat : Nat) : Int) ∈ set) (fun i _ => k - (intOf i).toNat)
  case atStart => exact ⟨0, Nat.zero_le _, rfl, HB0.out, HK0.out, fun i j hi => absurd hi (Nat.not_lt_zero _)⟩
  case round =>
    obtain ⟨x, hx, rfl, hbe, hkk, hall⟩ := hrel
    have HB := hide hbe
    have HKK := hide hkk
    have HALL := hide hall
    clear hbe hkk hall
    by_cases hlt : x < k
    · have hxz : (x : Int) < k := by omega
      obtain ⟨b, o, rfl, hbw, hc⟩ := HS.out (by have := HK.out; omega)
      obtain ⟨a, ha, han⟩ := HI.out.at (i := x) (by have := HK.out; omega)
      have hc1 := hc x (by have := HK.out; omega)
      rw [ha] at hc1
      have HA := hide ha
      have HC1 := hide hc1
      have HC := hide hc
      clear ha hc1 hc
      go_wp2_with fail
      obtain ⟨wo, rfl⟩ : ∃ wo : World, wo = wr := ⟨_, rfl⟩
      go_loopw [6] (fun i wi => ∃ y : Nat, y ≤ k ∧ i = .int .i64 y ∧ Below w.heap.size w wi ∧ Blk wi w.heap.size 27 [.slice A m c, .slice B m d] ∧ ∀ j, j < y → ((ap f a (set.getD j 0).toNat : Nat) : Int) ∈ set ∧ ((ap s a (set.getD j 0).toNat : Nat) : Int) ∈ set) (fun i _ => k - (intOf i).toNat)
      case atStart => exact ⟨0, Nat.zero_le _, rfl, HB.out, HKK.out, fun j hj => absurd hj (Nat.not_lt_zero _)⟩
      case round =>
        obtain ⟨y, hy, rfl, hbi, hki, halli⟩ := hrel
        have HBI := hide hbi
        have HKI := hide hki
        have HALLI := hide halli
        clear hbi hki halli
        by_cases hlty : y < k
        · have hyz : (y : Int) < k := by omega
          obtain ⟨g, hg, hgn⟩ := HI.out.at (i := y) (by have := HK.out; omega)
          have hd1 := HC.out y (by have := HK.out; omega)
          rw [hg] at hd1
          have HG := hide hg
          have hd2 : wr.cell? ⟨b, o + y, none⟩ = some (.int .i64 g) := (HBI.out.cell (p := ⟨b, o + y, none⟩) hbw).trans hd1
          have hd3 : wr.cell? ⟨b, o + x, none⟩ = some (.int .i64 a) := (HBI.out.cell (p := ⟨b, o + x, none⟩) hbw).trans HC1.out
          have k0 := HKI.out.cell 0 _ rfl
          have k1 := HKI.out.cell 1 _ rfl
          obtain ⟨b1, o1, b2, o2, bx, ox, cx, by', oy, cy, rfl, rfl, h1, h2, h3, h4, _, _, _, _⟩ := (HZ.out.later HBI.out).reads HP.out han hgn
          obtain ⟨u, hu⟩ : ∃ u, ap f a g = u := ⟨_, rfl⟩
          obtain ⟨v, hv⟩ : ∃ v, ap s a g = v := ⟨_, rfl⟩
          rw [hu] at h3
          rw [hv] at h4
          have HU := hide hu
          have HV := hide hv
          have hgz : (g : Int) < m := by omega
          have haz : (a : Int) < m := by omega
          have hno : ¬ ((u : Int) ∈ set ∧ (v : Int) ∈ set) → r = false := fun h => by
            cases r
            · rfl
            · have h0 := (HR.out.1 rfl) x y (by have := HK.out; omega) (by have := HK.out; omega)
              rw [HA.out, HG.out, Int.toNat_natCast, Int.toNat_natCast, HU.out, HV.out] at h0
              exact absurd h0 h
          have HNO := hide hno
          have HRS := hide (HS.out.later HBI.out)
          clear hg hd1 hu hv hno
          by_cases hin1 : (u : Int) ∈ set
          · have HI1 := hide hin1
            have hd1 : decide ((u : Int) ∈ set) = true := by simpa using hin1
            by_cases hin2 : (v : Int) ∈ set
            · have HI2 := hide hin2
              have hd2' : decide ((v : Int) ∈ set) = true := by simpa using hin2
              clear hin1 hin2
              go_wp2_with fail
              go_quiet ((go_at_call 97; exact quiet_call (has_any _ _ _ set _ _ _ HK.out (by omega) HRS.out decide_eq_true_iff)))
              have HBN := hide (bdrewN HBI.out nq)
              have HKN := hide (HKI.out.drewN nq)
              clear h1 h2 h3 h4 k0 k1 hd2 hd3
              go_wp2_with fail
              go_roundw
              case rel =>
                refine ⟨y + 1, by omega, by go_num, HBN.out, HKN.out, fun j hj => ?_⟩
                by_cases e : j = y
                · subst e
                  rw [HG.out, Int.toNat_natCast, HU.out, HV.out]
                  exact ⟨HI1.out, HI2.out⟩
                · exact HALLI.out j (by omega)
              case measure => simp [intOf]; omega
            · have HI2 := hide hin2
              have hd2' : decide ((v : Int) ∈ set) = false := by simpa using hin2
              have hrf := HNO.out (fun h => hin2 h.2)
              subst hrf
              clear hin1 hin2
              go_wp2_with fail
              go_quiet ((go_at_call 97; exact quiet_call (has_any _ _ _ set _ _ _ HK.out (by omega) HRS.out decide_eq_true_iff)))
              have HBN := hide (bdrewN HBI.out nq)
              go_wp2_with fail
              go_ret
              exact ⟨rfl, HBN.out⟩
          · have HI1 := hide hin1
            have hd1 : decide ((u : Int) ∈ set) = false := by simpa using hin1
            have hrf := HNO.out (fun h => hin1 h.1)
            subst hrf
            clear hin1
            go_wp2_with fail
            go_quiet ((go_at_call 97; exact quiet_call (has_any _ _ _ set _ _ _ HK.out (by omega) HRS.out decide_eq_true_iff)))
            have HBN := hide (bdrewN HBI.out nq)
            go_wp2_with fail
            go_ret
            exact ⟨rfl, HBN.out⟩
        · have hyk : y = k := by omega
          subst hyk
          go_wp2_with fail
          go_roundw
          case rel =>
            refine ⟨x + 1, by omega, by go_num, HBI.out, HKI.out, fun i j hi hj => ?_⟩
            by_cases e : i = x
            · subst e
              rw [HA.out, Int.toNat_natCast]
              exact HALLI.out j hj
            · exact HALL.out i j (by omega) hj
          case measure => simp [intOf]; omega
    · have hxk : x = k := by omega
      subst hxk
      have hrt : r = true := HR.out.2 (fun i j hi hj => HALL.out i j (by have := HK.out; omega) (by have := HK.out; omega))
      subst hrt
      go_wp2_with fail
      go_ret
      exact ⟨rfl, HB.out⟩
end Go.Proofs.Ytanldiildinbdaa
