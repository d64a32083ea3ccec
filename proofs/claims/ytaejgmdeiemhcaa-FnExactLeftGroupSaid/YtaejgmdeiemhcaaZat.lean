import Derived.Test.YtaejgmdeiemhcaaZas
import Derived.Test.YtaejgmdeiemhcaaZj
import Derived.Deep.Cut
import Derived.Deep.RegionHeld3
import Derived.Deep.DeepCutAuto
namespace Go.Proofs.Ytaejgmdeiemhcaa
open Go Go.RowKit
open Classical
set_option maxHeartbeats 4000000
set_option maxRecDepth 100000 in
theorem grpO_any (k limit : Nat) (A : Option Addr) (m c : Nat) (rows : List (List Int)) (w : World) (h1 : 1 ≤ k) (h12 : k ≤ 12) (hl1 : 1 ≤ limit) (hl : limit ≤ 5040) (hm : rows.length = m) (hmb : m ≤ 4096) (hg : Gens rows k) (hr : Rd2 w A rows) :
    Calls Try.prog 60 #[.int .i64 k, .slice A m c, .int .i64 limit] w fun e w' => (∃ L A' c', Enu k rows L ∧ Asc L ∧ L.length ≤ limit ∧ e = .returned (.tuple #[.slice A' L.length c', .bool true]) ∧ Below w.heap.size w w' ∧ Obj2 37 2 w.heap.size w'.heap.size w' A' L) ∨ (¬ AtMost k rows limit ∧ e = .returned (.tuple #[.slice none 0 0, .bool false]) ∧ Below w.heap.size w w') := by
  have HM := hide hm
  have HG := hide hg
  have HR := hide hr
  obtain ⟨i2, hj, hy0, hy1, hy2⟩ := info_parts neInfo2
  clear hm hg hr
  go_enter Try.func60, Try.ntmps60
  go_wp2_with fail
  refine (l01Unit_any k _ (by omega)).mono ?_
  rintro e w1 ⟨A1, c1, rfl, hb1, hu1⟩
  have HB1 := hide hb1
  have HU1 := hide hu1.obj
  clear hb1 hu1
  go_wp2_with fail
  refine calls_gen fun w2 hw2 => ?_
  have HB2 : Hid (Below w.heap.size w w2) := hide (by rw [hw2]; exact HB1.out.alloc HB1.out.size _)
  have HQ2 : Hid (LstV 37 2 w.heap.size w2 (.slice (some ⟨w1.heap.size, 0, none⟩) 1 1) [unitN k] [.slice A1 k c1]) := hide (by
    rw [hw2]
    have h := LstV.single (c := c1) (ts := 37) HU1.out HB1.out.size
    rw [unitN_length] at h
    exact h)
  have hlt2 : w1.heap.size < w2.heap.size := by rw [hw2]; simp
  clear hw2 HU1 HB1
  refine (l01Unit_any k _ (by omega)).mono ?_
  rintro e w3 ⟨A3, c3, rfl, hb3, hu3⟩
  have HB3 := hide (HB2.out.trans (hb3.mono HB2.out.size))
  have HQ3 := hide (HQ2.out.later hb3)
  have HU3 := hide (hu3.obj.mono (lo' := w.heap.size) HB2.out.size (Nat.le_refl _))
  have hlt3 : w1.heap.size < w3.heap.size := by have := hb3.size; omega
  clear hb3 hu3 HB2 HQ2
  go_upto_region 2 with fail
  refine wp_gen fun w4 hw4 => ?_
  have HB4 : Hid (Below w.heap.size w w4) := hide (by rw [hw4]; exact HB3.out.alloc HB3.out.size _)
  have HQ4 : Hid (Qs 37 2 w.heap.size w4 (.slice (some ⟨w1.heap.size, 0, none⟩) 1 1) (.slice (some ⟨w3.heap.size, 0, none⟩) 1 1) [unitN k] [unitN k] [.slice A1 k c1] [.slice A3 k c3]) := hide (by
    have h := Qs.start2 (g := w3.heap.size) (w := w) (c := c1) (c2 := c3) (A := A1) (A2 := A3) (r := unitN k) (Nat.le_refl _) HB3.out rfl (by rw [unitN_length]; exact HQ3.out) (fun g0 hg0 => by simp [Value.ownBlock] at hg0; omega) HU3.out
    rw [unitN_length] at h
    rw [hw4]; exact h)
  clear hw4 HB3 HQ3 HU3
  go_wp2_with fail
  go_loopw [8, 9, 10] (fun v s i wi => ∃ (j : Nat) (q z : List (List Int)) (qv zv : List Value), j ≤ q.length ∧ i = .int .i64 j ∧ Srch k rows q j 0 ∧ q.length ≤ limit ∧ Asc z ∧ (∀ x, x ∈ z ↔ x ∈ q) ∧ Below w.heap.size w wi ∧ Qs 37 2 w.heap.size wi v s q z qv zv) (fun _ _ i _ => limit + 1 - (intOf i).toNat)
  case atStart => exact ⟨0, _, _, _, _, by simp, rfl, Srch.start k rows, by simpa using hl1, Asc.one _, fun x => Iff.rfl, HB4.out, HQ4.out⟩
  case round =>
    obtain ⟨j, q, z, qv, zv, hjq, rfl, hwk, hql, hasc, hmem, hbe, hqs⟩ := hrel
    clear HB4 HQ4
    obtain ⟨Ag, cg, hv, hog⟩ := hqs.q.shape
    subst hv
    have HW := hide hwk
    have HAS := hide hasc
    have HME := hide hmem
    have HB := hide hbe
    have HQ := hide hqs
    clear hwk hasc hmem hbe hqs hog
    obtain ⟨fl, hfe⟩ : ∃ fl, q.length = fl := ⟨_, rfl⟩
    have HFE := hide hfe
    rw [hfe] at hjq hql
    rw [hfe]
    clear hfe
    by_cases hjf : j < fl
    · have hjz : (j : Int) < fl := by omega
      go_wp2_with fail
      go_loopw [8, 9, 11] (fun v s i wi => ∃ (k2 : Nat) (q z : List (List Int)) (qv zv : List Value), k2 ≤ m ∧ i = .int .i64 k2 ∧ j < q.length ∧ Srch k rows q j k2 ∧ q.length ≤ limit ∧ Asc z ∧ (∀ x, x ∈ z ↔ x ∈ q) ∧ Below w.heap.size w wi ∧ Qs 37 2 w.heap.size wi v s q z qv zv) (fun _ _ i _ => m - (intOf i).toNat)
      case atStart => exact ⟨0, q, z, qv, zv, Nat.zero_le _, rfl, by rw [HFE.out]; exact hjf, HW.out, by rw [HFE.out]; exact hql, HAS.out, HME.out, HB.out, by have h := HQ.out; rw [HFE.out] at h; exact h⟩
      case round =>
        obtain ⟨k2, q2, z2, qv2, zv2, hk2, rfl, hjf2, hwk2, hql2, hasc2, hmem2, hbe2, hqs2⟩ := hrel
        clear HW HAS HME HB HQ HFE hql
        obtain ⟨Ag2, cg2, hv2, hog2⟩ := hqs2.q.shape
        have hz0 : 0 < z2.length := by
          have hx : q2.getD j [] ∈ z2 := (hmem2 _).2 (getD_mem _ _ _ hjf2)
          cases z2 with
          | nil => cases hx
          | cons a l => simp
        obtain ⟨gs, cs, hvs, hcs, hcm, hgs, hsc, hsr⟩ := hqs2.look hz0
        subst hv2
        subst hvs
        have HW := hide hwk2
        have HAS := hide hasc2
        have HME := hide hmem2
        have HB := hide hbe2
        obtain ⟨fl2, hfe2⟩ : ∃ fl2, q2.length = fl2 := ⟨_, rfl⟩
        obtain ⟨zl, hze⟩ : ∃ zl, z2.length = zl := ⟨_, rfl⟩
        have HFE := hide hfe2
        have HZE := hide hze
        have HSC := hide hsc
        have HSR := hide hsr
        rw [hfe2] at hjf2 hql2 hqs2
        rw [hze] at hz0 hcs hqs2
        have HQ := hide hqs2
        clear hwk2 hasc2 hmem2 hbe2 hsc hsr hqs2
        rw [hfe2, hze]
        by_cases hkm : k2 < m
        · have hkz : (k2 : Int) < m := by omega
          have hfz : (fl2 : Int) ≤ limit := by omega
          have hjz2 : (j : Int) < fl2 := by omega
          obtain ⟨p, hp⟩ : ∃ p, rows.getD k2 [] = p := ⟨_, rfl⟩
          obtain ⟨x, hx⟩ : ∃ x, q2.getD j [] = x := ⟨_, rfl⟩
          have hxf : Gen k rows x := by rw [← hx]; exact HW.out.gen _ (getD_mem _ _ _ (by rw [hfe2]; exact hjf2))
          have hpl : p.length = k := by rw [← hp]; exact (HG.out k2 (by rw [HM.out]; exact hkm)).1
          have hpp : Prm p := by rw [← hp]; exact (HG.out k2 (by rw [HM.out]; exact hkm)).2
          have hxl : x.length = k := (gen_prm h1 h12 HG.out hxf).1
          have hxp : Prm x := (gen_prm h1 h12 HG.out hxf).2
          have HRP : Hid (∃ b o Ak ck, A = some ⟨b, o, none⟩ ∧ b < wr.heap.size ∧ wr.cell? ⟨b, o + k2, none⟩ = some (.slice Ak k ck) ∧ Rd wr Ak p) := hide (by
            obtain ⟨b, o, e1, e2, e3⟩ := (HR.out.later HB.out) (by rw [HM.out]; omega)
            obtain ⟨Ak, ck, e4, e5⟩ := e3 k2 (by rw [HM.out]; exact hkm)
            rw [hp] at e4 e5
            rw [hpl] at e4
            exact ⟨b, o, Ak, ck, e1, e2, e4, e5⟩)
          have HRX : Hid (∃ b o Ak ck, Ag2 = some ⟨b, o, none⟩ ∧ b < wr.heap.size ∧ wr.cell? ⟨b, o + j, none⟩ = some (.slice Ak k ck) ∧ Rd wr Ak x) := hide (by
            obtain ⟨b, o, e1, e2, e3⟩ := hog2.rd (by rw [hfe2]; omega)
            obtain ⟨Ak, ck, e4, e5⟩ := e3 j (by rw [hfe2]; exact hjf2)
            rw [hx] at e4 e5
            rw [hxl] at e4
            exact ⟨b, o, Ak, ck, e1, e2, e4, e5⟩)
          clear hog2 hfe2 hze
          have HX := hide hx
          have HP := hide hp
          have HXF := hide hxf
          have HPP := hide hpp
          have HXP := hide hxp
          have HPL := hide hpl
          have HXL := hide hxl
          clear hx hp hxf hpp hxp hpl hxl
          obtain ⟨bP, oP, AP, cP, eP1, eP2, eP3, eP4⟩ := HRP.out
          obtain ⟨bX, oX, AX, cX, eX1, eX2, eX3, eX4⟩ := HRX.out
          have HRP4 := hide eP4
          have HRX4 := hide eX4
          clear eP4 eX4 HRP HRX
          subst eP1
          subst eX1
          have HRNG : Hid (∀ y : List Int, y.length = k → Prm y → ∀ z ∈ y, 0 ≤ z ∧ z < (k : Int)) := hide (fun y hy hq z hz => by have h := hq.2.2.1 z hz; rw [hy] at h; exact h)
          go_wp2_with fail
          obtain ⟨y, hy⟩ : ∃ y, thenL x p = y := ⟨_, rfl⟩
          have hyl : y.length = k := by rw [← hy, thenL_length]; exact HXL.out
          have hyp : Prm y := by rw [← hy]; exact then_prm HXL.out HXP.out HPL.out HPP.out
          have HY := hide hy
          have HYL := hide hyl
          have HYP := hide hyp
          clear hy hyl hyp
          go_cut [12] (fun vv wx => ∃ A6 c6, vv = .slice A6 k c6 ∧ Below wr.heap.size wr wx ∧ Res 2 wr.heap.size wx A6 y)
          case first =>
            go_region_held3 (fun w' => w'.cell? ⟨bP, oP + k2, none⟩ = some (.slice AP k cP) ∧ w'.cell? ⟨bX, oX + j, none⟩ = some (.slice AX k cX)) (first | exact ⟨eP3, eX3⟩ | go_keep) (first | (go_at_call 73; go_must (refine calls_gen fun wc hwc => ?_; (first | have hbx := drew_below hwc | have hbx := eq_below hwc); have HBc := hide hbx; clear hwc hbx; refine (l01Then_any AX AP k cX k cP x p _ HXL.out HPL.out (by omega) (by omega) (HRX4.out.later HBc.out) (HRP4.out.later HBc.out) (HRNG.out _ HXL.out HXP.out)).mono ?_; rintro e wd ⟨A6, c6, rfl, hbd, hres⟩; rw [HY.out] at hres; have HRES := hide hres; have HBd := hide (HBc.out.trans (hbd.mono HBc.out.size)); have HSZ := hide HBc.out.size; clear hbd hres; have e1 := (HBd.out.cell (p := ⟨bP, oP + k2, none⟩) eP2).trans eP3; have e2 := (HBd.out.cell (p := ⟨bX, oX + j, none⟩) eX2).trans eX3)))
            all_goals go_wp2_with fail
            all_goals go_meet
            all_goals refine ⟨_, _, rfl, ?_⟩
            all_goals first | exact ⟨HBd.out, HRES.out.mono HSZ.out⟩ | exact ⟨HBd.out.drew, (HRES.out.mono HSZ.out).later ((Below.refl _ _).drew)⟩
          case rest =>
            obtain ⟨A6, c6, rfl, hb6, hres6⟩ := hcut
            have HB6 := hide hb6
            have HR6 := hide hres6
            clear hb6 hres6
            have HQ6 := hide (HQ.out.later HB6.out)
            have hzf : zl ≤ fl2 := by
              have h := nodup_sub HAS.out.nodup (fun a ha => (HME.out a).1 ha)
              rw [HFE.out, HZE.out] at h
              exact h
            have HZL : Hid (∀ i, i < z2.length → (z2.getD i []).length = k) := hide (fun i hi => (gen_prm h1 h12 HG.out (HW.out.gen _ ((HME.out _).1 (getD_mem _ _ _ hi)))).1)
            have HB6w := hide (HB.out.trans (HB6.out.mono HB.out.size))
            have hwr0 := HB.out.size
            have hw60 := HB6.out.size
            have HLOW := hide HQ.out.q.low
            clear HQ HSC HSR HB HB6 hgs hcm
            go_wp2_with fail
            refine (put_any gs zl cs w.heap.size k c6 A6 zv2 z2 y _ (by have h := HQ6.out.s; first | exact h | (rw [HZE.out] at h; exact h)) HQ6.out.r HZE.out hz0 (by omega) HZL.out HYL.out h12 HAS.out HR6.out.rd (by omega)).mono ?_
            rintro e w7 ⟨pos, hplc, (⟨hin, rfl, hq7⟩ | ⟨hnin, g7, cap7, rfl, hb7, hc7, hg7, hown7⟩)⟩
            · have HIN := hide hin
              have HB7 := hide (hq7.below wc.heap.size)
              have HB7w := hide (HB6w.out.trans (HB7.out.mono HB6w.out.size))
              have HQ7 := hide (HQ6.out.later HB7.out)
              clear hin hplc hq7 HQ6 HB6w HB7 HR6
              go_wp2_with fail
              go_roundw
              case rel =>
                refine ⟨k2 + 1, q2, z2, qv2, zv2, by omega, by go_num, by rw [HFE.out]; exact hjf2, HW.out.keep (by rw [HX.out, HP.out, HY.out]; exact (HME.out y).1 HIN.out), by rw [HFE.out]; exact hql2, HAS.out, HME.out, HB7w.out, ?_⟩
                have h := HQ7.out
                first | exact h | (rw [HFE.out, HZE.out]; exact h)
              case measure => simp [intOf]; omega
            · have HNIN := hide hnin
              have hpt := hplc.top
              rw [HZE.out] at hpt
              have HASC := hide (HAS.out.ins hplc hnin)
              have HC7 := hide hc7
              have HY7 : Hid (Obj1 2 wr.heap.size w7.heap.size w7 A6 y) := hide ((HC7.out.keepT (by decide) rfl HQ6.out.s |>.obj HR6.out.obj).mono (Nat.le_refl _) hc7.size)
              have HB7w : Hid (Below w.heap.size w w7) := hide (HB6w.out.trans hb7)
              have HQ7 : Hid (Qs 37 2 w.heap.size w7 (.slice (some ⟨bX, oX, none⟩) fl2 cg2) (.slice (some ⟨g7, 0, none⟩) (zl + 1) cap7) q2 (insL z2 pos y) qv2 (zv2.take pos ++ .slice A6 y.length c6 :: zv2.drop pos)) := hide (HQ6.out.put (by decide) hc7 (by rw [HZE.out]; exact hpt) (HR6.out.obj.mono hwr0 (Nat.le_refl _)) hg7 (by rw [insL_length, HZE.out]) (by rw [HYL.out]; exact hown7))
              clear hnin hplc hb7 hc7 hg7 hown7 HQ6 HB6w HR6 HC7
              have hs7 := HB7w.out.size
              have HOWQ : Hid (w7.ownsRow w.heap.size 37 1 (.slice (some ⟨bX, oX, none⟩) fl2 cg2) fl2 qv2) := hide (by have h := HQ7.out.q.own; rw [HFE.out] at h; exact h)
              go_wp2_with (at_builtin; refine wpList_append_own_at _ rfl _ _ 22 rfl w.heap.size 37 i2 (.slice none 0 0) 1 24 Try.underlying22 hj hy0 hy1 hy2 rfl (by decide) _ _ _ rfl (HOWQ.out.alloc _) ⟨w7.heap.size, 0, none⟩ 1 1 [.slice A6 k c6] rfl rfl ?f1 ?f2 ?f3 ?f4 ?f5 ?_)
              case f1 => exact ne_new
              case f2 => intro u hu; simp at hu; subst hu; rfl
              case f3 => unfold maxLen; omega
              case f4 => omega
              case f5 => simp; omega
              intro v8 w8 hown8 hgrow8 _ hat8
              have HB8 : Hid (Below w.heap.size w w8) := hide ((HB7w.out.alloc hs7 _).grown hgrow8 (by simp; omega) (fun g hg => (HOWQ.out.alloc (.cells #[.slice A6 k c6] 37)).lt g hg |>.1))
              have HQ8 := hide (HQ7.out.queued (tmp := .cells #[.slice A6 k c6] 37) (A := A6) (c := c6) (p := y) (w1 := w8) (v' := v8) (by decide) (HY7.out.mono hwr0 (Nat.le_refl _)) (fun i u g hu hg a ha => by have h1 := HLOW.out i u g hu hg; have h2 := (HY7.out.bounds a ha).1; omega) (by rw [HYL.out, HFE.out]; exact hown8) hgrow8 (by simpa using hat8))
              have hnq : y ∉ q2 := fun h => HNIN.out ((HME.out y).2 h)
              have HNQ := hide hnq
              obtain ⟨g8, c8, hv8, _, _⟩ := own_look hown8 (by omega)
              subst hv8
              clear hown8 hgrow8 hat8 HQ7 HOWQ HB7w hnq
              by_cases hfull : fl2 = limit
              · have hfz2 : (limit : Int) < (fl2 : Int) + 1 := by omega
                go_wp2_with fail
                go_ret2
                exact .inr ⟨not_atMost HW.out.nd HW.out.gen (by rw [← HY.out, ← HX.out, ← HP.out]; exact HW.out.made (by rw [HFE.out]; exact hjf2) (by rw [HM.out]; exact hkm)) HNQ.out (by rw [HFE.out]; omega), rfl, HB8.out⟩
              · have hfz2 : (fl2 : Int) + 1 ≤ limit := by omega
                go_wp2_with fail
                go_roundw
                case rel =>
                  have hsr := HW.out.push (by rw [HFE.out]; exact hjf2) (by rw [HM.out]; exact hkm) (by rw [HX.out, HP.out, HY.out]; exact HNQ.out)
                  rw [HX.out, HP.out, HY.out] at hsr
                  exact ⟨k2 + 1, q2 ++ [y], insL z2 pos y, _, _, by omega, by go_num, by have h := HFE.out; simp; omega, hsr, by have h := HFE.out; simp; omega, HASC.out, fun u => by rw [insL_mem, List.mem_append, HME.out u]; simp [or_comm], HB8.out, HQ8.out⟩
                case measure => simp [intOf]; omega
        · clear hog2 hfe2 hze HSC HSR hgs hcm
          have hke : k2 = m := by omega
          subst hke
          have HWN : Hid (Srch k rows q2 (j + 1) 0) := hide (by
            have h2 := HW.out
            rw [← HM.out] at h2
            exact h2.next)
          go_wp2_with fail
          go_roundw
          case rel =>
            refine ⟨j + 1, q2, z2, qv2, zv2, by rw [HFE.out]; omega, by go_num, HWN.out, by rw [HFE.out]; exact hql2, HAS.out, HME.out, HB.out, ?_⟩
            have h := HQ.out
            first | exact h | (rw [HFE.out, HZE.out]; exact h)
          case measure => simp [intOf]; omega
    · have hje : j = fl := by omega
      subst hje
      have hz0 : 0 < z.length := by
        have hx : unitN k ∈ z := (HME.out _).2 HW.out.unit
        cases z with
        | nil => cases hx
        | cons a l => simp
      obtain ⟨gs, cs, hvs, hcs, hcm, hgs, hsc, hsr⟩ := HQ.out.look hz0
      subst hvs
      have HENU : Hid (Enu k rows z) := hide (by
        have h2 := HW.out
        rw [← HFE.out] at h2
        have h3 := h2.fin
        exact ⟨HAS.out.nodup, fun x => (HME.out x).trans (h3.2 x)⟩)
      have HZL : Hid (∀ i, i < z.length → (z.getD i []).length = k) := hide (fun i hi => (gen_prm h1 h12 HG.out (HW.out.gen _ ((HME.out _).1 (getD_mem _ _ _ hi)))).1)
      have hzl : z.length ≤ limit := by
        have h := nodup_sub HAS.out.nodup (fun a ha => (HME.out a).1 ha)
        rw [HFE.out] at h
        omega
      obtain ⟨zl, hze⟩ : ∃ zl, z.length = zl := ⟨_, rfl⟩
      have HZE := hide hze
      have HSR := hide hsr
      have HLE := hide hzl
      rw [hze] at hz0 hzl
      rw [hze]
      clear hze hsc hsr
      go_wp2_with fail
      refine (own2q_any (some ⟨gs, 0, none⟩) zl cs k z _ HZE.out hz0 (by omega) h1 (by omega) HZL.out HSR.out).mono ?_
      rintro e w9 ⟨A9, c9, rfl, hb9, ho9⟩
      have HB9 := hide (HB.out.trans (hb9.mono HB.out.size))
      have HO9 := hide (ho9.mono (lo' := w.heap.size) HB.out.size (Nat.le_refl _))
      clear hb9 ho9
      go_wp2_with fail
      go_ret2
      exact .inl ⟨z, A9, c9, HENU.out, HAS.out, HLE.out, by rw [HZE.out]; rfl, HB9.out, HO9.out⟩
end Go.Proofs.Ytaejgmdeiemhcaa
