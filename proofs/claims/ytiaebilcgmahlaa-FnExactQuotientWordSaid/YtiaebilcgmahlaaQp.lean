import Derived.Test.YtiaebilcgmahlaaQm
import Derived.Test.YtiaebilcgmahlaaQf
import Derived.Test.YtiaebilcgmahlaaQc
import Derived.Test.YtiaebilcgmahlaaQe
import Derived.Test.YtiaebilcgmahlaaQo
import Derived.Test.YtiaebilcgmahlaaQn
import Derived.Test.YtiaebilcgmahlaaQk
import Derived.Deep.Cut
import Derived.Maps.RangeWalk
import Derived.DeepKeys
namespace Go.Proofs.Ytiaebilcgmahlaa
open Go Go.RowKit
open Classical
set_option maxHeartbeats 1000000
set_option maxRecDepth 100000 in
theorem tkey_eq {xs ys : List Int} (hx : Sm xs) (hy : Sm ys) (hl : xs.length = ys.length) {r : Bool} (hr : r = true ↔ xs = ys) (w : World) : (binOp .eql 65 (tkey xs) (tkey ys)).run Try.prog w = .ok (.bool r) w := by
  obtain ⟨lx, hkx⟩ := tkey_ex hx
  obtain ⟨ly, hky⟩ := tkey_ex hy
  obtain ⟨r', hr', hiff⟩ := run_equal_deep (P := Try.prog) w (m := 2) (by omega) (k := 65) (by kernel_rfl) tk_wide hkx hky
  have e : r' = r := by
    by_cases h : xs = ys
    · have e1 : lx = ly := by subst h; rw [hkx] at hky; exact Option.some.inj hky
      rw [hiff.2 e1, hr.2 h]
    · have e1 : r' ≠ true := fun e => h (tkey_inj hl (tk_law.inj hkx (by rw [hiff.1 e]; exact hky)))
      have e2 : r ≠ true := fun e => h (hr.1 e)
      cases r' <;> cases r <;> simp_all
  subst e
  have h9 := run_eql_struct (P := Try.prog) (w := w) 65 (ints (pad12 xs)).toArray (ints (pad12 ys)).toArray
  have h8 : (Op.equalIn 10000 65 (.agg (ints (pad12 xs)).toArray) (.agg (ints (pad12 ys)).toArray)).run Try.prog w = .ok r' w := hr'
  rw [h8] at h9
  exact h9
set_option maxRecDepth 100000 in
theorem tkey_guard (op : BinOp) (x y : Operand) (xs ys : List Int) (w : World) : (eqGuard op 65 x y (tkey xs) (tkey ys)).run Try.prog w = .ok () w := run_eqGuard_agg (P := Try.prog) (w := w) op 65 x y _ _ (by kernel_rfl)
set_option maxRecDepth 100000 in
theorem rests_any (A : Option Addr) (n c : Nat) (u : List Int) (bm m : Nat) (L : List (List Int)) (w : World) (hu : u.length = n) (hr : Rd w A u) (hus : Sm u) (hnm : n ≤ m) (hM : MetN w bm L) (hnd : L.Nodup) (hlm : ∀ p, p ∈ L → p.length = m) (hsm : ∀ p, p ∈ L → Sm p) (hm12 : m ≤ 12) (hlb : L.length ≤ 5000) :
    Calls Try.prog 77 #[.slice A n c, .map (some bm), .int .i64 m] w fun e w' => ∃ v zs vals, e = .returned v ∧ Below w.heap.size w w' ∧ LstV 25 2 w.heap.size w' v zs vals ∧ Asc zs ∧ ∀ r, r ∈ zs ↔ u ++ r ∈ L := by
  have HU := hide hu
  have HRU := hide hr
  have HUS := hide hus
  have HM := hide hM
  have HND := hide hnd
  have HLM := hide hlm
  have HSM := hide hsm
  obtain ⟨i2, hj, hy0, hy1, hy2⟩ := info_parts neInfo2
  obtain ⟨N, hN⟩ : ∃ N, L.length = N := ⟨_, rfl⟩
  have HN := hide hN
  rw [hN] at hlb
  have hbl := MapN.lt hM
  clear hM hnd hlm hsm hN hu hr hus
  go_enter Try.func77, Try.ntmps77
  go_upto_region 2 with fail
  refine wp_gen fun w1 hw1 => ?_
  have hb1 : Below w.heap.size w w1 := by rw [hw1]; exact (Below.refl _ w).alloc (Nat.le_refl _) _
  have hl1 : LstV 25 2 w.heap.size w1 (.slice (some ⟨w.heap.size, 0, none⟩) 0 0) [] [] := by rw [hw1]; exact LstV.start w _ _
  clear hw1
  obtain ⟨w2, cnt0, hrun, hR2, hg2, hs2⟩ := MetN.range (show MetN w1 bm L from MapN.later HM.out hb1) Try.underlying61
  have hb2 : Below w1.heap.size w1 w2 := (Below.refl _ w1).grown hg2 (Nat.le_refl _) (fun g hg => by cases hg)
  have HB2 := hide (hb1.trans (hb2.mono hb1.size))
  have HL2 := hide (hl1.later hb2)
  obtain ⟨r, hr⟩ : ∃ r, w1.heap.size = r := ⟨_, rfl⟩
  rw [hr] at hrun hR2
  have HR2 := hide hR2
  have hrw : w.heap.size ≤ r := by rw [← hr]; exact hb1.size
  clear hl1 hR2 hg2 hb1 hb2 hs2 hr
  go_wp2_with fail
  clear hrun
  go_loopw [7] (fun v wr => ∃ (got : List (List Int)) (vals : List Value) (cnt gv cv : Nat), Below w.heap.size w wr ∧ v = .slice (some ⟨gv, 0, none⟩) (restL u got).length cv ∧ LstV 25 2 w.heap.size wr v (restL u got) vals ∧ MetR wr bm r L got cnt) (fun _ wr => wr.rangeLeft bm r)
  case atStart => exact ⟨[], [], cnt0, _, _, HB2.out, rfl, HL2.out, HR2.out⟩
  case round =>
    obtain ⟨got, vals, cnt, gv, cv, hbe, hv, hlst, hmr⟩ := hrel
    subst hv
    clear HB2 HL2 HR2
    have HB := hide hbe
    have HL := hide hlst
    have hleft := hmr.left_eq
    have hgn : got.Nodup := by obtain ⟨_, _, _, _, h, _⟩ := hmr; exact h
    have hgs : ∀ y, y ∈ got → y ∈ L := by obtain ⟨_, _, _, _, _, h, _⟩ := hmr; exact h
    have hgl : got.length ≤ N := by have h := tnodup_le hgn hgs; rw [HN.out] at h; exact h
    have HGN := hide hgn
    have HGS := hide hgs
    have HN0 := hide hmr.iterN
    have HMR := hide hmr
    rcases hmr.next HLM.out HSM.out 0 with ⟨hall, hnx⟩ | ⟨p, v, w3, cnt3, hp, hpg, hnx, hr3, hlt3, hg3, hs3, hen⟩
    · have HALL := hide hall
      clear hbe hlst hmr hgn hgs hall
      have HRL : Hid (∀ r, r ∈ restL u got ↔ u ++ r ∈ L) := hide (fun r => (restL_mem u got r).trans (HALL.out _).symm)
      have hrn := restL_nodup u got HGN.out
      have hrl := restL_len u got
      have HRLN : Hid (∀ i, i < (restL u got).length → ((restL u got).getD i []).length = m - n) := hide (fun i hi => by
        have h := HLM.out _ ((HRL.out ((restL u got).getD i [])).1 (tgetD_mem _ _ _ hi))
        rw [List.length_append] at h
        have := HU.out
        omega)
      obtain ⟨rl, hrle⟩ : ∃ rl, restL u got = rl := ⟨_, rfl⟩
      rw [hrle] at HRL hrn hrl HRLN HL ⊢
      have HRN := hide hrn
      clear hrn hrle
      by_cases h0 : rl.length = 0
      · have h00 : rl = [] := List.eq_nil_of_length_eq_zero h0
        subst h00
        clear h0
        simp only [List.length_nil] at HL ⊢
        go_wp2_with fail
        refine (sortNone_any _ gv cv vals _ HB.out.size HL.out).mono ?_
        rintro e w5 ⟨rfl, hb5, hl5⟩
        have HB5 := hide (HB.out.trans hb5)
        have HL5 := hide hl5
        clear hb5 hl5 hnx
        go_wp2_with fail
        go_ret
        exact ⟨_, [], [], rfl, HB5.out, HL5.out, List.Pairwise.nil, fun r => HRL.out r⟩
      · go_wp2_with fail
        refine (sortRows_any (m - n) _ _ rl vals _ (by omega) (by omega) (by omega) HRLN.out HRN.out HB.out.size HL.out).mono ?_
        rintro e w5 ⟨rfl, hb5, rows', vals', hl5, ha5, hlen5, hm5⟩
        have HB5 := hide (HB.out.trans hb5)
        have HL5 := hide hl5
        have HA5 := hide ha5
        have HM5 := hide hm5
        clear hb5 hl5 ha5 hm5 hnx
        go_wp2_with fail
        go_ret
        exact ⟨_, rows', vals', rfl, HB5.out, HL5.out, HA5.out, fun r => (HM5.out r).trans (HRL.out r)⟩
    · have hpl := HLM.out p hp
      have hpp := pad12_length (xs := p) (by rw [hpl]; exact hm12)
      obtain ⟨pp, hppe⟩ : ∃ pp, pad12 p = pp := ⟨_, rfl⟩
      rw [hppe] at hpp
      obtain ⟨p0, p1, p2, p3, p4, p5, p6, p7, p8, p9, p10, p11, rfl⟩ := list12 hpp
      have hkp : tkey p = .agg #[.int .i64 p0, .int .i64 p1, .int .i64 p2, .int .i64 p3, .int .i64 p4, .int .i64 p5, .int .i64 p6, .int .i64 p7, .int .i64 p8, .int .i64 p9, .int .i64 p10, .int .i64 p11] := by unfold tkey; rw [hppe]; rfl
      rw [hkp] at hnx hen
      have HPP := hide hppe
      have HPL := hide hpl
      have HP := hide hp
      have HPG := hide hpg
      have hb3 : Below w.heap.size w w3 := HB.out.grown hg3 HB.out.size (fun g hg => by injection hg with hg; omega)
      have HB3 := hide hb3
      have HL3 := hide (HL.out.offN HN0.out hg3)
      have HR3 := hide hr3
      have hl3 : w.heap.size ≤ w3.heap.size := hb3.size
      clear hbe hlst hmr hgn hgs hpl hpp hppe hkp hp hpg hb3 hr3 hg3 hs3 HB HL HMR HN0
      go_upto_region 5 with fail
      refine wp_gen fun w4 hw4 => ?_
      obtain ⟨pb, hpb⟩ : ∃ pb, w3.heap.size = pb := ⟨_, rfl⟩
      have hb4 : Below w3.heap.size w3 w4 := by rw [hw4]; exact (Below.refl _ _).alloc (Nat.le_refl _) _
      have HROW : Hid (Row 65 w4 pb [p0, p1, p2, p3, p4, p5, p6, p7, p8, p9, p10, p11]) := hide (by rw [hw4, ← hpb]; exact Blk.new _ _ _)
      rw [hpb]
      have HB4 := hide (HB3.out.trans (hb4.mono HB3.out.size))
      have HL4 := hide (HL3.out.later hb4)
      have HR4 := hide (HR3.out.later hb4)
      have HRD : Hid (Rd w4 (some ⟨pb, 0, none⟩) p) := hide (fun _ => ⟨pb, 0, rfl, HROW.out.lt, fun i hi => by
        have h := HROW.out.cell (i := i) (by have := HPL.out; simp; omega)
        rw [← HPP.out, pad12_at hi] at h
        rw [Nat.zero_add]
        exact h⟩)
      have hl4 : w.heap.size ≤ w4.heap.size := HB4.out.size
      have hkp2 : tkey p = .agg #[.int .i64 p0, .int .i64 p1, .int .i64 p2, .int .i64 p3, .int .i64 p4, .int .i64 p5, .int .i64 p6, .int .i64 p7, .int .i64 p8, .int .i64 p9, .int .i64 p10, .int .i64 p11] := by unfold tkey; rw [HPP.out]; rfl
      have hbg := begin_key p n w4 (by rw [HPL.out]; exact hm12) (by rw [HPL.out]; exact hnm)
      rw [hkp2] at hbg
      have HBG := hide hbg
      obtain ⟨z0, _, z1, _, z2, _, z3, _, z4, _, z5, _, z6, _, z7, _, z8, _, z9, _, z10, _, z11, _⟩ := row12 HROW.out
      have HTS : Hid (Sm (p.take n)) := hide ⟨by have := HPL.out; simp; omega, fun v hv => (HSM.out p HP.out).2 v (List.mem_of_mem_take hv)⟩
      have HTL : Hid ((p.take n).length = u.length) := hide (by have := HPL.out; have := HU.out; simp; omega)
      obtain ⟨q, hq⟩ : ∃ q : Bool, q = true ↔ p.take n = u := bool_of _
      have HQ := hide hq
      have HROW4 := hide HROW.out
      clear hw4 hb4 hnx hen HB3 HL3 HR3 hpb hkp2 hbg hq HROW
      go_wp2_with fail
      refine HBG.out.mono ?_
      rintro e w5 ⟨rfl, hb5⟩
      have HB5 := hide (HB4.out.trans (hb5.mono hl4))
      have HL5 := hide (HL4.out.later hb5)
      have HR5 := hide (HR4.out.later hb5)
      have HRD5 := hide (HRD.out.later hb5)
      clear hb5 HB4 HL4 HR4 HRD z0 z1 z2 z3 z4 z5 z6 z7 z8 z9 z10 z11 hl4
      go_wp2_with fail
      refine (tupleOf_key A n c u _ HU.out (by omega) (HRU.out.later HB5.out)).mono ?_
      rintro e w6 ⟨rfl, hb6⟩
      have HB6 := hide (HB5.out.trans (hb6.mono HB5.out.size))
      have HL6 := hide (HL5.out.later hb6)
      have HR6 := hide (HR5.out.later hb6)
      have HRD6 := hide (HRD5.out.later hb6)
      have heq := tkey_eq HTS.out HUS.out HTL.out HQ.out w6
      have heg := tkey_guard .eql (.tmp 19) (.tmp 21) (p.take n) u w6
      clear hb6 HB5 HL5 HR5 HRD5
      cases q with
      | false =>
        have hne : restL u (got ++ [p]) = restL u got := by
          rw [restL_app, if_neg (fun h => by rw [HU.out] at h; exact absurd (HQ.out.2 h) (by simp)), List.append_nil]
        have HNE := hide hne
        clear hne
        go_wp2_with fail
        go_roundw
        case rel => exact ⟨got ++ [p], vals, cnt3, gv, cv, HB6.out, by rw [HNE.out], by rw [HNE.out]; exact HL6.out, HR6.out⟩
        case measure => rw [HR6.out.left_eq]; omega
      | true =>
        have hye : restL u (got ++ [p]) = restL u got ++ [p.drop n] := by
          rw [restL_app, if_pos (by rw [HU.out]; exact HQ.out.1 rfl), HU.out]
        have HYE := hide hye
        have hn12z : (n : Int) ≤ 12 := by omega
        have hm12z : (m : Int) ≤ 12 := by omega
        have hnmz : (n : Int) ≤ m := by omega
        clear hye
        have HRC : Hid (Rd w6 (some ⟨pb, n, none⟩) (p.drop n)) := hide (fun hne => by
          have hl := HPL.out
          have hlt : (p.drop n).length = m - n := by simp; omega
          obtain ⟨b9, o9, e9, hb9, hc9⟩ := HRD6.out (by omega)
          injection e9 with e9
          injection e9 with e91 e92
          subst e91 e92
          refine ⟨pb, n, rfl, hb9, fun i hi => ?_⟩
          have h := hc9 (n + i) (by omega)
          rw [Nat.zero_add] at h
          rw [h]
          simp [List.getD_eq_getElem?_getD, List.getElem?_drop])
        have HDL : Hid ((p.drop n).length = m - n) := hide (by have := HPL.out; simp; omega)
        have HRC0 : Hid (¬ n < 12 → Rd w6 (some ⟨pb, 0, none⟩) (p.drop n)) := hide (fun h hne => by have := HDL.out; omega)
        by_cases hn12 : n < 12
        · go_wp2_with fail
          obtain ⟨mn, hmn⟩ : ∃ q, m - n = q := ⟨_, rfl⟩
          obtain ⟨cn, hcn⟩ : ∃ q, 12 - n = q := ⟨_, rfl⟩
          have hmnb : mn ≤ 12 := by omega
          rw [hmn] at HDL ⊢
          rw [hcn]
          clear hmn hcn
          refine (cloneN_any (some ⟨pb, n, none⟩) mn cn (p.drop n) _ HDL.out (by omega) HRC.out).mono ?_
          rintro e w7 ⟨A5, c5, rfl, hb7, hres7, _⟩
          have HB7 := hide hb7
          have hs6 : w.heap.size ≤ w6.heap.size := HB6.out.size
          have HB7w := hide (HB6.out.trans (hb7.mono hs6))
          have HR7 := hide (HR6.out.later hb7)
          have HO7 := hide hres7.obj
          obtain ⟨gl, hgle⟩ : ∃ gl, (restL u got).length = gl := ⟨_, rfl⟩
          have HGL := hide hgle
          have hgn : gl ≤ 5000 := by
            have h1 := restL_len u got
            have h2 := tnodup_le HGN.out HGS.out
            rw [HN.out] at h2
            omega
          rw [hgle] at HL6 ⊢
          have HOW : Hid (w7.ownsRow w.heap.size 25 1 (.slice (some ⟨gv, 0, none⟩) gl cv) gl vals) := hide (by rw [← hgle]; have h := (HL6.out.later hb7).own; rw [← hgle] at h; exact h)
          have hs7 := HB7w.out.size
          clear hb7 hres7 hgle heq heg
          go_wp2_with (at_builtin; refine wpList_append_own_at _ rfl _ _ 22 rfl w.heap.size 25 i2 (.slice none 0 0) 1 24 Try.underlying22 hj hy0 hy1 hy2 rfl (by decide) _ _ _ rfl (HOW.out.alloc _) ⟨w7.heap.size, 0, none⟩ 1 1 [.slice A5 mn c5] rfl rfl ?f1 ?f2 ?f3 ?f4 ?f5 ?_)
          case f1 => exact ne_new
          case f2 => intro u hu; simp at hu; subst hu; rfl
          case f3 => unfold maxLen; omega
          case f4 => omega
          case f5 => simp; omega
          intro v9 w9 hown9 hgrow9 _ hat9
          have hal : Below w7.heap.size w7 (w7.alloc (.cells #[.slice A5 mn c5] 25)) := (Below.refl _ _).alloc (Nat.le_refl _) _
          have HB9 : Hid (Below w.heap.size w w9) := hide ((HB7w.out.alloc hs7 _).grown hgrow9 (by simp; omega) (fun g hg => ((HOW.out.alloc (.cells #[.slice A5 mn c5] 25)).lt g hg).1))
          have HL9 : Hid (LstV 25 2 w.heap.size w9 v9 (restL u got ++ [p.drop n]) (vals ++ [.slice A5 (p.drop n).length c5])) := hide (LstV.push (tmp := .cells #[.slice A5 mn c5] 25) (by decide) hs6 HL6.out HB7.out HO7.out (by rw [HDL.out, HGL.out]; exact hown9) hgrow9)
          have HR9 : Hid (MetR w9 bm r L (got ++ [p]) cnt3) := hide ((HR7.out.later hal).off (HOW.out.alloc _) hgrow9)
          obtain ⟨g9, c9, hv9, _, _⟩ := own_look hown9 (by omega)
          subst hv9
          clear hown9 hgrow9 hat9 hal
          go_wp2_with fail
          go_roundw
          case rel => exact ⟨got ++ [p], _, cnt3, _, _, HB9.out, by rw [HYE.out, List.length_append, HGL.out]; rfl, by rw [HYE.out]; exact HL9.out, HR9.out⟩
          case measure => rw [HR9.out.left_eq]; omega
        · have HRC1 := hide (HRC0.out hn12)
          have hmnb : m - n ≤ 12 := by omega
          go_wp2_with fail
          clear hn12
          obtain ⟨mn, hmn⟩ : ∃ q, m - n = q := ⟨_, rfl⟩
          have hmnb : mn ≤ 12 := by omega
          obtain ⟨cn, hcn⟩ : ∃ q, 12 - n = q := ⟨_, rfl⟩
          rw [hmn] at HDL ⊢
          rw [hcn]
          clear hmn hcn
          refine (cloneN_any (some ⟨pb, 0, none⟩) mn cn (p.drop n) _ HDL.out (by omega) HRC1.out).mono ?_
          rintro e w7 ⟨A5, c5, rfl, hb7, hres7, _⟩
          have HB7 := hide hb7
          have hs6 : w.heap.size ≤ w6.heap.size := HB6.out.size
          have HB7w := hide (HB6.out.trans (hb7.mono hs6))
          have HR7 := hide (HR6.out.later hb7)
          have HO7 := hide hres7.obj
          obtain ⟨gl, hgle⟩ : ∃ gl, (restL u got).length = gl := ⟨_, rfl⟩
          have HGL := hide hgle
          have hgn : gl ≤ 5000 := by
            have h1 := restL_len u got
            have h2 := tnodup_le HGN.out HGS.out
            rw [HN.out] at h2
            omega
          rw [hgle] at HL6 ⊢
          have HOW : Hid (w7.ownsRow w.heap.size 25 1 (.slice (some ⟨gv, 0, none⟩) gl cv) gl vals) := hide (by rw [← hgle]; have h := (HL6.out.later hb7).own; rw [← hgle] at h; exact h)
          have hs7 := HB7w.out.size
          clear hb7 hres7 hgle heq heg
          go_wp2_with (at_builtin; refine wpList_append_own_at _ rfl _ _ 22 rfl w.heap.size 25 i2 (.slice none 0 0) 1 24 Try.underlying22 hj hy0 hy1 hy2 rfl (by decide) _ _ _ rfl (HOW.out.alloc _) ⟨w7.heap.size, 0, none⟩ 1 1 [.slice A5 mn c5] rfl rfl ?f1 ?f2 ?f3 ?f4 ?f5 ?_)
          case f1 => exact ne_new
          case f2 => intro u hu; simp at hu; subst hu; rfl
          case f3 => unfold maxLen; omega
          case f4 => omega
          case f5 => simp; omega
          intro v9 w9 hown9 hgrow9 _ hat9
          have hal : Below w7.heap.size w7 (w7.alloc (.cells #[.slice A5 mn c5] 25)) := (Below.refl _ _).alloc (Nat.le_refl _) _
          have HB9 : Hid (Below w.heap.size w w9) := hide ((HB7w.out.alloc hs7 _).grown hgrow9 (by simp; omega) (fun g hg => ((HOW.out.alloc (.cells #[.slice A5 mn c5] 25)).lt g hg).1))
          have HL9 : Hid (LstV 25 2 w.heap.size w9 v9 (restL u got ++ [p.drop n]) (vals ++ [.slice A5 (p.drop n).length c5])) := hide (LstV.push (tmp := .cells #[.slice A5 mn c5] 25) (by decide) hs6 HL6.out HB7.out HO7.out (by rw [HDL.out, HGL.out]; exact hown9) hgrow9)
          have HR9 : Hid (MetR w9 bm r L (got ++ [p]) cnt3) := hide ((HR7.out.later hal).off (HOW.out.alloc _) hgrow9)
          obtain ⟨g9, c9, hv9, _, _⟩ := own_look hown9 (by omega)
          subst hv9
          clear hown9 hgrow9 hat9 hal
          go_wp2_with fail
          go_roundw
          case rel => exact ⟨got ++ [p], _, cnt3, _, _, HB9.out, by rw [HYE.out, List.length_append, HGL.out]; rfl, by rw [HYE.out]; exact HL9.out, HR9.out⟩
          case measure => rw [HR9.out.left_eq]; omega
end Go.Proofs.Ytiaebilcgmahlaa
namespace Go.Proofs.Ytiaebilcgmahlaa
open Go Go.RowKit
open Classical
set_option maxHeartbeats 4000000
set_option maxRecDepth 100000 in
theorem cowI (A : Option Addr) (n c : Nat) (f : List (List Int)) (B : Option Addr) (k d : Nat) (s : List (List Int)) (C : Option Addr) (m e : Nat) (xs : List Int) (zs : List (List Int)) (code : Int) (kz : Nat) (w : World) (hz : ZArg 1048576 w A n f B k s) (hm : xs.length = m) (hb : m ≤ 1048576) (hr : Rd w C xs) (hres : CowR f s xs zs code) (hkz : zs.length = kz) :
    Calls Try.prog 30 #[.agg #[.slice A n c, .slice B k d], .slice C m e] w (TPost 25 2 kz zs code w) := by
  have HZ := hide hz
  have HM := hide hm
  have HR := hide hr
  have HKZ := hide hkz
  have HB0 := hide ((Below.refl _ w).alloc (Nat.le_refl _) (Obj.cells #[Value.slice A n c, Value.slice B k d] 29))
  have HK0 := hide (Blk.new w 29 [.slice A n c, .slice B k d])
  obtain ⟨wc, hwc⟩ : ∃ wc, WdC f s [xs] wc := WdC.ex f s [xs]
  have HWC := hide hwc
  have HRES := hide hres
  have d0 : ¬ wc = 0 → (wc != 0) = true := fun h => by simpa using h
  have d1 : wc = 0 → (wc != 0) = false := fun h => by simp [h]
  clear hz hm hr hkz hwc hres
  go_enter Try.func30, Try.ntmps30
  have k0 := HK0.out.cell 0 _ rfl
  have k1 := HK0.out.cell 1 _ rfl
  go_wp2_with fail
  clear k0 k1
  refine calls_gen fun w1 hw1 => ?_
  obtain ⟨L1, hL1⟩ : ∃ L1, (w.alloc (Obj.cells #[Value.slice A n c, Value.slice B k d] 29)).heap.size = L1 := ⟨_, rfl⟩
  have hb1 : Below (w.alloc (Obj.cells #[Value.slice A n c, Value.slice B k d] 29)).heap.size (w.alloc (Obj.cells #[Value.slice A n c, Value.slice B k d] 29)) w1 := by rw [hw1]; exact (Below.refl _ _).alloc (Nat.le_refl _) _
  have HL1 : Hid (Blk w1 (w.heap.size + 1) 25 [.slice C m e]) := hide (by rw [hw1]; have h := Blk.new (w.alloc (Obj.cells #[Value.slice A n c, Value.slice B k d] 29)) 25 [.slice C m e]; simpa using h)
  have HB1 := hide (HB0.out.trans (hb1.mono HB0.out.size))
  have HK1 := hide (HK0.out.later hb1)
  have HRR : Hid (Rd2 w1 (some ⟨w.heap.size + 1, 0, none⟩) [xs]) := hide (fun _ => ⟨_, 0, rfl, HL1.out.lt, fun i hi => by
    have hi0 : i = 0 := by simpa using hi
    subst hi0
    exact ⟨C, e, by have h := HL1.out.cell 0 _ rfl; rw [Nat.zero_add]; rw [show ([xs].getD 0 []).length = m from HM.out]; exact h, HR.out.later HB1.out⟩⟩)
  clear hw1 hb1 hL1
  refine (wordFault_any A B _ n c k d 1 1 f s [xs] wc _ (HZ.out.later HB1.out) rfl (by omega) (fun i hi => by have hi0 : i = 0 := (by simpa using hi); subst hi0; show xs.length ≤ 1048576; rw [HM.out]; exact hb) HRR.out HWC.out).mono ?_
  rintro e w2 ⟨rfl, hb2⟩
  have HB2 := hide (HB1.out.trans (hb2.mono HB1.out.size))
  have HK2 := hide (HK1.out.later hb2)
  clear hb2 HRR HL1
  by_cases hc0 : wc = 0
  · subst hc0
    obtain ⟨hs, hw⟩ := HWC.out.zero rfl
    obtain rfl := (HZ.out.same hs.1).symm
    have hn := HZ.out.sz.fl
    have hw1 := wrds1.1 hw
    rw [hn] at hw1
    have HW := hide hw1
    have HS := hide hs
    have HOR : Hid (OrbR f s xs 1000 zs code) := hide (by
      rcases HRES.out with ⟨_, h⟩ | ⟨h1, h2, _⟩
      · exact h
      · exact absurd (h1.uniq HWC.out) h2)
    clear hs hw hw1 hn d0
    have k0 := HK2.out.cell 0 _ rfl
    have k1 := HK2.out.cell 1 _ rfl
    by_cases hf : FewT (leH f) (leH s) xs 1000
    · have HF := hide hf
      clear hf
      go_wp2_with fail
      refine (classOf_yes A n c f B d s C m _ xs _ (HZ.out.later HB2.out) HS.out HW.out HM.out (HR.out.later HB2.out) HF.out).mono ?_
      rintro e w3 ⟨L, bm, hcl, hll, rfl, hb3, hbm, hme⟩
      have HB3 := hide (HB2.out.trans (hb3.mono HB2.out.size))
      have HCL := hide hcl
      have HME := hide hme
      have hsz := HB2.out.size
      clear hb3 hcl hme k0 k1
      go_wp2_with fail
      refine (listsOf_any bm m L _ HME.out HCL.out.1 (fun p hp => by rw [((HCL.out.2 p).1 hp).len]; exact HM.out) (fun p hp => (((HCL.out.2 p).1 hp).tup (HS.out.pb HZ.out.sz.fl) HW.out.tup).sm (HZ.out.small HS.out.1).2) (by have := HW.out.1; have := HM.out; omega) HCL.out.pos (by omega)).mono ?_
      rintro e w4 ⟨v, L', vals, rfl, hb4, hl4, ha4, hm4⟩
      obtain ⟨A4, c4, hv, hobj⟩ := hl4.shape
      have hz1 : L' = zs ∧ code = 0 := by
        rcases HOR.out with ⟨h1, h2, _, h3⟩ | ⟨h1, _⟩
        · exact ⟨(HCL.out.sorted ha4 hm4).ascEq h1 ha4 h2, h3⟩
        · exact absurd HF.out h1
      obtain ⟨rfl, rfl⟩ := hz1
      rw [HKZ.out] at hv
      subst hv
      have HB4 := hide (HB3.out.trans (hb4.mono HB3.out.size))
      have HO4 := hide (hobj.mono (lo' := w.heap.size) HB3.out.size (Nat.le_refl _))
      clear hb4 hl4 ha4 hm4 hobj
      go_wp2_with fail
      go_ret2
      exact ⟨_, _, rfl, HB4.out, HO4.out⟩
    · have HF := hide hf
      clear hf
      have hz1 : zs = [] ∧ code = 3 := by
        rcases HOR.out with ⟨h1, _, h2, _⟩ | ⟨_, h1⟩
        · exact absurd ⟨zs, h1, h2⟩ HF.out
        · exact h1
      obtain ⟨rfl, rfl⟩ := hz1
      obtain rfl : kz = 0 := by simpa using HKZ.out.symm
      go_wp2_with fail
      refine (classOf_no A n c f B d s C m _ xs _ (HZ.out.later HB2.out) HS.out HW.out HM.out (HR.out.later HB2.out) HF.out).mono ?_
      rintro e w3 ⟨rfl, hb3⟩
      have HB3 := hide (HB2.out.trans (hb3.mono HB2.out.size))
      clear hb3 k0 k1
      go_wp2_with fail
      go_ret2
      exact ⟨_, _, rfl, HB3.out, .inl ⟨rfl, rfl⟩⟩
  · have hz1 : zs = [] ∧ code = wc := by
      rcases HRES.out with ⟨h1, _⟩ | ⟨h1, _, h3⟩
      · exact absurd (HWC.out.uniq h1) hc0
      · exact ⟨h3, h1.uniq HWC.out⟩
    obtain ⟨rfl, rfl⟩ := hz1
    obtain rfl : kz = 0 := by simpa using HKZ.out.symm
    have hcb := d0 hc0
    clear d0 d1
    go_wp2_with fail
    go_ret2
    exact ⟨_, _, rfl, HB2.out, .inl ⟨rfl, rfl⟩⟩
end Go.Proofs.Ytiaebilcgmahlaa
namespace Go.Proofs.Ytiaebilcgmahlaa
open Go Go.RowKit
open Classical
set_option maxHeartbeats 4000000
theorem cls0 (h1 h2 : Nat → Nat → Int) : Cls h1 h2 [] [[]] := ⟨by simp, fun y => ⟨fun h => by
  have : y = [] := by simpa using h
  subst this; exact .refl, fun h => by
  have := h.len
  have : y = [] := by simpa using this
  subst this; simp⟩⟩
theorem classC_any (A : Option Addr) (n c : Nat) (f : List (List Int)) (B : Option Addr) (d : Nat) (s : List (List Int)) (C : Option Addr) (m e : Nat) (x : List Int) (most : Nat) (w : World) (hz : ZArg 1048576 w A n f B n s) (hs : SolF f s) (ht : Tup n x) (hm : x.length = m) (he : m = 0 → e = 0) (hr : Rd w C x) (hl1 : 1 ≤ most) (hl : most ≤ 5000) :
    Calls Try.prog 69 #[.agg #[.slice A n c, .slice B n d], .slice C m e, .int .i64 most] w fun e w' => (∃ L v vals, Cls (leH f) (leH s) x L ∧ Asc L ∧ L.length ≤ most ∧ e = .returned (.tuple #[v, .bool true]) ∧ Below w.heap.size w w' ∧ LstV 25 2 w.heap.size w' v L vals ∧ CapsV vals) ∨ (¬ FewT (leH f) (leH s) x most ∧ e = .returned (.tuple #[.slice none 0 0, .bool false]) ∧ Below w.heap.size w w') := by
  by_cases h0 : m = 0
  · subst h0
    obtain rfl := he rfl
    have hx : x = [] := List.eq_nil_of_length_eq_zero hm
    subst hx
    refine (class0c_any A n c f B d s C most w hz hs hl1 hl).mono ?_
    rintro e w2 ⟨v, vals, h1, h2, h3, h4⟩
    exact .inl ⟨[[]], v, vals, cls0 _ _, Asc.one _, by simpa using hl1, h1, h2, h3, h4⟩
  · exact class1c_any A n c f B d s C m e x most w hz hs ht hm (by omega) hr hl1 hl
theorem classS_any (A : Option Addr) (n c : Nat) (f : List (List Int)) (B : Option Addr) (d : Nat) (s : List (List Int)) (C : Option Addr) (m e : Nat) (x : List Int) (most : Nat) (w : World) (hz : ZArg 1048576 w A n f B n s) (hs : SolF f s) (ht : Tup n x) (hm : x.length = m) (he : m = 0 → e = 0) (hr : Rd w C x) (hl1 : 1 ≤ most) (hl : most ≤ 5000) :
    Calls Try.prog 69 #[.agg #[.slice A n c, .slice B n d], .slice C m e, .int .i64 most] w fun e w' => (∃ L v vals, Cls (leH f) (leH s) x L ∧ Asc L ∧ L.length ≤ most ∧ e = .returned (.tuple #[v, .bool true]) ∧ Below w.heap.size w w' ∧ LstV 25 2 w.heap.size w' v L vals) ∨ (¬ FewT (leH f) (leH s) x most ∧ e = .returned (.tuple #[.slice none 0 0, .bool false]) ∧ Below w.heap.size w w') := by
  refine (classC_any A n c f B d s C m e x most w hz hs ht hm he hr hl1 hl).mono ?_
  rintro e w2 (⟨L, v, vals, h1, h2, h3, h4, h5, h6, _⟩ | h)
  · exact .inl ⟨L, v, vals, h1, h2, h3, h4, h5, h6⟩
  · exact .inr h
set_option maxRecDepth 100000 in
theorem cowS_any (A : Option Addr) (n c : Nat) (f : List (List Int)) (B : Option Addr) (k d : Nat) (s : List (List Int)) (C : Option Addr) (m e : Nat) (xs : List Int) (zs : List (List Int)) (code : Int) (w : World) (hz : ZArg 1048576 w A n f B k s) (hm : xs.length = m) (hb : m ≤ 1048576) (he : m = 0 → e = 0) (hr : Rd w C xs) (hres : CowR f s xs zs code) :
    Calls Try.prog 29 #[.agg #[.slice A n c, .slice B k d], .slice C m e] w fun e w' => ∃ v vals, e = .returned (.tuple #[v, .int .i64 code]) ∧ Below w.heap.size w w' ∧ LstV 25 2 w.heap.size w' v zs vals := by
  have HZ := hide hz
  have HM := hide hm
  have HR := hide hr
  have HE := hide he
  have HB0 := hide ((Below.refl _ w).alloc (Nat.le_refl _) (Obj.cells #[Value.slice A n c, Value.slice B k d] 29))
  have HK0 := hide (Blk.new w 29 [.slice A n c, .slice B k d])
  obtain ⟨wc, hwc⟩ : ∃ wc, WdC f s [xs] wc := WdC.ex f s [xs]
  have HWC := hide hwc
  have HWC2 : Hid (WdC f s [xs, xs] wc) := hide (hwc.congr (by rw [wrds1, wrds2]; exact ⟨fun h => ⟨h, h⟩, fun h => h.1⟩))
  have HRES := hide hres
  have d0 : ¬ wc = 0 → (wc != 0) = true := fun h => by simpa using h
  clear hz hm hr he hwc hres
  go_enter Try.func29, Try.ntmps29
  have k0 := HK0.out.cell 0 _ rfl
  have k1 := HK0.out.cell 1 _ rfl
  go_wp2_with fail
  clear k0 k1
  refine (codeS_any A B C C n c k d m _ m _ f s xs xs wc _ (HZ.out.later HB0.out) HM.out hb (HR.out.later HB0.out) HM.out hb (HR.out.later HB0.out) HWC2.out).mono ?_
  rintro e w2 ⟨rfl, hb2⟩
  have HB2 := hide (HB0.out.trans (hb2.mono HB0.out.size))
  have HK2 := hide (HK0.out.later hb2)
  clear hb2
  by_cases hc0 : wc = 0
  · subst hc0
    obtain ⟨hs, hw⟩ := HWC.out.zero rfl
    obtain rfl := (HZ.out.same hs.1).symm
    have hn := HZ.out.sz.fl
    have hw1 := wrds1.1 hw
    rw [hn] at hw1
    have HW := hide hw1
    have HS := hide hs
    have HOR : Hid (OrbR f s xs 1000 zs code) := hide (by
      rcases HRES.out with ⟨_, h⟩ | ⟨h1, h2, _⟩
      · exact h
      · exact absurd (h1.uniq HWC.out) h2)
    clear hs hw hw1 hn d0
    have k0 := HK2.out.cell 0 _ rfl
    have k1 := HK2.out.cell 1 _ rfl
    go_wp2_with fail
    refine (classS_any A n c f B d s C m _ xs 1000 _ (HZ.out.later HB2.out) HS.out HW.out.tup HM.out HE.out (HR.out.later HB2.out) (by omega) (by omega)).mono ?_
    have hs2 := HB2.out.size
    rintro e w3 (⟨L, v, vals, hcl, ha, hll, rfl, hb3, hl3⟩ | ⟨hf, rfl, hb3⟩)
    · have HB3 := hide (HB2.out.trans (hb3.mono hs2))
      have hz1 : L = zs ∧ code = 0 := by
        rcases HOR.out with ⟨h1, h2, _, h3⟩ | ⟨h1, _⟩
        · exact ⟨hcl.ascEq h1 ha h2, h3⟩
        · exact absurd ⟨L, hcl, hll⟩ h1
      obtain ⟨rfl, rfl⟩ := hz1
      have HL3 := hide (hl3.monoB hs2)
      clear hb3 hcl ha hll hl3 k0 k1
      go_wp2_with fail
      go_ret2
      exact ⟨_, _, rfl, HB3.out, HL3.out⟩
    · have hz1 : zs = [] ∧ code = 3 := by
        rcases HOR.out with ⟨h1, _, h2, _⟩ | ⟨_, h1⟩
        · exact absurd ⟨zs, h1, h2⟩ hf
        · exact h1
      obtain ⟨rfl, rfl⟩ := hz1
      have HB3 := hide (HB2.out.trans (hb3.mono hs2))
      clear hb3 hf k0 k1
      go_wp2_with fail
      go_ret2
      exact ⟨_, [], rfl, HB3.out, LstV.nil _ _ _ _⟩
  · have hz1 : zs = [] ∧ code = wc := by
      rcases HRES.out with ⟨h1, _⟩ | ⟨h1, _, h3⟩
      · exact absurd (HWC.out.uniq h1) hc0
      · exact ⟨h3, h1.uniq HWC.out⟩
    obtain ⟨rfl, rfl⟩ := hz1
    have hcb := d0 hc0
    clear d0
    go_wp2_with fail
    go_ret2
    exact ⟨_, [], rfl, HB2.out, LstV.nil _ _ _ _⟩
theorem cowS (A : Option Addr) (n c : Nat) (f : List (List Int)) (B : Option Addr) (k d : Nat) (s : List (List Int)) (C : Option Addr) (m : Nat) (xs : List Int) (zs : List (List Int)) (code : Int) (kz : Nat) (w : World) (hz : ZArg 1048576 w A n f B k s) (hm : xs.length = m) (hb : m ≤ 1048576) (hr : Rd w C xs) (hres : CowR f s xs zs code) (hkz : zs.length = kz) :
    Calls Try.prog 29 #[.agg #[.slice A n c, .slice B k d], .slice C m m] w (TPost 25 2 kz zs code w) := by
  refine (cowS_any A n c f B k d s C m m xs zs code w hz hm hb (fun h => h) hr hres).mono ?_
  rintro e w2 ⟨v, vals, rfl, hb2, hl⟩
  obtain ⟨A', c', hv, hobj⟩ := hl.shape
  rw [hkz] at hv
  subst hv
  exact ⟨A', c', rfl, hb2, hobj⟩
end Go.Proofs.Ytiaebilcgmahlaa
namespace Go.Proofs.Ytiaebilcgmahlaa
open Go Go.RowKit
open Classical
set_option maxHeartbeats 4000000
theorem Obj2.first {ts t : TypeId} {lo hi : Nat} {w : World} {A : Option Addr} {rows : List (List Int)} (h : Obj2 ts t lo hi w A rows) (h0 : 0 < rows.length) : ∃ g R C, A = some ⟨g, 0, none⟩ ∧ w.cell? ⟨g, 0, none⟩ = some (.slice R (rows.getD 0 []).length C) ∧ Obj1 t lo hi w R (rows.getD 0 []) := by
  rcases h with ⟨_, rfl⟩ | ⟨g, R, C, rfl, _, _, ⟨cur, h1, h2⟩, h3, _⟩
  · simp at h0
  · exact ⟨g, R 0, C 0, rfl, by rw [cell_of_row w g 0 cur ts (0, 0) h1]; exact h2 0 h0, h3 0 h0⟩
/-- What the normal word is told. -/
def NwR (f s : List (List Int)) (xs zs : List Int) (code : Int) : Prop := ∃ L, CowR f s xs L code ∧ zs = L.getD 0 []
theorem CowR.zero {f s : List (List Int)} {xs : List Int} {L : List (List Int)} (h : CowR f s xs L 0) : WdC f s [xs] 0 ∧ Cls (leH f) (leH s) xs L ∧ Asc L ∧ L.length ≤ 1000 := by
  rcases h with ⟨h1, ⟨h2, h3, h4, _⟩ | ⟨_, _, h⟩⟩ | ⟨_, h, _⟩
  · exact ⟨h1, h2, h3, h4⟩
  · omega
  · omega
theorem CowR.none {f s : List (List Int)} {xs : List Int} {L : List (List Int)} {code : Int} (h : CowR f s xs L code) (hc : code ≠ 0) : L = [] := by
  rcases h with ⟨h1, ⟨_, _, _, h2⟩ | ⟨_, h2, _⟩⟩ | ⟨_, _, h2⟩
  · exact absurd h2 hc
  · exact h2
  · exact h2
theorem NwR.ex (f s : List (List Int)) (xs : List Int) : ∃ zs code, NwR f s xs zs code ∧ zs.length ≤ 1048576 := by
  obtain ⟨L, code, h, h1, h2⟩ := CowR.ex f s xs
  refine ⟨L.getD 0 [], code, ⟨L, h, rfl⟩, ?_⟩
  by_cases h0 : 0 < L.length
  · exact h2 0 h0
  · have e : L = [] := List.eq_nil_of_length_eq_zero (by omega)
    subst e; simp
set_option maxRecDepth 100000 in
theorem nwI (A : Option Addr) (n c : Nat) (f : List (List Int)) (B : Option Addr) (k d : Nat) (s : List (List Int)) (C : Option Addr) (m e : Nat) (xs zs : List Int) (code : Int) (kz : Nat) (w : World) (hz : ZArg 1048576 w A n f B k s) (hm : xs.length = m) (hb : m ≤ 1048576) (hr : Rd w C xs) (hres : NwR f s xs zs code) (hkz : zs.length = kz) :
    Calls Try.prog 34 #[.agg #[.slice A n c, .slice B k d], .slice C m e] w (RPost 2 kz zs code w) := by
  have HZ := hide hz
  have HM := hide hm
  have HR := hide hr
  have HKZ := hide hkz
  obtain ⟨L, hL, hzL⟩ := hres
  have HC := hide hL
  have HZL := hide hzL
  have HB0 := hide ((Below.refl _ w).alloc (Nat.le_refl _) (Obj.cells #[Value.slice A n c, Value.slice B k d] 29))
  have HK0 := hide (Blk.new w 29 [.slice A n c, .slice B k d])
  have d0 : ¬ code = 0 → (code != 0) = true := fun h => by simpa using h
  clear hz hm hr hkz hL hzL
  go_enter Try.func34, Try.ntmps34
  have k0 := HK0.out.cell 0 _ rfl
  have k1 := HK0.out.cell 1 _ rfl
  go_wp2_with fail
  clear k0 k1
  refine (cowI A n c f B k d s C m e xs L code _ _ (HZ.out.later HB0.out) HM.out hb (HR.out.later HB0.out) HC.out rfl).mono ?_
  rintro e w1 ⟨A1, c1, rfl, hb1, hobj⟩
  have HB1 := hide (HB0.out.trans (hb1.mono HB0.out.size))
  have HO1 := hide (hobj.mono (lo' := w.heap.size) HB0.out.size (Nat.le_refl _))
  clear hb1 hobj
  by_cases hc0 : code = 0
  · subst hc0
    obtain ⟨_, hcl, _, _⟩ := HC.out.zero
    obtain ⟨g, R, CC, rfl, hcell, hrow⟩ := HO1.out.first hcl.pos
    rw [← HZL.out, HKZ.out] at hcell
    rw [← HZL.out] at hrow
    have HRO := hide hrow
    clear hcl hrow d0
    have hlp : (0 : Int) < L.length := by have h := HC.out.zero.2.1.pos; omega
    obtain ⟨ll, hll⟩ : ∃ ll, L.length = ll := ⟨_, rfl⟩
    rw [hll] at hlp ⊢
    go_wp2_with fail
    go_ret2
    exact ⟨_, _, rfl, HB1.out, HRO.out.res (Nat.le_refl _)⟩
  · have hz1 : zs = [] := by rw [HZL.out, HC.out.none hc0]; rfl
    subst hz1
    obtain rfl : kz = 0 := by simpa using HKZ.out.symm
    have hcb := d0 hc0
    clear d0
    go_wp2_with fail
    go_ret2
    exact ⟨_, _, rfl, HB1.out, .inl ⟨rfl, rfl⟩⟩
set_option maxRecDepth 100000 in
theorem nwS_any (A : Option Addr) (n c : Nat) (f : List (List Int)) (B : Option Addr) (k d : Nat) (s : List (List Int)) (C : Option Addr) (m e : Nat) (xs zs : List Int) (code : Int) (kz : Nat) (w : World) (hz : ZArg 1048576 w A n f B k s) (hm : xs.length = m) (hb : m ≤ 1048576) (he : m = 0 → e = 0) (hr : Rd w C xs) (hres : NwR f s xs zs code) (hkz : zs.length = kz) :
    Calls Try.prog 33 #[.agg #[.slice A n c, .slice B k d], .slice C m e] w (RPost 2 kz zs code w) := by
  have HZ := hide hz
  have HM := hide hm
  have HR := hide hr
  have HKZ := hide hkz
  obtain ⟨L, hL, hzL⟩ := hres
  have HC := hide hL
  have HZL := hide hzL
  have HB0 := hide ((Below.refl _ w).alloc (Nat.le_refl _) (Obj.cells #[Value.slice A n c, Value.slice B k d] 29))
  have HK0 := hide (Blk.new w 29 [.slice A n c, .slice B k d])
  have d0 : ¬ code = 0 → (code != 0) = true := fun h => by simpa using h
  clear hz hm hr hkz hL hzL
  go_enter Try.func33, Try.ntmps33
  have k0 := HK0.out.cell 0 _ rfl
  have k1 := HK0.out.cell 1 _ rfl
  go_wp2_with fail
  clear k0 k1
  refine (cowS_any A n c f B k d s C m e xs L code _ (HZ.out.later HB0.out) HM.out hb he (HR.out.later HB0.out) HC.out).mono ?_
  rintro e w1 ⟨v1, vals1, rfl, hb1, hl1⟩
  obtain ⟨A1, c1, hv1, hobj⟩ := hl1.shape
  subst hv1
  have HB1 := hide (HB0.out.trans (hb1.mono HB0.out.size))
  have HO1 := hide (hobj.mono (lo' := w.heap.size) HB0.out.size (Nat.le_refl _))
  clear hb1 hobj hl1
  by_cases hc0 : code = 0
  · subst hc0
    obtain ⟨_, hcl, _, _⟩ := HC.out.zero
    obtain ⟨g, R, CC, rfl, hcell, hrow⟩ := HO1.out.first hcl.pos
    rw [← HZL.out, HKZ.out] at hcell
    rw [← HZL.out] at hrow
    have HRO := hide hrow
    clear hcl hrow d0
    have hlp : (0 : Int) < L.length := by have h := HC.out.zero.2.1.pos; omega
    obtain ⟨ll, hll⟩ : ∃ ll, L.length = ll := ⟨_, rfl⟩
    rw [hll] at hlp ⊢
    go_wp2_with fail
    go_ret2
    exact ⟨_, _, rfl, HB1.out, HRO.out.res (Nat.le_refl _)⟩
  · have hz1 : zs = [] := by rw [HZL.out, HC.out.none hc0]; rfl
    subst hz1
    obtain rfl : kz = 0 := by simpa using HKZ.out.symm
    have hcb := d0 hc0
    clear d0
    go_wp2_with fail
    go_ret2
    exact ⟨_, _, rfl, HB1.out, .inl ⟨rfl, rfl⟩⟩
theorem nwS (A : Option Addr) (n c : Nat) (f : List (List Int)) (B : Option Addr) (k d : Nat) (s : List (List Int)) (C : Option Addr) (m : Nat) (xs zs : List Int) (code : Int) (kz : Nat) (w : World) (hz : ZArg 1048576 w A n f B k s) (hm : xs.length = m) (hb : m ≤ 1048576) (hr : Rd w C xs) (hres : NwR f s xs zs code) (hkz : zs.length = kz) :
    Calls Try.prog 33 #[.agg #[.slice A n c, .slice B k d], .slice C m m] w (RPost 2 kz zs code w) :=
  nwS_any A n c f B k d s C m m xs zs code kz w hz hm hb (fun h => h) hr hres hkz
end Go.Proofs.Ytiaebilcgmahlaa
namespace Go.Proofs.Ytiaebilcgmahlaa
open Go Go.RowKit
open Classical
set_option maxHeartbeats 4000000
/-- What the equality of words is told. -/
def EqwR (f s : List (List Int)) (xs ys : List Int) (v : Bool) (code : Int) : Prop :=
  (WdC f s [xs, ys] 0 ∧ ((FewT (leH f) (leH s) xs 1000 ∧ (v = true ↔ Tch (leH f) (leH s) xs ys) ∧ code = 0) ∨ (¬ FewT (leH f) (leH s) xs 1000 ∧ v = false ∧ code = 3))) ∨ (WdC f s [xs, ys] code ∧ code ≠ 0 ∧ v = false)
theorem EqwR.ex (f s : List (List Int)) (xs ys : List Int) : ∃ v code, EqwR f s xs ys v code := by
  obtain ⟨c, hc⟩ := WdC.ex f s [xs, ys]
  by_cases h0 : c = 0
  · subst h0
    by_cases hf : FewT (leH f) (leH s) xs 1000
    · obtain ⟨v, hv⟩ := bool_of (Tch (leH f) (leH s) xs ys)
      exact ⟨v, 0, .inl ⟨hc, .inl ⟨hf, hv, rfl⟩⟩⟩
    · exact ⟨false, 3, .inl ⟨hc, .inr ⟨hf, rfl, rfl⟩⟩⟩
  · exact ⟨false, c, .inr ⟨hc, h0, rfl⟩⟩
set_option maxRecDepth 100000 in
theorem find_any (A : Option Addr) (N c : Nat) (rows : List (List Int)) (P : Option Addr) (m e : Nat) (p : List Int) (r : Bool) (w : World) (hN : rows.length = N) (hNb : N ≤ 1048576) (hls : ∀ i, i < rows.length → (rows.getD i []).length ≤ 1048576) (hr : Rd2 w A rows) (hm : p.length = m) (hb : m ≤ 1048576) (hp : Rd w P p) (hrr : r = true ↔ p ∈ rows) :
    Calls Try.prog 72 #[.slice A N c, .slice P m e] w fun e w' => e = .returned (.bool r) ∧ Below w.heap.size w w' := by
  have HN := hide hN
  have HLS := hide hls
  have HR := hide hr
  have HM := hide hm
  have HP := hide hp
  have HRR := hide hrr
  clear hN hls hr hm hp hrr
  go_enter Try.func72, Try.ntmps72
  go_wp2_with fail
  go_loopw [5] (fun i wr => ∃ j : Nat, j ≤ N ∧ i = .int .i64 j ∧ Below w.heap.size w wr ∧ ∀ i, i < j → rows.getD i [] ≠ p) (fun i _ => N - (intOf i).toNat)
  case atStart => exact ⟨0, Nat.zero_le _, rfl, Below.refl _ _, fun i hi => absurd hi (Nat.not_lt_zero _)⟩
  case round =>
    obtain ⟨j, hj, rfl, hq, hin⟩ := hrel
    have HIN := hide hin
    have HB := hide hq
    clear hin hq
    by_cases hlt : j < N
    · have hjr : j < rows.length := by rw [HN.out]; exact hlt
      obtain ⟨b, o, rfl, _, hc⟩ := (HR.out.later HB.out) (by omega)
      obtain ⟨Aj, cj, hcell, hrd⟩ := hc j hjr
      have hlb := HLS.out j hjr
      obtain ⟨q, hq⟩ : ∃ q, rows.getD j [] = q := ⟨_, rfl⟩
      rw [hq] at hcell hrd hlb
      have HQ := hide hq
      obtain ⟨l, hl⟩ : ∃ l, q.length = l := ⟨_, rfl⟩
      rw [hl] at hcell hlb
      have HL := hide hl
      have HRD := hide hrd
      have hjz : (j : Int) < N := by omega
      obtain ⟨r1, hr1⟩ : ∃ r1 : Bool, r1 = true ↔ q = p := bool_of _
      have HR1 := hide hr1
      clear hq hl hrd hc hr1
      go_wp2_with fail
      refine (same_any Aj P l cj m e q p r1 _ HL.out HM.out (by omega) (by omega) HRD.out (HP.out.later HB.out) HR1.out).mono ?_
      rintro e w2 ⟨rfl, hq2⟩
      have HB2 := hide (HB.out.trans ((hq2.below wr.heap.size).mono HB.out.size))
      clear hq2
      cases r1 with
      | true =>
        have hmem : p ∈ rows := by rw [← HR1.out.1 rfl, ← HQ.out]; exact tgetD_mem _ _ _ hjr
        have hrt : r = true := HRR.out.2 hmem
        subst hrt
        clear HRR HR1 hmem
        go_wp2_with fail
        go_ret
        exact ⟨rfl, HB2.out⟩
      | false =>
        have hne : q ≠ p := fun e => by have h := HR1.out.2 e; cases h
        have HNE := hide hne
        clear HR1 hne
        go_wp2_with fail
        go_roundw
        case rel =>
          refine ⟨j + 1, by omega, by go_num, HB2.out, fun i hi => ?_⟩
          by_cases e : i = j
          · subst e; rw [HQ.out]; exact HNE.out
          · exact HIN.out i (by omega)
        case measure => simp [intOf]; omega
    · have hjm : j = N := by omega
      subst hjm
      have hrf : r = false := by
        cases r with
        | false => rfl
        | true =>
          obtain ⟨i, hi, e⟩ := List.getElem_of_mem (HRR.out.1 rfl)
          exact absurd (by simp [hi, e]) (HIN.out i (by rw [← HN.out]; exact hi))
      subst hrf
      clear HRR
      go_wp2_with fail
      go_ret
      exact ⟨rfl, HB.out⟩
set_option maxRecDepth 100000 in
theorem eqwI (A : Option Addr) (n c : Nat) (f : List (List Int)) (B : Option Addr) (k d : Nat) (s : List (List Int)) (C : Option Addr) (m e : Nat) (xs : List Int) (D : Option Addr) (m2 e2 : Nat) (ys : List Int) (v : Bool) (code : Int) (w : World) (hz : ZArg 1048576 w A n f B k s) (hm : xs.length = m) (hb : m ≤ 1048576) (hr : Rd w C xs) (hm2 : ys.length = m2) (hb2 : m2 ≤ 1048576) (hr2 : Rd w D ys) (hres : EqwR f s xs ys v code) :
    Calls Try.prog 32 #[.agg #[.slice A n c, .slice B k d], .slice C m e, .slice D m2 e2] w fun e w' => e = .returned (.tuple #[.bool v, .int .i64 code]) ∧ Below w.heap.size w w' := by
  have HZ := hide hz
  have HM := hide hm
  have HR := hide hr
  have HM2 := hide hm2
  have HR2 := hide hr2
  have HB0 := hide ((Below.refl _ w).alloc (Nat.le_refl _) (Obj.cells #[Value.slice A n c, Value.slice B k d] 29))
  have HK0 := hide (Blk.new w 29 [.slice A n c, .slice B k d])
  obtain ⟨wc, hwc⟩ : ∃ wc, WdC f s [xs, ys] wc := WdC.ex f s [xs, ys]
  have HWC := hide hwc
  have HRES := hide hres
  have d0 : ¬ wc = 0 → (wc != 0) = true := fun h => by simpa using h
  clear hz hm hr hm2 hr2 hwc hres
  go_enter Try.func32, Try.ntmps32
  have k0 := HK0.out.cell 0 _ rfl
  have k1 := HK0.out.cell 1 _ rfl
  go_wp2_with fail
  clear k0 k1
  refine calls_gen fun w1 hw1 => ?_
  have hb1 : Below (w.alloc (Obj.cells #[Value.slice A n c, Value.slice B k d] 29)).heap.size (w.alloc (Obj.cells #[Value.slice A n c, Value.slice B k d] 29)) w1 := by rw [hw1]; exact (Below.refl _ _).alloc (Nat.le_refl _) _
  have HL1 : Hid (Blk w1 (w.heap.size + 1) 25 [.slice C m e, .slice D m2 e2]) := hide (by rw [hw1]; have h := Blk.new (w.alloc (Obj.cells #[Value.slice A n c, Value.slice B k d] 29)) 25 [.slice C m e, .slice D m2 e2]; simpa using h)
  have HB1 := hide (HB0.out.trans (hb1.mono HB0.out.size))
  have HK1 := hide (HK0.out.later hb1)
  have HRR : Hid (Rd2 w1 (some ⟨w.heap.size + 1, 0, none⟩) [xs, ys]) := hide (fun _ => ⟨_, 0, rfl, HL1.out.lt, fun i hi => by
    rcases i with _ | _ | i
    · exact ⟨C, e, by have h := HL1.out.cell 0 _ rfl; rw [show ([xs, ys].getD 0 []).length = m from HM.out]; exact h, HR.out.later HB1.out⟩
    · exact ⟨D, e2, by have h := HL1.out.cell 1 _ rfl; rw [show ([xs, ys].getD 1 []).length = m2 from HM2.out]; exact h, HR2.out.later HB1.out⟩
    · simp at hi; omega⟩)
  clear hw1 hb1
  refine (wordFault_any A B _ n c k d 2 2 f s [xs, ys] wc _ (HZ.out.later HB1.out) rfl (by omega) (fun i hi => by
    rcases i with _ | _ | i
    · show xs.length ≤ 1048576; rw [HM.out]; exact hb
    · show ys.length ≤ 1048576; rw [HM2.out]; exact hb2
    · simp at hi; omega) HRR.out HWC.out).mono ?_
  rintro e w2 ⟨rfl, hb2'⟩
  have HB2 := hide (HB1.out.trans (hb2'.mono HB1.out.size))
  have HK2 := hide (HK1.out.later hb2')
  clear hb2' HRR HL1
  by_cases hc0 : wc = 0
  · subst hc0
    obtain ⟨hs, hw⟩ := HWC.out.zero rfl
    obtain rfl := (HZ.out.same hs.1).symm
    have hn := HZ.out.sz.fl
    have hw1 := wrds2.1 hw
    rw [hn] at hw1
    have HW := hide hw1.1
    have HV := hide hw1.2
    have HS := hide hs
    have HOR : Hid ((FewT (leH f) (leH s) xs 1000 ∧ (v = true ↔ Tch (leH f) (leH s) xs ys) ∧ code = 0) ∨ (¬ FewT (leH f) (leH s) xs 1000 ∧ v = false ∧ code = 3)) := hide (by
      rcases HRES.out with ⟨_, h⟩ | ⟨h1, h2, _⟩
      · exact h
      · exact absurd (h1.uniq HWC.out) h2)
    clear hs hw hw1 hn d0
    have k0 := HK2.out.cell 0 _ rfl
    have k1 := HK2.out.cell 1 _ rfl
    by_cases hf : FewT (leH f) (leH s) xs 1000
    · have HF := hide hf
      obtain ⟨hv, rfl⟩ : (v = true ↔ Tch (leH f) (leH s) xs ys) ∧ code = 0 := by
        rcases HOR.out with ⟨_, h1, h2⟩ | ⟨h1, _⟩
        · exact ⟨h1, h2⟩
        · exact absurd hf h1
      have HVV := hide hv
      clear hf hv
      go_wp2_with fail
      refine (classOf_yes A n c f B d s C m _ xs _ (HZ.out.later HB2.out) HS.out HW.out HM.out (HR.out.later HB2.out) HF.out).mono ?_
      rintro e w3 ⟨L, bm, hcl, hll, rfl, hb3, hbm, hme⟩
      have HB3 := hide (HB2.out.trans (hb3.mono HB2.out.size))
      have HCL := hide hcl
      have HME := hide hme
      clear hb3 hcl hme k0 k1
      by_cases hmm : m = m2
      · subst hmm
        obtain ⟨kl, hkl⟩ := tkey_ex (HV.out.tup.sm (HZ.out.small HS.out.1).2)
        have hm12 : m ≤ 12 := by have := HW.out.1; have := HM.out; omega
        have HKL := hide hkl
        clear hkl
        go_wp2_with fail
        refine (tupleOf_key D m _ ys _ HM2.out hm12 (HR2.out.later HB3.out)).mono ?_
        rintro e w4 ⟨rfl, hb4⟩
        have HB4 := hide (HB3.out.trans (hb4.mono HB3.out.size))
        have hlook := MapN.look1 tk_keyed (MapN.later HME.out hb4) Try.underlying61 (z := .bool false) (by kernel_rfl) HKL.out
        rw [metV_at (fun p hp => by rw [((HCL.out.2 p).1 hp).len]; exact HM.out) HM2.out] at hlook
        have hvd : decide (ys ∈ L) = v := by
          cases v with
          | true => exact decide_eq_true ((HCL.out.2 _).2 (HVV.out.1 rfl))
          | false => exact decide_eq_false (fun h => by have h2 := HVV.out.2 ((HCL.out.2 _).1 h); cases h2)
        rw [hvd] at hlook
        clear hb4 hvd
        go_wp2_with fail
        go_ret2
        exact ⟨rfl, HB4.out⟩
      · have hmz : ((m : Int) == (m2 : Int)) = false := by simp; omega
        have hvf : v = false := by
          cases v with
          | false => rfl
          | true => have h := (HVV.out.1 rfl).len; have h1 := HM.out; have h2 := HM2.out; omega
        subst hvf
        clear HVV
        go_wp2_with fail
        go_ret2
        exact ⟨rfl, HB3.out⟩
    · have HF := hide hf
      obtain ⟨rfl, rfl⟩ : v = false ∧ code = 3 := by
        rcases HOR.out with ⟨h1, _⟩ | ⟨_, h1⟩
        · exact absurd h1 hf
        · exact h1
      clear hf
      go_wp2_with fail
      refine (classOf_no A n c f B d s C m _ xs _ (HZ.out.later HB2.out) HS.out HW.out HM.out (HR.out.later HB2.out) HF.out).mono ?_
      rintro e w3 ⟨rfl, hb3⟩
      have HB3 := hide (HB2.out.trans (hb3.mono HB2.out.size))
      clear hb3 k0 k1
      go_wp2_with fail
      go_ret2
      exact ⟨rfl, HB3.out⟩
  · have hz1 : v = false ∧ code = wc := by
      rcases HRES.out with ⟨h1, _⟩ | ⟨h1, _, h3⟩
      · exact absurd (HWC.out.uniq h1) hc0
      · exact ⟨h3, h1.uniq HWC.out⟩
    obtain ⟨rfl, rfl⟩ := hz1
    have hcb := d0 hc0
    clear d0
    go_wp2_with fail
    go_ret2
    exact ⟨rfl, HB2.out⟩

set_option maxRecDepth 100000 in
theorem eqwS (A : Option Addr) (n c : Nat) (f : List (List Int)) (B : Option Addr) (k d : Nat) (s : List (List Int)) (C : Option Addr) (m : Nat) (xs : List Int) (D : Option Addr) (m2 : Nat) (ys : List Int) (v : Bool) (code : Int) (w : World) (hz : ZArg 1048576 w A n f B k s) (hm : xs.length = m) (hb : m ≤ 1048576) (hr : Rd w C xs) (hm2 : ys.length = m2) (hb2 : m2 ≤ 1048576) (hr2 : Rd w D ys) (hres : EqwR f s xs ys v code) :
    Calls Try.prog 31 #[.agg #[.slice A n c, .slice B k d], .slice C m m, .slice D m2 m2] w fun e w' => e = .returned (.tuple #[.bool v, .int .i64 code]) ∧ Below w.heap.size w w' := by
  have HZ := hide hz
  have HM := hide hm
  have HR := hide hr
  have HM2 := hide hm2
  have HR2 := hide hr2
  have HB0 := hide ((Below.refl _ w).alloc (Nat.le_refl _) (Obj.cells #[Value.slice A n c, Value.slice B k d] 29))
  have HK0 := hide (Blk.new w 29 [.slice A n c, .slice B k d])
  obtain ⟨wc, hwc⟩ : ∃ wc, WdC f s [xs, ys] wc := WdC.ex f s [xs, ys]
  have HWC := hide hwc
  have HRES := hide hres
  have d0 : ¬ wc = 0 → (wc != 0) = true := fun h => by simpa using h
  clear hz hm hr hm2 hr2 hwc hres
  go_enter Try.func31, Try.ntmps31
  have k0 := HK0.out.cell 0 _ rfl
  have k1 := HK0.out.cell 1 _ rfl
  go_wp2_with fail
  clear k0 k1
  refine (codeS_any A B C D n c k d m _ m2 _ f s xs ys wc _ (HZ.out.later HB0.out) HM.out hb (HR.out.later HB0.out) HM2.out hb2 (HR2.out.later HB0.out) HWC.out).mono ?_
  rintro e w2 ⟨rfl, hb2'⟩
  have HB2 := hide (HB0.out.trans (hb2'.mono HB0.out.size))
  have HK2 := hide (HK0.out.later hb2')
  clear hb2'
  by_cases hc0 : wc = 0
  · subst hc0
    obtain ⟨hs, hw⟩ := HWC.out.zero rfl
    obtain rfl := (HZ.out.same hs.1).symm
    have hn := HZ.out.sz.fl
    have hw1 := wrds2.1 hw
    rw [hn] at hw1
    have HW := hide hw1.1
    have HV := hide hw1.2
    have HS := hide hs
    have HOR : Hid ((FewT (leH f) (leH s) xs 1000 ∧ (v = true ↔ Tch (leH f) (leH s) xs ys) ∧ code = 0) ∨ (¬ FewT (leH f) (leH s) xs 1000 ∧ v = false ∧ code = 3)) := hide (by
      rcases HRES.out with ⟨_, h⟩ | ⟨h1, h2, _⟩
      · exact h
      · exact absurd (h1.uniq HWC.out) h2)
    clear hs hw hw1 hn d0
    have k0 := HK2.out.cell 0 _ rfl
    have k1 := HK2.out.cell 1 _ rfl
    go_wp2_with fail
    refine (classS_any A n c f B d s C m m xs 1000 _ (HZ.out.later HB2.out) HS.out HW.out.tup HM.out (fun h => h) (HR.out.later HB2.out) (by omega) (by omega)).mono ?_
    have hs2 := HB2.out.size
    rintro e w3 (⟨L, v3, vals, hcl, ha, hll, rfl, hb3, hl3⟩ | ⟨hf, rfl, hb3⟩)
    · have HB3 := hide (HB2.out.trans (hb3.mono hs2))
      obtain ⟨hv, rfl⟩ : (v = true ↔ Tch (leH f) (leH s) xs ys) ∧ code = 0 := by
        rcases HOR.out with ⟨_, h1, h2⟩ | ⟨h1, _⟩
        · exact ⟨h1, h2⟩
        · exact absurd ⟨L, hcl, hll⟩ h1
      obtain ⟨A3, c3, hv3, hobj⟩ := hl3.shape
      subst hv3
      have HRD := hide hobj.rd
      have HCL := hide hcl
      have HLL := hide hll
      have HVV : Hid (v = true ↔ ys ∈ L) := hide (by rw [hv, HCL.out.2])
      obtain ⟨N, hN⟩ : ∃ N, L.length = N := ⟨_, rfl⟩
      have HN := hide hN
      rw [hN] at hll ⊢
      clear hb3 hcl ha hl3 hobj hv hN k0 k1
      go_wp2_with fail
      refine (find_any A3 N c3 L D m2 m2 ys v _ HN.out (by omega) (fun i hi => by rw [HCL.out.row hi, HM.out]; exact hb) HRD.out HM2.out hb2 (HR2.out.later HB3.out) HVV.out).mono ?_
      rintro e w4 ⟨rfl, hb4⟩
      have HB4 := hide (HB3.out.trans (hb4.mono HB3.out.size))
      clear hb4
      go_wp2_with fail
      go_ret2
      exact ⟨rfl, HB4.out⟩
    · obtain ⟨rfl, rfl⟩ : v = false ∧ code = 3 := by
        rcases HOR.out with ⟨h1, _⟩ | ⟨_, h1⟩
        · exact absurd h1 hf
        · exact h1
      have HB3 := hide (HB2.out.trans (hb3.mono hs2))
      clear hb3 hf k0 k1
      go_wp2_with fail
      go_ret2
      exact ⟨rfl, HB3.out⟩
  · have hz1 : v = false ∧ code = wc := by
      rcases HRES.out with ⟨h1, _⟩ | ⟨h1, _, h3⟩
      · exact absurd (HWC.out.uniq h1) hc0
      · exact ⟨h3, h1.uniq HWC.out⟩
    obtain ⟨rfl, rfl⟩ := hz1
    have hcb := d0 hc0
    clear d0
    go_wp2_with fail
    go_ret2
    exact ⟨rfl, HB2.out⟩

end Go.Proofs.Ytiaebilcgmahlaa
