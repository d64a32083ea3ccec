import Derived.Test.YthnkhljgealjdaaDo
import Derived.Test.YthnkhljgealjdaaDn
import Derived.Test.YthnkhljgealjdaaDf
import Derived.Test.YthnkhljgealjdaaDq
import Derived.Test.YthnkhljgealjdaaDc
import Derived.Test.YthnkhljgealjdaaDe
import Derived.Test.YthnkhljgealjdaaDb
import Derived.RangeFuncLeaves
import Derived.RangeFuncBox
import Derived.Maps.AppendAt
import Derived.Maps.OwnIn
import Derived.RangeFuncCalls
import Derived.Test.YthnkhljgealjdaaDp
namespace Go.Proofs.Ythnkhljgealjdaa
open Go Go.RowKit Go.Sort Go.Lib
open Classical
set_option maxHeartbeats 8000000
/-- Each slice has room for its elements. -/
def CapsN (vals : List Value) : Prop := ∀ (A : Option Addr) (l c : Nat), Value.slice A l c ∈ vals → l ≤ c
theorem CapsN.nil : CapsN [] := fun _ _ _ h => absurd h List.not_mem_nil
theorem CapsN.push {vals : List Value} {A : Option Addr} {l c : Nat} (h : CapsN vals) (hl : l ≤ c) : CapsN (vals ++ [.slice A l c]) := fun A' l' c' hm => by
  rcases List.mem_append.1 hm with h2 | h2
  · exact h A' l' c' h2
  · have e : Value.slice A' l' c' = .slice A l c := by simpa using h2
    injection e with _ e2 e3
    omega
theorem sortC_any (n : Nat) (B : Nat) (v : Value) (rows : List (List Int)) (vals : List Value) (w : World) (hb : n ≤ 1048576) (hr0 : 0 < rows.length) (hrb : rows.length ≤ 1048576) (hls : ∀ i, i < rows.length → (rows.getD i []).length = n) (hnd : rows.Nodup) (hB : B ≤ w.heap.size) (h : LstV 25 2 B w v rows vals) :
    Calls Try.prog 45 #[v, .func (.func 46) #[] #[]] w fun e w' => e = .returned (.tuple #[]) ∧ Go.RowKit.Below B w w' ∧ ∃ rows' vals', (∀ u, u ∈ vals' → u ∈ vals) ∧ LstV 25 2 B w' v rows' vals' ∧ Asc rows' ∧ rows'.length = rows.length ∧ ∀ x, x ∈ rows' ↔ x ∈ rows := by
  obtain ⟨M, hM⟩ : ∃ M, rows.length = M + 1 := ⟨rows.length - 1, by omega⟩
  have hvl : vals.length = M + 1 := by rw [ownsRow_len h.own, hM]
  rcases h.own.2 with ⟨_, hz⟩ | ⟨g, cap, cur, rfl, hBg, hh, hcap, hmx, hsz, htk⟩
  · omega
  · have hgl : g < w.heap.size := (Array.getElem?_eq_some_iff.1 hh).1
    let R : Fin (M + 1) → List Int := fun i => rows.getD i.val []
    let V : Fin (M + 1) → Value := fun i => vals.getD i.val (.slice none 0 0)
    have hV : ∀ i : Fin (M + 1), vals[i.val]? = some (V i) := fun i => by
      have : i.val < vals.length := by omega
      simp [V, this]
    have hrow : ∀ i : Fin (M + 1), ∃ A c, V i = .slice A n c ∧ Obj1 2 B w.heap.size w A (R i) := fun i => by
      obtain ⟨A, c, e1, e2⟩ := h.row i.val (by omega)
      rw [hV i] at e1
      rw [hls i.val (by omega)] at e1
      exact ⟨A, c, Option.some.inj e1, e2⟩
    have hone : OneCell V := fun i => by
      obtain ⟨A, c, e, _⟩ := hrow i
      rw [e]; rfl
    have hinj : ∀ x y, R x = R y → x = y := fun x y e => by
      have h1 : x.val < rows.length := by omega
      have h2 : y.val < rows.length := by omega
      have e2 : rows[x.val] = rows[y.val] := by simpa [R, h1, h2] using e
      exact Fin.ext ((List.getElem_inj (h₀ := h1) (h₁ := h2) hnd).1 e2)
    have hcur : ∀ i : Fin (M + 1), cur[i.val]? = some (V i) := fun i => by
      have h5 := hV i
      rw [← htk, List.getElem?_take, if_pos (by omega)] at h5
      simpa using h5
    have hts : (25 : TypeId) ≠ 2 := by decide
    have hkeep : ∀ (k : Nat) (d : Array (Fin (M + 1))) (os : Array Obj), KeepT 2 w (sortWorld V w g 0 k d os) := fun k d os => sortWorld_keep V w g k d os hts hh
    have hdsz : (Array.ofFn (n := M + 1) id).size = M + 1 := by simp
    have hH : Holds V w g 0 (Array.ofFn (n := M + 1) id) := fun j hj => by
      rw [hdsz] at hj
      have e : (Array.ofFn (n := M + 1) id)[j]! = ⟨j, hj⟩ := by
        rw [getElem!_pos _ j (by simpa using hj)]
        simp
      rw [e, Nat.zero_add]
      exact ⟨by rw [cell_of_row w g j cur 25 (0, 0) hh]; exact hcur ⟨j, hj⟩, by simp [World.frozen?, hh]⟩
    have hcmp : CmpLays1 Try.prog 46 #[] V (fun i j => cmpW (R i) (R j)) g 0 (Array.ofFn (n := M + 1) id).size w := fun m os dk _ x y => by
      obtain ⟨A, c, e1, o1⟩ := hrow x
      obtain ⟨A2, c2, e2, o2⟩ := hrow y
      have hx := ((hkeep m dk os).obj o1).rd
      have hy := ((hkeep m dk os).obj o2).rd
      have hc := cmpRow_any n A A2 c c2 (R x) (R y) (sortWorld V w g 0 m dk os) (hls x.val (by omega)) (hls y.val (by omega)) hb hx hy
      rw [e1, e2]
      exact hc.mono fun e w' hh2 => ⟨hh2.1, 0, #[], by rw [hh2.2, grow_empty]; rfl⟩
    have hS := Any.slices_SortFunc_total Try.sortR V hone (fun i j => cmpW (R i) (R j)) (rowSwo R) 46 #[] g 0 cap (Array.ofFn (n := M + 1) id) w (enters_of Try.func46 (by kernel_rfl) rfl) hcmp hH hgl (by rw [hdsz]; omega) (rowTot R hinj)
    rw [hdsz] at hS
    change Calls Try.prog 45 _ _ _ at hS
    rw [hM]
    refine hS.mono ?_
    rintro e w' ⟨rfl, k, os, hw'⟩
    have hsrt : ((Array.ofFn (n := M + 1) id).toList.mergeSort fun x y => !(ltOf (fun i j => cmpW (R i) (R j))) y x) = srtI R := rfl
    rw [hsrt] at hw'
    have hK := hkeep k (srtI R).toArray os
    rw [← hw'] at hK
    have hlow : Go.RowKit.Below B w w' := by rw [hw']; exact sortWorld_low V w g k _ os B hBg hB
    have htop : w'.heap[g]? = some (.cells (putCells V 0 (srtI R).toArray cur) 25 (0, 0)) := by rw [hw']; exact sortWorld_top V w g k _ os cur _ _ hh
    have hlen := srtI_len R
    have hnds := srtI_nd R
    refine ⟨rfl, hlow, (srtI R).map R, (srtI R).map V, fun u hu => by (obtain ⟨i, _, rfl⟩ := List.mem_map.1 hu; exact List.mem_of_getElem? (hV i)), ⟨⟨by simp [hlen], .inr ⟨g, cap, _, by rw [List.length_map, hlen], hBg, htop, ?_, hmx, ?_, ?_⟩⟩, fun i hi => ?_, fun i j u u' g' hij hu hu' hg' => ?_⟩, srtI_asc R hinj, by simp [hlen], fun x => ?_⟩
    · simp [hlen]; omega
    · simp [putCells, hsz]
    · apply List.ext_getElem?
      intro j
      rw [List.getElem?_take]
      by_cases hj : j < M + 1
      · have hj2 : j < cur.size := by omega
        have e1 : j < ((srtI R).map R).length * 1 := by simp [hlen]; omega
        rw [if_pos e1]
        have hjs : j < (srtI R).length := by omega
        simp only [putCells, Array.getElem?_toList, Array.getElem?_mapIdx, List.getElem?_map]
        rw [Array.getElem?_eq_getElem hj2, List.getElem?_eq_getElem hjs]
        simp [hlen, hj]
      · have e1 : ¬ j < ((srtI R).map R).length * 1 := by simp [hlen]; omega
        rw [if_neg e1, List.getElem?_eq_none (by simp [hlen]; omega)]
    · have hi2 : i < (srtI R).length := by simpa using hi
      obtain ⟨A, c, e1, o1⟩ := hrow (srtI R)[i]
      have e2 : ((srtI R).map R).getD i [] = R (srtI R)[i] := by simp [hi2]
      refine ⟨A, c, ?_, ?_⟩
      · rw [List.getElem?_map, List.getElem?_eq_getElem hi2, e2]
        show some (V (srtI R)[i]) = _
        rw [e1, show (R (srtI R)[i]).length = n from hls _ (by omega)]
      · rw [e2]
        exact (hK.obj o1).mono (Nat.le_refl _) hlow.size
    · have hj2 : j < (srtI R).length := by have := (List.getElem?_eq_some_iff.1 hu').1; simpa using this
      have hi2 : i < (srtI R).length := by omega
      rw [List.getElem?_map, List.getElem?_eq_getElem hi2] at hu
      rw [List.getElem?_map, List.getElem?_eq_getElem hj2] at hu'
      have hu1 : V (srtI R)[i] = u := Option.some.inj hu
      have hu2 : V (srtI R)[j] = u' := Option.some.inj hu'
      have hne : (srtI R)[i] ≠ (srtI R)[j] := fun e => by
        have := (List.getElem_inj (h₀ := hi2) (h₁ := hj2) hnds).1 e
        omega
      have hne2 : (srtI R)[i].val ≠ (srtI R)[j].val := fun e => hne (Fin.ext e)
      intro e
      rcases Nat.lt_or_gt_of_ne hne2 with hlt | hlt
      · exact h.ne _ _ u u' g' hlt (by rw [hV, hu1]) (by rw [hV, hu2]) hg' e
      · exact h.ne _ _ u' u g' hlt (by rw [hV, hu2]) (by rw [hV, hu1]) e hg'
    · constructor
      · intro hx
        obtain ⟨i, _, rfl⟩ := List.mem_map.1 hx
        have : i.val < rows.length := by omega
        simp [R, this]
      · intro hx
        obtain ⟨j, hj, rfl⟩ := List.getElem_of_mem hx
        refine List.mem_map.2 ⟨⟨j, by omega⟩, srtI_mem R _, ?_⟩
        simp [R, hj]
set_option maxRecDepth 100000 in
theorem listsC_any (bm m : Nat) (L : List (List Int)) (w : World) (hM : MetN w bm L) (hnd : L.Nodup) (hlm : ∀ p, p ∈ L → p.length = m) (hsm : ∀ p, p ∈ L → Sm p) (hm12 : m ≤ 12) (h0 : 0 < L.length) (hlb : L.length ≤ 5000) :
    Calls Try.prog 32 #[.map (some bm), .int .i64 m] w fun e w' => ∃ v L' vals, CapsN vals ∧ e = .returned v ∧ Below w.heap.size w w' ∧ LstV 25 2 w.heap.size w' v L' vals ∧ Asc L' ∧ ∀ x, x ∈ L' ↔ x ∈ L := by
  have HM := hide hM
  have HND := hide hnd
  have HLM := hide hlm
  have HSM := hide hsm
  obtain ⟨i2, hj, hy0, hy1, hy2⟩ := info_parts neInfo2
  obtain ⟨N, hN⟩ : ∃ N, L.length = N := ⟨_, rfl⟩
  have HN := hide hN
  obtain ⟨es, clock, hraw, hess⟩ := MapN.raw hM
  have hlen := run_len_map (P := Try.prog) (w := w) 52 3 bm es clock (by kernel_rfl) hraw
  rw [hess, hN] at hlen
  rw [hN] at h0 hlb
  have hby : i2.bytes = 24 := hy2
  have hbl := MapN.lt hM
  clear hM hnd hlm hsm hN hraw hess
  go_enter Try.func32, Try.ntmps32
  go_upto_region 2 with (refine wpList_make_own _ rfl _ _ 22 rfl w.heap.size 25 i2 (.slice none 0 0) 1 Try.underlying22 hj hy0 hy1 .i64 .i64 (N : Int) N rfl rfl rfl (by rw [hby]; omega) (by unfold maxLen; omega) (Nat.le_refl _) ?_; intro w1 hown1 hgrow1)
  have hb1 : Below w.heap.size w w1 := (Below.refl _ w).grown hgrow1 (Nat.le_refl _) (fun g hg => by cases hg)
  have hl1 : LstV 25 2 w.heap.size w1 (.slice (some ⟨w.heap.size, 0, none⟩) 0 N) [] [] := ⟨hown1, fun i hi => by simp at hi, fun i j u u' g _ hu => by simp at hu⟩
  obtain ⟨w2, cnt0, hrun, hR2, hg2, hs2⟩ := MetN.range (show MetN w1 bm L from MapN.later HM.out hb1) Try.underlying52
  have hb2 : Below w1.heap.size w1 w2 := (Below.refl _ w1).grown hg2 (Nat.le_refl _) (fun g hg => by cases hg)
  have HB2 := hide (hb1.trans (hb2.mono hb1.size))
  have HL2 := hide (hl1.later hb2)
  obtain ⟨r, hr⟩ : ∃ r, w1.heap.size = r := ⟨_, rfl⟩
  rw [hr] at hrun hR2
  have HR2 := hide hR2
  have hrw : w.heap.size ≤ r := by rw [← hr]; exact hb1.size
  clear hown1 hgrow1 hl1 hR2 hg2 hb1 hb2 hs2 hr
  go_wp2_with fail
  clear hrun
  go_loopw [5] (fun v wr => ∃ (got : List (List Int)) (vals : List Value) (cnt : Nat), Below w.heap.size w wr ∧ LstV 25 2 w.heap.size wr v got vals ∧ MetR wr bm r L got cnt ∧ CapsN vals) (fun _ wr => wr.rangeLeft bm r)
  case atStart => exact ⟨[], [], cnt0, HB2.out, HL2.out, HR2.out, CapsN.nil⟩
  case round =>
    obtain ⟨got, vals, cnt, hbe, hlst, hmr, hcn⟩ := hrel
    have HCN := hide hcn
    clear hcn
    clear HB2 HL2 HR2
    have HB := hide hbe
    have HL := hide hlst
    have hleft := hmr.left_eq
    have hgn : got.Nodup := by obtain ⟨_, _, _, _, h, _⟩ := hmr; exact h
    have hgs : ∀ y, y ∈ got → y ∈ L := by obtain ⟨_, _, _, _, _, h, _⟩ := hmr; exact h
    have hgl : got.length ≤ N := by have h := tnodup_le hgn hgs; rw [HN.out] at h; exact h
    have HGN := hide hgn
    have HGS := hide hgs
    have HN0 := hide hmr.iterN
    have HMR := hide hmr
    rcases hmr.next HLM.out HSM.out 0 with ⟨hall, hnx⟩ | ⟨p, v, w3, cnt3, hp, hpg, hnx, hr3, hlt3, hg3, hs3, hen⟩
    · have HALL := hide hall
      clear hbe hlst hmr hgn hgs hall
      have h0g : 0 < got.length := by
        have h := tnodup_le HND.out (fun y hy => (HALL.out y).1 hy)
        rw [HN.out] at h
        omega
      go_wp2_with fail
      refine (sortC_any m _ _ got vals _ (by omega) h0g (by omega) (fun i hi => HLM.out _ (HGS.out _ (tgetD_mem _ _ _ hi))) HGN.out HB.out.size HL.out).mono ?_
      rintro e w5 ⟨rfl, hb5, rows', vals', hsub, hl5, ha5, hlen5, hm5⟩
      have HB5 := hide (HB.out.trans hb5)
      have HL5 := hide hl5
      have HA5 := hide ha5
      have HM5 := hide hm5
      have HSUB := hide hsub
      clear hb5 hl5 ha5 hm5 hnx hsub
      go_wp2_with fail
      go_ret
      exact ⟨_, rows', vals', fun A l c h => HCN.out A l c (HSUB.out _ h), rfl, HB5.out, HL5.out, HA5.out, fun x => (HM5.out x).trans ⟨HGS.out x, fun h => (HALL.out x).1 h⟩⟩
    · have hpl := HLM.out p hp
      have hpp := pad12_length (xs := p) (by rw [hpl]; exact hm12)
      obtain ⟨pp, hppe⟩ : ∃ pp, pad12 p = pp := ⟨_, rfl⟩
      rw [hppe] at hpp
      obtain ⟨p0, p1, p2, p3, p4, p5, p6, p7, p8, p9, p10, p11, rfl⟩ := list12 hpp
      have hkp : tkey p = .agg #[.int .i64 p0, .int .i64 p1, .int .i64 p2, .int .i64 p3, .int .i64 p4, .int .i64 p5, .int .i64 p6, .int .i64 p7, .int .i64 p8, .int .i64 p9, .int .i64 p10, .int .i64 p11] := by unfold tkey; rw [hppe]; rfl
      rw [hkp] at hnx hen
      have HPP := hide hppe
      have HPL := hide hpl
      have HP := hide hp
      have HPG := hide hpg
      have hb3 : Below w.heap.size w w3 := HB.out.grown hg3 HB.out.size (fun g hg => by injection hg with hg; omega)
      have HB3 := hide hb3
      have HL3 := hide (HL.out.offN HN0.out hg3)
      have HR3 := hide hr3
      have hl3 : w.heap.size ≤ w3.heap.size := hb3.size
      clear hbe hlst hmr hgn hgs hpl hpp hppe hkp hp hpg hb3 hr3 hg3 hs3 HB HL HMR HN0
      go_upto_region 5 with fail
      refine wp_gen fun w4 hw4 => ?_
      obtain ⟨pb, hpb⟩ : ∃ pb, w3.heap.size = pb := ⟨_, rfl⟩
      have hb4 : Below w3.heap.size w3 w4 := by rw [hw4]; exact (Below.refl _ _).alloc (Nat.le_refl _) _
      have HROW : Hid (Row 46 w4 pb [p0, p1, p2, p3, p4, p5, p6, p7, p8, p9, p10, p11]) := hide (by rw [hw4, ← hpb]; exact Blk.new _ _ _)
      rw [hpb]
      have HB4 := hide (HB3.out.trans (hb4.mono HB3.out.size))
      have HL4 := hide (HL3.out.later hb4)
      have HR4 := hide (HR3.out.later hb4)
      have HRD : Hid (Rd w4 (some ⟨pb, 0, none⟩) p) := hide (fun _ => ⟨pb, 0, rfl, HROW.out.lt, fun i hi => by
        have h := HROW.out.cell (i := i) (by have := HPL.out; simp; omega)
        rw [← HPP.out, pad12_at hi] at h
        rw [Nat.zero_add]
        exact h⟩)
      have hl4 : w.heap.size ≤ w4.heap.size := HB4.out.size
      clear hw4 hb4 hnx hen HB3 HL3 HR3 hpb HROW
      have c12z : (m : Int) ≤ 12 := by omega
      go_wp2_with fail
      refine (cloneN_any _ m _ p _ HPL.out (by omega) HRD.out).mono ?_
      rintro e w5 ⟨A5, c5, rfl, hb5, hres5, hc5⟩
      have HB5 := hide hb5
      have HB5w := hide (HB4.out.trans (hb5.mono hl4))
      have HR5 := hide (HR4.out.later hb5)
      have HO5 := hide hres5.obj
      obtain ⟨gl, hgle⟩ : ∃ gl, got.length = gl := ⟨_, rfl⟩
      have HGL := hide hgle
      have HOW : Hid (w5.ownsRow w.heap.size 25 1 u5 gl vals) := hide (by rw [← hgle]; exact (HL4.out.later hb5).own)
      have hgn : gl < N := by
        have h := tnodup_le (l := got ++ [p]) (m := L) (List.nodup_append.2 ⟨HGN.out, by simp, fun a ha b hb e => by simp at hb; subst hb; subst e; exact HPG.out ha⟩) (fun a ha => by
          rcases List.mem_append.1 ha with ha | ha
          · exact HGS.out a ha
          · simp at ha; subst ha; exact HP.out)
        rw [HN.out, List.length_append, hgle] at h
        simp at h
        omega
      have hs5 := HB5w.out.size
      clear hb5 hres5 hgle
      go_wp2_with (at_builtin; refine wpList_append_own_at _ rfl _ _ 22 rfl w.heap.size 25 i2 (.slice none 0 0) 1 24 Try.underlying22 hj hy0 hy1 hy2 rfl (by decide) _ _ _ rfl (HOW.out.alloc _) ⟨w5.heap.size, 0, none⟩ 1 1 [.slice A5 m c5] rfl rfl ?f1 ?f2 ?f3 ?f4 ?f5 ?_)
      case f1 => exact ne_new
      case f2 => intro u hu; simp at hu; subst hu; rfl
      case f3 => unfold maxLen; omega
      case f4 => omega
      case f5 => simp; omega
      intro v9 w9 hown9 hgrow9 _ hat9
      have hal : Below w5.heap.size w5 (w5.alloc (.cells #[.slice A5 m c5] 25)) := (Below.refl _ _).alloc (Nat.le_refl _) _
      have HB9 : Hid (Below w.heap.size w w9) := hide ((HB5w.out.alloc hs5 _).grown hgrow9 (by simp; omega) (fun g hg => ((HOW.out.alloc (.cells #[.slice A5 m c5] 25)).lt g hg).1))
      have HL9 : Hid (LstV 25 2 w.heap.size w9 v9 (got ++ [p]) (vals ++ [.slice A5 p.length c5])) := hide (LstV.push (tmp := .cells #[.slice A5 m c5] 25) (by decide) hl4 HL4.out HB5.out HO5.out (by rw [HPL.out, HGL.out]; exact hown9) hgrow9)
      have HR9 : Hid (MetR w9 bm r L (got ++ [p]) cnt3) := hide ((HR5.out.later hal).off (HOW.out.alloc _) hgrow9)
      clear hown9 hgrow9 hat9 hal
      go_wp2_with fail
      go_roundw
      case rel => exact ⟨got ++ [p], _, cnt3, HB9.out, HL9.out, HR9.out, HCN.out.push (by rw [HPL.out]; exact hc5)⟩
      case measure => rw [HR9.out.left_eq]; omega
set_option maxRecDepth 100000 in
theorem cowN (A : Option Addr) (n c : Nat) (f : List (List Int)) (B : Option Addr) (k d : Nat) (s : List (List Int)) (C : Option Addr) (m e : Nat) (xs : List Int) (zs : List (List Int)) (code : Int) (kz : Nat) (w : World) (hz : ZArg 1048576 w A n f B k s) (hm : xs.length = m) (hb : m ≤ 1048576) (hr : Rd w C xs) (hres : CowR f s xs zs code) (hkz : zs.length = kz) :
    Calls Try.prog 21 #[.agg #[.slice A n c, .slice B k d], .slice C m e] w fun e w' => ∃ v vals, CapsN vals ∧ e = .returned (.tuple #[v, .int .i64 code]) ∧ Below w.heap.size w w' ∧ LstV 25 2 w.heap.size w' v zs vals := by
  have HZ := hide hz
  have HM := hide hm
  have HR := hide hr
  have HKZ := hide hkz
  have HB0 := hide ((Below.refl _ w).alloc (Nat.le_refl _) (Obj.cells #[Value.slice A n c, Value.slice B k d] 29))
  have HK0 := hide (Blk.new w 29 [.slice A n c, .slice B k d])
  obtain ⟨wc, hwc⟩ : ∃ wc, WdC f s [xs] wc := WdC.ex f s [xs]
  have HWC := hide hwc
  have HRES := hide hres
  have d0 : ¬ wc = 0 → (wc != 0) = true := fun h => by simpa using h
  have d1 : wc = 0 → (wc != 0) = false := fun h => by simp [h]
  clear hz hm hr hkz hwc hres
  go_enter Try.func21, Try.ntmps21
  have k0 := HK0.out.cell 0 _ rfl
  have k1 := HK0.out.cell 1 _ rfl
  go_wp2_with fail
  clear k0 k1
  refine calls_gen fun w1 hw1 => ?_
  obtain ⟨L1, hL1⟩ : ∃ L1, (w.alloc (Obj.cells #[Value.slice A n c, Value.slice B k d] 29)).heap.size = L1 := ⟨_, rfl⟩
  have hb1 : Below (w.alloc (Obj.cells #[Value.slice A n c, Value.slice B k d] 29)).heap.size (w.alloc (Obj.cells #[Value.slice A n c, Value.slice B k d] 29)) w1 := by rw [hw1]; exact (Below.refl _ _).alloc (Nat.le_refl _) _
  have HL1 : Hid (Blk w1 (w.heap.size + 1) 25 [.slice C m e]) := hide (by rw [hw1]; have h := Blk.new (w.alloc (Obj.cells #[Value.slice A n c, Value.slice B k d] 29)) 25 [.slice C m e]; simpa using h)
  have HB1 := hide (HB0.out.trans (hb1.mono HB0.out.size))
  have HK1 := hide (HK0.out.later hb1)
  have HRR : Hid (Rd2 w1 (some ⟨w.heap.size + 1, 0, none⟩) [xs]) := hide (fun _ => ⟨_, 0, rfl, HL1.out.lt, fun i hi => by
    have hi0 : i = 0 := by simpa using hi
    subst hi0
    exact ⟨C, e, by have h := HL1.out.cell 0 _ rfl; rw [Nat.zero_add]; rw [show ([xs].getD 0 []).length = m from HM.out]; exact h, HR.out.later HB1.out⟩⟩)
  clear hw1 hb1 hL1
  refine (wordFault_any A B _ n c k d 1 1 f s [xs] wc _ (HZ.out.later HB1.out) rfl (by omega) (fun i hi => by have hi0 : i = 0 := (by simpa using hi); subst hi0; show xs.length ≤ 1048576; rw [HM.out]; exact hb) HRR.out HWC.out).mono ?_
  rintro e w2 ⟨rfl, hb2⟩
  have HB2 := hide (HB1.out.trans (hb2.mono HB1.out.size))
  have HK2 := hide (HK1.out.later hb2)
  clear hb2 HRR HL1
  by_cases hc0 : wc = 0
  · subst hc0
    obtain ⟨hs, hw⟩ := HWC.out.zero rfl
    obtain rfl := (HZ.out.same hs.1).symm
    have hn := HZ.out.sz.fl
    have hw1 := wrds1.1 hw
    rw [hn] at hw1
    have HW := hide hw1
    have HS := hide hs
    have HOR : Hid (OrbR f s xs 1000 zs code) := hide (by
      rcases HRES.out with ⟨_, h⟩ | ⟨h1, h2, _⟩
      · exact h
      · exact absurd (h1.uniq HWC.out) h2)
    clear hs hw hw1 hn d0
    have k0 := HK2.out.cell 0 _ rfl
    have k1 := HK2.out.cell 1 _ rfl
    by_cases hf : FewT (leH f) (leH s) xs 1000
    · have HF := hide hf
      clear hf
      go_wp2_with fail
      refine (classOf_yes A n c f B d s C m _ xs _ (HZ.out.later HB2.out) HS.out HW.out HM.out (HR.out.later HB2.out) HF.out).mono ?_
      rintro e w3 ⟨L, bm, hcl, hll, rfl, hb3, hbm, hme⟩
      have HB3 := hide (HB2.out.trans (hb3.mono HB2.out.size))
      have HCL := hide hcl
      have HME := hide hme
      have hsz := HB2.out.size
      clear hb3 hcl hme k0 k1
      go_wp2_with fail
      refine (listsC_any bm m L _ HME.out HCL.out.1 (fun p hp => by rw [((HCL.out.2 p).1 hp).len]; exact HM.out) (fun p hp => (((HCL.out.2 p).1 hp).tup (HS.out.pb HZ.out.sz.fl) HW.out.tup).sm (HZ.out.small HS.out.1).2) (by have := HW.out.1; have := HM.out; omega) HCL.out.pos (by omega)).mono ?_
      rintro e w4 ⟨v, L', vals, hcn4, rfl, hb4, hl4, ha4, hm4⟩
      have hz1 : L' = zs ∧ code = 0 := by
        rcases HOR.out with ⟨h1, h2, _, h3⟩ | ⟨h1, _⟩
        · exact ⟨(HCL.out.sorted ha4 hm4).ascEq h1 ha4 h2, h3⟩
        · exact absurd HF.out h1
      obtain ⟨rfl, rfl⟩ := hz1
      have HB4 := hide (HB3.out.trans (hb4.mono HB3.out.size))
      have HO4 := hide (hl4.monoB (B' := w.heap.size) HB3.out.size)
      clear hb4 hl4 ha4 hm4
      go_wp2_with fail
      go_ret2
      exact ⟨_, _, hcn4, rfl, HB4.out, HO4.out⟩
    · have HF := hide hf
      clear hf
      have hz1 : zs = [] ∧ code = 3 := by
        rcases HOR.out with ⟨h1, _, h2, _⟩ | ⟨_, h1⟩
        · exact absurd ⟨zs, h1, h2⟩ HF.out
        · exact h1
      obtain ⟨rfl, rfl⟩ := hz1
      obtain rfl : kz = 0 := by simpa using HKZ.out.symm
      go_wp2_with fail
      refine (classOf_no A n c f B d s C m _ xs _ (HZ.out.later HB2.out) HS.out HW.out HM.out (HR.out.later HB2.out) HF.out).mono ?_
      rintro e w3 ⟨rfl, hb3⟩
      have HB3 := hide (HB2.out.trans (hb3.mono HB2.out.size))
      clear hb3 k0 k1
      go_wp2_with fail
      go_ret2
      exact ⟨_, [], CapsN.nil, rfl, HB3.out, LstV.nil _ _ _ _⟩
  · have hz1 : zs = [] ∧ code = wc := by
      rcases HRES.out with ⟨h1, _⟩ | ⟨h1, _, h3⟩
      · exact absurd (HWC.out.uniq h1) hc0
      · exact ⟨h3, h1.uniq HWC.out⟩
    obtain ⟨rfl, rfl⟩ := hz1
    obtain rfl : kz = 0 := by simpa using HKZ.out.symm
    have hcb := d0 hc0
    clear d0 d1
    go_wp2_with fail
    go_ret2
    exact ⟨_, [], CapsN.nil, rfl, HB2.out, LstV.nil _ _ _ _⟩
end Go.Proofs.Ythnkhljgealjdaa
namespace Go.Proofs.Ythnkhljgealjdaa
open Go Go.RowKit Go.Shelf
open Classical
attribute [local go_sem] Oper.semAt_some
attribute [-go_sem] Builtin.append_
set_option maxHeartbeats 4000000
/-- Neither the list nor one of its rows lies in block X. -/
def LFar (v : Value) (vals : List Value) (X : Nat) : Prop := v.ownBlock ≠ some X ∧ ∀ u, u ∈ vals → u.ownBlock ≠ some X
theorem LstV.skip {ts t : TypeId} {B X : Nat} {w w' : World} {v : Value} {rows : List (List Int)} {vals : List Value} (h : LstV ts t B w v rows vals) (hf : LFar v vals X) (hs : w.heap.size ≤ w'.heap.size) (he : ∀ b, b < w.heap.size → b ≠ X → w'.heap[b]? = w.heap[b]?) : LstV ts t B w' v rows vals := by
  refine ⟨⟨h.own.1, ?_⟩, fun i hi => ?_, h.ne⟩
  · rcases h.own.2 with h2 | ⟨g, cap, cur, hv, hg, hh, r⟩
    · exact .inl h2
    · exact .inr ⟨g, cap, cur, hv, hg, (he g (Array.getElem?_eq_some_iff.1 hh).1 (fun e => hf.1 (by rw [hv, ← e]; rfl))).trans hh, r⟩
  · obtain ⟨A, c, h1, h2⟩ := h.row i hi
    refine ⟨A, c, h1, ?_⟩
    rcases h2 with h2 | ⟨g, e1, e2, e3, e4⟩
    · exact .inl h2
    · refine .inr ⟨g, e1, e2, by omega, e4.of_block (he g e3 (fun e => ?_))⟩
      obtain ⟨hlt, h5⟩ := List.getElem?_eq_some_iff.1 h1
      exact hf.2 _ (List.mem_of_getElem h5) (by rw [e1, ← e]; rfl)
/-- Each block of the list holds cells. -/
theorem LstV.cellsF {ts t : TypeId} {B X : Nat} {w : World} {v : Value} {rows : List (List Int)} {vals : List Value} {o : Obj} (h : LstV ts t B w v rows vals) (ho : w.heap[X]? = some o) (hc : o.isCells = false) : LFar v vals X := by
  refine ⟨fun e => ?_, fun u hu e => ?_⟩
  · rcases h.own.2 with ⟨h2, _⟩ | ⟨g, cap, cur, hv, _, hh, _⟩
    · rw [h2] at e; simp [Value.ownBlock] at e
    · rw [hv] at e
      have e2 : g = X := by simpa [Value.ownBlock] using e
      subst e2
      rw [hh] at ho; injection ho with ho; subst ho; cases hc
  · obtain ⟨i, hi, hu2⟩ := List.getElem_of_mem hu
    have hil : i < rows.length := by have := ownsRow_len h.own; omega
    obtain ⟨A, c, h1, h2⟩ := h.row i hil
    have h3 : vals[i]? = some u := by rw [List.getElem?_eq_getElem hi, hu2]
    rw [h3] at h1; injection h1 with h1; subst h1
    rcases h2 with ⟨rfl, _⟩ | ⟨g, rfl, e2, e3, cur, e4, _⟩
    · simp [Value.ownBlock] at e
    · have e5 : g = X := by simpa [Value.ownBlock] using e
      subst e5
      rw [e4] at ho; injection ho with ho; subst ho; cases hc
theorem LstV.ltF {ts t : TypeId} {B X : Nat} {w : World} {v : Value} {rows : List (List Int)} {vals : List Value} (h : LstV ts t B w v rows vals) (hX : w.heap.size ≤ X ∨ X < B) : LFar v vals X := by
  refine ⟨fun e => ?_, fun u hu e => ?_⟩
  · rcases h.own.2 with ⟨h2, _⟩ | ⟨g, cap, cur, hv, hB, hh, _⟩
    · rw [h2] at e; simp [Value.ownBlock] at e
    · rw [hv] at e
      have e2 : g = X := by simpa [Value.ownBlock] using e
      have := (Array.getElem?_eq_some_iff.1 hh).1
      omega
  · obtain ⟨i, hi, hu2⟩ := List.getElem_of_mem hu
    have hil : i < rows.length := by have := ownsRow_len h.own; omega
    obtain ⟨A, c, h1, h2⟩ := h.row i hil
    have h3 : vals[i]? = some u := by rw [List.getElem?_eq_getElem hi, hu2]
    rw [h3] at h1; injection h1 with h1; subst h1
    rcases h2 with ⟨rfl, _⟩ | ⟨g, rfl, e2, e3, _⟩
    · simp [Value.ownBlock] at e
    · have e5 : g = X := by simpa [Value.ownBlock] using e
      omega
/-- What the loop over the orbits holds: the rows so far, in a box; and the number of letters. -/
structure NaI (w : World) (D bx kb base K : Nat) (rows : List (List Int)) (L : Nat) (U : Nat → Prop) (W : World) : Prop where
  below : Below w.heap.size w W
  ex : ∃ v vals, Blk W bx 22 [v] ∧ LstV 25 2 base W v rows vals ∧ LFar v vals L ∧ ∀ g, v.ownBlock = some g → ¬ U g ∧ (g < D ∨ D + 2 ≤ g)
  kk : Blk W kb 3 [.int .i64 K]
  nU : ¬ U bx
  nL : bx ≠ L
  nK : kb ≠ L
theorem NaI.step {w W W' : World} {D bx kb base K : Nat} {rows : List (List Int)} {L : Nat} {U U' : Nat → Prop} (h : NaI w D bx kb base K rows L U W) (hL : w.heap.size ≤ L) (hs : StepL L W W') (hu : ∀ b, U' b → U b ∨ W.heap.size ≤ b) : NaI w D bx kb base K rows L U' W' := by
  obtain ⟨v, vals, h1, h2, h3, h4⟩ := h.ex
  have hlt := h1.lt
  refine ⟨hs.below h.below h.below.size hL, ⟨v, vals, (hs.same _ hlt h.nL).trans h1, h2.skip h3 hs.size (fun b hb hn => hs.same b hb hn), h3, fun g hg => ⟨fun hg2 => ?_, (h4 g hg).2⟩⟩, (hs.same _ h.kk.lt h.nK).trans h.kk, fun h5 => ?_, h.nL, h.nK⟩
  · obtain ⟨_, cur, hc⟩ : base ≤ g ∧ ∃ cur, W.heap[g]? = some (.cells cur 25 (0, 0)) := by
      rcases h2.own.2 with ⟨h6, _⟩ | ⟨g2, cap, cur, hv, hB, hh, _⟩
      · rw [h6] at hg; simp [Value.ownBlock] at hg
      · rw [hv] at hg
        have e : g2 = g := by simpa [Value.ownBlock] using hg
        subst e
        exact ⟨hB, cur, hh⟩
    have := (Array.getElem?_eq_some_iff.1 hc).1
    rcases hu g hg2 with h5 | h5
    · exact (h4 g hg).1 h5
    · omega
  · rcases hu _ h5 with h6 | h6
    · exact h.nU h6
    · omega
theorem NaI.put {w W : World} {D bx kb base K : Nat} {rows : List (List Int)} {L b : Nat} {U : Nat → Prop} {o : Obj} (o' : Obj) (h : NaI w D bx kb base K rows L U W) (hb : w.heap.size ≤ b) (ho : W.heap[b]? = some o) (hc : o.isCells = false) : NaI w D bx kb base K rows L U (W.putObj b o') := by
  obtain ⟨v, vals, h1, h2, h3, h4⟩ := h.ex
  have hne : ∀ g cs ty, Blk W g ty cs → g ≠ b := fun g cs ty hg e => by
    subst e
    unfold Blk at hg
    rw [hg] at ho
    injection ho with ho
    subst ho
    cases hc
  refine ⟨h.below.grown (grownBy_putObj' W b o') h.below.size (fun k e => by cases e; exact hb), ⟨v, vals, (World.putObj_heap_other (hne _ _ _ h1)).trans h1, h2.skip (h2.cellsF ho hc) (by simp) (fun b2 _ hn => World.putObj_heap_other hn), h3, h4⟩, (World.putObj_heap_other (hne _ _ _ h.kk)).trans h.kk, h.nU, h.nL, h.nK⟩
/-- One row more is appended. -/
theorem nas_put {i2 : TypeInfo} (hi : Try.prog.info? 25 = some i2) (hz0 : i2.zero = some (.slice none 0 0)) (hz1 : i2.size = 1) (hz2 : i2.bytes = 24) {W W1 : World} {bx base : Nat} {vr : Value} {rows : List (List Int)} {vals : List Value} {A5 : Option Addr} {m c5 kl : Nat} {r : List Int}
    (hbx : Blk W bx 22 [vr]) (hr : LstV 25 2 base W vr rows vals) (hB : base ≤ W.heap.size) (hb : Below W.heap.size W W1) (hkl : rows.length = kl) (hk : kl ≤ 5000) (hn : ∀ g, vr.ownBlock = some g → g ≠ bx) (hm : r.length = m) (ho : Obj1 2 W.heap.size W1.heap.size W1 A5 r) :
    ∃ g9 c9 W2, (Builtin.append_ #[22, 22] 22 #[vr, .slice (some ⟨W1.heap.size, 0, none⟩) 1 1]).run Try.prog (W1.alloc (.cells #[.slice A5 m c5] 25)) = .ok (.slice (some ⟨g9, 0, none⟩) (kl + 1) c9) W2 ∧
      (W1.alloc (.cells #[.slice A5 m c5] 25)).grownBy W2 vr.ownBlock ∧ ((Value.slice (some ⟨g9, 0, none⟩) (kl + 1) c9).ownBlock = vr.ownBlock ∨ (Value.slice (some ⟨g9, 0, none⟩) (kl + 1) c9).ownBlock = some (W1.heap.size + 1)) ∧ LstV 25 2 base W2 (.slice (some ⟨g9, 0, none⟩) (kl + 1) c9) (rows ++ [r]) (vals ++ [.slice A5 r.length c5]) ∧ Blk W2 bx 22 [vr] := by
  subst hkl
  have hsz := hb.size
  have hr1 : (W1.alloc (.cells #[.slice A5 m c5] 25)).ownsRow base 25 1 vr rows.length vals := ownsRow_below (ownsRow_below hr.own hb) ((Below.refl _ _).alloc (Nat.le_refl _) _)
  obtain ⟨v', W2, hrun, hown, hgrow, _, hat⟩ := run_append_own_at (P := Try.prog) (W1.alloc (.cells #[.slice A5 m c5] 25)) base 22 22 25 i2 (.slice none 0 0) 1 24 Try.underlying22 hi hz0 hz1 hz2 rfl (by decide) vr rows.length vals hr1
    ⟨W1.heap.size, 0, none⟩ 1 1 [.slice A5 m c5] rfl (fun j u hj => by
      match j, hj with
      | 0, hj => simp at hj; subst hj; exact (Blk.new W1 25 [.slice A5 m c5]).cell 0 _ rfl) (fun u hu => by simp at hu; subst hu; rfl) (by unfold maxLen; omega) (by omega) (by simp; omega)
  obtain ⟨g9, c9, rfl, _, _⟩ := own_look hown (by omega)
  refine ⟨g9, c9, W2, hrun, hgrow, by simpa using hat, LstV.push (tmp := .cells #[.slice A5 m c5] 25) (by decide) hB hr hb ho (by rw [hm]; exact hown) hgrow, ?_⟩
  have h1 : Blk (W1.alloc (.cells #[.slice A5 m c5] 25)) bx 22 [vr] := (hbx.later hb).later ((Below.refl _ _).alloc (Nat.le_refl _) _)
  have hl := h1.lt
  exact (hgrow.block bx hl (fun e => hn bx e.symm rfl)).trans h1
theorem nas_fin {w W W1 W2 : World} {D bx kb base K L m c5 : Nat} {U : Nat → Prop} {vr v' : Value} {rows : List (List Int)} {vals : List Value} {A5 : Option Addr} {r : List Int} (hbw : Below w.heap.size w W) (hrow : LstV 25 2 base W vr rows vals) (hfl : LFar vr vals L) (hkk : Blk W kb 3 [.int .i64 K])
    (hfar : ∀ g, vr.ownBlock = some g → ¬ U g ∧ (g < D ∨ D + 2 ≤ g)) (hL : L < W.heap.size) (hU : ∀ b, U b → b < W.heap.size) (hnU : ¬ U bx) (hnL : bx ≠ L) (hnK : kb ≠ L) (hkx : kb ≠ bx) (hbase : w.heap.size ≤ base) (hbxw : w.heap.size ≤ bx) (hbxD : bx < D) (hkb : kb < base) (hD2 : D + 2 ≤ W.heap.size)
    (hb1 : Below W.drew.heap.size W.drew W1) (ho : Obj1 2 W.heap.size W1.heap.size W1 A5 r) (hgr : (W1.alloc (.cells #[.slice A5 m c5] 25)).grownBy W2 vr.ownBlock) (hat : v'.ownBlock = vr.ownBlock ∨ v'.ownBlock = some (W1.heap.size + 1)) (hl : LstV 25 2 base W2 v' (rows ++ [r]) (vals ++ [.slice A5 r.length c5])) (hx2 : Blk W2 bx 22 [vr])
    (hnot : ∀ g, vr.ownBlock = some g → g ≠ bx) (hnotv : ∀ u, u ∈ vals → u.ownBlock ≠ some bx) :
    KeepR D W (W2.setCell ⟨bx, 0, none⟩ v') ∧ KeepU U W (W2.setCell ⟨bx, 0, none⟩ v') ∧ NaI w D bx kb base K (rows ++ [r]) L U (W2.setCell ⟨bx, 0, none⟩ v') := by
  have hbb : Below W.heap.size W W1 := (Below.refl _ W).drew.trans hb1
  have hs1 := hbb.size
  have hs2 : W1.heap.size + 1 ≤ W2.heap.size := by have h := hgr.size; simpa using h
  have hsf : (W2.setCell ⟨bx, 0, none⟩ v').heap.size = W2.heap.size := by simp [World.setCell]
  have hbs := hbw.size
  have hg1 : ∀ g, vr.ownBlock = some g → base ≤ g ∧ g < W.heap.size := fun g hg => by
    rcases hrow.own.2 with ⟨h6, _⟩ | ⟨g2, cap, cur, hv, hB, hh, _⟩
    · rw [h6] at hg; simp [Value.ownBlock] at hg
    · rw [hv] at hg
      have e : g2 = g := by simpa [Value.ownBlock] using hg
      subst e
      exact ⟨hB, (Array.getElem?_eq_some_iff.1 hh).1⟩
  have hst : ∀ b, b < W.heap.size → b ≠ bx → (∀ g, vr.ownBlock = some g → g ≠ b) → (W2.setCell ⟨bx, 0, none⟩ v').heap[b]? = W.heap[b]? := fun b hb hn hg => by
    have h1 := Below.heap_setCell W2 ⟨bx, 0, none⟩ v' b hn
    have h2 := hgr.block b (by simp; omega) (fun e => hg b e.symm rfl)
    have h3 := hb_same ((Below.refl _ W1).alloc (Nat.le_refl _) (.cells #[.slice A5 m c5] 25)) (b := b) (by omega)
    exact h1.trans (h2.trans (h3.trans (hbb.block b hb)))
  have hbxl := hx2.lt
  have hro : ∀ g, (Value.slice A5 r.length c5).ownBlock = some g → W.heap.size ≤ g := fun g hg => by
    rcases ho with ⟨rfl, _⟩ | ⟨g2, rfl, h1, h2, _⟩
    · simp [Value.ownBlock] at hg
    · have e : g2 = g := by simpa [Value.ownBlock] using hg
      omega
  have hbxW : bx < W.heap.size := by omega
  have hfb : LFar v' (vals ++ [.slice A5 r.length c5]) bx := by
    refine ⟨fun e => ?_, fun u hu e => ?_⟩
    · rcases hat with h | h
      · rw [h] at e; exact hnot bx e rfl
      · rw [h] at e; injection e with e; omega
    · rcases List.mem_append.1 hu with h | h
      · exact hnotv u h e
      · have h9 : u = .slice A5 r.length c5 := by simpa using h
        subst h9
        have := hro _ e
        omega
  refine ⟨⟨by omega, fun b h1 h2 => hst b (by omega) (by omega) fun g hg e => ?_⟩, ⟨by omega, fun b h1 h2 => hst b h1 (fun e => hnU (e ▸ h2)) fun g hg e => (hfar g hg).1 (e ▸ h2)⟩, ?_, ⟨v', _, hx2.set 0 _, hl.skip hfb (by omega) (fun b hb hn => Below.heap_setCell W2 ⟨bx, 0, none⟩ v' b hn), ?_, fun g hg => ?_⟩, (hst kb hkk.lt hkx (fun g hg e => by have := (hg1 g hg).1; omega)).trans hkk, hnU, hnL, hnK⟩
  · have := (hfar g hg).2; omega
  · refine Below.setCell ?_ (by simpa using hbxw) _
    refine Below.grown ?_ hgr (by simp; omega) (fun g hg => by have := (hg1 g hg).1; omega)
    exact (hbw.trans (hbb.mono hbs)).alloc (by omega) _
  · refine ⟨fun e => ?_, fun u hu e => ?_⟩
    · rcases hat with h | h
      · rw [h] at e; exact hfl.1 e
      · rw [h] at e; injection e with e; omega
    · rcases List.mem_append.1 hu with h | h
      · exact hfl.2 u h e
      · have h9 : u = .slice A5 r.length c5 := by simpa using h
        subst h9
        have := hro _ e
        omega
  · rcases hat with h | h
    · exact hfar g (h ▸ hg)
    · rw [hg] at h
      injection h with h
      subst h
      exact ⟨fun h4 => by have := hU _ h4; omega, .inr (by omega)⟩
theorem orbC_any (A B C : Option Addr) (n c n2 d N cg : Nat) (K : Int) (w : World) :
    Calls Try.prog 33 #[.agg #[.slice A n c, .slice B n2 d], .slice C N cg, .int .i64 K] w fun e w' => e = .returned (.func (.func 47) #[] #[.pointer (some ⟨w.heap.size + 1, 0, none⟩), .pointer (some ⟨w.heap.size, 0, none⟩), .pointer (some ⟨w.heap.size + 2, 0, none⟩)]) ∧ w' = ((w.alloc (.cells #[.slice A n c, .slice B n2 d] 29)).alloc (.cells #[.slice C N cg] 44)).alloc (.cells #[.int .i64 K] 3) := by
  go_enter Try.func33, Try.ntmps33
  go_wp2_with fail
  go_ret
  exact ⟨rfl, rfl⟩
end Go.Proofs.Ythnkhljgealjdaa
namespace Go.Proofs.Ythnkhljgealjdaa
open Go Go.RowKit
open Classical
set_option maxHeartbeats 4000000
set_option maxRecDepth 100000 in
theorem own0q_any (ad : Addr) (c : Nat) (w : World) :
    Calls Try.prog 38 #[.slice (some ad) 0 c] w fun e w' => ∃ g, e = .returned (.slice (some ⟨g, 0, none⟩) 0 0) ∧ Below w.heap.size w w' ∧ w.heap.size ≤ g ∧ w'.ownsRow w.heap.size 2 1 (.slice (some ⟨g, 0, none⟩) 0 0) 0 [] := by
  obtain ⟨i0, hi, hz0, hz1, hz2⟩ := info_parts clInfo
  go_enter Try.func38, Try.ntmps38
  go_wp2_with (at_builtin; refine wpList_append_fits_any _ rfl _ _ 25 rfl w.heap.size 2 i0 1 Try.underlying25 hi hz1 w.heap.size 0 0 [] rfl (ne_empty w 2) (some ad) 0 c [] rfl rfl (fun h => by cases h) (fun _ _ j u hu => by simp at hu) (fun u hu => by simp at hu) (Nat.le_refl _) ?_)
  intro w1 hown' hgrow
  have HO' := hide hown'
  have HB : Hid (Below w.heap.size w w1) := hide (((Below.refl _ _).alloc (Nat.le_refl _) _).grown hgrow (by simp) (fun g hg => by cases hg; exact Nat.le_refl _))
  clear hown' hgrow
  go_wp2_with fail
  go_ret
  exact ⟨_, rfl, HB.out, Nat.le_refl _, HO'.out⟩
set_option maxRecDepth 100000 in
theorem class0q_any (A : Option Addr) (n c : Nat) (f : List (List Int)) (B : Option Addr) (d : Nat) (s0 : List (List Int)) (ad : Addr) (e : Nat) (most : Nat) (w : World) (hz : ZArg 1048576 w A n f B n s0) (hs : SolF f s0) (hl1 : 1 ≤ most) (hl : most ≤ 5000) :
    Calls Try.prog 27 #[.agg #[.slice A n c, .slice B n d], .slice (some ad) 0 e, .int .i64 most] w fun e w' => ∃ v vals, e = .returned (.tuple #[v, .bool true]) ∧ Below w.heap.size w w' ∧ LstV 25 2 w.heap.size w' v [[]] vals ∧ CapsV vals := by
  have HZ := hide hz
  have HP : Hid (PMap f s0) := hide hs.1
  have HNC : Hid (NoCol f s0 n) := hide (by have h := hs.2.1; rw [hz.sz.fl] at h; exact h)
  have HB0 := hide ((Below.refl _ w).alloc (Nat.le_refl _) (Obj.cells #[Value.slice A n c, Value.slice B n d] 29))
  have HK0 := hide (Blk.new w 29 [.slice A n c, .slice B n d])
  clear hz hs
  go_enter Try.func27, Try.ntmps27
  have k0 := HK0.out.cell 0 _ rfl
  have k1 := HK0.out.cell 1 _ rfl
  go_wp2_with fail
  clear k0 k1
  refine (bkS_any A n c f B n d s0 _ (HZ.out.later HB0.out) HP.out HNC.out).mono ?_
  rintro e w1 ⟨A1, c1, B1, d1, rfl, hb1, hobj⟩
  have HB1 := hide (HB0.out.trans (hb1.mono HB0.out.size))
  clear hb1 hobj HNC
  go_upto_region 2 with fail
  refine wp_gen fun w2 hw2 => ?_
  have HB2 : Hid (Below w.heap.size w w2) := hide (by rw [hw2]; exact HB1.out.alloc HB1.out.size _)
  have hs2 := HB2.out.size
  clear hw2 HB1
  go_wp2_with fail
  refine (own0q_any ad e _).mono ?_
  rintro e w3 ⟨g3, rfl, hb3, hg3, ho3⟩
  have HB3 := hide (HB2.out.trans (hb3.mono hs2))
  have hs3 : w.heap.size ≤ w3.heap.size := HB3.out.size
  clear hb3 ho3 HB2
  go_wp2_with fail
  refine calls_gen fun w4 hw4 => ?_
  have HB4 : Hid (Below w.heap.size w w4) := hide (by rw [hw4]; exact HB3.out.alloc HB3.out.size _)
  have hs4 : w.heap.size ≤ w4.heap.size := HB4.out.size
  clear hw4 HB3
  refine (own0q_any ad e _).mono ?_
  rintro e w5 ⟨g5, rfl, hb5, hg5, ho5⟩
  have HB5 := hide (HB4.out.trans (hb5.mono hs4))
  have hs5 : w.heap.size ≤ w5.heap.size := HB5.out.size
  clear hb5 ho5 HB4
  go_upto_region 3 with fail
  refine wp_gen fun w6 hw6 => ?_
  have HB6 : Hid (Below w.heap.size w w6) := hide (by rw [hw6]; exact HB5.out.alloc HB5.out.size _)
  have HR6 : Hid (Blk w6 w5.heap.size 25 [.slice (some ⟨g5, 0, none⟩) 0 0]) := hide (by rw [hw6]; exact Blk.new _ _ _)
  have hs6 : w.heap.size ≤ w6.heap.size := HB6.out.size
  obtain ⟨b6, hb6e⟩ : ∃ b6, w5.heap.size = b6 := ⟨_, rfl⟩
  rw [hb6e] at HR6 ⊢
  clear hw6 HB5 hb6e
  go_wp2_with fail
  obtain ⟨b3, hb3e⟩ : ∃ b3, w3.heap.size = b3 := ⟨_, rfl⟩
  rw [hb3e]
  clear hb3e
  go_loopw [9, 10, 11] (fun v s i wi => ∃ j : Nat, j ≤ 1 ∧ i = .int .i64 j ∧ v = .slice (some ⟨b3, 0, none⟩) 1 1 ∧ s = .slice (some ⟨b6, 0, none⟩) 1 1 ∧ wi = w6) (fun _ _ i _ => 1 - (intOf i).toNat)
  case atStart => exact ⟨0, by omega, rfl, rfl, rfl, rfl⟩
  case round =>
    obtain ⟨j, hj, rfl, rfl, rfl, rfl⟩ := hrel
    by_cases h0 : j = 0
    · subst h0
      have hjz : ((0 : Nat) : Int) < 1 := by omega
      have hmz : ¬ (1 : Int) < 0 := by omega
      have hmo : ¬ (most : Int) < 1 := by omega
      go_wp2_with fail
      obtain ⟨wo, hwo⟩ : ∃ wo : World, wo = wr := ⟨_, rfl⟩
      go_loopw [9, 10, 12] (fun v s i wi => i = .int .i64 0 ∧ v = .slice (some ⟨b3, 0, none⟩) 1 1 ∧ s = .slice (some ⟨b6, 0, none⟩) 1 1 ∧ wi = wo) (fun _ _ _ _ => 0)
      case atStart => exact ⟨rfl, rfl, rfl, hwo.symm⟩
      case round =>
        obtain ⟨rfl, rfl, rfl, rfl⟩ := hrel
        go_wp2_with fail
        go_roundw
        case rel => exact ⟨1, by omega, by go_num, rfl, rfl, by first | exact hwo | trivial⟩
        case measure => simp [intOf]
    · have h1 : j = 1 := by omega
      subst h1
      go_wp2_with fail
      refine (own20c_any b6 0 1 _ _ HR6.out.lt (HR6.out.cell 0 _ rfl)).mono ?_
      rintro e w7 ⟨v7, vals7, rfl, hb7, hl7, hcv7⟩
      have HB7 := hide (HB6.out.trans (hb7.mono hs6))
      have HL7 := hide (hl7.monoB hs6)
      clear hb7 hl7
      go_wp2_with fail
      go_ret2
      exact ⟨_, _, rfl, HB7.out, HL7.out, hcv7⟩
theorem classQ_any (A : Option Addr) (n c : Nat) (f : List (List Int)) (B : Option Addr) (d : Nat) (s : List (List Int)) (ad : Addr) (m e : Nat) (x : List Int) (most : Nat) (w : World) (hz : ZArg 1048576 w A n f B n s) (hs : SolF f s) (ht : Tup n x) (hm : x.length = m) (hr : Rd w (some ad) x) (hl1 : 1 ≤ most) (hl : most ≤ 5000) :
    Calls Try.prog 27 #[.agg #[.slice A n c, .slice B n d], .slice (some ad) m e, .int .i64 most] w fun e w' => (∃ L v vals, Cls (leH f) (leH s) x L ∧ Asc L ∧ L.length ≤ most ∧ e = .returned (.tuple #[v, .bool true]) ∧ Below w.heap.size w w' ∧ LstV 25 2 w.heap.size w' v L vals ∧ CapsV vals) ∨ (¬ FewT (leH f) (leH s) x most ∧ e = .returned (.tuple #[.slice none 0 0, .bool false]) ∧ Below w.heap.size w w') := by
  by_cases h0 : m = 0
  · subst h0
    have hx : x = [] := List.eq_nil_of_length_eq_zero hm
    subst hx
    refine (class0q_any A n c f B d s ad e most w hz hs hl1 hl).mono ?_
    rintro e w2 ⟨v, vals, h1, h2, h3, h4⟩
    exact .inl ⟨[[]], v, vals, cls0 _ _, Asc.one _, by simpa using hl1, h1, h2, h3, h4⟩
  · exact class1c_any A n c f B d s (some ad) m e x most w hz hs ht hm (by omega) hr hl1 hl
set_option maxRecDepth 100000 in
theorem cowQ_any (A : Option Addr) (n c : Nat) (f : List (List Int)) (B : Option Addr) (k d : Nat) (s : List (List Int)) (ad : Addr) (m e : Nat) (xs : List Int) (zs : List (List Int)) (code : Int) (w : World) (hz : ZArg 1048576 w A n f B k s) (hm : xs.length = m) (hb : m ≤ 1048576) (hr : Rd w (some ad) xs) (hres : CowR f s xs zs code) :
    Calls Try.prog 17 #[.agg #[.slice A n c, .slice B k d], .slice (some ad) m e] w fun e w' => ∃ v vals, e = .returned (.tuple #[v, .int .i64 code]) ∧ Below w.heap.size w w' ∧ LstV 25 2 w.heap.size w' v zs vals ∧ CapsV vals := by
  have HZ := hide hz
  have HM := hide hm
  have HR := hide hr
  have HB0 := hide ((Below.refl _ w).alloc (Nat.le_refl _) (Obj.cells #[Value.slice A n c, Value.slice B k d] 29))
  have HK0 := hide (Blk.new w 29 [.slice A n c, .slice B k d])
  obtain ⟨wc, hwc⟩ : ∃ wc, WdC f s [xs] wc := WdC.ex f s [xs]
  have HWC := hide hwc
  have HWC2 : Hid (WdC f s [xs, xs] wc) := hide (hwc.congr (by rw [wrds1, wrds2]; exact ⟨fun h => ⟨h, h⟩, fun h => h.1⟩))
  have HRES := hide hres
  have d0 : ¬ wc = 0 → (wc != 0) = true := fun h => by simpa using h
  clear hz hm hr hwc hres
  go_enter Try.func17, Try.ntmps17
  have k0 := HK0.out.cell 0 _ rfl
  have k1 := HK0.out.cell 1 _ rfl
  go_wp2_with fail
  clear k0 k1
  refine (codeS_any A B (some ad) (some ad) n c k d m _ m _ f s xs xs wc _ (HZ.out.later HB0.out) HM.out hb (HR.out.later HB0.out) HM.out hb (HR.out.later HB0.out) HWC2.out).mono ?_
  rintro e w2 ⟨rfl, hb2⟩
  have HB2 := hide (HB0.out.trans (hb2.mono HB0.out.size))
  have HK2 := hide (HK0.out.later hb2)
  clear hb2
  by_cases hc0 : wc = 0
  · subst hc0
    obtain ⟨hs, hw⟩ := HWC.out.zero rfl
    obtain rfl := (HZ.out.same hs.1).symm
    have hn := HZ.out.sz.fl
    have hw1 := wrds1.1 hw
    rw [hn] at hw1
    have HW := hide hw1
    have HS := hide hs
    have HOR : Hid (OrbR f s xs 1000 zs code) := hide (by
      rcases HRES.out with ⟨_, h⟩ | ⟨h1, h2, _⟩
      · exact h
      · exact absurd (h1.uniq HWC.out) h2)
    clear hs hw hw1 hn d0
    have k0 := HK2.out.cell 0 _ rfl
    have k1 := HK2.out.cell 1 _ rfl
    go_wp2_with fail
    refine (classQ_any A n c f B d s ad m _ xs 1000 _ (HZ.out.later HB2.out) HS.out HW.out.tup HM.out (HR.out.later HB2.out) (by omega) (by omega)).mono ?_
    have hs2 := HB2.out.size
    rintro e w3 (⟨L, v, vals, hcl, ha, hll, rfl, hb3, hl3, hcv⟩ | ⟨hf, rfl, hb3⟩)
    · have HB3 := hide (HB2.out.trans (hb3.mono hs2))
      have hz1 : L = zs ∧ code = 0 := by
        rcases HOR.out with ⟨h1, h2, _, h3⟩ | ⟨h1, _⟩
        · exact ⟨hcl.ascEq h1 ha h2, h3⟩
        · exact absurd ⟨L, hcl, hll⟩ h1
      obtain ⟨rfl, rfl⟩ := hz1
      have HL3 := hide (hl3.monoB hs2)
      clear hb3 hcl ha hll hl3 k0 k1
      go_wp2_with fail
      go_ret2
      exact ⟨_, _, rfl, HB3.out, HL3.out, hcv⟩
    · have hz1 : zs = [] ∧ code = 3 := by
        rcases HOR.out with ⟨h1, _, h2, _⟩ | ⟨_, h1⟩
        · exact absurd ⟨zs, h1, h2⟩ hf
        · exact h1
      obtain ⟨rfl, rfl⟩ := hz1
      have HB3 := hide (HB2.out.trans (hb3.mono hs2))
      clear hb3 hf k0 k1
      go_wp2_with fail
      go_ret2
      exact ⟨_, [], rfl, HB3.out, LstV.nil _ _ _ _, CapsV.nil⟩
  · have hz1 : zs = [] ∧ code = wc := by
      rcases HRES.out with ⟨h1, _⟩ | ⟨h1, _, h3⟩
      · exact absurd (HWC.out.uniq h1) hc0
      · exact ⟨h3, h1.uniq HWC.out⟩
    obtain ⟨rfl, rfl⟩ := hz1
    have hcb := d0 hc0
    clear d0
    go_wp2_with fail
    go_ret2
    exact ⟨_, [], rfl, HB2.out, LstV.nil _ _ _ _, CapsV.nil⟩
set_option maxRecDepth 100000 in
theorem cowC_any (A : Option Addr) (n c : Nat) (f : List (List Int)) (B : Option Addr) (k d : Nat) (s : List (List Int)) (C : Option Addr) (m e : Nat) (xs : List Int) (zs : List (List Int)) (code : Int) (w : World) (hz : ZArg 1048576 w A n f B k s) (hm : xs.length = m) (hb : m ≤ 1048576) (he : m = 0 → e = 0) (hr : Rd w C xs) (hres : CowR f s xs zs code) :
    Calls Try.prog 17 #[.agg #[.slice A n c, .slice B k d], .slice C m e] w fun e w' => ∃ v vals, e = .returned (.tuple #[v, .int .i64 code]) ∧ Below w.heap.size w w' ∧ LstV 25 2 w.heap.size w' v zs vals ∧ CapsV vals := by
  have HZ := hide hz
  have HM := hide hm
  have HR := hide hr
  have HE := hide he
  have HB0 := hide ((Below.refl _ w).alloc (Nat.le_refl _) (Obj.cells #[Value.slice A n c, Value.slice B k d] 29))
  have HK0 := hide (Blk.new w 29 [.slice A n c, .slice B k d])
  obtain ⟨wc, hwc⟩ : ∃ wc, WdC f s [xs] wc := WdC.ex f s [xs]
  have HWC := hide hwc
  have HWC2 : Hid (WdC f s [xs, xs] wc) := hide (hwc.congr (by rw [wrds1, wrds2]; exact ⟨fun h => ⟨h, h⟩, fun h => h.1⟩))
  have HRES := hide hres
  have d0 : ¬ wc = 0 → (wc != 0) = true := fun h => by simpa using h
  clear hz hm hr he hwc hres
  go_enter Try.func17, Try.ntmps17
  have k0 := HK0.out.cell 0 _ rfl
  have k1 := HK0.out.cell 1 _ rfl
  go_wp2_with fail
  clear k0 k1
  refine (codeS_any A B C C n c k d m _ m _ f s xs xs wc _ (HZ.out.later HB0.out) HM.out hb (HR.out.later HB0.out) HM.out hb (HR.out.later HB0.out) HWC2.out).mono ?_
  rintro e w2 ⟨rfl, hb2⟩
  have HB2 := hide (HB0.out.trans (hb2.mono HB0.out.size))
  have HK2 := hide (HK0.out.later hb2)
  clear hb2
  by_cases hc0 : wc = 0
  · subst hc0
    obtain ⟨hs, hw⟩ := HWC.out.zero rfl
    obtain rfl := (HZ.out.same hs.1).symm
    have hn := HZ.out.sz.fl
    have hw1 := wrds1.1 hw
    rw [hn] at hw1
    have HW := hide hw1
    have HS := hide hs
    have HOR : Hid (OrbR f s xs 1000 zs code) := hide (by
      rcases HRES.out with ⟨_, h⟩ | ⟨h1, h2, _⟩
      · exact h
      · exact absurd (h1.uniq HWC.out) h2)
    clear hs hw hw1 hn d0
    have k0 := HK2.out.cell 0 _ rfl
    have k1 := HK2.out.cell 1 _ rfl
    go_wp2_with fail
    refine (classC_any A n c f B d s C m _ xs 1000 _ (HZ.out.later HB2.out) HS.out HW.out.tup HM.out HE.out (HR.out.later HB2.out) (by omega) (by omega)).mono ?_
    have hs2 := HB2.out.size
    rintro e w3 (⟨L, v, vals, hcl, ha, hll, rfl, hb3, hl3, hcv⟩ | ⟨hf, rfl, hb3⟩)
    · have HB3 := hide (HB2.out.trans (hb3.mono hs2))
      have hz1 : L = zs ∧ code = 0 := by
        rcases HOR.out with ⟨h1, h2, _, h3⟩ | ⟨h1, _⟩
        · exact ⟨hcl.ascEq h1 ha h2, h3⟩
        · exact absurd ⟨L, hcl, hll⟩ h1
      obtain ⟨rfl, rfl⟩ := hz1
      have HL3 := hide (hl3.monoB hs2)
      clear hb3 hcl ha hll hl3 k0 k1
      go_wp2_with fail
      go_ret2
      exact ⟨_, _, rfl, HB3.out, HL3.out, hcv⟩
    · have hz1 : zs = [] ∧ code = 3 := by
        rcases HOR.out with ⟨h1, _, h2, _⟩ | ⟨_, h1⟩
        · exact absurd ⟨zs, h1, h2⟩ hf
        · exact h1
      obtain ⟨rfl, rfl⟩ := hz1
      have HB3 := hide (HB2.out.trans (hb3.mono hs2))
      clear hb3 hf k0 k1
      go_wp2_with fail
      go_ret2
      exact ⟨_, [], rfl, HB3.out, LstV.nil _ _ _ _, CapsV.nil⟩
  · have hz1 : zs = [] ∧ code = wc := by
      rcases HRES.out with ⟨h1, _⟩ | ⟨h1, _, h3⟩
      · exact absurd (HWC.out.uniq h1) hc0
      · exact ⟨h3, h1.uniq HWC.out⟩
    obtain ⟨rfl, rfl⟩ := hz1
    have hcb := d0 hc0
    clear d0
    go_wp2_with fail
    go_ret2
    exact ⟨_, [], rfl, HB2.out, LstV.nil _ _ _ _, CapsV.nil⟩
set_option maxRecDepth 100000 in
theorem nwQ_any (A : Option Addr) (n c : Nat) (f : List (List Int)) (B : Option Addr) (k d : Nat) (s : List (List Int)) (ad : Addr) (m e : Nat) (xs zs : List Int) (code : Int) (kz : Nat) (w : World) (hz : ZArg 1048576 w A n f B k s) (hm : xs.length = m) (hb : m ≤ 1048576) (hr : Rd w (some ad) xs) (hres : NwR f s xs zs code) (hkz : zs.length = kz) :
    Calls Try.prog 18 #[.agg #[.slice A n c, .slice B k d], .slice (some ad) m e] w (RPost 2 kz zs code w) := by
  have HZ := hide hz
  have HM := hide hm
  have HR := hide hr
  have HKZ := hide hkz
  obtain ⟨L, hL, hzL⟩ := hres
  have HC := hide hL
  have HZL := hide hzL
  have HB0 := hide ((Below.refl _ w).alloc (Nat.le_refl _) (Obj.cells #[Value.slice A n c, Value.slice B k d] 29))
  have HK0 := hide (Blk.new w 29 [.slice A n c, .slice B k d])
  have d0 : ¬ code = 0 → (code != 0) = true := fun h => by simpa using h
  clear hz hm hr hkz hL hzL
  go_enter Try.func18, Try.ntmps18
  have k0 := HK0.out.cell 0 _ rfl
  have k1 := HK0.out.cell 1 _ rfl
  go_wp2_with fail
  clear k0 k1
  refine (cowQ_any A n c f B k d s ad m e xs L code _ (HZ.out.later HB0.out) HM.out hb (HR.out.later HB0.out) HC.out).mono ?_
  rintro e w1 ⟨v1, vals1, rfl, hb1, hl1, _⟩
  obtain ⟨A1, c1, hv1, hobj⟩ := hl1.shape
  subst hv1
  have HB1 := hide (HB0.out.trans (hb1.mono HB0.out.size))
  have HO1 := hide (hobj.mono (lo' := w.heap.size) HB0.out.size (Nat.le_refl _))
  clear hb1 hobj hl1
  by_cases hc0 : code = 0
  · subst hc0
    obtain ⟨_, hcl, _, _⟩ := HC.out.zero
    obtain ⟨g, R, CC, rfl, hcell, hrow⟩ := HO1.out.first hcl.pos
    rw [← HZL.out, HKZ.out] at hcell
    rw [← HZL.out] at hrow
    have HRO := hide hrow
    clear hcl hrow d0
    have hlp : (0 : Int) < L.length := by have h := HC.out.zero.2.1.pos; omega
    obtain ⟨ll, hll⟩ : ∃ ll, L.length = ll := ⟨_, rfl⟩
    rw [hll] at hlp ⊢
    go_wp2_with fail
    go_ret2
    exact ⟨_, _, rfl, HB1.out, HRO.out.res (Nat.le_refl _)⟩
  · have hz1 : zs = [] := by rw [HZL.out, HC.out.none hc0]; rfl
    subst hz1
    obtain rfl : kz = 0 := by simpa using HKZ.out.symm
    have hcb := d0 hc0
    clear d0
    go_wp2_with fail
    go_ret2
    exact ⟨_, _, rfl, HB1.out, .inl ⟨rfl, rfl⟩⟩
end Go.Proofs.Ythnkhljgealjdaa
