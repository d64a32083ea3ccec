import Derived.Test.YtgmloaemnbnbgaaZbu
import Derived.WalkSpells
import Derived.Test.YtgmloaemnbnbgaaZn
import Derived.Test.YtgmloaemnbnbgaaZbr
import Derived.Test.YtgmloaemnbnbgaaZe
import Derived.Test.YtgmloaemnbnbgaaZc
import Derived.Maps.AppendAt
import Derived.Deep.Cut
import Derived.Deep.RegionHeld3
import Derived.Deep.DeepCutAuto
namespace Go.Proofs.Ytgmloaemnbnbgaa
open Go Go.RowKit
set_option maxHeartbeats 2000000

set_option maxRecDepth 100000 in
theorem isRackI (A : Option Addr) (n c : Nat) (f : List (List Int)) (r : Bool) (w : World) (hn : f.length = n) (hb : n ≤ 1048576) (hbs : ∀ i, i < f.length → (f.getD i []).length ≤ 1048576) (hr : Rd2 w A f) (hres : RkRes f r) :
    Calls Try.prog 72 #[.agg #[.slice A n c]] w fun e w' => e = .returned (.bool r) ∧ Below w.heap.size w w' := by
  have HN := hide hn
  have HBS := hide hbs
  have HRD := hide hr
  have HR := hide hres
  have hnil : ∀ (u : World) (a : Option Addr) (n c : Nat), (binOp .eql 26 (.slice a n c) (.slice none 0 0)).run Try.prog u = .ok (.bool a.isNone) u := fun u a n c => Lib.run_eql_slice_nil u 26 _ a n c 0 0 Try.underlying26
  have HB0 := hide ((Below.refl _ w).alloc (Nat.le_refl _) (Obj.cells #[Value.slice A n c] 49))
  have HK0 := hide (Blk.new w 49 [.slice A n c])
  by_cases ht : Tbl f
  · have HTB := hide ht
    have hTm : ∃ T, FirstK f n T := FirstK.ex f n
    by_cases hp : AllPrm f
    · have HP := hide hp
      obtain ⟨T, hT⟩ := hTm
      have HT := hide hT
      have hiff : r = true ↔ T = n * n * n := by
        have hrr : r = true ↔ Rck f := HR.out
        rw [hrr, hT.iff, ← hn]
        exact ⟨fun h => h.2, fun h => ⟨⟨ht, hp⟩, h⟩⟩
      have HI := hide hiff
      clear hn hbs hr hres ht hp hT hiff
      go_enter Try.func72, Try.ntmps72
      go_wp2_with fail
      refine (isTable_any _ _ _ f true _ HN.out (by omega) (fun i hi => by have := HBS.out i hi; omega) (HRD.out.later HB0.out) (by simp [HTB.out])).mono ?_
      rintro e w1 ⟨rfl, hq1⟩
      have HB1 := hide (HB0.out.trans (hq1.below _))
      have HK1 := hide (HK0.out.later (hq1.below _))
      clear hq1
      have k0 := HK1.out.cell 0 _ rfl
      go_wp2_with fail
      clear k0
      refine (rowsI_any _ _ _ f true _ HN.out hb HBS.out (HRD.out.later HB1.out) ⟨fun _ => HP.out, fun _ => rfl⟩).mono ?_
      rintro e w2 ⟨rfl, hb2⟩
      have HB2 := hide (HB1.out.trans (hb2.mono HB1.out.size))
      have HK2 := hide (HK1.out.later hb2)
      clear hb2
      have k0 := HK2.out.cell 0 _ rfl
      go_wp2_with fail
      clear k0
      refine (kfault_any _ _ _ f T _ HN.out HTB.out (HRD.out.later HB2.out) HT.out).mono ?_
      rintro e w3 (⟨hTe, rfl, hb3⟩ | ⟨hTl, g, rfl, hb3, hg, hob⟩)
      · have hrt : r = true := HI.out.2 hTe
        subst hrt
        have HB3 := hide (HB2.out.trans (hb3.mono HB2.out.size))
        clear hb3 hTe
        go_wp2_with fail
        go_ret
        exact ⟨rfl, HB3.out⟩
      · have hrf : r = false := by
          cases r
          · rfl
          · have := HI.out.1 rfl; omega
        subst hrf
        have HB3 := hide (HB2.out.trans (hb3.mono HB2.out.size))
        clear hb3 hTl hob
        go_wp2_with fail
        go_ret
        exact ⟨rfl, HB3.out⟩
    · have hrf : r = false := by
        cases r
        · rfl
        · exact absurd (HR.out.1 rfl).prm hp
      subst hrf
      have HP := hide hp
      clear hn hbs hr hres ht hp
      go_enter Try.func72, Try.ntmps72
      go_wp2_with fail
      refine (isTable_any _ _ _ f true _ HN.out (by omega) (fun i hi => by have := HBS.out i hi; omega) (HRD.out.later HB0.out) (by simp [HTB.out])).mono ?_
      rintro e w1 ⟨rfl, hq1⟩
      have HB1 := hide (HB0.out.trans (hq1.below _))
      have HK1 := hide (HK0.out.later (hq1.below _))
      clear hq1
      have k0 := HK1.out.cell 0 _ rfl
      go_wp2_with fail
      clear k0
      refine (rowsI_any _ _ _ f false _ HN.out hb HBS.out (HRD.out.later HB1.out) ⟨fun h => (by cases h), fun h => absurd h HP.out⟩).mono ?_
      rintro e w2 ⟨rfl, hb2⟩
      have HB2 := hide (HB1.out.trans (hb2.mono HB1.out.size))
      clear hb2
      go_wp2_with fail
      go_ret
      exact ⟨rfl, HB2.out⟩
  · have hrf : r = false := by
      cases r
      · rfl
      · exact absurd (HR.out.1 rfl).tbl ht
    subst hrf
    have HTB := hide ht
    clear hn hbs hr hres ht
    go_enter Try.func72, Try.ntmps72
    go_wp2_with fail
    refine (isTable_any _ _ _ f false _ HN.out (by omega) (fun i hi => by have := HBS.out i hi; omega) (HRD.out.later HB0.out) (by simp [HTB.out])).mono ?_
    rintro e w1 ⟨rfl, hq1⟩
    have HB1 := hide (HB0.out.trans (hq1.below _))
    clear hq1
    go_wp2_with fail
    go_ret
    exact ⟨rfl, HB1.out⟩
end Go.Proofs.Ytgmloaemnbnbgaa
namespace Go.Proofs.Ytgmloaemnbnbgaa
open Go Go.RowKit
open Classical
set_option maxHeartbeats 4000000
theorem Qs.start {ts t : TypeId} {B : Nat} {w : World} {A : Option Addr} {c : Nat} {r : List Int} (hA : Obj1 t B w.heap.size w A r) (hB : B ≤ w.heap.size) :
    Qs ts t B ((w.alloc (.cells #[.slice A r.length c] ts)).alloc (.cells #[.slice A r.length c] ts)) (.slice (some ⟨w.heap.size, 0, none⟩) 1 1) (.slice (some ⟨w.heap.size + 1, 0, none⟩) 1 1) [r] [r] [.slice A r.length c] [.slice A r.length c] := by
  have h1 : Below w.heap.size w (w.alloc (.cells #[.slice A r.length c] ts)) := (Below.refl _ _).alloc (Nat.le_refl _) _
  have h2 : Below (w.alloc (.cells #[.slice A r.length c] ts)).heap.size (w.alloc (.cells #[.slice A r.length c] ts)) ((w.alloc (.cells #[.slice A r.length c] ts)).alloc (.cells #[.slice A r.length c] ts)) := (Below.refl _ _).alloc (Nat.le_refl _) _
  refine ⟨(LstV.single hA hB).later h2, ⟨rfl, .inr ⟨w.heap.size + 1, 1, #[.slice A r.length c], rfl, by omega, ?_, Nat.le_refl _, by unfold maxLen; omega, by simp, by simp⟩⟩, ⟨rfl, fun i hi => ?_⟩, fun g hg e => ?_⟩
  · have h := heap_alloc_new (w.alloc (.cells #[.slice A r.length c] ts)) (.cells #[.slice A r.length c] ts)
    simpa using h
  · simp at hi
    subst hi
    exact ⟨A, c, rfl, ((hA.later h1).later h2).mono (Nat.le_refl _) (by simp; omega)⟩
  · simp [Value.ownBlock] at hg e
    omega
theorem addr_add (g o j : Nat) : (⟨g, o, none⟩ : Addr).add j = ⟨g, o + j, none⟩ := by simp [Addr.add]
theorem own_low {ts : TypeId} {B B' n : Nat} {w : World} {v : Value} {xs : List Value} (h : w.ownsRow B ts 1 v n xs) (hB : B' ≤ B) : w.ownsRow B' ts 1 v n xs := by
  refine ⟨h.1, ?_⟩
  rcases h.2 with h3 | ⟨g, cap, cur, hv, hg, rest⟩
  · exact .inl h3
  · exact .inr ⟨g, cap, cur, hv, Nat.le_trans hB hg, rest⟩
theorem own_look {ts : TypeId} {B n : Nat} {w : World} {v : Value} {xs : List Value} (h : w.ownsRow B ts 1 v n xs) (h0 : 0 < n) : ∃ g c, v = .slice (some ⟨g, 0, none⟩) n c ∧ g < w.heap.size ∧ ∀ i u, xs[i]? = some u → w.cell? ⟨g, i, none⟩ = some u := by
  rcases h.2 with ⟨_, h2⟩ | ⟨g, cap, cur, hv, hg, hh, h1, h2, h3, h4⟩
  · omega
  · refine ⟨g, cap, hv, (Array.getElem?_eq_some_iff.1 hh).1, fun i u hu => ?_⟩
    rw [cell_of_row w g i cur ts (0, 0) hh]
    rw [← h4, List.getElem?_take] at hu
    by_cases e : i < n * 1
    · rw [if_pos e] at hu; simpa using hu
    · rw [if_neg e] at hu; cases hu
theorem own_self {ts : TypeId} {B n : Nat} {w : World} {v : Value} {xs : List Value} (h : w.ownsRow B ts 1 v n xs) : w.ownsRow B ts 1 v xs.length xs := by
  have e : xs.length = n := by have := h.1; omega
  rw [e]; exact h
theorem RowsV.one {t : TypeId} {B : Nat} {w : World} {rows : List (List Int)} {vals : List Value} (h : RowsV t B w rows vals) : ∀ u ∈ vals, u.oneCell' = true := by
  intro u hu
  obtain ⟨i, hi, e⟩ := List.getElem_of_mem hu
  obtain ⟨A, c, h1, _⟩ := h.2 i (by rw [← h.1]; exact hi)
  rw [List.getElem?_eq_getElem hi, e] at h1
  injection h1 with h1
  rw [h1]; rfl
/-- How the search stands, or that it has found too many. -/
def Wlk (n : Nat) (gs : List (List Int)) (M : Nat) (q : List (List Int)) (j k : Nat) : Prop := Srch n gs q j k ∨ (M < q.length ∧ q.Nodup ∧ ∀ y, y ∈ q → Gen n gs y)
theorem Wlk.nd {n M j k : Nat} {gs q : List (List Int)} (h : Wlk n gs M q j k) : q.Nodup := by
  rcases h with h | h
  · exact h.nd
  · exact h.2.1
theorem Wlk.gen {n M j k : Nat} {gs q : List (List Int)} (h : Wlk n gs M q j k) : ∀ y, y ∈ q → Gen n gs y := by
  rcases h with h | h
  · exact h.gen
  · exact h.2.2
theorem Wlk.srch {n M j k : Nat} {gs q : List (List Int)} (h : Wlk n gs M q j k) (hM : q.length ≤ M) : Srch n gs q j k := by
  rcases h with h | h
  · exact h
  · have := h.1; omega
theorem Wlk.over {n M j k : Nat} {gs q : List (List Int)} (h : Wlk n gs M q j k) (hM : M < q.length) (j' k' : Nat) : Wlk n gs M q j' k' := .inr ⟨hM, h.nd, h.gen⟩
theorem Wlk.many {n M j k : Nat} {gs q : List (List Int)} (h : Wlk n gs M q j k) (hM : M < q.length) : ¬ AtMost n gs M := by
  rintro ⟨L, hL, hl⟩
  have := nodup_sub h.nd (fun a ha => (hL.2 a).2 (h.gen a ha))
  omega
set_option maxRecDepth 100000 in
theorem grpS_any (n limit : Nat) (A : Option Addr) (m c : Nat) (rows : List (List Int)) (w : World) (h1 : 1 ≤ n) (h12 : n ≤ 12) (hl : limit ≤ 5000) (hm : rows.length = m) (hmb : m ≤ 4096) (hg : Gens rows n) (hr : Rd2 w A rows) :
    Calls Try.prog 71 #[.int .i64 n, .slice A m c, .int .i64 limit] w fun e w' => ∃ L A' c', e = .returned (.slice A' L.length c') ∧ Below w.heap.size w w' ∧ L.length ≤ limit + 1 ∧ ((Enu n rows L ∧ L.length ≤ limit) ∨ (¬ AtMost n rows limit ∧ limit < L.length)) := by
  have HM := hide hm
  have HG := hide hg
  have HR := hide hr
  obtain ⟨i0, hi, hz0, hz1, hz2⟩ := info_parts neInfo
  obtain ⟨i2, hj, hy0, hy1, hy2⟩ := info_parts neInfo2
  clear hm hg hr
  go_enter Try.func71, Try.ntmps71
  go_wp2_with fail
  go_loopw [7, 8] (fun v i wr => ∃ k : Nat, k ≤ n ∧ i = .int .i64 k ∧ Below w.heap.size w wr ∧ w.heap.size ≤ wr.heap.size ∧ wr.ownsRow w.heap.size 2 1 v k (ints (unitN k))) (fun _ i _ => n - (intOf i).toNat)
  case atStart => exact ⟨0, Nat.zero_le _, rfl, (Below.refl _ _).alloc (Nat.le_refl _) _, by simp, ownsRow_empty w _⟩
  case round =>
    obtain ⟨k, hk, rfl, hbe, hsz, hown⟩ := hrel
    have HB := hide hbe
    have HO := hide hown
    clear hbe hown
    by_cases hlt : k < n
    · have hltz : (k : Int) < n := by omega
      go_wp2_with (at_builtin; refine wpList_append_own _ rfl _ _ 26 rfl w.heap.size 2 i0 (.int .i64 0) 1 8 Try.underlying26 hi hz0 hz1 hz2 rfl (by decide) _ _ _ rfl (HO.out.alloc _) ⟨wr.heap.size, 0, none⟩ 1 1 [.int .i64 (k : Int)] rfl rfl ?c1 ?c2 ?c3 ?c4 ?c5 ?_)
      case c1 => exact own_new
      case c2 => intro u hu; simp at hu; subst hu; rfl
      case c3 => unfold maxLen; omega
      case c4 => omega
      case c5 => simp; omega
      intro v' w1 hown' hgrow _
      have HO' := hide hown'
      have HG' := hide hgrow
      clear hown' hgrow
      go_wp2_with fail
      go_roundw
      case rel =>
        have hB1 : Below w.heap.size w w1 := (HB.out.alloc hsz _).grown HG'.out (by simp; omega) (fun g hg => (HO.out.alloc (.cells #[.int .i64 (k : Int)] 2)).lt g hg |>.1)
        refine ⟨k + 1, by omega, by go_num, hB1, by have := hB1.size; omega, ?_⟩
        have h := HO'.out
        rw [unitN_next]
        have e : ints (unitN k) ++ [.int .i64 (k : Int)] = ints (unitN k ++ [(k : Int)]) := by simp [ints]
        rw [e] at h
        exact h
      case measure => simp [intOf]; omega
    · have hkn : k = n := by omega
      subst hkn
      obtain ⟨Au, cu, hv, hres⟩ := own_shape HO.out
      subst hv
      have HU := hide hres.obj
      clear hres
      go_upto_region 8 with fail
      refine wp_gen fun w2 hw2 => ?_
      have HB2 : Hid (Below w.heap.size w w2) := hide (by rw [hw2]; exact (HB.out.alloc hsz _).alloc (by simp; omega) _)
      have HQ2 : Hid (Qs 26 2 w.heap.size w2 (.slice (some ⟨wr.heap.size, 0, none⟩) 1 1) (.slice (some ⟨wr.heap.size + 1, 0, none⟩) 1 1) [unitN k] [unitN k] [.slice Au k cu] [.slice Au k cu]) := hide (by
        have h := Qs.start (c := cu) (ts := 26) HU.out hsz
        rw [unitN_length] at h
        rw [hw2]; exact h)
      clear hw2 HU HB HO
      go_wp2_with fail
      go_loopw [9, 10, 11] (fun v s i wi => ∃ (j : Nat) (q z : List (List Int)) (qv zv : List Value), j ≤ q.length ∧ i = .int .i64 j ∧ Wlk k rows limit q j 0 ∧ q.length ≤ limit + 1 ∧ Asc z ∧ (∀ x, x ∈ z ↔ x ∈ q) ∧ Below w.heap.size w wi ∧ Qs 26 2 w.heap.size wi v s q z qv zv) (fun _ _ i _ => limit + 1 - (intOf i).toNat)
      case atStart => exact ⟨0, _, _, _, _, by simp, rfl, .inl (Srch.start k rows), by simp, Asc.one _, fun x => Iff.rfl, HB2.out, HQ2.out⟩
      case round =>
        obtain ⟨j, q, z, qv, zv, hjq, rfl, hwk, hql, hasc, hmem, hbe, hqs⟩ := hrel
        clear HB2 HQ2
        obtain ⟨Ag, cg, hv, hog⟩ := hqs.q.shape
        subst hv
        have HW := hide hwk
        have HAS := hide hasc
        have HME := hide hmem
        have HB := hide hbe
        have HQ := hide hqs
        clear hwk hasc hmem hbe hqs hog
        obtain ⟨fl, hfe⟩ : ∃ fl, q.length = fl := ⟨_, rfl⟩
        have HFE := hide hfe
        rw [hfe] at hjq hql
        rw [hfe]
        clear hfe
        by_cases hgo : j < fl ∧ fl ≤ limit
        · obtain ⟨hjf, hfl⟩ := hgo
          have hjz : (j : Int) < fl := by omega
          have hfz : (fl : Int) ≤ limit := by omega
          go_wp2_with fail
          go_loopw [9, 10, 12] (fun v s i wi => ∃ (k2 : Nat) (q z : List (List Int)) (qv zv : List Value), k2 ≤ m ∧ i = .int .i64 k2 ∧ j < q.length ∧ Wlk k rows limit q j k2 ∧ q.length ≤ limit + 1 ∧ Asc z ∧ (∀ x, x ∈ z ↔ x ∈ q) ∧ Below w.heap.size w wi ∧ Qs 26 2 w.heap.size wi v s q z qv zv) (fun _ _ i _ => m - (intOf i).toNat)
          case atStart => exact ⟨0, q, z, qv, zv, Nat.zero_le _, rfl, by rw [HFE.out]; exact hjf, HW.out, by rw [HFE.out]; exact hql, HAS.out, HME.out, HB.out, by have h := HQ.out; rw [HFE.out] at h; exact h⟩
          case round =>
            obtain ⟨k2, q2, z2, qv2, zv2, hk2, rfl, hjf2, hwk2, hql2, hasc2, hmem2, hbe2, hqs2⟩ := hrel
            clear HW HAS HME HB HQ HFE hfl hql hfz
            obtain ⟨Ag2, cg2, hv2, hog2⟩ := hqs2.q.shape
            have hz0 : 0 < z2.length := by
              have hx : q2.getD j [] ∈ z2 := (hmem2 _).2 (getD_mem _ _ _ hjf2)
              cases z2 with
              | nil => cases hx
              | cons a l => simp
            obtain ⟨gs, cs, hvs, hcs, hcm, hgs, hsc, hsr⟩ := hqs2.look hz0
            subst hv2
            subst hvs
            have HW := hide hwk2
            have HAS := hide hasc2
            have HME := hide hmem2
            have HB := hide hbe2
            obtain ⟨fl2, hfe2⟩ : ∃ fl2, q2.length = fl2 := ⟨_, rfl⟩
            obtain ⟨zl, hze⟩ : ∃ zl, z2.length = zl := ⟨_, rfl⟩
            have HFE := hide hfe2
            have HZE := hide hze
            have HSC := hide hsc
            have HSR := hide hsr
            rw [hfe2] at hjf2 hql2 hqs2
            rw [hze] at hz0 hcs hqs2
            have HQ := hide hqs2
            clear hwk2 hasc2 hmem2 hbe2 hsc hsr hqs2
            rw [hfe2, hze]
            by_cases hgo : k2 < m ∧ fl2 ≤ limit
            · obtain ⟨hkm, hfl⟩ := hgo
              have hkz : (k2 : Int) < m := by omega
              have hfz : (fl2 : Int) ≤ limit := by omega
              have hjz2 : (j : Int) < fl2 := by omega
              obtain ⟨p, hp⟩ : ∃ p, rows.getD k2 [] = p := ⟨_, rfl⟩
              obtain ⟨x, hx⟩ : ∃ x, q2.getD j [] = x := ⟨_, rfl⟩
              have hxf : Gen k rows x := by rw [← hx]; exact HW.out.gen _ (getD_mem _ _ _ (by rw [hfe2]; exact hjf2))
              have hpl : p.length = k := by rw [← hp]; exact (HG.out k2 (by rw [HM.out]; exact hkm)).1
              have hpp : Prm p := by rw [← hp]; exact (HG.out k2 (by rw [HM.out]; exact hkm)).2
              have hxl : x.length = k := (gen_prm h1 h12 HG.out hxf).1
              have hxp : Prm x := (gen_prm h1 h12 HG.out hxf).2
              have HRP : Hid (∃ b o Ak ck, A = some ⟨b, o, none⟩ ∧ b < wr.heap.size ∧ wr.cell? ⟨b, o + k2, none⟩ = some (.slice Ak k ck) ∧ Rd wr Ak p) := hide (by
                obtain ⟨b, o, e1, e2, e3⟩ := (HR.out.later HB.out) (by rw [HM.out]; omega)
                obtain ⟨Ak, ck, e4, e5⟩ := e3 k2 (by rw [HM.out]; exact hkm)
                rw [hp] at e4 e5
                rw [hpl] at e4
                exact ⟨b, o, Ak, ck, e1, e2, e4, e5⟩)
              have HRX : Hid (∃ b o Ak ck, Ag2 = some ⟨b, o, none⟩ ∧ b < wr.heap.size ∧ wr.cell? ⟨b, o + j, none⟩ = some (.slice Ak k ck) ∧ Rd wr Ak x) := hide (by
                obtain ⟨b, o, e1, e2, e3⟩ := hog2.rd (by rw [hfe2]; omega)
                obtain ⟨Ak, ck, e4, e5⟩ := e3 j (by rw [hfe2]; exact hjf2)
                rw [hx] at e4 e5
                rw [hxl] at e4
                exact ⟨b, o, Ak, ck, e1, e2, e4, e5⟩)
              clear hog2 hfe2 hze
              have HX := hide hx
              have HP := hide hp
              have HXF := hide hxf
              have HPP := hide hpp
              have HXP := hide hxp
              have HPL := hide hpl
              have HXL := hide hxl
              clear hx hp hxf hpp hxp hpl hxl
              obtain ⟨bP, oP, AP, cP, eP1, eP2, eP3, eP4⟩ := HRP.out
              obtain ⟨bX, oX, AX, cX, eX1, eX2, eX3, eX4⟩ := HRX.out
              have HRP4 := hide eP4
              have HRX4 := hide eX4
              clear eP4 eX4 HRP HRX
              subst eP1
              subst eX1
              have HRNG : Hid (∀ y : List Int, y.length = k → Prm y → ∀ z ∈ y, 0 ≤ z ∧ z < (k : Int)) := hide (fun y hy hq z hz => by have h := hq.2.2.1 z hz; rw [hy] at h; exact h)
              go_wp2_with fail
              obtain ⟨y, hy⟩ : ∃ y, thenL x p = y := ⟨_, rfl⟩
              have hyl : y.length = k := by rw [← hy, thenL_length]; exact HXL.out
              have hyp : Prm y := by rw [← hy]; exact then_prm HXL.out HXP.out HPL.out HPP.out
              have HY := hide hy
              have HYL := hide hyl
              have HYP := hide hyp
              clear hy hyl hyp
              go_cut [13] (fun vv wx => ∃ A6 c6, vv = .slice A6 k c6 ∧ Below wr.heap.size wr wx ∧ Res 2 wr.heap.size wx A6 y)
              case first =>
                go_region_held3 (fun w' => w'.cell? ⟨bP, oP + k2, none⟩ = some (.slice AP k cP) ∧ w'.cell? ⟨bX, oX + j, none⟩ = some (.slice AX k cX)) (first | exact ⟨eP3, eX3⟩ | go_keep) (first | (go_at_call 105; go_must (refine calls_gen fun wc hwc => ?_; (first | have hbx := drew_below hwc | have hbx := eq_below hwc); have HBc := hide hbx; clear hwc hbx; refine (l01Then_any AX AP k cX k cP x p _ HXL.out HPL.out (by omega) (by omega) (HRX4.out.later HBc.out) (HRP4.out.later HBc.out) (HRNG.out _ HXL.out HXP.out)).mono ?_; rintro e wd ⟨A6, c6, rfl, hbd, hres⟩; rw [HY.out] at hres; have HRES := hide hres; have HBd := hide (HBc.out.trans (hbd.mono HBc.out.size)); have HSZ := hide HBc.out.size; clear hbd hres; have e1 := (HBd.out.cell (p := ⟨bP, oP + k2, none⟩) eP2).trans eP3; have e2 := (HBd.out.cell (p := ⟨bX, oX + j, none⟩) eX2).trans eX3)))
                all_goals go_wp2_with fail
                all_goals go_meet
                all_goals refine ⟨_, _, rfl, ?_⟩
                all_goals first | exact ⟨HBd.out, HRES.out.mono HSZ.out⟩ | exact ⟨HBd.out.drew, (HRES.out.mono HSZ.out).later ((Below.refl _ _).drew)⟩
              case rest =>
                obtain ⟨A6, c6, rfl, hb6, hres6⟩ := hcut
                have HB6 := hide hb6
                have HR6 := hide hres6
                clear hb6 hres6
                go_wp2_with fail
                have HQ6 := hide (HQ.out.later HB6.out)
                have hzf : zl ≤ fl2 := by
                  have h := nodup_sub HAS.out.nodup (fun a ha => (HME.out a).1 ha)
                  rw [HFE.out, HZE.out] at h
                  exact h
                have HZL : Hid (∀ i, i < z2.length → (z2.getD i []).length = k) := hide (fun i hi => (gen_prm h1 h12 HG.out (HW.out.gen _ ((HME.out _).1 (getD_mem _ _ _ hi)))).1)
                refine (search_any _ A6 zl cs k c6 z2 y _ HZE.out (by omega) HZL.out HYL.out h12 HAS.out (HSR.out.later HB6.out) HR6.out.rd).mono ?_
                rintro e w7 ⟨pos, rfl, hplc, hq7⟩
                have HB7 := hide (hq7.below wc.heap.size)
                have hptop := hplc.top
                rw [HZE.out] at hptop
                have HPLC := hide hplc
                clear hplc hq7
                have HQ7 := hide (HQ6.out.later HB7.out)
                have HR7 := hide (HR6.out.later HB7.out)
                have HB7w := hide ((HB.out.trans (HB6.out.mono HB.out.size)).trans (HB7.out.mono (HB.out.trans (HB6.out.mono HB.out.size)).size))
                have hwr0 := HB.out.size
                have hw60 := HB6.out.size
                have hsz7 := HB7.out.size
                have HLOW := hide HQ.out.q.low
                have HSC7 : Hid (∀ i u, zv2[i]? = some u → w7.cell? ⟨gs, i, none⟩ = some u) := hide (fun i u hu => (HB7.out.cell (p := ⟨gs, i, none⟩) (by show gs < _; omega)).trans ((HB6.out.cell (p := ⟨gs, i, none⟩) hgs).trans (HSC.out i u hu)))
                clear HQ HQ6 HR6 HSC HSR HB HB6 HB7
                by_cases hpz : pos < zl
                · have hpzz : (pos : Int) < zl := by omega
                  obtain ⟨Az, cz, hzv, hoz⟩ := HQ7.out.r.2 pos (by rw [HZE.out]; exact hpz)
                  rw [HZL.out pos (by rw [HZE.out]; exact hpz)] at hzv
                  have hcz := HSC7.out pos _ hzv
                  have HOZ := hide hoz
                  clear hzv hoz
                  by_cases heq : z2.getD pos [] = y
                  · have HEQ := hide heq
                    clear heq
                    go_wp2_with fail
                    refine (same_any Az A6 k cz k c6 (z2.getD pos []) y true _ (HZL.out pos (by rw [HZE.out]; exact hpz)) HYL.out (by omega) (by omega) HOZ.out.rd HR7.out.rd ⟨fun _ => HEQ.out, fun _ => rfl⟩).mono ?_
                    rintro e w8 ⟨rfl, hq8⟩
                    have HB8 := hide (hq8.below w7.heap.size)
                    clear hq8
                    go_wp2_with fail
                    go_roundw
                    case rel =>
                      have hin : y ∈ q2 := (HME.out y).1 ((HPLC.out.mem HAS.out).2 ⟨by rw [HZE.out]; exact hpz, HEQ.out⟩)
                      refine ⟨k2 + 1, q2, z2, qv2, zv2, by omega, by go_num, by rw [HFE.out]; exact hjf2, .inl ((HW.out.srch (by rw [HFE.out]; exact hfl)).keep (by rw [HX.out, HP.out, HY.out]; exact hin)), by rw [HFE.out]; exact hql2, HAS.out, HME.out, HB7w.out.trans (HB8.out.mono HB7w.out.size), ?_⟩
                      have h := HQ7.out.later HB8.out
                      first | exact h | (rw [HFE.out, HZE.out]; exact h)
                    case measure => simp [intOf]; omega
                  · have HNE := hide heq
                    clear heq
                    have hnew : y ∉ z2 := fun h => HNE.out ((HPLC.out.mem HAS.out).1 h).2
                    have HNEW := hide hnew
                    clear hnew
                    go_wp2_with fail
                    refine (same_any Az A6 k cz k c6 (z2.getD pos []) y false _ (HZL.out pos (by rw [HZE.out]; exact hpz)) HYL.out (by omega) (by omega) HOZ.out.rd HR7.out.rd ⟨fun h => (Bool.noConfusion h), fun h => absurd h HNE.out⟩).mono ?_
                    rintro e w8 ⟨rfl, hq8⟩
                    have HB8 := hide (hq8.below w7.heap.size)
                    clear hq8
                    have hsz8 := HB8.out.size
                    have HQ8 := hide (HQ7.out.later HB8.out)
                    have HR8 := hide (HR7.out.later HB8.out)
                    have HB8w := hide (HB7w.out.trans (HB8.out.mono HB7w.out.size))
                    have HSC8 : Hid (∀ i u, zv2[i]? = some u → w8.cell? ⟨gs, i, none⟩ = some u) := hide (fun i u hu => (HB8.out.cell (p := ⟨gs, i, none⟩) (by show gs < _; omega)).trans (HSC7.out i u hu))
                    clear HQ7 HR7 HB7w HSC7 HB8 HOZ
                    have HZV : Hid (zv2.length = zl) := hide (by have h := HQ8.out.slen; rw [HZE.out] at h; exact h)
                    have HONE := hide HQ8.out.r.one
                    have hgs8 : gs < w8.heap.size := by omega
                    have HOW9 : Hid ((w8.alloc (.cells #[.slice A6 k c6] 26)).ownsRow w8.heap.size 26 1 (.slice (some ⟨w8.heap.size, 0, none⟩) 1 1) 1 [.slice A6 k c6]) := hide ⟨rfl, .inr ⟨w8.heap.size, 1, #[.slice A6 k c6], rfl, Nat.le_refl _, heap_alloc_new _ _, Nat.le_refl _, by unfold maxLen; omega, by simp, by simp⟩⟩
                    have HAL9 : Hid (Below w8.heap.size w8 (w8.alloc (.cells #[.slice A6 k c6] 26))) := hide ((Below.refl _ _).alloc (Nat.le_refl _) _)
                    go_wp2_with (at_builtin; refine wpList_append_own _ rfl _ _ 22 rfl w8.heap.size 26 i2 (.slice none 0 0) 1 24 Try.underlying22 hj hy0 hy1 hy2 rfl (by decide) _ _ _ rfl HOW9.out _ _ _ (zv2.drop pos) rfl ?b0 ?b1 ?b2 ?b3 ?b4 ?b5 ?_)
                    case b0 => rw [List.length_drop, HZV.out]; first | omega | (simp; omega)
                    case b1 =>
                      intro j u hu
                      first
                        | exact (by rw [addr_add]; exact (HAL9.out.cell (p := ⟨gs, pos + j, none⟩) hgs8).trans (HSC8.out (pos + j) u (by rw [List.getElem?_drop] at hu; exact hu)))
                        | (exfalso; have h := (List.getElem?_eq_some_iff.1 hu).1; rw [List.length_drop, HZV.out] at h; omega)
                    case b2 => exact fun u hu => HONE.out u (List.mem_of_mem_drop hu)
                    case b3 => unfold maxLen; omega
                    case b4 => omega
                    case b5 => simp
                    intro v9 w9 hown9 hgrow9 _
                    have HB9 : Hid (Below w8.heap.size w8 w9) := hide (HAL9.out.grown hgrow9 (by simp) (fun g hg => (HOW9.out.lt g hg).1))
                    have hsz9 := HB9.out.size
                    have HOW9' := hide hown9
                    clear hown9 hgrow9 HOW9 HAL9
                    obtain ⟨g9, c9, hv9, hg9, hcl9⟩ := own_look HOW9'.out (by omega)
                    subst hv9
                    have HCL9 := hide hcl9
                    clear hcl9
                    have HE9 : Hid ((w9.alloc (.cells #[] 26)).ownsRow w8.heap.size 26 1 (.slice (some ⟨w9.heap.size, 0, none⟩) 0 0) 0 []) := hide (own_low (ne_empty w9 _) hsz9)
                    have HAL10 : Hid (Below w9.heap.size w9 (w9.alloc (.cells #[] 26))) := hide ((Below.refl _ _).alloc (Nat.le_refl _) _)
                    go_wp2_with (at_builtin; refine wpList_append_own _ rfl _ _ 22 rfl w8.heap.size 26 i2 (.slice none 0 0) 1 24 Try.underlying22 hj hy0 hy1 hy2 rfl (by decide) _ _ _ rfl HE9.out _ _ _ (zv2.take pos) rfl ?d0 ?d1 ?d2 ?d3 ?d4 ?d5 ?_)
                    case d0 => rw [List.length_take, HZV.out]; omega
                    case d1 =>
                      intro j u hu
                      rw [addr_add, Nat.zero_add]
                      refine ((HAL10.out.cell (p := ⟨gs, j, none⟩) (by show gs < _; omega)).trans (HB9.out.cell (p := ⟨gs, j, none⟩) hgs8)).trans (HSC8.out j u ?_)
                      rw [List.getElem?_take] at hu
                      by_cases e : j < pos
                      · rw [if_pos e] at hu; exact hu
                      · rw [if_neg e] at hu; cases hu
                    case d2 => exact fun u hu => HONE.out u (List.mem_of_mem_take hu)
                    case d3 => unfold maxLen; omega
                    case d4 => omega
                    case d5 => simp; omega
                    intro v10 w10 hown10 hgrow10 _
                    have HB10 : Hid (Below w9.heap.size w9 w10) := hide (HAL10.out.grown hgrow10 (by simp) (fun g hg => by have h := (own_lt (ne_empty w9 26) hg).1; exact h))
                    have hsz10 := HB10.out.size
                    have HOW10 := hide hown10
                    clear hown10 hgrow10 HE9 HAL10
                    go_wp2_with (at_builtin; refine wpList_append_own _ rfl _ _ 22 rfl w8.heap.size 26 i2 (.slice none 0 0) 1 24 Try.underlying22 hj hy0 hy1 hy2 rfl (by decide) _ _ _ rfl HOW10.out _ _ _ ([.slice A6 k c6] ++ zv2.drop pos) rfl ?e0 ?e1 ?e2 ?e3 ?e4 ?e5 ?_)
                    case e0 => rw [List.length_append, List.length_drop, HZV.out]; first | (simp; done) | (simp; omega) | omega
                    case e1 =>
                      intro j u hu
                      rw [addr_add, Nat.zero_add]
                      exact (HB10.out.cell (p := ⟨g9, j, none⟩) hg9).trans (HCL9.out j u hu)
                    case e2 =>
                      intro u hu
                      rcases List.mem_append.1 hu with h | h
                      · rw [List.mem_singleton] at h; subst h; rfl
                      · exact HONE.out u (List.mem_of_mem_drop h)
                    case e3 => unfold maxLen; omega
                    case e4 => omega
                    case e5 => omega
                    intro v11 w11 hown11 hgrow11 _
                    have HB11 : Hid (Below w8.heap.size w8 w11) := hide ((HB9.out.trans (HB10.out.mono hsz9)).grown hgrow11 (by omega) (fun g hg => (own_lt HOW10.out hg).1))
                    have hsz11 := HB11.out.size
                    have HY11 : Hid (Obj1 2 wr.heap.size w11.heap.size w11 A6 y) := hide (HR8.out.later HB11.out).obj
                    have HQ11 : Hid (Qs 26 2 w.heap.size w11 (.slice (some ⟨bX, oX, none⟩) fl2 cg2) v11 q2 (insL z2 pos y) qv2 (zv2.take pos ++ .slice A6 y.length c6 :: zv2.drop pos)) := hide (by
                        have h := HQ8.out.sorted (k := pos) (p := y) (A := A6) (c := c6) (n := (zv2.take pos ++ .slice A6 y.length c6 :: zv2.drop pos).length) (v' := v11) HB11.out (by omega) (by rw [HZE.out]; omega) (HY11.out.mono hwr0 (Nat.le_refl _)) (by rw [insL_length, HZE.out]; simp [HZV.out]; omega) (by have h := own_self hown11; rw [HYL.out]; simpa using h)
                        first | exact h | (rw [HFE.out] at h; exact h))
                    have HB11w := hide (HB8w.out.trans (HB11.out.mono HB8w.out.size))
                    have HASC := hide (HAS.out.ins HPLC.out HNEW.out)
                    clear hown11 hgrow11 HQ8 HR8 HB8w HSC8 HB9 HB10 HB11 HOW9' HOW10 HCL9 HONE
                    have hs11 := HB11w.out.size
                    have HOWQ : Hid (w11.ownsRow w.heap.size 26 1 (.slice (some ⟨bX, oX, none⟩) fl2 cg2) fl2 qv2) := hide (by have h := HQ11.out.q.own; rw [HFE.out] at h; exact h)
                    go_wp2_with (at_builtin; refine wpList_append_own_at _ rfl _ _ 22 rfl w.heap.size 26 i2 (.slice none 0 0) 1 24 Try.underlying22 hj hy0 hy1 hy2 rfl (by decide) _ _ _ rfl (HOWQ.out.alloc _) ⟨w11.heap.size, 0, none⟩ 1 1 [.slice A6 k c6] rfl rfl ?f1 ?f2 ?f3 ?f4 ?f5 ?_)
                    case f1 => exact ne_new
                    case f2 => intro u hu; simp at hu; subst hu; rfl
                    case f3 => unfold maxLen; omega
                    case f4 => omega
                    case f5 => simp; omega
                    intro v12 w12 hown12 hgrow12 _ hat12
                    have HO12 := hide hown12
                    have HG12 := hide hgrow12
                    have HAT := hide hat12
                    clear hown12 hgrow12 hat12
                    go_wp2_with fail
                    go_roundw
                    case rel =>
                      have hB12 : Below w.heap.size w w12 := (HB11w.out.alloc hs11 _).grown HG12.out (by simp; omega) (fun g hg => (HOWQ.out.alloc (.cells #[.slice A6 k c6] 26)).lt g hg |>.1)
                      have hpush := HQ11.out.queued (tmp := .cells #[.slice A6 k c6] 26) (A := A6) (c := c6) (p := y) (w1 := w12) (v' := v12) (by decide) (HY11.out.mono hwr0 (Nat.le_refl _)) (fun i u g hu hg a ha => by have h1 := HLOW.out i u g hu hg; have h2 := (HY11.out.bounds a ha).1; omega) (by rw [HYL.out, HFE.out]; exact HO12.out) HG12.out (by have h := HAT.out; simpa using h)
                      have hnq : y ∉ q2 := fun h => HNEW.out ((HME.out y).2 h)
                      have hsr := (HW.out.srch (by rw [HFE.out]; exact hfl)).push (by rw [HFE.out]; exact hjf2) (by rw [HM.out]; exact hkm) (by rw [HX.out, HP.out, HY.out]; exact hnq)
                      rw [HX.out, HP.out, HY.out] at hsr
                      exact ⟨k2 + 1, q2 ++ [y], insL z2 pos y, _, _, by omega, by go_num, by have h := HFE.out; simp; omega, .inl hsr, by have h := HFE.out; simp; omega, HASC.out, fun u => by rw [insL_mem, List.mem_append, HME.out u]; simp [or_comm], hB12, hpush⟩
                    case measure => simp [intOf]; omega
                · have hge : zl ≤ pos := by omega
                  have hgez : (zl : Int) ≤ pos := by omega
                  have hnew : y ∉ z2 := fun h => by
                    have h2 := ((HPLC.out.mem HAS.out).1 h).1
                    rw [HZE.out] at h2
                    exact hpz h2
                  have HNEW := hide hnew
                  clear hnew hpz
                  have HQ8 := hide HQ7.out
                  have HR8 := hide HR7.out
                  have HB8w := hide HB7w.out
                  have HSC8 := hide HSC7.out
                  have hsz8 := hsz7
                  clear HQ7 HR7 HB7w HSC7
                  obtain ⟨w8, hw8⟩ : ∃ w8, w8 = w7 := ⟨_, rfl⟩
                  subst hw8
                  by_cases hcap : pos < cs
                  · have hcapz : (pos : Int) < cs := by omega
                    have HZV : Hid (zv2.length = zl) := hide (by have h := HQ8.out.slen; rw [HZE.out] at h; exact h)
                    have HONE := hide HQ8.out.r.one
                    have hgs8 : gs < w8.heap.size := by omega
                    have HOW9 : Hid ((w8.alloc (.cells #[.slice A6 k c6] 26)).ownsRow w8.heap.size 26 1 (.slice (some ⟨w8.heap.size, 0, none⟩) 1 1) 1 [.slice A6 k c6]) := hide ⟨rfl, .inr ⟨w8.heap.size, 1, #[.slice A6 k c6], rfl, Nat.le_refl _, heap_alloc_new _ _, Nat.le_refl _, by unfold maxLen; omega, by simp, by simp⟩⟩
                    have HAL9 : Hid (Below w8.heap.size w8 (w8.alloc (.cells #[.slice A6 k c6] 26))) := hide ((Below.refl _ _).alloc (Nat.le_refl _) _)
                    go_wp2_with (at_builtin; refine wpList_append_own _ rfl _ _ 22 rfl w8.heap.size 26 i2 (.slice none 0 0) 1 24 Try.underlying22 hj hy0 hy1 hy2 rfl (by decide) _ _ _ rfl HOW9.out _ _ _ (zv2.drop pos) rfl ?b0 ?b1 ?b2 ?b3 ?b4 ?b5 ?_)
                    case b0 => rw [List.length_drop, HZV.out]; first | omega | (simp; omega)
                    case b1 =>
                      intro j u hu
                      first
                        | exact (by rw [addr_add]; exact (HAL9.out.cell (p := ⟨gs, pos + j, none⟩) hgs8).trans (HSC8.out (pos + j) u (by rw [List.getElem?_drop] at hu; exact hu)))
                        | (exfalso; have h := (List.getElem?_eq_some_iff.1 hu).1; rw [List.length_drop, HZV.out] at h; omega)
                    case b2 => exact fun u hu => HONE.out u (List.mem_of_mem_drop hu)
                    case b3 => unfold maxLen; omega
                    case b4 => omega
                    case b5 => simp
                    intro v9 w9 hown9 hgrow9 _
                    have HB9 : Hid (Below w8.heap.size w8 w9) := hide (HAL9.out.grown hgrow9 (by simp) (fun g hg => (HOW9.out.lt g hg).1))
                    have hsz9 := HB9.out.size
                    have HOW9' := hide hown9
                    clear hown9 hgrow9 HOW9 HAL9
                    obtain ⟨g9, c9, hv9, hg9, hcl9⟩ := own_look HOW9'.out (by omega)
                    subst hv9
                    have HCL9 := hide hcl9
                    clear hcl9
                    have HE9 : Hid ((w9.alloc (.cells #[] 26)).ownsRow w8.heap.size 26 1 (.slice (some ⟨w9.heap.size, 0, none⟩) 0 0) 0 []) := hide (own_low (ne_empty w9 _) hsz9)
                    have HAL10 : Hid (Below w9.heap.size w9 (w9.alloc (.cells #[] 26))) := hide ((Below.refl _ _).alloc (Nat.le_refl _) _)
                    go_wp2_with (at_builtin; refine wpList_append_own _ rfl _ _ 22 rfl w8.heap.size 26 i2 (.slice none 0 0) 1 24 Try.underlying22 hj hy0 hy1 hy2 rfl (by decide) _ _ _ rfl HE9.out _ _ _ (zv2.take pos) rfl ?d0 ?d1 ?d2 ?d3 ?d4 ?d5 ?_)
                    case d0 => rw [List.length_take, HZV.out]; omega
                    case d1 =>
                      intro j u hu
                      rw [addr_add, Nat.zero_add]
                      refine ((HAL10.out.cell (p := ⟨gs, j, none⟩) (by show gs < _; omega)).trans (HB9.out.cell (p := ⟨gs, j, none⟩) hgs8)).trans (HSC8.out j u ?_)
                      rw [List.getElem?_take] at hu
                      by_cases e : j < pos
                      · rw [if_pos e] at hu; exact hu
                      · rw [if_neg e] at hu; cases hu
                    case d2 => exact fun u hu => HONE.out u (List.mem_of_mem_take hu)
                    case d3 => unfold maxLen; omega
                    case d4 => omega
                    case d5 => simp; omega
                    intro v10 w10 hown10 hgrow10 _
                    have HB10 : Hid (Below w9.heap.size w9 w10) := hide (HAL10.out.grown hgrow10 (by simp) (fun g hg => by have h := (own_lt (ne_empty w9 26) hg).1; exact h))
                    have hsz10 := HB10.out.size
                    have HOW10 := hide hown10
                    clear hown10 hgrow10 HE9 HAL10
                    go_wp2_with (at_builtin; refine wpList_append_own _ rfl _ _ 22 rfl w8.heap.size 26 i2 (.slice none 0 0) 1 24 Try.underlying22 hj hy0 hy1 hy2 rfl (by decide) _ _ _ rfl HOW10.out _ _ _ ([.slice A6 k c6] ++ zv2.drop pos) rfl ?e0 ?e1 ?e2 ?e3 ?e4 ?e5 ?_)
                    case e0 => rw [List.length_append, List.length_drop, HZV.out]; first | (simp; done) | (simp; omega) | omega
                    case e1 =>
                      intro j u hu
                      rw [addr_add, Nat.zero_add]
                      exact (HB10.out.cell (p := ⟨g9, j, none⟩) hg9).trans (HCL9.out j u hu)
                    case e2 =>
                      intro u hu
                      rcases List.mem_append.1 hu with h | h
                      · rw [List.mem_singleton] at h; subst h; rfl
                      · exact HONE.out u (List.mem_of_mem_drop h)
                    case e3 => unfold maxLen; omega
                    case e4 => omega
                    case e5 => omega
                    intro v11 w11 hown11 hgrow11 _
                    have HB11 : Hid (Below w8.heap.size w8 w11) := hide ((HB9.out.trans (HB10.out.mono hsz9)).grown hgrow11 (by omega) (fun g hg => (own_lt HOW10.out hg).1))
                    have hsz11 := HB11.out.size
                    have HY11 : Hid (Obj1 2 wr.heap.size w11.heap.size w11 A6 y) := hide (HR8.out.later HB11.out).obj
                    have HQ11 : Hid (Qs 26 2 w.heap.size w11 (.slice (some ⟨bX, oX, none⟩) fl2 cg2) v11 q2 (insL z2 pos y) qv2 (zv2.take pos ++ .slice A6 y.length c6 :: zv2.drop pos)) := hide (by
                        have h := HQ8.out.sorted (k := pos) (p := y) (A := A6) (c := c6) (n := (zv2.take pos ++ .slice A6 y.length c6 :: zv2.drop pos).length) (v' := v11) HB11.out (by omega) (by rw [HZE.out]; omega) (HY11.out.mono hwr0 (Nat.le_refl _)) (by rw [insL_length, HZE.out]; simp [HZV.out]; omega) (by have h := own_self hown11; rw [HYL.out]; simpa using h)
                        first | exact h | (rw [HFE.out] at h; exact h))
                    have HB11w := hide (HB8w.out.trans (HB11.out.mono HB8w.out.size))
                    have HASC := hide (HAS.out.ins HPLC.out HNEW.out)
                    clear hown11 hgrow11 HQ8 HR8 HB8w HSC8 HB9 HB10 HB11 HOW9' HOW10 HCL9 HONE
                    have hs11 := HB11w.out.size
                    have HOWQ : Hid (w11.ownsRow w.heap.size 26 1 (.slice (some ⟨bX, oX, none⟩) fl2 cg2) fl2 qv2) := hide (by have h := HQ11.out.q.own; rw [HFE.out] at h; exact h)
                    go_wp2_with (at_builtin; refine wpList_append_own_at _ rfl _ _ 22 rfl w.heap.size 26 i2 (.slice none 0 0) 1 24 Try.underlying22 hj hy0 hy1 hy2 rfl (by decide) _ _ _ rfl (HOWQ.out.alloc _) ⟨w11.heap.size, 0, none⟩ 1 1 [.slice A6 k c6] rfl rfl ?f1 ?f2 ?f3 ?f4 ?f5 ?_)
                    case f1 => exact ne_new
                    case f2 => intro u hu; simp at hu; subst hu; rfl
                    case f3 => unfold maxLen; omega
                    case f4 => omega
                    case f5 => simp; omega
                    intro v12 w12 hown12 hgrow12 _ hat12
                    have HO12 := hide hown12
                    have HG12 := hide hgrow12
                    have HAT := hide hat12
                    clear hown12 hgrow12 hat12
                    go_wp2_with fail
                    go_roundw
                    case rel =>
                      have hB12 : Below w.heap.size w w12 := (HB11w.out.alloc hs11 _).grown HG12.out (by simp; omega) (fun g hg => (HOWQ.out.alloc (.cells #[.slice A6 k c6] 26)).lt g hg |>.1)
                      have hpush := HQ11.out.queued (tmp := .cells #[.slice A6 k c6] 26) (A := A6) (c := c6) (p := y) (w1 := w12) (v' := v12) (by decide) (HY11.out.mono hwr0 (Nat.le_refl _)) (fun i u g hu hg a ha => by have h1 := HLOW.out i u g hu hg; have h2 := (HY11.out.bounds a ha).1; omega) (by rw [HYL.out, HFE.out]; exact HO12.out) HG12.out (by have h := HAT.out; simpa using h)
                      have hnq : y ∉ q2 := fun h => HNEW.out ((HME.out y).2 h)
                      have hsr := (HW.out.srch (by rw [HFE.out]; exact hfl)).push (by rw [HFE.out]; exact hjf2) (by rw [HM.out]; exact hkm) (by rw [HX.out, HP.out, HY.out]; exact hnq)
                      rw [HX.out, HP.out, HY.out] at hsr
                      exact ⟨k2 + 1, q2 ++ [y], insL z2 pos y, _, _, by omega, by go_num, by have h := HFE.out; simp; omega, .inl hsr, by have h := HFE.out; simp; omega, HASC.out, fun u => by rw [insL_mem, List.mem_append, HME.out u]; simp [or_comm], hB12, hpush⟩
                    case measure => simp [intOf]; omega
                  · have hcc : pos = cs := by omega
                    subst hcc
                    clear hcap
                    have HZV : Hid (zv2.length = zl) := hide (by have h := HQ8.out.slen; rw [HZE.out] at h; exact h)
                    have HONE := hide HQ8.out.r.one
                    have hgs8 : gs < w8.heap.size := by omega
                    have HOW9 : Hid ((w8.alloc (.cells #[.slice A6 k c6] 26)).ownsRow w8.heap.size 26 1 (.slice (some ⟨w8.heap.size, 0, none⟩) 1 1) 1 [.slice A6 k c6]) := hide ⟨rfl, .inr ⟨w8.heap.size, 1, #[.slice A6 k c6], rfl, Nat.le_refl _, heap_alloc_new _ _, Nat.le_refl _, by unfold maxLen; omega, by simp, by simp⟩⟩
                    have HAL9 : Hid (Below w8.heap.size w8 (w8.alloc (.cells #[.slice A6 k c6] 26))) := hide ((Below.refl _ _).alloc (Nat.le_refl _) _)
                    go_wp2_with (at_builtin; refine wpList_append_own _ rfl _ _ 22 rfl w8.heap.size 26 i2 (.slice none 0 0) 1 24 Try.underlying22 hj hy0 hy1 hy2 rfl (by decide) _ _ _ rfl HOW9.out _ _ _ (zv2.drop pos) rfl ?b0 ?b1 ?b2 ?b3 ?b4 ?b5 ?_)
                    case b0 => rw [List.length_drop, HZV.out]; first | omega | (simp; omega)
                    case b1 =>
                      intro j u hu
                      first
                        | exact (by rw [addr_add]; exact (HAL9.out.cell (p := ⟨gs, pos + j, none⟩) hgs8).trans (HSC8.out (pos + j) u (by rw [List.getElem?_drop] at hu; exact hu)))
                        | (exfalso; have h := (List.getElem?_eq_some_iff.1 hu).1; rw [List.length_drop, HZV.out] at h; omega)
                    case b2 => exact fun u hu => HONE.out u (List.mem_of_mem_drop hu)
                    case b3 => unfold maxLen; omega
                    case b4 => omega
                    case b5 => simp
                    intro v9 w9 hown9 hgrow9 _
                    have HB9 : Hid (Below w8.heap.size w8 w9) := hide (HAL9.out.grown hgrow9 (by simp) (fun g hg => (HOW9.out.lt g hg).1))
                    have hsz9 := HB9.out.size
                    have HOW9' := hide hown9
                    clear hown9 hgrow9 HOW9 HAL9
                    obtain ⟨g9, c9, hv9, hg9, hcl9⟩ := own_look HOW9'.out (by omega)
                    subst hv9
                    have HCL9 := hide hcl9
                    clear hcl9
                    have HE9 : Hid ((w9.alloc (.cells #[] 26)).ownsRow w8.heap.size 26 1 (.slice (some ⟨w9.heap.size, 0, none⟩) 0 0) 0 []) := hide (own_low (ne_empty w9 _) hsz9)
                    have HAL10 : Hid (Below w9.heap.size w9 (w9.alloc (.cells #[] 26))) := hide ((Below.refl _ _).alloc (Nat.le_refl _) _)
                    go_wp2_with (at_builtin; refine wpList_append_own _ rfl _ _ 22 rfl w8.heap.size 26 i2 (.slice none 0 0) 1 24 Try.underlying22 hj hy0 hy1 hy2 rfl (by decide) _ _ _ rfl HE9.out _ _ _ (zv2.take pos) rfl ?d0 ?d1 ?d2 ?d3 ?d4 ?d5 ?_)
                    case d0 => rw [List.length_take, HZV.out]; omega
                    case d1 =>
                      intro j u hu
                      rw [addr_add, Nat.zero_add]
                      refine ((HAL10.out.cell (p := ⟨gs, j, none⟩) (by show gs < _; omega)).trans (HB9.out.cell (p := ⟨gs, j, none⟩) hgs8)).trans (HSC8.out j u ?_)
                      rw [List.getElem?_take] at hu
                      by_cases e : j < pos
                      · rw [if_pos e] at hu; exact hu
                      · rw [if_neg e] at hu; cases hu
                    case d2 => exact fun u hu => HONE.out u (List.mem_of_mem_take hu)
                    case d3 => unfold maxLen; omega
                    case d4 => omega
                    case d5 => simp; omega
                    intro v10 w10 hown10 hgrow10 _
                    have HB10 : Hid (Below w9.heap.size w9 w10) := hide (HAL10.out.grown hgrow10 (by simp) (fun g hg => by have h := (own_lt (ne_empty w9 26) hg).1; exact h))
                    have hsz10 := HB10.out.size
                    have HOW10 := hide hown10
                    clear hown10 hgrow10 HE9 HAL10
                    go_wp2_with (at_builtin; refine wpList_append_own _ rfl _ _ 22 rfl w8.heap.size 26 i2 (.slice none 0 0) 1 24 Try.underlying22 hj hy0 hy1 hy2 rfl (by decide) _ _ _ rfl HOW10.out _ _ _ ([.slice A6 k c6] ++ zv2.drop pos) rfl ?e0 ?e1 ?e2 ?e3 ?e4 ?e5 ?_)
                    case e0 => rw [List.length_append, List.length_drop, HZV.out]; first | (simp; done) | (simp; omega) | omega
                    case e1 =>
                      intro j u hu
                      rw [addr_add, Nat.zero_add]
                      exact (HB10.out.cell (p := ⟨g9, j, none⟩) hg9).trans (HCL9.out j u hu)
                    case e2 =>
                      intro u hu
                      rcases List.mem_append.1 hu with h | h
                      · rw [List.mem_singleton] at h; subst h; rfl
                      · exact HONE.out u (List.mem_of_mem_drop h)
                    case e3 => unfold maxLen; omega
                    case e4 => omega
                    case e5 => omega
                    intro v11 w11 hown11 hgrow11 _
                    have HB11 : Hid (Below w8.heap.size w8 w11) := hide ((HB9.out.trans (HB10.out.mono hsz9)).grown hgrow11 (by omega) (fun g hg => (own_lt HOW10.out hg).1))
                    have hsz11 := HB11.out.size
                    have HY11 : Hid (Obj1 2 wr.heap.size w11.heap.size w11 A6 y) := hide (HR8.out.later HB11.out).obj
                    have HQ11 : Hid (Qs 26 2 w.heap.size w11 (.slice (some ⟨bX, oX, none⟩) fl2 cg2) v11 q2 (insL z2 pos y) qv2 (zv2.take pos ++ .slice A6 y.length c6 :: zv2.drop pos)) := hide (by
                        have h := HQ8.out.sorted (k := pos) (p := y) (A := A6) (c := c6) (n := (zv2.take pos ++ .slice A6 y.length c6 :: zv2.drop pos).length) (v' := v11) HB11.out (by omega) (by rw [HZE.out]; omega) (HY11.out.mono hwr0 (Nat.le_refl _)) (by rw [insL_length, HZE.out]; simp [HZV.out]; omega) (by have h := own_self hown11; rw [HYL.out]; simpa using h)
                        first | exact h | (rw [HFE.out] at h; exact h))
                    have HB11w := hide (HB8w.out.trans (HB11.out.mono HB8w.out.size))
                    have HASC := hide (HAS.out.ins HPLC.out HNEW.out)
                    clear hown11 hgrow11 HQ8 HR8 HB8w HSC8 HB9 HB10 HB11 HOW9' HOW10 HCL9 HONE
                    have hs11 := HB11w.out.size
                    have HOWQ : Hid (w11.ownsRow w.heap.size 26 1 (.slice (some ⟨bX, oX, none⟩) fl2 cg2) fl2 qv2) := hide (by have h := HQ11.out.q.own; rw [HFE.out] at h; exact h)
                    go_wp2_with (at_builtin; refine wpList_append_own_at _ rfl _ _ 22 rfl w.heap.size 26 i2 (.slice none 0 0) 1 24 Try.underlying22 hj hy0 hy1 hy2 rfl (by decide) _ _ _ rfl (HOWQ.out.alloc _) ⟨w11.heap.size, 0, none⟩ 1 1 [.slice A6 k c6] rfl rfl ?f1 ?f2 ?f3 ?f4 ?f5 ?_)
                    case f1 => exact ne_new
                    case f2 => intro u hu; simp at hu; subst hu; rfl
                    case f3 => unfold maxLen; omega
                    case f4 => omega
                    case f5 => simp; omega
                    intro v12 w12 hown12 hgrow12 _ hat12
                    have HO12 := hide hown12
                    have HG12 := hide hgrow12
                    have HAT := hide hat12
                    clear hown12 hgrow12 hat12
                    go_wp2_with fail
                    go_roundw
                    case rel =>
                      have hB12 : Below w.heap.size w w12 := (HB11w.out.alloc hs11 _).grown HG12.out (by simp; omega) (fun g hg => (HOWQ.out.alloc (.cells #[.slice A6 k c6] 26)).lt g hg |>.1)
                      have hpush := HQ11.out.queued (tmp := .cells #[.slice A6 k c6] 26) (A := A6) (c := c6) (p := y) (w1 := w12) (v' := v12) (by decide) (HY11.out.mono hwr0 (Nat.le_refl _)) (fun i u g hu hg a ha => by have h1 := HLOW.out i u g hu hg; have h2 := (HY11.out.bounds a ha).1; omega) (by rw [HYL.out, HFE.out]; exact HO12.out) HG12.out (by have h := HAT.out; simpa using h)
                      have hnq : y ∉ q2 := fun h => HNEW.out ((HME.out y).2 h)
                      have hsr := (HW.out.srch (by rw [HFE.out]; exact hfl)).push (by rw [HFE.out]; exact hjf2) (by rw [HM.out]; exact hkm) (by rw [HX.out, HP.out, HY.out]; exact hnq)
                      rw [HX.out, HP.out, HY.out] at hsr
                      exact ⟨k2 + 1, q2 ++ [y], insL z2 pos y, _, _, by omega, by go_num, by have h := HFE.out; simp; omega, .inl hsr, by have h := HFE.out; simp; omega, HASC.out, fun u => by rw [insL_mem, List.mem_append, HME.out u]; simp [or_comm], hB12, hpush⟩
                    case measure => simp [intOf]; omega
            · clear hog2 hfe2 hze HSC HSR hgs hcm
              by_cases hkm : k2 < m
              · have hov : limit < fl2 := by omega
                have hkz : (k2 : Int) < m := by omega
                have hovz : (limit : Int) < fl2 := by omega
                clear hgo
                go_wp2_with fail
                go_roundw
                case rel =>
                  refine ⟨j + 1, q2, z2, qv2, zv2, by rw [HFE.out]; omega, by go_num, HW.out.over (by rw [HFE.out]; exact hov) _ _, by rw [HFE.out]; exact hql2, HAS.out, HME.out, HB.out, ?_⟩
                  have h := HQ.out
                  first | exact h | (rw [HFE.out, HZE.out]; exact h)
                case measure => simp [intOf]; omega
              · have hke : k2 = m := by omega
                subst hke
                have HWN : Hid (Wlk k rows limit q2 (j + 1) 0) := hide (by
                  by_cases h : fl2 ≤ limit
                  · have h2 := HW.out.srch (by rw [HFE.out]; exact h)
                    rw [← HM.out] at h2
                    exact .inl h2.next
                  · exact HW.out.over (by rw [HFE.out]; omega) _ _)
                clear hgo
                go_wp2_with fail
                go_roundw
                case rel =>
                  refine ⟨j + 1, q2, z2, qv2, zv2, by rw [HFE.out]; omega, by go_num, HWN.out, by rw [HFE.out]; exact hql2, HAS.out, HME.out, HB.out, ?_⟩
                  have h := HQ.out
                  first | exact h | (rw [HFE.out, HZE.out]; exact h)
                case measure => simp [intOf]; omega
        · have HRES : Hid ((Enu k rows q ∧ q.length ≤ limit) ∨ (¬ AtMost k rows limit ∧ limit < q.length)) := hide (by
            by_cases h : fl ≤ limit
            · have hje : j = fl := by omega
              have h2 := HW.out.srch (by rw [HFE.out]; exact h)
              rw [hje, ← HFE.out] at h2
              exact .inl ⟨h2.fin, by rw [HFE.out]; exact h⟩
            · exact .inr ⟨HW.out.many (by rw [HFE.out]; omega), by rw [HFE.out]; omega⟩)
          by_cases hjf : j < fl
          · have hjz : (j : Int) < fl := by omega
            have hovz : (limit : Int) < fl := by omega
            clear hgo
            go_wp2_with fail
            go_ret
            exact ⟨q, _, _, by rw [HFE.out]; rfl, HB.out, by rw [HFE.out]; exact hql, HRES.out⟩
          · have hje : j = fl := by omega
            subst hje
            clear hgo
            go_wp2_with fail
            go_ret
            exact ⟨q, _, _, by rw [HFE.out]; rfl, HB.out, by rw [HFE.out]; exact hql, HRES.out⟩
end Go.Proofs.Ytgmloaemnbnbgaa
namespace Go.Proofs.Ytgmloaemnbnbgaa
open Go Go.RowKit
open Classical
set_option maxHeartbeats 2000000
/-- groupUpTo with its two outcomes in one. -/
theorem upTo_ord (n limit : Nat) (A : Option Addr) (m c : Nat) (rows : List (List Int)) (w : World) (h1 : 1 ≤ n) (h12 : n ≤ 12) (hl1 : 1 ≤ limit) (hl : limit ≤ 5000) (hm : rows.length = m) (hmb : m ≤ 4096) (hg : Gens rows n) (hr : Rd2 w A rows) :
    Calls Try.prog 110 #[.int .i64 n, .slice A m c, .int .i64 limit] w fun e w' => ∃ (g : Nat) (b : Bool) (B : Option Addr) (d : Nat), e = .returned (.tuple #[.slice B g d, .bool b]) ∧ Below w.heap.size w w' ∧ ((b = true ∧ ∃ L, Enu n rows L ∧ L.length = g ∧ g ≤ limit) ∨ (b = false ∧ ¬ AtMost n rows limit)) := by
  refine (groupUpTo_any n limit A m c rows w h1 h12 hl1 hl hm hmb hg hr).mono ?_
  rintro e w2 (⟨L, vals, v, hE, hL, rfl, hbd, hlst⟩ | ⟨hn, rfl, hbd⟩)
  · obtain ⟨B, d, hv, _⟩ := hlst.shape
    exact ⟨L.length, true, B, d, by rw [hv], hbd, .inl ⟨rfl, L, hE, rfl, hL⟩⟩
  · exact ⟨0, false, none, 0, rfl, hbd, .inr ⟨rfl, hn⟩⟩

theorem groupOrder_any (n limit : Nat) (A : Option Addr) (m c : Nat) (rows : List (List Int)) (v code : Int) (w : World) (h1 : 1 ≤ n) (h12 : n ≤ 12) (hl1 : 1 ≤ limit) (hl : limit ≤ 5000) (hm : rows.length = m) (hmb : m ≤ 4096) (hg : Gens rows n) (hr : Rd2 w A rows) (hord : OrdR n rows limit 3 v code) :
    Calls Try.prog 73 #[.int .i64 n, .slice A m c, .int .i64 limit] w fun e w' => e = .returned (.tuple #[.int .i64 v, .int .i64 code]) ∧ Below w.heap.size w w' := by
  have HORD := hide hord
  have HM := hide hm
  have HG := hide hg
  clear hord hm hg
  go_enter Try.func73, Try.ntmps73
  go_wp2_with fail
  refine (upTo_ord n limit A m c rows w h1 h12 hl1 hl HM.out hmb HG.out hr).mono ?_
  rintro e w1 ⟨g, b, B, d, rfl, hb1, hobj⟩
  have HB1 := hide hb1
  have HO := hide hobj
  clear hb1 hobj
  cases b with
  | true =>
    have hres : v = (g : Int) ∧ code = 0 := by
      obtain ⟨_, L, hE, hl, hg⟩ := HO.out.resolve_right (fun h => by cases h.1)
      rcases HORD.out with ⟨L', hE', hl', hv, hc⟩ | ⟨hn2, _, _⟩
      · rw [← hl, hE.len hE']; exact ⟨hv, hc⟩
      · exact absurd ⟨L, hE, by omega⟩ hn2
    obtain ⟨rfl, rfl⟩ := hres
    go_wp2_with fail
    go_ret2
    exact ⟨rfl, HB1.out⟩
  | false =>
    have hres : v = 0 ∧ code = 3 := by
      obtain ⟨_, hn2⟩ := HO.out.resolve_left (fun h => by cases h.1)
      rcases HORD.out with ⟨L', hE', hl', hv, hc⟩ | ⟨_, hv, hc⟩
      · exact absurd ⟨L', hE', hl'⟩ hn2
      · exact ⟨hv, hc⟩
    obtain ⟨rfl, rfl⟩ := hres
    go_wp2_with fail
    go_ret2
    exact ⟨rfl, HB1.out⟩
end Go.Proofs.Ytgmloaemnbnbgaa
