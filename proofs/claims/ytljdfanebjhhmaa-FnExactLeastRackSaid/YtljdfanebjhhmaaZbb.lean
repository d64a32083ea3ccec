import Derived.Test.YtljdfanebjhhmaaZaj
import Derived.Test.YtljdfanebjhhmaaZab
import Derived.Test.YtljdfanebjhhmaaZu
import Derived.Test.YtljdfanebjhhmaaZaq
import Derived.Test.YtljdfanebjhhmaaZy
import Derived.Test.YtljdfanebjhhmaaZaw
import Derived.Test.YtljdfanebjhhmaaZm
import Derived.Test.YtljdfanebjhhmaaZap
import Derived.Test.YtljdfanebjhhmaaZa
import Derived.Test.YtljdfanebjhhmaaZg
import Derived.Deep.AppendLies
import Derived.Deep.RegionLaw
namespace Go.Proofs.Ytljdfanebjhhmaa
open Go Go.RowKit
set_option maxHeartbeats 2000000

set_option maxRecDepth 100000 in
theorem lrI_any (A : Option Addr) (n c : Nat) (f : List (List Int)) (zs : List (List Int)) (code : Int) (k : Nat) (w : World) (hn : f.length = n) (hb : n ≤ 1048576) (hbs : ∀ i, i < f.length → (f.getD i []).length ≤ 1048576) (hr : Rd2 w A f) (hres : LrRes f zs code) (hk : zs.length = k) :
    Calls Try.prog 27 #[.agg #[.slice A n c]] w (fun e w' => ∃ A' c', e = .returned (.tuple #[.agg #[.slice A' k c'], .int .i64 code]) ∧ Below w.heap.size w w' ∧ Obj2 33 2 w.heap.size w'.heap.size w' A' zs) := by
  have HN := hide hn
  have HBS := hide hbs
  have HRD := hide hr
  have HB0 := hide (((Below.refl _ w).alloc (Nat.le_refl _) (Obj.cells #[Value.slice A n c] 26)).alloc (by simp) (Obj.cells #[.slice none 0 0] 26))
  have HK0 := hide ((Blk.new w 26 [.slice A n c]).alloc (Obj.cells #[.slice none 0 0] 26))
  have HR0 : Hid (Blk ((w.alloc (Obj.cells #[Value.slice A n c] 26)).alloc (Obj.cells #[.slice none 0 0] 26)) (w.heap.size + 1) 26 [.slice none 0 0]) := hide (by have h := Blk.new (w.alloc (Obj.cells #[Value.slice A n c] 26)) 26 [.slice none 0 0]; simpa using h)
  by_cases hp : Rck f
  · have HRES : Hid (LeastRes f zs code) := hide (by
      rcases hres with ⟨_, h7, h1, h2⟩ | ⟨_, h7, h1, h2⟩ | ⟨h, _⟩
      · exact .inl ⟨hp.tbl, h7, h1, h2⟩
      · exact .inr (.inl ⟨hp.tbl, h7, h1, h2⟩)
      · exact absurd hp h)
    have HKZ := hide hk
    clear hres hk
    have HRK : Hid (RkRes f true) := hide (by unfold RkRes; simp [hp])
    have HP := hide hp
    clear hn hbs hr hp
    go_enter Try.func27, Try.ntmps27
    go_wp2_with fail
    refine (isRackI _ _ _ f true _ HN.out hb HBS.out (HRD.out.later HB0.out) HRK.out).mono ?_
    rintro e w1 ⟨rfl, hb1⟩
    have HB1 := hide (HB0.out.trans (hb1.mono HB0.out.size))
    have HK1 := hide (HK0.out.later hb1)
    have HR1 := hide (HR0.out.later hb1)
    clear hb1
    have k0 := HK1.out.cell 0 _ rfl
    go_wp2_with fail
    clear k0
    refine (leastI_any _ _ _ f zs code k _ HN.out hb HBS.out (HRD.out.later HB1.out) HRES.out HKZ.out).mono ?_
    rintro e w2 ⟨A2, c2, rfl, hb2, ho2⟩
    have HB2 := hide (HB1.out.trans (hb2.mono HB1.out.size))
    have HR2 := hide (HR1.out.later hb2)
    have HO2 := hide ho2
    have hlow : w.heap.size + 1 < w1.heap.size := HR1.out.lt
    clear hb2 ho2
    have k2 := HR2.out.cell 0 _ rfl
    have k3 := HR2.out.frozen 0
    go_wp2_with fail
    refine bp_gen fun wf hwf => ?_
    obtain ⟨q0, hbf, hof⟩ := kend hwf HR2.out (by omega) HB2.out HO2.out (by omega) hlow (Nat.le_refl _)
    clear hwf k2 k3
    exact bodyPost_ret (v := .tuple #[.agg #[.slice A2 k c2], .int .i64 code]) (by simp [results, Try.results27, go_sem, q0]) rfl ⟨_, _, rfl, hbf, hof⟩
  · obtain ⟨rfl, rfl⟩ : zs = [] ∧ code = 1 := by
      rcases hres with ⟨h, _⟩ | ⟨h, _⟩ | ⟨_, h⟩
      · exact absurd h hp
      · exact absurd h hp
      · exact h
    have hk0 : k = 0 := by rw [← hk]; rfl
    subst hk0
    clear hk hres
    have HRK : Hid (RkRes f false) := hide (by unfold RkRes; simp [hp])
    have HP := hide hp
    clear hn hbs hr hp
    go_enter Try.func27, Try.ntmps27
    go_wp2_with fail
    refine (isRackI _ _ _ f false _ HN.out hb HBS.out (HRD.out.later HB0.out) HRK.out).mono ?_
    rintro e w1 ⟨rfl, hb1⟩
    have HB1 := hide (HB0.out.trans (hb1.mono HB0.out.size))
    have HK1 := hide (HK0.out.later hb1)
    have HR1 := hide (HR0.out.later hb1)
    clear hb1
    have k2 := HR1.out.cell 0 _ rfl
    have k3 := HR1.out.frozen 0
    go_wp2_with fail
    refine bp_gen fun wf hwf => ?_
    have HRF : Blk wf (w.heap.size + 1) 26 [.slice none 0 0] := by rw [hwf]; first | exact HR1.out | exact HR1.out.set 0 _ | exact (HR1.out.set 0 _).set 1 _
    have hbf : Below w.heap.size w wf := by rw [hwf]; first | exact HB1.out | exact HB1.out.setCell (p := ⟨w.heap.size + 1, 0, none⟩) (by show w.heap.size ≤ w.heap.size + 1; omega) _ | exact (HB1.out.setCell (p := ⟨w.heap.size + 1, 0, none⟩) (by show w.heap.size ≤ w.heap.size + 1; omega) _).setCell (p := ⟨w.heap.size + 1, 1, none⟩) (by show w.heap.size ≤ w.heap.size + 1; omega) _
    have q0 := HRF.cell 0 _ rfl
    clear hwf k2 k3
    exact bodyPost_ret (v := .tuple #[.agg #[.slice none 0 0], .int .i64 1]) (by simp [results, Try.results27, go_sem, q0]) rfl ⟨_, _, rfl, hbf, .inl ⟨rfl, rfl⟩⟩

end Go.Proofs.Ytljdfanebjhhmaa
namespace Go.Proofs.Ytljdfanebjhhmaa
open Go Go.RowKit
set_option maxHeartbeats 4000000
theorem lkInfo : (Try.prog.info? 22).map (fun i => (i.zero, i.size, i.bytes)) = some (some (.slice none 0 0), 1, 24) := by kernel_rfl

set_option maxRecDepth 100000 in
theorem lstK_any (ba ca : Nat) (A : Option Addr) (n c : Nat) (rows : List (List Int)) (w : World) (hn : rows.length = n) (ht : Tbl rows) (h7 : n ≤ 7) (hcell : w.cell? ⟨ba, 0, none⟩ = some (.slice A n c)) (hba : ba < w.heap.size) (hr : Rd2 w A rows) :
    Calls Try.prog 58 #[.slice (some ⟨ba, 0, none⟩) 1 ca, .bool false] w fun e w' => ∃ go co A' c', e = .returned (.slice (some ⟨go, 0, none⟩) 1 co) ∧ Below w.heap.size w w' ∧ w'.cell? ⟨go, 0, none⟩ = some (.slice A' n c') ∧ Obj2 33 2 w.heap.size w'.heap.size w' A' (bestS rows n (permsS n).length) := by
  have HN := hide hn
  have hrl : ∀ i, i < rows.length → (rows.getD i []).length = n := fun i hi => by rw [ht.rows i hi]; exact hn
  have hsh := fun q => bestS_shape rows n q hn (fun i hi => hrl i (by omega))
  have HSH := hide hsh
  have HRL := hide hrl
  have hin : ∀ i j, i < n → j < n → 0 ≤ (rows.getD i []).getD j 0 ∧ (rows.getD i []).getD j 0 < (n : Int) := fun i j hi hj => by have := (ht.2.2 i (by omega)).2 j (by omega); rw [hn] at this; exact this
  have HIN := hide hin
  have h1n : 1 ≤ n := by have := ht.1; omega
  have HPA := hide (perms_all n h1n h7)
  have HPI := hide (perms_isP n h1n h7)
  have HCV := hide (fun k hk => renL_cover rows n k (tabF rows) hn h1n h7 hk)
  obtain ⟨N, hN⟩ : ∃ N, (permsS n).length = N := ⟨_, rfl⟩
  have HNN := hide hN
  have hNb : N ≤ 5040 := by have := HPA.out.most; omega
  have hNp : 0 < N := by have := HPA.out.pos; omega
  rw [hN]
  have HCELL := hide hcell
  have HR := hide hr
  obtain ⟨i0, hi, hz0, hz1, hz2⟩ := info_parts lkInfo
  clear hn hrl hin ht hsh hN hcell hr
  go_enter Try.func58, Try.ntmps58
  have ha0 := HCELL.out
  go_wp2_with fail
  clear ha0
  refine (l01Perms_any n _ h1n h7).mono ?_
  rintro e w2 ⟨A2, c2, rfl, hb2, hobj2⟩
  rw [HNN.out]
  have HB2 := hide hb2
  have HA2 := hide hobj2.rd
  clear hb2 hobj2
  go_wp2_with fail
  go_loopw [6, 7] (fun v i wr => ∃ (q bb cb : Nat) (A' : Option Addr) (c' : Nat), q ≤ N ∧ i = .int .i64 q ∧ v = .slice (some ⟨bb, 0, none⟩) 1 cb ∧ Below w.heap.size w wr ∧ bb < wr.heap.size ∧ wr.cell? ⟨bb, 0, none⟩ = some (.slice A' n c') ∧ Rd2 wr A' (bestS rows n q) ∧ Rd2 wr A2 (permsS n)) (fun _ i _ => N - (intOf i).toNat)
  case atStart => exact ⟨0, _, _, _, _, Nat.zero_le _, rfl, rfl, HB2.out, Nat.lt_of_lt_of_le hba HB2.out.size, (HB2.out.cell (p := ⟨ba, 0, none⟩) hba).trans HCELL.out, HR.out.later HB2.out, HA2.out⟩
  case round =>
    obtain ⟨q, bb, cb, A', c', hq, rfl, rfl, hbe, hbb, hbc, hbr, hpr⟩ := hrel
    have HB := hide hbe
    have HBC := hide hbc
    have HBR := hide hbr
    have HPR := hide hpr
    clear hbe hbc hbr hpr
    by_cases hlt : q < N
    · have hltz : (q : Int) < N := by omega
      go_wp2_with fail
      obtain ⟨wo, rfl⟩ : ∃ wo : World, wo = wr := ⟨_, rfl⟩
      go_loopw [8, 9] (fun v i wi => Below wo.heap.size wo wi ∧ wo.heap.size < wi.heap.size ∧ ((i = .int .i64 (0 : Nat) ∧ v = .slice (some ⟨wo.heap.size, 0, none⟩) 0 0 ∧ wi.ownsRow wo.heap.size 22 1 (.slice (some ⟨wo.heap.size, 0, none⟩) 0 0) 0 []) ∨
        (i = .int .i64 (1 : Nat) ∧ ∃ bi ci A4 c4, v = .slice (some ⟨bi, 0, none⟩) 1 ci ∧ bi < wi.heap.size ∧ wi.cell? ⟨bi, 0, none⟩ = some (.slice A4 n c4) ∧ Rd2 wi A4 (renL rows ((permsS n).getD q []))))) (fun _ i _ => 1 - (intOf i).toNat)
      case atStart => exact ⟨(Below.refl _ _).alloc (Nat.le_refl _) _, by simp, .inl ⟨rfl, rfl, kq_empty wo _⟩⟩
      case round =>
        obtain ⟨hbi, hsi, hor⟩ := hrel
        have HBI := hide hbi
        clear hbi
        have hlow : w.heap.size ≤ wo.heap.size := HB.out.size
        rcases hor with ⟨rfl, rfl, hown⟩ | ⟨rfl, bi, ci, A4, c4, rfl, hbi2, hcell4, hrd4⟩
        · have HO := hide hown
          clear hown
          have hba2 : ba < wo.heap.size := by omega
          have HA00 := hide ((HB.out.cell (p := ⟨ba, 0, none⟩) hba).trans HCELL.out)
          have ha0 := (HBI.out.cell (p := ⟨ba, 0, none⟩) hba2).trans HA00.out
          obtain ⟨bp, op, hA2e, hbw, hc⟩ := HPR.out (by have := HNN.out; omega)
          subst hA2e
          obtain ⟨A1, c1, hcell1, hr1⟩ := hc q (by have := HNN.out; omega)
          have hl := HPA.out.len q (by have := HNN.out; omega)
          have hpi := HPI.out q (by have := HNN.out; omega)
          have hcv := HCV.out q (by have := HNN.out; omega)
          obtain ⟨p, hpe⟩ : ∃ p, (permsS n).getD q [] = p := ⟨_, rfl⟩
          rw [hpe] at hcell1 hr1 hl hpi hcv ⊢
          rw [hl] at hcell1
          have HC11 := hide hcell1
          replace hcell1 := (HBI.out.cell (p := ⟨bp, op + q, none⟩) hbw).trans HC11.out
          have HL := hide hl
          have HR1 := hide hr1
          have HPI2 := hide hpi.1
          have HC4 := hide hcv
          clear hpe hc hr1 hl hpi hcv
          go_wp2_with fail
          go_region_law (first | (go_simp; go_at_call 86; go_must (refine calls_gen fun wc hwc => ?_; (first | have hbx := drew_below hwc | have hbx := eq_below hwc); replace HBI := hide (HBI.out.trans (hbx.mono HBI.out.size)); replace HO := hide (ownsRow_below HO.out hbx); have hsc := hbx.size; clear hwc hbx; refine (imageS_any _ n _ rows _ _ p _ HN.out HL.out h1n (by omega) HRL.out HIN.out HPI2.out ((HR.out.later HB.out).later HBI.out) (HR1.out.later HBI.out)).mono ?_; rintro e w4 ⟨A4, c4, rfl, hb4, hob4⟩; have HB4 := hide (HBI.out.trans (hb4.mono HBI.out.size)); have hs4 := hb4.size; have HO4 : Hid (w4.ownsRow wo.heap.size 22 1 (.slice (some ⟨wo.heap.size, 0, none⟩) 0 0) 0 []) := hide (ownsRow_below HO.out hb4); have HOB4 := hide hob4; clear hb4 hob4; have ha0 := (HB4.out.cell (p := ⟨ba, 0, none⟩) hba2).trans HA00.out; have hcell1 := (HB4.out.cell (p := ⟨bp, op + q, none⟩) hbw).trans HC11.out)) | (refine step_append_lies _ (by rfl) _ _ _ (by rfl) wo.heap.size 22 i0 _ 1 24 Try.underlying69 hi hz0 hz1 hz2 rfl (by omega) (.slice (some ⟨wo.heap.size, 0, none⟩) 0 0) 0 [] (by rfl) (HO4.out.alloc _) ⟨w4.heap.size, 0, none⟩ 1 1 [.slice A4 n c4] (by rfl) (by rfl) kq_new (by simp [Value.oneCell']) (by omega) (by unfold maxLen; omega) (by omega) (by simp; omega) (w4.heap.size + 1) (by simp) ?_; intro gg cap w5 hown5 hgrow5 hat5 hlt5))
          all_goals
            obtain ⟨g5, cap5, hv5, hcell5, hlt6, hobj5, hb5⟩ := app_one (lo := wc.heap.size) (hi := w4.heap.size) (by omega) hown5 hgrow5 HOB4.out (by omega) (Nat.le_refl _)
            injection hv5 with e51 e52 e53
            injection e51 with e51
            injection e51 with e51
            subst e51
            have HB5 := hide (HB4.out.trans hb5)
            have HC5 := hide hcell5
            have HR5 : Hid (Rd2 w5 A4 (renL rows p)) := hide (by have h := hobj5.rd; rw [HC4.out] at h; exact h)
            have hs5 := hb5.size
            clear hown5 hgrow5 hcell5 hobj5 hb5 ha0 hcell1
            go_wp2_with fail
            go_roundw
            case rel => exact ⟨HB5.out, by omega, .inr ⟨by go_num, _, _, _, _, rfl, hlt6, HC5.out, HR5.out⟩⟩
            case measure => simp [intOf]
        · have HC4 := hide hcell4
          have HR4 := hide hrd4
          clear hcell4 hrd4
          have ha0 := (HBI.out.cell (p := ⟨ba, 0, none⟩) (show ba < wo.heap.size by omega)).trans ((HB.out.cell (p := ⟨ba, 0, none⟩) hba).trans HCELL.out)
          have HB4 := hide (HB.out.trans (HBI.out.mono HB.out.size))
          have HBC4 := hide ((HBI.out.cell (p := ⟨bb, 0, none⟩) hbb).trans HBC.out)
          have HBR4 := hide (HBR.out.later HBI.out)
          have HPR4 := hide (HPR.out.later HBI.out)
          have hbst : bestS rows n (q + 1) = if lessT (renL rows ((permsS n).getD q [])) (bestS rows n q) then renL rows ((permsS n).getD q []) else bestS rows n q := rfl
          obtain ⟨p, hpe⟩ : ∃ p, (permsS n).getD q [] = p := ⟨_, rfl⟩
          rw [hpe] at hbst HR4
          have HBS := hide hbst
          clear hpe hbst
          obtain ⟨bv, hbv⟩ : ∃ bv, lessT (renL rows p) (bestS rows n q) = bv := ⟨_, rfl⟩
          have HBV := hide hbv
          clear hbv
          go_wp2_with fail
          refine (befS_any bi ci bb cb _ _ n _ _ (renL rows p) (bestS rows n q) _ (by rw [renL_length]; exact HN.out) (HSH.out q).1 (by omega) (fun i hi => by rw [renL_length] at hi; unfold renL; rw [grid_row_length _ _ _ hi]; exact HN.out) (fun i hi => (HSH.out q).2 i (by have := (HSH.out q).1; omega)) HC4.out HBC4.out HR4.out HBR4.out).mono ?_
          rintro e w5 ⟨rfl, hq5⟩
          rw [HBV.out]
          have S5 := (hq5.below 0).size
          have HB5 := hide (HB4.out.trans (hq5.below _))
          have HC5 := hide ((hq5.cell ⟨bi, 0, none⟩).trans HC4.out)
          have HBC5 := hide ((hq5.cell ⟨bb, 0, none⟩).trans HBC4.out)
          have HR5 := hide (hq5.rd2 HR4.out)
          have HBR5 := hide (hq5.rd2 HBR4.out)
          have HPR5 := hide (hq5.rd2 HPR4.out)
          clear hq5 ha0
          have hbb5 : bb < w5.heap.size := by omega
          have hbi5 : bi < w5.heap.size := by omega
          cases bv
          · go_wp2_with fail
            go_roundw
            case rel =>
              refine ⟨q + 1, bb, cb, A', c', by omega, by go_num, rfl, HB5.out, hbb5, HBC5.out, ?_, HPR5.out⟩
              rw [HBS.out, HBV.out]
              exact HBR5.out
            case measure => simp [intOf]; omega
          · go_wp2_with fail
            go_roundw
            case rel =>
              refine ⟨q + 1, bi, ci, A4, c4, by omega, by go_num, rfl, HB5.out, hbi5, HC5.out, ?_, HPR5.out⟩
              rw [HBS.out, HBV.out]
              exact HR5.out
            case measure => simp [intOf]; omega
    · have hqN : q = N := by omega
      subst hqN
      go_wp2_with fail
      obtain ⟨wo, rfl⟩ : ∃ wo : World, wo = wr := ⟨_, rfl⟩
      go_loopw [10, 11] (fun v i wi => Below wo.heap.size wo wi ∧ wo.heap.size < wi.heap.size ∧ ((i = .int .i64 (0 : Nat) ∧ v = .slice (some ⟨wo.heap.size, 0, none⟩) 0 0 ∧ wi.ownsRow wo.heap.size 22 1 (.slice (some ⟨wo.heap.size, 0, none⟩) 0 0) 0 []) ∨
        (i = .int .i64 (1 : Nat) ∧ ∃ bi ci A4 c4, v = .slice (some ⟨bi, 0, none⟩) 1 ci ∧ wi.cell? ⟨bi, 0, none⟩ = some (.slice A4 n c4) ∧ Obj2 33 2 w.heap.size wi.heap.size wi A4 (bestS rows n q)))) (fun _ i _ => 1 - (intOf i).toNat)
      case atStart => exact ⟨(Below.refl _ _).alloc (Nat.le_refl _) _, by simp, .inl ⟨rfl, rfl, kq_empty wo _⟩⟩
      case round =>
        obtain ⟨hbi, hsi, hor⟩ := hrel
        have HBI := hide hbi
        clear hbi
        have hlow : w.heap.size ≤ wo.heap.size := HB.out.size
        rcases hor with ⟨rfl, rfl, hown⟩ | ⟨rfl, bi, ci, A4, c4, rfl, hcell4, hobj4⟩
        · have HO := hide hown
          clear hown
          have ha0 := (HBI.out.cell (p := ⟨bb, 0, none⟩) hbb).trans HBC.out
          go_wp2_with fail
          refine (ownk_any _ n _ (bestS rows n q) _ (HSH.out q).1 h1n (by omega) (fun i hi => (HSH.out q).2 i (by have := (HSH.out q).1; omega)) (HBR.out.later HBI.out)).mono ?_
          rintro e w4 ⟨A4, c4, rfl, hb4, hob4⟩
          have HB4 := hide (HBI.out.trans (hb4.mono HBI.out.size))
          have hs4 := hb4.size
          have HO4 : Hid (w4.ownsRow wo.heap.size 22 1 (.slice (some ⟨wo.heap.size, 0, none⟩) 0 0) 0 []) := hide (ownsRow_below HO.out hb4)
          have HOB4 := hide hob4
          clear hb4 hob4 ha0
          go_wp2_with (at_builtin; refine wpList_append_own _ rfl _ _ 69 rfl wo.heap.size 22 i0 (.slice none 0 0) 1 24 Try.underlying69 hi hz0 hz1 hz2 rfl (by decide) _ _ _ rfl (HO4.out.alloc _) ⟨w4.heap.size, 0, none⟩ 1 1 [.slice A4 n c4] rfl rfl ?c1 ?c2 ?c3 ?c4 ?c5 ?_)
          case c1 => exact kq_new
          case c2 => intro u hu; simp at hu; subst hu; rfl
          case c3 => unfold maxLen; omega
          case c4 => omega
          case c5 => simp; omega
          intro v' w5 hown' hgrow _
          obtain ⟨g5, cap5, hv5, hcell5, hlt5, hobj5, hb5⟩ := app_one (lo := wr.heap.size) (hi := w4.heap.size) (by omega) hown' hgrow HOB4.out (by omega) (Nat.le_refl _)
          subst hv5
          have HB5 := hide (HB4.out.trans hb5)
          have HC5 := hide hcell5
          have hs5 := hb5.size
          have HR5 := hide (hobj5.mono (lo' := w.heap.size) (hi' := w5.heap.size) (by omega) hs5)
          clear hown' hgrow hcell5 hobj5 hb5
          go_wp2_with fail
          go_roundw
          case rel => exact ⟨HB5.out, by omega, .inr ⟨by go_num, _, _, _, _, rfl, HC5.out, HR5.out⟩⟩
          case measure => simp [intOf]
        · have HC4 := hide hcell4
          have HO4 := hide hobj4
          have HB4 := hide (HB.out.trans (HBI.out.mono HB.out.size))
          clear hcell4 hobj4
          go_wp2_with fail
          go_ret
          exact ⟨_, _, _, _, rfl, HB4.out, HC4.out, HO4.out⟩
end Go.Proofs.Ytljdfanebjhhmaa
