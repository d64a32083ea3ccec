import Derived.Test.YtocdcibfbecdgabProg
import Derived.Test.YtocdcibfbecdgabLst2
import Derived.Test.YtocdcibfbecdgabOwnS
import Derived.Test.YtocdcibfbecdgabHeld
import Derived.Deep.AppendLies
import Derived.Deep.RegionLaw
namespace Go.Proofs.Ytocdcibfbecdgab
open Go Go.RowKit
set_option maxHeartbeats 2000000

theorem twInfo : (Try.prog.info? 2).map (fun i => (i.zero, i.size, i.bytes)) = some (some (.int .i64 0), 1, 8) := by kernel_rfl
theorem twInfo2 : (Try.prog.info? 35).map (fun i => (i.zero, i.size, i.bytes)) = some (some (.slice none 0 0), 1, 24) := by kernel_rfl
theorem tw_new {w : World} {v : Value} {t : TypeId} : ∀ j u, [v][j]? = some u → (w.alloc (.cells #[v] t)).cell? ((⟨w.heap.size, 0, none⟩ : Addr).add j) = some u := by
  intro j u hj
  match j, hj with
  | 0, hj => simp at hj; subst hj; simp [Addr.add, World.cell?_alloc_new]

theorem grid_take_succ (n : Nat) (h : Nat → Nat → Int) (x : Nat) (hx : x < n) : (grid n h).take (x + 1) = (grid n h).take x ++ [(List.range n).map fun (y : Nat) => h x y] := by
  have hl : x < (grid n h).length := by rw [grid_length]; exact hx
  rw [List.take_succ_eq_append_getElem hl]
  have e := grid_row n h x hx
  rw [List.getD_eq_getElem?_getD, List.getElem?_eq_getElem hl] at e
  rw [show (grid n h)[x] = _ from e]
theorem rowh_len (n : Nat) (h : Nat → Int) : ((List.range n).map h).length = n := by simp

set_option maxRecDepth 100000 in
theorem twS_any (A : Option Addr) (n c : Nat) (p : List Int) (B : Option Addr) (d : Nat) (q : List Int) (w : World) (hn : p.length = n) (hm : q.length = n) (h1 : 1 ≤ n) (h12 : n ≤ 12) (hp : Rd w A p) (hq : Rd w B q) :
    Calls Try.prog 63 #[.slice A n c, .slice B n d] w fun e w' => ∃ A' c' B' d', e = .returned (.agg #[.slice A' n c', .slice B' n d']) ∧ Below w.heap.size w w' ∧ ObjW 35 2 w.heap.size w'.heap.size w' A' (grid n fun _ y => p.getD y 0) B' (grid n fun x _ => q.getD x 0) := by
  have HN := hide hn
  have HM := hide hm
  have HQR := hide hq
  obtain ⟨ba, oa, rfl, hba, hca⟩ := hp (by omega)
  have HCA := hide hca
  obtain ⟨i0, hi, hz0, hz1, hz2⟩ := info_parts twInfo
  obtain ⟨i2, hj, hy0, hy1, hy2⟩ := info_parts twInfo2
  clear hn hm hp hq hca
  go_enter Try.func63, Try.ntmps63
  go_wp2_with fail
  refine wp_gen fun w0 hw0 => ?_
  have hb0 : Below w.heap.size w w0 := by rw [hw0]; exact ((Below.refl _ _).alloc (Nat.le_refl _) _).alloc (by simp) _
  have HB0 := hide hb0
  have HR0 : Hid (Blk w0 w.heap.size 26 [.slice none 0 0, .slice none 0 0]) := hide (by rw [hw0]; exact (Blk.new _ _ _).alloc _)
  have HO0 : Hid (Blk w0 (w.heap.size + 1) 26 [.slice none 0 0, .slice none 0 0]) := hide (by rw [hw0]; have h := Blk.new (w.alloc (Obj.cells #[Value.slice none 0 0, Value.slice none 0 0] 26)) 26 [.slice none 0 0, .slice none 0 0]; simpa using h)
  have HTW0 := hide (Two.start w0 35 2 26 HO0.out)
  clear hw0 hb0
  go_loopw [6] (fun i wr => ∃ (x : Nat) (v1 v2 : Value) (vals1 vals2 : List Value), x ≤ n ∧ i = .int .i64 x ∧ Below w.heap.size w wr ∧ Blk wr w.heap.size 26 [.slice none 0 0, .slice none 0 0] ∧ Two 35 2 26 (w.heap.size + 1 + 1) wr (w.heap.size + 1) v1 v2 ((grid n fun _ y => p.getD y 0).take x) ((grid n fun x _ => q.getD x 0).take x) vals1 vals2) (fun i _ => n - (intOf i).toNat)
  case atStart => exact ⟨0, _, _, _, _, Nat.zero_le _, rfl, HB0.out, HR0.out, by simpa using HTW0.out⟩
  case round =>
    obtain ⟨x, v1, v2, vals1, vals2, hx, rfl, hbe, hrr, htw⟩ := hrel
    have HB := hide hbe
    have HR := hide hrr
    have HTW := hide htw
    clear hbe hrr htw
    by_cases hlt : x < n
    · have hxz : (x : Int) < n := by omega
      obtain ⟨qx, hqx⟩ : ∃ z, q.getD x 0 = z := ⟨_, rfl⟩
      have HQX := hide hqx
      obtain ⟨bq, oq, rfl, hbq, hcq⟩ := HQR.out (by have := HM.out; omega)
      have hq1 := hcq x (by have := HM.out; omega)
      rw [hqx] at hq1
      have HQ1 := hide hq1
      clear hqx hq1 hcq
      go_wp2_with fail
      obtain ⟨wo, rfl⟩ : ∃ wo : World, wo = wr := ⟨_, rfl⟩
      go_loopw [7, 8] (fun v i wi => ∃ y : Nat, y ≤ n ∧ i = .int .i64 y ∧ Below wo.heap.size wo wi ∧ wo.heap.size < wi.heap.size ∧ wi.ownsRow wo.heap.size 2 1 v y (ints (List.replicate y qx))) (fun _ i _ => n - (intOf i).toNat)
      case atStart => exact ⟨0, Nat.zero_le _, rfl, (Below.refl _ _).alloc (Nat.le_refl _) _, by simp, cl_empty wo _⟩
      case round =>
        obtain ⟨y, hy, rfl, hbi, hsi, hoi⟩ := hrel
        have HBI := hide hbi
        have HOI := hide hoi
        clear hbi hoi
        by_cases hlty : y < n
        · have hyz : (y : Int) < n := by omega
          have hq2 : wr.cell? ⟨bq, oq + x, none⟩ = some (.int .i64 qx) := ((HB.out.trans (HBI.out.mono HB.out.size)).cell (p := ⟨bq, oq + x, none⟩) hbq).trans HQ1.out
          go_wp2_with (at_builtin; refine wpList_append_own _ rfl _ _ 35 rfl wo.heap.size 2 i0 (.int .i64 0) 1 8 Try.underlying35 hi hz0 hz1 hz2 rfl (by decide) _ _ _ rfl (HOI.out.alloc _) ⟨wr.heap.size, 0, none⟩ 1 1 [.int .i64 qx] rfl rfl ?c1 ?c2 ?c3 ?c4 ?c5 ?_)
          case c1 => exact tw_new
          case c2 => intro u hu; simp at hu; subst hu; rfl
          case c3 => unfold maxLen; omega
          case c4 => omega
          case c5 => simp; omega
          intro v' w3 hown' hgrow _
          have HO3 := hide hown'
          have HB3 : Hid (Below wo.heap.size wo w3) := hide ((HBI.out.alloc HBI.out.size _).grown hgrow (by have := HBI.out.size; simp; omega) (fun g hg => ((HOI.out.alloc (.cells #[.int .i64 qx] 2)).lt g hg).1))
          have hs3 : wo.heap.size < w3.heap.size := by have := hgrow.size; simp at this; omega
          clear hown' hgrow
          go_wp2_with fail
          go_roundw
          case rel => exact ⟨y + 1, by omega, by go_num, HB3.out, hs3, by have h := HO3.out; rw [List.replicate_succ']; unfold ints at h ⊢; rw [List.map_append]; exact h⟩
          case measure => simp [intOf]; omega
        · have hyn : y = n := by omega
          subst hyn
          have HTL : Hid (((grid y fun _ z => p.getD z 0).take x).length = x) := hide (by rw [List.length_take, grid_length]; omega)
          have HTM : Hid (((grid y fun z _ => q.getD z 0).take x).length = x) := hide (by rw [List.length_take, grid_length]; omega)
          obtain ⟨A2, c2, hv2, hres2⟩ := own_shape HOI.out
          subst hv2
          have HRO := hide hres2.obj
          have HT2 := hide (HTW.out.later HBI.out)
          have HR2 := hide (HR.out.later HBI.out)
          have HB2 := hide (HB.out.trans (HBI.out.mono HB.out.size))
          clear hres2
          have k0 := HT2.out.box.cell 0 _ rfl
          have k1 := HT2.out.box.cell 1 _ rfl
          have k2 := HT2.out.box.frozen 0
          have k3 := HT2.out.box.frozen 1
          go_wp2_with fail
          clear k0 k1 k2 k3
          have k0 := HT2.out.box.cell 0 _ rfl
          have k1 := HT2.out.box.cell 1 _ rfl
          have k2 := HT2.out.box.frozen 0
          have k3 := HT2.out.box.frozen 1
          go_region_law (first | (go_simp; go_at_call 102; go_must (refine calls_gen fun wc hwc => ?_; (first | have hbx := drew_below hwc | have hbx := eq_below hwc); replace HB2 := hide (HB2.out.trans (hbx.mono HB2.out.size)); replace HT2 := hide (HT2.out.later hbx); replace HR2 := hide (HR2.out.later hbx); replace HRO := hide (HRO.out.later hbx); have hwx := hbx.size; clear hwc hbx; refine (own_any ba oa y c p _ HN.out (by omega) (by have := HB2.out.size; omega) (fun i hi => (HB2.out.cell (p := ⟨ba, oa + i, none⟩) hba).trans (HCA.out i hi))).mono ?_; rintro e wd ⟨v5, rfl, hbd, ho5⟩; obtain ⟨A5, c5, hv5, hr5⟩ := own_shape ho5; subst hv5; have HLW := hide HT2.out; replace HB2 := hide (HB2.out.trans (hbd.mono HB2.out.size)); replace HT2 := hide (HT2.out.later hbd); replace HR2 := hide (HR2.out.later hbd); replace HRO := hide (HRO.out.later hbd); have HR5 := hide hr5; have HOW1 : Hid (wd.ownsRow (w.heap.size + 1 + 1) 35 1 v1 x vals1) := hide (by have h := HT2.out.l1.own; rw [HTL.out] at h; exact h); have hobl := HT2.out.box.lt; have HWD : Hid (wr.heap.size ≤ wd.heap.size) := hide (by have := hbd.size; omega); clear hwx hbd ho5 hr5; have k0 := HT2.out.box.cell 0 _ rfl; have k1 := HT2.out.box.cell 1 _ rfl; have k2 := HT2.out.box.frozen 0; have k3 := HT2.out.box.frozen 1)) | (refine step_append_lies _ (by rfl) _ _ _ (by rfl) (w.heap.size + 1 + 1) 35 i2 _ 1 24 Try.underlying22 hj hy0 hy1 hy2 rfl (by omega) v1 x vals1 (by rfl) (HOW1.out.alloc _) ⟨wd.heap.size, 0, none⟩ 1 1 [.slice A5 y c5] (by rfl) (by rfl) tw_new (by simp [Value.oneCell']) (by omega) (by unfold maxLen; omega) (by omega) (by simp; omega) (wd.heap.size + 1) (by simp) ?_; intro gg cap w5 hown5 hgrow5 hat5 hlt5; have hbk := HT2.out.kept1 hgrow5; have k0 := hbk.cell 0 _ rfl; have k1 := hbk.cell 1 _ rfl; have k2 := hbk.frozen 0; have k3 := hbk.frozen 1))
          all_goals
            have HT3 := hide (HT2.out.add1 (by decide) (.inl HLW.out) (Nat.le_refl _) HR5.out.obj HTL.out HN.out hown5 hgrow5 hat5)
            have HB3 := hide (HT2.out.below1 hgrow5 (.slice (some ⟨gg, 0, none⟩) (x + 1) cap) HB2.out (by omega))
            have hr3 : Blk (w5.setCell ⟨w.heap.size + 1, 0, none⟩ (.slice (some ⟨gg, 0, none⟩) (x + 1) cap)) w.heap.size 26 [.slice none 0 0, .slice none 0 0] := (HT2.out.frame1 hgrow5 _ (by omega) (by omega) HR2.out.lt).trans HR2.out
            have HR3 := hide hr3
            have HRO3 := hide (row_kept (k := 0) (ob := w.heap.size + 1) (by decide) HT2.out.l1.own hgrow5 HRO.out HTW.out.bsz (.slice (some ⟨gg, 0, none⟩) (x + 1) cap))
            clear hown5 hat5 hlt5 hr3 hbk k0 k1 k2 k3
            have hsz6 : wr.heap.size ≤ (w5.setCell ⟨w.heap.size + 1, 0, none⟩ (.slice (some ⟨gg, 0, none⟩) (x + 1) cap)).heap.size := by have h1 := hgrow5.size; have h2 := HWD.out; simp at h1; simp [World.setCell]; omega
            clear hgrow5
            generalize hw6 : w5.setCell ⟨w.heap.size + 1, 0, none⟩ (.slice (some ⟨gg, 0, none⟩) (x + 1) cap) = w6 at HT3 HB3 HR3 HRO3 hsz6 ⊢
            have HRO4 := hide (HRO3.out.mono (Nat.le_refl _) hsz6)
            clear hw6 hsz6
            have k0 := HT3.out.box.cell 0 _ rfl
            have k1 := HT3.out.box.cell 1 _ rfl
            have k2 := HT3.out.box.frozen 0
            have k3 := HT3.out.box.frozen 1
            have k4 := fun o => (HT3.out.box.alloc o).cell 1 _ rfl
            have HOW2 : Hid (w6.ownsRow (w.heap.size + 1 + 1) 35 1 v2 x vals2) := hide (by have h := HT3.out.l2.own; rw [HTM.out] at h; exact h)
            have hobl := HT3.out.box.lt
            go_wp2_with (at_builtin; refine wpList_append_own_at _ rfl _ _ 22 rfl (w.heap.size + 1 + 1) 35 i2 (.slice none 0 0) 1 24 Try.underlying22 hj hy0 hy1 hy2 rfl (by decide) _ _ _ rfl (HOW2.out.alloc _) ⟨w6.heap.size, 0, none⟩ 1 1 [.slice A2 y c2] rfl rfl ?c1 ?c2 ?c3 ?c4 ?c5 ?_)
            case c1 => exact tw_new
            case c2 => intro u hu; simp at hu; subst hu; rfl
            case c3 => unfold maxLen; omega
            case c4 => omega
            case c5 => simp; omega
            intro v' w7 hown7 hgrow7 _ hat7
            obtain ⟨gg2, cap2, hv7⟩ := own_form hown7
            subst hv7
            have hat8 : v2.ownBlock = some gg2 ∨ gg2 = w6.heap.size + 1 := by
              rcases hat7 with e | e
              · exact .inl (e.symm.trans rfl)
              · refine .inr ?_
                have e2 : some gg2 = some (w6.heap.size + 1) := e
                injection e2
            have hbk := HT3.out.kept2 hgrow7
            have HT4 := hide (HT3.out.add2 (by decide) (.inr ⟨_, _, _, _, _, _, HTW.out, rfl, rfl, rfl⟩) (Nat.le_refl _) HRO4.out HTM.out (by simp) hown7 hgrow7 hat8)
            have HB4 := hide (HT3.out.below2 hgrow7 (.slice (some ⟨gg2, 0, none⟩) (x + 1) cap2) HB3.out (by omega))
            have hr4 : Blk (w7.setCell ⟨w.heap.size + 1, 1, none⟩ (.slice (some ⟨gg2, 0, none⟩) (x + 1) cap2)) w.heap.size 26 [.slice none 0 0, .slice none 0 0] := (HT3.out.frame2 hgrow7 _ (by omega) (by omega) HR3.out.lt).trans HR3.out
            have HR4 := hide hr4
            clear k0 k1 k2 k3 k4 hown7 hgrow7 hat7 hat8 hr4
            have k0 := hbk.cell 0 _ rfl
            have k1 := hbk.cell 1 _ rfl
            have k2 := hbk.frozen 0
            have k3 := hbk.frozen 1
            clear hbk
            go_wp2_with fail
            go_roundw
            case rel =>
              refine ⟨x + 1, .slice (some ⟨gg, 0, none⟩) (x + 1) cap, .slice (some ⟨gg2, 0, none⟩) (x + 1) cap2, vals1 ++ [.slice A5 y c5], vals2 ++ [.slice A2 y c2], by omega, by go_num, HB4.out, HR4.out, ?_⟩
              rw [grid_take_succ _ _ _ hlt, grid_take_succ _ _ _ hlt]
              have e1 : (List.range y).map (fun (z : Nat) => p.getD z 0) = p := by
                have h := HN.out
                apply List.ext_getElem (by simp [h])
                intro i h3 h4
                simp [h4]
              have e2 : (List.range y).map (fun (_ : Nat) => q.getD x 0) = List.replicate y qx := by
                rw [HQX.out]
                apply List.ext_getElem (by simp)
                intro i h3 h4
                simp
              rw [e1, e2]
              exact HT4.out
            case measure => simp [intOf]; omega
    · have hxn : x = n := by omega
      subst hxn
      obtain ⟨A1, c1, hv1, ho1⟩ := HTW.out.l1.shape
      obtain ⟨A2, c2, hv2, ho2⟩ := HTW.out.l2.shape
      rw [List.take_of_length_le (by rw [grid_length]; omega)] at hv1 ho1 hv2 ho2
      rw [grid_length] at hv1 hv2
      subst hv1
      subst hv2
      have HA1 := hide ho1
      have HA2 := hide ho2
      clear ho1 ho2
      have k0 := HTW.out.box.cell 0 _ rfl
      have k1 := HTW.out.box.cell 1 _ rfl
      have k2 := HR.out.cell 0 _ rfl
      have k3 := HR.out.cell 1 _ rfl
      have k4 := HR.out.frozen 0
      have k5 := HR.out.frozen 1
      go_wp2_with fail
      refine bp_gen fun wf hwf => ?_
      obtain ⟨q0, q1, hbf, hof⟩ := wend2 (ts := 35) (t := 2) (f := grid x fun _ y => p.getD y 0) (s := grid x fun x _ => q.getD x 0) hwf HR.out (Nat.le_refl _) HB.out (ObjT.of HA1.out (by omega) (Nat.le_refl _)) (ObjT.of HA2.out (by omega) (Nat.le_refl _))
      clear hwf k0 k1 k2 k3 k4 k5
      exact bodyPost_ret (v := .agg #[.slice A1 x c1, .slice A2 x c2]) (by simp [results, Try.results63, go_sem, q0, q1]) rfl ⟨_, _, _, _, rfl, hbf, hof⟩
end Go.Proofs.Ytocdcibfbecdgab
