import Derived.Test.YtngfdkmiifpbgaaZo
import Derived.Test.YtngfdkmiifpbgaaZal
import Derived.Test.YtngfdkmiifpbgaaZai
import Derived.Test.YtngfdkmiifpbgaaZt
import Derived.Test.YtngfdkmiifpbgaaZp
import Derived.Deep.AppendLies
import Derived.Deep.Cut
import Derived.Deep.RegionHeld3
namespace Go.Proofs.Ytngfdkmiifpbgaa
open Go Go.RowKit
set_option maxHeartbeats 4000000

def cjL (f : List (List Int)) (n : Nat) : List (List Int) := grid n (fun x y => (cj f x y : Int))
set_option maxRecDepth 100000 in
theorem innerS_any (A : Option Addr) (n c : Nat) (f : List (List Int)) (w : World) (hn : f.length = n) (hg : Grp f) (hr : Rd2 w A f) :
    Calls Try.prog 100 #[.slice A n c] w fun e w' => ∃ A' c', e = .returned (.slice A' n c') ∧ Below w.heap.size w w' ∧ Obj2 42 2 w.heap.size w'.heap.size w' A' (cjL f n) := by
  have HN := hide hn
  have HG := hide hg
  have HTB := hide hg.tbl
  have HRD := hide hr
  have h1 : 1 ≤ n := (hg.pos hn).1
  have h12 : n ≤ 12 := (hg.pos hn).2
  obtain ⟨b1, o1, hA, hb1w, hc1⟩ := HTB.out.cells hr hn
  subst hA
  have HC1 := hide hc1
  clear hc1 hn hg hr
  unfold cjL
  obtain ⟨H, hH⟩ : ∃ H : Nat → Nat → Int, (fun x y => (cj f x y : Int)) = H := ⟨_, rfl⟩
  rw [hH]
  have HH := hide hH
  clear hH
  obtain ⟨i0, hi, hz0, hz1, hz2⟩ := info_parts neInfo
  obtain ⟨i2, hj, hy0, hy1, hy2⟩ := info_parts neInfo2
  go_enter Try.func100, Try.ntmps100
  go_wp2_with fail
  go_loopw [3, 4] (fun v i wr => ∃ (x : Nat) (vals : List Value), x ≤ n ∧ i = .int .i64 x ∧ Below w.heap.size w wr ∧ LstV 42 2 w.heap.size wr v ((grid n H).take x) vals ∧ w.heap.size ≤ wr.heap.size) (fun _ i _ => n - (intOf i).toNat)
  case atStart => exact ⟨0, [], Nat.zero_le _, rfl, (Below.refl _ _).alloc (Nat.le_refl _) _, by simpa using LstV.start w _ _, by simp⟩
  case round =>
    obtain ⟨x, vals, hx, rfl, hbe, hlst, hsz⟩ := hrel
    have HB := hide hbe
    have HL := hide hlst
    clear hbe hlst
    by_cases hlt : x < n
    · have hxz : (x : Int) < n := by omega
      go_wp2_with fail
      obtain ⟨wo, rfl⟩ : ∃ wo : World, wo = wr := ⟨_, rfl⟩
      go_loopw [5, 6] (fun v i wi => ∃ y : Nat, y ≤ n ∧ i = .int .i64 y ∧ Below wo.heap.size wo wi ∧ wo.heap.size < wi.heap.size ∧ wi.ownsRow wo.heap.size 2 1 v y (ints ((frow n H x).take y))) (fun _ i _ => n - (intOf i).toNat)
      case atStart => exact ⟨0, Nat.zero_le _, rfl, (Below.refl _ _).alloc (Nat.le_refl _) _, by simp, by simpa [ints] using ne_empty wo _⟩
      case round =>
        obtain ⟨y, hy, rfl, hbi, hsi, hoi⟩ := hrel
        have HBI := hide hbi
        have HOI := hide hoi
        clear hbi hoi
        by_cases hlty : y < n
        · have hyz : (y : Int) < n := by omega
          have HBW := hide (HB.out.trans (HBI.out.mono HB.out.size))
          obtain ⟨v, hv⟩ : ∃ v, bk f x = v := ⟨_, rfl⟩
          have hvn : v < n := by rw [← hv]; exact HG.out.bk_lt HN.out hlt
          have hun := HG.out.lt HN.out hlt hlty
          obtain ⟨u, hu⟩ : ∃ u, ap f x y = u := ⟨_, rfl⟩
          rw [hu] at hun
          obtain ⟨r, hr0⟩ : ∃ r, ap f u v = r := ⟨_, rfl⟩
          have hpr : H x y = (r : Int) := by rw [← HH.out]; show ((cj f x y : Nat) : Int) = _; unfold cj; rw [hv, hu, hr0]
          obtain ⟨bx, ox, cx, r1, lx, g1⟩ := HC1.out x hlt
          obtain ⟨bu, ou, cu, r3, lu, g3⟩ := HC1.out u hun
          have r2 := g1 y hlty
          have r4 := g3 v hvn
          rw [hu] at r2
          rw [hr0] at r4
          have hvz : (v : Int) < n := by omega
          have huz : (u : Int) < n := by omega
          have R1 := hide r1
          have R2 := hide r2
          have R3 := hide r3
          have R4 := hide r4
          have HV := hide hv
          have HCELL := hide hpr
          clear hu hr0 hpr g1 g3 hv r1 r2 r3 r4
          have ff0 : wr.cell? ⟨b1, o1 + x, none⟩ = some (.slice (some ⟨bx, ox, none⟩) n cx) := (HBW.out.cell (p := ⟨b1, o1 + x, none⟩) hb1w).trans R1.out
          have ff1 : wr.cell? ⟨bx, ox + y, none⟩ = some (.int .i64 u) := (HBW.out.cell (p := ⟨bx, ox + y, none⟩) lx).trans R2.out
          have ff2 : wr.cell? ⟨b1, o1 + u, none⟩ = some (.slice (some ⟨bu, ou, none⟩) n cu) := (HBW.out.cell (p := ⟨b1, o1 + u, none⟩) hb1w).trans R3.out
          have ff3 : wr.cell? ⟨bu, ou + v, none⟩ = some (.int .i64 r) := (HBW.out.cell (p := ⟨bu, ou + v, none⟩) lu).trans R4.out
          go_wp2_with fail
          go_region_held3 (fun w' => w'.cell? ⟨b1, o1 + x, none⟩ = some (.slice (some ⟨bx, ox, none⟩) n cx) ∧ w'.cell? ⟨bx, ox + y, none⟩ = some (.int .i64 u) ∧ w'.cell? ⟨b1, o1 + u, none⟩ = some (.slice (some ⟨bu, ou, none⟩) n cu) ∧ w'.cell? ⟨bu, ou + v, none⟩ = some (.int .i64 r)) (first | exact ⟨ff0, ff1, ff2, ff3⟩ | go_keep) (first | (go_at_call 55; go_must (refine calls_gen fun wc hwc => ?_; (first | have hbx := drew_below hwc | have hbx := eq_below hwc); have HBJ0 := hide (HBI.out.trans (hbx.mono HBI.out.size)); have HOJ0 := hide (ownsRow_below HOI.out hbx); have hsj0 : wo.heap.size < wc.heap.size := (by have := hbx.size; omega); clear hwc hbx; refine (gq_below (backS_any _ n _ f x _ HN.out HTB.out HG.out.prm (HRD.out.later (HB.out.trans (HBJ0.out.mono HB.out.size))) (by omega))).mono ?_; rintro e wd ⟨rfl, hbd⟩; rw [HV.out]; have HBJ := hide (HBJ0.out.trans (hbd.mono HBJ0.out.size)); have HOJ := hide (ownsRow_below HOJ0.out hbd); have hsj : wo.heap.size < wd.heap.size := (by have := hbd.size; omega); clear hbd; have HBV := hide (HB.out.trans (HBJ.out.mono HB.out.size)); have ff0 : wd.cell? ⟨b1, o1 + x, none⟩ = some (.slice (some ⟨bx, ox, none⟩) n cx) := (HBV.out.cell (p := ⟨b1, o1 + x, none⟩) hb1w).trans R1.out; have ff1 : wd.cell? ⟨bx, ox + y, none⟩ = some (.int .i64 u) := (HBV.out.cell (p := ⟨bx, ox + y, none⟩) lx).trans R2.out; have ff2 : wd.cell? ⟨b1, o1 + u, none⟩ = some (.slice (some ⟨bu, ou, none⟩) n cu) := (HBV.out.cell (p := ⟨b1, o1 + u, none⟩) hb1w).trans R3.out; have ff3 : wd.cell? ⟨bu, ou + v, none⟩ = some (.int .i64 r) := (HBV.out.cell (p := ⟨bu, ou + v, none⟩) lu).trans R4.out)) | (refine step_append_lies _ (by rfl) _ _ _ (by rfl) wo.heap.size 2 i0 _ 1 8 Try.underlying42 hi hz0 hz1 hz2 rfl (by omega) u5 y (ints ((frow n H x).take y)) (by rfl) (HOJ.out.alloc _) ⟨wd.heap.size, 0, none⟩ 1 1 [.int .i64 r] (by rfl) (by rfl) ne_new (by simp [Value.oneCell']) (by omega) (by unfold maxLen; omega) (by omega) (by simp; omega) (wd.heap.size + 1) (by simp) ?_; go_must (intro gg cap w3 hown' hgrow _ _; have HO3 := hide hown'; have HB3 : Hid (Below wo.heap.size wo w3) := (by first | exact hide ((HBJ.out.alloc HBJ.out.size _).drew.grown hgrow (by have := HBJ.out.size; simp; omega) (fun g hg => ((HOJ.out.alloc (.cells #[.int .i64 r] 2)).lt g hg).1)) | exact hide ((HBJ.out.alloc HBJ.out.size _).grown hgrow (by have := HBJ.out.size; simp; omega) (fun g hg => ((HOJ.out.alloc (.cells #[.int .i64 r] 2)).lt g hg).1))); have hs3 : wo.heap.size < w3.heap.size := (by have := hgrow.size; simp at this; omega); have HBV3 := hide (HB.out.trans (HB3.out.mono HB.out.size)); clear hown' hgrow; have ff0 : w3.cell? ⟨b1, o1 + x, none⟩ = some (.slice (some ⟨bx, ox, none⟩) n cx) := (HBV3.out.cell (p := ⟨b1, o1 + x, none⟩) hb1w).trans R1.out; have ff1 : w3.cell? ⟨bx, ox + y, none⟩ = some (.int .i64 u) := (HBV3.out.cell (p := ⟨bx, ox + y, none⟩) lx).trans R2.out; have ff2 : w3.cell? ⟨b1, o1 + u, none⟩ = some (.slice (some ⟨bu, ou, none⟩) n cu) := (HBV3.out.cell (p := ⟨b1, o1 + u, none⟩) hb1w).trans R3.out; have ff3 : w3.cell? ⟨bu, ou + v, none⟩ = some (.int .i64 r) := (HBV3.out.cell (p := ⟨bu, ou + v, none⟩) lu).trans R4.out)))
          all_goals
            clear ff0 ff1 ff2 ff3
            go_wp2_with fail
            go_roundw
            case rel => exact ⟨y + 1, by omega, by go_num, HB3.out, hs3, by have h := HO3.out; rw [← HCELL.out, frow_take _ _ _ _ hlty] at h; exact h⟩
            case measure => simp [intOf]; omega
        · have hyn : y = n := by omega
          subst hyn
          have HTM : Hid (((grid y H).take x).length = x) := hide (by rw [List.length_take, grid_length]; omega)
          obtain ⟨A2, c2, hv2, hres2⟩ := own_shape HOI.out
          subst hv2
          have HRO := hide hres2.obj
          have HL3 := hide (HL.out.later HBI.out)
          have HRL : Hid ((frow y H x).length = y) := hide (frow_length _ _ _)
          have HTK : Hid ((frow y H x).take y = frow y H x) := hide (List.take_of_length_le (by rw [HRL.out]; exact Nat.le_refl _))
          have HOW2 : Hid (wr.ownsRow w.heap.size 42 1 u3 x vals) := hide (by have h := HL3.out.own; rw [HTM.out] at h; exact h)
          have hs3 : w.heap.size ≤ wr.heap.size := by have := HBI.out.size; omega
          clear hres2
          go_wp2_with (at_builtin; refine wpList_append_own _ rfl _ _ 22 rfl w.heap.size 42 i2 (.slice none 0 0) 1 24 Try.underlying22 hj hy0 hy1 hy2 rfl (by decide) _ _ _ rfl (HOW2.out.alloc _) ⟨wr.heap.size, 0, none⟩ 1 1 [.slice A2 y c2] rfl rfl ?c1 ?c2 ?c3 ?c4 ?c5 ?_)
          case c1 => exact ne_new
          case c2 => intro u hu; simp at hu; subst hu; rfl
          case c3 => unfold maxLen; omega
          case c4 => omega
          case c5 => simp; omega
          intro v' w7 hown7 hgrow7 _
          have HO7 := hide hown7
          have HG7 := hide hgrow7
          clear hown7 hgrow7
          go_wp2_with fail
          go_roundw
          case rel =>
            have hB7 : Below w.heap.size w w7 := ((HB.out.trans (HBI.out.mono HB.out.size)).alloc hs3 _).grown HG7.out (by simp; omega) (fun g hg => (HOW2.out.alloc (.cells #[.slice A2 y c2] 42)).lt g hg |>.1)
            have hpush := LstV.push (tmp := .cells #[.slice A2 y c2] 42) (A := A2) (c := c2) (r := frow y H x) (w1 := w7) (v' := v') (by decide) hsz HL.out HBI.out (by have h := HRO.out; rw [HTK.out] at h; exact h) (by rw [HTM.out, HRL.out]; exact HO7.out) HG7.out
            refine ⟨x + 1, vals ++ [.slice A2 (frow y H x).length c2], by omega, by go_num, hB7, ?_, by have := hB7.size; omega⟩
            rw [grid_take _ _ _ hlt]
            exact hpush
          case measure => simp [intOf]; omega
    · have hxn : x = n := by omega
      subst hxn
      go_wp2_with fail
      have h := HL.out
      rw [List.take_of_length_le (by rw [grid_length]; exact Nat.le_refl _)] at h
      go_ret
      obtain ⟨A', c', hv, hobj⟩ := h.shape
      rw [grid_length] at hv
      exact ⟨A', c', by rw [← hv]; rfl, HB.out, hobj⟩

theorem cjL_at {f : List (List Int)} {n x y : Nat} (hx : x < n) (hy : y < n) : ap (cjL f n) x y = cj f x y := by unfold ap cjL; rw [grid_at _ _ _ _ hx hy]; simp
theorem cjL_tbl {f : List (List Int)} {n : Nat} (hn : f.length = n) (hg : Grp f) : Tbl (cjL f n) := by
  have h1 := hg.pos hn
  refine ⟨by unfold cjL; rw [grid_length]; exact h1.1, by unfold cjL; rw [grid_length]; exact h1.2, fun i hi => ?_⟩
  unfold cjL at hi ⊢
  rw [grid_length] at hi ⊢
  refine ⟨grid_row_length _ _ _ hi, fun v hv => ?_⟩
  rw [grid_at _ _ _ _ hi hv]
  have := hg.cj_lt hn hi hv
  omega

set_option maxRecDepth 100000 in
theorem subS_any (A : Option Addr) (n c : Nat) (f : List (List Int)) (x code : Int) (w : World) (hn : f.length = n) (hb : n ≤ 1048576) (hbs : ∀ i, i < f.length → (f.getD i []).length ≤ 1048576) (hr : Rd2 w A f) (hlo : -9223372036854775808 ≤ x) (hhi : x ≤ 9223372036854775807) (hres : SubC f x code) :
    Calls Try.prog 73 #[.agg #[.slice A n c], .int .i64 x] w (fun e w' => e = .returned (.int .i64 code) ∧ Below w.heap.size w w') := by
  have HN := hide hn
  have HRD := hide hr
  have HB0 := hide ((Below.refl _ w).alloc (Nat.le_refl _) (Obj.cells #[Value.slice A n c] 27))
  have HK0 := hide (Blk.new w 27 [.slice A n c])
  have HBS := hide hbs

  rcases hres with ⟨hg, ⟨S, rfl, hS, hsg⟩, rfl⟩ | ⟨hg, rfl⟩ | ⟨hg, hx, rfl⟩ | ⟨hg, ⟨S, rfl, hS, hsg⟩, rfl⟩
  · have HG := hide hg
    have HTB := hide hg.tbl
    have h1 : 1 ≤ n := (hg.pos HN.out).1
    have h12 : n ≤ 12 := (hg.pos HN.out).2
    clear hg hn hr hbs
    obtain ⟨p, hp⟩ : ∃ p, 2 ^ n = p := ⟨_, rfl⟩
    have hp12 : p ≤ 4096 := by rw [← hp]; exact pow_le n h12
    have hp1 : 1 ≤ p := by rw [← hp]; exact Nat.pos_of_ne_zero (by simp)
    have g1 : (2 : Int) ^ n = (p : Int) := by rw [← hp]; simp
    have g3 : IntKind.i64.wrap (p : Int) = (p : Int) := IntWalk.i64_in _ (by omega)
    have g4 : IntKind.u64.wrap (n : Int) = (n : Int) := by rw [IntKind.wrap_u64]; omega
    have hSp : S < p := by rw [← hp, ← HN.out]; exact hS
    have HS : Hid (S < 2 ^ n) := hide (by rw [← HN.out]; exact hS)
    have HSG := hide hsg
    clear hp hS hsg
    have hm : ((S : Int)).tmod 2 = 1 := by have h := (inb0 S).1 HSG.out.1; rw [show (S : Int).tmod 2 = ((S % 2 : Nat) : Int) from by rw [show ((2 : Int)) = ((2 : Nat) : Int) from rfl, Int.ofNat_tmod], h]; rfl
    go_enter Try.func73, Try.ntmps73
    have k0 := HK0.out.cell 0 _ rfl
    go_wp2_with fail
    clear k0
    refine (gq_below (isGrpS_any _ _ _ f true _ HN.out hb HBS.out (HRD.out.later HB0.out) ⟨fun _ => HG.out, fun _ => rfl⟩)).mono ?_
    rintro e w1 ⟨rfl, hb1⟩
    have HB1 := hide (HB0.out.trans (hb1.mono HB0.out.size))
    have HK1 := hide (HK0.out.later hb1)
    clear hb1
    have k0 := HK1.out.cell 0 _ rfl
    go_wp2_with fail
    clear k0
    refine (hp_below (in_any (S : Int) 0 _ true _ (by simp only [true_iff]; omega))).mono ?_
    rintro e w2 ⟨rfl, hb1⟩
    have HB2 := hide (HB1.out.trans (hb1.mono HB1.out.size))
    have HK2 := hide (HK1.out.later hb1)
    clear hb1
    have k0 := HK2.out.cell 0 _ rfl
    go_wp2_with fail
    clear k0
    refine (l04Closed_any _ n _ f S true _ HN.out HTB.out (HRD.out.later HB2.out) HS.out ⟨fun _ => HSG.out.2, fun _ => rfl⟩).mono ?_
    rintro e w3 ⟨rfl, hb1⟩
    have HB3 := hide (HB2.out.trans (hb1.mono HB2.out.size))
    have HK3 := hide (HK2.out.later hb1)
    clear hb1
    go_wp2_with fail
    go_ret
    exact ⟨rfl, HB3.out⟩
  · have HG := hide hg
    clear hg hn hr hbs
    go_enter Try.func73, Try.ntmps73
    have k0 := HK0.out.cell 0 _ rfl
    go_wp2_with fail
    clear k0
    refine (gq_below (isGrpS_any _ _ _ f false _ HN.out hb HBS.out (HRD.out.later HB0.out) ⟨fun h => (by cases h), fun h => absurd h HG.out⟩)).mono ?_
    rintro e w1 ⟨rfl, hb1⟩
    have HB1 := hide (HB0.out.trans (hb1.mono HB0.out.size))
    have HK1 := hide (HK0.out.later hb1)
    clear hb1
    go_wp2_with fail
    go_ret
    exact ⟨rfl, HB1.out⟩
  · rw [hn] at hx
    have HG := hide hg
    have HTB := hide hg.tbl
    have h1 : 1 ≤ n := (hg.pos HN.out).1
    have h12 : n ≤ 12 := (hg.pos HN.out).2
    clear hg hn hr hbs
    obtain ⟨p, hp⟩ : ∃ p, 2 ^ n = p := ⟨_, rfl⟩
    have hp12 : p ≤ 4096 := by rw [← hp]; exact pow_le n h12
    have hp1 : 1 ≤ p := by rw [← hp]; exact Nat.pos_of_ne_zero (by simp)
    have g1 : (2 : Int) ^ n = (p : Int) := by rw [← hp]; simp
    have g3 : IntKind.i64.wrap (p : Int) = (p : Int) := IntWalk.i64_in _ (by omega)
    have g4 : IntKind.u64.wrap (n : Int) = (n : Int) := by rw [IntKind.wrap_u64]; omega
    rw [hp] at hx
    clear hp
    go_enter Try.func73, Try.ntmps73
    have k0 := HK0.out.cell 0 _ rfl
    go_wp2_with fail
    clear k0
    refine (gq_below (isGrpS_any _ _ _ f true _ HN.out hb HBS.out (HRD.out.later HB0.out) ⟨fun _ => HG.out, fun _ => rfl⟩)).mono ?_
    rintro e w1 ⟨rfl, hb1⟩
    have HB1 := hide (HB0.out.trans (hb1.mono HB0.out.size))
    have HK1 := hide (HK0.out.later hb1)
    clear hb1
    have k0 := HK1.out.cell 0 _ rfl
    go_wp2_with fail
    clear k0
    refine (hp_below (in_any x 0 _ false _ (by simp only [Bool.false_eq_true, false_iff]; omega))).mono ?_
    rintro e w2 ⟨rfl, hb1⟩
    have HB2 := hide (HB1.out.trans (hb1.mono HB1.out.size))
    have HK2 := hide (HK1.out.later hb1)
    clear hb1
    clear hx
    go_wp2_with fail
    go_ret
    exact ⟨rfl, HB2.out⟩
  · have HG := hide hg
    have HTB := hide hg.tbl
    have h1 : 1 ≤ n := (hg.pos HN.out).1
    have h12 : n ≤ 12 := (hg.pos HN.out).2
    clear hg hn hr hbs
    obtain ⟨p, hp⟩ : ∃ p, 2 ^ n = p := ⟨_, rfl⟩
    have hp12 : p ≤ 4096 := by rw [← hp]; exact pow_le n h12
    have hp1 : 1 ≤ p := by rw [← hp]; exact Nat.pos_of_ne_zero (by simp)
    have g1 : (2 : Int) ^ n = (p : Int) := by rw [← hp]; simp
    have g3 : IntKind.i64.wrap (p : Int) = (p : Int) := IntWalk.i64_in _ (by omega)
    have g4 : IntKind.u64.wrap (n : Int) = (n : Int) := by rw [IntKind.wrap_u64]; omega
    have hSp : S < p := by rw [← hp, ← HN.out]; exact hS
    have HS : Hid (S < 2 ^ n) := hide (by rw [← HN.out]; exact hS)
    have HSG := hide hsg
    clear hp hS hsg
    by_cases hodd : S % 2 = 1
    · have hm : ((S : Int)).tmod 2 = 1 := by rw [show (S : Int).tmod 2 = ((S % 2 : Nat) : Int) from by rw [show ((2 : Int)) = ((2 : Nat) : Int) from rfl, Int.ofNat_tmod], hodd]; rfl
      have HNC : Hid (¬ ClosedF f S) := hide fun h => HSG.out ⟨(inb0 S).2 hodd, h⟩
      go_enter Try.func73, Try.ntmps73
      have k0 := HK0.out.cell 0 _ rfl
      go_wp2_with fail
      clear k0
      refine (gq_below (isGrpS_any _ _ _ f true _ HN.out hb HBS.out (HRD.out.later HB0.out) ⟨fun _ => HG.out, fun _ => rfl⟩)).mono ?_
      rintro e w1 ⟨rfl, hb1⟩
      have HB1 := hide (HB0.out.trans (hb1.mono HB0.out.size))
      have HK1 := hide (HK0.out.later hb1)
      clear hb1
      have k0 := HK1.out.cell 0 _ rfl
      go_wp2_with fail
      clear k0
      refine (hp_below (in_any (S : Int) 0 _ true _ (by simp only [true_iff]; omega))).mono ?_
      rintro e w2 ⟨rfl, hb1⟩
      have HB2 := hide (HB1.out.trans (hb1.mono HB1.out.size))
      have HK2 := hide (HK1.out.later hb1)
      clear hb1
      have k0 := HK2.out.cell 0 _ rfl
      go_wp2_with fail
      clear k0
      refine (l04Closed_any _ n _ f S false _ HN.out HTB.out (HRD.out.later HB2.out) HS.out ⟨fun h => (by cases h), fun h => absurd h HNC.out⟩).mono ?_
      rintro e w3 ⟨rfl, hb1⟩
      have HB3 := hide (HB2.out.trans (hb1.mono HB2.out.size))
      have HK3 := hide (HK2.out.later hb1)
      clear hb1
      go_wp2_with fail
      go_ret
      exact ⟨rfl, HB3.out⟩
    · have hm : ((S : Int)).tmod 2 = 0 := by rw [show (S : Int).tmod 2 = ((S % 2 : Nat) : Int) from by rw [show ((2 : Int)) = ((2 : Nat) : Int) from rfl, Int.ofNat_tmod], show S % 2 = 0 by omega]; rfl
      go_enter Try.func73, Try.ntmps73
      have k0 := HK0.out.cell 0 _ rfl
      go_wp2_with fail
      clear k0
      refine (gq_below (isGrpS_any _ _ _ f true _ HN.out hb HBS.out (HRD.out.later HB0.out) ⟨fun _ => HG.out, fun _ => rfl⟩)).mono ?_
      rintro e w1 ⟨rfl, hb1⟩
      have HB1 := hide (HB0.out.trans (hb1.mono HB0.out.size))
      have HK1 := hide (HK0.out.later hb1)
      clear hb1
      have k0 := HK1.out.cell 0 _ rfl
      go_wp2_with fail
      clear k0
      refine (hp_below (in_any (S : Int) 0 _ true _ (by simp only [true_iff]; omega))).mono ?_
      rintro e w2 ⟨rfl, hb1⟩
      have HB2 := hide (HB1.out.trans (hb1.mono HB1.out.size))
      have HK2 := hide (HK1.out.later hb1)
      clear hb1
      go_wp2_with fail
      go_ret
      exact ⟨rfl, HB2.out⟩

set_option maxRecDepth 100000 in
theorem normS_any (A : Option Addr) (n c : Nat) (f : List (List Int)) (S : Nat) (r : Bool) (w : World) (hn : f.length = n) (hg : Grp f) (hr : Rd2 w A f) (hS : S < 2 ^ n) (hres : r = true ↔ NrmF f S) :
    Calls Try.prog 74 #[.slice A n c, .int .i64 S] w fun e w' => e = .returned (.bool r) ∧ Below w.heap.size w w' := by
  have HN := hide hn
  have HG := hide hg
  have HTB := hide hg.tbl
  have HRD := hide hr
  have h1 : 1 ≤ n := (hg.pos hn).1
  have h12 : n ≤ 12 := (hg.pos hn).2
  have HRES := hide hres
  have hS12 : S < 4096 := Nat.lt_of_lt_of_le hS (pow_le n h12)
  have HS := hide hS
  clear hn hg hr hres hS
  go_enter Try.func74, Try.ntmps74
  go_wp2_with fail
  refine (innerS_any _ n _ f _ HN.out HG.out HRD.out).mono ?_
  rintro e w1 ⟨A1, c1, rfl, hb1, ho1⟩
  have HB1 := hide hb1
  have HJ : Hid (Tbl (cjL f n)) := hide (cjL_tbl HN.out HG.out)
  have HJL : Hid ((cjL f n).length = n) := hide (grid_length _ _)
  obtain ⟨b, o, hA, hbw, hc⟩ := HJ.out.cells ho1.rd HJL.out
  subst hA
  have HC := hide hc
  clear hb1 ho1 hc
  go_wp2_with fail
  go_loopw [6] (fun i wr => ∃ x : Nat, x ≤ n ∧ i = .int .i64 x ∧ Below w1.heap.size w1 wr ∧ ∀ x', x' < x → ∀ y, y < n → inb S y → inb S (cj f x' y)) (fun i _ => n - (intOf i).toNat)
  case atStart => exact ⟨0, Nat.zero_le _, rfl, Below.refl _ _, fun i hi => absurd hi (Nat.not_lt_zero _)⟩
  case round =>
    obtain ⟨x, hx, rfl, hbe, hall⟩ := hrel
    have HB := hide hbe
    have HALL := hide hall
    clear hbe hall
    by_cases hlt : x < n
    · have hxz : (x : Int) < n := by omega
      go_wp2_with fail
      go_loopw [7] (fun i wr => ∃ y : Nat, y ≤ n ∧ i = .int .i64 y ∧ Below w1.heap.size w1 wr ∧ ∀ y', y' < y → inb S y' → inb S (cj f x y')) (fun i _ => n - (intOf i).toNat)
      case atStart => exact ⟨0, Nat.zero_le _, rfl, HB.out, fun i hi => absurd hi (Nat.not_lt_zero _)⟩
      case round =>
        clear HB
        obtain ⟨y, hy, rfl, hbe, hall⟩ := hrel
        have HBI := hide hbe
        have HALLI := hide hall
        clear hbe hall
        by_cases hlty : y < n
        · have hyz : (y : Int) < n := by omega
          have g4 : IntKind.u64.wrap (y : Int) = (y : Int) := by rw [IntKind.wrap_u64]; omega
          by_cases iy : inb S y
          · have f1 := bt_in (by omega) iy
            obtain ⟨bx, ox, cx, r1, l1, g1⟩ := HC.out x hlt
            have r2 := g1 y hlty
            have hcj : ap (cjL f n) x y = cj f x y := cjL_at hlt hlty
            rw [hcj] at r2
            have hcn : cj f x y < n := HG.out.cj_lt HN.out hlt hlty
            obtain ⟨v, hv⟩ : ∃ v, cj f x y = v := ⟨_, rfl⟩
            rw [hv] at r2 hcn
            have HV := hide hv
            have HIY := hide iy
            have g5 : IntKind.u64.wrap (v : Int) = (v : Int) := by rw [IntKind.wrap_u64]; omega
            replace r1 := (HBI.out.cell (p := ⟨b, o + x, none⟩) hbw).trans r1
            replace r2 := (HBI.out.cell (p := ⟨bx, ox + y, none⟩) l1).trans r2
            clear g1 hv iy hcj
            by_cases iv : inb S v
            · have f2 := bt_in (by omega) iv
              have HIV := hide iv
              clear iv
              go_wp2_with fail
              go_roundw
              case rel => exact ⟨y + 1, by omega, by go_num, HBI.out, fun i hi => by
                by_cases e : i = y
                · rw [e, HV.out]; exact fun _ => HIV.out
                · exact HALLI.out i (by omega)⟩
              case measure => simp [intOf]; omega
            · have f2 := bt_out (by omega) iv
              have hrf : r = false := by
                cases r
                · rfl
                · exact absurd (by have h := HRES.out.1 rfl x y (by rw [HN.out]; exact hlt) HIY.out; rw [HV.out] at h; exact h) iv
              subst hrf
              clear iv
              go_wp2_with fail
              go_ret
              exact ⟨rfl, HB1.out.trans (HBI.out.mono HB1.out.size)⟩
          · have f1 := bt_out (by omega) iy
            have HIY := hide iy
            clear iy
            go_wp2_with fail
            go_roundw
            case rel => exact ⟨y + 1, by omega, by go_num, HBI.out, fun i hi => by
              by_cases e : i = y
              · rw [e]; exact fun h => absurd h HIY.out
              · exact HALLI.out i (by omega)⟩
            case measure => simp [intOf]; omega
        · have hyn : y = n := by omega
          subst hyn
          go_wp2_with fail
          go_roundw
          case rel => exact ⟨x + 1, by omega, by go_num, HBI.out, fun i hi => by
            by_cases e : i = x
            · rw [e]; exact HALLI.out
            · exact HALL.out i (by omega)⟩
          case measure => simp [intOf]; omega
    · have hxn : x = n := by omega
      subst hxn
      have hrt : r = true := HRES.out.2 fun i j hi hj => HALL.out i (by rw [HN.out] at hi; exact hi) j (inb_lt HS.out hj) hj
      subst hrt
      go_wp2_with fail
      go_ret
      exact ⟨rfl, HB1.out.trans (HB.out.mono HB1.out.size)⟩

set_option maxRecDepth 100000 in
theorem nrS (A : Option Addr) (n c : Nat) (f : List (List Int)) (x : Int) (r : Bool) (code : Int) (w : World) (hn : f.length = n) (hb : n ≤ 1048576) (hbs : ∀ i, i < f.length → (f.getD i []).length ≤ 1048576) (hr : Rd2 w A f) (hlo : -9223372036854775808 ≤ x) (hhi : x ≤ 9223372036854775807) (hres : NrRes f x r code) :
    Calls Try.prog 38 #[.agg #[.slice A n c], .int .i64 x] w (fun e w' => e = .returned (.tuple #[.bool r, .int .i64 code]) ∧ Below w.heap.size w w') := by
  have HN := hide hn
  have HRD := hide hr
  have HB0 := hide ((Below.refl _ w).alloc (Nat.le_refl _) (Obj.cells #[Value.slice A n c] 27))
  have HK0 := hide (Blk.new w 27 [.slice A n c])
  have HBS := hide hbs

  rcases hres with ⟨hg, ⟨S, rfl, hS, hsg, hrr⟩, rfl⟩ | ⟨hc0, rfl, hsc⟩
  · have HRR := hide hrr
    have HSC : Hid (SubC f S 0) := hide (.inl ⟨hg, ⟨S, rfl, hS, hsg⟩, rfl⟩)
    have HS : Hid (S < 2 ^ n) := hide (by rw [← hn]; exact hS)
    clear hrr hS hsg
    have HG := hide hg
    have HTB := hide hg.tbl
    have h1 : 1 ≤ n := (hg.pos HN.out).1
    have h12 : n ≤ 12 := (hg.pos HN.out).2
    clear hg hn hr hbs
    go_enter Try.func38, Try.ntmps38
    have k0 := HK0.out.cell 0 _ rfl
    go_wp2_with fail
    clear k0
    refine (subS_any _ _ _ f (S : Int) 0 _ HN.out hb HBS.out (HRD.out.later HB0.out) hlo hhi HSC.out).mono ?_
    rintro e w1 ⟨rfl, hb1⟩
    have HB1 := hide (HB0.out.trans (hb1.mono HB0.out.size))
    have HK1 := hide (HK0.out.later hb1)
    clear hb1
    have k0 := HK1.out.cell 0 _ rfl
    go_wp2_with fail
    clear k0
    refine (normS_any _ n _ f S r _ HN.out HG.out (HRD.out.later HB1.out) HS.out HRR.out).mono ?_
    rintro e w2 ⟨rfl, hb1⟩
    have HB2 := hide (HB1.out.trans (hb1.mono HB1.out.size))
    have HK2 := hide (HK1.out.later hb1)
    clear hb1
    go_wp2_with fail
    go_ret2
    exact ⟨rfl, HB2.out⟩
  · have HSC := hide hsc
    have g1 : (code == 0) = false := by simpa using hc0
    have g2 : (code != 0) = true := by simpa using hc0
    clear hsc hn hr hbs
    go_enter Try.func38, Try.ntmps38
    have k0 := HK0.out.cell 0 _ rfl
    go_wp2_with fail
    clear k0
    refine (subS_any _ _ _ f x code _ HN.out hb HBS.out (HRD.out.later HB0.out) hlo hhi HSC.out).mono ?_
    rintro e w1 ⟨rfl, hb1⟩
    have HB1 := hide (HB0.out.trans (hb1.mono HB0.out.size))
    have HK1 := hide (HK0.out.later hb1)
    clear hb1
    clear hc0
    go_wp2_with fail
    go_ret2
    exact ⟨rfl, HB1.out⟩

set_option maxRecDepth 100000 in
theorem sgpS_any (A : Option Addr) (n c : Nat) (f : List (List Int)) (w : World) (hn : f.length = n) (hg : Grp f) (hr : Rd2 w A f) :
    Calls Try.prog 71 #[.slice A n c] w fun e w' => ∃ A' c', e = .returned (.slice A' (sgN f (2 ^ n)).length c') ∧ Below w.heap.size w w' ∧ Res 2 w.heap.size w' A' (sgL f (2 ^ n)) := by
  have HN := hide hn
  have HTB := hide hg.tbl
  have HRD := hide hr
  have h1 : 1 ≤ n := (hg.pos hn).1
  have h12 : n ≤ 12 := (hg.pos hn).2
  clear hn hg hr
  obtain ⟨P, hP⟩ : ∃ P, 2 ^ n = P := ⟨_, rfl⟩
  have hP12 : P ≤ 4096 := by rw [← hP]; exact pow_le n h12
  have hP2 : P % 2 = 0 := by
    rw [← hP]
    obtain ⟨m, rfl⟩ : ∃ m, n = m + 1 := ⟨n - 1, by omega⟩
    rw [Nat.pow_succ]
    omega
  have g1 : (2 : Int) ^ n = (P : Int) := by rw [← hP]; simp
  have g3 : IntKind.i64.wrap (P : Int) = (P : Int) := IntWalk.i64_in _ (by omega)
  have g4 : IntKind.u64.wrap (n : Int) = (n : Int) := by rw [IntKind.wrap_u64]; omega
  have HPW := hide hP
  rw [hP]
  clear hP
  obtain ⟨i0, hi, hz0, hz1, hz2⟩ := info_parts neInfo
  go_enter Try.func71, Try.ntmps71
  go_wp2_with fail
  go_loopw [3, 4] (fun v i wr => ∃ S : Nat, S % 2 = 1 ∧ S ≤ P + 1 ∧ i = .int .i64 S ∧ Below w.heap.size w wr ∧ wr.ownsRow w.heap.size 2 1 v (sgN f S).length (ints (sgL f S)) ∧ w.heap.size ≤ wr.heap.size) (fun _ i _ => P + 2 - (intOf i).toNat)
  case atStart => exact ⟨1, rfl, by omega, rfl, (Below.refl _ _).alloc (Nat.le_refl _) _, by rw [sgL_one, sgN_one]; simpa [ints] using ne_empty w _, by simp⟩
  case round =>
    obtain ⟨S, hodd, hk, rfl, hbe, hown, hsz⟩ := hrel
    have HB := hide hbe
    have HO := hide hown
    clear hbe hown
    by_cases hlt : S < P
    · have hkz : (S : Int) < P := by omega
      have hml := sgN_length f S
      obtain ⟨l, hl⟩ : ∃ l, (sgN f S).length = l := ⟨_, rfl⟩
      rw [hl] at hml HO
      have HL := hide hl
      have HEV : Hid (¬ SubG f (S + 1)) := hide (SubG.even (by omega))
      have HIN : Hid (inb S 0) := hide ((inb0 S).2 hodd)
      clear hl
      by_cases hs : ClosedF f S
      · have HYES : Hid (SubG f S) := hide ⟨HIN.out, hs⟩
        clear hs
        go_wp2_with fail
        refine (l04Closed_any _ n _ f S true _ HN.out HTB.out (HRD.out.later HB.out) (by rw [HPW.out]; exact hlt) ⟨fun _ => HYES.out.2, fun _ => rfl⟩).mono ?_
        rintro e w5 ⟨rfl, hb5⟩
        have HB5 := hide (HB.out.trans (hb5.mono HB.out.size))
        have HO5 := hide (ownsRow_below HO.out hb5)
        have hs5 : w.heap.size ≤ w5.heap.size := by have := hb5.size; omega
        clear hb5
        go_wp2_with (at_builtin; refine wpList_append_own _ rfl _ _ 42 rfl w.heap.size 2 i0 (.int .i64 0) 1 8 Try.underlying42 hi hz0 hz1 hz2 rfl (by decide) _ _ _ rfl (HO5.out.alloc _) ⟨w5.heap.size, 0, none⟩ 1 1 [.int .i64 (S : Int)] rfl rfl ?a1 ?a2 ?a3 ?a4 ?a5 ?_)
        try (case a1 => exact ne_new)
        try (case a2 => first | rfl | (intro u hu; simp at hu; subst hu; rfl))
        try (case a3 => first | omega | (unfold maxLen; omega))
        try (case a4 => omega)
        try (case a5 => first | omega | (simp; omega))
        intro v' w6 hown' hgrow _
        have HO' := hide hown'
        have HG := hide hgrow
        clear hown' hgrow
        go_wp2_with fail
        go_roundw
        case rel =>
          have hB1 : Below w.heap.size w w6 := (HB5.out.alloc hs5 _).grown HG.out (by simp; omega) (fun g hg => ((HO5.out.alloc (.cells #[.int .i64 (S : Int)] 2)).lt g hg).1)
          refine ⟨S + 2, by omega, by omega, by go_num, hB1, ?_, by have := hB1.size; omega⟩
          rw [sgL_no HEV.out, sgN_no HEV.out, sgL_yes HYES.out, sgN_yes HYES.out, List.length_append, HL.out]
          exact HO'.out
        case measure => simp [intOf]; omega
      · have HNC := hide hs
        have HNO : Hid (¬ SubG f S) := hide fun h => hs h.2
        clear hs
        go_wp2_with fail
        refine (l04Closed_any _ n _ f S false _ HN.out HTB.out (HRD.out.later HB.out) (by rw [HPW.out]; exact hlt) ⟨fun h => (by cases h), fun h => absurd h HNC.out⟩).mono ?_
        rintro e w5 ⟨rfl, hb5⟩
        have HB5 := hide (HB.out.trans (hb5.mono HB.out.size))
        have HO5 := hide (ownsRow_below HO.out hb5)
        have hs5 : w.heap.size ≤ w5.heap.size := by have := hb5.size; omega
        clear hb5
        go_wp2_with fail
        go_roundw
        case rel => exact ⟨S + 2, by omega, by omega, by go_num, HB5.out, by rw [sgL_no HEV.out, sgN_no HEV.out, sgL_no HNO.out, sgN_no HNO.out, HL.out]; exact HO5.out, hs5⟩
        case measure => simp [intOf]; omega
    · have hkn : S = P + 1 := by omega
      have HEV : Hid (¬ SubG f P) := hide (SubG.even hP2)
      have h := HO.out
      rw [hkn, sgL_no HEV.out, sgN_no HEV.out] at h
      have HH := hide h
      clear h HO
      go_wp2_with fail
      obtain ⟨A', c', hv, hres⟩ := own_shape HH.out
      subst hv
      go_ret
      exact ⟨A', c', rfl, HB.out, hres⟩

set_option maxRecDepth 100000 in
theorem sgwS (A : Option Addr) (n c : Nat) (f : List (List Int)) (zs : List Int) (code : Int) (k : Nat) (w : World) (hn : f.length = n) (hb : n ≤ 1048576) (hbs : ∀ i, i < f.length → (f.getD i []).length ≤ 1048576) (hr : Rd2 w A f) (hres : SgRes f zs code) (hk : zs.length = k) :
    Calls Try.prog 33 #[.agg #[.slice A n c]] w (RPost 2 k zs code w) := by
  have HN := hide hn
  have HRD := hide hr
  have HB0 := hide ((Below.refl _ w).alloc (Nat.le_refl _) (Obj.cells #[Value.slice A n c] 27))
  have HK0 := hide (Blk.new w 27 [.slice A n c])
  have HBS := hide hbs

  rcases hres with ⟨hg, rfl, rfl⟩ | ⟨hg, rfl, rfl⟩
  · have HKL : Hid ((sgN f (2 ^ n)).length = k) := hide (by rw [← sgL_length, ← hn]; exact hk)
    clear hk
    rw [hn]
    have HG := hide hg
    have HTB := hide hg.tbl
    have h1 : 1 ≤ n := (hg.pos HN.out).1
    have h12 : n ≤ 12 := (hg.pos HN.out).2
    clear hg hn hr hbs
    go_enter Try.func33, Try.ntmps33
    have k0 := HK0.out.cell 0 _ rfl
    go_wp2_with fail
    clear k0
    refine (gq_below (isGrpS_any _ _ _ f true _ HN.out hb HBS.out (HRD.out.later HB0.out) ⟨fun _ => HG.out, fun _ => rfl⟩)).mono ?_
    rintro e w1 ⟨rfl, hb1⟩
    have HB1 := hide (HB0.out.trans (hb1.mono HB0.out.size))
    have HK1 := hide (HK0.out.later hb1)
    clear hb1
    have k0 := HK1.out.cell 0 _ rfl
    go_wp2_with fail
    clear k0
    refine (sgpS_any _ n _ f _ HN.out HG.out (HRD.out.later HB1.out)).mono ?_
    rintro e w2 ⟨A', c', rfl, hb1, hres⟩
    rw [HKL.out]
    have HRS := hide (hres.mono HB1.out.size)
    clear hres
    have HB2 := hide (HB1.out.trans (hb1.mono HB1.out.size))
    have HK2 := hide (HK1.out.later hb1)
    clear hb1
    go_wp2_with fail
    go_ret2
    exact ⟨_, _, rfl, HB2.out, HRS.out⟩
  · have hk0 : k = 0 := by rw [← hk]; rfl
    subst hk0
    clear hk
    have HG := hide hg
    clear hg hn hr hbs
    go_enter Try.func33, Try.ntmps33
    have k0 := HK0.out.cell 0 _ rfl
    go_wp2_with fail
    clear k0
    refine (gq_below (isGrpS_any _ _ _ f false _ HN.out hb HBS.out (HRD.out.later HB0.out) ⟨fun h => (by cases h), fun h => absurd h HG.out⟩)).mono ?_
    rintro e w1 ⟨rfl, hb1⟩
    have HB1 := hide (HB0.out.trans (hb1.mono HB0.out.size))
    have HK1 := hide (HK0.out.later hb1)
    clear hb1
    go_wp2_with fail
    go_ret2
    exact ⟨_, _, rfl, HB1.out, .inl ⟨rfl, rfl⟩⟩

end Go.Proofs.Ytngfdkmiifpbgaa
