import Derived.Test.YtngfdkmiifpbgaaDoorZn
import Derived.Test.YtngfdkmiifpbgaaDoorZo
import Derived.Test.YtngfdkmiifpbgaaDoorZl
import Derived.Test.YtngfdkmiifpbgaaDoorZg
import Derived.Test.YtngfdkmiifpbgaaDoorZb
import Derived.Test.YtngfdkmiifpbgaaDoorZf
import Derived.Deep.AppendLies
import Derived.Deep.Cut
import Derived.Deep.RegionHeld3
namespace Go.Proofs.YtngfdkmiifpbgaaDoor
open Go Go.RowKit
set_option maxHeartbeats 4000000
theorem lst12 (S : Nat) : lstN S ≤ 12 := by
  unfold lstN
  cases h : mems 12 S with
  | nil => simp
  | cons a t =>
    have : a ∈ mems 12 S := by rw [h]; simp
    have := ((mems_mem _ _ _).1 this).1
    simp
    omega
theorem kcInfo : (Tryd.prog.info? 2).map (fun i => (i.zero, i.size, i.bytes)) = some (some (.int .i64 0), 1, 8) := by kernel_rfl
set_option maxRecDepth 100000 in
theorem kcI (A : Option Addr) (n c : Nat) (f : List (List Int)) (zs : List Int) (code : Int) (k : Nat) (w : World) (hn : f.length = n) (hb : n ≤ 1048576) (hbs : ∀ i, i < f.length → (f.getD i []).length ≤ 1048576) (hr : Rd2 w A f) (hdb : DbT w) (hres : KcRes f zs code) (hk : zs.length = k) :
    Calls Tryd.prog 7 #[.agg #[.slice A n c]] w (RPost 2 k zs code w) := by
  have HN := hide hn
  have HRD := hide hr
  have HB0 := hide ((Below.refl _ w).alloc (Nat.le_refl _) (Obj.cells #[Value.slice A n c] 29))
  have HK0 := hide (Blk.new w 29 [.slice A n c])
  have HBS := hide hbs

  rcases hres with ⟨hg, rfl, rfl⟩ | ⟨hg, rfl, rfl⟩
  · have HDB := hide hdb
    have HKL : Hid (k = n) := hide (by rw [← hk, kcC_length, hn])
    clear hdb hk
    have HG := hide hg
    have HTB := hide hg.tbl
    have h1 : 1 ≤ n := (hg.pos HN.out).1
    have h12 : n ≤ 12 := (hg.pos HN.out).2
    clear hg hn hr hbs
    go_enter Tryd.func7, Tryd.ntmps7
    have k0 := HK0.out.cell 0 _ rfl
    go_wp2_with fail
    clear k0
    refine (isGrp_any _ _ _ f true _ HN.out hb HBS.out (HRD.out.later HB0.out) ⟨fun _ => HG.out, fun _ => rfl⟩).mono ?_
    rintro e w1 ⟨rfl, hb1⟩
    have HB1 := hide (HB0.out.trans (hb1.mono HB0.out.size))
    have HK1 := hide (HK0.out.later hb1)
    clear hb1
    have k0 := HK1.out.cell 0 _ rfl
    have hmk := run_make_row' (P := Tryd.prog) 26 2 (.int .i64 0) 8 Tryd.underlying26 kcInfo rfl .i64 .i64 n (by omega) (by omega)
    go_wp2_with fail
    clear k0
    refine (gsize_any _ n _ _ (by omega)).mono ?_
    rintro e w2 ⟨rfl, hb1⟩
    have HB2 := hide (HB1.out.trans (hb1.mono HB1.out.size))
    have HK2 := hide (HK1.out.later hb1)
    clear hb1
    go_wp2_with fail
    clear hmk
    obtain ⟨G, hG⟩ : ∃ G, w2.heap.size = G := ⟨_, rfl⟩
    have HGL : Hid (w.heap.size < G) := hide (by rw [← hG]; exact HK2.out.lt)
    have HR3 : Hid (Row 2 (w2.alloc (.cells (madeCells #[.int .i64 0] n) 2)) G ((kcL f n).take 0 ++ List.replicate (n - 0) 0)) := hide (by rw [← hG]; simpa using Row.made 2 w2 n)
    have HB3 := hide (HB2.out.alloc HB2.out.size (.cells (madeCells #[.int .i64 0] n) 2))
    have HK3 := hide (HK2.out.alloc (.cells (madeCells #[.int .i64 0] n) 2))
    have HU : Hid ((kcL f n).length = n) := hide (kcL_length f n)
    rw [hG]
    clear hG
    go_loopw [14] (fun i wr => ∃ y : Nat, y ≤ n ∧ i = .int .i64 y ∧ Below w.heap.size w wr ∧ Blk wr w.heap.size 29 [.slice A n c] ∧ Row 2 wr G ((kcL f n).take y ++ List.replicate (n - y) 0)) (fun i _ => n - (intOf i).toNat)
    case atStart => exact ⟨0, Nat.zero_le _, rfl, HB3.out, HK3.out, HR3.out⟩
    case round =>
      clear HB3 HK3 HR3
      obtain ⟨y, hy, rfl, hbe, hkk, hrow⟩ := hrel
      have HB := hide hbe
      have HK := hide hkk
      have HROW := hide hrow
      clear hbe hkk hrow
      have hgl := HGL.out
      by_cases hlt : y < n
      · have hltz : (y : Int) < n := by omega
        have hcl : cjN f y < 4096 := Nat.lt_of_lt_of_le (by have := cjN_lt f y; rw [HN.out] at this; exact this) (Nat.pow_le_pow_right (n := 2) (by decide) h12)
        have hc0 : cjN f y ≠ 0 := fun e => by
          have := cjN_self HN.out HG.out hlt
          rw [e] at this
          exact inb_zero _ this
        have hat := kcL_at f hlt
        obtain ⟨q, hq⟩ : ∃ q, cjN f y = q := ⟨_, rfl⟩
        rw [hq] at hcl hc0 hat
        have HQ := hide hq
        have HAT := hide hat
        have k0 := HK.out.cell 0 _ rfl
        clear hq hat
        go_wp2_with fail
        clear k0
        refine (conj_any _ n _ f y _ HN.out HG.out (HRD.out.later HB.out) hlt).mono ?_
        rintro e w5 ⟨rfl, hb5⟩
        rw [HQ.out]
        have HB5 := hide (HB.out.trans (hb5.mono HB.out.size))
        have HK5 := hide (HK.out.later hb5)
        have HR5 := hide (HROW.out.later hb5 HROW.out.lt)
        clear hb5
        go_wp2_with fail
        refine (leastOf_any q _ hcl hc0 (HDB.out.later HB5.out)).mono ?_
        rintro e w6 ⟨rfl, hq6⟩
        have HB6 := hide (HB5.out.trans (hq6.below _))
        have HK6 := hide (HK5.out.later (hq6.below _))
        have HR6 := hide (HR5.out.later (hq6.below _) HR5.out.lt)
        clear hq6
        obtain ⟨u, hu⟩ : ∃ u, lstN q = u := ⟨_, rfl⟩
        rw [hu] at HAT ⊢
        clear hu
        have h2 := HR6.out.cell (i := y) (by have := HU.out; simp; omega)
        have h3 := HR6.out.frozen y
        go_wp2_with fail
        go_roundw
        case rel =>
          have hst := HR6.out.set y ((kcL f n).getD y 0)
          rw [fill_step (kcL f n) n y HU.out hlt, HAT.out] at hst
          exact ⟨y + 1, by omega, by go_num, HB6.out.setCell (p := ⟨G, y, none⟩) (by show w.heap.size ≤ G; omega) _, HK6.out.far (p := ⟨G, y, none⟩) (by show w.heap.size ≠ G; omega) _, hst⟩
        case measure => simp [intOf]; omega
      · have hyn : y = n := by omega
        subst hyn
        have HOW : Hid (OwnB 2 wr G (kcL f y)) := hide (by
          have h := HROW.out
          have hz := HU.out
          rw [Nat.sub_self, List.replicate_zero, List.append_nil, List.take_of_length_le (by omega)] at h
          exact h.own)
        go_wp2_with fail
        refine (numberAnew_any G y y (kcL f y) _ HU.out h12 (fun v hv => by
          unfold kcL at hv
          obtain ⟨a, ha, rfl⟩ := List.mem_map.1 hv
          have := lst12 (cjN f a)
          omega) HOW.out).mono ?_
        rintro e w7 ⟨rfl, ht7, ho7⟩
        have HB7 := hide (Touch.below HB.out ht7 HB.out.size (by omega))
        have HO7 := hide ho7
        clear ht7 ho7
        go_wp2_with fail
        go_ret2
        refine ⟨some ⟨G, 0, none⟩, y, by rw [HKL.out]; rfl, HB7.out, .inr ⟨G, rfl, by omega, ?_⟩⟩
        unfold kcC
        rw [HN.out]
        exact HO7.out
  · have hk0 : k = 0 := by rw [← hk]; rfl
    subst hk0
    clear hk hdb
    have HG := hide hg
    clear hg hn hr hbs
    go_enter Tryd.func7, Tryd.ntmps7
    have k0 := HK0.out.cell 0 _ rfl
    go_wp2_with fail
    clear k0
    refine (isGrp_any _ _ _ f false _ HN.out hb HBS.out (HRD.out.later HB0.out) ⟨fun h => (by cases h), fun h => absurd h HG.out⟩).mono ?_
    rintro e w1 ⟨rfl, hb1⟩
    have HB1 := hide (HB0.out.trans (hb1.mono HB0.out.size))
    have HK1 := hide (HK0.out.later hb1)
    clear hb1
    go_wp2_with fail
    go_ret2
    exact ⟨_, _, rfl, HB1.out, .inl ⟨rfl, rfl⟩⟩
end Go.Proofs.YtngfdkmiifpbgaaDoor
namespace Go.Proofs.YtngfdkmiifpbgaaDoor
open Go Go.RowKit
set_option maxHeartbeats 4000000
set_option maxRecDepth 100000 in
theorem innerS_any (A : Option Addr) (n c : Nat) (f : List (List Int)) (w : World) (hn : f.length = n) (hg : Grp f) (hr : Rd2 w A f) :
    Calls Tryd.prog 16 #[.slice A n c] w fun e w' => ∃ A' c', e = .returned (.slice A' n c') ∧ Below w.heap.size w w' ∧ Obj2 26 2 w.heap.size w'.heap.size w' A' (cjL f n) := by
  have HN := hide hn
  have HG := hide hg
  have HTB := hide hg.tbl
  have HRD := hide hr
  have h1 : 1 ≤ n := (hg.pos hn).1
  have h12 : n ≤ 12 := (hg.pos hn).2
  obtain ⟨b1, o1, hA, hb1w, hc1⟩ := HTB.out.cells hr hn
  subst hA
  have HC1 := hide hc1
  clear hc1 hn hg hr
  unfold cjL
  obtain ⟨H, hH⟩ : ∃ H : Nat → Nat → Int, (fun x y => (cj f x y : Int)) = H := ⟨_, rfl⟩
  rw [hH]
  have HH := hide hH
  clear hH
  obtain ⟨i0, hi, hz0, hz1, hz2⟩ := info_parts neInfo
  obtain ⟨i2, hj, hy0, hy1, hy2⟩ := info_parts neInfo2
  go_enter Tryd.func16, Tryd.ntmps16
  go_wp2_with fail
  go_loopw [3, 4] (fun v i wr => ∃ (x : Nat) (vals : List Value), x ≤ n ∧ i = .int .i64 x ∧ Below w.heap.size w wr ∧ LstV 26 2 w.heap.size wr v ((grid n H).take x) vals ∧ w.heap.size ≤ wr.heap.size) (fun _ i _ => n - (intOf i).toNat)
  case atStart => exact ⟨0, [], Nat.zero_le _, rfl, (Below.refl _ _).alloc (Nat.le_refl _) _, by simpa using LstV.start w _ _, by simp⟩
  case round =>
    obtain ⟨x, vals, hx, rfl, hbe, hlst, hsz⟩ := hrel
    have HB := hide hbe
    have HL := hide hlst
    clear hbe hlst
    by_cases hlt : x < n
    · have hxz : (x : Int) < n := by omega
      go_wp2_with fail
      obtain ⟨wo, rfl⟩ : ∃ wo : World, wo = wr := ⟨_, rfl⟩
      go_loopw [5, 6] (fun v i wi => ∃ y : Nat, y ≤ n ∧ i = .int .i64 y ∧ Below wo.heap.size wo wi ∧ wo.heap.size < wi.heap.size ∧ wi.ownsRow wo.heap.size 2 1 v y (ints ((frow n H x).take y))) (fun _ i _ => n - (intOf i).toNat)
      case atStart => exact ⟨0, Nat.zero_le _, rfl, (Below.refl _ _).alloc (Nat.le_refl _) _, by simp, by simpa [ints] using ne_empty wo _⟩
      case round =>
        obtain ⟨y, hy, rfl, hbi, hsi, hoi⟩ := hrel
        have HBI := hide hbi
        have HOI := hide hoi
        clear hbi hoi
        by_cases hlty : y < n
        · have hyz : (y : Int) < n := by omega
          have HBW := hide (HB.out.trans (HBI.out.mono HB.out.size))
          obtain ⟨v, hv⟩ : ∃ v, bk f x = v := ⟨_, rfl⟩
          have hvn : v < n := by rw [← hv]; exact HG.out.bk_lt HN.out hlt
          have hun := HG.out.lt HN.out hlt hlty
          obtain ⟨u, hu⟩ : ∃ u, ap f x y = u := ⟨_, rfl⟩
          rw [hu] at hun
          obtain ⟨r, hr0⟩ : ∃ r, ap f u v = r := ⟨_, rfl⟩
          have hpr : H x y = (r : Int) := by rw [← HH.out]; show ((cj f x y : Nat) : Int) = _; unfold cj; rw [hv, hu, hr0]
          obtain ⟨bx, ox, cx, r1, lx, g1⟩ := HC1.out x hlt
          obtain ⟨bu, ou, cu, r3, lu, g3⟩ := HC1.out u hun
          have r2 := g1 y hlty
          have r4 := g3 v hvn
          rw [hu] at r2
          rw [hr0] at r4
          have hvz : (v : Int) < n := by omega
          have huz : (u : Int) < n := by omega
          have R1 := hide r1
          have R2 := hide r2
          have R3 := hide r3
          have R4 := hide r4
          have HV := hide hv
          have HCELL := hide hpr
          clear hu hr0 hpr g1 g3 hv r1 r2 r3 r4
          have ff0 : wr.cell? ⟨b1, o1 + x, none⟩ = some (.slice (some ⟨bx, ox, none⟩) n cx) := (HBW.out.cell (p := ⟨b1, o1 + x, none⟩) hb1w).trans R1.out
          have ff1 : wr.cell? ⟨bx, ox + y, none⟩ = some (.int .i64 u) := (HBW.out.cell (p := ⟨bx, ox + y, none⟩) lx).trans R2.out
          have ff2 : wr.cell? ⟨b1, o1 + u, none⟩ = some (.slice (some ⟨bu, ou, none⟩) n cu) := (HBW.out.cell (p := ⟨b1, o1 + u, none⟩) hb1w).trans R3.out
          have ff3 : wr.cell? ⟨bu, ou + v, none⟩ = some (.int .i64 r) := (HBW.out.cell (p := ⟨bu, ou + v, none⟩) lu).trans R4.out
          go_wp2_with fail
          go_region_held3 (fun w' => w'.cell? ⟨b1, o1 + x, none⟩ = some (.slice (some ⟨bx, ox, none⟩) n cx) ∧ w'.cell? ⟨bx, ox + y, none⟩ = some (.int .i64 u) ∧ w'.cell? ⟨b1, o1 + u, none⟩ = some (.slice (some ⟨bu, ou, none⟩) n cu) ∧ w'.cell? ⟨bu, ou + v, none⟩ = some (.int .i64 r)) (first | exact ⟨ff0, ff1, ff2, ff3⟩ | go_keep) (first | (go_at_call 29; go_must (refine calls_gen fun wc hwc => ?_; (first | have hbx := drew_below hwc | have hbx := eq_below hwc); have HBJ0 := hide (HBI.out.trans (hbx.mono HBI.out.size)); have HOJ0 := hide (ownsRow_below HOI.out hbx); have hsj0 : wo.heap.size < wc.heap.size := (by have := hbx.size; omega); clear hwc hbx; refine (gq_below (backS_any _ n _ f x _ HN.out HTB.out HG.out.prm (HRD.out.later (HB.out.trans (HBJ0.out.mono HB.out.size))) (by omega))).mono ?_; rintro e wd ⟨rfl, hbd⟩; rw [HV.out]; have HBJ := hide (HBJ0.out.trans (hbd.mono HBJ0.out.size)); have HOJ := hide (ownsRow_below HOJ0.out hbd); have hsj : wo.heap.size < wd.heap.size := (by have := hbd.size; omega); clear hbd; have HBV := hide (HB.out.trans (HBJ.out.mono HB.out.size)); have ff0 : wd.cell? ⟨b1, o1 + x, none⟩ = some (.slice (some ⟨bx, ox, none⟩) n cx) := (HBV.out.cell (p := ⟨b1, o1 + x, none⟩) hb1w).trans R1.out; have ff1 : wd.cell? ⟨bx, ox + y, none⟩ = some (.int .i64 u) := (HBV.out.cell (p := ⟨bx, ox + y, none⟩) lx).trans R2.out; have ff2 : wd.cell? ⟨b1, o1 + u, none⟩ = some (.slice (some ⟨bu, ou, none⟩) n cu) := (HBV.out.cell (p := ⟨b1, o1 + u, none⟩) hb1w).trans R3.out; have ff3 : wd.cell? ⟨bu, ou + v, none⟩ = some (.int .i64 r) := (HBV.out.cell (p := ⟨bu, ou + v, none⟩) lu).trans R4.out)) | (refine step_append_lies _ (by rfl) _ _ _ (by rfl) wo.heap.size 2 i0 _ 1 8 Tryd.underlying26 hi hz0 hz1 hz2 rfl (by omega) u5 y (ints ((frow n H x).take y)) (by rfl) (HOJ.out.alloc _) ⟨wd.heap.size, 0, none⟩ 1 1 [.int .i64 r] (by rfl) (by rfl) ne_new (by simp [Value.oneCell']) (by omega) (by unfold maxLen; omega) (by omega) (by simp; omega) (wd.heap.size + 1) (by simp) ?_; go_must (intro gg cap w3 hown' hgrow _ _; have HO3 := hide hown'; have HB3 : Hid (Below wo.heap.size wo w3) := (by first | exact hide ((HBJ.out.alloc HBJ.out.size _).drew.grown hgrow (by have := HBJ.out.size; simp; omega) (fun g hg => ((HOJ.out.alloc (.cells #[.int .i64 r] 2)).lt g hg).1)) | exact hide ((HBJ.out.alloc HBJ.out.size _).grown hgrow (by have := HBJ.out.size; simp; omega) (fun g hg => ((HOJ.out.alloc (.cells #[.int .i64 r] 2)).lt g hg).1))); have hs3 : wo.heap.size < w3.heap.size := (by have := hgrow.size; simp at this; omega); have HBV3 := hide (HB.out.trans (HB3.out.mono HB.out.size)); clear hown' hgrow; have ff0 : w3.cell? ⟨b1, o1 + x, none⟩ = some (.slice (some ⟨bx, ox, none⟩) n cx) := (HBV3.out.cell (p := ⟨b1, o1 + x, none⟩) hb1w).trans R1.out; have ff1 : w3.cell? ⟨bx, ox + y, none⟩ = some (.int .i64 u) := (HBV3.out.cell (p := ⟨bx, ox + y, none⟩) lx).trans R2.out; have ff2 : w3.cell? ⟨b1, o1 + u, none⟩ = some (.slice (some ⟨bu, ou, none⟩) n cu) := (HBV3.out.cell (p := ⟨b1, o1 + u, none⟩) hb1w).trans R3.out; have ff3 : w3.cell? ⟨bu, ou + v, none⟩ = some (.int .i64 r) := (HBV3.out.cell (p := ⟨bu, ou + v, none⟩) lu).trans R4.out)))
          all_goals
            clear ff0 ff1 ff2 ff3
            go_wp2_with fail
            go_roundw
            case rel => exact ⟨y + 1, by omega, by go_num, HB3.out, hs3, by have h := HO3.out; rw [← HCELL.out, frow_take _ _ _ _ hlty] at h; exact h⟩
            case measure => simp [intOf]; omega
        · have hyn : y = n := by omega
          subst hyn
          have HTM : Hid (((grid y H).take x).length = x) := hide (by rw [List.length_take, grid_length]; omega)
          obtain ⟨A2, c2, hv2, hres2⟩ := own_shape HOI.out
          subst hv2
          have HRO := hide hres2.obj
          have HL3 := hide (HL.out.later HBI.out)
          have HRL : Hid ((frow y H x).length = y) := hide (frow_length _ _ _)
          have HTK : Hid ((frow y H x).take y = frow y H x) := hide (List.take_of_length_le (by rw [HRL.out]; exact Nat.le_refl _))
          have HOW2 : Hid (wr.ownsRow w.heap.size 26 1 u3 x vals) := hide (by have h := HL3.out.own; rw [HTM.out] at h; exact h)
          have hs3 : w.heap.size ≤ wr.heap.size := by have := HBI.out.size; omega
          clear hres2
          go_wp2_with (at_builtin; refine wpList_append_own _ rfl _ _ 22 rfl w.heap.size 26 i2 (.slice none 0 0) 1 24 Tryd.underlying22 hj hy0 hy1 hy2 rfl (by decide) _ _ _ rfl (HOW2.out.alloc _) ⟨wr.heap.size, 0, none⟩ 1 1 [.slice A2 y c2] rfl rfl ?c1 ?c2 ?c3 ?c4 ?c5 ?_)
          case c1 => exact ne_new
          case c2 => intro u hu; simp at hu; subst hu; rfl
          case c3 => unfold maxLen; omega
          case c4 => omega
          case c5 => simp; omega
          intro v' w7 hown7 hgrow7 _
          have HO7 := hide hown7
          have HG7 := hide hgrow7
          clear hown7 hgrow7
          go_wp2_with fail
          go_roundw
          case rel =>
            have hB7 : Below w.heap.size w w7 := ((HB.out.trans (HBI.out.mono HB.out.size)).alloc hs3 _).grown HG7.out (by simp; omega) (fun g hg => (HOW2.out.alloc (.cells #[.slice A2 y c2] 26)).lt g hg |>.1)
            have hpush := LstV.push (tmp := .cells #[.slice A2 y c2] 26) (A := A2) (c := c2) (r := frow y H x) (w1 := w7) (v' := v') (by decide) hsz HL.out HBI.out (by have h := HRO.out; rw [HTK.out] at h; exact h) (by rw [HTM.out, HRL.out]; exact HO7.out) HG7.out
            refine ⟨x + 1, vals ++ [.slice A2 (frow y H x).length c2], by omega, by go_num, hB7, ?_, by have := hB7.size; omega⟩
            rw [grid_take _ _ _ hlt]
            exact hpush
          case measure => simp [intOf]; omega
    · have hxn : x = n := by omega
      subst hxn
      go_wp2_with fail
      have h := HL.out
      rw [List.take_of_length_le (by rw [grid_length]; exact Nat.le_refl _)] at h
      go_ret
      obtain ⟨A', c', hv, hobj⟩ := h.shape
      rw [grid_length] at hv
      exact ⟨A', c', by rw [← hv]; rfl, HB.out, hobj⟩
theorem cjL_at {f : List (List Int)} {n x y : Nat} (hx : x < n) (hy : y < n) : ap (cjL f n) x y = cj f x y := by unfold ap cjL; rw [grid_at _ _ _ _ hx hy]; simp
theorem cjL_tbl {f : List (List Int)} {n : Nat} (hn : f.length = n) (hg : Grp f) : Tbl (cjL f n) := by
  have h1 := hg.pos hn
  refine ⟨by unfold cjL; rw [grid_length]; exact h1.1, by unfold cjL; rw [grid_length]; exact h1.2, fun i hi => ?_⟩
  unfold cjL at hi ⊢
  rw [grid_length] at hi ⊢
  refine ⟨grid_row_length _ _ _ hi, fun v hv => ?_⟩
  rw [grid_at _ _ _ _ hi hv]
  have := hg.cj_lt hn hi hv
  omega
end Go.Proofs.YtngfdkmiifpbgaaDoor
