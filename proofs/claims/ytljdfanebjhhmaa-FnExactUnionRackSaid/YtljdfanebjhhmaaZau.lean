import Derived.Test.YtljdfanebjhhmaaZah
import Derived.Test.YtljdfanebjhhmaaZp
import Derived.Test.YtljdfanebjhhmaaZak
import Derived.Test.YtljdfanebjhhmaaZu
import Derived.Deep.AppendLies
namespace Go.Proofs.Ytljdfanebjhhmaa
open Go Go.RowKit
set_option maxHeartbeats 4000000

set_option maxRecDepth 100000 in
theorem udS_any (A : Option Addr) (n c : Nat) (f : List (List Int)) (C : Option Addr) (q c2 : Nat) (f2 : List (List Int)) (zs : List (List Int)) (code : Int) (k : Nat) (w : World) (hn : f.length = n) (hb : n ≤ 1048576) (hbs : ∀ i, i < f.length → (f.getD i []).length ≤ 1048576) (hr : Rd2 w A f) (hn2 : f2.length = q) (hb2 : q ≤ 1048576) (hbs2 : ∀ i, i < f2.length → (f2.getD i []).length ≤ 1048576) (hr2 : Rd2 w C f2) (hres : UdRes f f2 zs code) (hk : zs.length = k) :
    Calls Try.prog 17 #[.agg #[.slice A n c], .agg #[.slice C q c2]] w (fun e w' => ∃ A' c', e = .returned (.tuple #[.agg #[.slice A' k c'], .int .i64 code]) ∧ Below w.heap.size w w' ∧ Obj2 33 2 w.heap.size w'.heap.size w' A' zs) := by
  have HN := hide hn
  have HBS := hide hbs
  have HRD := hide hr
  have HN2 := hide hn2
  have HBS2 := hide hbs2
  have HRD2 := hide hr2
  clear hn hbs hr hn2 hbs2 hr2
  rcases hres with ⟨hg, hlim, rfl, rfl⟩ | ⟨hg, hlim, rfl, rfl⟩ | ⟨hg, rfl, rfl⟩
  · have HT1 := hide hg.1.tbl
    have HT2 := hide hg.2.tbl
    have HRK1 : Hid (RkRes f true) := hide (by unfold RkRes; simp [hg.1])
    have HRK2 : Hid (RkRes f2 true) := hide (by unfold RkRes; simp [hg.2])
    have hn0 : 1 ≤ n ∧ n ≤ 12 := by have h := hg.1.tbl; rw [← HN.out]; exact ⟨h.1, h.2.1⟩
    have hq0 : 1 ≤ q ∧ q ≤ 12 := by have h := hg.2.tbl; rw [← HN2.out]; exact ⟨h.1, h.2.1⟩
    obtain ⟨sz, hsz⟩ : ∃ a, n + q = a := ⟨_, rfl⟩
    have hsq : sz ≤ 24 := by omega
    have h1s : 1 ≤ sz := by omega
    have hsi : (n : Int) + (q : Int) = (sz : Int) := by rw [← hsz]; simp
    have hwk : IntKind.i64.wrap (sz : Int) = (sz : Int) := IntWalk.i64_in _ (by omega)
    have HSZ := hide hsz
    have hkk : k = sz := by rw [← hk, grid_length, HN.out, HN2.out, hsz]
    have hle : sz ≤ 12 := by rw [← hsz, ← HN.out, ← HN2.out]; exact hlim
    subst hkk
    rw [HN.out, HN2.out, HSZ.out]
    clear hg hk hlim hsz
    have hng : ¬ (12 : Int) < (k : Int) := by omega
    obtain ⟨b1, o1, hA, hb1w, hc1⟩ := HT1.out.cells HRD.out HN.out
    obtain ⟨b2, o2, hC, hb2w, hc2⟩ := HT2.out.cells HRD2.out HN2.out
    subst hA
    subst hC
    have HC1 := hide hc1
    have HC2 := hide hc2
    clear hc1 hc2
    obtain ⟨H, hH⟩ : ∃ H, udH f f2 n = H := ⟨_, rfl⟩
    rw [hH]
    have HH := hide hH
    clear hH
    obtain ⟨i0, hi, hz0, hz1, hz2⟩ := info_parts neInfo
    obtain ⟨i2, hj, hy0, hy1, hy2⟩ := info_parts neInfo2
    go_enter Try.func17, Try.ntmps17
    go_wp2_with fail
    refine calls_gen fun wd hw0 => ?_
    have HB : Hid (Below w.heap.size w wd) := hide (by rw [hw0]; exact (((Below.refl _ _).alloc (Nat.le_refl _) _).alloc (by simp) _).alloc (by simp; omega) _)
    have HK : Hid (Blk wd w.heap.size 26 [.slice (some ⟨b1, o1, none⟩) n c]) := hide (by rw [hw0]; exact ((Blk.new _ _ _).alloc _).alloc _)
    have HL : Hid (Blk wd (w.heap.size + 1) 26 [.slice (some ⟨b2, o2, none⟩) q c2]) := hide (by rw [hw0]; have h := (Blk.new (w.alloc (Obj.cells #[.slice (some ⟨b1, o1, none⟩) n c] 26)) 26 [.slice (some ⟨b2, o2, none⟩) q c2]).alloc (Obj.cells #[.slice none 0 0] 26); simpa using h)
    have HR : Hid (Blk wd (w.heap.size + 1 + 1) 26 [.slice none 0 0]) := hide (by rw [hw0]; have h := Blk.new ((w.alloc (Obj.cells #[.slice (some ⟨b1, o1, none⟩) n c] 26)).alloc (Obj.cells #[.slice (some ⟨b2, o2, none⟩) q c2] 26)) 26 [.slice none 0 0]; simpa using h)
    clear hw0
    refine (isRackS _ _ _ f true _ HN.out hb HBS.out (HRD.out.later HB.out) HRK1.out).mono ?_
    rintro e wd ⟨rfl, hbd⟩
    replace HB := hide (HB.out.trans (hbd.mono HB.out.size))
    replace HK := hide (HK.out.later hbd)
    replace HL := hide (HL.out.later hbd)
    replace HR := hide (HR.out.later hbd)
    clear hbd
    have k0 := HK.out.cell 0 _ rfl
    have k1 := HL.out.cell 0 _ rfl
    go_wp2_with fail
    clear k0 k1
    refine (isRackS _ _ _ f2 true _ HN2.out hb2 HBS2.out (HRD2.out.later HB.out) HRK2.out).mono ?_
    rintro e wd ⟨rfl, hbd⟩
    replace HB := hide (HB.out.trans (hbd.mono HB.out.size))
    replace HK := hide (HK.out.later hbd)
    replace HL := hide (HL.out.later hbd)
    replace HR := hide (HR.out.later hbd)
    clear hbd
    have k0 := HK.out.cell 0 _ rfl
    have k1 := HL.out.cell 0 _ rfl
    go_wp2_with fail
    go_region_held3 (fun w' => w'.cell? ⟨w.heap.size, 0, none⟩ = some (.slice (some ⟨b1, o1, none⟩) n c) ∧ w'.cell? ⟨w.heap.size + 1, 0, none⟩ = some (.slice (some ⟨b2, o2, none⟩) q c2)) (first | exact ⟨k0, k1⟩ | go_keep) (first | fail)
    all_goals
      clear k0 k1
      go_wp2_with fail
      refine wp_gen fun w2 hw2 => ?_
      obtain ⟨ob, hob⟩ : ∃ ob, wd.heap.size = ob := ⟨_, rfl⟩
      have hob1 : w.heap.size + 1 + 1 < ob := by rw [← hob]; exact HR.out.lt
      replace HB : Hid (Below w.heap.size w w2) := hide (by rw [hw2]; first | exact HB.out.drew.alloc HB.out.size _ | exact HB.out.alloc HB.out.size _)
      replace HK : Hid (Blk w2 w.heap.size 26 [.slice (some ⟨b1, o1, none⟩) n c]) := hide (by rw [hw2]; first | exact HK.out.drew.alloc _ | exact HK.out.alloc _)
      replace HL : Hid (Blk w2 (w.heap.size + 1) 26 [.slice (some ⟨b2, o2, none⟩) q c2]) := hide (by rw [hw2]; first | exact HL.out.drew.alloc _ | exact HL.out.alloc _)
      replace HR : Hid (Blk w2 (w.heap.size + 1 + 1) 26 [.slice none 0 0]) := hide (by rw [hw2]; first | exact HR.out.drew.alloc _ | exact HR.out.alloc _)
      have HO2 : Hid (Blk w2 ob 26 [.slice none 0 0]) := hide (by rw [hw2, ← hob]; exact Blk.new _ _ _)
      have HT : Hid (One 33 2 26 (ob + 1) w2 ob 0 [.slice none 0 0] (.slice none 0 0) [] []) := hide (One.start w2 _ _ _ HO2.out (Nat.lt_succ_self _) HO2.out.lt)
      rw [hob]
      clear hw2 hob HO2
      go_loopw [9] (fun i wr => ∃ (x : Nat) (v : Value) (vals : List Value), x ≤ k ∧ i = .int .i64 x ∧ Below w.heap.size w wr ∧ One 33 2 26 (ob + 1) wr ob 0 [.slice none 0 0] v ((grid k H).take x) vals ∧ Blk wr (w.heap.size) 26 [.slice (some ⟨b1, o1, none⟩) n c] ∧ Blk wr (w.heap.size + 1) 26 [.slice (some ⟨b2, o2, none⟩) q c2] ∧ Blk wr (w.heap.size + 1 + 1) 26 [.slice none 0 0]) (fun i _ => k - (intOf i).toNat)
      case atStart => exact ⟨0, _, _, Nat.zero_le _, rfl, HB.out, by simpa using HT.out, HK.out, HL.out, HR.out⟩
      case round =>
        obtain ⟨x, v, vals, hx, rfl, hbe, htw, qHK, qHL, qHR⟩ := hrel
        clear HB HT HK HL HR
        have HB := hide hbe
        have HT := hide htw
        have HK := hide qHK
        have HL := hide qHL
        have HR := hide qHR
        clear hbe htw qHK qHL qHR
        by_cases hlt : x < k
        · have hxz : (x : Int) < k := by omega
          go_wp2_with fail
          obtain ⟨wo, rfl⟩ : ∃ wo : World, wo = wr := ⟨_, rfl⟩
          go_loopw [10, 11] (fun v i wi => ∃ y : Nat, y ≤ k ∧ i = .int .i64 y ∧ Below wo.heap.size wo wi ∧ wo.heap.size < wi.heap.size ∧ wi.ownsRow wo.heap.size 2 1 v y (ints ((frow k H x).take y))) (fun _ i _ => k - (intOf i).toNat)
          case atStart => exact ⟨0, Nat.zero_le _, rfl, (Below.refl _ _).alloc (Nat.le_refl _) _, by simp, by simpa [ints] using ne_empty wo _⟩
          case round =>
            obtain ⟨y, hy, rfl, hbi, hsi2, hoi⟩ := hrel
            have HBI := hide hbi
            have HOI := hide hoi
            clear hbi hoi
            by_cases hlty : y < k
            · have hyz : (y : Int) < k := by omega
              have HBW := hide (HB.out.trans (HBI.out.mono HB.out.size))
              by_cases h1 : x < n ∧ y < n
              · have hpr : H x y = ((ap f x y : Nat) : Int) := by rw [← HH.out]; unfold udH; rw [if_pos h1]
                obtain ⟨bx, ox, cx, r1, l1, g1⟩ := HC1.out x h1.1
                have r2 := g1 y h1.2
                obtain ⟨u, hu⟩ : ∃ u, ap f x y = u := ⟨_, rfl⟩
                rw [hu] at r2 hpr
                have HCELL := hide hpr
                replace r1 := (HBW.out.cell (p := ⟨b1, o1 + x, none⟩) hb1w).trans r1
                replace r2 := (HBW.out.cell (p := ⟨bx, ox + y, none⟩) l1).trans r2
                have z1 : (x : Int) < n := by omega
                have z2 : (y : Int) < n := by omega
                clear g1 hu hpr h1
                have k0 := (HK.out.later HBI.out).cell 0 _ rfl
                have k1 := (HL.out.later HBI.out).cell 0 _ rfl
                go_wp2_with (at_builtin; refine wpList_append_own _ rfl _ _ 33 rfl wo.heap.size 2 i0 (.int .i64 0) 1 8 Try.underlying33 hi hz0 hz1 hz2 rfl (by decide) _ _ _ rfl (HOI.out.alloc _) ⟨wr.heap.size, 0, none⟩ 1 1 [.int .i64 ((u : Int))] rfl rfl ?a1 ?a2 ?a3 ?a4 ?a5 ?_)
                try (case a1 => exact ne_new)
                try (case a2 => first | rfl | (intro u hu; simp at hu; subst hu; rfl))
                try (case a3 => first | omega | (unfold maxLen; omega))
                try (case a4 => omega)
                try (case a5 => first | omega | (simp; omega))
                intro v' w3 hown' hgrow _
                have HO3 := hide hown'
                have HB3 : Hid (Below wo.heap.size wo w3) := hide ((HBI.out.alloc HBI.out.size _).grown hgrow (by have := HBI.out.size; simp; omega) (fun g hg => ((HOI.out.alloc (.cells #[.int .i64 ((u : Int))] 2)).lt g hg).1))
                have hs3 : wo.heap.size < w3.heap.size := by have := hgrow.size; simp at this; omega
                clear hown' hgrow
                go_wp2_with fail
                go_roundw
                case rel => exact ⟨y + 1, by omega, by go_num, HB3.out, hs3, by have h := HO3.out; rw [← HCELL.out, frow_take _ _ _ _ hlty] at h; exact h⟩
                case measure => simp [intOf]; omega
              · by_cases h2 : n ≤ x ∧ n ≤ y
                · obtain ⟨xb, hxb⟩ : ∃ a, x - n = a := ⟨_, rfl⟩
                  obtain ⟨yb, hyb⟩ : ∃ a, y - n = a := ⟨_, rfl⟩
                  have hpr : H x y = ((ap f2 xb yb + n : Nat) : Int) := by rw [← HH.out]; unfold udH; rw [if_neg h1, if_pos h2, hxb, hyb]
                  have hxq : xb < q := by have := HSZ.out; omega
                  have hyq : yb < q := by have := HSZ.out; omega
                  obtain ⟨bx, ox, cx, r1, l1, g1⟩ := HC2.out xb hxq
                  have r2 := g1 yb hyq
                  have hu2 := HT2.out.ap_lt HN2.out hxq hyq
                  obtain ⟨u, hu⟩ : ∃ u, ap f2 xb yb = u := ⟨_, rfl⟩
                  rw [hu] at r2 hpr hu2
                  obtain ⟨u', hu'⟩ : ∃ a, u + n = a := ⟨_, rfl⟩
                  rw [hu'] at hpr
                  have HCELL := hide hpr
                  replace r1 := (HBW.out.cell (p := ⟨b2, o2 + xb, none⟩) hb2w).trans r1
                  replace r2 := (HBW.out.cell (p := ⟨bx, ox + yb, none⟩) l1).trans r2
                  have e1 : (x : Int) - (n : Int) = (xb : Int) := by omega
                  have e2 : (y : Int) - (n : Int) = (yb : Int) := by omega
                  have e3 : (n : Int) + (u : Int) = (u' : Int) := by omega
                  have g3 : ¬ (x : Int) < n := by omega
                  have g4 : (n : Int) ≤ x := by omega
                  have g5 : (n : Int) ≤ y := by omega
                  have g6 : ¬ (y : Int) < n := by omega
                  have z1 : (xb : Int) < q := by omega
                  have z2 : (yb : Int) < q := by omega
                  have w4 : IntKind.i64.wrap (xb : Int) = (xb : Int) := IntWalk.i64_in _ (by omega)
                  have w5 : IntKind.i64.wrap (yb : Int) = (yb : Int) := IntWalk.i64_in _ (by omega)
                  have w6 : IntKind.i64.wrap (u' : Int) = (u' : Int) := IntWalk.i64_in _ (by omega)
                  clear g1 hu hpr h1 h2 hxb hyb hu' hu2 hxq hyq
                  have k0 := (HK.out.later HBI.out).cell 0 _ rfl
                  have k1 := (HL.out.later HBI.out).cell 0 _ rfl
                  go_wp2_with (at_builtin; refine wpList_append_own _ rfl _ _ 33 rfl wo.heap.size 2 i0 (.int .i64 0) 1 8 Try.underlying33 hi hz0 hz1 hz2 rfl (by decide) _ _ _ rfl (HOI.out.alloc _) ⟨wr.heap.size, 0, none⟩ 1 1 [.int .i64 ((u' : Int))] rfl rfl ?b1 ?b2 ?b3 ?b4 ?b5 ?_)
                  try (case b1 => exact ne_new)
                  try (case b2 => first | rfl | (intro u hu; simp at hu; subst hu; rfl))
                  try (case b3 => first | omega | (unfold maxLen; omega))
                  try (case b4 => omega)
                  try (case b5 => first | omega | (simp; omega))
                  intro v' w3 hown' hgrow _
                  have HO3 := hide hown'
                  have HB3 : Hid (Below wo.heap.size wo w3) := hide ((HBI.out.alloc HBI.out.size _).grown hgrow (by have := HBI.out.size; simp; omega) (fun g hg => ((HOI.out.alloc (.cells #[.int .i64 ((u' : Int))] 2)).lt g hg).1))
                  have hs3 : wo.heap.size < w3.heap.size := by have := hgrow.size; simp at this; omega
                  clear hown' hgrow
                  go_wp2_with fail
                  go_roundw
                  case rel => exact ⟨y + 1, by omega, by go_num, HB3.out, hs3, by have h := HO3.out; rw [← HCELL.out, frow_take _ _ _ _ hlty] at h; exact h⟩
                  case measure => simp [intOf]; omega
                · rcases (by omega : (x < n ∧ n ≤ y) ∨ (y < n ∧ n ≤ x)) with hcs | hcs
                  · have hpr : H x y = ((y : Nat) : Int) := by rw [← HH.out]; unfold udH; rw [if_neg h1, if_neg h2]
                    have HCELL := hide hpr
                    have g1 : (x : Int) < n := by omega
                    have g2 : ¬ (y : Int) < n := by omega
                    have g3 : ¬ (n : Int) ≤ x := by omega
                    clear hpr h1 h2 hcs
                    go_wp2_with (at_builtin; refine wpList_append_own _ rfl _ _ 33 rfl wo.heap.size 2 i0 (.int .i64 0) 1 8 Try.underlying33 hi hz0 hz1 hz2 rfl (by decide) _ _ _ rfl (HOI.out.alloc _) ⟨wr.heap.size, 0, none⟩ 1 1 [.int .i64 ((y : Int))] rfl rfl ?d1 ?d2 ?d3 ?d4 ?d5 ?_)
                    try (case d1 => exact ne_new)
                    try (case d2 => first | rfl | (intro u hu; simp at hu; subst hu; rfl))
                    try (case d3 => first | omega | (unfold maxLen; omega))
                    try (case d4 => omega)
                    try (case d5 => first | omega | (simp; omega))
                    intro v' w3 hown' hgrow _
                    have HO3 := hide hown'
                    have HB3 : Hid (Below wo.heap.size wo w3) := hide ((HBI.out.alloc HBI.out.size _).grown hgrow (by have := HBI.out.size; simp; omega) (fun g hg => ((HOI.out.alloc (.cells #[.int .i64 ((y : Int))] 2)).lt g hg).1))
                    have hs3 : wo.heap.size < w3.heap.size := by have := hgrow.size; simp at this; omega
                    clear hown' hgrow
                    go_wp2_with fail
                    go_roundw
                    case rel => exact ⟨y + 1, by omega, by go_num, HB3.out, hs3, by have h := HO3.out; rw [← HCELL.out, frow_take _ _ _ _ hlty] at h; exact h⟩
                    case measure => simp [intOf]; omega
                  · have hpr : H x y = ((y : Nat) : Int) := by rw [← HH.out]; unfold udH; rw [if_neg h1, if_neg h2]
                    have HCELL := hide hpr
                    have g1 : ¬ (x : Int) < n := by omega
                    have g2 : (n : Int) ≤ x := by omega
                    have g3 : ¬ (n : Int) ≤ y := by omega
                    clear hpr h1 h2 hcs
                    go_wp2_with (at_builtin; refine wpList_append_own _ rfl _ _ 33 rfl wo.heap.size 2 i0 (.int .i64 0) 1 8 Try.underlying33 hi hz0 hz1 hz2 rfl (by decide) _ _ _ rfl (HOI.out.alloc _) ⟨wr.heap.size, 0, none⟩ 1 1 [.int .i64 ((y : Int))] rfl rfl ?e1 ?e2 ?e3 ?e4 ?e5 ?_)
                    try (case e1 => exact ne_new)
                    try (case e2 => first | rfl | (intro u hu; simp at hu; subst hu; rfl))
                    try (case e3 => first | omega | (unfold maxLen; omega))
                    try (case e4 => omega)
                    try (case e5 => first | omega | (simp; omega))
                    intro v' w3 hown' hgrow _
                    have HO3 := hide hown'
                    have HB3 : Hid (Below wo.heap.size wo w3) := hide ((HBI.out.alloc HBI.out.size _).grown hgrow (by have := HBI.out.size; simp; omega) (fun g hg => ((HOI.out.alloc (.cells #[.int .i64 ((y : Int))] 2)).lt g hg).1))
                    have hs3 : wo.heap.size < w3.heap.size := by have := hgrow.size; simp at this; omega
                    clear hown' hgrow
                    go_wp2_with fail
                    go_roundw
                    case rel => exact ⟨y + 1, by omega, by go_num, HB3.out, hs3, by have h := HO3.out; rw [← HCELL.out, frow_take _ _ _ _ hlty] at h; exact h⟩
                    case measure => simp [intOf]; omega
            · have hyn : y = k := by omega
              subst hyn
              have HTM : Hid (((grid y H).take x).length = x) := hide (by rw [List.length_take, grid_length]; omega)
              obtain ⟨A2, c2', hv2, hres2⟩ := own_shape HOI.out
              subst hv2
              have HRL : Hid ((frow y H x).length = y) := hide (frow_length _ _ _)
              have HTK : Hid ((frow y H x).take y = frow y H x) := hide (List.take_of_length_le (by rw [HRL.out]; exact Nat.le_refl _))
              have HRO := hide hres2.obj
              have HT3 := hide (HT.out.later HBI.out)
              have HK3 := hide (HK.out.later HBI.out)
              have HL3 := hide (HL.out.later HBI.out)
              have HR3 := hide (HR.out.later HBI.out)
              have HB3 := hide (HB.out.trans (HBI.out.mono HB.out.size))
              clear hres2
              have j0 := HT3.out.box.cell 0 _ rfl
              have j2 := HT3.out.box.frozen 0
              have j4 := fun o => (HT3.out.box.alloc o).cell 0 _ rfl
              have HOW2 : Hid (wr.ownsRow (ob + 1) 33 1 v x vals) := hide (by have h := HT3.out.l.own; rw [HTM.out] at h; exact h)
              have hobl := HT3.out.box.lt
              have hbsz := HT3.out.bsz
              go_wp2_with (at_builtin; refine wpList_append_own_at _ rfl _ _ 22 rfl (ob + 1) 33 i2 (.slice none 0 0) 1 24 Try.underlying22 hj hy0 hy1 hy2 rfl (by decide) _ _ _ rfl (HOW2.out.alloc _) ⟨wr.heap.size, 0, none⟩ 1 1 [.slice A2 y c2'] rfl rfl ?p1 ?p2 ?p3 ?p4 ?p5 ?_)
              try (case p1 => exact ne_new)
              try (case p2 => first | rfl | (intro u hu; simp at hu; subst hu; rfl))
              try (case p3 => first | omega | (unfold maxLen; omega))
              try (case p4 => omega)
              try (case p5 => first | omega | (simp; omega))
              intro v' w7 hown7 hgrow7 _ hat7
              obtain ⟨gg2, cap2, hv7⟩ := own_form hown7
              subst hv7
              have hbk := HT3.out.kept hgrow7
              have HT4 := hide (One.add (by decide) HT.out HT3.out (Nat.le_refl _) (by have h := HRO.out; rw [HTK.out] at h; exact h) HTM.out HRL.out hown7 hgrow7)
              have HB4 := hide (HT3.out.below hgrow7 (.slice (some ⟨gg2, 0, none⟩) (x + 1) cap2) HB3.out (by omega))
              have HK4 := hide ((HT3.out.frame hgrow7 (.slice (some ⟨gg2, 0, none⟩) (x + 1) cap2) (by omega) (by omega) HK3.out.lt).trans HK3.out)
              have HL4 := hide ((HT3.out.frame hgrow7 (.slice (some ⟨gg2, 0, none⟩) (x + 1) cap2) (by omega) (by omega) HL3.out.lt).trans HL3.out)
              have HR4 := hide ((HT3.out.frame hgrow7 (.slice (some ⟨gg2, 0, none⟩) (x + 1) cap2) (by omega) (by omega) HR3.out.lt).trans HR3.out)
              clear j0 j2 j4 hown7 hgrow7 hat7
              have j0 := hbk.cell 0 _ rfl
              have j2 := hbk.frozen 0
              clear hbk
              go_wp2_with fail
              go_roundw
              case rel =>
                refine ⟨x + 1, .slice (some ⟨gg2, 0, none⟩) (x + 1) cap2, vals ++ [.slice A2 y c2'], by omega, by go_num, HB4.out, ?_, HK4.out, HL4.out, HR4.out⟩
                rw [grid_take _ _ _ hlt]
                exact HT4.out
              case measure => simp [intOf]; omega
        · have hxn : x = k := by omega
          subst hxn
          obtain ⟨A1, c1, hv1, ho1⟩ := HT.out.l.shape
          rw [List.take_of_length_le (by rw [grid_length]; exact Nat.le_refl _)] at hv1 ho1
          rw [grid_length] at hv1
          subst hv1
          have HA1 := hide ho1
          clear ho1
          have k0 := HT.out.box.cell 0 _ rfl
          have k2 := HR.out.cell 0 _ rfl
          have k3 := HR.out.frozen 0
          have hobl := HT.out.box.lt
          go_wp2_with fail
          refine bp_gen fun wf hwf => ?_
          obtain ⟨q0, hbf, hof⟩ := kend hwf HR.out (by omega) HB.out HA1.out (by omega) (by omega) (Nat.le_refl _)
          clear hwf k0 k2 k3
          exact bodyPost_ret (v := .tuple #[.agg #[.slice A1 x c1], .int .i64 0]) (by simp [results, Try.results17, go_sem, q0]) rfl ⟨_, _, rfl, hbf, hof⟩
  · have HT1 := hide hg.1.tbl
    have HT2 := hide hg.2.tbl
    have HRK1 : Hid (RkRes f true) := hide (by unfold RkRes; simp [hg.1])
    have HRK2 : Hid (RkRes f2 true) := hide (by unfold RkRes; simp [hg.2])
    have hn0 : 1 ≤ n ∧ n ≤ 12 := by have h := hg.1.tbl; rw [← HN.out]; exact ⟨h.1, h.2.1⟩
    have hq0 : 1 ≤ q ∧ q ≤ 12 := by have h := hg.2.tbl; rw [← HN2.out]; exact ⟨h.1, h.2.1⟩
    obtain ⟨sz, hsz⟩ : ∃ a, n + q = a := ⟨_, rfl⟩
    have hsq : sz ≤ 24 := by omega
    have h1s : 1 ≤ sz := by omega
    have hsi : (n : Int) + (q : Int) = (sz : Int) := by rw [← hsz]; simp
    have hwk : IntKind.i64.wrap (sz : Int) = (sz : Int) := IntWalk.i64_in _ (by omega)
    have HSZ := hide hsz
    have hgl : ¬ sz ≤ 12 := by rw [← hsz, ← HN.out, ← HN2.out]; exact hlim
    obtain rfl : k = 0 := by simpa using hk.symm
    clear hk
    clear hg hlim hsz
    go_enter Try.func17, Try.ntmps17
    go_wp2_with fail
    refine calls_gen fun wd hw0 => ?_
    have HB : Hid (Below w.heap.size w wd) := hide (by rw [hw0]; exact (((Below.refl _ _).alloc (Nat.le_refl _) _).alloc (by simp) _).alloc (by simp; omega) _)
    have HK : Hid (Blk wd w.heap.size 26 [.slice A n c]) := hide (by rw [hw0]; exact ((Blk.new _ _ _).alloc _).alloc _)
    have HL : Hid (Blk wd (w.heap.size + 1) 26 [.slice C q c2]) := hide (by rw [hw0]; have h := (Blk.new (w.alloc (Obj.cells #[.slice A n c] 26)) 26 [.slice C q c2]).alloc (Obj.cells #[.slice none 0 0] 26); simpa using h)
    have HR : Hid (Blk wd (w.heap.size + 1 + 1) 26 [.slice none 0 0]) := hide (by rw [hw0]; have h := Blk.new ((w.alloc (Obj.cells #[.slice A n c] 26)).alloc (Obj.cells #[.slice C q c2] 26)) 26 [.slice none 0 0]; simpa using h)
    clear hw0
    have hgt : (12 : Int) < (sz : Int) := by omega
    refine (isRackS _ _ _ f true _ HN.out hb HBS.out (HRD.out.later HB.out) HRK1.out).mono ?_
    rintro e wd ⟨rfl, hbd⟩
    replace HB := hide (HB.out.trans (hbd.mono HB.out.size))
    replace HK := hide (HK.out.later hbd)
    replace HL := hide (HL.out.later hbd)
    replace HR := hide (HR.out.later hbd)
    clear hbd
    have k0 := HK.out.cell 0 _ rfl
    have k1 := HL.out.cell 0 _ rfl
    go_wp2_with fail
    clear k0 k1
    refine (isRackS _ _ _ f2 true _ HN2.out hb2 HBS2.out (HRD2.out.later HB.out) HRK2.out).mono ?_
    rintro e wd ⟨rfl, hbd⟩
    replace HB := hide (HB.out.trans (hbd.mono HB.out.size))
    replace HK := hide (HK.out.later hbd)
    replace HL := hide (HL.out.later hbd)
    replace HR := hide (HR.out.later hbd)
    clear hbd
    have k0 := HK.out.cell 0 _ rfl
    have k1 := HL.out.cell 0 _ rfl
    have k2 := HR.out.cell 0 _ rfl
    have k3 := HR.out.frozen 0
    go_wp2_with fail
    refine bp_gen fun wf hwf => ?_
    have HRF : Blk wf (w.heap.size + 1 + 1) 26 [.slice none 0 0] := by rw [hwf]; first | exact HR.out | exact HR.out.set 0 _
    have hbf : Below w.heap.size w wf := by rw [hwf]; first | exact HB.out | exact HB.out.setCell (p := ⟨w.heap.size + 1 + 1, 0, none⟩) (by show w.heap.size ≤ w.heap.size + 1 + 1; omega) _
    have q0 := HRF.cell 0 _ rfl
    clear hwf k2 k3
    exact bodyPost_ret (v := .tuple #[.agg #[.slice none 0 0], .int .i64 3]) (by simp [results, Try.results17, go_sem, q0]) rfl ⟨_, _, rfl, hbf, .inl ⟨rfl, rfl⟩⟩
  · by_cases h1 : Rck f
    · have h2 : ¬ Rck f2 := fun h => hg ⟨h1, h⟩
      have HRK1 : Hid (RkRes f true) := hide (by unfold RkRes; simp [h1])
      have HRK2 : Hid (RkRes f2 false) := hide (by unfold RkRes; simp [h2])
      obtain rfl : k = 0 := by simpa using hk.symm
      clear hk
      clear hg h1 h2
      go_enter Try.func17, Try.ntmps17
      go_wp2_with fail
      refine calls_gen fun wd hw0 => ?_
      have HB : Hid (Below w.heap.size w wd) := hide (by rw [hw0]; exact (((Below.refl _ _).alloc (Nat.le_refl _) _).alloc (by simp) _).alloc (by simp; omega) _)
      have HK : Hid (Blk wd w.heap.size 26 [.slice A n c]) := hide (by rw [hw0]; exact ((Blk.new _ _ _).alloc _).alloc _)
      have HL : Hid (Blk wd (w.heap.size + 1) 26 [.slice C q c2]) := hide (by rw [hw0]; have h := (Blk.new (w.alloc (Obj.cells #[.slice A n c] 26)) 26 [.slice C q c2]).alloc (Obj.cells #[.slice none 0 0] 26); simpa using h)
      have HR : Hid (Blk wd (w.heap.size + 1 + 1) 26 [.slice none 0 0]) := hide (by rw [hw0]; have h := Blk.new ((w.alloc (Obj.cells #[.slice A n c] 26)).alloc (Obj.cells #[.slice C q c2] 26)) 26 [.slice none 0 0]; simpa using h)
      clear hw0
      refine (isRackS _ _ _ f true _ HN.out hb HBS.out (HRD.out.later HB.out) HRK1.out).mono ?_
      rintro e wd ⟨rfl, hbd⟩
      replace HB := hide (HB.out.trans (hbd.mono HB.out.size))
      replace HK := hide (HK.out.later hbd)
      replace HL := hide (HL.out.later hbd)
      replace HR := hide (HR.out.later hbd)
      clear hbd
      have k0 := HK.out.cell 0 _ rfl
      have k1 := HL.out.cell 0 _ rfl
      go_wp2_with fail
      clear k0 k1
      refine (isRackS _ _ _ f2 false _ HN2.out hb2 HBS2.out (HRD2.out.later HB.out) HRK2.out).mono ?_
      rintro e wd ⟨rfl, hbd⟩
      replace HB := hide (HB.out.trans (hbd.mono HB.out.size))
      replace HK := hide (HK.out.later hbd)
      replace HL := hide (HL.out.later hbd)
      replace HR := hide (HR.out.later hbd)
      clear hbd
      have k2 := HR.out.cell 0 _ rfl
      have k3 := HR.out.frozen 0
      go_wp2_with fail
      refine bp_gen fun wf hwf => ?_
      have HRF : Blk wf (w.heap.size + 1 + 1) 26 [.slice none 0 0] := by rw [hwf]; first | exact HR.out | exact HR.out.set 0 _
      have hbf : Below w.heap.size w wf := by rw [hwf]; first | exact HB.out | exact HB.out.setCell (p := ⟨w.heap.size + 1 + 1, 0, none⟩) (by show w.heap.size ≤ w.heap.size + 1 + 1; omega) _
      have q0 := HRF.cell 0 _ rfl
      clear hwf k2 k3
      exact bodyPost_ret (v := .tuple #[.agg #[.slice none 0 0], .int .i64 1]) (by simp [results, Try.results17, go_sem, q0]) rfl ⟨_, _, rfl, hbf, .inl ⟨rfl, rfl⟩⟩
    · have HRK1 : Hid (RkRes f false) := hide (by unfold RkRes; simp [h1])
      obtain rfl : k = 0 := by simpa using hk.symm
      clear hk
      clear hg h1
      go_enter Try.func17, Try.ntmps17
      go_wp2_with fail
      refine calls_gen fun wd hw0 => ?_
      have HB : Hid (Below w.heap.size w wd) := hide (by rw [hw0]; exact (((Below.refl _ _).alloc (Nat.le_refl _) _).alloc (by simp) _).alloc (by simp; omega) _)
      have HK : Hid (Blk wd w.heap.size 26 [.slice A n c]) := hide (by rw [hw0]; exact ((Blk.new _ _ _).alloc _).alloc _)
      have HL : Hid (Blk wd (w.heap.size + 1) 26 [.slice C q c2]) := hide (by rw [hw0]; have h := (Blk.new (w.alloc (Obj.cells #[.slice A n c] 26)) 26 [.slice C q c2]).alloc (Obj.cells #[.slice none 0 0] 26); simpa using h)
      have HR : Hid (Blk wd (w.heap.size + 1 + 1) 26 [.slice none 0 0]) := hide (by rw [hw0]; have h := Blk.new ((w.alloc (Obj.cells #[.slice A n c] 26)).alloc (Obj.cells #[.slice C q c2] 26)) 26 [.slice none 0 0]; simpa using h)
      clear hw0
      refine (isRackS _ _ _ f false _ HN.out hb HBS.out (HRD.out.later HB.out) HRK1.out).mono ?_
      rintro e wd ⟨rfl, hbd⟩
      replace HB := hide (HB.out.trans (hbd.mono HB.out.size))
      replace HK := hide (HK.out.later hbd)
      replace HL := hide (HL.out.later hbd)
      replace HR := hide (HR.out.later hbd)
      clear hbd
      have k2 := HR.out.cell 0 _ rfl
      have k3 := HR.out.frozen 0
      go_wp2_with fail
      refine bp_gen fun wf hwf => ?_
      have HRF : Blk wf (w.heap.size + 1 + 1) 26 [.slice none 0 0] := by rw [hwf]; first | exact HR.out | exact HR.out.set 0 _
      have hbf : Below w.heap.size w wf := by rw [hwf]; first | exact HB.out | exact HB.out.setCell (p := ⟨w.heap.size + 1 + 1, 0, none⟩) (by show w.heap.size ≤ w.heap.size + 1 + 1; omega) _
      have q0 := HRF.cell 0 _ rfl
      clear hwf k2 k3
      exact bodyPost_ret (v := .tuple #[.agg #[.slice none 0 0], .int .i64 1]) (by simp [results, Try.results17, go_sem, q0]) rfl ⟨_, _, rfl, hbf, .inl ⟨rfl, rfl⟩⟩

end Go.Proofs.Ytljdfanebjhhmaa
