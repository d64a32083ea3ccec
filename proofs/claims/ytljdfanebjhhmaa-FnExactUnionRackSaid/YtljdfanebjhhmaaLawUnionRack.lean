import Derived.Test.YtljdfanebjhhmaaZw
import Derived.Test.YtljdfanebjhhmaaZn
import Derived.Test.YtljdfanebjhhmaaZa
import Derived.Test.YtljdfanebjhhmaaZaz
import Derived.Test.YtljdfanebjhhmaaZau
namespace Go.Proofs.Ytljdfanebjhhmaa
open Go Go.RowKit
set_option maxHeartbeats 4000000

set_option maxRecDepth 20000 in
theorem law_UnionRack (a0 : Option Addr) (n0 c0 : Nat) (x0 : List (List Int)) (a1 : Option Addr) (n1 c1 : Nat) (x1 : List (List Int)) (w : World) (hn0 : x0.length = n0) (hb0 : n0 ≤ 9223372036854775807) (hbs0 : ∀ i, i < x0.length → (x0.getD i []).length ≤ 9223372036854775807) (hr0 : Rd2 w a0 x0) (hn1 : x1.length = n1) (hb1 : n1 ≤ 9223372036854775807) (hbs1 : ∀ i, i < x1.length → (x1.getD i []).length ≤ 9223372036854775807) (hr1 : Rd2 w a1 x1) :
    Calls Try.prog 4 #[.agg #[.slice a0 n0 c0], .agg #[.slice a1 n1 c1]] w fun e w' => e = .returned (.bool true) ∧ Below w.heap.size w w' := by
  have HN0 := hide hn0
  clear hn0
  have HN1 := hide hn1
  clear hn1
  obtain ⟨zs, code, hres, hzb, hzr⟩ := UdRes.ex x0 x1
  have HRES := hide hres
  clear hres
  obtain ⟨kz, hkz⟩ : ∃ kz, zs.length = kz := ⟨_, rfl⟩
  rw [hkz] at hzb
  have HK := hide hkz
  clear hkz
  have HZR := hide hzr
  clear hzr
  go_enter Try.func4, Try.ntmps4
  go_wp2_with fail
  refine calls_gen fun wb hwb => ?_
  have HB0 : Hid (Below w.heap.size w wb) := hide (by rw [hwb]; exact ((Below.refl _ w).alloc (by simp <;> omega) (Obj.cells #[Value.slice a0 n0 c0] 24)).alloc (by simp <;> omega) (Obj.cells #[Value.slice a1 n1 c1] 24))
  have ZB : Hid (wb.heap.size = w.heap.size + 1 + 1) := hide (by rw [hwb]; simp <;> omega)
  have O_K0 : Hid (Blk wb w.heap.size 24 [.slice a0 n0 c0]) := hide (by rw [hwb]; exact (Blk.new w 24 [.slice a0 n0 c0]).alloc (Obj.cells #[Value.slice a1 n1 c1] 24))
  have O_K1 : Hid (Blk wb (w.heap.size + 1) 24 [.slice a1 n1 c1]) := hide (by rw [hwb]; have h := Blk.new (w.alloc (Obj.cells #[Value.slice a0 n0 c0] 24)) 24 [.slice a1 n1 c1]; simpa using h)
  clear hwb
  refine (szK_any _ _ _ x0 1048576 _ HN0.out hb0 hbs0 (by omega) (by omega) (hr0.later HB0.out)).mono ?_
  rintro e w1 ⟨l0, hsd0, rfl, hbb⟩
  have HB1 := hide (HB0.out.trans (hbb.mono HB0.out.size))
  have Z1 := hide (hbb).size
  replace O_K0 := hide (O_K0.out.later hbb)
  replace O_K1 := hide (O_K1.out.later hbb)
  clear hbb
  rcases hsd0 with rfl | ⟨p0, q0, u0, y0⟩
  · go_wp2_with fail
    go_ret
    exact ⟨rfl, HB1.out⟩
  · have U0 := hide u0
    have Y0 := hide y0
    clear u0 y0 hbs0
    have m0 : n0 ≤ 1048576 := by have := U0.out; have := HN0.out; omega
    have kbK00 := O_K0.out.cell 0 _ rfl
    have kbK10 := O_K1.out.cell 0 _ rfl
    go_wp2_with fail
    clear kbK00 kbK10
    refine (szK_any _ _ _ x1 l0 _ HN1.out hb1 hbs1 (by omega) (by omega) (hr1.later HB1.out)).mono ?_
    rintro e w2 ⟨l1, hsd1, rfl, hbb⟩
    have HB2 := hide (HB1.out.trans (hbb.mono HB1.out.size))
    have Z2 := hide (hbb).size
    replace O_K0 := hide (O_K0.out.later hbb)
    replace O_K1 := hide (O_K1.out.later hbb)
    clear hbb
    rcases hsd1 with rfl | ⟨p1, q1, u1, y1⟩
    · go_wp2_with fail
      go_ret
      exact ⟨rfl, HB2.out⟩
    · have U1 := hide u1
      have Y1 := hide y1
      clear u1 y1 hbs1
      have m1 : n1 ≤ 1048576 := by have := U1.out; have := HN1.out; omega
      have kbK00 := O_K0.out.cell 0 _ rfl
      have kbK10 := O_K1.out.cell 0 _ rfl
      go_wp2_with fail
      clear kbK00 kbK10
      have hcc : (code != code) = false := by simp
      have TZ := hide (tot_bound zs (by rw [HK.out]; omega) (fun i hi => by have := HZR.out i hi; omega))
      have tz0 := TZ.out
      have T0 := hide (tot_bound x0 (by rw [HN0.out]; omega) (fun i hi => by have := Y0.out i hi; omega))
      have tq0 := T0.out
      have T1 := hide (tot_bound x1 (by rw [HN1.out]; omega) (fun i hi => by have := Y1.out i hi; omega))
      have tq1 := T1.out
      have hsw0 := HB2.out.size
      go_cut [6, 7] (fun v1 v2 wx => ∃ L A c, v1 = .pointer (some ⟨L, 0, none⟩) ∧ v2 = .int .i64 code ∧ Below w2.heap.size w2 wx ∧ Obj2 33 2 w2.heap.size wx.heap.size wx A zs ∧ Blk wx L 26 [.slice A kz c] ∧ L < wx.heap.size)
      case first =>
        have HPB : Hid True := hide trivial
        have tok0 : True := trivial
        have HBc : Hid (Below w2.heap.size w2 w2) := hide (Below.refl _ _)
        have HKc0 := O_K0
        have HKc1 := O_K1
        have kk0 := HKc0.out.cell 0 _ rfl
        have kk1 := HKc1.out.cell 0 _ rfl
        have gn0 : w2.heap.size ≠ w.heap.size := (by have zb := ZB.out; have z1 := Z1.out; have z2 := Z2.out; omega)
        have gn1 : w2.heap.size ≠ w.heap.size + 1 := (by have zb := ZB.out; have z1 := Z1.out; have z2 := Z2.out; omega)
        have gm0 := gn0.symm
        have gm1 := gn1.symm
        go_region_held3 (fun w' => w'.cell? ⟨w.heap.size, 0, none⟩ = some (.slice a0 n0 c0) ∧ w'.cell? ⟨w.heap.size + 1, 0, none⟩ = some (.slice a1 n1 c1)) (first | exact ⟨kk0, kk1⟩ | go_keep) (first | (go_at_call 12; have _t := tok0; clear _t tok0; go_must (refine calls_gen fun wc hwc => ?_; (first | (have hbx := al_drew_below hwc; have HPB := hide (And.intro (blk_al_drew hwc) HBc.out.size)) | (have hbx := al_below hwc; have HPB := hide (And.intro (blk_al hwc) HBc.out.size)) | (have hbx := drew_below hwc; (first | replace HPB := hide (And.intro (HPB.out.1.later hbx) HPB.out.2) | skip)) | (have hbx := eq_below hwc; (first | replace HPB := hide (And.intro (HPB.out.1.later hbx) HPB.out.2) | skip))); replace HKc0 := hide (HKc0.out.later hbx); replace HKc1 := hide (HKc1.out.later hbx); replace HBc := hide (HBc.out.trans (hbx.mono HBc.out.size)); clear hwc hbx; refine (copyK _ _ _ x0 _ HN0.out m0 (fun i hi => by have := Y0.out i hi; omega) ((hr0.later HB2.out).later HBc.out)).mono ?_; rintro e wd ⟨A_s0, c_s0, rfl, hbd, hobj⟩; have O_s0 := hide hobj; replace HKc0 := hide (HKc0.out.later hbd); replace HKc1 := hide (HKc1.out.later hbd); (first | replace HPB := hide (And.intro (HPB.out.1.later hbd) HPB.out.2) | skip); replace HBc := hide (HBc.out.trans (hbd.mono HBc.out.size)); clear hbd hobj; have kk0 := HKc0.out.cell 0 _ rfl; have kk1 := HKc1.out.cell 0 _ rfl; have gn0 : wd.heap.size ≠ w.heap.size := (by have h1 := HBc.out.size; have zb := ZB.out; have z1 := Z1.out; have z2 := Z2.out; omega); have gn1 : wd.heap.size ≠ w.heap.size + 1 := (by have h1 := HBc.out.size; have zb := ZB.out; have z1 := Z1.out; have z2 := Z2.out; omega); have gm0 := gn0.symm; have gm1 := gn1.symm; (first | (have bb0 := HPB.out.1.cell 0 _ rfl; have bf0 := HPB.out.1.frozen 0) | skip))) | (go_at_call 12; go_must (refine calls_gen fun wc hwc => ?_; (first | (have hbx := al_drew_below hwc; have HPB := hide (And.intro (blk_al_drew hwc) HBc.out.size)) | (have hbx := al_below hwc; have HPB := hide (And.intro (blk_al hwc) HBc.out.size)) | (have hbx := drew_below hwc; (first | replace HPB := hide (And.intro (HPB.out.1.later hbx) HPB.out.2) | skip)) | (have hbx := eq_below hwc; (first | replace HPB := hide (And.intro (HPB.out.1.later hbx) HPB.out.2) | skip))); replace HKc0 := hide (HKc0.out.later hbx); replace HKc1 := hide (HKc1.out.later hbx); replace O_s0 := hide (O_s0.out.later hbx); replace HBc := hide (HBc.out.trans (hbx.mono HBc.out.size)); clear hwc hbx; refine (copyK _ _ _ x1 _ HN1.out m1 (fun i hi => by have := Y1.out i hi; omega) ((hr1.later HB2.out).later HBc.out)).mono ?_; rintro e wd ⟨A_s1, c_s1, rfl, hbd, hobj⟩; have O_s1 := hide hobj; replace HKc0 := hide (HKc0.out.later hbd); replace HKc1 := hide (HKc1.out.later hbd); replace O_s0 := hide (O_s0.out.later hbd); (first | replace HPB := hide (And.intro (HPB.out.1.later hbd) HPB.out.2) | skip); replace HBc := hide (HBc.out.trans (hbd.mono HBc.out.size)); clear hbd hobj; have kk0 := HKc0.out.cell 0 _ rfl; have kk1 := HKc1.out.cell 0 _ rfl; have gn0 : wd.heap.size ≠ w.heap.size := (by have h1 := HBc.out.size; have zb := ZB.out; have z1 := Z1.out; have z2 := Z2.out; omega); have gn1 : wd.heap.size ≠ w.heap.size + 1 := (by have h1 := HBc.out.size; have zb := ZB.out; have z1 := Z1.out; have z2 := Z2.out; omega); have gm0 := gn0.symm; have gm1 := gn1.symm; (first | (have bb0 := HPB.out.1.cell 0 _ rfl; have bf0 := HPB.out.1.frozen 0) | skip))) | (go_at_call 17; go_must (refine calls_gen fun wc hwc => ?_; (first | (have hbx := al_drew_below hwc; have HPB := hide (And.intro (blk_al_drew hwc) HBc.out.size)) | (have hbx := al_below hwc; have HPB := hide (And.intro (blk_al hwc) HBc.out.size)) | (have hbx := drew_below hwc; (first | replace HPB := hide (And.intro (HPB.out.1.later hbx) HPB.out.2) | skip)) | (have hbx := eq_below hwc; (first | replace HPB := hide (And.intro (HPB.out.1.later hbx) HPB.out.2) | skip))); replace HKc0 := hide (HKc0.out.later hbx); replace HKc1 := hide (HKc1.out.later hbx); replace O_s0 := hide (O_s0.out.later hbx); replace O_s1 := hide (O_s1.out.later hbx); replace HBc := hide (HBc.out.trans (hbx.mono HBc.out.size)); clear hwc hbx; refine (udS_any _ _ _ x0 _ _ _ x1 zs code kz _ HN0.out m0 (fun i hi => by have := Y0.out i hi; omega) O_s0.out.rd HN1.out m1 (fun i hi => by have := Y1.out i hi; omega) O_s1.out.rd HRES.out HK.out).mono ?_; rintro e wd ⟨A_W, c_W, rfl, hbd, hobj⟩; have HO := hide (And.intro hobj HBc.out.size); (first | have HQL := hide (And.intro HPB.out.2 HPB.out.1.lt) | skip); (first | replace HPB := hide (And.intro (HPB.out.1.later hbd) HPB.out.2) | skip); replace HKc0 := hide (HKc0.out.later hbd); replace HKc1 := hide (HKc1.out.later hbd); replace HBc := hide (HBc.out.trans (hbd.mono HBc.out.size)); clear hbd hobj; have kk0 := HKc0.out.cell 0 _ rfl; have kk1 := HKc1.out.cell 0 _ rfl; have gn0 : wd.heap.size ≠ w.heap.size := (by have h1 := HBc.out.size; have zb := ZB.out; have z1 := Z1.out; have z2 := Z2.out; omega); have gn1 : wd.heap.size ≠ w.heap.size + 1 := (by have h1 := HBc.out.size; have zb := ZB.out; have z1 := Z1.out; have z2 := Z2.out; omega); have gm0 := gn0.symm; have gm1 := gn1.symm; (first | (have bb0 := HPB.out.1.cell 0 _ rfl; have bf0 := HPB.out.1.frozen 0) | skip))))
        all_goals go_wp2_with fail
        all_goals go_meet
        all_goals refine ⟨_, A_W, c_W, rfl, rfl, ?_⟩
        all_goals first | exact cutK_new HBc.out HO.out.1 HO.out.2 | exact cutK_old HBc.out HO.out.1 HO.out.2 HPB.out.1 HQL.out
      case rest =>
        obtain ⟨L_W, A_W, c_W, rfl, rfl, hbb, hobj, hblk, hLl⟩ := hcut
        clear hsw0
        have HB3 := hide (HB2.out.trans (hbb.mono HB2.out.size))
        have Z3 := hide (hbb).size
        replace O_K0 := hide (O_K0.out.later hbb)
        replace O_K1 := hide (O_K1.out.later hbb)
        have O_W := hide hobj
        have O_BW := hide hblk
        have ZL_W := hide hLl
        clear hbb hobj hblk hLl
        have kbK00 := O_K0.out.cell 0 _ rfl
        have kbK10 := O_K1.out.cell 0 _ rfl
        have kbBW0 := O_BW.out.cell 0 _ rfl
        go_wp2_with fail
        clear kbK00 kbK10 kbBW0
        refine (copyK _ _ _ x0 _ HN0.out m0 (fun i hi => by have := Y0.out i hi; omega) (hr0.later HB3.out)).mono ?_
        rintro e w4 ⟨A_x0, c_x0, rfl, hbb, hobj⟩
        have HB4 := hide (HB3.out.trans (hbb.mono HB3.out.size))
        have Z4 := hide (hbb).size
        replace O_K0 := hide (O_K0.out.later hbb)
        replace O_K1 := hide (O_K1.out.later hbb)
        replace O_W := hide (O_W.out.later hbb)
        replace O_BW := hide (O_BW.out.later hbb)
        clear hbb
        have O_x0 := hide hobj
        clear hobj
        have kbK00 := O_K0.out.cell 0 _ rfl
        have kcK00 := fun o => (O_K0.out.alloc o).cell 0 _ rfl
        have kbK10 := O_K1.out.cell 0 _ rfl
        have kcK10 := fun o => (O_K1.out.alloc o).cell 0 _ rfl
        have kbBW0 := O_BW.out.cell 0 _ rfl
        have kcBW0 := fun o => (O_BW.out.alloc o).cell 0 _ rfl
        go_wp2_with fail
        clear kbK00 kcK00 kbK10 kcK10 kbBW0 kcBW0
        refine calls_gen fun w5 hw5 => ?_
        have O_Bx0 : Hid (Blk w5 w4.heap.size 26 [.slice A_x0 n0 c_x0]) := hide (by rw [hw5]; exact Blk.new _ _ _)
        have hbx : Below w4.heap.size w4 w5 := by rw [hw5]; exact (Below.refl _ _).alloc (Nat.le_refl _) _
        have ZE : Hid (w5.heap.size = w4.heap.size + 1) := hide (by rw [hw5]; simp)
        clear hw5
        have HB5 := hide (HB4.out.trans (hbx.mono HB4.out.size))
        have Z5 := hide (hbx).size
        replace O_K0 := hide (O_K0.out.later hbx)
        replace O_K1 := hide (O_K1.out.later hbx)
        replace O_W := hide (O_W.out.later hbx)
        replace O_BW := hide (O_BW.out.later hbx)
        replace O_x0 := hide (O_x0.out.later hbx)
        clear hbx
        replace Z5 := ZE
        clear ZE
        refine (copyK _ _ _ x1 _ HN1.out m1 (fun i hi => by have := Y1.out i hi; omega) (hr1.later HB5.out)).mono ?_
        rintro e w6 ⟨A_x1, c_x1, rfl, hbb, hobj⟩
        have HB6 := hide (HB5.out.trans (hbb.mono HB5.out.size))
        have Z6 := hide (hbb).size
        replace O_K0 := hide (O_K0.out.later hbb)
        replace O_K1 := hide (O_K1.out.later hbb)
        replace O_W := hide (O_W.out.later hbb)
        replace O_BW := hide (O_BW.out.later hbb)
        replace O_x0 := hide (O_x0.out.later hbb)
        replace O_Bx0 := hide (O_Bx0.out.later hbb)
        clear hbb
        have O_x1 := hide hobj
        clear hobj
        have kbK00 := O_K0.out.cell 0 _ rfl
        have kcK00 := fun o => (O_K0.out.alloc o).cell 0 _ rfl
        have kbK10 := O_K1.out.cell 0 _ rfl
        have kcK10 := fun o => (O_K1.out.alloc o).cell 0 _ rfl
        have kbBW0 := O_BW.out.cell 0 _ rfl
        have kcBW0 := fun o => (O_BW.out.alloc o).cell 0 _ rfl
        have kbBx00 := O_Bx0.out.cell 0 _ rfl
        have kcBx00 := fun o => (O_Bx0.out.alloc o).cell 0 _ rfl
        go_wp2_with fail
        clear kbK00 kcK00 kbK10 kcK10 kbBW0 kcBW0 kbBx00 kcBx00
        refine calls_gen fun w7 hw7 => ?_
        have O_Bx1 : Hid (Blk w7 w6.heap.size 26 [.slice A_x1 n1 c_x1]) := hide (by rw [hw7]; exact Blk.new _ _ _)
        have hbx : Below w6.heap.size w6 w7 := by rw [hw7]; exact (Below.refl _ _).alloc (Nat.le_refl _) _
        have ZE : Hid (w7.heap.size = w6.heap.size + 1) := hide (by rw [hw7]; simp)
        clear hw7
        have HB7 := hide (HB6.out.trans (hbx.mono HB6.out.size))
        have Z7 := hide (hbx).size
        replace O_K0 := hide (O_K0.out.later hbx)
        replace O_K1 := hide (O_K1.out.later hbx)
        replace O_W := hide (O_W.out.later hbx)
        replace O_BW := hide (O_BW.out.later hbx)
        replace O_x0 := hide (O_x0.out.later hbx)
        replace O_Bx0 := hide (O_Bx0.out.later hbx)
        replace O_x1 := hide (O_x1.out.later hbx)
        clear hbx
        replace Z7 := ZE
        clear ZE
        refine (udI_any _ _ _ x0 _ _ _ x1 zs code kz _ HN0.out m0 (fun i hi => by have := Y0.out i hi; omega) O_x0.out.rd HN1.out m1 (fun i hi => by have := Y1.out i hi; omega) O_x1.out.rd HRES.out HK.out).mono ?_
        rintro e w8 ⟨A_G, c_G, rfl, hbb, hobj⟩
        have HB8 := hide (HB7.out.trans (hbb.mono HB7.out.size))
        have Z8 := hide (hbb).size
        replace O_K0 := hide (O_K0.out.later hbb)
        replace O_K1 := hide (O_K1.out.later hbb)
        replace O_W := hide (O_W.out.later hbb)
        replace O_BW := hide (O_BW.out.later hbb)
        replace O_x0 := hide (O_x0.out.later hbb)
        replace O_Bx0 := hide (O_Bx0.out.later hbb)
        replace O_x1 := hide (O_x1.out.later hbb)
        replace O_Bx1 := hide (O_Bx1.out.later hbb)
        clear hbb
        have O_G := hide hobj
        clear hobj
        have kbK00 := O_K0.out.cell 0 _ rfl
        have kcK00 := fun o => (O_K0.out.alloc o).cell 0 _ rfl
        have kbK10 := O_K1.out.cell 0 _ rfl
        have kcK10 := fun o => (O_K1.out.alloc o).cell 0 _ rfl
        have kbBW0 := O_BW.out.cell 0 _ rfl
        have kcBW0 := fun o => (O_BW.out.alloc o).cell 0 _ rfl
        have kbBx00 := O_Bx0.out.cell 0 _ rfl
        have kcBx00 := fun o => (O_Bx0.out.alloc o).cell 0 _ rfl
        have kbBx10 := O_Bx1.out.cell 0 _ rfl
        have kcBx10 := fun o => (O_Bx1.out.alloc o).cell 0 _ rfl
        go_wp2_with fail
        clear kbK00 kcK00 kbK10 kcK10 kbBW0 kcBW0 kbBx00 kcBx00 kbBx10 kcBx10
        refine calls_gen fun w9 hw9 => ?_
        have O_BG : Hid (Blk w9 w8.heap.size 26 [.slice A_G kz c_G]) := hide (by rw [hw9]; exact Blk.new _ _ _)
        have hbx : Below w8.heap.size w8 w9 := by rw [hw9]; exact (Below.refl _ _).alloc (Nat.le_refl _) _
        have ZE : Hid (w9.heap.size = w8.heap.size + 1) := hide (by rw [hw9]; simp)
        clear hw9
        have HB9 := hide (HB8.out.trans (hbx.mono HB8.out.size))
        have Z9 := hide (hbx).size
        replace O_K0 := hide (O_K0.out.later hbx)
        replace O_K1 := hide (O_K1.out.later hbx)
        replace O_W := hide (O_W.out.later hbx)
        replace O_BW := hide (O_BW.out.later hbx)
        replace O_x0 := hide (O_x0.out.later hbx)
        replace O_Bx0 := hide (O_Bx0.out.later hbx)
        replace O_x1 := hide (O_x1.out.later hbx)
        replace O_Bx1 := hide (O_Bx1.out.later hbx)
        replace O_G := hide (O_G.out.later hbx)
        clear hbx
        replace Z9 := ZE
        clear ZE
        refine (eqK_any _ _ _ _ _ _ zs zs true _ HK.out HK.out (by omega) (by omega) (fun i hi => by have := HZR.out i hi; omega) (fun i hi => by have := HZR.out i hi; omega) O_G.out.rd O_W.out.rd (by simp)).mono ?_
        rintro e w10 ⟨rfl, hbb⟩
        have HB10 := hide (HB9.out.trans (hbb.mono HB9.out.size))
        have Z10 := hide (hbb).size
        replace O_K0 := hide (O_K0.out.later hbb)
        replace O_K1 := hide (O_K1.out.later hbb)
        replace O_W := hide (O_W.out.later hbb)
        replace O_BW := hide (O_BW.out.later hbb)
        replace O_x0 := hide (O_x0.out.later hbb)
        replace O_Bx0 := hide (O_Bx0.out.later hbb)
        replace O_x1 := hide (O_x1.out.later hbb)
        replace O_Bx1 := hide (O_Bx1.out.later hbb)
        replace O_G := hide (O_G.out.later hbb)
        replace O_BG := hide (O_BG.out.later hbb)
        clear hbb
        have kbK00 := O_K0.out.cell 0 _ rfl
        have kbK10 := O_K1.out.cell 0 _ rfl
        have kbBW0 := O_BW.out.cell 0 _ rfl
        have kbBx00 := O_Bx0.out.cell 0 _ rfl
        have kbBx10 := O_Bx1.out.cell 0 _ rfl
        have kbBG0 := O_BG.out.cell 0 _ rfl
        go_wp2_with fail
        clear kbK00 kbK10 kbBW0 kbBx00 kbBx10 kbBG0
        have kbK00 := O_K0.out.cell 0 _ rfl
        have kbBx00 := O_Bx0.out.cell 0 _ rfl
        have HKK : Hid True := hide trivial
        go_region_held3 (fun w' => w'.cell? ⟨w.heap.size, 0, none⟩ = some (.slice a0 n0 c0) ∧ w'.cell? ⟨w4.heap.size, 0, none⟩ = some (.slice A_x0 n0 c_x0)) (first | exact ⟨kbK00, kbBx00⟩ | go_keep) (first | (go_at_call 12; go_must (refine calls_gen fun w11 hw11 => ?_; have hbx : Below w10.heap.size w10 w11 := (by rw [hw11]; exact (Below.refl _ _).drew); clear hw11; have HB11 := hide (HB10.out.trans (hbx.mono HB10.out.size)); have Z11 := hide (hbx).size; replace O_K0 := hide (O_K0.out.later hbx); replace O_K1 := hide (O_K1.out.later hbx); replace O_W := hide (O_W.out.later hbx); replace O_BW := hide (O_BW.out.later hbx); replace O_x0 := hide (O_x0.out.later hbx); replace O_Bx0 := hide (O_Bx0.out.later hbx); replace O_x1 := hide (O_x1.out.later hbx); replace O_Bx1 := hide (O_Bx1.out.later hbx); replace O_G := hide (O_G.out.later hbx); replace O_BG := hide (O_BG.out.later hbx); clear hbx; refine (copyK _ _ _ x0 _ HN0.out m0 (fun i hi => by have := Y0.out i hi; omega) (hr0.later HB11.out)).mono ?_; rintro e w12 ⟨A_y0, c_y0, rfl, hbb, hobj⟩; have HB12 := hide (HB11.out.trans (hbb.mono HB11.out.size)); have Z12 := hide (hbb).size; replace O_K0 := hide (O_K0.out.later hbb); replace O_K1 := hide (O_K1.out.later hbb); replace O_W := hide (O_W.out.later hbb); replace O_BW := hide (O_BW.out.later hbb); replace O_x0 := hide (O_x0.out.later hbb); replace O_Bx0 := hide (O_Bx0.out.later hbb); replace O_x1 := hide (O_x1.out.later hbb); replace O_Bx1 := hide (O_Bx1.out.later hbb); replace O_G := hide (O_G.out.later hbb); replace O_BG := hide (O_BG.out.later hbb); clear hbb; have O_y0 := hide hobj; clear hobj; have kbK00 := O_K0.out.cell 0 _ rfl; have kbBx00 := O_Bx0.out.cell 0 _ rfl)) | (go_at_call 14; go_must (refine (eqK_any _ _ _ _ _ _ x0 x0 true _ HN0.out HN0.out m0 m0 (fun i hi => by have := Y0.out i hi; omega) (fun i hi => by have := Y0.out i hi; omega) O_x0.out.rd O_y0.out.rd (by simp)).mono ?_; rintro e w13 ⟨rfl, hbb⟩; have HB13 := hide (HB12.out.trans (hbb.mono HB12.out.size)); have Z13 := hide (hbb).size; replace O_K0 := hide (O_K0.out.later hbb); replace O_K1 := hide (O_K1.out.later hbb); replace O_W := hide (O_W.out.later hbb); replace O_BW := hide (O_BW.out.later hbb); replace O_x0 := hide (O_x0.out.later hbb); replace O_Bx0 := hide (O_Bx0.out.later hbb); replace O_x1 := hide (O_x1.out.later hbb); replace O_Bx1 := hide (O_Bx1.out.later hbb); replace O_G := hide (O_G.out.later hbb); replace O_BG := hide (O_BG.out.later hbb); replace O_y0 := hide (O_y0.out.later hbb); clear hbb; have kbK00 := O_K0.out.cell 0 _ rfl; have kbBx00 := O_Bx0.out.cell 0 _ rfl)))
        clear HKK kbK00 kbBx00
        have kbK00 := O_K0.out.cell 0 _ rfl
        have kbK10 := O_K1.out.cell 0 _ rfl
        have kbBW0 := O_BW.out.cell 0 _ rfl
        have kbBx00 := O_Bx0.out.cell 0 _ rfl
        have kbBx10 := O_Bx1.out.cell 0 _ rfl
        have kbBG0 := O_BG.out.cell 0 _ rfl
        go_wp2_with fail
        clear kbK00 kbK10 kbBW0 kbBx00 kbBx10 kbBG0
        clear O_y0
        have kbK10 := O_K1.out.cell 0 _ rfl
        have kbBx10 := O_Bx1.out.cell 0 _ rfl
        have HKK : Hid True := hide trivial
        go_region_held3 (fun w' => w'.cell? ⟨w.heap.size + 1, 0, none⟩ = some (.slice a1 n1 c1) ∧ w'.cell? ⟨w6.heap.size, 0, none⟩ = some (.slice A_x1 n1 c_x1)) (first | exact ⟨kbK10, kbBx10⟩ | go_keep) (first | (go_at_call 12; go_must (refine calls_gen fun w14 hw14 => ?_; have hbx : Below w13.heap.size w13 w14 := (by rw [hw14]; exact (Below.refl _ _).drew); clear hw14; have HB14 := hide (HB13.out.trans (hbx.mono HB13.out.size)); have Z14 := hide (hbx).size; replace O_K0 := hide (O_K0.out.later hbx); replace O_K1 := hide (O_K1.out.later hbx); replace O_W := hide (O_W.out.later hbx); replace O_BW := hide (O_BW.out.later hbx); replace O_x0 := hide (O_x0.out.later hbx); replace O_Bx0 := hide (O_Bx0.out.later hbx); replace O_x1 := hide (O_x1.out.later hbx); replace O_Bx1 := hide (O_Bx1.out.later hbx); replace O_G := hide (O_G.out.later hbx); replace O_BG := hide (O_BG.out.later hbx); clear hbx; refine (copyK _ _ _ x1 _ HN1.out m1 (fun i hi => by have := Y1.out i hi; omega) (hr1.later HB14.out)).mono ?_; rintro e w15 ⟨A_y1, c_y1, rfl, hbb, hobj⟩; have HB15 := hide (HB14.out.trans (hbb.mono HB14.out.size)); have Z15 := hide (hbb).size; replace O_K0 := hide (O_K0.out.later hbb); replace O_K1 := hide (O_K1.out.later hbb); replace O_W := hide (O_W.out.later hbb); replace O_BW := hide (O_BW.out.later hbb); replace O_x0 := hide (O_x0.out.later hbb); replace O_Bx0 := hide (O_Bx0.out.later hbb); replace O_x1 := hide (O_x1.out.later hbb); replace O_Bx1 := hide (O_Bx1.out.later hbb); replace O_G := hide (O_G.out.later hbb); replace O_BG := hide (O_BG.out.later hbb); clear hbb; have O_y1 := hide hobj; clear hobj; have kbK10 := O_K1.out.cell 0 _ rfl; have kbBx10 := O_Bx1.out.cell 0 _ rfl)) | (go_at_call 14; go_must (refine (eqK_any _ _ _ _ _ _ x1 x1 true _ HN1.out HN1.out m1 m1 (fun i hi => by have := Y1.out i hi; omega) (fun i hi => by have := Y1.out i hi; omega) O_x1.out.rd O_y1.out.rd (by simp)).mono ?_; rintro e w16 ⟨rfl, hbb⟩; have HB16 := hide (HB15.out.trans (hbb.mono HB15.out.size)); have Z16 := hide (hbb).size; replace O_K0 := hide (O_K0.out.later hbb); replace O_K1 := hide (O_K1.out.later hbb); replace O_W := hide (O_W.out.later hbb); replace O_BW := hide (O_BW.out.later hbb); replace O_x0 := hide (O_x0.out.later hbb); replace O_Bx0 := hide (O_Bx0.out.later hbb); replace O_x1 := hide (O_x1.out.later hbb); replace O_Bx1 := hide (O_Bx1.out.later hbb); replace O_G := hide (O_G.out.later hbb); replace O_BG := hide (O_BG.out.later hbb); replace O_y1 := hide (O_y1.out.later hbb); clear hbb; have kbK10 := O_K1.out.cell 0 _ rfl; have kbBx10 := O_Bx1.out.cell 0 _ rfl)))
        clear HKK kbK10 kbBx10
        have kbK00 := O_K0.out.cell 0 _ rfl
        have kbK10 := O_K1.out.cell 0 _ rfl
        have kbBW0 := O_BW.out.cell 0 _ rfl
        have kbBx00 := O_Bx0.out.cell 0 _ rfl
        have kbBx10 := O_Bx1.out.cell 0 _ rfl
        have kbBG0 := O_BG.out.cell 0 _ rfl
        go_wp2_with fail
        clear kbK00 kbK10 kbBW0 kbBx00 kbBx10 kbBG0
        clear O_y1
        refine (markK 33 2 (by decide) _ _ _ _ _ _ x0 _ HN0.out (by omega) (fun i hi => by have := Y0.out i hi; omega) (by have tx := T0.out; omega) (by have tt0 := T0.out; have tt1 := T1.out; omega) (by have tt0 := T0.out; have tt1 := T1.out; omega) O_x0.out).mono ?_
        rintro e w17 ⟨rfl, ht, hobj⟩
        have HB17 := hide (ht.below HB16.out HB16.out.size (HB3.out.size))
        have Z17 := hide ht.size
        replace O_K0 := hide (O_K0.out.touch ht (.inl (by have zb := ZB.out; have z1 := Z1.out; have z2 := Z2.out; have z3 := Z3.out; omega)))
        replace O_K1 := hide (O_K1.out.touch ht (.inl (by have zb := ZB.out; have z1 := Z1.out; have z2 := Z2.out; have z3 := Z3.out; omega)))
        replace O_W := hide (O_W.out.far ht (.inl (by omega)))
        replace O_BW := hide (O_BW.out.touch ht (.inl (by have zl := ZL_W.out; omega)))
        replace O_Bx0 := hide (O_Bx0.out.touch ht (.inr (by omega)))
        replace O_x1 := hide (O_x1.out.far ht (.inr (by have z5 := Z5.out; omega)))
        replace O_Bx1 := hide (O_Bx1.out.touch ht (.inr (by have z5 := Z5.out; have z6 := Z6.out; omega)))
        replace O_G := hide (O_G.out.far ht (.inr (by have z5 := Z5.out; have z6 := Z6.out; have z7 := Z7.out; omega)))
        replace O_BG := hide (O_BG.out.touch ht (.inr (by have z5 := Z5.out; have z6 := Z6.out; have z7 := Z7.out; have z8 := Z8.out; omega)))
        replace O_x0 := hide hobj
        clear ht hobj
        have kbK00 := O_K0.out.cell 0 _ rfl
        have kbK10 := O_K1.out.cell 0 _ rfl
        have kbBW0 := O_BW.out.cell 0 _ rfl
        have kbBx00 := O_Bx0.out.cell 0 _ rfl
        have kbBx10 := O_Bx1.out.cell 0 _ rfl
        have kbBG0 := O_BG.out.cell 0 _ rfl
        go_wp2_with fail
        clear kbK00 kbK10 kbBW0 kbBx00 kbBx10 kbBG0
        refine (markK 33 2 (by decide) _ _ _ _ _ _ x1 _ HN1.out (by omega) (fun i hi => by have := Y1.out i hi; omega) (by have tx := T1.out; omega) (by have tt0 := T0.out; have tt1 := T1.out; omega) (by have tt0 := T0.out; have tt1 := T1.out; omega) O_x1.out).mono ?_
        rintro e w18 ⟨rfl, ht, hobj⟩
        have HB18 := hide (ht.below HB17.out HB17.out.size (HB5.out.size))
        have Z18 := hide ht.size
        replace O_K0 := hide (O_K0.out.touch ht (.inl (by have zb := ZB.out; have z1 := Z1.out; have z2 := Z2.out; have z3 := Z3.out; have z4 := Z4.out; have z5 := Z5.out; omega)))
        replace O_K1 := hide (O_K1.out.touch ht (.inl (by have zb := ZB.out; have z1 := Z1.out; have z2 := Z2.out; have z3 := Z3.out; have z4 := Z4.out; have z5 := Z5.out; omega)))
        replace O_W := hide (O_W.out.far ht (.inl (by have z4 := Z4.out; have z5 := Z5.out; omega)))
        replace O_BW := hide (O_BW.out.touch ht (.inl (by have zl := ZL_W.out; have z4 := Z4.out; have z5 := Z5.out; omega)))
        replace O_x0 := hide (O_x0.out.far ht (.inl (by have z5 := Z5.out; omega)))
        replace O_Bx0 := hide (O_Bx0.out.touch ht (.inl (by have z5 := Z5.out; omega)))
        replace O_Bx1 := hide (O_Bx1.out.touch ht (.inr (by omega)))
        replace O_G := hide (O_G.out.far ht (.inr (by have z7 := Z7.out; omega)))
        replace O_BG := hide (O_BG.out.touch ht (.inr (by have z7 := Z7.out; have z8 := Z8.out; omega)))
        replace O_x1 := hide hobj
        clear ht hobj
        have kbK00 := O_K0.out.cell 0 _ rfl
        have kbK10 := O_K1.out.cell 0 _ rfl
        have kbBW0 := O_BW.out.cell 0 _ rfl
        have kbBx00 := O_Bx0.out.cell 0 _ rfl
        have kbBx10 := O_Bx1.out.cell 0 _ rfl
        have kbBG0 := O_BG.out.cell 0 _ rfl
        go_wp2_with fail
        clear kbK00 kbK10 kbBW0 kbBx00 kbBx10 kbBG0
        refine (eqK_any _ _ _ _ _ _ zs zs true _ HK.out HK.out (by omega) (by omega) (fun i hi => by have := HZR.out i hi; omega) (fun i hi => by have := HZR.out i hi; omega) O_G.out.rd O_W.out.rd (by simp)).mono ?_
        rintro e w19 ⟨rfl, hbb⟩
        have HB19 := hide (HB18.out.trans (hbb.mono HB18.out.size))
        have Z19 := hide (hbb).size
        replace O_K0 := hide (O_K0.out.later hbb)
        replace O_K1 := hide (O_K1.out.later hbb)
        replace O_W := hide (O_W.out.later hbb)
        replace O_BW := hide (O_BW.out.later hbb)
        replace O_x0 := hide (O_x0.out.later hbb)
        replace O_Bx0 := hide (O_Bx0.out.later hbb)
        replace O_x1 := hide (O_x1.out.later hbb)
        replace O_Bx1 := hide (O_Bx1.out.later hbb)
        replace O_G := hide (O_G.out.later hbb)
        replace O_BG := hide (O_BG.out.later hbb)
        clear hbb
        have kbK00 := O_K0.out.cell 0 _ rfl
        have kbK10 := O_K1.out.cell 0 _ rfl
        have kbBW0 := O_BW.out.cell 0 _ rfl
        have kbBx00 := O_Bx0.out.cell 0 _ rfl
        have kbBx10 := O_Bx1.out.cell 0 _ rfl
        have kbBG0 := O_BG.out.cell 0 _ rfl
        go_wp2_with fail
        clear kbK00 kbK10 kbBW0 kbBx00 kbBx10 kbBG0
        clear O_x0
        clear O_x1
        refine (markK 33 2 (by decide) _ _ _ _ _ _ zs _ HK.out (by omega) (fun i hi => by have := HZR.out i hi; omega) (by have tx := TZ.out; omega) (by have tt0 := T0.out; have tt1 := T1.out; omega) (by have tt0 := T0.out; have tt1 := T1.out; omega) O_G.out).mono ?_
        rintro e w20 ⟨rfl, ht, hobj⟩
        have HB20 := hide (ht.below HB19.out HB19.out.size (HB7.out.size))
        have Z20 := hide ht.size
        replace O_K0 := hide (O_K0.out.touch ht (.inl (by have zb := ZB.out; have z1 := Z1.out; have z2 := Z2.out; have z3 := Z3.out; have z4 := Z4.out; have z5 := Z5.out; have z6 := Z6.out; have z7 := Z7.out; omega)))
        replace O_K1 := hide (O_K1.out.touch ht (.inl (by have zb := ZB.out; have z1 := Z1.out; have z2 := Z2.out; have z3 := Z3.out; have z4 := Z4.out; have z5 := Z5.out; have z6 := Z6.out; have z7 := Z7.out; omega)))
        replace O_W := hide (O_W.out.far ht (.inl (by have z4 := Z4.out; have z5 := Z5.out; have z6 := Z6.out; have z7 := Z7.out; omega)))
        replace O_BW := hide (O_BW.out.touch ht (.inl (by have zl := ZL_W.out; have z4 := Z4.out; have z5 := Z5.out; have z6 := Z6.out; have z7 := Z7.out; omega)))
        replace O_Bx0 := hide (O_Bx0.out.touch ht (.inl (by have z5 := Z5.out; have z6 := Z6.out; have z7 := Z7.out; omega)))
        replace O_Bx1 := hide (O_Bx1.out.touch ht (.inl (by have z7 := Z7.out; omega)))
        replace O_BG := hide (O_BG.out.touch ht (.inr (by omega)))
        replace O_G := hide hobj
        clear ht hobj
        have kbK00 := O_K0.out.cell 0 _ rfl
        have kbK10 := O_K1.out.cell 0 _ rfl
        have kbBW0 := O_BW.out.cell 0 _ rfl
        have kbBx00 := O_Bx0.out.cell 0 _ rfl
        have kbBx10 := O_Bx1.out.cell 0 _ rfl
        have kbBG0 := O_BG.out.cell 0 _ rfl
        go_wp2_with fail
        clear kbK00 kbK10 kbBW0 kbBx00 kbBx10 kbBG0
        refine (heldK _ _ _ _ zs _ HK.out (by omega) (fun i hi => by have := HZR.out i hi; omega) (by have tx := TZ.out; omega) (by omega) (by omega) O_G.out.rd).mono ?_
        rintro e w21 ⟨rfl, hbb⟩
        have HB21 := hide (HB20.out.trans (hbb.mono HB20.out.size))
        have Z21 := hide (hbb).size
        replace O_K0 := hide (O_K0.out.later hbb)
        replace O_K1 := hide (O_K1.out.later hbb)
        replace O_W := hide (O_W.out.later hbb)
        replace O_BW := hide (O_BW.out.later hbb)
        replace O_Bx0 := hide (O_Bx0.out.later hbb)
        replace O_Bx1 := hide (O_Bx1.out.later hbb)
        replace O_G := hide (O_G.out.later hbb)
        replace O_BG := hide (O_BG.out.later hbb)
        clear hbb
        have kbK00 := O_K0.out.cell 0 _ rfl
        have kbK10 := O_K1.out.cell 0 _ rfl
        have kbBW0 := O_BW.out.cell 0 _ rfl
        have kbBx00 := O_Bx0.out.cell 0 _ rfl
        have kbBx10 := O_Bx1.out.cell 0 _ rfl
        have kbBG0 := O_BG.out.cell 0 _ rfl
        go_wp2_with fail
        clear kbK00 kbK10 kbBW0 kbBx00 kbBx10 kbBG0
        have hsw0 := HB21.out.size
        go_cut [15, 16] (fun v1 v2 wx => ∃ L A c, v1 = .pointer (some ⟨L, 0, none⟩) ∧ v2 = .int .i64 code ∧ Below w21.heap.size w21 wx ∧ Obj2 33 2 w21.heap.size wx.heap.size wx A zs ∧ Blk wx L 26 [.slice A kz c] ∧ L < wx.heap.size)
        case first =>
          have HPB : Hid True := hide trivial
          have tok0 : True := trivial
          have HBc : Hid (Below w21.heap.size w21 w21) := hide (Below.refl _ _)
          have HKc0 := O_K0
          have HKc1 := O_K1
          have kk0 := HKc0.out.cell 0 _ rfl
          have kk1 := HKc1.out.cell 0 _ rfl
          have gn0 : w21.heap.size ≠ w.heap.size := (by have zb := ZB.out; have z1 := Z1.out; have z2 := Z2.out; have z3 := Z3.out; have z4 := Z4.out; have z5 := Z5.out; have z6 := Z6.out; have z7 := Z7.out; have z8 := Z8.out; have z9 := Z9.out; have z10 := Z10.out; have z11 := Z11.out; have z12 := Z12.out; have z13 := Z13.out; have z14 := Z14.out; have z15 := Z15.out; have z16 := Z16.out; have z17 := Z17.out; have z18 := Z18.out; have z19 := Z19.out; have z20 := Z20.out; have z21 := Z21.out; omega)
          have gn1 : w21.heap.size ≠ w.heap.size + 1 := (by have zb := ZB.out; have z1 := Z1.out; have z2 := Z2.out; have z3 := Z3.out; have z4 := Z4.out; have z5 := Z5.out; have z6 := Z6.out; have z7 := Z7.out; have z8 := Z8.out; have z9 := Z9.out; have z10 := Z10.out; have z11 := Z11.out; have z12 := Z12.out; have z13 := Z13.out; have z14 := Z14.out; have z15 := Z15.out; have z16 := Z16.out; have z17 := Z17.out; have z18 := Z18.out; have z19 := Z19.out; have z20 := Z20.out; have z21 := Z21.out; omega)
          have gm0 := gn0.symm
          have gm1 := gn1.symm
          go_region_held3 (fun w' => w'.cell? ⟨w.heap.size, 0, none⟩ = some (.slice a0 n0 c0) ∧ w'.cell? ⟨w.heap.size + 1, 0, none⟩ = some (.slice a1 n1 c1)) (first | exact ⟨kk0, kk1⟩ | go_keep) (first | (go_at_call 12; have _t := tok0; clear _t tok0; go_must (refine calls_gen fun wc hwc => ?_; (first | (have hbx := al_drew_below hwc; have HPB := hide (And.intro (blk_al_drew hwc) HBc.out.size)) | (have hbx := al_below hwc; have HPB := hide (And.intro (blk_al hwc) HBc.out.size)) | (have hbx := drew_below hwc; (first | replace HPB := hide (And.intro (HPB.out.1.later hbx) HPB.out.2) | skip)) | (have hbx := eq_below hwc; (first | replace HPB := hide (And.intro (HPB.out.1.later hbx) HPB.out.2) | skip))); replace HKc0 := hide (HKc0.out.later hbx); replace HKc1 := hide (HKc1.out.later hbx); replace HBc := hide (HBc.out.trans (hbx.mono HBc.out.size)); clear hwc hbx; refine (copyK _ _ _ x0 _ HN0.out m0 (fun i hi => by have := Y0.out i hi; omega) ((hr0.later HB21.out).later HBc.out)).mono ?_; rintro e wd ⟨A_s0, c_s0, rfl, hbd, hobj⟩; have O_s0 := hide hobj; replace HKc0 := hide (HKc0.out.later hbd); replace HKc1 := hide (HKc1.out.later hbd); (first | replace HPB := hide (And.intro (HPB.out.1.later hbd) HPB.out.2) | skip); replace HBc := hide (HBc.out.trans (hbd.mono HBc.out.size)); clear hbd hobj; have kk0 := HKc0.out.cell 0 _ rfl; have kk1 := HKc1.out.cell 0 _ rfl; have gn0 : wd.heap.size ≠ w.heap.size := (by have h1 := HBc.out.size; have zb := ZB.out; have z1 := Z1.out; have z2 := Z2.out; have z3 := Z3.out; have z4 := Z4.out; have z5 := Z5.out; have z6 := Z6.out; have z7 := Z7.out; have z8 := Z8.out; have z9 := Z9.out; have z10 := Z10.out; have z11 := Z11.out; have z12 := Z12.out; have z13 := Z13.out; have z14 := Z14.out; have z15 := Z15.out; have z16 := Z16.out; have z17 := Z17.out; have z18 := Z18.out; have z19 := Z19.out; have z20 := Z20.out; have z21 := Z21.out; omega); have gn1 : wd.heap.size ≠ w.heap.size + 1 := (by have h1 := HBc.out.size; have zb := ZB.out; have z1 := Z1.out; have z2 := Z2.out; have z3 := Z3.out; have z4 := Z4.out; have z5 := Z5.out; have z6 := Z6.out; have z7 := Z7.out; have z8 := Z8.out; have z9 := Z9.out; have z10 := Z10.out; have z11 := Z11.out; have z12 := Z12.out; have z13 := Z13.out; have z14 := Z14.out; have z15 := Z15.out; have z16 := Z16.out; have z17 := Z17.out; have z18 := Z18.out; have z19 := Z19.out; have z20 := Z20.out; have z21 := Z21.out; omega); have gm0 := gn0.symm; have gm1 := gn1.symm; (first | (have bb0 := HPB.out.1.cell 0 _ rfl; have bf0 := HPB.out.1.frozen 0) | skip))) | (go_at_call 12; go_must (refine calls_gen fun wc hwc => ?_; (first | (have hbx := al_drew_below hwc; have HPB := hide (And.intro (blk_al_drew hwc) HBc.out.size)) | (have hbx := al_below hwc; have HPB := hide (And.intro (blk_al hwc) HBc.out.size)) | (have hbx := drew_below hwc; (first | replace HPB := hide (And.intro (HPB.out.1.later hbx) HPB.out.2) | skip)) | (have hbx := eq_below hwc; (first | replace HPB := hide (And.intro (HPB.out.1.later hbx) HPB.out.2) | skip))); replace HKc0 := hide (HKc0.out.later hbx); replace HKc1 := hide (HKc1.out.later hbx); replace O_s0 := hide (O_s0.out.later hbx); replace HBc := hide (HBc.out.trans (hbx.mono HBc.out.size)); clear hwc hbx; refine (copyK _ _ _ x1 _ HN1.out m1 (fun i hi => by have := Y1.out i hi; omega) ((hr1.later HB21.out).later HBc.out)).mono ?_; rintro e wd ⟨A_s1, c_s1, rfl, hbd, hobj⟩; have O_s1 := hide hobj; replace HKc0 := hide (HKc0.out.later hbd); replace HKc1 := hide (HKc1.out.later hbd); replace O_s0 := hide (O_s0.out.later hbd); (first | replace HPB := hide (And.intro (HPB.out.1.later hbd) HPB.out.2) | skip); replace HBc := hide (HBc.out.trans (hbd.mono HBc.out.size)); clear hbd hobj; have kk0 := HKc0.out.cell 0 _ rfl; have kk1 := HKc1.out.cell 0 _ rfl; have gn0 : wd.heap.size ≠ w.heap.size := (by have h1 := HBc.out.size; have zb := ZB.out; have z1 := Z1.out; have z2 := Z2.out; have z3 := Z3.out; have z4 := Z4.out; have z5 := Z5.out; have z6 := Z6.out; have z7 := Z7.out; have z8 := Z8.out; have z9 := Z9.out; have z10 := Z10.out; have z11 := Z11.out; have z12 := Z12.out; have z13 := Z13.out; have z14 := Z14.out; have z15 := Z15.out; have z16 := Z16.out; have z17 := Z17.out; have z18 := Z18.out; have z19 := Z19.out; have z20 := Z20.out; have z21 := Z21.out; omega); have gn1 : wd.heap.size ≠ w.heap.size + 1 := (by have h1 := HBc.out.size; have zb := ZB.out; have z1 := Z1.out; have z2 := Z2.out; have z3 := Z3.out; have z4 := Z4.out; have z5 := Z5.out; have z6 := Z6.out; have z7 := Z7.out; have z8 := Z8.out; have z9 := Z9.out; have z10 := Z10.out; have z11 := Z11.out; have z12 := Z12.out; have z13 := Z13.out; have z14 := Z14.out; have z15 := Z15.out; have z16 := Z16.out; have z17 := Z17.out; have z18 := Z18.out; have z19 := Z19.out; have z20 := Z20.out; have z21 := Z21.out; omega); have gm0 := gn0.symm; have gm1 := gn1.symm; (first | (have bb0 := HPB.out.1.cell 0 _ rfl; have bf0 := HPB.out.1.frozen 0) | skip))) | (go_at_call 18; go_must (refine calls_gen fun wc hwc => ?_; (first | (have hbx := al_drew_below hwc; have HPB := hide (And.intro (blk_al_drew hwc) HBc.out.size)) | (have hbx := al_below hwc; have HPB := hide (And.intro (blk_al hwc) HBc.out.size)) | (have hbx := drew_below hwc; (first | replace HPB := hide (And.intro (HPB.out.1.later hbx) HPB.out.2) | skip)) | (have hbx := eq_below hwc; (first | replace HPB := hide (And.intro (HPB.out.1.later hbx) HPB.out.2) | skip))); replace HKc0 := hide (HKc0.out.later hbx); replace HKc1 := hide (HKc1.out.later hbx); replace O_s0 := hide (O_s0.out.later hbx); replace O_s1 := hide (O_s1.out.later hbx); replace HBc := hide (HBc.out.trans (hbx.mono HBc.out.size)); clear hwc hbx; refine (udI_any _ _ _ x0 _ _ _ x1 zs code kz _ HN0.out m0 (fun i hi => by have := Y0.out i hi; omega) O_s0.out.rd HN1.out m1 (fun i hi => by have := Y1.out i hi; omega) O_s1.out.rd HRES.out HK.out).mono ?_; rintro e wd ⟨A_H, c_H, rfl, hbd, hobj⟩; have HO := hide (And.intro hobj HBc.out.size); (first | have HQL := hide (And.intro HPB.out.2 HPB.out.1.lt) | skip); (first | replace HPB := hide (And.intro (HPB.out.1.later hbd) HPB.out.2) | skip); replace HKc0 := hide (HKc0.out.later hbd); replace HKc1 := hide (HKc1.out.later hbd); replace HBc := hide (HBc.out.trans (hbd.mono HBc.out.size)); clear hbd hobj; have kk0 := HKc0.out.cell 0 _ rfl; have kk1 := HKc1.out.cell 0 _ rfl; have gn0 : wd.heap.size ≠ w.heap.size := (by have h1 := HBc.out.size; have zb := ZB.out; have z1 := Z1.out; have z2 := Z2.out; have z3 := Z3.out; have z4 := Z4.out; have z5 := Z5.out; have z6 := Z6.out; have z7 := Z7.out; have z8 := Z8.out; have z9 := Z9.out; have z10 := Z10.out; have z11 := Z11.out; have z12 := Z12.out; have z13 := Z13.out; have z14 := Z14.out; have z15 := Z15.out; have z16 := Z16.out; have z17 := Z17.out; have z18 := Z18.out; have z19 := Z19.out; have z20 := Z20.out; have z21 := Z21.out; omega); have gn1 : wd.heap.size ≠ w.heap.size + 1 := (by have h1 := HBc.out.size; have zb := ZB.out; have z1 := Z1.out; have z2 := Z2.out; have z3 := Z3.out; have z4 := Z4.out; have z5 := Z5.out; have z6 := Z6.out; have z7 := Z7.out; have z8 := Z8.out; have z9 := Z9.out; have z10 := Z10.out; have z11 := Z11.out; have z12 := Z12.out; have z13 := Z13.out; have z14 := Z14.out; have z15 := Z15.out; have z16 := Z16.out; have z17 := Z17.out; have z18 := Z18.out; have z19 := Z19.out; have z20 := Z20.out; have z21 := Z21.out; omega); have gm0 := gn0.symm; have gm1 := gn1.symm; (first | (have bb0 := HPB.out.1.cell 0 _ rfl; have bf0 := HPB.out.1.frozen 0) | skip))))
          all_goals go_wp2_with fail
          all_goals go_meet
          all_goals refine ⟨_, A_H, c_H, rfl, rfl, ?_⟩
          all_goals first | exact cutK_new HBc.out HO.out.1 HO.out.2 | exact cutK_old HBc.out HO.out.1 HO.out.2 HPB.out.1 HQL.out
        case rest =>
          obtain ⟨L_H, A_H, c_H, rfl, rfl, hbb, hobj, hblk, hLl⟩ := hcut
          clear hsw0
          have HB22 := hide (HB21.out.trans (hbb.mono HB21.out.size))
          have Z22 := hide (hbb).size
          replace O_K0 := hide (O_K0.out.later hbb)
          replace O_K1 := hide (O_K1.out.later hbb)
          replace O_W := hide (O_W.out.later hbb)
          replace O_BW := hide (O_BW.out.later hbb)
          replace O_Bx0 := hide (O_Bx0.out.later hbb)
          replace O_Bx1 := hide (O_Bx1.out.later hbb)
          replace O_G := hide (O_G.out.later hbb)
          replace O_BG := hide (O_BG.out.later hbb)
          have O_H := hide hobj
          have O_BH := hide hblk
          have ZL_H := hide hLl
          clear hbb hobj hblk hLl
          have kbK00 := O_K0.out.cell 0 _ rfl
          have kbK10 := O_K1.out.cell 0 _ rfl
          have kbBW0 := O_BW.out.cell 0 _ rfl
          have kbBx00 := O_Bx0.out.cell 0 _ rfl
          have kbBx10 := O_Bx1.out.cell 0 _ rfl
          have kbBG0 := O_BG.out.cell 0 _ rfl
          have kbBH0 := O_BH.out.cell 0 _ rfl
          go_wp2_with fail
          clear kbK00 kbK10 kbBW0 kbBx00 kbBx10 kbBG0 kbBH0
          refine (eqK_any _ _ _ _ _ _ zs zs true _ HK.out HK.out (by omega) (by omega) (fun i hi => by have := HZR.out i hi; omega) (fun i hi => by have := HZR.out i hi; omega) O_H.out.rd O_W.out.rd (by simp)).mono ?_
          rintro e w23 ⟨rfl, hbb⟩
          have HB23 := hide (HB22.out.trans (hbb.mono HB22.out.size))
          have Z23 := hide (hbb).size
          replace O_K0 := hide (O_K0.out.later hbb)
          replace O_K1 := hide (O_K1.out.later hbb)
          replace O_W := hide (O_W.out.later hbb)
          replace O_BW := hide (O_BW.out.later hbb)
          replace O_Bx0 := hide (O_Bx0.out.later hbb)
          replace O_Bx1 := hide (O_Bx1.out.later hbb)
          replace O_G := hide (O_G.out.later hbb)
          replace O_BG := hide (O_BG.out.later hbb)
          replace O_H := hide (O_H.out.later hbb)
          replace O_BH := hide (O_BH.out.later hbb)
          clear hbb
          have kbK00 := O_K0.out.cell 0 _ rfl
          have kbK10 := O_K1.out.cell 0 _ rfl
          have kbBW0 := O_BW.out.cell 0 _ rfl
          have kbBx00 := O_Bx0.out.cell 0 _ rfl
          have kbBx10 := O_Bx1.out.cell 0 _ rfl
          have kbBG0 := O_BG.out.cell 0 _ rfl
          have kbBH0 := O_BH.out.cell 0 _ rfl
          go_wp2_with fail
          clear kbK00 kbK10 kbBW0 kbBx00 kbBx10 kbBG0 kbBH0
          refine (heldK _ _ _ _ zs _ HK.out (by omega) (fun i hi => by have := HZR.out i hi; omega) (by have tx := TZ.out; omega) (by omega) (by omega) O_G.out.rd).mono ?_
          rintro e w24 ⟨rfl, hbb⟩
          have HB24 := hide (HB23.out.trans (hbb.mono HB23.out.size))
          have Z24 := hide (hbb).size
          replace O_K0 := hide (O_K0.out.later hbb)
          replace O_K1 := hide (O_K1.out.later hbb)
          replace O_W := hide (O_W.out.later hbb)
          replace O_BW := hide (O_BW.out.later hbb)
          replace O_Bx0 := hide (O_Bx0.out.later hbb)
          replace O_Bx1 := hide (O_Bx1.out.later hbb)
          replace O_G := hide (O_G.out.later hbb)
          replace O_BG := hide (O_BG.out.later hbb)
          replace O_H := hide (O_H.out.later hbb)
          replace O_BH := hide (O_BH.out.later hbb)
          clear hbb
          have kbK00 := O_K0.out.cell 0 _ rfl
          have kbK10 := O_K1.out.cell 0 _ rfl
          have kbBW0 := O_BW.out.cell 0 _ rfl
          have kbBx00 := O_Bx0.out.cell 0 _ rfl
          have kbBx10 := O_Bx1.out.cell 0 _ rfl
          have kbBG0 := O_BG.out.cell 0 _ rfl
          have kbBH0 := O_BH.out.cell 0 _ rfl
          go_wp2_with fail
          clear kbK00 kbK10 kbBW0 kbBx00 kbBx10 kbBG0 kbBH0
          go_ret
          exact ⟨rfl, HB24.out⟩
end Go.Proofs.Ytljdfanebjhhmaa
