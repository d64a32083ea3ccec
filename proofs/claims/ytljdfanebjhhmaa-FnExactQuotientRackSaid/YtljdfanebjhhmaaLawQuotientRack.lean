import Derived.Test.YtljdfanebjhhmaaZn
import Derived.Test.YtljdfanebjhhmaaZa
import Derived.Test.YtljdfanebjhhmaaZh
import Derived.Test.YtljdfanebjhhmaaZb
import Derived.Test.YtljdfanebjhhmaaZbf
import Derived.Test.YtljdfanebjhhmaaZbd
namespace Go.Proofs.Ytljdfanebjhhmaa
open Go Go.RowKit
set_option maxHeartbeats 4000000

set_option maxRecDepth 20000 in
theorem law_QuotientRack (a0 : Option Addr) (n0 c0 : Nat) (x0 : List (List Int)) (a1 : Option Addr) (n1 c1 : Nat) (x1 : List Int) (w : World) (hn0 : x0.length = n0) (hb0 : n0 ≤ 9223372036854775807) (hbs0 : ∀ i, i < x0.length → (x0.getD i []).length ≤ 9223372036854775807) (hr0 : Rd2 w a0 x0) (hn1 : x1.length = n1) (hb1 : n1 ≤ 9223372036854775807) (hr1 : Rd w a1 x1) :
    Calls Try.prog 6 #[.agg #[.slice a0 n0 c0], .slice a1 n1 c1] w fun e w' => e = .returned (.bool true) ∧ Below w.heap.size w w' := by
  have HN0 := hide hn0
  clear hn0
  have HN1 := hide hn1
  clear hn1
  obtain ⟨zs, code, hres, hzb, hzr⟩ := QtRes.ex x0 x1
  have HRES := hide hres
  clear hres
  obtain ⟨kz, hkz⟩ : ∃ kz, zs.length = kz := ⟨_, rfl⟩
  rw [hkz] at hzb
  have HK := hide hkz
  clear hkz
  have HZR := hide hzr
  clear hzr
  by_cases m1 : n1 ≤ 1048576
  · have M1 := hide m1
    clear M1
    go_enter Try.func6, Try.ntmps6
    go_wp2_with fail
    refine calls_gen fun wb hwb => ?_
    have HB0 : Hid (Below w.heap.size w wb) := hide (by rw [hwb]; exact (Below.refl _ w).alloc (by simp <;> omega) (Obj.cells #[Value.slice a0 n0 c0] 24))
    have ZB : Hid (wb.heap.size = w.heap.size + 1) := hide (by rw [hwb]; simp <;> omega)
    have O_K0 : Hid (Blk wb w.heap.size 24 [.slice a0 n0 c0]) := hide (by rw [hwb]; exact Blk.new w 24 [.slice a0 n0 c0])
    clear hwb
    refine (szK_any _ _ _ x0 1048576 _ HN0.out hb0 hbs0 (by omega) (by omega) (hr0.later HB0.out)).mono ?_
    rintro e w1 ⟨l0, hsd0, rfl, hbb⟩
    have HB1 := hide (HB0.out.trans (hbb.mono HB0.out.size))
    have Z1 := hide (hbb).size
    replace O_K0 := hide (O_K0.out.later hbb)
    clear hbb
    rcases hsd0 with rfl | ⟨p0, q0, u0, y0⟩
    · go_wp2_with fail
      go_ret
      exact ⟨rfl, HB1.out⟩
    · have U0 := hide u0
      have Y0 := hide y0
      clear u0 y0 hbs0
      have m0 : n0 ≤ 1048576 := by have := U0.out; have := HN0.out; omega
      have kbK00 := O_K0.out.cell 0 _ rfl
      go_wp2_with fail
      clear kbK00
      have hcc : (code != code) = false := by simp
      have TZ := hide (tot_bound zs (by rw [HK.out]; omega) (fun i hi => by have := HZR.out i hi; omega))
      have tz0 := TZ.out
      have T0 := hide (tot_bound x0 (by rw [HN0.out]; omega) (fun i hi => by have := Y0.out i hi; omega))
      have tq0 := T0.out
      refine (copyK _ _ _ x0 _ HN0.out m0 (fun i hi => by have := Y0.out i hi; omega) (hr0.later HB1.out)).mono ?_
      rintro e w2 ⟨A_s0, c_s0, rfl, hbb, hobj⟩
      have HB2 := hide (HB1.out.trans (hbb.mono HB1.out.size))
      have Z2 := hide (hbb).size
      replace O_K0 := hide (O_K0.out.later hbb)
      clear hbb
      have O_s0 := hide hobj
      clear hobj
      have kbK00 := O_K0.out.cell 0 _ rfl
      go_wp2_with fail
      clear kbK00
      refine (copyR _ _ _ x1 _ HN1.out m1 (hr1.later HB2.out)).mono ?_
      rintro e w3 ⟨A_s1, rfl, hbb, hobj⟩
      have HB3 := hide (HB2.out.trans (hbb.mono HB2.out.size))
      have Z3 := hide (hbb).size
      replace O_K0 := hide (O_K0.out.later hbb)
      replace O_s0 := hide (O_s0.out.later hbb)
      clear hbb
      have O_s1 := hide hobj
      clear hobj
      have kbK00 := O_K0.out.cell 0 _ rfl
      go_wp2_with fail
      clear kbK00
      refine (qtS_any _ _ _ x0 _ _ _ x1 zs code kz _ HN0.out m0 (fun i hi => by have := Y0.out i hi; omega) O_s0.out.rd HN1.out m1 O_s1.out.rd HRES.out HK.out).mono ?_
      rintro e w4 ⟨A_W, c_W, rfl, hbb, hobj⟩
      have HB4 := hide (HB3.out.trans (hbb.mono HB3.out.size))
      have Z4 := hide (hbb).size
      replace O_K0 := hide (O_K0.out.later hbb)
      replace O_s0 := hide (O_s0.out.later hbb)
      replace O_s1 := hide (O_s1.out.later hbb)
      clear hbb
      have O_W := hide hobj
      clear hobj
      have kbK00 := O_K0.out.cell 0 _ rfl
      have kcK00 := fun o => (O_K0.out.alloc o).cell 0 _ rfl
      go_wp2_with fail
      clear kbK00 kcK00
      refine calls_gen fun w5 hw5 => ?_
      have O_BW : Hid (Blk w5 w4.heap.size 26 [.slice A_W kz c_W]) := hide (by rw [hw5]; exact Blk.new _ _ _)
      have hbx : Below w4.heap.size w4 w5 := by rw [hw5]; exact (Below.refl _ _).alloc (Nat.le_refl _) _
      have ZE : Hid (w5.heap.size = w4.heap.size + 1) := hide (by rw [hw5]; simp)
      clear hw5
      have HB5 := hide (HB4.out.trans (hbx.mono HB4.out.size))
      have Z5 := hide (hbx).size
      replace O_K0 := hide (O_K0.out.later hbx)
      replace O_s0 := hide (O_s0.out.later hbx)
      replace O_s1 := hide (O_s1.out.later hbx)
      replace O_W := hide (O_W.out.later hbx)
      clear hbx
      replace Z5 := ZE
      clear ZE
      clear O_s0
      clear O_s1
      refine (copyK _ _ _ x0 _ HN0.out m0 (fun i hi => by have := Y0.out i hi; omega) (hr0.later HB5.out)).mono ?_
      rintro e w6 ⟨A_x0, c_x0, rfl, hbb, hobj⟩
      have HB6 := hide (HB5.out.trans (hbb.mono HB5.out.size))
      have Z6 := hide (hbb).size
      replace O_K0 := hide (O_K0.out.later hbb)
      replace O_W := hide (O_W.out.later hbb)
      replace O_BW := hide (O_BW.out.later hbb)
      clear hbb
      have O_x0 := hide hobj
      clear hobj
      have kbK00 := O_K0.out.cell 0 _ rfl
      have kcK00 := fun o => (O_K0.out.alloc o).cell 0 _ rfl
      have kbBW0 := O_BW.out.cell 0 _ rfl
      have kcBW0 := fun o => (O_BW.out.alloc o).cell 0 _ rfl
      go_wp2_with fail
      clear kbK00 kcK00 kbBW0 kcBW0
      refine calls_gen fun w7 hw7 => ?_
      have O_Bx0 : Hid (Blk w7 w6.heap.size 26 [.slice A_x0 n0 c_x0]) := hide (by rw [hw7]; exact Blk.new _ _ _)
      have hbx : Below w6.heap.size w6 w7 := by rw [hw7]; exact (Below.refl _ _).alloc (Nat.le_refl _) _
      have ZE : Hid (w7.heap.size = w6.heap.size + 1) := hide (by rw [hw7]; simp)
      clear hw7
      have HB7 := hide (HB6.out.trans (hbx.mono HB6.out.size))
      have Z7 := hide (hbx).size
      replace O_K0 := hide (O_K0.out.later hbx)
      replace O_W := hide (O_W.out.later hbx)
      replace O_BW := hide (O_BW.out.later hbx)
      replace O_x0 := hide (O_x0.out.later hbx)
      clear hbx
      replace Z7 := ZE
      clear ZE
      refine (copyR _ _ _ x1 _ HN1.out m1 (hr1.later HB7.out)).mono ?_
      rintro e w8 ⟨A_x1, rfl, hbb, hobj⟩
      have HB8 := hide (HB7.out.trans (hbb.mono HB7.out.size))
      have Z8 := hide (hbb).size
      replace O_K0 := hide (O_K0.out.later hbb)
      replace O_W := hide (O_W.out.later hbb)
      replace O_BW := hide (O_BW.out.later hbb)
      replace O_x0 := hide (O_x0.out.later hbb)
      replace O_Bx0 := hide (O_Bx0.out.later hbb)
      clear hbb
      have O_x1 := hide hobj
      clear hobj
      have kbK00 := O_K0.out.cell 0 _ rfl
      have kbBW0 := O_BW.out.cell 0 _ rfl
      have kbBx00 := O_Bx0.out.cell 0 _ rfl
      go_wp2_with fail
      clear kbK00 kbBW0 kbBx00
      refine (qtI_any _ _ _ x0 _ _ _ x1 zs code kz _ HN0.out m0 (fun i hi => by have := Y0.out i hi; omega) O_x0.out.rd HN1.out m1 O_x1.out.rd HRES.out HK.out).mono ?_
      rintro e w9 ⟨A_G, c_G, rfl, hbb, hobj⟩
      have HB9 := hide (HB8.out.trans (hbb.mono HB8.out.size))
      have Z9 := hide (hbb).size
      replace O_K0 := hide (O_K0.out.later hbb)
      replace O_W := hide (O_W.out.later hbb)
      replace O_BW := hide (O_BW.out.later hbb)
      replace O_x0 := hide (O_x0.out.later hbb)
      replace O_Bx0 := hide (O_Bx0.out.later hbb)
      replace O_x1 := hide (O_x1.out.later hbb)
      clear hbb
      have O_G := hide hobj
      clear hobj
      have kbK00 := O_K0.out.cell 0 _ rfl
      have kcK00 := fun o => (O_K0.out.alloc o).cell 0 _ rfl
      have kbBW0 := O_BW.out.cell 0 _ rfl
      have kcBW0 := fun o => (O_BW.out.alloc o).cell 0 _ rfl
      have kbBx00 := O_Bx0.out.cell 0 _ rfl
      have kcBx00 := fun o => (O_Bx0.out.alloc o).cell 0 _ rfl
      go_wp2_with fail
      clear kbK00 kcK00 kbBW0 kcBW0 kbBx00 kcBx00
      refine calls_gen fun w10 hw10 => ?_
      have O_BG : Hid (Blk w10 w9.heap.size 26 [.slice A_G kz c_G]) := hide (by rw [hw10]; exact Blk.new _ _ _)
      have hbx : Below w9.heap.size w9 w10 := by rw [hw10]; exact (Below.refl _ _).alloc (Nat.le_refl _) _
      have ZE : Hid (w10.heap.size = w9.heap.size + 1) := hide (by rw [hw10]; simp)
      clear hw10
      have HB10 := hide (HB9.out.trans (hbx.mono HB9.out.size))
      have Z10 := hide (hbx).size
      replace O_K0 := hide (O_K0.out.later hbx)
      replace O_W := hide (O_W.out.later hbx)
      replace O_BW := hide (O_BW.out.later hbx)
      replace O_x0 := hide (O_x0.out.later hbx)
      replace O_Bx0 := hide (O_Bx0.out.later hbx)
      replace O_x1 := hide (O_x1.out.later hbx)
      replace O_G := hide (O_G.out.later hbx)
      clear hbx
      replace Z10 := ZE
      clear ZE
      refine (eqK_any _ _ _ _ _ _ zs zs true _ HK.out HK.out (by omega) (by omega) (fun i hi => by have := HZR.out i hi; omega) (fun i hi => by have := HZR.out i hi; omega) O_G.out.rd O_W.out.rd (by simp)).mono ?_
      rintro e w11 ⟨rfl, hbb⟩
      have HB11 := hide (HB10.out.trans (hbb.mono HB10.out.size))
      have Z11 := hide (hbb).size
      replace O_K0 := hide (O_K0.out.later hbb)
      replace O_W := hide (O_W.out.later hbb)
      replace O_BW := hide (O_BW.out.later hbb)
      replace O_x0 := hide (O_x0.out.later hbb)
      replace O_Bx0 := hide (O_Bx0.out.later hbb)
      replace O_x1 := hide (O_x1.out.later hbb)
      replace O_G := hide (O_G.out.later hbb)
      replace O_BG := hide (O_BG.out.later hbb)
      clear hbb
      have kbK00 := O_K0.out.cell 0 _ rfl
      have kbBW0 := O_BW.out.cell 0 _ rfl
      have kbBx00 := O_Bx0.out.cell 0 _ rfl
      have kbBG0 := O_BG.out.cell 0 _ rfl
      go_wp2_with fail
      clear kbK00 kbBW0 kbBx00 kbBG0
      have kbK00 := O_K0.out.cell 0 _ rfl
      have kbBx00 := O_Bx0.out.cell 0 _ rfl
      have HKK : Hid True := hide trivial
      go_region_held3 (fun w' => w'.cell? ⟨w.heap.size, 0, none⟩ = some (.slice a0 n0 c0) ∧ w'.cell? ⟨w6.heap.size, 0, none⟩ = some (.slice A_x0 n0 c_x0)) (first | exact ⟨kbK00, kbBx00⟩ | go_keep) (first | (go_at_call 12; go_must (refine calls_gen fun w12 hw12 => ?_; have hbx : Below w11.heap.size w11 w12 := (by rw [hw12]; exact (Below.refl _ _).drew); clear hw12; have HB12 := hide (HB11.out.trans (hbx.mono HB11.out.size)); have Z12 := hide (hbx).size; replace O_K0 := hide (O_K0.out.later hbx); replace O_W := hide (O_W.out.later hbx); replace O_BW := hide (O_BW.out.later hbx); replace O_x0 := hide (O_x0.out.later hbx); replace O_Bx0 := hide (O_Bx0.out.later hbx); replace O_x1 := hide (O_x1.out.later hbx); replace O_G := hide (O_G.out.later hbx); replace O_BG := hide (O_BG.out.later hbx); clear hbx; refine (copyK _ _ _ x0 _ HN0.out m0 (fun i hi => by have := Y0.out i hi; omega) (hr0.later HB12.out)).mono ?_; rintro e w13 ⟨A_y0, c_y0, rfl, hbb, hobj⟩; have HB13 := hide (HB12.out.trans (hbb.mono HB12.out.size)); have Z13 := hide (hbb).size; replace O_K0 := hide (O_K0.out.later hbb); replace O_W := hide (O_W.out.later hbb); replace O_BW := hide (O_BW.out.later hbb); replace O_x0 := hide (O_x0.out.later hbb); replace O_Bx0 := hide (O_Bx0.out.later hbb); replace O_x1 := hide (O_x1.out.later hbb); replace O_G := hide (O_G.out.later hbb); replace O_BG := hide (O_BG.out.later hbb); clear hbb; have O_y0 := hide hobj; clear hobj; have kbK00 := O_K0.out.cell 0 _ rfl; have kbBx00 := O_Bx0.out.cell 0 _ rfl)) | (go_at_call 14; go_must (refine (eqK_any _ _ _ _ _ _ x0 x0 true _ HN0.out HN0.out m0 m0 (fun i hi => by have := Y0.out i hi; omega) (fun i hi => by have := Y0.out i hi; omega) O_x0.out.rd O_y0.out.rd (by simp)).mono ?_; rintro e w14 ⟨rfl, hbb⟩; have HB14 := hide (HB13.out.trans (hbb.mono HB13.out.size)); have Z14 := hide (hbb).size; replace O_K0 := hide (O_K0.out.later hbb); replace O_W := hide (O_W.out.later hbb); replace O_BW := hide (O_BW.out.later hbb); replace O_x0 := hide (O_x0.out.later hbb); replace O_Bx0 := hide (O_Bx0.out.later hbb); replace O_x1 := hide (O_x1.out.later hbb); replace O_G := hide (O_G.out.later hbb); replace O_BG := hide (O_BG.out.later hbb); replace O_y0 := hide (O_y0.out.later hbb); clear hbb; have kbK00 := O_K0.out.cell 0 _ rfl; have kbBx00 := O_Bx0.out.cell 0 _ rfl)))
      clear HKK kbK00 kbBx00
      have kbK00 := O_K0.out.cell 0 _ rfl
      have kbBW0 := O_BW.out.cell 0 _ rfl
      have kbBx00 := O_Bx0.out.cell 0 _ rfl
      have kbBG0 := O_BG.out.cell 0 _ rfl
      go_wp2_with fail
      clear kbK00 kbBW0 kbBx00 kbBG0
      clear O_y0
      refine (copyR _ _ _ x1 _ HN1.out m1 (hr1.later HB14.out)).mono ?_
      rintro e w15 ⟨A_y1, rfl, hbb, hobj⟩
      have HB15 := hide (HB14.out.trans (hbb.mono HB14.out.size))
      have Z15 := hide (hbb).size
      replace O_K0 := hide (O_K0.out.later hbb)
      replace O_W := hide (O_W.out.later hbb)
      replace O_BW := hide (O_BW.out.later hbb)
      replace O_x0 := hide (O_x0.out.later hbb)
      replace O_Bx0 := hide (O_Bx0.out.later hbb)
      replace O_x1 := hide (O_x1.out.later hbb)
      replace O_G := hide (O_G.out.later hbb)
      replace O_BG := hide (O_BG.out.later hbb)
      clear hbb
      have O_y1 := hide hobj
      clear hobj
      have kbK00 := O_K0.out.cell 0 _ rfl
      have kbBW0 := O_BW.out.cell 0 _ rfl
      have kbBx00 := O_Bx0.out.cell 0 _ rfl
      have kbBG0 := O_BG.out.cell 0 _ rfl
      go_wp2_with fail
      clear kbK00 kbBW0 kbBx00 kbBG0
      refine (eq_any _ _ _ _ _ _ x1 x1 true _ HN1.out HN1.out (by omega) (by omega) O_x1.out.rd O_y1.out.rd (by simp)).mono ?_
      rintro e w16 ⟨rfl, hqq⟩
      have HB16 := hide (HB15.out.trans (hqq.below _))
      have Z16 := hide (hqq.below 0).size
      replace O_K0 := hide (O_K0.out.later (hqq.below _))
      replace O_W := hide (O_W.out.later (hqq.below _))
      replace O_BW := hide (O_BW.out.later (hqq.below _))
      replace O_x0 := hide (O_x0.out.later (hqq.below _))
      replace O_Bx0 := hide (O_Bx0.out.later (hqq.below _))
      replace O_x1 := hide (O_x1.out.later (hqq.below _))
      replace O_G := hide (O_G.out.later (hqq.below _))
      replace O_BG := hide (O_BG.out.later (hqq.below _))
      replace O_y1 := hide (O_y1.out.later (hqq.below _))
      clear hqq
      have kbK00 := O_K0.out.cell 0 _ rfl
      have kbBW0 := O_BW.out.cell 0 _ rfl
      have kbBx00 := O_Bx0.out.cell 0 _ rfl
      have kbBG0 := O_BG.out.cell 0 _ rfl
      go_wp2_with fail
      clear kbK00 kbBW0 kbBx00 kbBG0
      clear O_y1
      refine (markK 33 2 (by decide) _ _ _ _ _ _ x0 _ HN0.out (by omega) (fun i hi => by have := Y0.out i hi; omega) (by have tx := T0.out; omega) (by have tt0 := T0.out; omega) (by have tt0 := T0.out; omega) O_x0.out).mono ?_
      rintro e w17 ⟨rfl, ht, hobj⟩
      have HB17 := hide (ht.below HB16.out HB16.out.size (HB5.out.size))
      have Z17 := hide ht.size
      replace O_K0 := hide (O_K0.out.touch ht (.inl (by have zb := ZB.out; have z1 := Z1.out; have z2 := Z2.out; have z3 := Z3.out; have z4 := Z4.out; have z5 := Z5.out; omega)))
      replace O_W := hide (O_W.out.far ht (.inl (by have z5 := Z5.out; omega)))
      replace O_BW := hide (O_BW.out.touch ht (.inl (by have z5 := Z5.out; omega)))
      replace O_Bx0 := hide (O_Bx0.out.touch ht (.inr (by omega)))
      replace O_x1 := hide (O_x1.out.far ht (.inr (by have z7 := Z7.out; omega)))
      replace O_G := hide (O_G.out.far ht (.inr (by have z7 := Z7.out; have z8 := Z8.out; omega)))
      replace O_BG := hide (O_BG.out.touch ht (.inr (by have z7 := Z7.out; have z8 := Z8.out; have z9 := Z9.out; omega)))
      replace O_x0 := hide hobj
      clear ht hobj
      have kbK00 := O_K0.out.cell 0 _ rfl
      have kbBW0 := O_BW.out.cell 0 _ rfl
      have kbBx00 := O_Bx0.out.cell 0 _ rfl
      have kbBG0 := O_BG.out.cell 0 _ rfl
      go_wp2_with fail
      clear kbK00 kbBW0 kbBx00 kbBG0
      refine (markR _ _ _ _ _ _ _ x1 _ HN1.out (by omega) (by have tt0 := T0.out; omega) (by have tt0 := T0.out; omega) O_x1.out).mono ?_
      rintro e w18 ⟨rfl, ht, hobj⟩
      have HB18 := hide (ht.below HB17.out HB17.out.size (HB7.out.size))
      have Z18 := hide ht.size
      replace O_K0 := hide (O_K0.out.touch ht (.inl (by have zb := ZB.out; have z1 := Z1.out; have z2 := Z2.out; have z3 := Z3.out; have z4 := Z4.out; have z5 := Z5.out; have z6 := Z6.out; have z7 := Z7.out; omega)))
      replace O_W := hide (O_W.out.far ht (.inl (by have z5 := Z5.out; have z6 := Z6.out; have z7 := Z7.out; omega)))
      replace O_BW := hide (O_BW.out.touch ht (.inl (by have z5 := Z5.out; have z6 := Z6.out; have z7 := Z7.out; omega)))
      replace O_x0 := hide (O_x0.out.far ht (.inl (by have z7 := Z7.out; omega)))
      replace O_Bx0 := hide (O_Bx0.out.touch ht (.inl (by have z7 := Z7.out; omega)))
      replace O_G := hide (O_G.out.far ht (.inr (by omega)))
      replace O_BG := hide (O_BG.out.touch ht (.inr (by have z9 := Z9.out; omega)))
      replace O_x1 := hide hobj
      clear ht hobj
      have kbK00 := O_K0.out.cell 0 _ rfl
      have kbBW0 := O_BW.out.cell 0 _ rfl
      have kbBx00 := O_Bx0.out.cell 0 _ rfl
      have kbBG0 := O_BG.out.cell 0 _ rfl
      go_wp2_with fail
      clear kbK00 kbBW0 kbBx00 kbBG0
      refine (eqK_any _ _ _ _ _ _ zs zs true _ HK.out HK.out (by omega) (by omega) (fun i hi => by have := HZR.out i hi; omega) (fun i hi => by have := HZR.out i hi; omega) O_G.out.rd O_W.out.rd (by simp)).mono ?_
      rintro e w19 ⟨rfl, hbb⟩
      have HB19 := hide (HB18.out.trans (hbb.mono HB18.out.size))
      have Z19 := hide (hbb).size
      replace O_K0 := hide (O_K0.out.later hbb)
      replace O_W := hide (O_W.out.later hbb)
      replace O_BW := hide (O_BW.out.later hbb)
      replace O_x0 := hide (O_x0.out.later hbb)
      replace O_Bx0 := hide (O_Bx0.out.later hbb)
      replace O_x1 := hide (O_x1.out.later hbb)
      replace O_G := hide (O_G.out.later hbb)
      replace O_BG := hide (O_BG.out.later hbb)
      clear hbb
      have kbK00 := O_K0.out.cell 0 _ rfl
      have kbBW0 := O_BW.out.cell 0 _ rfl
      have kbBx00 := O_Bx0.out.cell 0 _ rfl
      have kbBG0 := O_BG.out.cell 0 _ rfl
      go_wp2_with fail
      clear kbK00 kbBW0 kbBx00 kbBG0
      clear O_x0
      clear O_x1
      refine (markK 33 2 (by decide) _ _ _ _ _ _ zs _ HK.out (by omega) (fun i hi => by have := HZR.out i hi; omega) (by have tx := TZ.out; omega) (by have tt0 := T0.out; omega) (by have tt0 := T0.out; omega) O_G.out).mono ?_
      rintro e w20 ⟨rfl, ht, hobj⟩
      have HB20 := hide (ht.below HB19.out HB19.out.size (HB8.out.size))
      have Z20 := hide ht.size
      replace O_K0 := hide (O_K0.out.touch ht (.inl (by have zb := ZB.out; have z1 := Z1.out; have z2 := Z2.out; have z3 := Z3.out; have z4 := Z4.out; have z5 := Z5.out; have z6 := Z6.out; have z7 := Z7.out; have z8 := Z8.out; omega)))
      replace O_W := hide (O_W.out.far ht (.inl (by have z5 := Z5.out; have z6 := Z6.out; have z7 := Z7.out; have z8 := Z8.out; omega)))
      replace O_BW := hide (O_BW.out.touch ht (.inl (by have z5 := Z5.out; have z6 := Z6.out; have z7 := Z7.out; have z8 := Z8.out; omega)))
      replace O_Bx0 := hide (O_Bx0.out.touch ht (.inl (by have z7 := Z7.out; have z8 := Z8.out; omega)))
      replace O_BG := hide (O_BG.out.touch ht (.inr (by omega)))
      replace O_G := hide hobj
      clear ht hobj
      have kbK00 := O_K0.out.cell 0 _ rfl
      have kbBW0 := O_BW.out.cell 0 _ rfl
      have kbBx00 := O_Bx0.out.cell 0 _ rfl
      have kbBG0 := O_BG.out.cell 0 _ rfl
      go_wp2_with fail
      clear kbK00 kbBW0 kbBx00 kbBG0
      refine (heldK _ _ _ _ zs _ HK.out (by omega) (fun i hi => by have := HZR.out i hi; omega) (by have tx := TZ.out; omega) (by omega) (by omega) O_G.out.rd).mono ?_
      rintro e w21 ⟨rfl, hbb⟩
      have HB21 := hide (HB20.out.trans (hbb.mono HB20.out.size))
      have Z21 := hide (hbb).size
      replace O_K0 := hide (O_K0.out.later hbb)
      replace O_W := hide (O_W.out.later hbb)
      replace O_BW := hide (O_BW.out.later hbb)
      replace O_Bx0 := hide (O_Bx0.out.later hbb)
      replace O_G := hide (O_G.out.later hbb)
      replace O_BG := hide (O_BG.out.later hbb)
      clear hbb
      have kbK00 := O_K0.out.cell 0 _ rfl
      have kbBW0 := O_BW.out.cell 0 _ rfl
      have kbBx00 := O_Bx0.out.cell 0 _ rfl
      have kbBG0 := O_BG.out.cell 0 _ rfl
      go_wp2_with fail
      clear kbK00 kbBW0 kbBx00 kbBG0
      refine (copyK _ _ _ x0 _ HN0.out m0 (fun i hi => by have := Y0.out i hi; omega) (hr0.later HB21.out)).mono ?_
      rintro e w22 ⟨A_h0, c_h0, rfl, hbb, hobj⟩
      have HB22 := hide (HB21.out.trans (hbb.mono HB21.out.size))
      have Z22 := hide (hbb).size
      replace O_K0 := hide (O_K0.out.later hbb)
      replace O_W := hide (O_W.out.later hbb)
      replace O_BW := hide (O_BW.out.later hbb)
      replace O_Bx0 := hide (O_Bx0.out.later hbb)
      replace O_G := hide (O_G.out.later hbb)
      replace O_BG := hide (O_BG.out.later hbb)
      clear hbb
      have O_h0 := hide hobj
      clear hobj
      have kbK00 := O_K0.out.cell 0 _ rfl
      have kbBW0 := O_BW.out.cell 0 _ rfl
      have kbBx00 := O_Bx0.out.cell 0 _ rfl
      have kbBG0 := O_BG.out.cell 0 _ rfl
      go_wp2_with fail
      clear kbK00 kbBW0 kbBx00 kbBG0
      refine (copyR _ _ _ x1 _ HN1.out m1 (hr1.later HB22.out)).mono ?_
      rintro e w23 ⟨A_h1, rfl, hbb, hobj⟩
      have HB23 := hide (HB22.out.trans (hbb.mono HB22.out.size))
      have Z23 := hide (hbb).size
      replace O_K0 := hide (O_K0.out.later hbb)
      replace O_W := hide (O_W.out.later hbb)
      replace O_BW := hide (O_BW.out.later hbb)
      replace O_Bx0 := hide (O_Bx0.out.later hbb)
      replace O_G := hide (O_G.out.later hbb)
      replace O_BG := hide (O_BG.out.later hbb)
      replace O_h0 := hide (O_h0.out.later hbb)
      clear hbb
      have O_h1 := hide hobj
      clear hobj
      have kbK00 := O_K0.out.cell 0 _ rfl
      have kbBW0 := O_BW.out.cell 0 _ rfl
      have kbBx00 := O_Bx0.out.cell 0 _ rfl
      have kbBG0 := O_BG.out.cell 0 _ rfl
      go_wp2_with fail
      clear kbK00 kbBW0 kbBx00 kbBG0
      refine (qtI_any _ _ _ x0 _ _ _ x1 zs code kz _ HN0.out m0 (fun i hi => by have := Y0.out i hi; omega) O_h0.out.rd HN1.out m1 O_h1.out.rd HRES.out HK.out).mono ?_
      rintro e w24 ⟨A_H, c_H, rfl, hbb, hobj⟩
      have HB24 := hide (HB23.out.trans (hbb.mono HB23.out.size))
      have Z24 := hide (hbb).size
      replace O_K0 := hide (O_K0.out.later hbb)
      replace O_W := hide (O_W.out.later hbb)
      replace O_BW := hide (O_BW.out.later hbb)
      replace O_Bx0 := hide (O_Bx0.out.later hbb)
      replace O_G := hide (O_G.out.later hbb)
      replace O_BG := hide (O_BG.out.later hbb)
      replace O_h0 := hide (O_h0.out.later hbb)
      replace O_h1 := hide (O_h1.out.later hbb)
      clear hbb
      have O_H := hide hobj
      clear hobj
      have kbK00 := O_K0.out.cell 0 _ rfl
      have kcK00 := fun o => (O_K0.out.alloc o).cell 0 _ rfl
      have kbBW0 := O_BW.out.cell 0 _ rfl
      have kcBW0 := fun o => (O_BW.out.alloc o).cell 0 _ rfl
      have kbBx00 := O_Bx0.out.cell 0 _ rfl
      have kcBx00 := fun o => (O_Bx0.out.alloc o).cell 0 _ rfl
      have kbBG0 := O_BG.out.cell 0 _ rfl
      have kcBG0 := fun o => (O_BG.out.alloc o).cell 0 _ rfl
      go_wp2_with fail
      clear kbK00 kcK00 kbBW0 kcBW0 kbBx00 kcBx00 kbBG0 kcBG0
      refine calls_gen fun w25 hw25 => ?_
      have O_BH : Hid (Blk w25 w24.heap.size 26 [.slice A_H kz c_H]) := hide (by rw [hw25]; exact Blk.new _ _ _)
      have hbx : Below w24.heap.size w24 w25 := by rw [hw25]; exact (Below.refl _ _).alloc (Nat.le_refl _) _
      have ZE : Hid (w25.heap.size = w24.heap.size + 1) := hide (by rw [hw25]; simp)
      clear hw25
      have HB25 := hide (HB24.out.trans (hbx.mono HB24.out.size))
      have Z25 := hide (hbx).size
      replace O_K0 := hide (O_K0.out.later hbx)
      replace O_W := hide (O_W.out.later hbx)
      replace O_BW := hide (O_BW.out.later hbx)
      replace O_Bx0 := hide (O_Bx0.out.later hbx)
      replace O_G := hide (O_G.out.later hbx)
      replace O_BG := hide (O_BG.out.later hbx)
      replace O_h0 := hide (O_h0.out.later hbx)
      replace O_h1 := hide (O_h1.out.later hbx)
      replace O_H := hide (O_H.out.later hbx)
      clear hbx
      replace Z25 := ZE
      clear ZE
      clear O_h0
      clear O_h1
      refine (eqK_any _ _ _ _ _ _ zs zs true _ HK.out HK.out (by omega) (by omega) (fun i hi => by have := HZR.out i hi; omega) (fun i hi => by have := HZR.out i hi; omega) O_H.out.rd O_W.out.rd (by simp)).mono ?_
      rintro e w26 ⟨rfl, hbb⟩
      have HB26 := hide (HB25.out.trans (hbb.mono HB25.out.size))
      have Z26 := hide (hbb).size
      replace O_K0 := hide (O_K0.out.later hbb)
      replace O_W := hide (O_W.out.later hbb)
      replace O_BW := hide (O_BW.out.later hbb)
      replace O_Bx0 := hide (O_Bx0.out.later hbb)
      replace O_G := hide (O_G.out.later hbb)
      replace O_BG := hide (O_BG.out.later hbb)
      replace O_H := hide (O_H.out.later hbb)
      replace O_BH := hide (O_BH.out.later hbb)
      clear hbb
      have kbK00 := O_K0.out.cell 0 _ rfl
      have kbBW0 := O_BW.out.cell 0 _ rfl
      have kbBx00 := O_Bx0.out.cell 0 _ rfl
      have kbBG0 := O_BG.out.cell 0 _ rfl
      have kbBH0 := O_BH.out.cell 0 _ rfl
      go_wp2_with fail
      clear kbK00 kbBW0 kbBx00 kbBG0 kbBH0
      refine (heldK _ _ _ _ zs _ HK.out (by omega) (fun i hi => by have := HZR.out i hi; omega) (by have tx := TZ.out; omega) (by omega) (by omega) O_G.out.rd).mono ?_
      rintro e w27 ⟨rfl, hbb⟩
      have HB27 := hide (HB26.out.trans (hbb.mono HB26.out.size))
      have Z27 := hide (hbb).size
      replace O_K0 := hide (O_K0.out.later hbb)
      replace O_W := hide (O_W.out.later hbb)
      replace O_BW := hide (O_BW.out.later hbb)
      replace O_Bx0 := hide (O_Bx0.out.later hbb)
      replace O_G := hide (O_G.out.later hbb)
      replace O_BG := hide (O_BG.out.later hbb)
      replace O_H := hide (O_H.out.later hbb)
      replace O_BH := hide (O_BH.out.later hbb)
      clear hbb
      have kbK00 := O_K0.out.cell 0 _ rfl
      have kbBW0 := O_BW.out.cell 0 _ rfl
      have kbBx00 := O_Bx0.out.cell 0 _ rfl
      have kbBG0 := O_BG.out.cell 0 _ rfl
      have kbBH0 := O_BH.out.cell 0 _ rfl
      go_wp2_with fail
      clear kbK00 kbBW0 kbBx00 kbBG0 kbBH0
      go_ret
      exact ⟨rfl, HB27.out⟩
  · go_enter Try.func6, Try.ntmps6
    go_wp2_with fail
    go_ret
    exact ⟨rfl, by first | exact Below.refl _ _ | exact (Below.refl _ _).alloc (Nat.le_refl _) _⟩
end Go.Proofs.Ytljdfanebjhhmaa
