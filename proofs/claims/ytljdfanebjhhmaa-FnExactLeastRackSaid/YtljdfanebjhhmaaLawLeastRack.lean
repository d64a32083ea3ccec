import Derived.Test.YtljdfanebjhhmaaZn
import Derived.Test.YtljdfanebjhhmaaZa
import Derived.Test.YtljdfanebjhhmaaZbb
import Derived.Test.YtljdfanebjhhmaaZbe
namespace Go.Proofs.Ytljdfanebjhhmaa
open Go Go.RowKit
set_option maxHeartbeats 4000000

set_option maxRecDepth 20000 in
theorem law_LeastRack (a0 : Option Addr) (n0 c0 : Nat) (x0 : List (List Int)) (w : World) (hn0 : x0.length = n0) (hb0 : n0 ≤ 9223372036854775807) (hbs0 : ∀ i, i < x0.length → (x0.getD i []).length ≤ 9223372036854775807) (hr0 : Rd2 w a0 x0) :
    Calls Try.prog 7 #[.agg #[.slice a0 n0 c0]] w fun e w' => e = .returned (.bool true) ∧ Below w.heap.size w w' := by
  have HN0 := hide hn0
  clear hn0
  obtain ⟨zs, code, hres, hzb, hzr⟩ := LrRes.ex x0
  have HRES := hide hres
  clear hres
  obtain ⟨kz, hkz⟩ : ∃ kz, zs.length = kz := ⟨_, rfl⟩
  rw [hkz] at hzb
  have HK := hide hkz
  clear hkz
  have HZR := hide hzr
  clear hzr
  go_enter Try.func7, Try.ntmps7
  go_wp2_with fail
  refine calls_gen fun wb hwb => ?_
  have HB0 : Hid (Below w.heap.size w wb) := hide (by rw [hwb]; exact (Below.refl _ w).alloc (by simp <;> omega) (Obj.cells #[Value.slice a0 n0 c0] 24))
  have ZB : Hid (wb.heap.size = w.heap.size + 1) := hide (by rw [hwb]; simp <;> omega)
  have O_K0 : Hid (Blk wb w.heap.size 24 [.slice a0 n0 c0]) := hide (by rw [hwb]; exact Blk.new w 24 [.slice a0 n0 c0])
  clear hwb
  refine (szK_any _ _ _ x0 1048576 _ HN0.out hb0 hbs0 (by omega) (by omega) (hr0.later HB0.out)).mono ?_
  rintro e w1 ⟨l0, hsd0, rfl, hbb⟩
  have HB1 := hide (HB0.out.trans (hbb.mono HB0.out.size))
  have Z1 := hide (hbb).size
  replace O_K0 := hide (O_K0.out.later hbb)
  clear hbb
  rcases hsd0 with rfl | ⟨p0, q0, u0, y0⟩
  · go_wp2_with fail
    go_ret
    exact ⟨rfl, HB1.out⟩
  · have U0 := hide u0
    have Y0 := hide y0
    clear u0 y0 hbs0
    have m0 : n0 ≤ 1048576 := by have := U0.out; have := HN0.out; omega
    have kbK00 := O_K0.out.cell 0 _ rfl
    go_wp2_with fail
    clear kbK00
    have hcc : (code != code) = false := by simp
    have TZ := hide (tot_bound zs (by rw [HK.out]; omega) (fun i hi => by have := HZR.out i hi; omega))
    have tz0 := TZ.out
    have T0 := hide (tot_bound x0 (by rw [HN0.out]; omega) (fun i hi => by have := Y0.out i hi; omega))
    have tq0 := T0.out
    refine (copyK _ _ _ x0 _ HN0.out m0 (fun i hi => by have := Y0.out i hi; omega) (hr0.later HB1.out)).mono ?_
    rintro e w2 ⟨A_s0, c_s0, rfl, hbb, hobj⟩
    have HB2 := hide (HB1.out.trans (hbb.mono HB1.out.size))
    have Z2 := hide (hbb).size
    replace O_K0 := hide (O_K0.out.later hbb)
    clear hbb
    have O_s0 := hide hobj
    clear hobj
    have kbK00 := O_K0.out.cell 0 _ rfl
    go_wp2_with fail
    clear kbK00
    refine (lrS_any _ _ _ x0 zs code kz _ HN0.out m0 (fun i hi => by have := Y0.out i hi; omega) O_s0.out.rd HRES.out HK.out).mono ?_
    rintro e w3 ⟨A_W, c_W, rfl, hbb, hobj⟩
    have HB3 := hide (HB2.out.trans (hbb.mono HB2.out.size))
    have Z3 := hide (hbb).size
    replace O_K0 := hide (O_K0.out.later hbb)
    replace O_s0 := hide (O_s0.out.later hbb)
    clear hbb
    have O_W := hide hobj
    clear hobj
    have kbK00 := O_K0.out.cell 0 _ rfl
    have kcK00 := fun o => (O_K0.out.alloc o).cell 0 _ rfl
    go_wp2_with fail
    clear kbK00 kcK00
    refine calls_gen fun w4 hw4 => ?_
    have O_BW : Hid (Blk w4 w3.heap.size 26 [.slice A_W kz c_W]) := hide (by rw [hw4]; exact Blk.new _ _ _)
    have hbx : Below w3.heap.size w3 w4 := by rw [hw4]; exact (Below.refl _ _).alloc (Nat.le_refl _) _
    have ZE : Hid (w4.heap.size = w3.heap.size + 1) := hide (by rw [hw4]; simp)
    clear hw4
    have HB4 := hide (HB3.out.trans (hbx.mono HB3.out.size))
    have Z4 := hide (hbx).size
    replace O_K0 := hide (O_K0.out.later hbx)
    replace O_s0 := hide (O_s0.out.later hbx)
    replace O_W := hide (O_W.out.later hbx)
    clear hbx
    replace Z4 := ZE
    clear ZE
    clear O_s0
    refine (copyK _ _ _ x0 _ HN0.out m0 (fun i hi => by have := Y0.out i hi; omega) (hr0.later HB4.out)).mono ?_
    rintro e w5 ⟨A_x0, c_x0, rfl, hbb, hobj⟩
    have HB5 := hide (HB4.out.trans (hbb.mono HB4.out.size))
    have Z5 := hide (hbb).size
    replace O_K0 := hide (O_K0.out.later hbb)
    replace O_W := hide (O_W.out.later hbb)
    replace O_BW := hide (O_BW.out.later hbb)
    clear hbb
    have O_x0 := hide hobj
    clear hobj
    have kbK00 := O_K0.out.cell 0 _ rfl
    have kcK00 := fun o => (O_K0.out.alloc o).cell 0 _ rfl
    have kbBW0 := O_BW.out.cell 0 _ rfl
    have kcBW0 := fun o => (O_BW.out.alloc o).cell 0 _ rfl
    go_wp2_with fail
    clear kbK00 kcK00 kbBW0 kcBW0
    refine calls_gen fun w6 hw6 => ?_
    have O_Bx0 : Hid (Blk w6 w5.heap.size 26 [.slice A_x0 n0 c_x0]) := hide (by rw [hw6]; exact Blk.new _ _ _)
    have hbx : Below w5.heap.size w5 w6 := by rw [hw6]; exact (Below.refl _ _).alloc (Nat.le_refl _) _
    have ZE : Hid (w6.heap.size = w5.heap.size + 1) := hide (by rw [hw6]; simp)
    clear hw6
    have HB6 := hide (HB5.out.trans (hbx.mono HB5.out.size))
    have Z6 := hide (hbx).size
    replace O_K0 := hide (O_K0.out.later hbx)
    replace O_W := hide (O_W.out.later hbx)
    replace O_BW := hide (O_BW.out.later hbx)
    replace O_x0 := hide (O_x0.out.later hbx)
    clear hbx
    replace Z6 := ZE
    clear ZE
    refine (lrI_any _ _ _ x0 zs code kz _ HN0.out m0 (fun i hi => by have := Y0.out i hi; omega) O_x0.out.rd HRES.out HK.out).mono ?_
    rintro e w7 ⟨A_G, c_G, rfl, hbb, hobj⟩
    have HB7 := hide (HB6.out.trans (hbb.mono HB6.out.size))
    have Z7 := hide (hbb).size
    replace O_K0 := hide (O_K0.out.later hbb)
    replace O_W := hide (O_W.out.later hbb)
    replace O_BW := hide (O_BW.out.later hbb)
    replace O_x0 := hide (O_x0.out.later hbb)
    replace O_Bx0 := hide (O_Bx0.out.later hbb)
    clear hbb
    have O_G := hide hobj
    clear hobj
    have kbK00 := O_K0.out.cell 0 _ rfl
    have kcK00 := fun o => (O_K0.out.alloc o).cell 0 _ rfl
    have kbBW0 := O_BW.out.cell 0 _ rfl
    have kcBW0 := fun o => (O_BW.out.alloc o).cell 0 _ rfl
    have kbBx00 := O_Bx0.out.cell 0 _ rfl
    have kcBx00 := fun o => (O_Bx0.out.alloc o).cell 0 _ rfl
    go_wp2_with fail
    clear kbK00 kcK00 kbBW0 kcBW0 kbBx00 kcBx00
    refine calls_gen fun w8 hw8 => ?_
    have O_BG : Hid (Blk w8 w7.heap.size 26 [.slice A_G kz c_G]) := hide (by rw [hw8]; exact Blk.new _ _ _)
    have hbx : Below w7.heap.size w7 w8 := by rw [hw8]; exact (Below.refl _ _).alloc (Nat.le_refl _) _
    have ZE : Hid (w8.heap.size = w7.heap.size + 1) := hide (by rw [hw8]; simp)
    clear hw8
    have HB8 := hide (HB7.out.trans (hbx.mono HB7.out.size))
    have Z8 := hide (hbx).size
    replace O_K0 := hide (O_K0.out.later hbx)
    replace O_W := hide (O_W.out.later hbx)
    replace O_BW := hide (O_BW.out.later hbx)
    replace O_x0 := hide (O_x0.out.later hbx)
    replace O_Bx0 := hide (O_Bx0.out.later hbx)
    replace O_G := hide (O_G.out.later hbx)
    clear hbx
    replace Z8 := ZE
    clear ZE
    refine (eqK_any _ _ _ _ _ _ zs zs true _ HK.out HK.out (by omega) (by omega) (fun i hi => by have := HZR.out i hi; omega) (fun i hi => by have := HZR.out i hi; omega) O_G.out.rd O_W.out.rd (by simp)).mono ?_
    rintro e w9 ⟨rfl, hbb⟩
    have HB9 := hide (HB8.out.trans (hbb.mono HB8.out.size))
    have Z9 := hide (hbb).size
    replace O_K0 := hide (O_K0.out.later hbb)
    replace O_W := hide (O_W.out.later hbb)
    replace O_BW := hide (O_BW.out.later hbb)
    replace O_x0 := hide (O_x0.out.later hbb)
    replace O_Bx0 := hide (O_Bx0.out.later hbb)
    replace O_G := hide (O_G.out.later hbb)
    replace O_BG := hide (O_BG.out.later hbb)
    clear hbb
    have kbK00 := O_K0.out.cell 0 _ rfl
    have kbBW0 := O_BW.out.cell 0 _ rfl
    have kbBx00 := O_Bx0.out.cell 0 _ rfl
    have kbBG0 := O_BG.out.cell 0 _ rfl
    go_wp2_with fail
    clear kbK00 kbBW0 kbBx00 kbBG0
    have kbK00 := O_K0.out.cell 0 _ rfl
    have kbBx00 := O_Bx0.out.cell 0 _ rfl
    have HKK : Hid True := hide trivial
    go_region_held3 (fun w' => w'.cell? ⟨w.heap.size, 0, none⟩ = some (.slice a0 n0 c0) ∧ w'.cell? ⟨w5.heap.size, 0, none⟩ = some (.slice A_x0 n0 c_x0)) (first | exact ⟨kbK00, kbBx00⟩ | go_keep) (first | (go_at_call 12; go_must (refine calls_gen fun w10 hw10 => ?_; have hbx : Below w9.heap.size w9 w10 := (by rw [hw10]; exact (Below.refl _ _).drew); clear hw10; have HB10 := hide (HB9.out.trans (hbx.mono HB9.out.size)); have Z10 := hide (hbx).size; replace O_K0 := hide (O_K0.out.later hbx); replace O_W := hide (O_W.out.later hbx); replace O_BW := hide (O_BW.out.later hbx); replace O_x0 := hide (O_x0.out.later hbx); replace O_Bx0 := hide (O_Bx0.out.later hbx); replace O_G := hide (O_G.out.later hbx); replace O_BG := hide (O_BG.out.later hbx); clear hbx; refine (copyK _ _ _ x0 _ HN0.out m0 (fun i hi => by have := Y0.out i hi; omega) (hr0.later HB10.out)).mono ?_; rintro e w11 ⟨A_y0, c_y0, rfl, hbb, hobj⟩; have HB11 := hide (HB10.out.trans (hbb.mono HB10.out.size)); have Z11 := hide (hbb).size; replace O_K0 := hide (O_K0.out.later hbb); replace O_W := hide (O_W.out.later hbb); replace O_BW := hide (O_BW.out.later hbb); replace O_x0 := hide (O_x0.out.later hbb); replace O_Bx0 := hide (O_Bx0.out.later hbb); replace O_G := hide (O_G.out.later hbb); replace O_BG := hide (O_BG.out.later hbb); clear hbb; have O_y0 := hide hobj; clear hobj; have kbK00 := O_K0.out.cell 0 _ rfl; have kbBx00 := O_Bx0.out.cell 0 _ rfl)) | (go_at_call 14; go_must (refine (eqK_any _ _ _ _ _ _ x0 x0 true _ HN0.out HN0.out m0 m0 (fun i hi => by have := Y0.out i hi; omega) (fun i hi => by have := Y0.out i hi; omega) O_x0.out.rd O_y0.out.rd (by simp)).mono ?_; rintro e w12 ⟨rfl, hbb⟩; have HB12 := hide (HB11.out.trans (hbb.mono HB11.out.size)); have Z12 := hide (hbb).size; replace O_K0 := hide (O_K0.out.later hbb); replace O_W := hide (O_W.out.later hbb); replace O_BW := hide (O_BW.out.later hbb); replace O_x0 := hide (O_x0.out.later hbb); replace O_Bx0 := hide (O_Bx0.out.later hbb); replace O_G := hide (O_G.out.later hbb); replace O_BG := hide (O_BG.out.later hbb); replace O_y0 := hide (O_y0.out.later hbb); clear hbb; have kbK00 := O_K0.out.cell 0 _ rfl; have kbBx00 := O_Bx0.out.cell 0 _ rfl)))
    clear HKK kbK00 kbBx00
    have kbK00 := O_K0.out.cell 0 _ rfl
    have kbBW0 := O_BW.out.cell 0 _ rfl
    have kbBx00 := O_Bx0.out.cell 0 _ rfl
    have kbBG0 := O_BG.out.cell 0 _ rfl
    go_wp2_with fail
    clear kbK00 kbBW0 kbBx00 kbBG0
    clear O_y0
    refine (markK 33 2 (by decide) _ _ _ _ _ _ x0 _ HN0.out (by omega) (fun i hi => by have := Y0.out i hi; omega) (by have tx := T0.out; omega) (by have tt0 := T0.out; omega) (by have tt0 := T0.out; omega) O_x0.out).mono ?_
    rintro e w13 ⟨rfl, ht, hobj⟩
    have HB13 := hide (ht.below HB12.out HB12.out.size (HB4.out.size))
    have Z13 := hide ht.size
    replace O_K0 := hide (O_K0.out.touch ht (.inl (by have zb := ZB.out; have z1 := Z1.out; have z2 := Z2.out; have z3 := Z3.out; have z4 := Z4.out; omega)))
    replace O_W := hide (O_W.out.far ht (.inl (by have z4 := Z4.out; omega)))
    replace O_BW := hide (O_BW.out.touch ht (.inl (by have z4 := Z4.out; omega)))
    replace O_Bx0 := hide (O_Bx0.out.touch ht (.inr (by omega)))
    replace O_G := hide (O_G.out.far ht (.inr (by have z6 := Z6.out; omega)))
    replace O_BG := hide (O_BG.out.touch ht (.inr (by have z6 := Z6.out; have z7 := Z7.out; omega)))
    replace O_x0 := hide hobj
    clear ht hobj
    have kbK00 := O_K0.out.cell 0 _ rfl
    have kbBW0 := O_BW.out.cell 0 _ rfl
    have kbBx00 := O_Bx0.out.cell 0 _ rfl
    have kbBG0 := O_BG.out.cell 0 _ rfl
    go_wp2_with fail
    clear kbK00 kbBW0 kbBx00 kbBG0
    refine (eqK_any _ _ _ _ _ _ zs zs true _ HK.out HK.out (by omega) (by omega) (fun i hi => by have := HZR.out i hi; omega) (fun i hi => by have := HZR.out i hi; omega) O_G.out.rd O_W.out.rd (by simp)).mono ?_
    rintro e w14 ⟨rfl, hbb⟩
    have HB14 := hide (HB13.out.trans (hbb.mono HB13.out.size))
    have Z14 := hide (hbb).size
    replace O_K0 := hide (O_K0.out.later hbb)
    replace O_W := hide (O_W.out.later hbb)
    replace O_BW := hide (O_BW.out.later hbb)
    replace O_x0 := hide (O_x0.out.later hbb)
    replace O_Bx0 := hide (O_Bx0.out.later hbb)
    replace O_G := hide (O_G.out.later hbb)
    replace O_BG := hide (O_BG.out.later hbb)
    clear hbb
    have kbK00 := O_K0.out.cell 0 _ rfl
    have kbBW0 := O_BW.out.cell 0 _ rfl
    have kbBx00 := O_Bx0.out.cell 0 _ rfl
    have kbBG0 := O_BG.out.cell 0 _ rfl
    go_wp2_with fail
    clear kbK00 kbBW0 kbBx00 kbBG0
    clear O_x0
    refine (markK 33 2 (by decide) _ _ _ _ _ _ zs _ HK.out (by omega) (fun i hi => by have := HZR.out i hi; omega) (by have tx := TZ.out; omega) (by have tt0 := T0.out; omega) (by have tt0 := T0.out; omega) O_G.out).mono ?_
    rintro e w15 ⟨rfl, ht, hobj⟩
    have HB15 := hide (ht.below HB14.out HB14.out.size (HB6.out.size))
    have Z15 := hide ht.size
    replace O_K0 := hide (O_K0.out.touch ht (.inl (by have zb := ZB.out; have z1 := Z1.out; have z2 := Z2.out; have z3 := Z3.out; have z4 := Z4.out; have z5 := Z5.out; have z6 := Z6.out; omega)))
    replace O_W := hide (O_W.out.far ht (.inl (by have z4 := Z4.out; have z5 := Z5.out; have z6 := Z6.out; omega)))
    replace O_BW := hide (O_BW.out.touch ht (.inl (by have z4 := Z4.out; have z5 := Z5.out; have z6 := Z6.out; omega)))
    replace O_Bx0 := hide (O_Bx0.out.touch ht (.inl (by have z6 := Z6.out; omega)))
    replace O_BG := hide (O_BG.out.touch ht (.inr (by omega)))
    replace O_G := hide hobj
    clear ht hobj
    have kbK00 := O_K0.out.cell 0 _ rfl
    have kbBW0 := O_BW.out.cell 0 _ rfl
    have kbBx00 := O_Bx0.out.cell 0 _ rfl
    have kbBG0 := O_BG.out.cell 0 _ rfl
    go_wp2_with fail
    clear kbK00 kbBW0 kbBx00 kbBG0
    refine (heldK _ _ _ _ zs _ HK.out (by omega) (fun i hi => by have := HZR.out i hi; omega) (by have tx := TZ.out; omega) (by omega) (by omega) O_G.out.rd).mono ?_
    rintro e w16 ⟨rfl, hbb⟩
    have HB16 := hide (HB15.out.trans (hbb.mono HB15.out.size))
    have Z16 := hide (hbb).size
    replace O_K0 := hide (O_K0.out.later hbb)
    replace O_W := hide (O_W.out.later hbb)
    replace O_BW := hide (O_BW.out.later hbb)
    replace O_Bx0 := hide (O_Bx0.out.later hbb)
    replace O_G := hide (O_G.out.later hbb)
    replace O_BG := hide (O_BG.out.later hbb)
    clear hbb
    have kbK00 := O_K0.out.cell 0 _ rfl
    have kbBW0 := O_BW.out.cell 0 _ rfl
    have kbBx00 := O_Bx0.out.cell 0 _ rfl
    have kbBG0 := O_BG.out.cell 0 _ rfl
    go_wp2_with fail
    clear kbK00 kbBW0 kbBx00 kbBG0
    refine (copyK _ _ _ x0 _ HN0.out m0 (fun i hi => by have := Y0.out i hi; omega) (hr0.later HB16.out)).mono ?_
    rintro e w17 ⟨A_h0, c_h0, rfl, hbb, hobj⟩
    have HB17 := hide (HB16.out.trans (hbb.mono HB16.out.size))
    have Z17 := hide (hbb).size
    replace O_K0 := hide (O_K0.out.later hbb)
    replace O_W := hide (O_W.out.later hbb)
    replace O_BW := hide (O_BW.out.later hbb)
    replace O_Bx0 := hide (O_Bx0.out.later hbb)
    replace O_G := hide (O_G.out.later hbb)
    replace O_BG := hide (O_BG.out.later hbb)
    clear hbb
    have O_h0 := hide hobj
    clear hobj
    have kbK00 := O_K0.out.cell 0 _ rfl
    have kbBW0 := O_BW.out.cell 0 _ rfl
    have kbBx00 := O_Bx0.out.cell 0 _ rfl
    have kbBG0 := O_BG.out.cell 0 _ rfl
    go_wp2_with fail
    clear kbK00 kbBW0 kbBx00 kbBG0
    refine (lrI_any _ _ _ x0 zs code kz _ HN0.out m0 (fun i hi => by have := Y0.out i hi; omega) O_h0.out.rd HRES.out HK.out).mono ?_
    rintro e w18 ⟨A_H, c_H, rfl, hbb, hobj⟩
    have HB18 := hide (HB17.out.trans (hbb.mono HB17.out.size))
    have Z18 := hide (hbb).size
    replace O_K0 := hide (O_K0.out.later hbb)
    replace O_W := hide (O_W.out.later hbb)
    replace O_BW := hide (O_BW.out.later hbb)
    replace O_Bx0 := hide (O_Bx0.out.later hbb)
    replace O_G := hide (O_G.out.later hbb)
    replace O_BG := hide (O_BG.out.later hbb)
    replace O_h0 := hide (O_h0.out.later hbb)
    clear hbb
    have O_H := hide hobj
    clear hobj
    have kbK00 := O_K0.out.cell 0 _ rfl
    have kcK00 := fun o => (O_K0.out.alloc o).cell 0 _ rfl
    have kbBW0 := O_BW.out.cell 0 _ rfl
    have kcBW0 := fun o => (O_BW.out.alloc o).cell 0 _ rfl
    have kbBx00 := O_Bx0.out.cell 0 _ rfl
    have kcBx00 := fun o => (O_Bx0.out.alloc o).cell 0 _ rfl
    have kbBG0 := O_BG.out.cell 0 _ rfl
    have kcBG0 := fun o => (O_BG.out.alloc o).cell 0 _ rfl
    go_wp2_with fail
    clear kbK00 kcK00 kbBW0 kcBW0 kbBx00 kcBx00 kbBG0 kcBG0
    refine calls_gen fun w19 hw19 => ?_
    have O_BH : Hid (Blk w19 w18.heap.size 26 [.slice A_H kz c_H]) := hide (by rw [hw19]; exact Blk.new _ _ _)
    have hbx : Below w18.heap.size w18 w19 := by rw [hw19]; exact (Below.refl _ _).alloc (Nat.le_refl _) _
    have ZE : Hid (w19.heap.size = w18.heap.size + 1) := hide (by rw [hw19]; simp)
    clear hw19
    have HB19 := hide (HB18.out.trans (hbx.mono HB18.out.size))
    have Z19 := hide (hbx).size
    replace O_K0 := hide (O_K0.out.later hbx)
    replace O_W := hide (O_W.out.later hbx)
    replace O_BW := hide (O_BW.out.later hbx)
    replace O_Bx0 := hide (O_Bx0.out.later hbx)
    replace O_G := hide (O_G.out.later hbx)
    replace O_BG := hide (O_BG.out.later hbx)
    replace O_h0 := hide (O_h0.out.later hbx)
    replace O_H := hide (O_H.out.later hbx)
    clear hbx
    replace Z19 := ZE
    clear ZE
    clear O_h0
    refine (eqK_any _ _ _ _ _ _ zs zs true _ HK.out HK.out (by omega) (by omega) (fun i hi => by have := HZR.out i hi; omega) (fun i hi => by have := HZR.out i hi; omega) O_H.out.rd O_W.out.rd (by simp)).mono ?_
    rintro e w20 ⟨rfl, hbb⟩
    have HB20 := hide (HB19.out.trans (hbb.mono HB19.out.size))
    have Z20 := hide (hbb).size
    replace O_K0 := hide (O_K0.out.later hbb)
    replace O_W := hide (O_W.out.later hbb)
    replace O_BW := hide (O_BW.out.later hbb)
    replace O_Bx0 := hide (O_Bx0.out.later hbb)
    replace O_G := hide (O_G.out.later hbb)
    replace O_BG := hide (O_BG.out.later hbb)
    replace O_H := hide (O_H.out.later hbb)
    replace O_BH := hide (O_BH.out.later hbb)
    clear hbb
    have kbK00 := O_K0.out.cell 0 _ rfl
    have kbBW0 := O_BW.out.cell 0 _ rfl
    have kbBx00 := O_Bx0.out.cell 0 _ rfl
    have kbBG0 := O_BG.out.cell 0 _ rfl
    have kbBH0 := O_BH.out.cell 0 _ rfl
    go_wp2_with fail
    clear kbK00 kbBW0 kbBx00 kbBG0 kbBH0
    refine (heldK _ _ _ _ zs _ HK.out (by omega) (fun i hi => by have := HZR.out i hi; omega) (by have tx := TZ.out; omega) (by omega) (by omega) O_G.out.rd).mono ?_
    rintro e w21 ⟨rfl, hbb⟩
    have HB21 := hide (HB20.out.trans (hbb.mono HB20.out.size))
    have Z21 := hide (hbb).size
    replace O_K0 := hide (O_K0.out.later hbb)
    replace O_W := hide (O_W.out.later hbb)
    replace O_BW := hide (O_BW.out.later hbb)
    replace O_Bx0 := hide (O_Bx0.out.later hbb)
    replace O_G := hide (O_G.out.later hbb)
    replace O_BG := hide (O_BG.out.later hbb)
    replace O_H := hide (O_H.out.later hbb)
    replace O_BH := hide (O_BH.out.later hbb)
    clear hbb
    have kbK00 := O_K0.out.cell 0 _ rfl
    have kbBW0 := O_BW.out.cell 0 _ rfl
    have kbBx00 := O_Bx0.out.cell 0 _ rfl
    have kbBG0 := O_BG.out.cell 0 _ rfl
    have kbBH0 := O_BH.out.cell 0 _ rfl
    go_wp2_with fail
    clear kbK00 kbBW0 kbBx00 kbBG0 kbBH0
    go_ret
    exact ⟨rfl, HB21.out⟩
end Go.Proofs.Ytljdfanebjhhmaa
