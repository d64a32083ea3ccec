import Derived.Test.YthkhkehpmolfaaaZk
import Derived.Test.YthkhkehpmolfaaaZa
import Derived.Test.YthkhkehpmolfaaaZb
import Derived.Test.YthkhkehpmolfaaaZf
import Derived.Test.YthkhkehpmolfaaaZbz
namespace Go.Proofs.Ythkhkehpmolfaaa
open Go Go.RowKit
set_option maxHeartbeats 4000000

set_option maxRecDepth 20000 in
theorem law_RowOrders (a0 : Option Addr) (n0 c0 : Nat) (x0 : List (List Int)) (w : World) (hn0 : x0.length = n0) (hb0 : n0 ≤ 9223372036854775807) (hbs0 : ∀ i, i < x0.length → (x0.getD i []).length ≤ 9223372036854775807) (hr0 : Rd2 w a0 x0) :
    Calls Try.prog 11 #[.agg #[.slice a0 n0 c0]] w fun e w' => e = .returned (.bool true) ∧ Below w.heap.size w w' := by
  have HN0 := hide hn0
  clear hn0
  obtain ⟨zs, code, hres, hzb⟩ := RoRes.ex x0
  have HRES := hide hres
  clear hres
  obtain ⟨kz, hkz⟩ : ∃ kz, zs.length = kz := ⟨_, rfl⟩
  rw [hkz] at hzb
  have HK := hide hkz
  clear hkz
  go_enter Try.func11, Try.ntmps11
  go_wp2_with fail
  refine calls_gen fun wb hwb => ?_
  have HB0 : Hid (Below w.heap.size w wb) := hide (by rw [hwb]; exact (Below.refl _ w).alloc (by simp <;> omega) (Obj.cells #[Value.slice a0 n0 c0] 24))
  have ZB : Hid (wb.heap.size = w.heap.size + 1) := hide (by rw [hwb]; simp <;> omega)
  have O_K0 : Hid (Blk wb w.heap.size 24 [.slice a0 n0 c0]) := hide (by rw [hwb]; exact Blk.new w 24 [.slice a0 n0 c0])
  clear hwb
  refine (szCycleSet _ _ _ x0 1048576 _ HN0.out hb0 hbs0 (by omega) (by omega) (hr0.later HB0.out)).mono ?_
  rintro e w1 ⟨l0, hsd0, rfl, hbb⟩
  have HB1 := hide (HB0.out.trans (hbb.mono HB0.out.size))
  have Z1 := hide (hbb).size
  replace O_K0 := hide (O_K0.out.later hbb)
  clear hbb
  rcases hsd0 with rfl | ⟨p0, q0, u0, y0⟩
  · go_wp2_with fail
    go_ret
    exact ⟨rfl, HB1.out⟩
  · have U0 := hide u0
    have Y0 := hide y0
    clear u0 y0 hbs0
    have m0 : n0 ≤ 1048576 := by have := U0.out; have := HN0.out; omega
    have kbK00 := O_K0.out.cell 0 _ rfl
    go_wp2_with fail
    clear kbK00
    have hcc : (code != code) = false := by simp
    have T0 := hide (tot_bound x0 (by rw [HN0.out]; omega) (fun i hi => by have := Y0.out i hi; omega))
    have tq0 := T0.out
    refine (copyCycleSet _ _ _ x0 _ HN0.out m0 (fun i hi => by have := Y0.out i hi; omega) (hr0.later HB1.out)).mono ?_
    rintro e w2 ⟨A_s0, c_s0, rfl, hbb, hobj⟩
    have HB2 := hide (HB1.out.trans (hbb.mono HB1.out.size))
    have Z2 := hide (hbb).size
    replace O_K0 := hide (O_K0.out.later hbb)
    clear hbb
    have O_s0 := hide hobj
    clear hobj
    have kbK00 := O_K0.out.cell 0 _ rfl
    go_wp2_with fail
    clear kbK00
    refine (roS_any _ _ _ x0 zs code kz _ HN0.out m0 (fun i hi => by have := Y0.out i hi; omega) O_s0.out.rd HRES.out HK.out).mono ?_
    rintro e w3 ⟨A_W, c_W, rfl, hbb, hobj⟩
    replace hobj := hobj.obj
    have HB3 := hide (HB2.out.trans (hbb.mono HB2.out.size))
    have Z3 := hide (hbb).size
    replace O_K0 := hide (O_K0.out.later hbb)
    replace O_s0 := hide (O_s0.out.later hbb)
    clear hbb
    have O_W := hide hobj
    clear hobj
    have kbK00 := O_K0.out.cell 0 _ rfl
    go_wp2_with fail
    clear kbK00
    clear O_s0
    refine (copyCycleSet _ _ _ x0 _ HN0.out m0 (fun i hi => by have := Y0.out i hi; omega) (hr0.later HB3.out)).mono ?_
    rintro e w4 ⟨A_x0, c_x0, rfl, hbb, hobj⟩
    have HB4 := hide (HB3.out.trans (hbb.mono HB3.out.size))
    have Z4 := hide (hbb).size
    replace O_K0 := hide (O_K0.out.later hbb)
    replace O_W := hide (O_W.out.later hbb)
    clear hbb
    have O_x0 := hide hobj
    clear hobj
    have kbK00 := O_K0.out.cell 0 _ rfl
    have kcK00 := fun o => (O_K0.out.alloc o).cell 0 _ rfl
    go_wp2_with fail
    clear kbK00 kcK00
    refine calls_gen fun w5 hw5 => ?_
    have O_Bx0 : Hid (Blk w5 w4.heap.size 27 [.slice A_x0 n0 c_x0]) := hide (by rw [hw5]; exact Blk.new _ _ _)
    have hbx : Below w4.heap.size w4 w5 := by rw [hw5]; exact (Below.refl _ _).alloc (Nat.le_refl _) _
    have ZE : Hid (w5.heap.size = w4.heap.size + 1) := hide (by rw [hw5]; simp)
    clear hw5
    have HB5 := hide (HB4.out.trans (hbx.mono HB4.out.size))
    have Z5 := hide (hbx).size
    replace O_K0 := hide (O_K0.out.later hbx)
    replace O_W := hide (O_W.out.later hbx)
    replace O_x0 := hide (O_x0.out.later hbx)
    clear hbx
    replace Z5 := ZE
    clear ZE
    refine (roI_any _ _ _ x0 zs code kz _ HN0.out m0 (fun i hi => by have := Y0.out i hi; omega) O_x0.out.rd HRES.out HK.out).mono ?_
    rintro e w6 ⟨A_G, c_G, rfl, hbb, hobj⟩
    replace hobj := hobj.obj
    have HB6 := hide (HB5.out.trans (hbb.mono HB5.out.size))
    have Z6 := hide (hbb).size
    replace O_K0 := hide (O_K0.out.later hbb)
    replace O_W := hide (O_W.out.later hbb)
    replace O_x0 := hide (O_x0.out.later hbb)
    replace O_Bx0 := hide (O_Bx0.out.later hbb)
    clear hbb
    have O_G := hide hobj
    clear hobj
    have kbK00 := O_K0.out.cell 0 _ rfl
    have kbBx00 := O_Bx0.out.cell 0 _ rfl
    go_wp2_with fail
    clear kbK00 kbBx00
    refine (eq_any _ _ _ _ _ _ zs zs true _ HK.out HK.out (by omega) (by omega) O_G.out.rd O_W.out.rd (by simp)).mono ?_
    rintro e w7 ⟨rfl, hqq⟩
    have HB7 := hide (HB6.out.trans (hqq.below _))
    have Z7 := hide (hqq.below 0).size
    replace O_K0 := hide (O_K0.out.later (hqq.below _))
    replace O_W := hide (O_W.out.later (hqq.below _))
    replace O_x0 := hide (O_x0.out.later (hqq.below _))
    replace O_Bx0 := hide (O_Bx0.out.later (hqq.below _))
    replace O_G := hide (O_G.out.later (hqq.below _))
    clear hqq
    have kbK00 := O_K0.out.cell 0 _ rfl
    have kbBx00 := O_Bx0.out.cell 0 _ rfl
    go_wp2_with fail
    clear kbK00 kbBx00
    have kbK00 := O_K0.out.cell 0 _ rfl
    have kbBx00 := O_Bx0.out.cell 0 _ rfl
    have HKK : Hid True := hide trivial
    go_region_held3 (fun w' => w'.cell? ⟨w.heap.size, 0, none⟩ = some (.slice a0 n0 c0) ∧ w'.cell? ⟨w4.heap.size, 0, none⟩ = some (.slice A_x0 n0 c_x0)) (first | exact ⟨kbK00, kbBx00⟩ | go_keep) (first | (go_at_call 16; go_must (refine calls_gen fun w8 hw8 => ?_; have hbx : Below w7.heap.size w7 w8 := (by rw [hw8]; exact (Below.refl _ _).drew); clear hw8; have HB8 := hide (HB7.out.trans (hbx.mono HB7.out.size)); have Z8 := hide (hbx).size; replace O_K0 := hide (O_K0.out.later hbx); replace O_W := hide (O_W.out.later hbx); replace O_x0 := hide (O_x0.out.later hbx); replace O_Bx0 := hide (O_Bx0.out.later hbx); replace O_G := hide (O_G.out.later hbx); clear hbx; refine (copyCycleSet _ _ _ x0 _ HN0.out m0 (fun i hi => by have := Y0.out i hi; omega) (hr0.later HB8.out)).mono ?_; rintro e w9 ⟨A_y0, c_y0, rfl, hbb, hobj⟩; have HB9 := hide (HB8.out.trans (hbb.mono HB8.out.size)); have Z9 := hide (hbb).size; replace O_K0 := hide (O_K0.out.later hbb); replace O_W := hide (O_W.out.later hbb); replace O_x0 := hide (O_x0.out.later hbb); replace O_Bx0 := hide (O_Bx0.out.later hbb); replace O_G := hide (O_G.out.later hbb); clear hbb; have O_y0 := hide hobj; clear hobj; have kbK00 := O_K0.out.cell 0 _ rfl; have kbBx00 := O_Bx0.out.cell 0 _ rfl)) | (go_at_call 18; go_must (refine (eqCycleSet _ _ _ _ _ _ x0 x0 true _ HN0.out HN0.out m0 m0 (fun i hi => by have := Y0.out i hi; omega) (fun i hi => by have := Y0.out i hi; omega) O_x0.out.rd O_y0.out.rd (by simp)).mono ?_; rintro e w10 ⟨rfl, hbb⟩; have HB10 := hide (HB9.out.trans (hbb.mono HB9.out.size)); have Z10 := hide (hbb).size; replace O_K0 := hide (O_K0.out.later hbb); replace O_W := hide (O_W.out.later hbb); replace O_x0 := hide (O_x0.out.later hbb); replace O_Bx0 := hide (O_Bx0.out.later hbb); replace O_G := hide (O_G.out.later hbb); replace O_y0 := hide (O_y0.out.later hbb); clear hbb; have kbK00 := O_K0.out.cell 0 _ rfl; have kbBx00 := O_Bx0.out.cell 0 _ rfl)))
    clear HKK kbK00 kbBx00
    have kbK00 := O_K0.out.cell 0 _ rfl
    have kbBx00 := O_Bx0.out.cell 0 _ rfl
    go_wp2_with fail
    clear kbK00 kbBx00
    clear O_y0
    refine (markCycleSet 31 2 (by decide) _ _ _ _ _ _ x0 _ HN0.out (by omega) (fun i hi => by have := Y0.out i hi; omega) (by have tx := T0.out; omega) (by have tt0 := T0.out; omega) (by have tt0 := T0.out; omega) O_x0.out).mono ?_
    rintro e w11 ⟨rfl, ht, hobj⟩
    have HB11 := hide (ht.below HB10.out HB10.out.size (HB3.out.size))
    have Z11 := hide ht.size
    replace O_K0 := hide (O_K0.out.touch ht (.inl (by have zb := ZB.out; have z1 := Z1.out; have z2 := Z2.out; have z3 := Z3.out; omega)))
    replace O_W := hide (O_W.out.far ht (.inl (by omega)))
    replace O_Bx0 := hide (O_Bx0.out.touch ht (.inr (by omega)))
    replace O_G := hide (O_G.out.far ht (.inr (by have z5 := Z5.out; omega)))
    replace O_x0 := hide hobj
    clear ht hobj
    have kbK00 := O_K0.out.cell 0 _ rfl
    have kbBx00 := O_Bx0.out.cell 0 _ rfl
    go_wp2_with fail
    clear kbK00 kbBx00
    refine (eq_any _ _ _ _ _ _ zs zs true _ HK.out HK.out (by omega) (by omega) O_G.out.rd O_W.out.rd (by simp)).mono ?_
    rintro e w12 ⟨rfl, hqq⟩
    have HB12 := hide (HB11.out.trans (hqq.below _))
    have Z12 := hide (hqq.below 0).size
    replace O_K0 := hide (O_K0.out.later (hqq.below _))
    replace O_W := hide (O_W.out.later (hqq.below _))
    replace O_x0 := hide (O_x0.out.later (hqq.below _))
    replace O_Bx0 := hide (O_Bx0.out.later (hqq.below _))
    replace O_G := hide (O_G.out.later (hqq.below _))
    clear hqq
    have kbK00 := O_K0.out.cell 0 _ rfl
    have kbBx00 := O_Bx0.out.cell 0 _ rfl
    go_wp2_with fail
    clear kbK00 kbBx00
    clear O_x0
    refine (markR _ _ _ _ _ _ _ zs _ HK.out (by omega) (by have tt0 := T0.out; omega) (by have tt0 := T0.out; omega) O_G.out).mono ?_
    rintro e w13 ⟨rfl, ht, hobj⟩
    have HB13 := hide (ht.below HB12.out HB12.out.size (HB5.out.size))
    have Z13 := hide ht.size
    replace O_K0 := hide (O_K0.out.touch ht (.inl (by have zb := ZB.out; have z1 := Z1.out; have z2 := Z2.out; have z3 := Z3.out; have z4 := Z4.out; have z5 := Z5.out; omega)))
    replace O_W := hide (O_W.out.far ht (.inl (by have z4 := Z4.out; have z5 := Z5.out; omega)))
    replace O_Bx0 := hide (O_Bx0.out.touch ht (.inl (by have z5 := Z5.out; omega)))
    replace O_G := hide hobj
    clear ht hobj
    have kbK00 := O_K0.out.cell 0 _ rfl
    have kbBx00 := O_Bx0.out.cell 0 _ rfl
    go_wp2_with fail
    clear kbK00 kbBx00
    refine (held_any _ _ _ _ _ (by omega) (by omega) (by omega) O_G.out.rd).mono ?_
    rintro e w14 ⟨rfl, hqq⟩
    have HB14 := hide (HB13.out.trans (hqq.below _))
    have Z14 := hide (hqq.below 0).size
    replace O_K0 := hide (O_K0.out.later (hqq.below _))
    replace O_W := hide (O_W.out.later (hqq.below _))
    replace O_Bx0 := hide (O_Bx0.out.later (hqq.below _))
    replace O_G := hide (O_G.out.later (hqq.below _))
    clear hqq
    have kbK00 := O_K0.out.cell 0 _ rfl
    have kbBx00 := O_Bx0.out.cell 0 _ rfl
    go_wp2_with fail
    clear kbK00 kbBx00
    refine (copyCycleSet _ _ _ x0 _ HN0.out m0 (fun i hi => by have := Y0.out i hi; omega) (hr0.later HB14.out)).mono ?_
    rintro e w15 ⟨A_h0, c_h0, rfl, hbb, hobj⟩
    have HB15 := hide (HB14.out.trans (hbb.mono HB14.out.size))
    have Z15 := hide (hbb).size
    replace O_K0 := hide (O_K0.out.later hbb)
    replace O_W := hide (O_W.out.later hbb)
    replace O_Bx0 := hide (O_Bx0.out.later hbb)
    replace O_G := hide (O_G.out.later hbb)
    clear hbb
    have O_h0 := hide hobj
    clear hobj
    have kbK00 := O_K0.out.cell 0 _ rfl
    have kbBx00 := O_Bx0.out.cell 0 _ rfl
    go_wp2_with fail
    clear kbK00 kbBx00
    refine (roI_any _ _ _ x0 zs code kz _ HN0.out m0 (fun i hi => by have := Y0.out i hi; omega) O_h0.out.rd HRES.out HK.out).mono ?_
    rintro e w16 ⟨A_H, c_H, rfl, hbb, hobj⟩
    replace hobj := hobj.obj
    have HB16 := hide (HB15.out.trans (hbb.mono HB15.out.size))
    have Z16 := hide (hbb).size
    replace O_K0 := hide (O_K0.out.later hbb)
    replace O_W := hide (O_W.out.later hbb)
    replace O_Bx0 := hide (O_Bx0.out.later hbb)
    replace O_G := hide (O_G.out.later hbb)
    replace O_h0 := hide (O_h0.out.later hbb)
    clear hbb
    have O_H := hide hobj
    clear hobj
    have kbK00 := O_K0.out.cell 0 _ rfl
    have kbBx00 := O_Bx0.out.cell 0 _ rfl
    go_wp2_with fail
    clear kbK00 kbBx00
    clear O_h0
    refine (eq_any _ _ _ _ _ _ zs zs true _ HK.out HK.out (by omega) (by omega) O_H.out.rd O_W.out.rd (by simp)).mono ?_
    rintro e w17 ⟨rfl, hqq⟩
    have HB17 := hide (HB16.out.trans (hqq.below _))
    have Z17 := hide (hqq.below 0).size
    replace O_K0 := hide (O_K0.out.later (hqq.below _))
    replace O_W := hide (O_W.out.later (hqq.below _))
    replace O_Bx0 := hide (O_Bx0.out.later (hqq.below _))
    replace O_G := hide (O_G.out.later (hqq.below _))
    replace O_H := hide (O_H.out.later (hqq.below _))
    clear hqq
    have kbK00 := O_K0.out.cell 0 _ rfl
    have kbBx00 := O_Bx0.out.cell 0 _ rfl
    go_wp2_with fail
    clear kbK00 kbBx00
    refine (held_any _ _ _ _ _ (by omega) (by omega) (by omega) O_G.out.rd).mono ?_
    rintro e w18 ⟨rfl, hqq⟩
    have HB18 := hide (HB17.out.trans (hqq.below _))
    have Z18 := hide (hqq.below 0).size
    replace O_K0 := hide (O_K0.out.later (hqq.below _))
    replace O_W := hide (O_W.out.later (hqq.below _))
    replace O_Bx0 := hide (O_Bx0.out.later (hqq.below _))
    replace O_G := hide (O_G.out.later (hqq.below _))
    replace O_H := hide (O_H.out.later (hqq.below _))
    clear hqq
    have kbK00 := O_K0.out.cell 0 _ rfl
    have kbBx00 := O_Bx0.out.cell 0 _ rfl
    go_wp2_with fail
    clear kbK00 kbBx00
    go_ret
    exact ⟨rfl, HB18.out⟩
end Go.Proofs.Ythkhkehpmolfaaa
