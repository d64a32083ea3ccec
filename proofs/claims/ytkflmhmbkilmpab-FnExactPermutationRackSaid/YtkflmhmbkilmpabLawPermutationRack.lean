import Derived.Test.YtkflmhmbkilmpabKL
import Derived.Test.YtkflmhmbkilmpabHeld
import Derived.Test.YtkflmhmbkilmpabCopyR
import Derived.Test.YtkflmhmbkilmpabEqI
import Derived.Test.YtkflmhmbkilmpabPrwI
import Derived.Test.YtkflmhmbkilmpabPrwS
namespace Go.Proofs.Ytkflmhmbkilmpab
open Go Go.RowKit
set_option maxHeartbeats 4000000

set_option maxRecDepth 20000 in
theorem law_PermutationRack (a0 : Option Addr) (n0 c0 : Nat) (x0 : List Int) (w : World) (hn0 : x0.length = n0) (hb0 : n0 ≤ 9223372036854775807) (hr0 : Rd w a0 x0) :
    Calls Try.prog 9 #[.slice a0 n0 c0] w fun e w' => e = .returned (.bool true) ∧ Below w.heap.size w w' := by
  have HN0 := hide hn0
  clear hn0
  obtain ⟨zs, code, hres, hzb, hzr⟩ := PrRes.ex x0
  have HRES := hide hres
  clear hres
  obtain ⟨kz, hkz⟩ : ∃ kz, zs.length = kz := ⟨_, rfl⟩
  rw [hkz] at hzb
  have HK := hide hkz
  clear hkz
  have HZR := hide hzr
  clear hzr
  by_cases m0 : n0 ≤ 1048576
  · have M0 := hide m0
    clear M0
    go_enter Try.func9, Try.ntmps9
    go_wp2_with fail
    refine calls_gen fun wb hwb => ?_
    have HB0 : Hid (Below w.heap.size w wb) := hide (by rw [hwb]; first | exact Below.refl _ _ | exact (Below.refl _ _).drew)
    have ZB : Hid (wb.heap.size = w.heap.size) := hide (by first | (rw [hwb]; done) | (rw [hwb]; simp))
    clear hwb
    have hcc : (code != code) = false := by simp
    have TZ := hide (tot_bound zs (by rw [HK.out]; omega) (fun i hi => by have := HZR.out i hi; omega))
    have tz0 := TZ.out
    refine (copyR _ _ _ x0 _ HN0.out m0 (hr0.later HB0.out)).mono ?_
    rintro e w1 ⟨A_s0, rfl, hbb, hobj⟩
    have HB1 := hide (HB0.out.trans (hbb.mono HB0.out.size))
    have Z1 := hide (hbb).size
    clear hbb
    have O_s0 := hide hobj
    clear hobj
    go_wp2_with fail
    refine (prwS _ _ _ x0 zs code kz _ HN0.out m0 O_s0.out.rd HRES.out HK.out).mono ?_
    rintro e w2 ⟨A_W, c_W, rfl, hbb, hobj⟩
    have HB2 := hide (HB1.out.trans (hbb.mono HB1.out.size))
    have Z2 := hide (hbb).size
    replace O_s0 := hide (O_s0.out.later hbb)
    clear hbb
    have O_W := hide hobj
    clear hobj
    go_wp2_with fail
    refine calls_gen fun w3 hw3 => ?_
    have O_BW : Hid (Blk w3 w2.heap.size 26 [.slice A_W kz c_W]) := hide (by rw [hw3]; exact Blk.new _ _ _)
    have hbx : Below w2.heap.size w2 w3 := by rw [hw3]; exact (Below.refl _ _).alloc (Nat.le_refl _) _
    have ZE : Hid (w3.heap.size = w2.heap.size + 1) := hide (by rw [hw3]; simp)
    clear hw3
    have HB3 := hide (HB2.out.trans (hbx.mono HB2.out.size))
    have Z3 := hide (hbx).size
    replace O_s0 := hide (O_s0.out.later hbx)
    replace O_W := hide (O_W.out.later hbx)
    clear hbx
    replace Z3 := ZE
    clear ZE
    clear O_s0
    refine (copyR _ _ _ x0 _ HN0.out m0 (hr0.later HB3.out)).mono ?_
    rintro e w4 ⟨A_x0, rfl, hbb, hobj⟩
    have HB4 := hide (HB3.out.trans (hbb.mono HB3.out.size))
    have Z4 := hide (hbb).size
    replace O_W := hide (O_W.out.later hbb)
    replace O_BW := hide (O_BW.out.later hbb)
    clear hbb
    have O_x0 := hide hobj
    clear hobj
    have kbBW0 := O_BW.out.cell 0 _ rfl
    go_wp2_with fail
    clear kbBW0
    refine (prwI _ _ _ x0 zs code kz _ HN0.out m0 O_x0.out.rd HRES.out HK.out).mono ?_
    rintro e w5 ⟨A_G, c_G, rfl, hbb, hobj⟩
    have HB5 := hide (HB4.out.trans (hbb.mono HB4.out.size))
    have Z5 := hide (hbb).size
    replace O_W := hide (O_W.out.later hbb)
    replace O_BW := hide (O_BW.out.later hbb)
    replace O_x0 := hide (O_x0.out.later hbb)
    clear hbb
    have O_G := hide hobj
    clear hobj
    have kbBW0 := O_BW.out.cell 0 _ rfl
    have kcBW0 := fun o => (O_BW.out.alloc o).cell 0 _ rfl
    go_wp2_with fail
    clear kbBW0 kcBW0
    refine calls_gen fun w6 hw6 => ?_
    have O_BG : Hid (Blk w6 w5.heap.size 26 [.slice A_G kz c_G]) := hide (by rw [hw6]; exact Blk.new _ _ _)
    have hbx : Below w5.heap.size w5 w6 := by rw [hw6]; exact (Below.refl _ _).alloc (Nat.le_refl _) _
    have ZE : Hid (w6.heap.size = w5.heap.size + 1) := hide (by rw [hw6]; simp)
    clear hw6
    have HB6 := hide (HB5.out.trans (hbx.mono HB5.out.size))
    have Z6 := hide (hbx).size
    replace O_W := hide (O_W.out.later hbx)
    replace O_BW := hide (O_BW.out.later hbx)
    replace O_x0 := hide (O_x0.out.later hbx)
    replace O_G := hide (O_G.out.later hbx)
    clear hbx
    replace Z6 := ZE
    clear ZE
    refine (eqK_any _ _ _ _ _ _ zs zs true _ HK.out HK.out (by omega) (by omega) (fun i hi => by have := HZR.out i hi; omega) (fun i hi => by have := HZR.out i hi; omega) O_G.out.rd O_W.out.rd (by simp)).mono ?_
    rintro e w7 ⟨rfl, hbb⟩
    have HB7 := hide (HB6.out.trans (hbb.mono HB6.out.size))
    have Z7 := hide (hbb).size
    replace O_W := hide (O_W.out.later hbb)
    replace O_BW := hide (O_BW.out.later hbb)
    replace O_x0 := hide (O_x0.out.later hbb)
    replace O_G := hide (O_G.out.later hbb)
    replace O_BG := hide (O_BG.out.later hbb)
    clear hbb
    have kbBW0 := O_BW.out.cell 0 _ rfl
    have kbBG0 := O_BG.out.cell 0 _ rfl
    go_wp2_with fail
    clear kbBW0 kbBG0
    refine (copyR _ _ _ x0 _ HN0.out m0 (hr0.later HB7.out)).mono ?_
    rintro e w8 ⟨A_y0, rfl, hbb, hobj⟩
    have HB8 := hide (HB7.out.trans (hbb.mono HB7.out.size))
    have Z8 := hide (hbb).size
    replace O_W := hide (O_W.out.later hbb)
    replace O_BW := hide (O_BW.out.later hbb)
    replace O_x0 := hide (O_x0.out.later hbb)
    replace O_G := hide (O_G.out.later hbb)
    replace O_BG := hide (O_BG.out.later hbb)
    clear hbb
    have O_y0 := hide hobj
    clear hobj
    have kbBW0 := O_BW.out.cell 0 _ rfl
    have kbBG0 := O_BG.out.cell 0 _ rfl
    go_wp2_with fail
    clear kbBW0 kbBG0
    refine (eq_any _ _ _ _ _ _ x0 x0 true _ HN0.out HN0.out (by omega) (by omega) O_x0.out.rd O_y0.out.rd (by simp)).mono ?_
    rintro e w9 ⟨rfl, hqq⟩
    have HB9 := hide (HB8.out.trans (hqq.below _))
    have Z9 := hide (hqq.below 0).size
    replace O_W := hide (O_W.out.later (hqq.below _))
    replace O_BW := hide (O_BW.out.later (hqq.below _))
    replace O_x0 := hide (O_x0.out.later (hqq.below _))
    replace O_G := hide (O_G.out.later (hqq.below _))
    replace O_BG := hide (O_BG.out.later (hqq.below _))
    replace O_y0 := hide (O_y0.out.later (hqq.below _))
    clear hqq
    have kbBW0 := O_BW.out.cell 0 _ rfl
    have kbBG0 := O_BG.out.cell 0 _ rfl
    go_wp2_with fail
    clear kbBW0 kbBG0
    clear O_y0
    refine (markR _ _ _ _ _ _ _ x0 _ HN0.out (by omega) (by omega) (by omega) O_x0.out).mono ?_
    rintro e w10 ⟨rfl, ht, hobj⟩
    have HB10 := hide (ht.below HB9.out HB9.out.size (HB3.out.size))
    have Z10 := hide ht.size
    replace O_W := hide (O_W.out.far ht (.inl (by have z3 := Z3.out; omega)))
    replace O_BW := hide (O_BW.out.touch ht (.inl (by have z3 := Z3.out; omega)))
    replace O_G := hide (O_G.out.far ht (.inr (by omega)))
    replace O_BG := hide (O_BG.out.touch ht (.inr (by have z5 := Z5.out; omega)))
    replace O_x0 := hide hobj
    clear ht hobj
    have kbBW0 := O_BW.out.cell 0 _ rfl
    have kbBG0 := O_BG.out.cell 0 _ rfl
    go_wp2_with fail
    clear kbBW0 kbBG0
    refine (eqK_any _ _ _ _ _ _ zs zs true _ HK.out HK.out (by omega) (by omega) (fun i hi => by have := HZR.out i hi; omega) (fun i hi => by have := HZR.out i hi; omega) O_G.out.rd O_W.out.rd (by simp)).mono ?_
    rintro e w11 ⟨rfl, hbb⟩
    have HB11 := hide (HB10.out.trans (hbb.mono HB10.out.size))
    have Z11 := hide (hbb).size
    replace O_W := hide (O_W.out.later hbb)
    replace O_BW := hide (O_BW.out.later hbb)
    replace O_x0 := hide (O_x0.out.later hbb)
    replace O_G := hide (O_G.out.later hbb)
    replace O_BG := hide (O_BG.out.later hbb)
    clear hbb
    have kbBW0 := O_BW.out.cell 0 _ rfl
    have kbBG0 := O_BG.out.cell 0 _ rfl
    go_wp2_with fail
    clear kbBW0 kbBG0
    clear O_x0
    refine (markK 33 2 (by decide) _ _ _ _ _ _ zs _ HK.out (by omega) (fun i hi => by have := HZR.out i hi; omega) (by have tx := TZ.out; omega) (by omega) (by omega) O_G.out).mono ?_
    rintro e w12 ⟨rfl, ht, hobj⟩
    have HB12 := hide (ht.below HB11.out HB11.out.size (HB4.out.size))
    have Z12 := hide ht.size
    replace O_W := hide (O_W.out.far ht (.inl (by have z3 := Z3.out; have z4 := Z4.out; omega)))
    replace O_BW := hide (O_BW.out.touch ht (.inl (by have z3 := Z3.out; have z4 := Z4.out; omega)))
    replace O_BG := hide (O_BG.out.touch ht (.inr (by omega)))
    replace O_G := hide hobj
    clear ht hobj
    have kbBW0 := O_BW.out.cell 0 _ rfl
    have kbBG0 := O_BG.out.cell 0 _ rfl
    go_wp2_with fail
    clear kbBW0 kbBG0
    refine (heldK _ _ _ _ zs _ HK.out (by omega) (fun i hi => by have := HZR.out i hi; omega) (by have tx := TZ.out; omega) (by omega) (by omega) O_G.out.rd).mono ?_
    rintro e w13 ⟨rfl, hbb⟩
    have HB13 := hide (HB12.out.trans (hbb.mono HB12.out.size))
    have Z13 := hide (hbb).size
    replace O_W := hide (O_W.out.later hbb)
    replace O_BW := hide (O_BW.out.later hbb)
    replace O_G := hide (O_G.out.later hbb)
    replace O_BG := hide (O_BG.out.later hbb)
    clear hbb
    have kbBW0 := O_BW.out.cell 0 _ rfl
    have kbBG0 := O_BG.out.cell 0 _ rfl
    go_wp2_with fail
    clear kbBW0 kbBG0
    refine (copyR _ _ _ x0 _ HN0.out m0 (hr0.later HB13.out)).mono ?_
    rintro e w14 ⟨A_h0, rfl, hbb, hobj⟩
    have HB14 := hide (HB13.out.trans (hbb.mono HB13.out.size))
    have Z14 := hide (hbb).size
    replace O_W := hide (O_W.out.later hbb)
    replace O_BW := hide (O_BW.out.later hbb)
    replace O_G := hide (O_G.out.later hbb)
    replace O_BG := hide (O_BG.out.later hbb)
    clear hbb
    have O_h0 := hide hobj
    clear hobj
    have kbBW0 := O_BW.out.cell 0 _ rfl
    have kbBG0 := O_BG.out.cell 0 _ rfl
    go_wp2_with fail
    clear kbBW0 kbBG0
    refine (prwI _ _ _ x0 zs code kz _ HN0.out m0 O_h0.out.rd HRES.out HK.out).mono ?_
    rintro e w15 ⟨A_H, c_H, rfl, hbb, hobj⟩
    have HB15 := hide (HB14.out.trans (hbb.mono HB14.out.size))
    have Z15 := hide (hbb).size
    replace O_W := hide (O_W.out.later hbb)
    replace O_BW := hide (O_BW.out.later hbb)
    replace O_G := hide (O_G.out.later hbb)
    replace O_BG := hide (O_BG.out.later hbb)
    replace O_h0 := hide (O_h0.out.later hbb)
    clear hbb
    have O_H := hide hobj
    clear hobj
    have kbBW0 := O_BW.out.cell 0 _ rfl
    have kcBW0 := fun o => (O_BW.out.alloc o).cell 0 _ rfl
    have kbBG0 := O_BG.out.cell 0 _ rfl
    have kcBG0 := fun o => (O_BG.out.alloc o).cell 0 _ rfl
    go_wp2_with fail
    clear kbBW0 kcBW0 kbBG0 kcBG0
    refine calls_gen fun w16 hw16 => ?_
    have O_BH : Hid (Blk w16 w15.heap.size 26 [.slice A_H kz c_H]) := hide (by rw [hw16]; exact Blk.new _ _ _)
    have hbx : Below w15.heap.size w15 w16 := by rw [hw16]; exact (Below.refl _ _).alloc (Nat.le_refl _) _
    have ZE : Hid (w16.heap.size = w15.heap.size + 1) := hide (by rw [hw16]; simp)
    clear hw16
    have HB16 := hide (HB15.out.trans (hbx.mono HB15.out.size))
    have Z16 := hide (hbx).size
    replace O_W := hide (O_W.out.later hbx)
    replace O_BW := hide (O_BW.out.later hbx)
    replace O_G := hide (O_G.out.later hbx)
    replace O_BG := hide (O_BG.out.later hbx)
    replace O_h0 := hide (O_h0.out.later hbx)
    replace O_H := hide (O_H.out.later hbx)
    clear hbx
    replace Z16 := ZE
    clear ZE
    clear O_h0
    refine (eqK_any _ _ _ _ _ _ zs zs true _ HK.out HK.out (by omega) (by omega) (fun i hi => by have := HZR.out i hi; omega) (fun i hi => by have := HZR.out i hi; omega) O_H.out.rd O_W.out.rd (by simp)).mono ?_
    rintro e w17 ⟨rfl, hbb⟩
    have HB17 := hide (HB16.out.trans (hbb.mono HB16.out.size))
    have Z17 := hide (hbb).size
    replace O_W := hide (O_W.out.later hbb)
    replace O_BW := hide (O_BW.out.later hbb)
    replace O_G := hide (O_G.out.later hbb)
    replace O_BG := hide (O_BG.out.later hbb)
    replace O_H := hide (O_H.out.later hbb)
    replace O_BH := hide (O_BH.out.later hbb)
    clear hbb
    have kbBW0 := O_BW.out.cell 0 _ rfl
    have kbBG0 := O_BG.out.cell 0 _ rfl
    have kbBH0 := O_BH.out.cell 0 _ rfl
    go_wp2_with fail
    clear kbBW0 kbBG0 kbBH0
    refine (heldK _ _ _ _ zs _ HK.out (by omega) (fun i hi => by have := HZR.out i hi; omega) (by have tx := TZ.out; omega) (by omega) (by omega) O_G.out.rd).mono ?_
    rintro e w18 ⟨rfl, hbb⟩
    have HB18 := hide (HB17.out.trans (hbb.mono HB17.out.size))
    have Z18 := hide (hbb).size
    replace O_W := hide (O_W.out.later hbb)
    replace O_BW := hide (O_BW.out.later hbb)
    replace O_G := hide (O_G.out.later hbb)
    replace O_BG := hide (O_BG.out.later hbb)
    replace O_H := hide (O_H.out.later hbb)
    replace O_BH := hide (O_BH.out.later hbb)
    clear hbb
    have kbBW0 := O_BW.out.cell 0 _ rfl
    have kbBG0 := O_BG.out.cell 0 _ rfl
    have kbBH0 := O_BH.out.cell 0 _ rfl
    go_wp2_with fail
    clear kbBW0 kbBG0 kbBH0
    go_ret
    exact ⟨rfl, HB18.out⟩
  · go_enter Try.func9, Try.ntmps9
    go_wp2_with fail
    go_ret
    exact ⟨rfl, by first | exact Below.refl _ _ | exact (Below.refl _ _).alloc (Nat.le_refl _) _⟩
end Go.Proofs.Ytkflmhmbkilmpab
