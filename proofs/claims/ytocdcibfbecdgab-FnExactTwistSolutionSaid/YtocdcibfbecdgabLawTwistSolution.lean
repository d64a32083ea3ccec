import Derived.Test.YtocdcibfbecdgabSolL
import Derived.Test.YtocdcibfbecdgabCopyR
import Derived.Test.YtocdcibfbecdgabEqI
import Derived.Test.YtocdcibfbecdgabTwWI
import Derived.Test.YtocdcibfbecdgabTwWS
namespace Go.Proofs.Ytocdcibfbecdgab
open Go Go.RowKit
set_option maxHeartbeats 4000000

theorem law_TwistSolution (a0 : Option Addr) (n0 c0 : Nat) (x0 : List Int) (a1 : Option Addr) (n1 c1 : Nat) (x1 : List Int) (w : World) (hn0 : x0.length = n0) (hb0 : n0 ≤ 9223372036854775807) (hr0 : Rd w a0 x0) (hn1 : x1.length = n1) (hb1 : n1 ≤ 9223372036854775807) (hr1 : Rd w a1 x1) :
    Calls Try.prog 5 #[.slice a0 n0 c0, .slice a1 n1 c1] w fun e w' => e = .returned (.bool true) ∧ Below w.heap.size w w' := by
  have HN0 := hide hn0
  clear hn0
  have HN1 := hide hn1
  clear hn1
  obtain ⟨zf, zg, code, hres, hzb⟩ := TwRes.ex x0 x1
  have HRES := hide hres
  clear hres
  obtain ⟨kz, hkz⟩ : ∃ kz, zf.length = kz := ⟨_, rfl⟩
  obtain ⟨kw, hkw⟩ : ∃ kw, zg.length = kw := ⟨_, rfl⟩
  rw [hkz, hkw] at hzb
  have HG := hide hzb
  clear hkz hkw hzb
  by_cases m0 : n0 ≤ 1048576
  · have M0 := hide m0
    clear M0
    by_cases m1 : n1 ≤ 1048576
    · have M1 := hide m1
      clear M1
      go_enter Try.func5, Try.ntmps5
      go_wp2_with fail
      have HB0 : Hid (Below w.heap.size w w) := hide (Below.refl _ _)
      have hcc : (code != code) = false := by simp
      have TZ := hide HG.out.tots
      have tz0 := TZ.out
      refine (copyR _ _ _ x0 _ HN0.out m0 (hr0.later HB0.out)).mono ?_
      rintro e w1 ⟨A_s0, rfl, hbb, hobj⟩
      have HB1 := hide (HB0.out.trans (hbb.mono HB0.out.size))
      have Z1 := hide (hbb).size
      clear hbb
      have O_s0 := hide hobj
      clear hobj
      go_wp2_with fail
      refine (copyR _ _ _ x1 _ HN1.out m1 (hr1.later HB1.out)).mono ?_
      rintro e w2 ⟨A_s1, rfl, hbb, hobj⟩
      have HB2 := hide (HB1.out.trans (hbb.mono HB1.out.size))
      have Z2 := hide (hbb).size
      replace O_s0 := hide (O_s0.out.later hbb)
      clear hbb
      have O_s1 := hide hobj
      clear hobj
      go_wp2_with fail
      refine (twWS_any _ _ _ x0 _ _ _ x1 zf zg code kz kw _ HN0.out m0 O_s0.out.rd HN1.out m1 O_s1.out.rd HRES.out HG.out).mono ?_
      rintro e w3 ⟨A_W, c_W, B_W, d_W, rfl, hbb, hobj⟩
      have HB3 := hide (HB2.out.trans (hbb.mono HB2.out.size))
      have Z3 := hide (hbb).size
      replace O_s0 := hide (O_s0.out.later hbb)
      replace O_s1 := hide (O_s1.out.later hbb)
      clear hbb
      have O_W := hide hobj
      clear hobj
      go_wp2_with fail
      clear O_s0
      clear O_s1
      refine calls_gen fun w4 hw4 => ?_
      have O_BW : Hid (Blk w4 w3.heap.size 26 [.slice A_W kz c_W, .slice B_W kw d_W]) := hide (by rw [hw4]; exact Blk.new _ _ _)
      have hbx : Below w3.heap.size w3 w4 := by rw [hw4]; exact (Below.refl _ _).alloc (Nat.le_refl _) _
      have ZE : Hid (w4.heap.size = w3.heap.size + 1) := hide (by rw [hw4]; simp)
      clear hw4
      have HB4 := hide (HB3.out.trans (hbx.mono HB3.out.size))
      have Z4 := hide (hbx).size
      replace O_W := hide (O_W.out.later hbx)
      clear hbx
      replace Z4 := ZE
      clear ZE
      refine (copyR _ _ _ x0 _ HN0.out m0 (hr0.later HB4.out)).mono ?_
      rintro e w5 ⟨A_x0, rfl, hbb, hobj⟩
      have HB5 := hide (HB4.out.trans (hbb.mono HB4.out.size))
      have Z5 := hide (hbb).size
      replace O_W := hide (O_W.out.later hbb)
      replace O_BW := hide (O_BW.out.later hbb)
      clear hbb
      have O_x0 := hide hobj
      clear hobj
      have kbBW0 := O_BW.out.cell 0 _ rfl
      have kbBW1 := O_BW.out.cell 1 _ rfl
      go_wp2_with fail
      clear kbBW0 kbBW1
      refine (copyR _ _ _ x1 _ HN1.out m1 (hr1.later HB5.out)).mono ?_
      rintro e w6 ⟨A_x1, rfl, hbb, hobj⟩
      have HB6 := hide (HB5.out.trans (hbb.mono HB5.out.size))
      have Z6 := hide (hbb).size
      replace O_W := hide (O_W.out.later hbb)
      replace O_BW := hide (O_BW.out.later hbb)
      replace O_x0 := hide (O_x0.out.later hbb)
      clear hbb
      have O_x1 := hide hobj
      clear hobj
      have kbBW0 := O_BW.out.cell 0 _ rfl
      have kbBW1 := O_BW.out.cell 1 _ rfl
      go_wp2_with fail
      clear kbBW0 kbBW1
      refine (twWI_any _ _ _ x0 _ _ _ x1 zf zg code kz kw _ HN0.out m0 O_x0.out.rd HN1.out m1 O_x1.out.rd HRES.out HG.out).mono ?_
      rintro e w7 ⟨A_G, c_G, B_G, d_G, rfl, hbb, hobj⟩
      have HB7 := hide (HB6.out.trans (hbb.mono HB6.out.size))
      have Z7 := hide (hbb).size
      replace O_W := hide (O_W.out.later hbb)
      replace O_BW := hide (O_BW.out.later hbb)
      replace O_x0 := hide (O_x0.out.later hbb)
      replace O_x1 := hide (O_x1.out.later hbb)
      clear hbb
      have O_G := hide hobj
      clear hobj
      have kbBW0 := O_BW.out.cell 0 _ rfl
      have kcBW0 := fun o => (O_BW.out.alloc o).cell 0 _ rfl
      have kbBW1 := O_BW.out.cell 1 _ rfl
      have kcBW1 := fun o => (O_BW.out.alloc o).cell 1 _ rfl
      go_wp2_with fail
      clear kbBW0 kcBW0 kbBW1 kcBW1
      refine calls_gen fun w8 hw8 => ?_
      have O_BG : Hid (Blk w8 w7.heap.size 26 [.slice A_G kz c_G, .slice B_G kw d_G]) := hide (by rw [hw8]; exact Blk.new _ _ _)
      have hbx : Below w7.heap.size w7 w8 := by rw [hw8]; exact (Below.refl _ _).alloc (Nat.le_refl _) _
      have ZE : Hid (w8.heap.size = w7.heap.size + 1) := hide (by rw [hw8]; simp)
      clear hw8
      have HB8 := hide (HB7.out.trans (hbx.mono HB7.out.size))
      have Z8 := hide (hbx).size
      replace O_W := hide (O_W.out.later hbx)
      replace O_BW := hide (O_BW.out.later hbx)
      replace O_x0 := hide (O_x0.out.later hbx)
      replace O_x1 := hide (O_x1.out.later hbx)
      replace O_G := hide (O_G.out.later hbx)
      clear hbx
      replace Z8 := ZE
      clear ZE
      refine (eqZ_any _ _ _ zf _ _ _ zg _ _ _ zf _ _ _ zg true _ ⟨HG.out, O_G.out.fst, O_G.out.snd⟩ ⟨HG.out, O_W.out.fst, O_W.out.snd⟩ (by simp)).mono ?_
      rintro e w9 ⟨rfl, hbb⟩
      have HB9 := hide (HB8.out.trans (hbb.mono HB8.out.size))
      have Z9 := hide (hbb).size
      replace O_W := hide (O_W.out.later hbb)
      replace O_BW := hide (O_BW.out.later hbb)
      replace O_x0 := hide (O_x0.out.later hbb)
      replace O_x1 := hide (O_x1.out.later hbb)
      replace O_G := hide (O_G.out.later hbb)
      replace O_BG := hide (O_BG.out.later hbb)
      clear hbb
      have kbBW0 := O_BW.out.cell 0 _ rfl
      have kbBW1 := O_BW.out.cell 1 _ rfl
      have kbBG0 := O_BG.out.cell 0 _ rfl
      have kbBG1 := O_BG.out.cell 1 _ rfl
      go_wp2_with fail
      clear kbBW0 kbBW1 kbBG0 kbBG1
      refine (copyR _ _ _ x0 _ HN0.out m0 (hr0.later HB9.out)).mono ?_
      rintro e w10 ⟨A_y0, rfl, hbb, hobj⟩
      have HB10 := hide (HB9.out.trans (hbb.mono HB9.out.size))
      have Z10 := hide (hbb).size
      replace O_W := hide (O_W.out.later hbb)
      replace O_BW := hide (O_BW.out.later hbb)
      replace O_x0 := hide (O_x0.out.later hbb)
      replace O_x1 := hide (O_x1.out.later hbb)
      replace O_G := hide (O_G.out.later hbb)
      replace O_BG := hide (O_BG.out.later hbb)
      clear hbb
      have O_y0 := hide hobj
      clear hobj
      have kbBW0 := O_BW.out.cell 0 _ rfl
      have kbBW1 := O_BW.out.cell 1 _ rfl
      have kbBG0 := O_BG.out.cell 0 _ rfl
      have kbBG1 := O_BG.out.cell 1 _ rfl
      go_wp2_with fail
      clear kbBW0 kbBW1 kbBG0 kbBG1
      refine (eq_any _ _ _ _ _ _ x0 x0 true _ HN0.out HN0.out (by omega) (by omega) O_x0.out.rd O_y0.out.rd (by simp)).mono ?_
      rintro e w11 ⟨rfl, hqq⟩
      have HB11 := hide (HB10.out.trans (hqq.below _))
      have Z11 := hide (hqq.below 0).size
      replace O_W := hide (O_W.out.later (hqq.below _))
      replace O_BW := hide (O_BW.out.later (hqq.below _))
      replace O_x0 := hide (O_x0.out.later (hqq.below _))
      replace O_x1 := hide (O_x1.out.later (hqq.below _))
      replace O_G := hide (O_G.out.later (hqq.below _))
      replace O_BG := hide (O_BG.out.later (hqq.below _))
      replace O_y0 := hide (O_y0.out.later (hqq.below _))
      clear hqq
      have kbBW0 := O_BW.out.cell 0 _ rfl
      have kbBW1 := O_BW.out.cell 1 _ rfl
      have kbBG0 := O_BG.out.cell 0 _ rfl
      have kbBG1 := O_BG.out.cell 1 _ rfl
      go_wp2_with fail
      clear kbBW0 kbBW1 kbBG0 kbBG1
      clear O_y0
      refine (copyR _ _ _ x1 _ HN1.out m1 (hr1.later HB11.out)).mono ?_
      rintro e w12 ⟨A_y1, rfl, hbb, hobj⟩
      have HB12 := hide (HB11.out.trans (hbb.mono HB11.out.size))
      have Z12 := hide (hbb).size
      replace O_W := hide (O_W.out.later hbb)
      replace O_BW := hide (O_BW.out.later hbb)
      replace O_x0 := hide (O_x0.out.later hbb)
      replace O_x1 := hide (O_x1.out.later hbb)
      replace O_G := hide (O_G.out.later hbb)
      replace O_BG := hide (O_BG.out.later hbb)
      clear hbb
      have O_y1 := hide hobj
      clear hobj
      have kbBW0 := O_BW.out.cell 0 _ rfl
      have kbBW1 := O_BW.out.cell 1 _ rfl
      have kbBG0 := O_BG.out.cell 0 _ rfl
      have kbBG1 := O_BG.out.cell 1 _ rfl
      go_wp2_with fail
      clear kbBW0 kbBW1 kbBG0 kbBG1
      refine (eq_any _ _ _ _ _ _ x1 x1 true _ HN1.out HN1.out (by omega) (by omega) O_x1.out.rd O_y1.out.rd (by simp)).mono ?_
      rintro e w13 ⟨rfl, hqq⟩
      have HB13 := hide (HB12.out.trans (hqq.below _))
      have Z13 := hide (hqq.below 0).size
      replace O_W := hide (O_W.out.later (hqq.below _))
      replace O_BW := hide (O_BW.out.later (hqq.below _))
      replace O_x0 := hide (O_x0.out.later (hqq.below _))
      replace O_x1 := hide (O_x1.out.later (hqq.below _))
      replace O_G := hide (O_G.out.later (hqq.below _))
      replace O_BG := hide (O_BG.out.later (hqq.below _))
      replace O_y1 := hide (O_y1.out.later (hqq.below _))
      clear hqq
      have kbBW0 := O_BW.out.cell 0 _ rfl
      have kbBW1 := O_BW.out.cell 1 _ rfl
      have kbBG0 := O_BG.out.cell 0 _ rfl
      have kbBG1 := O_BG.out.cell 1 _ rfl
      go_wp2_with fail
      clear kbBW0 kbBW1 kbBG0 kbBG1
      clear O_y1
      refine (markR 2 _ _ _ _ _ _ x0 _ HN0.out (by omega) (by omega) (by omega) O_x0.out).mono ?_
      rintro e w14 ⟨rfl, ht, hobj⟩
      have HB14 := hide (ht.below HB13.out HB13.out.size (HB4.out.size))
      have Z14 := hide ht.size
      replace O_W := hide (O_W.out.far ht (.inl (by have z4 := Z4.out; omega)))
      replace O_BW := hide (O_BW.out.touch ht (.inl (by have z4 := Z4.out; omega)))
      replace O_x1 := hide (O_x1.out.far ht (.inr (by omega)))
      replace O_G := hide (O_G.out.far ht (.inr (by have z6 := Z6.out; omega)))
      replace O_BG := hide (O_BG.out.touch ht (.inr (by have z6 := Z6.out; have z7 := Z7.out; omega)))
      replace O_x0 := hide hobj
      clear ht hobj
      have kbBW0 := O_BW.out.cell 0 _ rfl
      have kbBW1 := O_BW.out.cell 1 _ rfl
      have kbBG0 := O_BG.out.cell 0 _ rfl
      have kbBG1 := O_BG.out.cell 1 _ rfl
      go_wp2_with fail
      clear kbBW0 kbBW1 kbBG0 kbBG1
      refine (markR 2 _ _ _ _ _ _ x1 _ HN1.out (by omega) (by omega) (by omega) O_x1.out).mono ?_
      rintro e w15 ⟨rfl, ht, hobj⟩
      have HB15 := hide (ht.below HB14.out HB14.out.size (HB5.out.size))
      have Z15 := hide ht.size
      replace O_W := hide (O_W.out.far ht (.inl (by have z4 := Z4.out; have z5 := Z5.out; omega)))
      replace O_BW := hide (O_BW.out.touch ht (.inl (by have z4 := Z4.out; have z5 := Z5.out; omega)))
      replace O_x0 := hide (O_x0.out.far ht (.inl (by omega)))
      replace O_G := hide (O_G.out.far ht (.inr (by omega)))
      replace O_BG := hide (O_BG.out.touch ht (.inr (by have z7 := Z7.out; omega)))
      replace O_x1 := hide hobj
      clear ht hobj
      have kbBW0 := O_BW.out.cell 0 _ rfl
      have kbBW1 := O_BW.out.cell 1 _ rfl
      have kbBG0 := O_BG.out.cell 0 _ rfl
      have kbBG1 := O_BG.out.cell 1 _ rfl
      go_wp2_with fail
      clear kbBW0 kbBW1 kbBG0 kbBG1
      refine (eqZ_any _ _ _ zf _ _ _ zg _ _ _ zf _ _ _ zg true _ ⟨HG.out, O_G.out.fst, O_G.out.snd⟩ ⟨HG.out, O_W.out.fst, O_W.out.snd⟩ (by simp)).mono ?_
      rintro e w16 ⟨rfl, hbb⟩
      have HB16 := hide (HB15.out.trans (hbb.mono HB15.out.size))
      have Z16 := hide (hbb).size
      replace O_W := hide (O_W.out.later hbb)
      replace O_BW := hide (O_BW.out.later hbb)
      replace O_x0 := hide (O_x0.out.later hbb)
      replace O_x1 := hide (O_x1.out.later hbb)
      replace O_G := hide (O_G.out.later hbb)
      replace O_BG := hide (O_BG.out.later hbb)
      clear hbb
      have kbBW0 := O_BW.out.cell 0 _ rfl
      have kbBW1 := O_BW.out.cell 1 _ rfl
      have kbBG0 := O_BG.out.cell 0 _ rfl
      have kbBG1 := O_BG.out.cell 1 _ rfl
      go_wp2_with fail
      clear kbBW0 kbBW1 kbBG0 kbBG1
      clear O_x0
      clear O_x1
      refine (markZ 35 2 (by decide) _ _ _ _ _ _ _ _ _ zf zg _ HG.out (by have tx := TZ.out; omega) (by omega) (by omega) O_G.out (by have z8 := Z8.out; have z9 := Z9.out; have z10 := Z10.out; have z11 := Z11.out; have z12 := Z12.out; have z13 := Z13.out; have z14 := Z14.out; have z15 := Z15.out; have z16 := Z16.out; omega)).mono ?_
      rintro e w17 ⟨rfl, ht, hobj⟩
      have HB17 := hide (ht.below HB16.out HB16.out.size (HB6.out.size))
      have Z17 := hide ht.size
      replace O_W := hide (O_W.out.far ht (.inl (by have z4 := Z4.out; have z5 := Z5.out; have z6 := Z6.out; omega)))
      replace O_BW := hide (O_BW.out.touch ht (.inl (by have z4 := Z4.out; have z5 := Z5.out; have z6 := Z6.out; omega)))
      replace O_BG := hide (O_BG.out.touch ht (.inr (by omega)))
      replace O_G := hide hobj
      clear ht hobj
      have kbBW0 := O_BW.out.cell 0 _ rfl
      have kbBW1 := O_BW.out.cell 1 _ rfl
      have kbBG0 := O_BG.out.cell 0 _ rfl
      have kbBG1 := O_BG.out.cell 1 _ rfl
      go_wp2_with fail
      clear kbBW0 kbBW1 kbBG0 kbBG1
      refine (heldZ _ _ _ _ _ _ _ zf zg _ HG.out (by have tx := TZ.out; omega) (by omega) (by omega) O_G.out.fst O_G.out.snd).mono ?_
      rintro e w18 ⟨rfl, hbb⟩
      have HB18 := hide (HB17.out.trans (hbb.mono HB17.out.size))
      have Z18 := hide (hbb).size
      replace O_W := hide (O_W.out.later hbb)
      replace O_BW := hide (O_BW.out.later hbb)
      replace O_G := hide (O_G.out.later hbb)
      replace O_BG := hide (O_BG.out.later hbb)
      clear hbb
      have kbBW0 := O_BW.out.cell 0 _ rfl
      have kbBW1 := O_BW.out.cell 1 _ rfl
      have kbBG0 := O_BG.out.cell 0 _ rfl
      have kbBG1 := O_BG.out.cell 1 _ rfl
      go_wp2_with fail
      clear kbBW0 kbBW1 kbBG0 kbBG1
      refine (copyR _ _ _ x0 _ HN0.out m0 (hr0.later HB18.out)).mono ?_
      rintro e w19 ⟨A_h0, rfl, hbb, hobj⟩
      have HB19 := hide (HB18.out.trans (hbb.mono HB18.out.size))
      have Z19 := hide (hbb).size
      replace O_W := hide (O_W.out.later hbb)
      replace O_BW := hide (O_BW.out.later hbb)
      replace O_G := hide (O_G.out.later hbb)
      replace O_BG := hide (O_BG.out.later hbb)
      clear hbb
      have O_h0 := hide hobj
      clear hobj
      have kbBW0 := O_BW.out.cell 0 _ rfl
      have kbBW1 := O_BW.out.cell 1 _ rfl
      have kbBG0 := O_BG.out.cell 0 _ rfl
      have kbBG1 := O_BG.out.cell 1 _ rfl
      go_wp2_with fail
      clear kbBW0 kbBW1 kbBG0 kbBG1
      refine (copyR _ _ _ x1 _ HN1.out m1 (hr1.later HB19.out)).mono ?_
      rintro e w20 ⟨A_h1, rfl, hbb, hobj⟩
      have HB20 := hide (HB19.out.trans (hbb.mono HB19.out.size))
      have Z20 := hide (hbb).size
      replace O_W := hide (O_W.out.later hbb)
      replace O_BW := hide (O_BW.out.later hbb)
      replace O_G := hide (O_G.out.later hbb)
      replace O_BG := hide (O_BG.out.later hbb)
      replace O_h0 := hide (O_h0.out.later hbb)
      clear hbb
      have O_h1 := hide hobj
      clear hobj
      have kbBW0 := O_BW.out.cell 0 _ rfl
      have kbBW1 := O_BW.out.cell 1 _ rfl
      have kbBG0 := O_BG.out.cell 0 _ rfl
      have kbBG1 := O_BG.out.cell 1 _ rfl
      go_wp2_with fail
      clear kbBW0 kbBW1 kbBG0 kbBG1
      refine (twWI_any _ _ _ x0 _ _ _ x1 zf zg code kz kw _ HN0.out m0 O_h0.out.rd HN1.out m1 O_h1.out.rd HRES.out HG.out).mono ?_
      rintro e w21 ⟨A_H, c_H, B_H, d_H, rfl, hbb, hobj⟩
      have HB21 := hide (HB20.out.trans (hbb.mono HB20.out.size))
      have Z21 := hide (hbb).size
      replace O_W := hide (O_W.out.later hbb)
      replace O_BW := hide (O_BW.out.later hbb)
      replace O_G := hide (O_G.out.later hbb)
      replace O_BG := hide (O_BG.out.later hbb)
      replace O_h0 := hide (O_h0.out.later hbb)
      replace O_h1 := hide (O_h1.out.later hbb)
      clear hbb
      have O_H := hide hobj
      clear hobj
      have kbBW0 := O_BW.out.cell 0 _ rfl
      have kcBW0 := fun o => (O_BW.out.alloc o).cell 0 _ rfl
      have kbBW1 := O_BW.out.cell 1 _ rfl
      have kcBW1 := fun o => (O_BW.out.alloc o).cell 1 _ rfl
      have kbBG0 := O_BG.out.cell 0 _ rfl
      have kcBG0 := fun o => (O_BG.out.alloc o).cell 0 _ rfl
      have kbBG1 := O_BG.out.cell 1 _ rfl
      have kcBG1 := fun o => (O_BG.out.alloc o).cell 1 _ rfl
      go_wp2_with fail
      clear kbBW0 kcBW0 kbBW1 kcBW1 kbBG0 kcBG0 kbBG1 kcBG1
      clear O_h0
      clear O_h1
      refine calls_gen fun w22 hw22 => ?_
      have O_BH : Hid (Blk w22 w21.heap.size 26 [.slice A_H kz c_H, .slice B_H kw d_H]) := hide (by rw [hw22]; exact Blk.new _ _ _)
      have hbx : Below w21.heap.size w21 w22 := by rw [hw22]; exact (Below.refl _ _).alloc (Nat.le_refl _) _
      have ZE : Hid (w22.heap.size = w21.heap.size + 1) := hide (by rw [hw22]; simp)
      clear hw22
      have HB22 := hide (HB21.out.trans (hbx.mono HB21.out.size))
      have Z22 := hide (hbx).size
      replace O_W := hide (O_W.out.later hbx)
      replace O_BW := hide (O_BW.out.later hbx)
      replace O_G := hide (O_G.out.later hbx)
      replace O_BG := hide (O_BG.out.later hbx)
      replace O_H := hide (O_H.out.later hbx)
      clear hbx
      replace Z22 := ZE
      clear ZE
      refine (eqZ_any _ _ _ zf _ _ _ zg _ _ _ zf _ _ _ zg true _ ⟨HG.out, O_H.out.fst, O_H.out.snd⟩ ⟨HG.out, O_W.out.fst, O_W.out.snd⟩ (by simp)).mono ?_
      rintro e w23 ⟨rfl, hbb⟩
      have HB23 := hide (HB22.out.trans (hbb.mono HB22.out.size))
      have Z23 := hide (hbb).size
      replace O_W := hide (O_W.out.later hbb)
      replace O_BW := hide (O_BW.out.later hbb)
      replace O_G := hide (O_G.out.later hbb)
      replace O_BG := hide (O_BG.out.later hbb)
      replace O_H := hide (O_H.out.later hbb)
      replace O_BH := hide (O_BH.out.later hbb)
      clear hbb
      have kbBW0 := O_BW.out.cell 0 _ rfl
      have kbBW1 := O_BW.out.cell 1 _ rfl
      have kbBG0 := O_BG.out.cell 0 _ rfl
      have kbBG1 := O_BG.out.cell 1 _ rfl
      have kbBH0 := O_BH.out.cell 0 _ rfl
      have kbBH1 := O_BH.out.cell 1 _ rfl
      go_wp2_with fail
      clear kbBW0 kbBW1 kbBG0 kbBG1 kbBH0 kbBH1
      refine (heldZ _ _ _ _ _ _ _ zf zg _ HG.out (by have tx := TZ.out; omega) (by omega) (by omega) O_G.out.fst O_G.out.snd).mono ?_
      rintro e w24 ⟨rfl, hbb⟩
      have HB24 := hide (HB23.out.trans (hbb.mono HB23.out.size))
      have Z24 := hide (hbb).size
      replace O_W := hide (O_W.out.later hbb)
      replace O_BW := hide (O_BW.out.later hbb)
      replace O_G := hide (O_G.out.later hbb)
      replace O_BG := hide (O_BG.out.later hbb)
      replace O_H := hide (O_H.out.later hbb)
      replace O_BH := hide (O_BH.out.later hbb)
      clear hbb
      have kbBW0 := O_BW.out.cell 0 _ rfl
      have kbBW1 := O_BW.out.cell 1 _ rfl
      have kbBG0 := O_BG.out.cell 0 _ rfl
      have kbBG1 := O_BG.out.cell 1 _ rfl
      have kbBH0 := O_BH.out.cell 0 _ rfl
      have kbBH1 := O_BH.out.cell 1 _ rfl
      go_wp2_with fail
      clear kbBW0 kbBW1 kbBG0 kbBG1 kbBH0 kbBH1
      go_ret
      exact ⟨rfl, HB24.out⟩
    · go_enter Try.func5, Try.ntmps5
      go_wp2_with fail
      go_ret
      exact ⟨rfl, Below.refl _ _⟩
  · go_enter Try.func5, Try.ntmps5
    go_wp2_with fail
    go_ret
    exact ⟨rfl, Below.refl _ _⟩
end Go.Proofs.Ytocdcibfbecdgab
