import Derived.Test.YtkagfjofjbpfeaaZp
import Derived.Test.YtkagfjofjbpfeaaZk
import Derived.Test.YtkagfjofjbpfeaaZf
import Derived.Test.YtkagfjofjbpfeaaZc
import Derived.Test.YtkagfjofjbpfeaaZl
import Derived.Test.YtkagfjofjbpfeaaZap
namespace Go.Proofs.Ytkagfjofjbpfeaa
open Go Go.RowKit
set_option maxHeartbeats 4000000

theorem law_RenameTable (a0 : Option Addr) (n0 c0 : Nat) (x0 : List (List Int)) (a1 : Option Addr) (n1 c1 : Nat) (x1 : List Int) (w : World) (hn0 : x0.length = n0) (hb0 : n0 ≤ 9223372036854775807) (hbs0 : ∀ i, i < x0.length → (x0.getD i []).length ≤ 9223372036854775807) (hr0 : Rd2 w a0 x0) (hn1 : x1.length = n1) (hb1 : n1 ≤ 9223372036854775807) (hr1 : Rd w a1 x1) :
    Calls Try.prog 7 #[.slice a0 n0 c0, .slice a1 n1 c1] w fun e w' => e = .returned (.bool true) ∧ Below w.heap.size w w' := by
  have HN0 := hide hn0
  clear hn0
  have HN1 := hide hn1
  clear hn1
  obtain ⟨zs, code, hres, hzb, hzr⟩ := RenRes.ex x0 x1
  have HRES := hide hres
  clear hres
  obtain ⟨kz, hkz⟩ : ∃ kz, zs.length = kz := ⟨_, rfl⟩
  rw [hkz] at hzb
  have HK := hide hkz
  clear hkz
  have HZR := hide hzr
  clear hzr
  by_cases m1 : n1 ≤ 1048576
  · have M1 := hide m1
    clear M1
    go_enter Try.func7, Try.ntmps7
    go_wp2_with fail
    refine (szz_any _ _ _ x0 1048576 _ HN0.out hb0 hbs0 (by omega) (by omega) hr0).mono ?_
    rintro e w0 ⟨l0, hs0, rfl, rfl⟩
    rcases hs0 with rfl | ⟨p0, q0, u0, y0⟩
    · go_wp2_with fail
      go_ret
      exact ⟨rfl, Below.refl _ _⟩
    · have U0 := hide u0
      have Y0 := hide y0
      clear u0 y0 hbs0
      have m0 : n0 ≤ 1048576 := by have := U0.out; have := HN0.out; omega
      go_wp2_with fail
      have HB0 : Hid (Below w.heap.size w w) := hide (Below.refl _ _)
      have hcc : (code != code) = false := by simp
      have TZ := hide (tot_bound zs (by rw [HK.out]; omega) (fun i hi => by have := HZR.out i hi; omega))
      have T0 := hide (tot_bound x0 (by rw [HN0.out]; omega) (fun i hi => by have := Y0.out i hi; omega))
      refine (copyT _ _ _ x0 _ HN0.out m0 (fun i hi => by have := Y0.out i hi; omega) (hr0.later HB0.out)).mono ?_
      rintro e w1 ⟨A_s0, rfl, hbb, hobj⟩
      have HB1 := hide (HB0.out.trans (hbb.mono HB0.out.size))
      have Z1 := hide (hbb).size
      clear hbb
      have O_s0 := hide hobj
      clear hobj
      go_wp2_with fail
      refine (copyR _ _ _ x1 _ HN1.out m1 (hr1.later HB1.out)).mono ?_
      rintro e w2 ⟨A_s1, rfl, hbb, hobj⟩
      have HB2 := hide (HB1.out.trans (hbb.mono HB1.out.size))
      have Z2 := hide (hbb).size
      replace O_s0 := hide (O_s0.out.later hbb)
      clear hbb
      have O_s1 := hide hobj
      clear hobj
      go_wp2_with fail
      refine (renWS_any _ _ _ x0 _ _ _ x1 zs code kz _ HN0.out m0 (fun i hi => by have := Y0.out i hi; omega) O_s0.out.rd HN1.out m1 O_s1.out.rd HRES.out HK.out).mono ?_
      rintro e w3 ⟨A_W, c_W, rfl, hbb, hobj⟩
      have HB3 := hide (HB2.out.trans (hbb.mono HB2.out.size))
      have Z3 := hide (hbb).size
      replace O_s0 := hide (O_s0.out.later hbb)
      replace O_s1 := hide (O_s1.out.later hbb)
      clear hbb
      have O_W := hide hobj
      clear hobj
      go_wp2_with fail
      clear O_s0
      clear O_s1
      refine (copyT _ _ _ x0 _ HN0.out m0 (fun i hi => by have := Y0.out i hi; omega) (hr0.later HB3.out)).mono ?_
      rintro e w4 ⟨A_x0, rfl, hbb, hobj⟩
      have HB4 := hide (HB3.out.trans (hbb.mono HB3.out.size))
      have Z4 := hide (hbb).size
      replace O_W := hide (O_W.out.later hbb)
      clear hbb
      have O_x0 := hide hobj
      clear hobj
      go_wp2_with fail
      refine (copyR _ _ _ x1 _ HN1.out m1 (hr1.later HB4.out)).mono ?_
      rintro e w5 ⟨A_x1, rfl, hbb, hobj⟩
      have HB5 := hide (HB4.out.trans (hbb.mono HB4.out.size))
      have Z5 := hide (hbb).size
      replace O_W := hide (O_W.out.later hbb)
      replace O_x0 := hide (O_x0.out.later hbb)
      clear hbb
      have O_x1 := hide hobj
      clear hobj
      go_wp2_with fail
      refine (renWI_any _ _ _ x0 _ _ _ x1 zs code kz _ HN0.out m0 (fun i hi => by have := Y0.out i hi; omega) O_x0.out.rd HN1.out m1 O_x1.out.rd HRES.out HK.out).mono ?_
      rintro e w6 ⟨A_G, c_G, rfl, hbb, hobj⟩
      have HB6 := hide (HB5.out.trans (hbb.mono HB5.out.size))
      have Z6 := hide (hbb).size
      replace O_W := hide (O_W.out.later hbb)
      replace O_x0 := hide (O_x0.out.later hbb)
      replace O_x1 := hide (O_x1.out.later hbb)
      clear hbb
      have O_G := hide hobj
      clear hobj
      go_wp2_with fail
      refine (eqq_any _ _ _ _ _ _ zs zs true _ HK.out HK.out (by omega) (by omega) (fun i hi => by have := HZR.out i hi; omega) (fun i hi => by have := HZR.out i hi; omega) O_G.out.rd O_W.out.rd (by simp)).mono ?_
      rintro e w7 ⟨rfl, hqq⟩
      have HB7 := hide (HB6.out.trans (hqq.below _))
      have Z7 := hide (hqq.below 0).size
      replace O_W := hide (O_W.out.later (hqq.below _))
      replace O_x0 := hide (O_x0.out.later (hqq.below _))
      replace O_x1 := hide (O_x1.out.later (hqq.below _))
      replace O_G := hide (O_G.out.later (hqq.below _))
      clear hqq
      go_wp2_with fail
      refine (copyT _ _ _ x0 _ HN0.out m0 (fun i hi => by have := Y0.out i hi; omega) (hr0.later HB7.out)).mono ?_
      rintro e w8 ⟨A_y0, rfl, hbb, hobj⟩
      have HB8 := hide (HB7.out.trans (hbb.mono HB7.out.size))
      have Z8 := hide (hbb).size
      replace O_W := hide (O_W.out.later hbb)
      replace O_x0 := hide (O_x0.out.later hbb)
      replace O_x1 := hide (O_x1.out.later hbb)
      replace O_G := hide (O_G.out.later hbb)
      clear hbb
      have O_y0 := hide hobj
      clear hobj
      go_wp2_with fail
      refine (eqq_any _ _ _ _ _ _ x0 x0 true _ HN0.out HN0.out (by omega) (by omega) (fun i hi => by have := Y0.out i hi; omega) (fun i hi => by have := Y0.out i hi; omega) O_x0.out.rd O_y0.out.rd (by simp)).mono ?_
      rintro e w9 ⟨rfl, hqq⟩
      have HB9 := hide (HB8.out.trans (hqq.below _))
      have Z9 := hide (hqq.below 0).size
      replace O_W := hide (O_W.out.later (hqq.below _))
      replace O_x0 := hide (O_x0.out.later (hqq.below _))
      replace O_x1 := hide (O_x1.out.later (hqq.below _))
      replace O_G := hide (O_G.out.later (hqq.below _))
      replace O_y0 := hide (O_y0.out.later (hqq.below _))
      clear hqq
      go_wp2_with fail
      clear O_y0
      refine (copyR _ _ _ x1 _ HN1.out m1 (hr1.later HB9.out)).mono ?_
      rintro e w10 ⟨A_y1, rfl, hbb, hobj⟩
      have HB10 := hide (HB9.out.trans (hbb.mono HB9.out.size))
      have Z10 := hide (hbb).size
      replace O_W := hide (O_W.out.later hbb)
      replace O_x0 := hide (O_x0.out.later hbb)
      replace O_x1 := hide (O_x1.out.later hbb)
      replace O_G := hide (O_G.out.later hbb)
      clear hbb
      have O_y1 := hide hobj
      clear hobj
      go_wp2_with fail
      refine (eq_any _ _ _ _ _ _ x1 x1 true _ HN1.out HN1.out (by omega) (by omega) O_x1.out.rd O_y1.out.rd (by simp)).mono ?_
      rintro e w11 ⟨rfl, hqq⟩
      have HB11 := hide (HB10.out.trans (hqq.below _))
      have Z11 := hide (hqq.below 0).size
      replace O_W := hide (O_W.out.later (hqq.below _))
      replace O_x0 := hide (O_x0.out.later (hqq.below _))
      replace O_x1 := hide (O_x1.out.later (hqq.below _))
      replace O_G := hide (O_G.out.later (hqq.below _))
      replace O_y1 := hide (O_y1.out.later (hqq.below _))
      clear hqq
      go_wp2_with fail
      clear O_y1
      refine (markT 31 2 (by decide) _ _ _ _ _ _ x0 _ HN0.out (by omega) (fun i hi => by have := Y0.out i hi; omega) (by have tx := T0.out; omega) (by have tt0 := T0.out; omega) (by have tt0 := T0.out; omega) O_x0.out).mono ?_
      rintro e w12 ⟨rfl, ht, hobj⟩
      have HB12 := hide (ht.below HB11.out HB11.out.size (HB3.out.size))
      have Z12 := hide ht.size
      replace O_W := hide (O_W.out.far ht (.inl (by omega)))
      replace O_x1 := hide (O_x1.out.far ht (.inr (by omega)))
      replace O_G := hide (O_G.out.far ht (.inr (by have z5 := Z5.out; omega)))
      replace O_x0 := hide hobj
      clear ht hobj
      go_wp2_with fail
      refine (markR 2 _ _ _ _ _ _ x1 _ HN1.out (by omega) (by have tt0 := T0.out; omega) (by have tt0 := T0.out; omega) O_x1.out).mono ?_
      rintro e w13 ⟨rfl, ht, hobj⟩
      have HB13 := hide (ht.below HB12.out HB12.out.size (HB4.out.size))
      have Z13 := hide ht.size
      replace O_W := hide (O_W.out.far ht (.inl (by have z4 := Z4.out; omega)))
      replace O_x0 := hide (O_x0.out.far ht (.inl (by omega)))
      replace O_G := hide (O_G.out.far ht (.inr (by omega)))
      replace O_x1 := hide hobj
      clear ht hobj
      go_wp2_with fail
      refine (eqq_any _ _ _ _ _ _ zs zs true _ HK.out HK.out (by omega) (by omega) (fun i hi => by have := HZR.out i hi; omega) (fun i hi => by have := HZR.out i hi; omega) O_G.out.rd O_W.out.rd (by simp)).mono ?_
      rintro e w14 ⟨rfl, hqq⟩
      have HB14 := hide (HB13.out.trans (hqq.below _))
      have Z14 := hide (hqq.below 0).size
      replace O_W := hide (O_W.out.later (hqq.below _))
      replace O_x0 := hide (O_x0.out.later (hqq.below _))
      replace O_x1 := hide (O_x1.out.later (hqq.below _))
      replace O_G := hide (O_G.out.later (hqq.below _))
      clear hqq
      go_wp2_with fail
      clear O_x0
      clear O_x1
      refine (markT 31 2 (by decide) _ _ _ _ _ _ zs _ HK.out (by omega) (fun i hi => by have := HZR.out i hi; omega) (by have tx := TZ.out; omega) (by have tt0 := T0.out; omega) (by have tt0 := T0.out; omega) O_G.out).mono ?_
      rintro e w15 ⟨rfl, ht, hobj⟩
      have HB15 := hide (ht.below HB14.out HB14.out.size (HB5.out.size))
      have Z15 := hide ht.size
      replace O_W := hide (O_W.out.far ht (.inl (by have z4 := Z4.out; have z5 := Z5.out; omega)))
      replace O_G := hide hobj
      clear ht hobj
      go_wp2_with fail
      refine (heldT _ _ _ _ zs _ HK.out (by omega) (fun i hi => by have := HZR.out i hi; omega) (by have tx := TZ.out; omega) (by omega) (by omega) O_G.out.rd).mono ?_
      rintro e w16 ⟨rfl, hqq⟩
      have HB16 := hide (HB15.out.trans (hqq.below _))
      have Z16 := hide (hqq.below 0).size
      replace O_W := hide (O_W.out.later (hqq.below _))
      replace O_G := hide (O_G.out.later (hqq.below _))
      clear hqq
      go_wp2_with fail
      refine (copyT _ _ _ x0 _ HN0.out m0 (fun i hi => by have := Y0.out i hi; omega) (hr0.later HB16.out)).mono ?_
      rintro e w17 ⟨A_h0, rfl, hbb, hobj⟩
      have HB17 := hide (HB16.out.trans (hbb.mono HB16.out.size))
      have Z17 := hide (hbb).size
      replace O_W := hide (O_W.out.later hbb)
      replace O_G := hide (O_G.out.later hbb)
      clear hbb
      have O_h0 := hide hobj
      clear hobj
      go_wp2_with fail
      refine (copyR _ _ _ x1 _ HN1.out m1 (hr1.later HB17.out)).mono ?_
      rintro e w18 ⟨A_h1, rfl, hbb, hobj⟩
      have HB18 := hide (HB17.out.trans (hbb.mono HB17.out.size))
      have Z18 := hide (hbb).size
      replace O_W := hide (O_W.out.later hbb)
      replace O_G := hide (O_G.out.later hbb)
      replace O_h0 := hide (O_h0.out.later hbb)
      clear hbb
      have O_h1 := hide hobj
      clear hobj
      go_wp2_with fail
      refine (renWI_any _ _ _ x0 _ _ _ x1 zs code kz _ HN0.out m0 (fun i hi => by have := Y0.out i hi; omega) O_h0.out.rd HN1.out m1 O_h1.out.rd HRES.out HK.out).mono ?_
      rintro e w19 ⟨A_H, c_H, rfl, hbb, hobj⟩
      have HB19 := hide (HB18.out.trans (hbb.mono HB18.out.size))
      have Z19 := hide (hbb).size
      replace O_W := hide (O_W.out.later hbb)
      replace O_G := hide (O_G.out.later hbb)
      replace O_h0 := hide (O_h0.out.later hbb)
      replace O_h1 := hide (O_h1.out.later hbb)
      clear hbb
      have O_H := hide hobj
      clear hobj
      go_wp2_with fail
      clear O_h0
      clear O_h1
      refine (eqq_any _ _ _ _ _ _ zs zs true _ HK.out HK.out (by omega) (by omega) (fun i hi => by have := HZR.out i hi; omega) (fun i hi => by have := HZR.out i hi; omega) O_H.out.rd O_W.out.rd (by simp)).mono ?_
      rintro e w20 ⟨rfl, hqq⟩
      have HB20 := hide (HB19.out.trans (hqq.below _))
      have Z20 := hide (hqq.below 0).size
      replace O_W := hide (O_W.out.later (hqq.below _))
      replace O_G := hide (O_G.out.later (hqq.below _))
      replace O_H := hide (O_H.out.later (hqq.below _))
      clear hqq
      go_wp2_with fail
      refine (heldT _ _ _ _ zs _ HK.out (by omega) (fun i hi => by have := HZR.out i hi; omega) (by have tx := TZ.out; omega) (by omega) (by omega) O_G.out.rd).mono ?_
      rintro e w21 ⟨rfl, hqq⟩
      have HB21 := hide (HB20.out.trans (hqq.below _))
      have Z21 := hide (hqq.below 0).size
      replace O_W := hide (O_W.out.later (hqq.below _))
      replace O_G := hide (O_G.out.later (hqq.below _))
      replace O_H := hide (O_H.out.later (hqq.below _))
      clear hqq
      go_wp2_with fail
      go_ret
      exact ⟨rfl, HB21.out⟩
  · go_enter Try.func7, Try.ntmps7
    go_wp2_with fail
    go_ret
    exact ⟨rfl, Below.refl _ _⟩
end Go.Proofs.Ytkagfjofjbpfeaa
