import Derived.Test.YtkagfjofjbpfeaaZk
import Derived.Test.YtkagfjofjbpfeaaZf
import Derived.Test.YtkagfjofjbpfeaaZl
import Derived.Test.YtkagfjofjbpfeaaZal
namespace Go.Proofs.Ytkagfjofjbpfeaa
open Go Go.RowKit
set_option maxHeartbeats 4000000

theorem law_TransposeTable (a0 : Option Addr) (n0 c0 : Nat) (x0 : List (List Int)) (w : World) (hn0 : x0.length = n0) (hb0 : n0 ≤ 9223372036854775807) (hbs0 : ∀ i, i < x0.length → (x0.getD i []).length ≤ 9223372036854775807) (hr0 : Rd2 w a0 x0) :
    Calls Try.prog 6 #[.slice a0 n0 c0] w fun e w' => e = .returned (.bool true) ∧ Below w.heap.size w w' := by
  have HN0 := hide hn0
  clear hn0
  obtain ⟨zs, code, hres, hzb, hzr⟩ := TurnRes.ex x0
  have HRES := hide hres
  clear hres
  obtain ⟨kz, hkz⟩ : ∃ kz, zs.length = kz := ⟨_, rfl⟩
  rw [hkz] at hzb
  have HK := hide hkz
  clear hkz
  have HZR := hide hzr
  clear hzr
  go_enter Try.func6, Try.ntmps6
  go_wp2_with fail
  refine (szz_any _ _ _ x0 1048576 _ HN0.out hb0 hbs0 (by omega) (by omega) hr0).mono ?_
  rintro e w0 ⟨l0, hs0, rfl, rfl⟩
  rcases hs0 with rfl | ⟨p0, q0, u0, y0⟩
  · go_wp2_with fail
    go_ret
    exact ⟨rfl, Below.refl _ _⟩
  · have U0 := hide u0
    have Y0 := hide y0
    clear u0 y0 hbs0
    have m0 : n0 ≤ 1048576 := by have := U0.out; have := HN0.out; omega
    go_wp2_with fail
    have HB0 : Hid (Below w.heap.size w w) := hide (Below.refl _ _)
    have hcc : (code != code) = false := by simp
    have TZ := hide (tot_bound zs (by rw [HK.out]; omega) (fun i hi => by have := HZR.out i hi; omega))
    have T0 := hide (tot_bound x0 (by rw [HN0.out]; omega) (fun i hi => by have := Y0.out i hi; omega))
    refine (copyT _ _ _ x0 _ HN0.out m0 (fun i hi => by have := Y0.out i hi; omega) (hr0.later HB0.out)).mono ?_
    rintro e w1 ⟨A_s0, rfl, hbb, hobj⟩
    have HB1 := hide (HB0.out.trans (hbb.mono HB0.out.size))
    have Z1 := hide (hbb).size
    clear hbb
    have O_s0 := hide hobj
    clear hobj
    go_wp2_with fail
    refine (turnWS_any _ _ _ x0 zs code kz _ HN0.out m0 (fun i hi => by have := Y0.out i hi; omega) O_s0.out.rd HRES.out HK.out).mono ?_
    rintro e w2 ⟨A_W, c_W, rfl, hbb, hobj⟩
    have HB2 := hide (HB1.out.trans (hbb.mono HB1.out.size))
    have Z2 := hide (hbb).size
    replace O_s0 := hide (O_s0.out.later hbb)
    clear hbb
    have O_W := hide hobj
    clear hobj
    go_wp2_with fail
    clear O_s0
    refine (copyT _ _ _ x0 _ HN0.out m0 (fun i hi => by have := Y0.out i hi; omega) (hr0.later HB2.out)).mono ?_
    rintro e w3 ⟨A_x0, rfl, hbb, hobj⟩
    have HB3 := hide (HB2.out.trans (hbb.mono HB2.out.size))
    have Z3 := hide (hbb).size
    replace O_W := hide (O_W.out.later hbb)
    clear hbb
    have O_x0 := hide hobj
    clear hobj
    go_wp2_with fail
    refine (turnWI_any _ _ _ x0 zs code kz _ HN0.out m0 (fun i hi => by have := Y0.out i hi; omega) O_x0.out.rd HRES.out HK.out).mono ?_
    rintro e w4 ⟨A_G, c_G, rfl, hbb, hobj⟩
    have HB4 := hide (HB3.out.trans (hbb.mono HB3.out.size))
    have Z4 := hide (hbb).size
    replace O_W := hide (O_W.out.later hbb)
    replace O_x0 := hide (O_x0.out.later hbb)
    clear hbb
    have O_G := hide hobj
    clear hobj
    go_wp2_with fail
    refine (eqq_any _ _ _ _ _ _ zs zs true _ HK.out HK.out (by omega) (by omega) (fun i hi => by have := HZR.out i hi; omega) (fun i hi => by have := HZR.out i hi; omega) O_G.out.rd O_W.out.rd (by simp)).mono ?_
    rintro e w5 ⟨rfl, hqq⟩
    have HB5 := hide (HB4.out.trans (hqq.below _))
    have Z5 := hide (hqq.below 0).size
    replace O_W := hide (O_W.out.later (hqq.below _))
    replace O_x0 := hide (O_x0.out.later (hqq.below _))
    replace O_G := hide (O_G.out.later (hqq.below _))
    clear hqq
    go_wp2_with fail
    refine (copyT _ _ _ x0 _ HN0.out m0 (fun i hi => by have := Y0.out i hi; omega) (hr0.later HB5.out)).mono ?_
    rintro e w6 ⟨A_y0, rfl, hbb, hobj⟩
    have HB6 := hide (HB5.out.trans (hbb.mono HB5.out.size))
    have Z6 := hide (hbb).size
    replace O_W := hide (O_W.out.later hbb)
    replace O_x0 := hide (O_x0.out.later hbb)
    replace O_G := hide (O_G.out.later hbb)
    clear hbb
    have O_y0 := hide hobj
    clear hobj
    go_wp2_with fail
    refine (eqq_any _ _ _ _ _ _ x0 x0 true _ HN0.out HN0.out (by omega) (by omega) (fun i hi => by have := Y0.out i hi; omega) (fun i hi => by have := Y0.out i hi; omega) O_x0.out.rd O_y0.out.rd (by simp)).mono ?_
    rintro e w7 ⟨rfl, hqq⟩
    have HB7 := hide (HB6.out.trans (hqq.below _))
    have Z7 := hide (hqq.below 0).size
    replace O_W := hide (O_W.out.later (hqq.below _))
    replace O_x0 := hide (O_x0.out.later (hqq.below _))
    replace O_G := hide (O_G.out.later (hqq.below _))
    replace O_y0 := hide (O_y0.out.later (hqq.below _))
    clear hqq
    go_wp2_with fail
    clear O_y0
    refine (markT 31 2 (by decide) _ _ _ _ _ _ x0 _ HN0.out (by omega) (fun i hi => by have := Y0.out i hi; omega) (by have tx := T0.out; omega) (by have tt0 := T0.out; omega) (by have tt0 := T0.out; omega) O_x0.out).mono ?_
    rintro e w8 ⟨rfl, ht, hobj⟩
    have HB8 := hide (ht.below HB7.out HB7.out.size (HB2.out.size))
    have Z8 := hide ht.size
    replace O_W := hide (O_W.out.far ht (.inl (by omega)))
    replace O_G := hide (O_G.out.far ht (.inr (by omega)))
    replace O_x0 := hide hobj
    clear ht hobj
    go_wp2_with fail
    refine (eqq_any _ _ _ _ _ _ zs zs true _ HK.out HK.out (by omega) (by omega) (fun i hi => by have := HZR.out i hi; omega) (fun i hi => by have := HZR.out i hi; omega) O_G.out.rd O_W.out.rd (by simp)).mono ?_
    rintro e w9 ⟨rfl, hqq⟩
    have HB9 := hide (HB8.out.trans (hqq.below _))
    have Z9 := hide (hqq.below 0).size
    replace O_W := hide (O_W.out.later (hqq.below _))
    replace O_x0 := hide (O_x0.out.later (hqq.below _))
    replace O_G := hide (O_G.out.later (hqq.below _))
    clear hqq
    go_wp2_with fail
    clear O_x0
    refine (markT 31 2 (by decide) _ _ _ _ _ _ zs _ HK.out (by omega) (fun i hi => by have := HZR.out i hi; omega) (by have tx := TZ.out; omega) (by have tt0 := T0.out; omega) (by have tt0 := T0.out; omega) O_G.out).mono ?_
    rintro e w10 ⟨rfl, ht, hobj⟩
    have HB10 := hide (ht.below HB9.out HB9.out.size (HB3.out.size))
    have Z10 := hide ht.size
    replace O_W := hide (O_W.out.far ht (.inl (by have z3 := Z3.out; omega)))
    replace O_G := hide hobj
    clear ht hobj
    go_wp2_with fail
    refine (heldT _ _ _ _ zs _ HK.out (by omega) (fun i hi => by have := HZR.out i hi; omega) (by have tx := TZ.out; omega) (by omega) (by omega) O_G.out.rd).mono ?_
    rintro e w11 ⟨rfl, hqq⟩
    have HB11 := hide (HB10.out.trans (hqq.below _))
    have Z11 := hide (hqq.below 0).size
    replace O_W := hide (O_W.out.later (hqq.below _))
    replace O_G := hide (O_G.out.later (hqq.below _))
    clear hqq
    go_wp2_with fail
    refine (copyT _ _ _ x0 _ HN0.out m0 (fun i hi => by have := Y0.out i hi; omega) (hr0.later HB11.out)).mono ?_
    rintro e w12 ⟨A_h0, rfl, hbb, hobj⟩
    have HB12 := hide (HB11.out.trans (hbb.mono HB11.out.size))
    have Z12 := hide (hbb).size
    replace O_W := hide (O_W.out.later hbb)
    replace O_G := hide (O_G.out.later hbb)
    clear hbb
    have O_h0 := hide hobj
    clear hobj
    go_wp2_with fail
    refine (turnWI_any _ _ _ x0 zs code kz _ HN0.out m0 (fun i hi => by have := Y0.out i hi; omega) O_h0.out.rd HRES.out HK.out).mono ?_
    rintro e w13 ⟨A_H, c_H, rfl, hbb, hobj⟩
    have HB13 := hide (HB12.out.trans (hbb.mono HB12.out.size))
    have Z13 := hide (hbb).size
    replace O_W := hide (O_W.out.later hbb)
    replace O_G := hide (O_G.out.later hbb)
    replace O_h0 := hide (O_h0.out.later hbb)
    clear hbb
    have O_H := hide hobj
    clear hobj
    go_wp2_with fail
    clear O_h0
    refine (eqq_any _ _ _ _ _ _ zs zs true _ HK.out HK.out (by omega) (by omega) (fun i hi => by have := HZR.out i hi; omega) (fun i hi => by have := HZR.out i hi; omega) O_H.out.rd O_W.out.rd (by simp)).mono ?_
    rintro e w14 ⟨rfl, hqq⟩
    have HB14 := hide (HB13.out.trans (hqq.below _))
    have Z14 := hide (hqq.below 0).size
    replace O_W := hide (O_W.out.later (hqq.below _))
    replace O_G := hide (O_G.out.later (hqq.below _))
    replace O_H := hide (O_H.out.later (hqq.below _))
    clear hqq
    go_wp2_with fail
    refine (heldT _ _ _ _ zs _ HK.out (by omega) (fun i hi => by have := HZR.out i hi; omega) (by have tx := TZ.out; omega) (by omega) (by omega) O_G.out.rd).mono ?_
    rintro e w15 ⟨rfl, hqq⟩
    have HB15 := hide (HB14.out.trans (hqq.below _))
    have Z15 := hide (hqq.below 0).size
    replace O_W := hide (O_W.out.later (hqq.below _))
    replace O_G := hide (O_G.out.later (hqq.below _))
    replace O_H := hide (O_H.out.later (hqq.below _))
    clear hqq
    go_wp2_with fail
    go_ret
    exact ⟨rfl, HB15.out⟩
end Go.Proofs.Ytkagfjofjbpfeaa
