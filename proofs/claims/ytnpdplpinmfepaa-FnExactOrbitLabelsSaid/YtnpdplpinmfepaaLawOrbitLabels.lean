import Derived.Test.YtnpdplpinmfepaaZd
import Derived.Test.YtnpdplpinmfepaaZc
import Derived.Test.YtnpdplpinmfepaaZb
import Derived.Test.YtnpdplpinmfepaaZl
import Derived.Test.YtnpdplpinmfepaaZj
namespace Go.Proofs.Ytnpdplpinmfepaa
open Go Go.RowKit
set_option maxHeartbeats 4000000

theorem law_OrbitLabels (x0 : Int) (a1 : Option Addr) (n1 c1 : Nat) (x1 : List (List Int)) (w : World) (hlo0 : -9223372036854775808 ≤ x0) (hhi0 : x0 ≤ 9223372036854775807) (hn1 : x1.length = n1) (hb1 : n1 ≤ 9223372036854775807) (hbs1 : ∀ i, i < x1.length → (x1.getD i []).length ≤ 9223372036854775807) (hr1 : Rd2 w a1 x1) :
    Calls Try.prog 3 #[.int .i64 x0, .slice a1 n1 c1] w fun e w' => e = .returned (.bool true) ∧ Below w.heap.size w w' := by
  have HN1 := hide hn1
  clear hn1
  obtain ⟨zs, code, hres, hzb⟩ := OrbRes.ex x0 x1
  have HRES := hide hres
  clear hres
  obtain ⟨kz, hkz⟩ : ∃ kz, zs.length = kz := ⟨_, rfl⟩
  rw [hkz] at hzb
  have HK := hide hkz
  clear hkz
  go_enter Try.func3, Try.ntmps3
  go_wp2_with fail
  refine (szz_any _ _ _ x1 1048576 _ HN1.out hb1 hbs1 (by omega) (by omega) hr1).mono ?_
  rintro e w0 ⟨l1, hs1, rfl, rfl⟩
  rcases hs1 with rfl | ⟨p1, q1, u1, y1⟩
  · go_wp2_with fail
    go_ret
    exact ⟨rfl, Below.refl _ _⟩
  · have U1 := hide u1
    have Y1 := hide y1
    clear u1 y1 hbs1
    have m1 : n1 ≤ 1048576 := by have := U1.out; have := HN1.out; omega
    go_wp2_with fail
    have HB0 : Hid (Below w.heap.size w w) := hide (Below.refl _ _)
    have hcc : (code != code) = false := by simp
    have T1 := hide (tot_bound x1 (by rw [HN1.out]; omega) (fun i hi => by have := Y1.out i hi; omega))
    refine (copyT _ _ _ x1 _ HN1.out m1 (fun i hi => by have := Y1.out i hi; omega) (hr1.later HB0.out)).mono ?_
    rintro e w1 ⟨A_s1, rfl, hbb, hobj⟩
    have HB1 := hide (HB0.out.trans (hbb.mono HB0.out.size))
    have Z1 := hide (hbb).size
    clear hbb
    have O_s1 := hide hobj
    clear hobj
    go_wp2_with fail
    refine (orbWS_any x0 _ _ _ x1 zs code kz _ hlo0 hhi0 HN1.out m1 (fun i hi => by have := Y1.out i hi; omega) O_s1.out.rd HRES.out HK.out).mono ?_
    rintro e w2 ⟨A_W, c_W, rfl, hbb, hobj⟩
    replace hobj := hobj.obj
    have HB2 := hide (HB1.out.trans (hbb.mono HB1.out.size))
    have Z2 := hide (hbb).size
    replace O_s1 := hide (O_s1.out.later hbb)
    clear hbb
    have O_W := hide hobj
    clear hobj
    go_wp2_with fail
    clear O_s1
    refine (copyT _ _ _ x1 _ HN1.out m1 (fun i hi => by have := Y1.out i hi; omega) (hr1.later HB2.out)).mono ?_
    rintro e w3 ⟨A_x1, rfl, hbb, hobj⟩
    have HB3 := hide (HB2.out.trans (hbb.mono HB2.out.size))
    have Z3 := hide (hbb).size
    replace O_W := hide (O_W.out.later hbb)
    clear hbb
    have O_x1 := hide hobj
    clear hobj
    go_wp2_with fail
    refine (orbWI_any x0 _ _ _ x1 zs code kz _ hlo0 hhi0 HN1.out m1 (fun i hi => by have := Y1.out i hi; omega) O_x1.out.rd HRES.out HK.out).mono ?_
    rintro e w4 ⟨A_G, c_G, rfl, hbb, hobj⟩
    replace hobj := hobj.obj
    have HB4 := hide (HB3.out.trans (hbb.mono HB3.out.size))
    have Z4 := hide (hbb).size
    replace O_W := hide (O_W.out.later hbb)
    replace O_x1 := hide (O_x1.out.later hbb)
    clear hbb
    have O_G := hide hobj
    clear hobj
    go_wp2_with fail
    refine (eq_any _ _ _ _ _ _ zs zs true _ HK.out HK.out (by omega) (by omega) O_G.out.rd O_W.out.rd (by simp)).mono ?_
    rintro e w5 ⟨rfl, hqq⟩
    have HB5 := hide (HB4.out.trans (hqq.below _))
    have Z5 := hide (hqq.below 0).size
    replace O_W := hide (O_W.out.later (hqq.below _))
    replace O_x1 := hide (O_x1.out.later (hqq.below _))
    replace O_G := hide (O_G.out.later (hqq.below _))
    clear hqq
    go_wp2_with fail
    refine (copyT _ _ _ x1 _ HN1.out m1 (fun i hi => by have := Y1.out i hi; omega) (hr1.later HB5.out)).mono ?_
    rintro e w6 ⟨A_y1, rfl, hbb, hobj⟩
    have HB6 := hide (HB5.out.trans (hbb.mono HB5.out.size))
    have Z6 := hide (hbb).size
    replace O_W := hide (O_W.out.later hbb)
    replace O_x1 := hide (O_x1.out.later hbb)
    replace O_G := hide (O_G.out.later hbb)
    clear hbb
    have O_y1 := hide hobj
    clear hobj
    go_wp2_with fail
    refine (eqq_any _ _ _ _ _ _ x1 x1 true _ HN1.out HN1.out (by omega) (by omega) (fun i hi => by have := Y1.out i hi; omega) (fun i hi => by have := Y1.out i hi; omega) O_x1.out.rd O_y1.out.rd (by simp)).mono ?_
    rintro e w7 ⟨rfl, hqq⟩
    have HB7 := hide (HB6.out.trans (hqq.below _))
    have Z7 := hide (hqq.below 0).size
    replace O_W := hide (O_W.out.later (hqq.below _))
    replace O_x1 := hide (O_x1.out.later (hqq.below _))
    replace O_G := hide (O_G.out.later (hqq.below _))
    replace O_y1 := hide (O_y1.out.later (hqq.below _))
    clear hqq
    go_wp2_with fail
    clear O_y1
    refine (markT 24 2 (by decide) _ _ _ _ _ _ x1 _ HN1.out (by omega) (fun i hi => by have := Y1.out i hi; omega) (by have tx := T1.out; omega) (by have tt1 := T1.out; omega) (by have tt1 := T1.out; omega) O_x1.out).mono ?_
    rintro e w8 ⟨rfl, ht, hobj⟩
    have HB8 := hide (ht.below HB7.out HB7.out.size (HB2.out.size))
    have Z8 := hide ht.size
    replace O_W := hide (O_W.out.far ht (.inl (by omega)))
    replace O_G := hide (O_G.out.far ht (.inr (by omega)))
    replace O_x1 := hide hobj
    clear ht hobj
    go_wp2_with fail
    refine (eq_any _ _ _ _ _ _ zs zs true _ HK.out HK.out (by omega) (by omega) O_G.out.rd O_W.out.rd (by simp)).mono ?_
    rintro e w9 ⟨rfl, hqq⟩
    have HB9 := hide (HB8.out.trans (hqq.below _))
    have Z9 := hide (hqq.below 0).size
    replace O_W := hide (O_W.out.later (hqq.below _))
    replace O_x1 := hide (O_x1.out.later (hqq.below _))
    replace O_G := hide (O_G.out.later (hqq.below _))
    clear hqq
    go_wp2_with fail
    clear O_x1
    refine (markR 2 _ _ _ _ _ _ zs _ HK.out (by omega) (by have tt1 := T1.out; omega) (by have tt1 := T1.out; omega) O_G.out).mono ?_
    rintro e w10 ⟨rfl, ht, hobj⟩
    have HB10 := hide (ht.below HB9.out HB9.out.size (HB3.out.size))
    have Z10 := hide ht.size
    replace O_W := hide (O_W.out.far ht (.inl (by have z3 := Z3.out; omega)))
    replace O_G := hide hobj
    clear ht hobj
    go_wp2_with fail
    refine (held_any _ _ _ _ _ (by omega) (by omega) (by omega) O_G.out.rd).mono ?_
    rintro e w11 ⟨rfl, hqq⟩
    have HB11 := hide (HB10.out.trans (hqq.below _))
    have Z11 := hide (hqq.below 0).size
    replace O_W := hide (O_W.out.later (hqq.below _))
    replace O_G := hide (O_G.out.later (hqq.below _))
    clear hqq
    go_wp2_with fail
    refine (copyT _ _ _ x1 _ HN1.out m1 (fun i hi => by have := Y1.out i hi; omega) (hr1.later HB11.out)).mono ?_
    rintro e w12 ⟨A_h1, rfl, hbb, hobj⟩
    have HB12 := hide (HB11.out.trans (hbb.mono HB11.out.size))
    have Z12 := hide (hbb).size
    replace O_W := hide (O_W.out.later hbb)
    replace O_G := hide (O_G.out.later hbb)
    clear hbb
    have O_h1 := hide hobj
    clear hobj
    go_wp2_with fail
    refine (orbWI_any x0 _ _ _ x1 zs code kz _ hlo0 hhi0 HN1.out m1 (fun i hi => by have := Y1.out i hi; omega) O_h1.out.rd HRES.out HK.out).mono ?_
    rintro e w13 ⟨A_H, c_H, rfl, hbb, hobj⟩
    replace hobj := hobj.obj
    have HB13 := hide (HB12.out.trans (hbb.mono HB12.out.size))
    have Z13 := hide (hbb).size
    replace O_W := hide (O_W.out.later hbb)
    replace O_G := hide (O_G.out.later hbb)
    replace O_h1 := hide (O_h1.out.later hbb)
    clear hbb
    have O_H := hide hobj
    clear hobj
    go_wp2_with fail
    clear O_h1
    refine (eq_any _ _ _ _ _ _ zs zs true _ HK.out HK.out (by omega) (by omega) O_H.out.rd O_W.out.rd (by simp)).mono ?_
    rintro e w14 ⟨rfl, hqq⟩
    have HB14 := hide (HB13.out.trans (hqq.below _))
    have Z14 := hide (hqq.below 0).size
    replace O_W := hide (O_W.out.later (hqq.below _))
    replace O_G := hide (O_G.out.later (hqq.below _))
    replace O_H := hide (O_H.out.later (hqq.below _))
    clear hqq
    go_wp2_with fail
    refine (held_any _ _ _ _ _ (by omega) (by omega) (by omega) O_G.out.rd).mono ?_
    rintro e w15 ⟨rfl, hqq⟩
    have HB15 := hide (HB14.out.trans (hqq.below _))
    have Z15 := hide (hqq.below 0).size
    replace O_W := hide (O_W.out.later (hqq.below _))
    replace O_G := hide (O_G.out.later (hqq.below _))
    replace O_H := hide (O_H.out.later (hqq.below _))
    clear hqq
    go_wp2_with fail
    go_ret
    exact ⟨rfl, HB15.out⟩
end Go.Proofs.Ytnpdplpinmfepaa
