import Derived.Test.YtkagfjofjbpfeaaZk
import Derived.Test.YtkagfjofjbpfeaaZf
import Derived.Test.YtkagfjofjbpfeaaZbv
import Derived.Test.YtkagfjofjbpfeaaZbw
namespace Go.Proofs.Ytkagfjofjbpfeaa
open Go Go.RowKit
set_option maxHeartbeats 4000000

theorem law_TableText (a0 : Option Addr) (n0 c0 : Nat) (x0 : List (List Int)) (w : World) (hn0 : x0.length = n0) (hb0 : n0 ≤ 9223372036854775807) (hbs0 : ∀ i, i < x0.length → (x0.getD i []).length ≤ 9223372036854775807) (hr0 : Rd2 w a0 x0) :
    Calls Try.prog 9 #[.slice a0 n0 c0] w fun e w' => e = .returned (.bool true) ∧ Below w.heap.size w w' := by
  have HN0 := hide hn0
  clear hn0
  obtain ⟨v, code, hres⟩ := TTextRes.ex x0
  have HRES := hide hres
  clear hres
  go_enter Try.func9, Try.ntmps9
  go_wp2_with fail
  refine (szz_any _ _ _ x0 1048576 _ HN0.out hb0 hbs0 (by omega) (by omega) hr0).mono ?_
  rintro e w0 ⟨l0, hs0, rfl, rfl⟩
  rcases hs0 with rfl | ⟨p0, q0, u0, y0⟩
  · go_wp2_with fail
    go_ret
    exact ⟨rfl, Below.refl _ _⟩
  · have U0 := hide u0
    have Y0 := hide y0
    clear u0 y0 hbs0
    have m0 : n0 ≤ 1048576 := by have := U0.out; have := HN0.out; omega
    go_wp2_with fail
    have HB0 : Hid (Below w.heap.size w w) := hide (Below.refl _ _)
    have hcc : (code != code) = false := by simp
    have hvv : (!(v.toList == v.toList)) = false := by simp
    refine (copyT _ _ _ x0 _ HN0.out m0 (fun i hi => by have := Y0.out i hi; omega) (hr0.later HB0.out)).mono ?_
    rintro e w1 ⟨A_s0, rfl, hbb, hobj⟩
    have HB1 := hide (HB0.out.trans (hbb.mono HB0.out.size))
    have Z1 := hide (hbb).size
    clear hbb
    have O_s0 := hide hobj
    clear hobj
    go_wp2_with fail
    refine (ttextWS_any _ _ _ x0 v code _ HN0.out m0 (fun i hi => by have := Y0.out i hi; omega) O_s0.out.rd HRES.out).mono ?_
    rintro e w2 ⟨rfl, hbb⟩
    have HB2 := hide (HB1.out.trans (hbb.mono HB1.out.size))
    have Z2 := hide (hbb).size
    replace O_s0 := hide (O_s0.out.later hbb)
    clear hbb
    go_wp2_with fail
    clear O_s0
    refine (copyT _ _ _ x0 _ HN0.out m0 (fun i hi => by have := Y0.out i hi; omega) (hr0.later HB2.out)).mono ?_
    rintro e w3 ⟨A_x0, rfl, hbb, hobj⟩
    have HB3 := hide (HB2.out.trans (hbb.mono HB2.out.size))
    have Z3 := hide (hbb).size
    clear hbb
    have O_x0 := hide hobj
    clear hobj
    go_wp2_with fail
    refine (ttextWI_any _ _ _ x0 v code _ HN0.out m0 (fun i hi => by have := Y0.out i hi; omega) O_x0.out.rd HRES.out).mono ?_
    rintro e w4 ⟨rfl, hbb⟩
    have HB4 := hide (HB3.out.trans (hbb.mono HB3.out.size))
    have Z4 := hide (hbb).size
    replace O_x0 := hide (O_x0.out.later hbb)
    clear hbb
    go_wp2_with fail
    refine (copyT _ _ _ x0 _ HN0.out m0 (fun i hi => by have := Y0.out i hi; omega) (hr0.later HB4.out)).mono ?_
    rintro e w5 ⟨A_y0, rfl, hbb, hobj⟩
    have HB5 := hide (HB4.out.trans (hbb.mono HB4.out.size))
    have Z5 := hide (hbb).size
    replace O_x0 := hide (O_x0.out.later hbb)
    clear hbb
    have O_y0 := hide hobj
    clear hobj
    go_wp2_with fail
    refine (eqq_any _ _ _ _ _ _ x0 x0 true _ HN0.out HN0.out (by omega) (by omega) (fun i hi => by have := Y0.out i hi; omega) (fun i hi => by have := Y0.out i hi; omega) O_x0.out.rd O_y0.out.rd (by simp)).mono ?_
    rintro e w6 ⟨rfl, hqq⟩
    have HB6 := hide (HB5.out.trans (hqq.below _))
    have Z6 := hide (hqq.below 0).size
    replace O_x0 := hide (O_x0.out.later (hqq.below _))
    replace O_y0 := hide (O_y0.out.later (hqq.below _))
    clear hqq
    go_wp2_with fail
    clear O_y0
    go_ret
    exact ⟨rfl, HB6.out⟩
end Go.Proofs.Ytkagfjofjbpfeaa
