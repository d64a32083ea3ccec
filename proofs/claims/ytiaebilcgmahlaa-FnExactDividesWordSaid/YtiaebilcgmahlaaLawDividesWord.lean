import Derived.Test.YtiaebilcgmahlaaQa
import Derived.Test.YtiaebilcgmahlaaQe
import Derived.Test.YtiaebilcgmahlaaQc
import Derived.Test.YtiaebilcgmahlaaQq
namespace Go.Proofs.Ytiaebilcgmahlaa
open Go Go.RowKit
set_option maxHeartbeats 4000000

theorem law_DividesWord (a0 : Option Addr) (n0 c0 : Nat) (f0 : List (List Int)) (b0 : Option Addr) (m0 d0 : Nat) (s0 : List (List Int)) (a1 : Option Addr) (n1 c1 : Nat) (x1 : List Int) (a2 : Option Addr) (n2 c2 : Nat) (x2 : List Int) (w : World) (hz0 : ZSz 9223372036854775807 f0 n0 s0 m0) (hr0 : Rd2 w a0 f0) (hs0 : Rd2 w b0 s0) (hn1 : x1.length = n1) (hb1 : n1 ≤ 9223372036854775807) (hr1 : Rd w a1 x1) (hn2 : x2.length = n2) (hb2 : n2 ≤ 9223372036854775807) (hr2 : Rd w a2 x2) :
    Calls Try.prog 10 #[.agg #[.slice a0 n0 c0, .slice b0 m0 d0], .slice a1 n1 c1, .slice a2 n2 c2] w fun e w' => e = .returned (.bool true) ∧ Below w.heap.size w w' := by
  have HN1 := hide hn1
  clear hn1
  have HN2 := hide hn2
  clear hn2
  obtain ⟨v, code, hres⟩ := DvR.ex f0 s0 x1 x2
  have HRES := hide hres
  clear hres
  by_cases m1 : n1 ≤ 1048576
  · have M1 := hide m1
    clear M1
    by_cases m2 : n2 ≤ 1048576
    · have M2 := hide m2
      clear M2
      go_enter Try.func10, Try.ntmps10
      go_wp2_with fail
      refine calls_gen fun wb hwb => ?_
      have HB0 : Hid (Below w.heap.size w wb) := hide (by rw [hwb]; exact (Below.refl _ w).alloc (by simp <;> omega) (Obj.cells #[Value.slice a0 n0 c0, Value.slice b0 m0 d0] 24))
      have ZB : Hid (wb.heap.size = w.heap.size + 1) := hide (by rw [hwb]; simp <;> omega)
      have O_K0 : Hid (Blk wb (w.heap.size) 24 [.slice a0 n0 c0, .slice b0 m0 d0]) := hide (by rw [hwb]; have h := Blk.new w 24 [.slice a0 n0 c0, .slice b0 m0 d0]; simpa using h)
      clear hwb
      refine (szZ_any _ _ _ f0 _ _ _ s0 1048576 _ ⟨hz0, hr0.later HB0.out, hs0.later HB0.out⟩ (by omega) (by omega)).mono ?_
      rintro e w1 ⟨l0, hsd0, rfl, hbb⟩
      have HB1 := hide (HB0.out.trans (hbb.mono HB0.out.size))
      have Z1 := hide (hbb).size
      replace O_K0 := hide (O_K0.out.later hbb)
      clear hbb
      rcases hsd0 with rfl | ⟨p0, q0, y0⟩
      · go_wp2_with fail
        go_ret
        exact ⟨rfl, HB1.out⟩
      · have Y0 := hide y0
        clear y0 hz0
        have kbK00 := O_K0.out.cell 0 _ rfl
        have kbK01 := O_K0.out.cell 1 _ rfl
        go_wp2_with fail
        clear kbK00 kbK01
        have hcc : (code != code) = false := by simp
        have hvv : (v != v) = false := by simp
        refine (copyZ _ _ _ f0 _ _ _ s0 _ ⟨Y0.out, hr0.later HB1.out, hs0.later HB1.out⟩).mono ?_
        rintro e w2 ⟨A_s0, c_s0, B_s0, d_s0, rfl, hbb, hobj⟩
        have HB2 := hide (HB1.out.trans (hbb.mono HB1.out.size))
        have Z2 := hide (hbb).size
        replace O_K0 := hide (O_K0.out.later hbb)
        clear hbb
        have O_s0 := hide hobj
        clear hobj
        have kbK00 := O_K0.out.cell 0 _ rfl
        have kbK01 := O_K0.out.cell 1 _ rfl
        go_wp2_with fail
        clear kbK00 kbK01
        refine (copyR _ _ _ x1 _ HN1.out m1 (hr1.later HB2.out)).mono ?_
        rintro e w3 ⟨A_s1, rfl, hbb, hobj⟩
        have HB3 := hide (HB2.out.trans (hbb.mono HB2.out.size))
        have Z3 := hide (hbb).size
        replace O_K0 := hide (O_K0.out.later hbb)
        replace O_s0 := hide (O_s0.out.later hbb)
        clear hbb
        have O_s1 := hide hobj
        clear hobj
        have kbK00 := O_K0.out.cell 0 _ rfl
        have kbK01 := O_K0.out.cell 1 _ rfl
        go_wp2_with fail
        clear kbK00 kbK01
        refine (copyR _ _ _ x2 _ HN2.out m2 (hr2.later HB3.out)).mono ?_
        rintro e w4 ⟨A_s2, rfl, hbb, hobj⟩
        have HB4 := hide (HB3.out.trans (hbb.mono HB3.out.size))
        have Z4 := hide (hbb).size
        replace O_K0 := hide (O_K0.out.later hbb)
        replace O_s0 := hide (O_s0.out.later hbb)
        replace O_s1 := hide (O_s1.out.later hbb)
        clear hbb
        have O_s2 := hide hobj
        clear hobj
        have kbK00 := O_K0.out.cell 0 _ rfl
        have kbK01 := O_K0.out.cell 1 _ rfl
        go_wp2_with fail
        clear kbK00 kbK01
        refine (dvS _ _ _ f0 _ _ _ s0 _ _ x1 _ _ x2 v code _ ⟨Y0.out, O_s0.out.fst, O_s0.out.snd⟩ HN1.out m1 O_s1.out.rd HN2.out m2 O_s2.out.rd HRES.out).mono ?_
        rintro e w5 ⟨rfl, hbb⟩
        have HB5 := hide (HB4.out.trans (hbb.mono HB4.out.size))
        have Z5 := hide (hbb).size
        replace O_K0 := hide (O_K0.out.later hbb)
        replace O_s0 := hide (O_s0.out.later hbb)
        replace O_s1 := hide (O_s1.out.later hbb)
        replace O_s2 := hide (O_s2.out.later hbb)
        clear hbb
        have kbK00 := O_K0.out.cell 0 _ rfl
        have kbK01 := O_K0.out.cell 1 _ rfl
        go_wp2_with fail
        clear kbK00 kbK01
        clear O_s0
        clear O_s1
        clear O_s2
        refine (copyZ _ _ _ f0 _ _ _ s0 _ ⟨Y0.out, hr0.later HB5.out, hs0.later HB5.out⟩).mono ?_
        rintro e w6 ⟨A_x0, c_x0, B_x0, d_x0, rfl, hbb, hobj⟩
        have HB6 := hide (HB5.out.trans (hbb.mono HB5.out.size))
        have Z6 := hide (hbb).size
        replace O_K0 := hide (O_K0.out.later hbb)
        clear hbb
        have O_x0 := hide hobj
        clear hobj
        have kbK00 := O_K0.out.cell 0 _ rfl
        have kcK00 := fun o => (O_K0.out.alloc o).cell 0 _ rfl
        have kbK01 := O_K0.out.cell 1 _ rfl
        have kcK01 := fun o => (O_K0.out.alloc o).cell 1 _ rfl
        go_wp2_with fail
        clear kbK00 kcK00 kbK01 kcK01
        refine calls_gen fun w7 hw7 => ?_
        have O_Bx0 : Hid (Blk w7 w6.heap.size 29 [.slice A_x0 n0 c_x0, .slice B_x0 m0 d_x0]) := hide (by rw [hw7]; exact Blk.new _ _ _)
        have hbx : Below w6.heap.size w6 w7 := by rw [hw7]; exact (Below.refl _ _).alloc (Nat.le_refl _) _
        have ZE : Hid (w7.heap.size = w6.heap.size + 1) := hide (by rw [hw7]; simp)
        clear hw7
        have HB7 := hide (HB6.out.trans (hbx.mono HB6.out.size))
        have Z7 := hide (hbx).size
        replace O_K0 := hide (O_K0.out.later hbx)
        replace O_x0 := hide (O_x0.out.later hbx)
        clear hbx
        replace Z7 := ZE
        clear ZE
        refine (copyR _ _ _ x1 _ HN1.out m1 (hr1.later HB7.out)).mono ?_
        rintro e w8 ⟨A_x1, rfl, hbb, hobj⟩
        have HB8 := hide (HB7.out.trans (hbb.mono HB7.out.size))
        have Z8 := hide (hbb).size
        replace O_K0 := hide (O_K0.out.later hbb)
        replace O_x0 := hide (O_x0.out.later hbb)
        replace O_Bx0 := hide (O_Bx0.out.later hbb)
        clear hbb
        have O_x1 := hide hobj
        clear hobj
        have kbK00 := O_K0.out.cell 0 _ rfl
        have kbK01 := O_K0.out.cell 1 _ rfl
        have kbBx00 := O_Bx0.out.cell 0 _ rfl
        have kbBx01 := O_Bx0.out.cell 1 _ rfl
        go_wp2_with fail
        clear kbK00 kbK01 kbBx00 kbBx01
        refine (copyR _ _ _ x2 _ HN2.out m2 (hr2.later HB8.out)).mono ?_
        rintro e w9 ⟨A_x2, rfl, hbb, hobj⟩
        have HB9 := hide (HB8.out.trans (hbb.mono HB8.out.size))
        have Z9 := hide (hbb).size
        replace O_K0 := hide (O_K0.out.later hbb)
        replace O_x0 := hide (O_x0.out.later hbb)
        replace O_Bx0 := hide (O_Bx0.out.later hbb)
        replace O_x1 := hide (O_x1.out.later hbb)
        clear hbb
        have O_x2 := hide hobj
        clear hobj
        have kbK00 := O_K0.out.cell 0 _ rfl
        have kbK01 := O_K0.out.cell 1 _ rfl
        have kbBx00 := O_Bx0.out.cell 0 _ rfl
        have kbBx01 := O_Bx0.out.cell 1 _ rfl
        go_wp2_with fail
        clear kbK00 kbK01 kbBx00 kbBx01
        refine (dvI _ _ _ f0 _ _ _ s0 _ _ _ x1 _ _ _ x2 v code _ ⟨Y0.out, O_x0.out.fst, O_x0.out.snd⟩ HN1.out m1 O_x1.out.rd HN2.out m2 O_x2.out.rd HRES.out).mono ?_
        rintro e w10 ⟨rfl, hbb⟩
        have HB10 := hide (HB9.out.trans (hbb.mono HB9.out.size))
        have Z10 := hide (hbb).size
        replace O_K0 := hide (O_K0.out.later hbb)
        replace O_x0 := hide (O_x0.out.later hbb)
        replace O_Bx0 := hide (O_Bx0.out.later hbb)
        replace O_x1 := hide (O_x1.out.later hbb)
        replace O_x2 := hide (O_x2.out.later hbb)
        clear hbb
        have kbK00 := O_K0.out.cell 0 _ rfl
        have kbK01 := O_K0.out.cell 1 _ rfl
        have kbBx00 := O_Bx0.out.cell 0 _ rfl
        have kbBx01 := O_Bx0.out.cell 1 _ rfl
        go_wp2_with fail
        clear kbK00 kbK01 kbBx00 kbBx01
        have kbK00 := O_K0.out.cell 0 _ rfl
        have kbK01 := O_K0.out.cell 1 _ rfl
        have kbBx00 := O_Bx0.out.cell 0 _ rfl
        have kbBx01 := O_Bx0.out.cell 1 _ rfl
        have HKK : Hid True := hide trivial
        go_region_held3 (fun w' => w'.cell? ⟨w.heap.size, 0, none⟩ = some (.slice a0 n0 c0) ∧ w'.cell? ⟨w.heap.size, 1, none⟩ = some (.slice b0 m0 d0) ∧ w'.cell? ⟨w6.heap.size, 0, none⟩ = some (.slice A_x0 n0 c_x0) ∧ w'.cell? ⟨w6.heap.size, 1, none⟩ = some (.slice B_x0 m0 d_x0)) (first | exact ⟨kbK00, kbK01, kbBx00, kbBx01⟩ | go_keep) (first | (go_at_call 17; go_must (refine calls_gen fun w11 hw11 => ?_; have hbx : Below w10.heap.size w10 w11 := (by rw [hw11]; exact (Below.refl _ _).drew); clear hw11; have HB11 := hide (HB10.out.trans (hbx.mono HB10.out.size)); have Z11 := hide (hbx).size; replace O_K0 := hide (O_K0.out.later hbx); replace O_x0 := hide (O_x0.out.later hbx); replace O_Bx0 := hide (O_Bx0.out.later hbx); replace O_x1 := hide (O_x1.out.later hbx); replace O_x2 := hide (O_x2.out.later hbx); clear hbx; refine (copyZ _ _ _ f0 _ _ _ s0 _ ⟨Y0.out, hr0.later HB11.out, hs0.later HB11.out⟩).mono ?_; rintro e w12 ⟨A_y0, c_y0, B_y0, d_y0, rfl, hbb, hobj⟩; have HB12 := hide (HB11.out.trans (hbb.mono HB11.out.size)); have Z12 := hide (hbb).size; replace O_K0 := hide (O_K0.out.later hbb); replace O_x0 := hide (O_x0.out.later hbb); replace O_Bx0 := hide (O_Bx0.out.later hbb); replace O_x1 := hide (O_x1.out.later hbb); replace O_x2 := hide (O_x2.out.later hbb); clear hbb; have O_y0 := hide hobj; clear hobj; have kbK00 := O_K0.out.cell 0 _ rfl; have kbK01 := O_K0.out.cell 1 _ rfl; have kbBx00 := O_Bx0.out.cell 0 _ rfl; have kbBx01 := O_Bx0.out.cell 1 _ rfl)) | (go_at_call 21; go_must (refine (eqZ_any _ _ _ f0 _ _ _ s0 _ _ _ f0 _ _ _ s0 true _ ⟨Y0.out, O_x0.out.fst, O_x0.out.snd⟩ ⟨Y0.out, O_y0.out.fst, O_y0.out.snd⟩ (by simp)).mono ?_; rintro e w13 ⟨rfl, hbb⟩; have HB13 := hide (HB12.out.trans (hbb.mono HB12.out.size)); have Z13 := hide (hbb).size; replace O_K0 := hide (O_K0.out.later hbb); replace O_x0 := hide (O_x0.out.later hbb); replace O_Bx0 := hide (O_Bx0.out.later hbb); replace O_x1 := hide (O_x1.out.later hbb); replace O_x2 := hide (O_x2.out.later hbb); replace O_y0 := hide (O_y0.out.later hbb); clear hbb; have kbK00 := O_K0.out.cell 0 _ rfl; have kbK01 := O_K0.out.cell 1 _ rfl; have kbBx00 := O_Bx0.out.cell 0 _ rfl; have kbBx01 := O_Bx0.out.cell 1 _ rfl)))
        clear HKK kbK00 kbK01 kbBx00 kbBx01
        have kbK00 := O_K0.out.cell 0 _ rfl
        have kbK01 := O_K0.out.cell 1 _ rfl
        have kbBx00 := O_Bx0.out.cell 0 _ rfl
        have kbBx01 := O_Bx0.out.cell 1 _ rfl
        go_wp2_with fail
        clear kbK00 kbK01 kbBx00 kbBx01
        clear O_y0
        refine (copyR _ _ _ x1 _ HN1.out m1 (hr1.later HB13.out)).mono ?_
        rintro e w14 ⟨A_y1, rfl, hbb, hobj⟩
        have HB14 := hide (HB13.out.trans (hbb.mono HB13.out.size))
        have Z14 := hide (hbb).size
        replace O_K0 := hide (O_K0.out.later hbb)
        replace O_x0 := hide (O_x0.out.later hbb)
        replace O_Bx0 := hide (O_Bx0.out.later hbb)
        replace O_x1 := hide (O_x1.out.later hbb)
        replace O_x2 := hide (O_x2.out.later hbb)
        clear hbb
        have O_y1 := hide hobj
        clear hobj
        have kbK00 := O_K0.out.cell 0 _ rfl
        have kbK01 := O_K0.out.cell 1 _ rfl
        have kbBx00 := O_Bx0.out.cell 0 _ rfl
        have kbBx01 := O_Bx0.out.cell 1 _ rfl
        go_wp2_with fail
        clear kbK00 kbK01 kbBx00 kbBx01
        refine (eq_any _ _ _ _ _ _ x1 x1 true _ HN1.out HN1.out (by omega) (by omega) O_x1.out.rd O_y1.out.rd (by simp)).mono ?_
        rintro e w15 ⟨rfl, hqq⟩
        have HB15 := hide (HB14.out.trans (hqq.below _))
        have Z15 := hide (hqq.below 0).size
        replace O_K0 := hide (O_K0.out.later (hqq.below _))
        replace O_x0 := hide (O_x0.out.later (hqq.below _))
        replace O_Bx0 := hide (O_Bx0.out.later (hqq.below _))
        replace O_x1 := hide (O_x1.out.later (hqq.below _))
        replace O_x2 := hide (O_x2.out.later (hqq.below _))
        replace O_y1 := hide (O_y1.out.later (hqq.below _))
        clear hqq
        have kbK00 := O_K0.out.cell 0 _ rfl
        have kbK01 := O_K0.out.cell 1 _ rfl
        have kbBx00 := O_Bx0.out.cell 0 _ rfl
        have kbBx01 := O_Bx0.out.cell 1 _ rfl
        go_wp2_with fail
        clear kbK00 kbK01 kbBx00 kbBx01
        clear O_y1
        refine (copyR _ _ _ x2 _ HN2.out m2 (hr2.later HB15.out)).mono ?_
        rintro e w16 ⟨A_y2, rfl, hbb, hobj⟩
        have HB16 := hide (HB15.out.trans (hbb.mono HB15.out.size))
        have Z16 := hide (hbb).size
        replace O_K0 := hide (O_K0.out.later hbb)
        replace O_x0 := hide (O_x0.out.later hbb)
        replace O_Bx0 := hide (O_Bx0.out.later hbb)
        replace O_x1 := hide (O_x1.out.later hbb)
        replace O_x2 := hide (O_x2.out.later hbb)
        clear hbb
        have O_y2 := hide hobj
        clear hobj
        have kbK00 := O_K0.out.cell 0 _ rfl
        have kbK01 := O_K0.out.cell 1 _ rfl
        have kbBx00 := O_Bx0.out.cell 0 _ rfl
        have kbBx01 := O_Bx0.out.cell 1 _ rfl
        go_wp2_with fail
        clear kbK00 kbK01 kbBx00 kbBx01
        refine (eq_any _ _ _ _ _ _ x2 x2 true _ HN2.out HN2.out (by omega) (by omega) O_x2.out.rd O_y2.out.rd (by simp)).mono ?_
        rintro e w17 ⟨rfl, hqq⟩
        have HB17 := hide (HB16.out.trans (hqq.below _))
        have Z17 := hide (hqq.below 0).size
        replace O_K0 := hide (O_K0.out.later (hqq.below _))
        replace O_x0 := hide (O_x0.out.later (hqq.below _))
        replace O_Bx0 := hide (O_Bx0.out.later (hqq.below _))
        replace O_x1 := hide (O_x1.out.later (hqq.below _))
        replace O_x2 := hide (O_x2.out.later (hqq.below _))
        replace O_y2 := hide (O_y2.out.later (hqq.below _))
        clear hqq
        have kbK00 := O_K0.out.cell 0 _ rfl
        have kbK01 := O_K0.out.cell 1 _ rfl
        have kbBx00 := O_Bx0.out.cell 0 _ rfl
        have kbBx01 := O_Bx0.out.cell 1 _ rfl
        go_wp2_with fail
        clear kbK00 kbK01 kbBx00 kbBx01
        clear O_y2
        go_ret
        exact ⟨rfl, HB17.out⟩
    · go_enter Try.func10, Try.ntmps10
      go_wp2_with fail
      go_ret
      exact ⟨rfl, by first | exact Below.refl _ _ | exact (Below.refl _ _).alloc (Nat.le_refl _) _ | exact ((Below.refl _ _).alloc (Nat.le_refl _) _).alloc (by simp) _⟩
  · go_enter Try.func10, Try.ntmps10
    go_wp2_with fail
    go_ret
    exact ⟨rfl, by first | exact Below.refl _ _ | exact (Below.refl _ _).alloc (Nat.le_refl _) _ | exact ((Below.refl _ _).alloc (Nat.le_refl _) _).alloc (by simp) _⟩
end Go.Proofs.Ytiaebilcgmahlaa
