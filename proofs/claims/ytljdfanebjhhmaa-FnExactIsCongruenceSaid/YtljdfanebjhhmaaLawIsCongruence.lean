import Derived.Test.YtljdfanebjhhmaaZn
import Derived.Test.YtljdfanebjhhmaaZa
import Derived.Test.YtljdfanebjhhmaaZh
import Derived.Test.YtljdfanebjhhmaaZb
import Derived.Test.YtljdfanebjhhmaaZbc
import Derived.Test.YtljdfanebjhhmaaZax
namespace Go.Proofs.Ytljdfanebjhhmaa
open Go Go.RowKit
set_option maxHeartbeats 4000000

set_option maxRecDepth 20000 in
theorem law_IsCongruence (a0 : Option Addr) (n0 c0 : Nat) (x0 : List (List Int)) (a1 : Option Addr) (n1 c1 : Nat) (x1 : List Int) (w : World) (hn0 : x0.length = n0) (hb0 : n0 ≤ 9223372036854775807) (hbs0 : ∀ i, i < x0.length → (x0.getD i []).length ≤ 9223372036854775807) (hr0 : Rd2 w a0 x0) (hn1 : x1.length = n1) (hb1 : n1 ≤ 9223372036854775807) (hr1 : Rd w a1 x1) :
    Calls Try.prog 5 #[.agg #[.slice a0 n0 c0], .slice a1 n1 c1] w fun e w' => e = .returned (.bool true) ∧ Below w.heap.size w w' := by
  have HN0 := hide hn0
  clear hn0
  have HN1 := hide hn1
  clear hn1
  obtain ⟨v, code, hres⟩ := CgRes.ex x0 x1
  have HRES := hide hres
  clear hres
  by_cases m1 : n1 ≤ 1048576
  · have M1 := hide m1
    clear M1
    go_enter Try.func5, Try.ntmps5
    go_wp2_with fail
    refine calls_gen fun wb hwb => ?_
    have HB0 : Hid (Below w.heap.size w wb) := hide (by rw [hwb]; exact (Below.refl _ w).alloc (by simp <;> omega) (Obj.cells #[Value.slice a0 n0 c0] 24))
    have ZB : Hid (wb.heap.size = w.heap.size + 1) := hide (by rw [hwb]; simp <;> omega)
    have O_K0 : Hid (Blk wb w.heap.size 24 [.slice a0 n0 c0]) := hide (by rw [hwb]; exact Blk.new w 24 [.slice a0 n0 c0])
    clear hwb
    refine (szK_any _ _ _ x0 1048576 _ HN0.out hb0 hbs0 (by omega) (by omega) (hr0.later HB0.out)).mono ?_
    rintro e w1 ⟨l0, hsd0, rfl, hbb⟩
    have HB1 := hide (HB0.out.trans (hbb.mono HB0.out.size))
    have Z1 := hide (hbb).size
    replace O_K0 := hide (O_K0.out.later hbb)
    clear hbb
    rcases hsd0 with rfl | ⟨p0, q0, u0, y0⟩
    · go_wp2_with fail
      go_ret
      exact ⟨rfl, HB1.out⟩
    · have U0 := hide u0
      have Y0 := hide y0
      clear u0 y0 hbs0
      have m0 : n0 ≤ 1048576 := by have := U0.out; have := HN0.out; omega
      have kbK00 := O_K0.out.cell 0 _ rfl
      go_wp2_with fail
      clear kbK00
      have hcc : (code != code) = false := by simp
      have hvv : (v != v) = false := by simp
      refine (copyK _ _ _ x0 _ HN0.out m0 (fun i hi => by have := Y0.out i hi; omega) (hr0.later HB1.out)).mono ?_
      rintro e w2 ⟨A_s0, c_s0, rfl, hbb, hobj⟩
      have HB2 := hide (HB1.out.trans (hbb.mono HB1.out.size))
      have Z2 := hide (hbb).size
      replace O_K0 := hide (O_K0.out.later hbb)
      clear hbb
      have O_s0 := hide hobj
      clear hobj
      have kbK00 := O_K0.out.cell 0 _ rfl
      go_wp2_with fail
      clear kbK00
      refine (copyR _ _ _ x1 _ HN1.out m1 (hr1.later HB2.out)).mono ?_
      rintro e w3 ⟨A_s1, rfl, hbb, hobj⟩
      have HB3 := hide (HB2.out.trans (hbb.mono HB2.out.size))
      have Z3 := hide (hbb).size
      replace O_K0 := hide (O_K0.out.later hbb)
      replace O_s0 := hide (O_s0.out.later hbb)
      clear hbb
      have O_s1 := hide hobj
      clear hobj
      have kbK00 := O_K0.out.cell 0 _ rfl
      go_wp2_with fail
      clear kbK00
      refine (cgS_any _ _ _ x0 _ _ _ x1 v code _ HN0.out m0 (fun i hi => by have := Y0.out i hi; omega) O_s0.out.rd HN1.out m1 O_s1.out.rd HRES.out).mono ?_
      rintro e w4 ⟨rfl, hbb⟩
      have HB4 := hide (HB3.out.trans (hbb.mono HB3.out.size))
      have Z4 := hide (hbb).size
      replace O_K0 := hide (O_K0.out.later hbb)
      replace O_s0 := hide (O_s0.out.later hbb)
      replace O_s1 := hide (O_s1.out.later hbb)
      clear hbb
      have kbK00 := O_K0.out.cell 0 _ rfl
      go_wp2_with fail
      clear kbK00
      clear O_s0
      clear O_s1
      refine (copyK _ _ _ x0 _ HN0.out m0 (fun i hi => by have := Y0.out i hi; omega) (hr0.later HB4.out)).mono ?_
      rintro e w5 ⟨A_x0, c_x0, rfl, hbb, hobj⟩
      have HB5 := hide (HB4.out.trans (hbb.mono HB4.out.size))
      have Z5 := hide (hbb).size
      replace O_K0 := hide (O_K0.out.later hbb)
      clear hbb
      have O_x0 := hide hobj
      clear hobj
      have kbK00 := O_K0.out.cell 0 _ rfl
      have kcK00 := fun o => (O_K0.out.alloc o).cell 0 _ rfl
      go_wp2_with fail
      clear kbK00 kcK00
      refine calls_gen fun w6 hw6 => ?_
      have O_Bx0 : Hid (Blk w6 w5.heap.size 26 [.slice A_x0 n0 c_x0]) := hide (by rw [hw6]; exact Blk.new _ _ _)
      have hbx : Below w5.heap.size w5 w6 := by rw [hw6]; exact (Below.refl _ _).alloc (Nat.le_refl _) _
      have ZE : Hid (w6.heap.size = w5.heap.size + 1) := hide (by rw [hw6]; simp)
      clear hw6
      have HB6 := hide (HB5.out.trans (hbx.mono HB5.out.size))
      have Z6 := hide (hbx).size
      replace O_K0 := hide (O_K0.out.later hbx)
      replace O_x0 := hide (O_x0.out.later hbx)
      clear hbx
      replace Z6 := ZE
      clear ZE
      refine (copyR _ _ _ x1 _ HN1.out m1 (hr1.later HB6.out)).mono ?_
      rintro e w7 ⟨A_x1, rfl, hbb, hobj⟩
      have HB7 := hide (HB6.out.trans (hbb.mono HB6.out.size))
      have Z7 := hide (hbb).size
      replace O_K0 := hide (O_K0.out.later hbb)
      replace O_x0 := hide (O_x0.out.later hbb)
      replace O_Bx0 := hide (O_Bx0.out.later hbb)
      clear hbb
      have O_x1 := hide hobj
      clear hobj
      have kbK00 := O_K0.out.cell 0 _ rfl
      have kbBx00 := O_Bx0.out.cell 0 _ rfl
      go_wp2_with fail
      clear kbK00 kbBx00
      refine (cgI_any _ _ _ x0 _ _ _ x1 v code _ HN0.out m0 (fun i hi => by have := Y0.out i hi; omega) O_x0.out.rd HN1.out m1 O_x1.out.rd HRES.out).mono ?_
      rintro e w8 ⟨rfl, hbb⟩
      have HB8 := hide (HB7.out.trans (hbb.mono HB7.out.size))
      have Z8 := hide (hbb).size
      replace O_K0 := hide (O_K0.out.later hbb)
      replace O_x0 := hide (O_x0.out.later hbb)
      replace O_Bx0 := hide (O_Bx0.out.later hbb)
      replace O_x1 := hide (O_x1.out.later hbb)
      clear hbb
      have kbK00 := O_K0.out.cell 0 _ rfl
      have kbBx00 := O_Bx0.out.cell 0 _ rfl
      go_wp2_with fail
      clear kbK00 kbBx00
      have kbK00 := O_K0.out.cell 0 _ rfl
      have kbBx00 := O_Bx0.out.cell 0 _ rfl
      have HKK : Hid True := hide trivial
      go_region_held3 (fun w' => w'.cell? ⟨w.heap.size, 0, none⟩ = some (.slice a0 n0 c0) ∧ w'.cell? ⟨w5.heap.size, 0, none⟩ = some (.slice A_x0 n0 c_x0)) (first | exact ⟨kbK00, kbBx00⟩ | go_keep) (first | (go_at_call 12; go_must (refine calls_gen fun w9 hw9 => ?_; have hbx : Below w8.heap.size w8 w9 := (by rw [hw9]; exact (Below.refl _ _).drew); clear hw9; have HB9 := hide (HB8.out.trans (hbx.mono HB8.out.size)); have Z9 := hide (hbx).size; replace O_K0 := hide (O_K0.out.later hbx); replace O_x0 := hide (O_x0.out.later hbx); replace O_Bx0 := hide (O_Bx0.out.later hbx); replace O_x1 := hide (O_x1.out.later hbx); clear hbx; refine (copyK _ _ _ x0 _ HN0.out m0 (fun i hi => by have := Y0.out i hi; omega) (hr0.later HB9.out)).mono ?_; rintro e w10 ⟨A_y0, c_y0, rfl, hbb, hobj⟩; have HB10 := hide (HB9.out.trans (hbb.mono HB9.out.size)); have Z10 := hide (hbb).size; replace O_K0 := hide (O_K0.out.later hbb); replace O_x0 := hide (O_x0.out.later hbb); replace O_Bx0 := hide (O_Bx0.out.later hbb); replace O_x1 := hide (O_x1.out.later hbb); clear hbb; have O_y0 := hide hobj; clear hobj; have kbK00 := O_K0.out.cell 0 _ rfl; have kbBx00 := O_Bx0.out.cell 0 _ rfl)) | (go_at_call 14; go_must (refine (eqK_any _ _ _ _ _ _ x0 x0 true _ HN0.out HN0.out m0 m0 (fun i hi => by have := Y0.out i hi; omega) (fun i hi => by have := Y0.out i hi; omega) O_x0.out.rd O_y0.out.rd (by simp)).mono ?_; rintro e w11 ⟨rfl, hbb⟩; have HB11 := hide (HB10.out.trans (hbb.mono HB10.out.size)); have Z11 := hide (hbb).size; replace O_K0 := hide (O_K0.out.later hbb); replace O_x0 := hide (O_x0.out.later hbb); replace O_Bx0 := hide (O_Bx0.out.later hbb); replace O_x1 := hide (O_x1.out.later hbb); replace O_y0 := hide (O_y0.out.later hbb); clear hbb; have kbK00 := O_K0.out.cell 0 _ rfl; have kbBx00 := O_Bx0.out.cell 0 _ rfl)))
      clear HKK kbK00 kbBx00
      have kbK00 := O_K0.out.cell 0 _ rfl
      have kbBx00 := O_Bx0.out.cell 0 _ rfl
      go_wp2_with fail
      clear kbK00 kbBx00
      clear O_y0
      refine (copyR _ _ _ x1 _ HN1.out m1 (hr1.later HB11.out)).mono ?_
      rintro e w12 ⟨A_y1, rfl, hbb, hobj⟩
      have HB12 := hide (HB11.out.trans (hbb.mono HB11.out.size))
      have Z12 := hide (hbb).size
      replace O_K0 := hide (O_K0.out.later hbb)
      replace O_x0 := hide (O_x0.out.later hbb)
      replace O_Bx0 := hide (O_Bx0.out.later hbb)
      replace O_x1 := hide (O_x1.out.later hbb)
      clear hbb
      have O_y1 := hide hobj
      clear hobj
      have kbK00 := O_K0.out.cell 0 _ rfl
      have kbBx00 := O_Bx0.out.cell 0 _ rfl
      go_wp2_with fail
      clear kbK00 kbBx00
      refine (eq_any _ _ _ _ _ _ x1 x1 true _ HN1.out HN1.out (by omega) (by omega) O_x1.out.rd O_y1.out.rd (by simp)).mono ?_
      rintro e w13 ⟨rfl, hqq⟩
      have HB13 := hide (HB12.out.trans (hqq.below _))
      have Z13 := hide (hqq.below 0).size
      replace O_K0 := hide (O_K0.out.later (hqq.below _))
      replace O_x0 := hide (O_x0.out.later (hqq.below _))
      replace O_Bx0 := hide (O_Bx0.out.later (hqq.below _))
      replace O_x1 := hide (O_x1.out.later (hqq.below _))
      replace O_y1 := hide (O_y1.out.later (hqq.below _))
      clear hqq
      have kbK00 := O_K0.out.cell 0 _ rfl
      have kbBx00 := O_Bx0.out.cell 0 _ rfl
      go_wp2_with fail
      clear kbK00 kbBx00
      clear O_y1
      go_ret
      exact ⟨rfl, HB13.out⟩
  · go_enter Try.func5, Try.ntmps5
    go_wp2_with fail
    go_ret
    exact ⟨rfl, by first | exact Below.refl _ _ | exact (Below.refl _ _).alloc (Nat.le_refl _) _⟩
end Go.Proofs.Ytljdfanebjhhmaa
