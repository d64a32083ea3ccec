import Derived.Test.YtpkfcjpppncbiaaZo
import Derived.Test.YtpkfcjpppncbiaaZa
import Derived.Test.YtpkfcjpppncbiaaZab
namespace Go.Proofs.Ytpkfcjpppncbiaa
open Go Go.RowKit
set_option maxHeartbeats 4000000

set_option maxRecDepth 20000 in
theorem law_RackText (a0 : Option Addr) (n0 c0 : Nat) (x0 : List (List Int)) (w : World) (hn0 : x0.length = n0) (hb0 : n0 ≤ 9223372036854775807) (hbs0 : ∀ i, i < x0.length → (x0.getD i []).length ≤ 9223372036854775807) (hr0 : Rd2 w a0 x0) :
    Calls Try.prog 3 #[.agg #[.slice a0 n0 c0]] w fun e w' => e = .returned (.bool true) ∧ Below w.heap.size w w' := by
  have HN0 := hide hn0
  clear hn0
  obtain ⟨v, code, hres⟩ := RkTx.ex x0
  have HRES := hide hres
  clear hres
  go_enter Try.func3, Try.ntmps3
  go_wp2_with fail
  refine calls_gen fun wb hwb => ?_
  have HB0 : Hid (Below w.heap.size w wb) := hide (by rw [hwb]; exact (Below.refl _ w).alloc (by simp <;> omega) (Obj.cells #[Value.slice a0 n0 c0] 24))
  have ZB : Hid (wb.heap.size = w.heap.size + 1) := hide (by rw [hwb]; simp <;> omega)
  have O_K0 : Hid (Blk wb w.heap.size 24 [.slice a0 n0 c0]) := hide (by rw [hwb]; exact Blk.new w 24 [.slice a0 n0 c0])
  clear hwb
  refine (szK_any _ _ _ x0 1048576 _ HN0.out hb0 hbs0 (by omega) (by omega) (hr0.later HB0.out)).mono ?_
  rintro e w1 ⟨l0, hsd0, rfl, hbb⟩
  have HB1 := hide (HB0.out.trans (hbb.mono HB0.out.size))
  have Z1 := hide (hbb).size
  replace O_K0 := hide (O_K0.out.later hbb)
  clear hbb
  rcases hsd0 with rfl | ⟨p0, q0, u0, y0⟩
  · go_wp2_with fail
    go_ret
    exact ⟨rfl, HB1.out⟩
  · have U0 := hide u0
    have Y0 := hide y0
    clear u0 y0 hbs0
    have m0 : n0 ≤ 1048576 := by have := U0.out; have := HN0.out; omega
    have kbK00 := O_K0.out.cell 0 _ rfl
    go_wp2_with fail
    clear kbK00
    have hcc : (code != code) = false := by simp
    have hvv : (!(v.toList == v.toList)) = false := by simp
    refine (copyK _ _ _ x0 _ HN0.out m0 (fun i hi => by have := Y0.out i hi; omega) (hr0.later HB1.out)).mono ?_
    rintro e w2 ⟨A_s0, c_s0, rfl, hbb, hobj⟩
    have HB2 := hide (HB1.out.trans (hbb.mono HB1.out.size))
    have Z2 := hide (hbb).size
    replace O_K0 := hide (O_K0.out.later hbb)
    clear hbb
    have O_s0 := hide hobj
    clear hobj
    have kbK00 := O_K0.out.cell 0 _ rfl
    go_wp2_with fail
    clear kbK00
    refine (rkTxS _ _ _ x0 v code _ HN0.out m0 (fun i hi => by have := Y0.out i hi; omega) O_s0.out.rd HRES.out).mono ?_
    rintro e w3 ⟨rfl, hbb⟩
    have HB3 := hide (HB2.out.trans (hbb.mono HB2.out.size))
    have Z3 := hide (hbb).size
    replace O_K0 := hide (O_K0.out.later hbb)
    replace O_s0 := hide (O_s0.out.later hbb)
    clear hbb
    have kbK00 := O_K0.out.cell 0 _ rfl
    go_wp2_with fail
    clear kbK00
    clear O_s0
    refine (copyK _ _ _ x0 _ HN0.out m0 (fun i hi => by have := Y0.out i hi; omega) (hr0.later HB3.out)).mono ?_
    rintro e w4 ⟨A_x0, c_x0, rfl, hbb, hobj⟩
    have HB4 := hide (HB3.out.trans (hbb.mono HB3.out.size))
    have Z4 := hide (hbb).size
    replace O_K0 := hide (O_K0.out.later hbb)
    clear hbb
    have O_x0 := hide hobj
    clear hobj
    have kbK00 := O_K0.out.cell 0 _ rfl
    have kcK00 := fun o => (O_K0.out.alloc o).cell 0 _ rfl
    go_wp2_with fail
    clear kbK00 kcK00
    refine calls_gen fun w5 hw5 => ?_
    have O_Bx0 : Hid (Blk w5 w4.heap.size 28 [.slice A_x0 n0 c_x0]) := hide (by rw [hw5]; exact Blk.new _ _ _)
    have hbx : Below w4.heap.size w4 w5 := by rw [hw5]; exact (Below.refl _ _).alloc (Nat.le_refl _) _
    have ZE : Hid (w5.heap.size = w4.heap.size + 1) := hide (by rw [hw5]; simp)
    clear hw5
    have HB5 := hide (HB4.out.trans (hbx.mono HB4.out.size))
    have Z5 := hide (hbx).size
    replace O_K0 := hide (O_K0.out.later hbx)
    replace O_x0 := hide (O_x0.out.later hbx)
    clear hbx
    replace Z5 := ZE
    clear ZE
    refine (rkTxI _ _ _ x0 v code _ HN0.out m0 (fun i hi => by have := Y0.out i hi; omega) O_x0.out.rd HRES.out).mono ?_
    rintro e w6 ⟨rfl, hbb⟩
    have HB6 := hide (HB5.out.trans (hbb.mono HB5.out.size))
    have Z6 := hide (hbb).size
    replace O_K0 := hide (O_K0.out.later hbb)
    replace O_x0 := hide (O_x0.out.later hbb)
    replace O_Bx0 := hide (O_Bx0.out.later hbb)
    clear hbb
    have kbK00 := O_K0.out.cell 0 _ rfl
    have kbBx00 := O_Bx0.out.cell 0 _ rfl
    go_wp2_with fail
    clear kbK00 kbBx00
    have kbK00 := O_K0.out.cell 0 _ rfl
    have kbBx00 := O_Bx0.out.cell 0 _ rfl
    have HKK : Hid True := hide trivial
    go_region_held3 (fun w' => w'.cell? ⟨w.heap.size, 0, none⟩ = some (.slice a0 n0 c0) ∧ w'.cell? ⟨w4.heap.size, 0, none⟩ = some (.slice A_x0 n0 c_x0)) (first | exact ⟨kbK00, kbBx00⟩ | go_keep) (first | (go_at_call 8; go_must (refine calls_gen fun w7 hw7 => ?_; have hbx : Below w6.heap.size w6 w7 := (by rw [hw7]; exact (Below.refl _ _).drew); clear hw7; have HB7 := hide (HB6.out.trans (hbx.mono HB6.out.size)); have Z7 := hide (hbx).size; replace O_K0 := hide (O_K0.out.later hbx); replace O_x0 := hide (O_x0.out.later hbx); replace O_Bx0 := hide (O_Bx0.out.later hbx); clear hbx; refine (copyK _ _ _ x0 _ HN0.out m0 (fun i hi => by have := Y0.out i hi; omega) (hr0.later HB7.out)).mono ?_; rintro e w8 ⟨A_y0, c_y0, rfl, hbb, hobj⟩; have HB8 := hide (HB7.out.trans (hbb.mono HB7.out.size)); have Z8 := hide (hbb).size; replace O_K0 := hide (O_K0.out.later hbb); replace O_x0 := hide (O_x0.out.later hbb); replace O_Bx0 := hide (O_Bx0.out.later hbb); clear hbb; have O_y0 := hide hobj; clear hobj; have kbK00 := O_K0.out.cell 0 _ rfl; have kbBx00 := O_Bx0.out.cell 0 _ rfl)) | (go_at_call 10; go_must (refine (eqK_any _ _ _ _ _ _ x0 x0 true _ HN0.out HN0.out m0 m0 (fun i hi => by have := Y0.out i hi; omega) (fun i hi => by have := Y0.out i hi; omega) O_x0.out.rd O_y0.out.rd (by simp)).mono ?_; rintro e w9 ⟨rfl, hbb⟩; have HB9 := hide (HB8.out.trans (hbb.mono HB8.out.size)); have Z9 := hide (hbb).size; replace O_K0 := hide (O_K0.out.later hbb); replace O_x0 := hide (O_x0.out.later hbb); replace O_Bx0 := hide (O_Bx0.out.later hbb); replace O_y0 := hide (O_y0.out.later hbb); clear hbb; have kbK00 := O_K0.out.cell 0 _ rfl; have kbBx00 := O_Bx0.out.cell 0 _ rfl)))
    clear HKK kbK00 kbBx00
    have kbK00 := O_K0.out.cell 0 _ rfl
    have kbBx00 := O_Bx0.out.cell 0 _ rfl
    go_wp2_with fail
    clear kbK00 kbBx00
    clear O_y0
    go_ret
    exact ⟨rfl, HB9.out⟩
end Go.Proofs.Ytpkfcjpppncbiaa
