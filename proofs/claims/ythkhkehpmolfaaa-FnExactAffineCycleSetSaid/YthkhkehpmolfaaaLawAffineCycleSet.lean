import Derived.Test.YthkhkehpmolfaaaZh
import Derived.Test.YthkhkehpmolfaaaZa
import Derived.Test.YthkhkehpmolfaaaZz
import Derived.Test.YthkhkehpmolfaaaZx
namespace Go.Proofs.Ythkhkehpmolfaaa
open Go Go.RowKit
set_option maxHeartbeats 4000000

set_option maxRecDepth 20000 in
theorem law_AffineCycleSet (x0 : Int) (x1 : Int) (x2 : Int) (x3 : Int) (w : World) (hlo0 : -9223372036854775808 ≤ x0) (hhi0 : x0 ≤ 9223372036854775807) (hlo1 : -9223372036854775808 ≤ x1) (hhi1 : x1 ≤ 9223372036854775807) (hlo2 : -9223372036854775808 ≤ x2) (hhi2 : x2 ≤ 9223372036854775807) (hlo3 : -9223372036854775808 ≤ x3) (hhi3 : x3 ≤ 9223372036854775807) :
    Calls Try.prog 10 #[.int .i64 x0, .int .i64 x1, .int .i64 x2, .int .i64 x3] w fun e w' => e = .returned (.bool true) ∧ Below w.heap.size w w' := by
  obtain ⟨zs, code, hres, hzb, hzr⟩ := AfRes.ex x0 x1 x2 x3
  have HRES := hide hres
  clear hres
  obtain ⟨kz, hkz⟩ : ∃ kz, zs.length = kz := ⟨_, rfl⟩
  rw [hkz] at hzb
  have HK := hide hkz
  clear hkz
  have HZR := hide hzr
  clear hzr
  go_enter Try.func10, Try.ntmps10
  go_wp2_with fail
  refine calls_gen fun wb hwb => ?_
  have HB0 : Hid (Below w.heap.size w wb) := hide (by rw [hwb]; first | exact Below.refl _ _ | exact (Below.refl _ _).drew)
  have ZB : Hid (wb.heap.size = w.heap.size) := hide (by first | (rw [hwb]; done) | (rw [hwb]; simp))
  clear hwb
  have hcc : (code != code) = false := by simp
  have TZ := hide (tot_bound zs (by rw [HK.out]; omega) (fun i hi => by have := HZR.out i hi; omega))
  have tz0 := TZ.out
  refine (afS_any x0 x1 x2 x3 zs code kz _ hlo0 hhi0 hlo1 hhi1 hlo2 hhi2 hlo3 hhi3 HRES.out HK.out).mono ?_
  rintro e w1 ⟨A_W, c_W, rfl, hbb, hobj⟩
  have HB1 := hide (HB0.out.trans (hbb.mono HB0.out.size))
  have Z1 := hide (hbb).size
  clear hbb
  have O_W := hide hobj
  clear hobj
  go_wp2_with fail
  refine calls_gen fun w2 hw2 => ?_
  have O_BW : Hid (Blk w2 w1.heap.size 27 [.slice A_W kz c_W]) := hide (by rw [hw2]; exact Blk.new _ _ _)
  have hbx : Below w1.heap.size w1 w2 := by rw [hw2]; exact (Below.refl _ _).alloc (Nat.le_refl _) _
  have ZE : Hid (w2.heap.size = w1.heap.size + 1) := hide (by rw [hw2]; simp)
  clear hw2
  have HB2 := hide (HB1.out.trans (hbx.mono HB1.out.size))
  have Z2 := hide (hbx).size
  replace O_W := hide (O_W.out.later hbx)
  clear hbx
  replace Z2 := ZE
  clear ZE
  refine (afI_any x0 x1 x2 x3 zs code kz _ hlo0 hhi0 hlo1 hhi1 hlo2 hhi2 hlo3 hhi3 HRES.out HK.out).mono ?_
  rintro e w3 ⟨A_G, c_G, rfl, hbb, hobj⟩
  have HB3 := hide (HB2.out.trans (hbb.mono HB2.out.size))
  have Z3 := hide (hbb).size
  replace O_W := hide (O_W.out.later hbb)
  replace O_BW := hide (O_BW.out.later hbb)
  clear hbb
  have O_G := hide hobj
  clear hobj
  have kbBW0 := O_BW.out.cell 0 _ rfl
  have kcBW0 := fun o => (O_BW.out.alloc o).cell 0 _ rfl
  go_wp2_with fail
  clear kbBW0 kcBW0
  refine calls_gen fun w4 hw4 => ?_
  have O_BG : Hid (Blk w4 w3.heap.size 27 [.slice A_G kz c_G]) := hide (by rw [hw4]; exact Blk.new _ _ _)
  have hbx : Below w3.heap.size w3 w4 := by rw [hw4]; exact (Below.refl _ _).alloc (Nat.le_refl _) _
  have ZE : Hid (w4.heap.size = w3.heap.size + 1) := hide (by rw [hw4]; simp)
  clear hw4
  have HB4 := hide (HB3.out.trans (hbx.mono HB3.out.size))
  have Z4 := hide (hbx).size
  replace O_W := hide (O_W.out.later hbx)
  replace O_BW := hide (O_BW.out.later hbx)
  replace O_G := hide (O_G.out.later hbx)
  clear hbx
  replace Z4 := ZE
  clear ZE
  refine (eqCycleSet _ _ _ _ _ _ zs zs true _ HK.out HK.out (by omega) (by omega) (fun i hi => by have := HZR.out i hi; omega) (fun i hi => by have := HZR.out i hi; omega) O_G.out.rd O_W.out.rd (by simp)).mono ?_
  rintro e w5 ⟨rfl, hbb⟩
  have HB5 := hide (HB4.out.trans (hbb.mono HB4.out.size))
  have Z5 := hide (hbb).size
  replace O_W := hide (O_W.out.later hbb)
  replace O_BW := hide (O_BW.out.later hbb)
  replace O_G := hide (O_G.out.later hbb)
  replace O_BG := hide (O_BG.out.later hbb)
  clear hbb
  have kbBW0 := O_BW.out.cell 0 _ rfl
  have kbBG0 := O_BG.out.cell 0 _ rfl
  go_wp2_with fail
  clear kbBW0 kbBG0
  refine (markCycleSet 31 2 (by decide) _ _ _ _ _ _ zs _ HK.out (by omega) (fun i hi => by have := HZR.out i hi; omega) (by have tx := TZ.out; omega) (by omega) (by omega) O_G.out).mono ?_
  rintro e w6 ⟨rfl, ht, hobj⟩
  have HB6 := hide (ht.below HB5.out HB5.out.size (HB2.out.size))
  have Z6 := hide ht.size
  replace O_W := hide (O_W.out.far ht (.inl (by have z2 := Z2.out; omega)))
  replace O_BW := hide (O_BW.out.touch ht (.inl (by have z2 := Z2.out; omega)))
  replace O_BG := hide (O_BG.out.touch ht (.inr (by omega)))
  replace O_G := hide hobj
  clear ht hobj
  have kbBW0 := O_BW.out.cell 0 _ rfl
  have kbBG0 := O_BG.out.cell 0 _ rfl
  go_wp2_with fail
  clear kbBW0 kbBG0
  refine (heldCycleSet _ _ _ _ zs _ HK.out (by omega) (fun i hi => by have := HZR.out i hi; omega) (by have tx := TZ.out; omega) (by omega) (by omega) O_G.out.rd).mono ?_
  rintro e w7 ⟨rfl, hbb⟩
  have HB7 := hide (HB6.out.trans (hbb.mono HB6.out.size))
  have Z7 := hide (hbb).size
  replace O_W := hide (O_W.out.later hbb)
  replace O_BW := hide (O_BW.out.later hbb)
  replace O_G := hide (O_G.out.later hbb)
  replace O_BG := hide (O_BG.out.later hbb)
  clear hbb
  have kbBW0 := O_BW.out.cell 0 _ rfl
  have kbBG0 := O_BG.out.cell 0 _ rfl
  go_wp2_with fail
  clear kbBW0 kbBG0
  refine (afI_any x0 x1 x2 x3 zs code kz _ hlo0 hhi0 hlo1 hhi1 hlo2 hhi2 hlo3 hhi3 HRES.out HK.out).mono ?_
  rintro e w8 ⟨A_H, c_H, rfl, hbb, hobj⟩
  have HB8 := hide (HB7.out.trans (hbb.mono HB7.out.size))
  have Z8 := hide (hbb).size
  replace O_W := hide (O_W.out.later hbb)
  replace O_BW := hide (O_BW.out.later hbb)
  replace O_G := hide (O_G.out.later hbb)
  replace O_BG := hide (O_BG.out.later hbb)
  clear hbb
  have O_H := hide hobj
  clear hobj
  have kbBW0 := O_BW.out.cell 0 _ rfl
  have kcBW0 := fun o => (O_BW.out.alloc o).cell 0 _ rfl
  have kbBG0 := O_BG.out.cell 0 _ rfl
  have kcBG0 := fun o => (O_BG.out.alloc o).cell 0 _ rfl
  go_wp2_with fail
  clear kbBW0 kcBW0 kbBG0 kcBG0
  refine calls_gen fun w9 hw9 => ?_
  have O_BH : Hid (Blk w9 w8.heap.size 27 [.slice A_H kz c_H]) := hide (by rw [hw9]; exact Blk.new _ _ _)
  have hbx : Below w8.heap.size w8 w9 := by rw [hw9]; exact (Below.refl _ _).alloc (Nat.le_refl _) _
  have ZE : Hid (w9.heap.size = w8.heap.size + 1) := hide (by rw [hw9]; simp)
  clear hw9
  have HB9 := hide (HB8.out.trans (hbx.mono HB8.out.size))
  have Z9 := hide (hbx).size
  replace O_W := hide (O_W.out.later hbx)
  replace O_BW := hide (O_BW.out.later hbx)
  replace O_G := hide (O_G.out.later hbx)
  replace O_BG := hide (O_BG.out.later hbx)
  replace O_H := hide (O_H.out.later hbx)
  clear hbx
  replace Z9 := ZE
  clear ZE
  refine (eqCycleSet _ _ _ _ _ _ zs zs true _ HK.out HK.out (by omega) (by omega) (fun i hi => by have := HZR.out i hi; omega) (fun i hi => by have := HZR.out i hi; omega) O_H.out.rd O_W.out.rd (by simp)).mono ?_
  rintro e w10 ⟨rfl, hbb⟩
  have HB10 := hide (HB9.out.trans (hbb.mono HB9.out.size))
  have Z10 := hide (hbb).size
  replace O_W := hide (O_W.out.later hbb)
  replace O_BW := hide (O_BW.out.later hbb)
  replace O_G := hide (O_G.out.later hbb)
  replace O_BG := hide (O_BG.out.later hbb)
  replace O_H := hide (O_H.out.later hbb)
  replace O_BH := hide (O_BH.out.later hbb)
  clear hbb
  have kbBW0 := O_BW.out.cell 0 _ rfl
  have kbBG0 := O_BG.out.cell 0 _ rfl
  have kbBH0 := O_BH.out.cell 0 _ rfl
  go_wp2_with fail
  clear kbBW0 kbBG0 kbBH0
  refine (heldCycleSet _ _ _ _ zs _ HK.out (by omega) (fun i hi => by have := HZR.out i hi; omega) (by have tx := TZ.out; omega) (by omega) (by omega) O_G.out.rd).mono ?_
  rintro e w11 ⟨rfl, hbb⟩
  have HB11 := hide (HB10.out.trans (hbb.mono HB10.out.size))
  have Z11 := hide (hbb).size
  replace O_W := hide (O_W.out.later hbb)
  replace O_BW := hide (O_BW.out.later hbb)
  replace O_G := hide (O_G.out.later hbb)
  replace O_BG := hide (O_BG.out.later hbb)
  replace O_H := hide (O_H.out.later hbb)
  replace O_BH := hide (O_BH.out.later hbb)
  clear hbb
  have kbBW0 := O_BW.out.cell 0 _ rfl
  have kbBG0 := O_BG.out.cell 0 _ rfl
  have kbBH0 := O_BH.out.cell 0 _ rfl
  go_wp2_with fail
  clear kbBW0 kbBG0 kbBH0
  go_ret
  exact ⟨rfl, HB11.out⟩
end Go.Proofs.Ythkhkehpmolfaaa
