import Derived.Test.YtocdcibfbecdgabTwS
import Derived.Test.YtocdcibfbecdgabUnitS
import Derived.Test.YtocdcibfbecdgabMirF
import Derived.Test.YtocdcibfbecdgabIn
import Derived.Test.YtocdcibfbecdgabZEnd
namespace Go.Proofs.Ytocdcibfbecdgab
open Go Go.RowKit
set_option maxHeartbeats 1000000

theorem lflipS_any (n : Nat) (w : World) (h1 : 1 ≤ n) (h12 : n ≤ 12) :
    Calls Try.prog 59 #[.int .i64 n] w fun e w' => ∃ A' c' B' d', e = .returned (.agg #[.slice A' n c', .slice B' n d']) ∧ Below w.heap.size w w' ∧ ObjW 35 2 w.heap.size w'.heap.size w' A' (grid n fun _ y => (y : Int)) B' (grid n fun x _ => (x : Int)) := by
  go_enter Try.func59, Try.ntmps59
  go_wp2_with fail
  refine calls_gen fun w0 hw0 => ?_
  have HB0 : Hid (Below w.heap.size w w0) := hide (by rw [hw0]; exact (Below.refl _ _).alloc (Nat.le_refl _) _)
  have HR0 : Hid (Blk w0 w.heap.size 26 [.slice none 0 0, .slice none 0 0]) := hide (by rw [hw0]; exact Blk.new _ _ _)
  clear hw0
  refine (l01Unit_any n _ (by omega)).mono ?_
  rintro e w1 ⟨A1, c1, rfl, hb1, hu1⟩
  have HB1 := hide (HB0.out.trans (hb1.mono HB0.out.size))
  have HR1 := hide (HR0.out.later hb1)
  have HU1 := hide hu1
  clear hb1 hu1
  go_wp2_with fail
  refine (twS_any _ n _ (unitN n) _ _ (unitN n) _ (unitN_length n) (unitN_length n) h1 h12 HU1.out.rd HU1.out.rd).mono ?_
  rintro e w3 ⟨A3, c3, B3, d3, rfl, hb3, ho3⟩
  have HB3 := hide (HB1.out.trans (hb3.mono HB1.out.size))
  have HR3 := hide (HR1.out.later hb3)
  have HO3 := hide ho3
  have k2 := HR3.out.cell 0 _ rfl
  have k3 := HR3.out.cell 1 _ rfl
  have k4 := HR3.out.frozen 0
  have k5 := HR3.out.frozen 1
  clear hb3 ho3
  have e1 : grid n (fun _ y => (unitN n).getD y 0) = grid n fun _ y => (y : Int) := grid_congr _ _ _ fun a b _ hb => by simp [unitN, hb]
  have e2 : grid n (fun x _ => (unitN n).getD x 0) = grid n fun x _ => (x : Int) := grid_congr _ _ _ fun a b ha _ => by simp [unitN, ha]
  have HE1 := hide e1
  have HE2 := hide e2
  clear e1 e2
  go_wp2_with fail
  refine bp_gen fun wf hwf => ?_
  obtain ⟨q0, q1, hbf, hof⟩ := wend hwf HR3.out (Nat.le_refl _) HR1.out.lt HB3.out HB1.out.size HO3.out
  rw [HE1.out, HE2.out] at hof
  clear hwf k2 k3 k4 k5
  exact bodyPost_ret (v := .agg #[.slice A3 n c3, .slice B3 n d3]) (by simp [results, Try.results59, go_sem, q0, q1]) rfl ⟨_, _, _, _, rfl, hbf, hof⟩

theorem flipS_any (n : Int) (zf zg : List (List Int)) (code : Int) (kz kw : Nat) (w : World) (_hlo : -9223372036854775808 ≤ n) (_hhi : n ≤ 9223372036854775807) (hr : FlipRes n zf zg code) (hk : ZSz 1048576 zf kz zg kw) :
    Calls Try.prog 21 #[.int .i64 n] w (WPost 35 2 kz kw zf zg code w) := by
  rcases hr with ⟨hp, rfl, rfl, rfl⟩ | ⟨hp, rfl, rfl, rfl⟩
  · obtain ⟨k, rfl⟩ := Int.eq_ofNat_of_zero_le (show 0 ≤ n by omega)
    rw [Int.toNat_natCast] at hk ⊢
    obtain rfl : kz = k := by rw [← hk.fl, grid_length]
    obtain rfl : kw = kz := by rw [← hk.sl, grid_length]
    clear hk
    go_enter Try.func21, Try.ntmps21
    go_wp2_with fail
    refine calls_gen fun w0 hw0 => ?_
    have HB0 : Hid (Below w.heap.size w w0) := hide (by rw [hw0]; exact (Below.refl _ _).alloc (Nat.le_refl _) _)
    have HR0 : Hid (Blk w0 w.heap.size 26 [.slice none 0 0, .slice none 0 0]) := hide (by rw [hw0]; exact Blk.new _ _ _)
    clear hw0
    refine (in_any _ _ _ true _ (by simp; omega)).mono ?_
    rintro e w1 ⟨rfl, hq1⟩
    have HB1 := hide (HB0.out.trans (hq1.below _))
    have HR1 := hide (HR0.out.later (hq1.below _))
    clear hq1
    go_wp2_with fail
    refine (lflipS_any _ _ (by omega) (by omega)).mono ?_
    rintro e w3 ⟨A3, c3, B3, d3, rfl, hb3, ho3⟩
    have HB3 := hide (HB1.out.trans (hb3.mono HB1.out.size))
    have HR3 := hide (HR1.out.later hb3)
    have HO3 := hide ho3
    have k2 := HR3.out.cell 0 _ rfl
    have k3 := HR3.out.cell 1 _ rfl
    have k4 := HR3.out.frozen 0
    have k5 := HR3.out.frozen 1
    clear hb3 ho3
    go_wp2_with fail
    refine bp_gen fun wf hwf => ?_
    obtain ⟨q0, q1, hbf, hof⟩ := wend hwf HR3.out (Nat.le_refl _) HR1.out.lt HB3.out HB1.out.size HO3.out
    clear hwf k2 k3 k4 k5
    exact bodyPost_ret (v := .tuple #[.agg #[.slice A3 kw c3, .slice B3 kw d3], .int .i64 0]) (by simp [results, Try.results21, go_sem, q0, q1]) rfl ⟨_, _, _, _, rfl, hbf, hof⟩
  · obtain rfl : kz = 0 := by simpa using hk.fl.symm
    obtain rfl : kw = 0 := by simpa using hk.sl.symm
    clear hk
    go_enter Try.func21, Try.ntmps21
    go_wp2_with fail
    refine calls_gen fun w0 hw0 => ?_
    have HB0 : Hid (Below w.heap.size w w0) := hide (by rw [hw0]; exact (Below.refl _ _).alloc (Nat.le_refl _) _)
    have HR0 : Hid (Blk w0 w.heap.size 26 [.slice none 0 0, .slice none 0 0]) := hide (by rw [hw0]; exact Blk.new _ _ _)
    clear hw0
    refine (in_any _ _ _ false _ (by simp; omega)).mono ?_
    rintro e w1 ⟨rfl, hq1⟩
    have HB1 := hide (HB0.out.trans (hq1.below _))
    have HR1 := hide (HR0.out.later (hq1.below _))
    have k2 := HR1.out.cell 0 _ rfl
    have k3 := HR1.out.cell 1 _ rfl
    have k4 := HR1.out.frozen 0
    have k5 := HR1.out.frozen 1
    clear hq1
    go_wp2_with fail
    refine bp_gen fun wf hwf => ?_
    obtain ⟨q0, q1, hbf, hof⟩ := wend (ts := 35) (t := 2) (w2 := w1) hwf HR1.out (Nat.le_refl _) HR1.out.lt HB1.out HB1.out.size ObjW.empty
    clear hwf k2 k3 k4 k5
    exact bodyPost_ret (v := .tuple #[.agg #[.slice none 0 0, .slice none 0 0], .int .i64 2]) (by simp [results, Try.results21, go_sem, q0, q1]) rfl ⟨_, _, _, _, rfl, hbf, hof⟩
end Go.Proofs.Ytocdcibfbecdgab
