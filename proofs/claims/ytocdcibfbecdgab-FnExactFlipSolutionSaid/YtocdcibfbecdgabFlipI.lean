import Derived.Test.YtocdcibfbecdgabMirI
namespace Go.Proofs.Ytocdcibfbecdgab
open Go Go.RowKit
set_option maxHeartbeats 1000000
set_option maxRecDepth 100000

theorem flipC_any (n : Nat) (w : World) : PairFn Try.prog 57 #[] n (fun _ y => (y : Int)) (fun x _ => (x : Int)) w := by
  intro W x y _ _ _
  show Calls Try.prog 57 #[.agg #[.int .i64 x, .int .i64 y]] W _
  exact swapped_any _ _ _

theorem flipI_any (n : Int) (zf zg : List (List Int)) (code : Int) (kz kw : Nat) (w : World) (_hlo : -9223372036854775808 ≤ n) (_hhi : n ≤ 9223372036854775807) (hr : FlipRes n zf zg code) (hk : ZSz 1048576 zf kz zg kw) :
    Calls Try.prog 22 #[.int .i64 n] w (ZPost 35 2 kz kw zf zg code w) := by
  rcases hr with ⟨hp, rfl, rfl, rfl⟩ | ⟨hp, rfl, rfl, rfl⟩
  · obtain ⟨k, rfl⟩ := Int.eq_ofNat_of_zero_le (show 0 ≤ n by omega)
    rw [Int.toNat_natCast] at hk ⊢
    obtain rfl : kz = k := by rw [← hk.fl, grid_length]
    obtain rfl : kw = kz := by rw [← hk.sl, grid_length]
    have h1k : 1 ≤ kw := by omega
    have h12k : kw ≤ 12 := by omega
    clear hk
    go_enter Try.func22, Try.ntmps22
    go_wp2_with fail
    refine calls_gen fun w0 hw0 => ?_
    have HB0 : Hid (Below w.heap.size w w0) := hide (by rw [hw0]; exact (Below.refl _ _).alloc (Nat.le_refl _) _)
    have HR0 : Hid (Blk w0 w.heap.size 26 [.slice none 0 0, .slice none 0 0]) := hide (by rw [hw0]; exact Blk.new _ _ _)
    clear hw0
    refine (pmo_any 57 #[] _ (fun _ y => (y : Int)) (fun x _ => (x : Int)) _ (enters_of Try.func57 (by kernel_rfl) rfl) h1k h12k (flipC_any _ _)).mono ?_
    rintro e w3 ⟨A3, c3, B3, d3, rfl, hb3, ho3⟩
    have HB3 := hide (HB0.out.trans (hb3.mono HB0.out.size))
    have HR3 := hide (HR0.out.later hb3)
    have HO3 := hide ho3
    have k2 := HR3.out.cell 0 _ rfl
    have k3 := HR3.out.cell 1 _ rfl
    have k4 := HR3.out.frozen 0
    have k5 := HR3.out.frozen 1
    clear hb3 ho3
    go_wp2_with fail
    refine bp_gen fun wf hwf => ?_
    obtain ⟨q0, q1, hbf, hof⟩ := zend hwf HR3.out (Nat.le_refl _) HR0.out.lt HB3.out HB0.out.size HO3.out
    clear hwf k2 k3 k4 k5
    exact bodyPost_ret (v := .tuple #[.agg #[.slice A3 kw c3, .slice B3 kw d3], .int .i64 0]) (by simp [results, Try.results22, go_sem, q0, q1]) rfl ⟨_, _, _, _, rfl, hbf, hof⟩
  · obtain rfl : kz = 0 := by simpa using hk.fl.symm
    obtain rfl : kw = 0 := by simpa using hk.sl.symm
    clear hk
    by_cases h1 : n < 1
    all_goals
      have h2 : n < 1 ∨ 12 < n := by omega
      go_enter Try.func22, Try.ntmps22
      go_wp2_with fail
      refine bp_gen fun wf hwf => ?_
      have HRF : Blk wf w.heap.size 26 [.slice none 0 0, .slice none 0 0] := by rw [hwf]; exact Blk.new _ _ _
      have hbf : Below w.heap.size w wf := by rw [hwf]; exact (Below.refl _ _).alloc (Nat.le_refl _) _
      have q0 := HRF.cell 0 _ rfl
      have q1 := HRF.cell 1 _ rfl
      clear hwf
      exact bodyPost_ret (v := .tuple #[.agg #[.slice none 0 0, .slice none 0 0], .int .i64 2]) (by simp [results, Try.results22, go_sem, q0, q1]) rfl ⟨_, _, _, _, rfl, hbf, ObjZ.empty hbf.size⟩
end Go.Proofs.Ytocdcibfbecdgab
