import Derived.Test.YtpnlmmilnglmkaaZat
import Derived.Test.YtpnlmmilnglmkaaZab
import Derived.Test.YtpnlmmilnglmkaaZw
import Derived.Test.YtpnlmmilnglmkaaZe
import Derived.Test.YtpnlmmilnglmkaaZal
import Derived.Test.YtpnlmmilnglmkaaZb
import Derived.Deep.Cut
import Derived.StillTailTactics
namespace Go.Proofs.Ytpnlmmilnglmkaa
open Go Go.RowKit
set_option maxHeartbeats 4000000

set_option maxRecDepth 100000 in
theorem moveS_any (A : Option Addr) (n c : Nat) (f : List (List Int)) (B : Option Addr) (d : Nat) (s : List (List Int)) (C : Option Addr) (m e : Nat) (xs : List Int) (K : Nat) (w : World) (hz : ZArg 1048576 w A n f B n s) (hp : PMap f s) (hm : xs.length = m) (hr : Rd w C xs) (ht : Tup n xs) (hK : K + 1 < m) :
    Calls Try.prog 66 #[.agg #[.slice A n c, .slice B n d], .slice C m e, .int .i64 K] w fun e w' => ∃ A' c', e = .returned (.slice A' m c') ∧ Below w.heap.size w w' ∧ Res 2 w.heap.size w' A' (mvL (leH f) (leH s) xs K) := by
  have h12 := (hz.small hp).2
  have hm12 : m ≤ 12 := by rw [← hm]; exact ht.1
  have HM := hide hm
  obtain ⟨bt, ot, rfl, hbt, hct⟩ := hr (by omega)
  have HCT := hide hct
  have hx := ht.el (j := K) (by omega)
  have hy := ht.el (j := K + 1) (by omega)
  have ex := hct K (by omega)
  have ey := hct (K + 1) (by omega)
  rw [hx.1] at ex
  rw [hy.1] at ey
  have hxn := hx.2
  have hyn := hy.2
  have hml : mvL (leH f) (leH s) xs K = (xs.set K ((ap f (elN xs K) (elN xs (K + 1)) : Nat) : Int)).set (K + 1) ((ap s (elN xs K) (elN xs (K + 1)) : Nat) : Int) := rfl
  obtain ⟨x, hxe⟩ : ∃ x, elN xs K = x := ⟨_, rfl⟩
  obtain ⟨y, hye⟩ : ∃ y, elN xs (K + 1) = y := ⟨_, rfl⟩
  rw [hxe] at ex hxn hml
  rw [hye] at ey hyn hml
  obtain ⟨bA, oA, bB, oB, bx, ox, cx, bY, oy, cy, eA, eB, j1, j2, j3, j4, l1, l2, l3, l4⟩ := hz.reads hp hxn hyn
  obtain ⟨u, hu⟩ : ∃ u, ap f x y = u := ⟨_, rfl⟩
  obtain ⟨v, hv⟩ : ∃ v, ap s x y = v := ⟨_, rfl⟩
  rw [hu] at j3 hml
  rw [hv] at j4 hml
  rw [hml]
  subst eA
  subst eB
  obtain ⟨K1, hK1⟩ : ∃ K1, K + 1 = K1 := ⟨_, rfl⟩
  rw [hK1] at hK ey ⊢
  have HK1 := hide hK1
  have EX := hide ex
  have EY := hide ey
  have J1 := hide j1
  have J2 := hide j2
  have J3 := hide j3
  have J4 := hide j4
  have hxz : (x : Int) < n := by omega
  have hyz : (y : Int) < n := by omega
  have hKz : (K : Int) < m := by omega
  have hK1z : (K1 : Int) < m := by omega
  have hKn : (K : Int) + 1 = (K1 : Int) := by omega
  have hKw : IntKind.i64.wrap (K1 : Int) = (K1 : Int) := IntWalk.i64_in _ (by omega)
  have HB0 := hide ((Below.refl _ w).alloc (Nat.le_refl _) (Obj.cells #[Value.slice (some ⟨bA, oA, none⟩) n c, Value.slice (some ⟨bB, oB, none⟩) n d] 30))
  have HK0 := hide (Blk.new w 30 [.slice (some ⟨bA, oA, none⟩) n c, .slice (some ⟨bB, oB, none⟩) n d])
  have HSZ : Hid (w.heap.size < (w.alloc (Obj.cells #[Value.slice (some ⟨bA, oA, none⟩) n c, Value.slice (some ⟨bB, oB, none⟩) n d] 30)).heap.size) := hide HK0.out.lt
  clear hz hp hm hr ht hct hx hy ex ey j1 j2 j3 j4 hu hv hml hK1 hxe hye
  go_enter Try.func66, Try.ntmps66
  go_wp2_with fail
  refine calls_gen fun wa hwa => ?_
  rw [← hwa] at HB0 HK0 HSZ
  clear hwa
  refine (own_any bt ot m e xs _ HM.out (by omega) (by have := HB0.out.size; omega) (fun i hi => (HB0.out.cell (p := ⟨bt, ot + i, none⟩) hbt).trans (HCT.out i hi))).mono ?_
  rintro e w1 ⟨v5, rfl, hb1, ho5⟩
  obtain ⟨A5, c5, hv5, hr5⟩ := own_shape ho5
  subst hv5
  obtain ⟨g, rfl, hg, hown⟩ : ∃ g, A5 = some ⟨g, 0, none⟩ ∧ wa.heap.size ≤ g ∧ OwnB 2 w1 g xs := by
    rcases hr5 with ⟨_, h⟩ | h
    · exact absurd HM.out (by rw [h]; simp; omega)
    · exact h
  have HKL := hide (HK0.out.later hb1)
  have HB1 := hide (HB0.out.trans (hb1.mono HB0.out.size))
  have HOW := hide hown
  have hgw : w.heap.size < g := by have := HSZ.out; omega
  clear hb1 ho5 hown
  have hkl := HK0.out.lt
  have HK1_ : Hid (Blk w1 w.heap.size 30 [.slice (some ⟨bA, oA, none⟩) n c, .slice (some ⟨bB, oB, none⟩) n d]) := hide (HKL.out)
  have kf := HK1_.out.cell 0 _ rfl
  have ff0 := (HB1.out.cell (p := ⟨bt, ot + K, none⟩) hbt).trans EX.out
  have ff1 := (HB1.out.cell (p := ⟨bt, ot + K1, none⟩) hbt).trans EY.out
  have ff2 := (HB1.out.cell (p := ⟨bA, oA + x, none⟩) l1).trans J1.out
  have ff3 := (HB1.out.cell (p := ⟨bx, ox + y, none⟩) l3).trans J3.out
  have fg := HOW.out.cell (i := K) (by simp [HM.out]; omega)
  have fz := HOW.out.frozen K
  obtain ⟨old1, hold⟩ : ∃ o, List.getD xs K 0 = o := ⟨_, rfl⟩
  rw [hold] at fg
  clear hold
  go_wp2_with fail
  go_still_tail 17, (by kernel_rfl)
  change wpList _ _ _ _ _ w1.drew
  go_upto_region 3 with fail
  refine wp_gen fun w2 hw2 => ?_
  have HOW2 : Hid (OwnB 2 w2 g (xs.set K u)) := hide (by rw [hw2]; exact HOW.out.set K u (by simp [HM.out]; omega))
  have HB2 : Hid (Below w.heap.size w w2) := hide (by rw [hw2]; first | exact (HB1.out.setCell (p := ⟨g, K, none⟩) (by show w.heap.size ≤ g; omega) (.int .i64 u)).drew | exact HB1.out.setCell (p := ⟨g, K, none⟩) (by show w.heap.size ≤ g; omega) (.int .i64 u))
  have HK2_ : Hid (Blk w2 w.heap.size 30 [.slice (some ⟨bA, oA, none⟩) n c, .slice (some ⟨bB, oB, none⟩) n d]) := hide (by rw [hw2]; exact HK1_.out.far (p := ⟨g, K, none⟩) (by show w.heap.size ≠ g; omega) (.int .i64 u))
  clear hw2 kf fg fz ff0 ff1 ff2 ff3
  have kf := HK2_.out.cell 1 _ rfl
  have ff0 := (HB2.out.cell (p := ⟨bt, ot + K, none⟩) hbt).trans EX.out
  have ff1 := (HB2.out.cell (p := ⟨bt, ot + K1, none⟩) hbt).trans EY.out
  have ff2 := (HB2.out.cell (p := ⟨bB, oB + x, none⟩) l2).trans J2.out
  have ff3 := (HB2.out.cell (p := ⟨bY, oy + y, none⟩) l4).trans J4.out
  have fg := HOW2.out.cell (i := K1) (by simp [HM.out]; omega)
  have fz := HOW2.out.frozen K1
  obtain ⟨old2, hold⟩ : ∃ o, List.getD (xs.set K u) K1 0 = o := ⟨_, rfl⟩
  rw [hold] at fg
  clear hold
  go_wp2_with fail
  go_still_tail 18, (by kernel_rfl)
  change wpList _ _ _ _ _ w2.drew
  go_upto_region 4 with fail
  refine wp_gen fun w3 hw3 => ?_
  have HOW3 : Hid (OwnB 2 w3 g ((xs.set K u).set K1 v)) := hide (by rw [hw3]; exact HOW2.out.set K1 v (by simp [HM.out]; omega))
  have HB3 : Hid (Below w.heap.size w w3) := hide (by rw [hw3]; first | exact (HB2.out.setCell (p := ⟨g, K1, none⟩) (by show w.heap.size ≤ g; omega) (.int .i64 v)).drew | exact HB2.out.setCell (p := ⟨g, K1, none⟩) (by show w.heap.size ≤ g; omega) (.int .i64 v))
  have HK3_ : Hid (Blk w3 w.heap.size 30 [.slice (some ⟨bA, oA, none⟩) n c, .slice (some ⟨bB, oB, none⟩) n d]) := hide (by rw [hw3]; exact HK2_.out.far (p := ⟨g, K1, none⟩) (by show w.heap.size ≠ g; omega) (.int .i64 v))
  clear hw3 kf fg fz ff0 ff1 ff2 ff3
  go_wp2_with fail
  go_ret
  exact ⟨_, _, rfl, HB3.out, .inr ⟨g, rfl, by omega, HOW3.out⟩⟩
end Go.Proofs.Ytpnlmmilnglmkaa
