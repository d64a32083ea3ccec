import Derived.Test.YtpnlmmilnglmkaaZat
import Derived.Test.YtpnlmmilnglmkaaZab
import Derived.Test.YtpnlmmilnglmkaaZw
import Derived.Test.YtpnlmmilnglmkaaZe
import Derived.Test.YtpnlmmilnglmkaaZal
import Derived.Test.YtpnlmmilnglmkaaZj
import Derived.Test.YtpnlmmilnglmkaaZb
import Derived.Deep.Cut
import Derived.StillTailTactics
namespace Go.Proofs.Ytpnlmmilnglmkaa
open Go Go.RowKit
set_option maxHeartbeats 4000000

set_option maxRecDepth 100000 in
theorem rmS_any (A : Option Addr) (n c : Nat) (f : List (List Int)) (C : Option Addr) (m e : Nat) (xs : List Int) (kk : Int) (zs : List Int) (code : Int) (kz : Nat) (w : World) (hn : f.length = n) (hnb : n ≤ 1048576) (hbs : ∀ i, i < f.length → (f.getD i []).length ≤ 1048576) (hrd : Rd2 w A f) (hm : xs.length = m) (hb : m ≤ 1048576) (hr : Rd w C xs) (hk0 : -9223372036854775808 ≤ kk) (hk1 : kk ≤ 9223372036854775807) (hres : RmRes f xs kk zs code) (hkz : zs.length = kz) :
    Calls Try.prog 30 #[.agg #[.slice A n c], .slice C m e, .int .i64 kk] w fun e w' => ∃ A' c', e = .returned (.tuple #[.slice A' kz c', .int .i64 code]) ∧ Below w.heap.size w w' ∧ Res 2 w.heap.size w' A' zs := by
  have HN := hide hn
  have HBS := hide hbs
  have HRD := hide hrd
  have HM := hide hm
  have HR := hide hr
  have HKZ := hide hkz
  have HB0 := hide ((Below.refl _ w).alloc (Nat.le_refl _) (Obj.cells #[Value.slice A n c] 27))
  have HK0 := hide (Blk.new w 27 [Value.slice A n c])
  have HSZ0 := hide (Blk.new w 27 [Value.slice A n c]).lt
  rcases hres with ⟨hg, hmv⟩ | ⟨hg, rfl, rfl⟩
  · have HMV := hide hmv
    have HG := hide hg
    have HTB := hide hg.tbl
    have h12 : n ≤ 12 := by rw [← hn]; exact hg.tbl.2.1
    replace HMV : Hid (MvR n caH1 (caH2 f) xs kk zs code) := hide (by have h := hmv; rw [hn] at h; exact h)
    obtain ⟨r1, hr1⟩ : ∃ r : Bool, r = true ↔ Tup n xs := bool_of _
    obtain ⟨r2, hr2⟩ : ∃ r : Bool, r = true ↔ (0 ≤ kk ∧ kk ≤ (m : Int) - 2) := bool_of _
    have HT := hide hr1
    have H2 := hide hr2
    have wz : IntKind.i64.wrap ((m : Int) - 2) = (m : Int) - 2 := IntWalk.i64_in _ (by omega)
    have BAD : Hid (¬ (Tup n xs ∧ 0 ≤ kk ∧ kk + 2 ≤ (xs.length : Int)) → zs = [] ∧ code = 2) := hide (fun h => by
      rcases HMV.out with ⟨h1, _⟩ | ⟨_, h2⟩
      · exact absurd h1 h
      · exact h2)
    have GOOD : Hid (Tup n xs ∧ 0 ≤ kk ∧ kk + 2 ≤ (xs.length : Int) → zs = mvL caH1 (caH2 f) xs kk.toNat ∧ code = 0) := hide (fun h => by
      rcases HMV.out with ⟨_, h2⟩ | ⟨h1, _⟩
      · exact h2
      · exact absurd h h1)
    clear hm hr hkz hg hmv hr1 hr2 hn hbs hrd
    go_enter Try.func30, Try.ntmps30
    have k0 := HK0.out.cell 0 _ rfl
    go_wp2_with fail
    clear k0
    refine (isRackS _ _ _ f true _ HN.out hnb HBS.out (HRD.out.later HB0.out) ⟨fun _ => HG.out, fun _ => rfl⟩).mono ?_
    rintro e w1 ⟨rfl, hb1⟩
    have HB1 := hide (HB0.out.trans (hb1.mono HB0.out.size))
    have HK1 := hide (HK0.out.later hb1)
    clear hb1
    have k0 := HK1.out.cell 0 _ rfl
    go_wp2_with fail
    clear k0
    refine (tupS_any n C m _ xs r1 _ (by omega) HM.out hb (HR.out.later HB1.out) HT.out).mono ?_
    rintro e w2 ⟨rfl, hb2⟩
    have HB2 := hide (HB1.out.trans (hb2.mono HB1.out.size))
    have HK2 := hide (HK1.out.later hb2)
    clear hb2
    rcases r1 with _ | _
    · obtain ⟨rfl, rfl⟩ := BAD.out (fun h => absurd (HT.out.2 h.1) (by simp))
      obtain rfl : kz = 0 := by rw [← HKZ.out]; rfl
      go_wp2_with fail
      go_ret2
      exact ⟨_, _, rfl, HB2.out, .inl ⟨rfl, rfl⟩⟩
    have htp : Tup n xs := HT.out.1 (by simp)
    have hm12 : m ≤ 12 := by rw [← HM.out]; exact htp.1
    have HTP := hide htp
    clear htp
    go_wp2_with fail
    refine (in_any kk 0 ((m : Int) - 2) r2 _ (by rw [H2.out])).mono ?_
    rintro e w3 ⟨rfl, hq3⟩
    have HB3 := hide (HB2.out.trans ((hq3.below _).mono HB2.out.size))
    have HK3 := hide (HK2.out.later (hq3.below _))
    clear hq3
    rcases r2 with _ | _
    · obtain ⟨rfl, rfl⟩ := BAD.out (fun h => absurd (H2.out.2 ⟨h.2.1, by have := HM.out; omega⟩) (by simp))
      obtain rfl : kz = 0 := by rw [← HKZ.out]; rfl
      go_wp2_with fail
      go_ret2
      exact ⟨_, _, rfl, HB3.out, .inl ⟨rfl, rfl⟩⟩
    have h2t : 0 ≤ kk ∧ kk ≤ (m : Int) - 2 := H2.out.1 (by simp)
    obtain ⟨rfl, rfl⟩ := GOOD.out ⟨HTP.out, h2t.1, by have := HM.out; omega⟩
    obtain ⟨K, rfl⟩ : ∃ K : Nat, kk = K := ⟨kk.toNat, by omega⟩
    have hKt : ((K : Int)).toNat = K := by simp
    rw [hKt] at HKZ
    have HKT := hide hKt
    have hKm : K + 1 < m := by omega
    obtain rfl : kz = m := by rw [← HKZ.out, mvL_length]; exact HM.out
    clear H2 BAD GOOD h2t hKt
    obtain ⟨bt, ot, rfl, hbt, hct⟩ := HR.out (by have := HM.out; omega)
    have HCT := hide hct
    have hx := HTP.out.el (j := K) (by have := HM.out; omega)
    have hy := HTP.out.el (j := K + 1) (by have := HM.out; omega)
    have ex := hct K (by have := HM.out; omega)
    have ey := hct (K + 1) (by have := HM.out; omega)
    rw [hx.1] at ex
    rw [hy.1] at ey
    have hxn := hx.2
    have hyn := hy.2
    have hml : mvL caH1 (caH2 f) xs K = (xs.set K ((elN xs (K + 1) : Nat) : Int)).set (K + 1) ((ap f (elN xs (K + 1)) (elN xs K) : Nat) : Int) := rfl
    obtain ⟨x, hxe⟩ : ∃ x, elN xs K = x := ⟨_, rfl⟩
    obtain ⟨y, hye⟩ : ∃ y, elN xs (K + 1) = y := ⟨_, rfl⟩
    rw [hxe] at ex hxn hml
    rw [hye] at ey hyn hml
    obtain ⟨bA, oA, hA, l1, hcc⟩ := HTB.out.cells HRD.out HN.out
    subst hA
    obtain ⟨bx, ox, cx, j1, l3, hrow⟩ := hcc y hyn
    have j3 := hrow x hxn
    obtain ⟨v, hv⟩ : ∃ v, ap f y x = v := ⟨_, rfl⟩
    rw [hv] at j3 hml
    obtain ⟨K1, hK1⟩ : ∃ K1, K + 1 = K1 := ⟨_, rfl⟩
    rw [hK1] at hKm ey hml
    have HML := hide hml
    have HK1e := hide hK1
    have EX := hide ex
    have EY := hide ey
    have J1 := hide j1
    have J3 := hide j3
    have hxz : (x : Int) < n := by omega
    have hyz : (y : Int) < n := by omega
    have hKz : (K : Int) < kz := by omega
    have hK1z : (K1 : Int) < kz := by omega
    have hKn : (K : Int) + 1 = (K1 : Int) := by omega
    have hKw : IntKind.i64.wrap (K1 : Int) = (K1 : Int) := IntWalk.i64_in _ (by omega)
    have HSZ : Hid (w.heap.size < w3.heap.size) := hide HK3.out.lt
    clear hct hx hy ex ey j1 j3 hv hml hK1 hxe hye hcc hrow
    go_wp2_with fail
    refine (own_any bt ot kz _ xs _ HM.out (by omega) (by have := HB3.out.size; omega) (fun i hi => (HB3.out.cell (p := ⟨bt, ot + i, none⟩) hbt).trans (HCT.out i hi))).mono ?_
    rintro e w4 ⟨v5, rfl, hb4, ho5⟩
    obtain ⟨A5, c5, hv5, hr5⟩ := own_shape ho5
    subst hv5
    obtain ⟨g, rfl, hg, hown⟩ : ∃ g, A5 = some ⟨g, 0, none⟩ ∧ w3.heap.size ≤ g ∧ OwnB 2 w4 g xs := by
      rcases hr5 with ⟨_, h⟩ | h
      · exact absurd HM.out (by rw [h]; simp; omega)
      · exact h
    have HK4_ := hide (HK3.out.later hb4)
    have HB4 := hide (HB3.out.trans (hb4.mono HB3.out.size))
    have HOW := hide hown
    have hgw : w.heap.size < g := by have := HSZ.out; omega
    clear hb4 ho5 hown
    have HOW4 := HOW
    have kf := HK4_.out.cell 0 _ rfl
    have ff0 := (HB4.out.cell (p := ⟨bt, ot + K1, none⟩) hbt).trans EY.out
    have fg := HOW4.out.cell (i := K) (by simp [HM.out]; omega)
    have fz := HOW4.out.frozen K
    obtain ⟨old4, hold⟩ : ∃ o, List.getD xs K 0 = o := ⟨_, rfl⟩
    rw [hold] at fg
    clear hold
    go_wp2_with fail
    go_upto_region 7 with fail
    refine wp_gen fun w5 hw5 => ?_
    have HOW5 : Hid (OwnB 2 w5 g (xs.set K y)) := hide (by rw [hw5]; exact HOW4.out.set K y (by simp [HM.out]; omega))
    have HB5 : Hid (Below w.heap.size w w5) := hide (by rw [hw5]; first | exact (HB4.out.setCell (p := ⟨g, K, none⟩) (by show w.heap.size ≤ g; omega) (.int .i64 y)).drew | exact HB4.out.setCell (p := ⟨g, K, none⟩) (by show w.heap.size ≤ g; omega) (.int .i64 y))
    have HK5_ : Hid (Blk w5 w.heap.size 27 [.slice (some ⟨bA, oA, none⟩) n c]) := hide (by rw [hw5]; exact HK4_.out.far (p := ⟨g, K, none⟩) (by show w.heap.size ≠ g; omega) (.int .i64 y))
    clear hw5 kf fg fz ff0
    have kf := HK5_.out.cell 0 _ rfl
    have ff0 := (HB5.out.cell (p := ⟨bt, ot + K1, none⟩) hbt).trans EY.out
    have ff1 := (HB5.out.cell (p := ⟨bt, ot + K, none⟩) hbt).trans EX.out
    have ff2 := (HB5.out.cell (p := ⟨bA, oA + y, none⟩) l1).trans J1.out
    have ff3 := (HB5.out.cell (p := ⟨bx, ox + x, none⟩) l3).trans J3.out
    have fg := HOW5.out.cell (i := K1) (by simp [HM.out]; omega)
    have fz := HOW5.out.frozen K1
    obtain ⟨old5, hold⟩ : ∃ o, List.getD (xs.set K y) K1 0 = o := ⟨_, rfl⟩
    rw [hold] at fg
    clear hold
    go_wp2_with fail
    go_still_tail 18, (by kernel_rfl)
    change wpList _ _ _ _ _ w5.drew
    go_upto_region 8 with fail
    refine wp_gen fun w6 hw6 => ?_
    have HOW6 : Hid (OwnB 2 w6 g ((xs.set K y).set K1 v)) := hide (by rw [hw6]; exact HOW5.out.set K1 v (by simp [HM.out]; omega))
    have HB6 : Hid (Below w.heap.size w w6) := hide (by rw [hw6]; first | exact (HB5.out.setCell (p := ⟨g, K1, none⟩) (by show w.heap.size ≤ g; omega) (.int .i64 v)).drew | exact HB5.out.setCell (p := ⟨g, K1, none⟩) (by show w.heap.size ≤ g; omega) (.int .i64 v))
    have HK6_ : Hid (Blk w6 w.heap.size 27 [.slice (some ⟨bA, oA, none⟩) n c]) := hide (by rw [hw6]; exact HK5_.out.far (p := ⟨g, K1, none⟩) (by show w.heap.size ≠ g; omega) (.int .i64 v))
    clear hw6 kf fg fz ff0 ff1 ff2 ff3
    go_wp2_with fail
    go_ret2
    exact ⟨_, _, rfl, HB6.out, .inr ⟨g, rfl, by omega, by rw [HKT.out, HML.out]; exact HOW6.out⟩⟩
  · obtain rfl : kz = 0 := by rw [← hkz]; rfl
    have HG := hide hg
    clear hm hr hkz hg hn hbs hrd
    go_enter Try.func30, Try.ntmps30
    have k0 := HK0.out.cell 0 _ rfl
    go_wp2_with fail
    clear k0
    refine (isRackS _ _ _ f false _ HN.out hnb HBS.out (HRD.out.later HB0.out) ⟨fun h => absurd h (by simp), fun h => absurd h HG.out⟩).mono ?_
    rintro e w1 ⟨rfl, hb1⟩
    have HB1 := hide (HB0.out.trans (hb1.mono HB0.out.size))
    clear hb1
    go_wp2_with fail
    go_ret2
    exact ⟨_, _, rfl, HB1.out, .inl ⟨rfl, rfl⟩⟩
end Go.Proofs.Ytpnlmmilnglmkaa
