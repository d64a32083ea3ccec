import Derived.Test.YtpnlmmilnglmkaaZat
import Derived.Test.YtpnlmmilnglmkaaZau
import Derived.Test.YtpnlmmilnglmkaaZam
import Derived.Deep.Cut
namespace Go.Proofs.Ytpnlmmilnglmkaa
open Go Go.RowKit
set_option maxHeartbeats 4000000
theorem mv_pad {h1 h2 : Nat → Nat → Int} {xs : List Int} {k : Nat} (hk : k + 1 < xs.length) : ((pad12 xs).set k (h1 (elN xs k) (elN xs (k + 1)))).set (k + 1) (h2 (elN xs k) (elN xs (k + 1))) = mvL h1 h2 xs k ++ List.replicate (12 - xs.length) 0 := by
  unfold pad12 mvL
  rw [List.set_append_left _ _ (by omega), List.set_append_left _ _ (by simp; omega)]

set_option maxRecDepth 100000 in
theorem moveOf_any (F : FuncId) (u : Value) (n : Nat) (h1 h2 : Nat → Nat → Int) (A : Option Addr) (m c : Nat) (xs : List Int) (k : Int) (zs : List Int) (code : Int) (kz : Nat) (w : World) (eg : ∀ args w, (callFunc F args).run Try.prog w = .ok (.enter F args) w) (hm : xs.length = m) (hb : m ≤ 1048576) (hr : Rd w A xs) (hk0 : -9223372036854775808 ≤ k) (hk1 : k ≤ 9223372036854775807) (hp : PairFnB Try.prog F u n h1 h2 w) (hres : MvR n h1 h2 xs k zs code) (hkz : zs.length = kz) :
    Calls Try.prog 67 #[.int .i64 n, .slice A m c, .int .i64 k, .func (.func F) #[u] #[]] w fun e w' => ∃ A' c', e = .returned (.tuple #[.slice A' kz c', .int .i64 code]) ∧ Below w.heap.size w w' ∧ Obj1 105 w.heap.size w'.heap.size w' A' zs := by
  have HM := hide hm
  have HR := hide hr
  have HP := hide hp
  obtain ⟨r1, hr1⟩ : ∃ r : Bool, r = true ↔ Tup n xs := bool_of _
  have HT := hide hr1
  rcases hres with ⟨⟨htp, hk2, hk3⟩, rfl, rfl⟩ | ⟨hbad, rfl, rfl⟩
  · obtain ⟨K, rfl⟩ : ∃ K : Nat, k = K := ⟨k.toNat, by omega⟩
    have htn : ((K : Int)).toNat = K := by simp
    rw [htn] at hkz ⊢
    have hm12 : m ≤ 12 := by rw [← hm]; exact htp.1
    have hKm : K + 1 < m := by omega
    obtain rfl : kz = m := by rw [← hkz, mvL_length, hm]
    have hr1t : r1 = true := hr1.2 htp
    subst hr1t
    have hx := htp.el (j := K) (by omega)
    have hy := htp.el (j := K + 1) (by omega)
    have hpx : (pad12 xs).getD K 0 = ((elN xs K : Nat) : Int) := by rw [pad12_at (by omega)]; exact hx.1
    have hpy : (pad12 xs).getD (K + 1) 0 = ((elN xs (K + 1) : Nat) : Int) := by rw [pad12_at (by omega)]; exact hy.1
    have HPX := hide hpx
    have HPY := hide hpy
    have HXN := hide hx.2
    have HYN := hide hy.2
    have hmv := mv_pad (h1 := h1) (h2 := h2) (xs := xs) (k := K) (by omega)
    have hzl : (mvL h1 h2 xs K ++ List.replicate (12 - xs.length) 0).length = 12 := by rw [List.length_append, mvL_length, List.length_replicate]; omega
    obtain ⟨ys, hy2⟩ : ∃ ys, mvL h1 h2 xs K ++ List.replicate (12 - xs.length) 0 = ys := ⟨_, rfl⟩
    rw [hy2] at hzl hmv
    obtain ⟨b0, b1, b2, b3, b4, b5, b6, b7, b8, b9, b10, b11, rfl⟩ := list12 hzl
    have HMV := hide hmv
    have HY2 := hide hy2
    have HTP := hide htp
    clear HT
    have hkn : (K : Int) < kz := by omega
    have d1 : decide ((K : Int) < 0) = false := by simp
    have d2 : decide ((kz : Int) - 2 < (K : Int)) = false := by simp; omega
    have wz : IntKind.i64.wrap ((kz : Int) - 2) = (kz : Int) - 2 := IntWalk.i64_in _ (by omega)
    clear hm hr hp hr1 htp hkz htn hpx hpy hx hy hmv hy2 hzl
    go_enter Try.func67, Try.ntmps67
    go_wp2_with fail
    refine (isTup_any n A kz c xs true _ HM.out hb (by first | exact HR.out | exact HR.out.later (Below.refl _ _).drew) ⟨fun _ => HTP.out, fun _ => rfl⟩).mono ?_
    rintro e w1 ⟨rfl, hq1⟩
    have HB1 : Hid (Below w.heap.size w w1) := hide (hq1.below _)
    clear hq1
    go_wp2_with fail
    refine (tupleOf_any A kz c xs _ HM.out hm12 (HR.out.later HB1.out)).mono ?_
    rintro e w2 ⟨rfl, hb2⟩
    have HB2 := hide (HB1.out.trans (hb2.mono HB1.out.size))
    clear hb2
    go_wp2_with fail
    refine (moved_any F u n K h1 h2 (pad12 xs) _ _ _ eg (pad12_length (by have := HM.out; omega)) (by omega) HPX.out HPY.out HXN.out HYN.out (fun W x y hx hy hbe => HP.out W x y hx hy (HB2.out.trans (hbe.mono HB2.out.size)))).mono ?_
    rintro e w3 ⟨rfl, hb3⟩
    have HB3 := hide (HB2.out.trans (hb3.mono HB2.out.size))
    clear hb3
    rw [HMV.out]
    rw [show (ints [b0, b1, b2, b3, b4, b5, b6, b7, b8, b9, b10, b11]).toArray = #[.int .i64 b0, .int .i64 b1, .int .i64 b2, .int .i64 b3, .int .i64 b4, .int .i64 b5, .int .i64 b6, .int .i64 b7, .int .i64 b8, .int .i64 b9, .int .i64 b10, .int .i64 b11] from rfl]
    go_upto_region 4 with fail
    refine wp_gen fun w4 hw4 => ?_
    have HG : Hid (Row 105 w4 w3.heap.size [b0, b1, b2, b3, b4, b5, b6, b7, b8, b9, b10, b11]) := hide (by rw [hw4]; exact heap_alloc_new _ _)
    have HB4 : Hid (Below w.heap.size w w4) := hide (by rw [hw4]; exact HB3.out.alloc HB3.out.size _)
    obtain ⟨G, hG⟩ : ∃ G, w3.heap.size = G := ⟨_, rfl⟩
    have hGw : w.heap.size ≤ G := by rw [← hG]; exact HB3.out.size
    rw [hG] at HG ⊢
    clear hw4 hG
    have c12 : kz ≤ 12 := hm12
    have c12z : (kz : Int) ≤ 12 := by omega
    go_wp2_with fail
    go_ret2
    refine ⟨_, _, rfl, HB4.out, .inr ⟨G, rfl, hGw, HG.out.lt, _, HG.out, fun i hi => ?_⟩⟩
    have hl : i < (mvL h1 h2 xs K).length := hi
    have e2 : (ints [b0, b1, b2, b3, b4, b5, b6, b7, b8, b9, b10, b11])[i]? = some (.int .i64 ((mvL h1 h2 xs K).getD i 0)) := by
      rw [← HY2.out]
      simp only [ints, List.map_append]
      rw [List.getElem?_append_left (by simpa using hl)]
      simp [hl]
    simpa using e2
  · obtain rfl : kz = 0 := by rw [← hkz]; rfl
    clear hm hr hp hr1 hkz
    have wz : m ≤ 1048576 → IntKind.i64.wrap ((m : Int) - 2) = (m : Int) - 2 := fun _ => IntWalk.i64_in _ (by omega)
    replace wz := wz hb
    cases r1 with
    | false =>
      have HNT : Hid (¬ Tup n xs) := hide (fun h => absurd (HT.out.2 h) (by simp))
      clear HT
      go_enter Try.func67, Try.ntmps67
      go_wp2_with fail
      refine (isTup_any n A m c xs false _ HM.out hb (by first | exact HR.out | exact HR.out.later (Below.refl _ _).drew) ⟨fun h => absurd h (by simp), fun h => absurd h HNT.out⟩).mono ?_
      rintro e w1 ⟨rfl, hq1⟩
      have HB1 : Hid (Below w.heap.size w w1) := hide (hq1.below _)
      clear hq1
      go_wp2_with fail
      go_ret2
      exact ⟨_, _, rfl, HB1.out, .inl ⟨rfl, rfl⟩⟩
    | true =>
      have htp : Tup n xs := HT.out.1 (by simp)
      have HTP := hide htp
      clear HT
      by_cases hk2 : k < 0
      · have d1 : decide (k < 0) = true := by simpa using hk2
        clear hbad htp
        go_enter Try.func67, Try.ntmps67
        go_wp2_with fail
        refine (isTup_any n A m c xs true _ HM.out hb (by first | exact HR.out | exact HR.out.later (Below.refl _ _).drew) ⟨fun _ => HTP.out, fun _ => rfl⟩).mono ?_
        rintro e w1 ⟨rfl, hq1⟩
        have HB1 : Hid (Below w.heap.size w w1) := hide (hq1.below _)
        clear hq1
        go_wp2_with fail
        go_ret2
        exact ⟨_, _, rfl, HB1.out, .inl ⟨rfl, rfl⟩⟩
      · have d1 : decide (k < 0) = false := by simpa using hk2
        have hk3 : (m : Int) - 2 < k := by
          have hm' := HM.out
          rcases Int.lt_or_le ((m : Int) - 2) k with h | h
          · exact h
          · exact absurd ⟨htp, by omega, by omega⟩ hbad
        have d2 : decide ((m : Int) - 2 < k) = true := by simpa using hk3
        clear hbad htp
        go_enter Try.func67, Try.ntmps67
        go_wp2_with fail
        refine (isTup_any n A m c xs true _ HM.out hb (by first | exact HR.out | exact HR.out.later (Below.refl _ _).drew) ⟨fun _ => HTP.out, fun _ => rfl⟩).mono ?_
        rintro e w1 ⟨rfl, hq1⟩
        have HB1 : Hid (Below w.heap.size w w1) := hide (hq1.below _)
        clear hq1
        go_wp2_with fail
        go_ret2
        exact ⟨_, _, rfl, HB1.out, .inl ⟨rfl, rfl⟩⟩
end Go.Proofs.Ytpnlmmilnglmkaa
