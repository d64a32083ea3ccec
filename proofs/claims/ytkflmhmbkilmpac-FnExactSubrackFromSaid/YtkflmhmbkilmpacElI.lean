import Derived.Test.YtkflmhmbkilmpacElF
import Derived.Test.YtkflmhmbkilmpacRkA
namespace Go.Proofs.Ytkflmhmbkilmpac
open Go Go.RowKit
set_option maxHeartbeats 1000000

set_option maxRecDepth 100000 in
theorem areEls_any (A : Option Addr) (n c : Nat) (B : Option Addr) (m d : Nat) (xs : List Int) (r : Bool) (w : World) (hn : n ≤ 1048576) (hm : xs.length = m) (hb : m ≤ 1048576) (hr : Rd w B xs) (hres : r = true ↔ Els n xs) :
    Calls Try.prog 59 #[.agg #[.slice A n c], .slice B m d] w fun e w' => e = .returned (.bool r) ∧ Below w.heap.size w w' := by
  have HM := hide hm
  have HRES := hide hres
  have HR := hide hr
  have HB0 := hide ((Below.refl _ w).alloc (Nat.le_refl _) (Obj.cells #[Value.slice A n c] 26))
  have HK0 := hide (Blk.new w 26 [.slice A n c])
  clear hm hres hr
  go_enter Try.func59, Try.ntmps59
  go_wp2_with fail
  go_loopw [9] (fun i wr => ∃ k : Nat, k ≤ m ∧ i = .int .i64 k ∧ Below w.heap.size w wr ∧ Blk wr w.heap.size 26 [.slice A n c] ∧ ∀ j, j < k → 0 ≤ xs.getD j 0 ∧ xs.getD j 0 < (n : Int)) (fun i _ => m - (intOf i).toNat)
  case atStart => exact ⟨0, Nat.zero_le _, rfl, HB0.out, HK0.out, fun j hj => absurd hj (Nat.not_lt_zero _)⟩
  case round =>
    obtain ⟨k, hk, rfl, hbe, hkk, hall⟩ := hrel
    have HB := hide hbe
    have HK := hide hkk
    have HALL := hide hall
    clear hbe hkk hall
    by_cases hlt : k < m
    · obtain ⟨b, o, rfl, hbw, hc⟩ := HR.out (by have := HM.out; omega)
      have hc1 := (HB.out.cell (p := ⟨b, o + k, none⟩) hbw).trans (hc k (by have := HM.out; omega))
      have hltz : (k : Int) < m := by omega
      obtain ⟨x, hx⟩ : ∃ x, xs.getD k 0 = x := ⟨_, rfl⟩
      rw [hx] at hc1
      have HX := hide hx
      clear hx hc
      by_cases h1 : x < 0
      · have hrf : r = false := by
          cases r
          · rfl
          · exact absurd (by have h := HRES.out.1 rfl k (by have := HM.out; omega); rw [HX.out] at h; exact h.1) (by omega)
        subst hrf
        go_wp2_with fail
        go_ret
        exact ⟨rfl, HB.out⟩
      · have k0 := HK.out.cell 0 _ rfl
        by_cases h2 : x < (n : Int)
        · go_wp2_with fail
          clear k0 hc1
          refine (ksize_any _ n _ _ hn).mono ?_
          rintro e w5 ⟨rfl, hb5⟩
          have HB5 := hide (HB.out.trans (hb5.mono HB.out.size))
          have HK5 := hide (HK.out.later hb5)
          clear hb5
          go_wp2_with fail
          go_roundw
          case rel => exact ⟨k + 1, by omega, by go_num, HB5.out, HK5.out, fun j hj => by
            by_cases e : j = k
            · rw [e, HX.out]; omega
            · exact HALL.out j (by omega)⟩
          case measure => simp [intOf]; omega
        · have hrf : r = false := by
            cases r
            · rfl
            · exact absurd (by have h := HRES.out.1 rfl k (by have := HM.out; omega); rw [HX.out] at h; exact h.2) h2
          subst hrf
          go_wp2_with fail
          clear k0 hc1
          refine (ksize_any _ n _ _ hn).mono ?_
          rintro e w5 ⟨rfl, hb5⟩
          have HB5 := hide (HB.out.trans (hb5.mono HB.out.size))
          clear hb5
          go_wp2_with fail
          go_ret
          exact ⟨rfl, HB5.out⟩
    · have hkn : k = m := by omega
      subst hkn
      have hrt : r = true := HRES.out.2 fun i hi => HALL.out i (by have := HM.out; omega)
      subst hrt
      go_wp2_with fail
      go_ret
      exact ⟨rfl, HB.out⟩

set_option maxRecDepth 100000 in
theorem setOf_any (n : Nat) (B : Option Addr) (m d : Nat) (xs : List Int) (w : World) (hn : n ≤ 12) (hm : xs.length = m) (hb : m ≤ 1048576) (hr : Rd w B xs) (he : Els n xs) :
    Calls Try.prog 60 #[.slice B m d] w fun e w' => e = .returned (.int .i64 (sN xs m)) ∧ Below w.heap.size w w' := by
  have HM := hide hm
  have HE := hide he
  have HR := hide hr
  clear hm he hr
  go_enter Try.func60, Try.ntmps60
  go_wp2_with fail
  go_loopw [3, 8] (fun s i wr => ∃ k : Nat, k ≤ m ∧ i = .int .i64 k ∧ s = .int .i64 (sN xs k) ∧ Below w.heap.size w wr) (fun _ i _ => m - (intOf i).toNat)
  case atStart => exact ⟨0, Nat.zero_le _, rfl, rfl, Below.refl _ _⟩
  case round =>
    obtain ⟨k, hk, rfl, rfl, hbe⟩ := hrel
    have HB := hide hbe
    clear hbe
    have hS : sN xs k < 4096 := Nat.lt_of_lt_of_le (sN_lt HE.out (by have := HM.out; omega)) (pow_le n hn)
    have hs1 : sN xs (k + 1) = sN xs k ||| 2 ^ el xs k := rfl
    obtain ⟨S, hSe⟩ : ∃ S, sN xs k = S := ⟨_, rfl⟩
    rw [hSe] at hS hs1 ⊢
    have HSE := hide hSe
    clear hSe
    by_cases hlt : k < m
    · obtain ⟨b, o, rfl, hbw, hc⟩ := HR.out (by have := HM.out; omega)
      have hv := HE.out.val (i := k) (by have := HM.out; omega)
      have hc1 := (HB.out.cell (p := ⟨b, o + k, none⟩) hbw).trans (hc k (by have := HM.out; omega))
      rw [hv.1] at hc1
      have hv2 := hv.2
      obtain ⟨v, hve⟩ : ∃ v, el xs k = v := ⟨_, rfl⟩
      rw [hve] at hc1 hs1 hv2
      have hltz : (k : Int) < m := by omega
      obtain ⟨p, hp⟩ : ∃ p, 2 ^ v = p := ⟨_, rfl⟩
      have hp12 : p < 4096 := by rw [← hp]; exact Nat.lt_of_lt_of_le (Nat.pow_lt_pow_right (by decide) (by omega : v < 12)) (Nat.le_refl _)
      have g1 : (2 : Int) ^ v = (p : Int) := by rw [← hp]; simp
      have g2 := bt_or S p (by omega) (by omega)
      rw [hp] at hs1
      have hS2 : sN xs (k + 1) < 4096 := Nat.lt_of_lt_of_le (sN_lt HE.out (by have := HM.out; omega)) (pow_le n hn)
      obtain ⟨S2, hS2e⟩ : ∃ S2, S ||| p = S2 := ⟨_, rfl⟩
      rw [hS2e] at hs1 g2
      rw [hs1] at hS2
      have HS1 := hide hs1
      clear hve hp hS2e hs1 hc hv
      go_wp2_with fail
      go_roundw
      case rel => exact ⟨k + 1, by omega, by go_num, by rw [HS1.out], HB.out⟩
      case measure => simp [intOf]; omega
    · have hkn : k = m := by omega
      subst hkn
      go_wp2_with fail
      go_ret
      exact ⟨by rw [HSE.out]; rfl, HB.out⟩
end Go.Proofs.Ytkflmhmbkilmpac
