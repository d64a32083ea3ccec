import Derived.Test.YtcbpaddipgjdnaaElF
import Derived.Test.YtcbpaddipgjdnaaIn
import Derived.Test.YtcbpaddipgjdnaaHeld
namespace Go.Proofs.Ytcbpaddipgjdnaa
open Go Go.RowKit
set_option maxHeartbeats 1000000

set_option maxRecDepth 100000 in
theorem l04Elements_any (n : Nat) (B : Option Addr) (m d : Nat) (xs : List Int) (r : Bool) (w : World) (hn : n ≤ 1048576) (hm : xs.length = m) (hb : m ≤ 1048576) (hr : Rd w B xs) (hres : r = true ↔ Els n xs) :
    Calls Try.prog 68 #[.int .i64 n, .slice B m d] w fun e w' => e = .returned (.bool r) ∧ Below w.heap.size w w' := by
  have HM := hide hm
  have HRES := hide hres
  have HR := hide hr
  clear hm hres hr
  go_enter Try.func68, Try.ntmps68
  go_wp2_with fail
  go_loopw [5] (fun i wr => ∃ k : Nat, k ≤ m ∧ i = .int .i64 k ∧ Below w.heap.size w wr ∧ ∀ j, j < k → 0 ≤ xs.getD j 0 ∧ xs.getD j 0 < (n : Int)) (fun i _ => m - (intOf i).toNat)
  case atStart => exact ⟨0, Nat.zero_le _, rfl, Below.refl _ _, fun j hj => absurd hj (Nat.not_lt_zero _)⟩
  case round =>
    obtain ⟨k, hk, rfl, hbe, hall⟩ := hrel
    have HB := hide hbe
    have HALL := hide hall
    clear hbe hall
    by_cases hlt : k < m
    · obtain ⟨b, o, rfl, hbw, hc⟩ := HR.out (by have := HM.out; omega)
      have hc1 := (HB.out.cell (p := ⟨b, o + k, none⟩) hbw).trans (hc k (by have := HM.out; omega))
      have hltz : (k : Int) < m := by omega
      obtain ⟨x, hx⟩ : ∃ x, xs.getD k 0 = x := ⟨_, rfl⟩
      rw [hx] at hc1
      have HX := hide hx
      clear hx hc
      by_cases h1 : 0 ≤ x ∧ x < (n : Int)
      · have HIN := hide h1
        clear h1
        go_wp2_with fail
        refine (in_any x 0 ((n : Int) - 1) true _ ⟨fun _ => by have := HIN.out; omega, fun _ => rfl⟩).mono ?_
        rintro e w5 ⟨rfl, hq5⟩
        have HB5 := hide (HB.out.trans (hq5.below _))
        clear hq5
        go_wp2_with fail
        go_roundw
        case rel => exact ⟨k + 1, by omega, by go_num, HB5.out, fun j hj => by
          by_cases e : j = k
          · rw [e, HX.out]; exact HIN.out
          · exact HALL.out j (by omega)⟩
        case measure => simp [intOf]; omega
      · have hrf : r = false := by
          cases r
          · rfl
          · exact absurd (by have h := HRES.out.1 rfl k (by have := HM.out; omega); rw [HX.out] at h; exact h) h1
        subst hrf
        have HIN := hide h1
        clear h1
        go_wp2_with fail
        refine (in_any x 0 ((n : Int) - 1) false _ (by simp only [Bool.false_eq_true, false_iff]; have := HIN.out; omega)).mono ?_
        rintro e w5 ⟨rfl, hq5⟩
        have HB5 := hide (HB.out.trans (hq5.below _))
        clear hq5
        go_wp2_with fail
        go_ret
        exact ⟨rfl, HB5.out⟩
    · have hkn : k = m := by omega
      subst hkn
      have hrt : r = true := HRES.out.2 fun i hi => HALL.out i (by have := HM.out; omega)
      subst hrt
      go_wp2_with fail
      go_ret
      exact ⟨rfl, HB.out⟩
end Go.Proofs.Ytcbpaddipgjdnaa
