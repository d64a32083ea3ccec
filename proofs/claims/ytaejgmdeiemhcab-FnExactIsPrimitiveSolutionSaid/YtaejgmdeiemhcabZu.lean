import Derived.Test.YtaejgmdeiemhcabProg
import Derived.Test.YtaejgmdeiemhcabZa
namespace Go.Proofs.Ytaejgmdeiemhcab
open Go Go.RowKit
set_option maxHeartbeats 400000

set_option maxRecDepth 100000 in
/-- All numbers of a list are elements of a set of n. -/
theorem els_any (n : Nat) (A : Option Addr) (m c : Nat) (xs : List Int) (r : Bool) (w : World) (hm : xs.length = m) (hb : m ≤ 9223372036854775807) (hr : Rd w A xs) (hrr : r = true ↔ ∀ j, j < m → 0 ≤ xs.getD j 0 ∧ xs.getD j 0 < (n : Int)) :
    Calls Try.prog 48 #[.int .i64 n, .slice A m c] w fun e w' => e = .returned (.bool r) ∧ Quiet w w' := by
  have HM := hide hm
  have HR := hide hr
  have HRR := hide hrr
  clear hm hr hrr
  go_enter Try.func48, Try.ntmps48
  go_wp2_with fail
  go_loopw [9] (fun i wr => ∃ j : Nat, j ≤ m ∧ i = .int .i64 j ∧ Quiet w wr ∧ ∀ i, i < j → 0 ≤ xs.getD i 0 ∧ xs.getD i 0 < (n : Int)) (fun i _ => m - (intOf i).toNat)
  case atStart => exact ⟨0, Nat.zero_le _, rfl, Quiet.refl _, fun i hi => absurd hi (Nat.not_lt_zero _)⟩
  case round =>
    obtain ⟨j, hj, rfl, hq, hin⟩ := hrel
    have HIN := hide hin
    have HQ := hide hq
    clear hin hq
    by_cases hlt : j < m
    · obtain ⟨b, o, rfl, _, hc⟩ := HQ.out.rd HR.out (by have := HM.out; omega)
      have hv := hc j (by have := HM.out; omega)
      obtain ⟨y, hy⟩ : ∃ y, y = xs.getD j 0 := ⟨_, rfl⟩
      rw [← hy] at hv
      have HY := hide hy
      clear hy hc
      have hjz : (j : Int) < m := by omega
      have bad : ¬ (0 ≤ y ∧ y < (n : Int)) → r = false := fun hyr => by
        cases r
        · rfl
        · exact absurd (by have h := HRR.out.1 rfl j hlt; rw [← HY.out] at h; exact h) hyr
      have BAD := hide bad
      clear bad
      by_cases hy0 : y < 0
      · go_wp2_with fail
        go_ret
        have := BAD.out (by omega)
        exact ⟨by subst this; rfl, HQ.out⟩
      · by_cases hyn : y < (n : Int)
        · have hyn' : decide ((n : Int) ≤ y) = false := by simp; omega
          go_wp2_with fail
          go_roundw
          case rel =>
            refine ⟨j + 1, by omega, by go_num, HQ.out, fun i hi => ?_⟩
            by_cases e : i = j
            · subst e; rw [← HY.out]; exact ⟨by omega, hyn⟩
            · exact HIN.out i (by omega)
          case measure => simp [intOf]; omega
        · have hyn' : decide ((n : Int) ≤ y) = true := by simp; omega
          go_wp2_with fail
          go_ret
          have := BAD.out (by omega)
          exact ⟨by subst this; rfl, HQ.out⟩
    · have hjm : j = m := by omega
      subst hjm
      have hrt : r = true := HRR.out.2 HIN.out
      go_wp2_with fail
      go_ret
      exact ⟨by subst hrt; rfl, HQ.out⟩
end Go.Proofs.Ytaejgmdeiemhcab
