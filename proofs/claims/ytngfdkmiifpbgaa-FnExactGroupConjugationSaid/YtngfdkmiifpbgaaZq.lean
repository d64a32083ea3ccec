import Derived.Test.YtngfdkmiifpbgaaProg
import Derived.Test.YtngfdkmiifpbgaaZa
import Derived.Test.YtngfdkmiifpbgaaZe
namespace Go.Proofs.Ytngfdkmiifpbgaa
open Go Go.RowKit
set_option maxHeartbeats 1000000
theorem rem_val (a n : Int) (h1 : 1 ≤ n) : (a.tmod n + n).tmod n = a % n := by
  have h0 : -n < a.tmod n ∧ a.tmod n < n := by
    have := Int.tmod_lt_of_pos a (by omega : 0 < n)
    have h2 := Int.lt_tmod_of_pos a (by omega : 0 < n)
    omega
  rw [Int.tmod_eq_emod_of_nonneg (by omega), Int.add_emod_right, Int.tmod_def, Int.sub_emod, Int.mul_emod_right, Int.sub_zero, Int.emod_emod]
theorem remainder_any (a : Int) (n : Nat) (w : World) (h1 : 1 ≤ n) (h2 : n ≤ 1000) (_ha : -1000 ≤ a) (_hb : a ≤ 1000) :
    Calls Try.prog 95 #[.int .i64 a, .int .i64 n] w fun e w' => e = .returned (.int .i64 (a % (n : Int))) ∧ Below w.heap.size w w' := by
  have hv := rem_val a n (by omega)
  have hq : -(n : Int) < a.tmod n ∧ a.tmod n < (n : Int) := by
    have := Int.tmod_lt_of_pos a (by omega : (0 : Int) < n)
    have h2 := Int.lt_tmod_of_pos a (by omega : (0 : Int) < n)
    omega
  have hm := Int.emod_nonneg a (by omega : (n : Int) ≠ 0)
  have hm2 := Int.emod_lt_of_pos a (by omega : (0 : Int) < n)
  obtain ⟨q, hqe⟩ : ∃ q, a.tmod (n : Int) = q := ⟨_, rfl⟩
  obtain ⟨r, hre⟩ : ∃ r, a % (n : Int) = r := ⟨_, rfl⟩
  rw [hqe, hre] at hv
  rw [hqe] at hq
  rw [hre] at hm hm2 ⊢
  have hn0 : ¬ (n : Int) = 0 := by omega
  have hn1 : ¬ (n : Int) = -1 := by omega
  clear hre
  go_enter Try.func95, Try.ntmps95
  go_wp2_with fail
  go_ret
  exact ⟨rfl, Below.refl _ _⟩
end Go.Proofs.Ytngfdkmiifpbgaa
namespace Go.Proofs.Ytngfdkmiifpbgaa
open Go Go.RowKit
set_option maxHeartbeats 1000000

theorem isSize_any (x : Int) (r : Bool) (w : World) (hr : r = true ↔ 1 ≤ x ∧ x ≤ 12) :
    Calls Try.prog 61 #[.int .i64 x] w fun e w' => e = .returned (.bool r) ∧ Quiet w w' := by
  have HR := hide hr
  clear hr
  by_cases h1 : 1 ≤ x
  · by_cases h2 : x ≤ 12
    · have : r = true := HR.out.2 ⟨h1, h2⟩
      subst this
      go_enter Try.func61, Try.ntmps61
      go_wp2_with fail
      go_ret
      exact ⟨rfl, Quiet.refl _⟩
    · have : r = false := by
        cases r
        · rfl
        · exact absurd (HR.out.1 rfl).2 h2
      subst this
      have h2' : decide (x ≤ 12) = false := by simpa using h2
      clear h2
      go_enter Try.func61, Try.ntmps61
      go_wp2_with fail
      go_ret
      exact ⟨rfl, Quiet.refl _⟩
  · have : r = false := by
      cases r
      · rfl
      · exact absurd (HR.out.1 rfl).1 h1
    subst this
    have h1' : decide (1 ≤ x) = false := by simpa using h1
    clear h1
    go_enter Try.func61, Try.ntmps61
    go_wp2_with fail
    go_ret
    exact ⟨rfl, Quiet.refl _⟩
end Go.Proofs.Ytngfdkmiifpbgaa
