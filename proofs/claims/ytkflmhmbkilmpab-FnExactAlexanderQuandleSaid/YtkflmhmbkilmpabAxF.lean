import Derived.Test.YtkflmhmbkilmpabFmF
namespace Go.Proofs.Ytkflmhmbkilmpab
open Go Go.RowKit
def axH (n a : Nat) : Nat → Nat → Int := fun x y => ((((n + 1 - a) * x + a * y) % n : Nat) : Int)
def AxRes (x y : Int) (zs : List (List Int)) (code : Int) : Prop :=
  (((1 ≤ x ∧ x ≤ 12) ∧ 0 ≤ y ∧ y < x) ∧ Nat.gcd y.toNat x.toNat ≤ 1 ∧ zs = grid x.toNat (axH x.toNat y.toNat) ∧ code = 0) ∨ (((1 ≤ x ∧ x ≤ 12) ∧ 0 ≤ y ∧ y < x) ∧ ¬ Nat.gcd y.toNat x.toNat ≤ 1 ∧ zs = [] ∧ code = 5) ∨ (¬ ((1 ≤ x ∧ x ≤ 12) ∧ 0 ≤ y ∧ y < x) ∧ zs = [] ∧ code = 2)
theorem AxRes.ex (x y : Int) : ∃ zs code, AxRes x y zs code ∧ zs.length ≤ 1048576 ∧ ∀ i, i < zs.length → (zs.getD i []).length ≤ 1048576 := by
  by_cases hg : (1 ≤ x ∧ x ≤ 12) ∧ 0 ≤ y ∧ y < x
  · by_cases h2 : Nat.gcd y.toNat x.toNat ≤ 1
    · refine ⟨_, _, .inl ⟨hg, h2, rfl, rfl⟩, by rw [grid_length]; omega, fun i hi => ?_⟩
      rw [grid_length] at hi
      rw [grid_row_length _ _ _ hi]; omega
    · exact ⟨_, _, .inr (.inl ⟨hg, h2, rfl, rfl⟩), by simp, by simp⟩
  · exact ⟨_, _, .inr (.inr ⟨hg, rfl, rfl⟩), by simp, by simp⟩
theorem ax_eq (n a x y : Nat) (ha : a < n) : (((1 - (a : Int)) * (x : Int) + (a : Int) * (y : Int)) % (n : Int)) = axH n a x y := by
  unfold axH
  obtain ⟨m, rfl⟩ : ∃ m, n = a + m := ⟨n - a, by omega⟩
  have e : (((a + m + 1 - a) * x + a * y : Nat) : Int) = ((1 - (a : Int)) * (x : Int) + (a : Int) * (y : Int)) + ((a + m : Nat) : Int) * (x : Int) := by
    have : a + m + 1 - a = m + 1 := by omega
    rw [this]
    push_cast
    rw [Int.sub_mul, Int.add_mul, Int.add_mul]
    omega
  rw [Int.natCast_emod, e, Int.add_mul_emod_self_left]
theorem ax_mod (n b x q : Nat) : ((b % n) * x + q) % n = (b * x + q) % n := by
  rw [Nat.add_mod, Nat.mod_mul_mod, ← Nat.add_mod]
/-- No common divisor from 2 on. -/
theorem cop_iff (a n : Nat) (hn : 1 ≤ n) : Nat.gcd a n ≤ 1 ↔ ∀ d, 2 ≤ d → d ≤ n → ¬ (a % d = 0 ∧ n % d = 0) := by
  constructor
  · rintro h d h2 _ ⟨h3, h4⟩
    have := Nat.le_of_dvd (Nat.gcd_pos_of_pos_right a hn) (Nat.dvd_gcd (Nat.dvd_of_mod_eq_zero h3) (Nat.dvd_of_mod_eq_zero h4))
    omega
  · intro h
    by_cases h1 : Nat.gcd a n ≤ 1
    · exact h1
    · exact absurd ⟨Nat.mod_eq_zero_of_dvd (Nat.gcd_dvd_left a n), Nat.mod_eq_zero_of_dvd (Nat.gcd_dvd_right a n)⟩ (h (Nat.gcd a n) (by omega) (Nat.le_of_dvd (by omega) (Nat.gcd_dvd_right a n)))
end Go.Proofs.Ytkflmhmbkilmpab
