import Derived.Test.YtelildgngkajnaaZn
namespace Go.Proofs.Ytelildgngkajnaa
open Go Go.RowKit
set_option maxHeartbeats 1000000
/-- The product of two motions, by their numbers. -/
def moH (m s i k : Nat) : Nat := if i < m then (if k < m then (i % m + k % m) % m else m + (i % m + k % m) % m) else (if k < m then m + (i % m + m - k % m) % m else (i % m + m - k % m + s) % m)
theorem moH_lt {m s i k : Nat} (hm : 1 ≤ m) : moH m s i k < 2 * m := by
  have h1 := Nat.mod_lt (i % m + k % m) (show m > 0 by omega)
  have h2 := Nat.mod_lt (i % m + m - k % m) (show m > 0 by omega)
  have h3 := Nat.mod_lt (i % m + m - k % m + s) (show m > 0 by omega)
  unfold moH
  split
  · split <;> omega
  · split <;> omega
theorem mo_ne {m i j : Nat} (hm : 1 ≤ m) (hj : j < 2 * m) (hij : i < j) : i % m ≠ j % m ∨ decide (m ≤ i) ≠ decide (m ≤ j) := by
  by_cases h1 : m ≤ i
  · left
    rw [Nat.mod_eq_sub_mod h1, Nat.mod_eq_sub_mod (by omega : m ≤ j), Nat.mod_eq_of_lt (by omega), Nat.mod_eq_of_lt (by omega)]
    omega
  · by_cases h2 : m ≤ j
    · right; simp [h1, h2]
    · left
      rw [Nat.mod_eq_of_lt (by omega), Nat.mod_eq_of_lt (by omega)]
      omega
theorem mo_pp {m s i k : Nat} (hm : 1 ≤ m) (hi : i < m) (hk : k < m) : moH m s i k % m = (i % m + k % m) % m ∧ ¬ m ≤ moH m s i k := by
  have h1 := Nat.mod_lt (i % m + k % m) (show m > 0 by omega)
  unfold moH
  rw [if_pos hi, if_pos hk]
  exact ⟨Nat.mod_eq_of_lt h1, by omega⟩
theorem mo_pf {m s i k : Nat} (hm : 1 ≤ m) (hi : i < m) (hk : ¬ k < m) : moH m s i k % m = (i % m + k % m) % m ∧ m ≤ moH m s i k := by
  have h1 := Nat.mod_lt (i % m + k % m) (show m > 0 by omega)
  unfold moH
  rw [if_pos hi, if_neg hk]
  exact ⟨by rw [Nat.add_mod_left]; exact Nat.mod_eq_of_lt h1, by omega⟩
theorem mo_fp {m s i k : Nat} (hm : 1 ≤ m) (hi : ¬ i < m) (hk : k < m) : moH m s i k % m = (i % m + m - k % m) % m ∧ m ≤ moH m s i k := by
  have h1 := Nat.mod_lt (i % m + m - k % m) (show m > 0 by omega)
  unfold moH
  rw [if_neg hi, if_pos hk]
  exact ⟨by rw [Nat.add_mod_left]; exact Nat.mod_eq_of_lt h1, by omega⟩
theorem mo_ff {m s i k : Nat} (hm : 1 ≤ m) (hi : ¬ i < m) (hk : ¬ k < m) : moH m s i k % m = (i % m + m - k % m + s) % m ∧ ¬ m ≤ moH m s i k := by
  have h1 := Nat.mod_lt (i % m + m - k % m + s) (show m > 0 by omega)
  unfold moH
  rw [if_neg hi, if_neg hk]
  exact ⟨Nat.mod_eq_of_lt h1, by omega⟩
theorem mo_add (x y m : Nat) : ((x : Int) + (y : Int)) % (m : Int) = (((x + y) % m : Nat) : Int) := by rw [Int.natCast_emod]; simp
theorem mo_sub (x y m : Nat) (hy : y ≤ m) : ((x : Int) - (y : Int)) % (m : Int) = (((x + m - y) % m : Nat) : Int) := by
  rw [Int.natCast_emod, show ((x + m - y : Nat) : Int) = ((x : Int) - (y : Int)) + (m : Int) by omega, Int.add_emod_right]
theorem mo_subs (x y s m : Nat) (hy : y ≤ m) : ((x : Int) - (y : Int) + (s : Int)) % (m : Int) = (((x + m - y + s) % m : Nat) : Int) := by
  rw [Int.natCast_emod, show ((x + m - y + s : Nat) : Int) = ((x : Int) - (y : Int) + (s : Int)) + (m : Int) by omega, Int.add_emod_right]
def DhgRes (x : Int) : List (List Int) → Int → Prop := FmRes (1 ≤ x ∧ x ≤ 6) 2 (2 * x.toNat) (fun i k => (moH x.toNat 0 i k : Nat))
def DcgRes (x : Int) : List (List Int) → Int → Prop := FmRes (2 ≤ x ∧ x ≤ 3) 2 (2 * (2 * x.toNat)) (fun i k => (moH (2 * x.toNat) x.toNat i k : Nat))
theorem DhgRes.ex (x : Int) : ∃ zs code, DhgRes x zs code ∧ zs.length ≤ 1048576 ∧ ∀ i, i < zs.length → (zs.getD i []).length ≤ 1048576 := FmRes.ex (1 ≤ x ∧ x ≤ 6) 2 (2 * x.toNat) _ (fun h => by omega)
theorem DcgRes.ex (x : Int) : ∃ zs code, DcgRes x zs code ∧ zs.length ≤ 1048576 ∧ ∀ i, i < zs.length → (zs.getD i []).length ≤ 1048576 := FmRes.ex (2 ≤ x ∧ x ≤ 3) 2 (2 * (2 * x.toNat)) _ (fun h => by omega)
end Go.Proofs.Ytelildgngkajnaa
