import Derived.Test.YtljdfanebjhhmaaZbh
namespace Go.Proofs.Ytljdfanebjhhmaa
open Go Go.RowKit
set_option maxHeartbeats 1000000

theorem lcm_any (a b : Nat) (w : World) (ha : 1 ≤ a) (hb : 1 ≤ b) (hab : a * b ≤ 1000000000000000000) :
    Calls Try.prog 74 #[.int .i64 a, .int .i64 b] w fun e w' => e = .returned (.int .i64 (Nat.lcm a b)) ∧ Quiet w w' := by
  have ha2 : a ≤ 1000000000000000000 := Nat.le_trans (Nat.le_mul_of_pos_right a hb) hab
  have hb2 : b ≤ 1000000000000000000 := Nat.le_trans (Nat.le_mul_of_pos_left b ha) hab
  obtain ⟨u, hu⟩ : ∃ u, Nat.gcd a b = u := ⟨_, rfl⟩
  have hud : u ∣ a := by rw [← hu]; exact Nat.gcd_dvd_left a b
  have hu1 : 1 ≤ u := by rw [← hu]; exact Nat.gcd_pos_of_pos_left b ha
  have hula : u ≤ a := Nat.le_of_dvd ha hud
  have hq1 : ((a : Int)).tdiv (u : Int) = ((a / u : Nat) : Int) := by rw [Int.ofNat_tdiv]
  have hq2 : a / u ≤ a := Nat.div_le_self a u
  have hl : a / u * b = Nat.lcm a b := by
    unfold Nat.lcm
    rw [hu, Nat.div_mul_right_comm hud]
  have hle : a / u * b ≤ 1000000000000000000 := Nat.le_trans (Nat.mul_le_mul_right b hq2) hab
  obtain ⟨m, hm⟩ : ∃ m, a / u = m := ⟨_, rfl⟩
  rw [hm] at hq1 hl hle hq2
  have hl2 : ((m : Int)) * (b : Int) = ((Nat.lcm a b : Nat) : Int) := by rw [← hl]; simp
  have hl3 : Nat.lcm a b ≤ 1000000000000000000 := by rw [← hl]; exact hle
  obtain ⟨r, hr⟩ : ∃ r, Nat.lcm a b = r := ⟨_, rfl⟩
  rw [hr] at hl2 hl3 ⊢
  have hu0 : ¬ (u : Int) = 0 := by omega
  have HU := hide hu
  clear hud hm hl hle hr hab hu
  go_enter Try.func74, Try.ntmps74
  go_wp2_with fail
  refine (gcd_any a b _ ha2 hb2).mono ?_
  rintro e w1 ⟨rfl, hq1'⟩
  rw [HU.out]
  have HQ := hide hq1'
  clear hq1'
  go_wp2_with fail
  go_ret
  exact ⟨rfl, HQ.out⟩
end Go.Proofs.Ytljdfanebjhhmaa
