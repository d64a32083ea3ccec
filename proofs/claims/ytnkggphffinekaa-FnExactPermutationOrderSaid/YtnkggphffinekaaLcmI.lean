import Derived.Test.YtnkggphffinekaaProg
import Derived.Test.YtnkggphffinekaaOwn
import Derived.BigRegion
import Derived.IntWalk
namespace Go.Proofs.Ytnkggphffinekaa
open Go Go.RowKit
set_option maxHeartbeats 1000000

theorem lcm_any (a b : Nat) (w : World) (ha : 1 ≤ a) (hb : 1 ≤ b) (hab : a * b ≤ 1000000000000000000) :
    Calls Try.prog 95 #[.int .i64 a, .int .i64 b] w fun e w' => e = .returned (.int .i64 (Nat.lcm a b)) ∧ Quiet w w' := by
  have ha2 : a ≤ 1000000000000000000 := Nat.le_trans (Nat.le_mul_of_pos_right a hb) hab
  have hb2 : b ≤ 1000000000000000000 := Nat.le_trans (Nat.le_mul_of_pos_left b ha) hab
  have HAB := hide hab
  clear hab
  go_enter Try.func95, Try.ntmps95
  go_wp2_with fail
  go_loopw [5, 6] (fun x y wr => ∃ u v : Nat, x = .int .i64 u ∧ y = .int .i64 v ∧ 1 ≤ u ∧ u ≤ 1000000000000000000 ∧ v ≤ 1000000000000000000 ∧ Nat.gcd u v = Nat.gcd a b ∧ Quiet w wr) (fun _ y _ => (intOf y).toNat)
  case atStart => exact ⟨a, b, rfl, rfl, ha, ha2, hb2, rfl, Quiet.refl _⟩
  case round =>
    obtain ⟨u, v, rfl, rfl, hu1, hu, hv, hg, hq⟩ := hrel
    have HG := hide hg
    have HQ := hide hq
    clear hg hq
    by_cases hv0 : v = 0
    · subst hv0
      have hgu : Nat.gcd a b = u := by rw [← HG.out]; simp
      have hud : u ∣ a := by rw [← hgu]; exact Nat.gcd_dvd_left a b
      have hq1 : ((a : Int)).tdiv (u : Int) = ((a / u : Nat) : Int) := by rw [Int.ofNat_tdiv]
      have hq2 : a / u ≤ a := Nat.div_le_self a u
      have hl : a / u * b = Nat.lcm a b := by
        unfold Nat.lcm
        rw [hgu, Nat.div_mul_right_comm hud]
      have hle : a / u * b ≤ 1000000000000000000 := Nat.le_trans (Nat.mul_le_mul_right b hq2) HAB.out
      obtain ⟨m, hm⟩ : ∃ m, a / u = m := ⟨_, rfl⟩
      rw [hm] at hq1 hl hle hq2
      have hl2 : ((m : Int)) * (b : Int) = ((Nat.lcm a b : Nat) : Int) := by rw [← hl]; simp
      have hl3 : Nat.lcm a b ≤ 1000000000000000000 := by rw [← hl]; exact hle
      obtain ⟨r, hr⟩ : ∃ r, Nat.lcm a b = r := ⟨_, rfl⟩
      rw [hr] at hl2 hl3
      have HR := hide hr
      have hu0 : ¬ (u : Int) = 0 := by omega
      clear hgu hud hm hl hle hr
      go_wp2_with fail
      go_ret
      exact ⟨by rw [HR.out]; rfl, HQ.out⟩
    · have hv0z : ¬ (v : Int) = 0 := by omega
      have hne : ((v : Int) != 0) = true := by simpa using hv0
      have hmod : ((u : Int)).tmod (v : Int) = ((u % v : Nat) : Int) := by rw [Int.ofNat_tmod]
      have hlt : u % v < v := Nat.mod_lt u (by omega)
      have hgg : Nat.gcd v (u % v) = Nat.gcd a b := by rw [← HG.out, Nat.gcd_comm u v, Nat.gcd_rec v u, Nat.gcd_comm]
      obtain ⟨m, hm⟩ : ∃ m, u % v = m := ⟨_, rfl⟩
      rw [hm] at hmod hlt hgg
      have HGG := hide hgg
      clear hm hgg
      go_wp2_with fail
      go_region
      go_wp2_with fail
      go_roundw
      case rel => exact ⟨v, m, rfl, rfl, by omega, hv, by omega, HGG.out, HQ.out.drewN 1⟩
      case measure => simp [intOf]; omega
end Go.Proofs.Ytnkggphffinekaa
