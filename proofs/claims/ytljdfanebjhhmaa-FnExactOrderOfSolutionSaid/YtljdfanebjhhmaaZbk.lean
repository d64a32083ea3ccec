import Derived.Test.YtljdfanebjhhmaaZbi
namespace Go.Proofs.Ytljdfanebjhhmaa
open Go Go.RowKit
set_option maxHeartbeats 2000000

theorem comS_any (a b : Nat) (w : World) (ha1 : 1 ≤ a) (ha : a ≤ 1000000000) (hb : b ≤ 1000000000) :
    Calls Try.prog 70 #[.int .i64 a, .int .i64 b] w fun e w' => e = .returned (.int .i64 (Nat.gcd a b)) ∧ Quiet w w' := by
  go_enter Try.func70, Try.ntmps70
  go_wp2_with fail
  go_loopw [0, 1] (fun x y wr => ∃ u v : Nat, x = .int .i64 u ∧ y = .int .i64 v ∧ 1 ≤ u ∧ u ≤ 1000000000 ∧ v ≤ 1000000000 ∧ Nat.gcd u v = Nat.gcd a b ∧ Quiet w wr) (fun _ y _ => (intOf y).toNat)
  case atStart => exact ⟨a, b, rfl, rfl, ha1, ha, hb, rfl, Quiet.refl _⟩
  case round =>
    obtain ⟨u, v, rfl, rfl, hu1, hu, hv, hg, hq⟩ := hrel
    have HG := hide hg
    have HQ := hide hq
    clear hg hq
    by_cases hv0 : v = 0
    · subst hv0
      have hgu : Nat.gcd a b = u := by rw [← HG.out]; simp
      have HGU := hide hgu
      clear hgu
      go_wp2_with fail
      go_ret
      exact ⟨by rw [HGU.out]; rfl, HQ.out⟩
    · have hv0z : ¬ (v : Int) = 0 := by omega
      have hv1z : (0 : Int) < (v : Int) := by omega
      have hne : ((v : Int) != 0) = true := by simpa using hv0
      have hmod : ((u : Int)).tmod (v : Int) = ((u % v : Nat) : Int) := by rw [Int.ofNat_tmod]
      have hlt : u % v < v := Nat.mod_lt u (by omega)
      have hgg : Nat.gcd v (u % v) = Nat.gcd a b := by rw [← HG.out, Nat.gcd_comm u v, Nat.gcd_rec v u, Nat.gcd_comm]
      obtain ⟨m, hm⟩ : ∃ m, u % v = m := ⟨_, rfl⟩
      rw [hm] at hmod hlt hgg
      have HGG := hide hgg
      clear hm hgg
      go_wp2_with fail
      go_roundw
      case rel => exact ⟨v, m, rfl, rfl, by omega, hv, by omega, HGG.out, HQ.out⟩
      case measure => simp [intOf]; omega
end Go.Proofs.Ytljdfanebjhhmaa
