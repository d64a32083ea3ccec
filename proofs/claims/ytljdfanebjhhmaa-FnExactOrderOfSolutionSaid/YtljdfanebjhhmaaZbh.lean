import Derived.Test.YtljdfanebjhhmaaZb
import Derived.Test.YtljdfanebjhhmaaProg
import Derived.BigRegion
import Derived.IntWalk
namespace Go.Proofs.Ytljdfanebjhhmaa
open Go Go.RowKit
set_option maxHeartbeats 1000000
theorem natnd_leO (D : List Nat) (n : Nat) (hr : ∀ v ∈ D, v < n) (hn : D.Nodup) : D.length ≤ n := by
  obtain ⟨l, hl⟩ := subset_perm D (List.range n) hn (fun a ha => List.mem_range.2 (hr a ha))
  have := hl.length_eq
  rw [List.length_range, List.length_append] at this
  omega

open Classical
def itf (g : Nat → Nat) : Nat → Nat → Nat
  | 0, y => y
  | k + 1, y => g (itf g k y)
theorem itf_lt {g : Nat → Nat} {N : Nat} (hg : ∀ y, y < N → g y < N) (k y : Nat) (hy : y < N) : itf g k y < N := by
  induction k with
  | zero => exact hy
  | succ k ih => exact hg _ ih
theorem itf_add (g : Nat → Nat) (a b y : Nat) : itf g (a + b) y = itf g a (itf g b y) := by
  induction a with
  | zero => rw [Nat.zero_add]; rfl
  | succ a ih => rw [Nat.succ_add]; unfold itf; rw [ih]
theorem itf_inj {g : Nat → Nat} {N : Nat} (hg : ∀ y, y < N → g y < N) (hi : ∀ y z, y < N → z < N → g y = g z → y = z) (k y z : Nat) (hy : y < N) (hz : z < N) (h : itf g k y = itf g k z) : y = z := by
  induction k with
  | zero => exact h
  | succ k ih =>
    unfold itf at h
    exact ih (hi _ _ (itf_lt hg k y hy) (itf_lt hg k z hz) h)
/-- How many times lead back, at most N. -/
theorem itf_some {g : Nat → Nat} {N : Nat} (hg : ∀ y, y < N → g y < N) (hi : ∀ y z, y < N → z < N → g y = g z → y = z) (y : Nat) (hy : y < N) : ∃ k, 1 ≤ k ∧ k ≤ N ∧ itf g k y = y := by
  by_cases h : ∃ i j, i < j ∧ j ≤ N ∧ itf g i y = itf g j y
  · obtain ⟨i, j, hij, hj, e⟩ := h
    refine ⟨j - i, by omega, by omega, ?_⟩
    have e2 : j = i + (j - i) := by omega
    rw [e2, itf_add] at e
    exact (itf_inj hg hi i y _ hy (itf_lt hg _ y hy) e).symm
  · have hnd : ((List.range (N + 1)).map fun k => itf g k y).Nodup := by
      rw [List.nodup_iff_pairwise_ne, List.pairwise_map]
      refine List.Pairwise.imp_of_mem ?_ List.pairwise_lt_range
      intro a b ha hb hab e
      exact h ⟨a, b, hab, by have := List.mem_range.1 hb; omega, e⟩
    have := natnd_leO _ N (fun v hv => by
      obtain ⟨k, _, e⟩ := List.mem_map.1 hv
      rw [← e]
      exact itf_lt hg k y hy) hnd
    simp at this
    omega
def IsLen (g : Nat → Nat) (y L : Nat) : Prop := 1 ≤ L ∧ itf g L y = y ∧ ∀ j, 1 ≤ j → j < L → itf g j y ≠ y
theorem isLen_ex {g : Nat → Nat} {N : Nat} (hg : ∀ y, y < N → g y < N) (hi : ∀ y z, y < N → z < N → g y = g z → y = z) (y : Nat) (hy : y < N) : ∃ L, L ≤ N ∧ IsLen g y L := by
  obtain ⟨k, h1, h2, h3⟩ := itf_some hg hi y hy
  have key : ∀ m, (∃ L, L ≤ m ∧ IsLen g y L) ∨ ∀ j, 1 ≤ j → j ≤ m → itf g j y ≠ y := by
    intro m
    induction m with
    | zero => exact .inr (fun j a b => by omega)
    | succ m ih =>
      rcases ih with ⟨L, hl, h⟩ | h
      · exact .inl ⟨L, by omega, h⟩
      · by_cases e : itf g (m + 1) y = y
        · exact .inl ⟨m + 1, Nat.le_refl _, by omega, e, fun j a b => h j a (by omega)⟩
        · exact .inr (fun j a b => by
            by_cases e2 : j = m + 1
            · rw [e2]; exact e
            · exact h j a (by omega))
  rcases key k with ⟨L, hl, h⟩ | h
  · exact ⟨L, by omega, h⟩
  · exact absurd h3 (h k h1 (Nat.le_refl _))
end Go.Proofs.Ytljdfanebjhhmaa
namespace Go.Proofs.Ytljdfanebjhhmaa
open Go Go.RowKit
set_option maxHeartbeats 1000000

theorem gcd_any (a b : Nat) (w : World) (ha : a ≤ 1000000000000000000) (hb : b ≤ 1000000000000000000) :
    Calls Try.prog 100 #[.int .i64 a, .int .i64 b] w fun e w' => e = .returned (.int .i64 (Nat.gcd a b)) ∧ Quiet w w' := by
  go_enter Try.func100, Try.ntmps100
  go_wp2_with fail
  go_loopw [0, 1] (fun x y wr => ∃ u v : Nat, x = .int .i64 u ∧ y = .int .i64 v ∧ u ≤ 1000000000000000000 ∧ v ≤ 1000000000000000000 ∧ Nat.gcd u v = Nat.gcd a b ∧ Quiet w wr) (fun _ y _ => (intOf y).toNat)
  case atStart => exact ⟨a, b, rfl, rfl, ha, hb, rfl, Quiet.refl _⟩
  case round =>
    obtain ⟨u, v, rfl, rfl, hu, hv, hg, hq⟩ := hrel
    have HG := hide hg
    have HQ := hide hq
    clear hg hq
    by_cases hv0 : v = 0
    · subst hv0
      have hgu : Nat.gcd a b = u := by rw [← HG.out]; simp
      go_wp2_with fail
      go_ret
      exact ⟨by rw [hgu]; rfl, HQ.out⟩
    · have hv0z : ¬ (v : Int) = 0 := by omega
      have hne : ((v : Int) != 0) = true := by simpa using hv0
      have hmod : ((u : Int)).tmod (v : Int) = ((u % v : Nat) : Int) := by rw [Int.ofNat_tmod]
      have hlt : u % v < v := Nat.mod_lt u (by omega)
      have hgg : Nat.gcd v (u % v) = Nat.gcd a b := by rw [← HG.out, Nat.gcd_comm u v, Nat.gcd_rec v u, Nat.gcd_comm]
      obtain ⟨m, hm⟩ : ∃ m, u % v = m := ⟨_, rfl⟩
      rw [hm] at hmod hlt hgg
      have HGG := hide hgg
      clear hm hgg
      go_wp2_with fail
      go_region
      go_wp2_with fail
      go_roundw
      case rel => exact ⟨v, m, rfl, rfl, hv, by omega, HGG.out, HQ.out.drewN 1⟩
      case measure => simp [intOf]; omega
end Go.Proofs.Ytljdfanebjhhmaa
