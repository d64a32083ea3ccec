import Derived.Test.YtelildgngkajnaaZb
namespace Go.Proofs.Ytelildgngkajnaa
open Go Go.RowKit
set_option maxHeartbeats 1000000
theorem natnd_leO (D : List Nat) (n : Nat) (hr : ∀ v ∈ D, v < n) (hn : D.Nodup) : D.length ≤ n := by
  obtain ⟨l, hl⟩ := subset_perm D (List.range n) hn (fun a ha => List.mem_range.2 (hr a ha))
  have := hl.length_eq
  rw [List.length_range, List.length_append] at this
  omega

open Classical
def itf (g : Nat → Nat) : Nat → Nat → Nat
  | 0, y => y
  | k + 1, y => g (itf g k y)
theorem itf_lt {g : Nat → Nat} {N : Nat} (hg : ∀ y, y < N → g y < N) (k y : Nat) (hy : y < N) : itf g k y < N := by
  induction k with
  | zero => exact hy
  | succ k ih => exact hg _ ih
theorem itf_add (g : Nat → Nat) (a b y : Nat) : itf g (a + b) y = itf g a (itf g b y) := by
  induction a with
  | zero => rw [Nat.zero_add]; rfl
  | succ a ih => rw [Nat.succ_add]; unfold itf; rw [ih]
theorem itf_inj {g : Nat → Nat} {N : Nat} (hg : ∀ y, y < N → g y < N) (hi : ∀ y z, y < N → z < N → g y = g z → y = z) (k y z : Nat) (hy : y < N) (hz : z < N) (h : itf g k y = itf g k z) : y = z := by
  induction k with
  | zero => exact h
  | succ k ih =>
    unfold itf at h
    exact ih (hi _ _ (itf_lt hg k y hy) (itf_lt hg k z hz) h)
/-- How many times lead back, at most N. -/
theorem itf_some {g : Nat → Nat} {N : Nat} (hg : ∀ y, y < N → g y < N) (hi : ∀ y z, y < N → z < N → g y = g z → y = z) (y : Nat) (hy : y < N) : ∃ k, 1 ≤ k ∧ k ≤ N ∧ itf g k y = y := by
  by_cases h : ∃ i j, i < j ∧ j ≤ N ∧ itf g i y = itf g j y
  · obtain ⟨i, j, hij, hj, e⟩ := h
    refine ⟨j - i, by omega, by omega, ?_⟩
    have e2 : j = i + (j - i) := by omega
    rw [e2, itf_add] at e
    exact (itf_inj hg hi i y _ hy (itf_lt hg _ y hy) e).symm
  · have hnd : ((List.range (N + 1)).map fun k => itf g k y).Nodup := by
      rw [List.nodup_iff_pairwise_ne, List.pairwise_map]
      refine List.Pairwise.imp_of_mem ?_ List.pairwise_lt_range
      intro a b ha hb hab e
      exact h ⟨a, b, hab, by have := List.mem_range.1 hb; omega, e⟩
    have := natnd_leO _ N (fun v hv => by
      obtain ⟨k, _, e⟩ := List.mem_map.1 hv
      rw [← e]
      exact itf_lt hg k y hy) hnd
    simp at this
    omega
def IsLen (g : Nat → Nat) (y L : Nat) : Prop := 1 ≤ L ∧ itf g L y = y ∧ ∀ j, 1 ≤ j → j < L → itf g j y ≠ y
theorem isLen_ex {g : Nat → Nat} {N : Nat} (hg : ∀ y, y < N → g y < N) (hi : ∀ y z, y < N → z < N → g y = g z → y = z) (y : Nat) (hy : y < N) : ∃ L, L ≤ N ∧ IsLen g y L := by
  obtain ⟨k, h1, h2, h3⟩ := itf_some hg hi y hy
  have key : ∀ m, (∃ L, L ≤ m ∧ IsLen g y L) ∨ ∀ j, 1 ≤ j → j ≤ m → itf g j y ≠ y := by
    intro m
    induction m with
    | zero => exact .inr (fun j a b => by omega)
    | succ m ih =>
      rcases ih with ⟨L, hl, h⟩ | h
      · exact .inl ⟨L, by omega, h⟩
      · by_cases e : itf g (m + 1) y = y
        · exact .inl ⟨m + 1, Nat.le_refl _, by omega, e, fun j a b => h j a (by omega)⟩
        · exact .inr (fun j a b => by
            by_cases e2 : j = m + 1
            · rw [e2]; exact e
            · exact h j a (by omega))
  rcases key k with ⟨L, hl, h⟩ | h
  · exact ⟨L, by omega, h⟩
  · exact absurd h3 (h k h1 (Nat.le_refl _))
end Go.Proofs.Ytelildgngkajnaa
