import Derived.Test.YtkflmhmbkilmpacMem
namespace Go.Proofs.Ytkflmhmbkilmpac
open Go Go.RowKit
theorem subset_perm {α : Type} [DecidableEq α] : ∀ (l₁ l₂ : List α), l₁.Nodup → (∀ a ∈ l₁, a ∈ l₂) → ∃ l, List.Perm l₂ (l₁ ++ l) := by
  intro l₁
  induction l₁ with
  | nil => intro l₂ _ _; exact ⟨l₂, List.Perm.refl _⟩
  | cons a t ih =>
    intro l₂ hn hs
    have ha : a ∈ l₂ := hs a (by simp)
    have hn' := List.nodup_cons.1 hn
    have hp := List.perm_cons_erase ha
    obtain ⟨l, hl⟩ := ih (l₂.erase a) hn'.2 (fun b hb => by
      have hb2 := hs b (by simp [hb])
      have hne : b ≠ a := fun e => hn'.1 (e ▸ hb)
      exact (List.mem_erase_of_ne hne).2 hb2)
    exact ⟨l, hp.trans (hl.cons a)⟩
def rng (n : Nat) : List Int := (List.range n).map Int.ofNat
theorem rng_nodup (n : Nat) : (rng n).Nodup := by
  unfold rng
  exact List.Pairwise.map _ (fun a b h e => h (by injection e)) (List.nodup_range (n := n))
theorem mem_rng (n : Nat) (x : Int) : x ∈ rng n ↔ 0 ≤ x ∧ x < n := by
  unfold rng
  simp only [List.mem_map, List.mem_range]
  constructor
  · rintro ⟨a, ha, rfl⟩; simp; omega
  · rintro ⟨h1, h2⟩; exact ⟨x.toNat, by omega, by simp; omega⟩
theorem rng_length (n : Nat) : (rng n).length = n := by simp [rng]
/-- pigeonhole -/
theorem perm_iff (xs : List Int) : (∀ x : Int, 0 ≤ x → x < (xs.length : Int) → x ∈ xs) ↔ (∀ x ∈ xs, 0 ≤ x ∧ x < (xs.length : Int)) ∧ xs.Nodup := by
  constructor
  · intro h
    obtain ⟨l, hl⟩ := subset_perm (rng xs.length) xs (rng_nodup _) (fun a ha => by have := (mem_rng _ _).1 ha; exact h a this.1 this.2)
    have hlen := hl.length_eq
    rw [List.length_append, rng_length] at hlen
    have : l = [] := List.eq_nil_of_length_eq_zero (by omega)
    subst this
    rw [List.append_nil] at hl
    exact ⟨fun x hx => (mem_rng _ _).1 (hl.mem_iff.1 hx), hl.nodup_iff.2 (rng_nodup _)⟩
  · rintro ⟨h, hn⟩ x h0 h1
    obtain ⟨l, hl⟩ := subset_perm xs (rng xs.length) hn (fun a ha => (mem_rng _ _).2 (h a ha))
    have hlen := hl.length_eq
    rw [List.length_append, rng_length] at hlen
    have : l = [] := List.eq_nil_of_length_eq_zero (by omega)
    subst this
    rw [List.append_nil] at hl
    exact hl.mem_iff.1 ((mem_rng _ _).2 ⟨h0, h1⟩)

/-- A permutation of 1 to 12 elements. -/
def Prm (xs : List Int) : Prop := 1 ≤ xs.length ∧ xs.length ≤ 12 ∧ (∀ x ∈ xs, 0 ≤ x ∧ x < (xs.length : Int)) ∧ xs.Nodup

theorem prm_iff (xs : List Int) : Prm xs ↔ 1 ≤ xs.length ∧ xs.length ≤ 12 ∧ ∀ x : Int, 0 ≤ x → x < (xs.length : Int) → x ∈ xs := by
  unfold Prm
  rw [perm_iff]
end Go.Proofs.Ytkflmhmbkilmpac
