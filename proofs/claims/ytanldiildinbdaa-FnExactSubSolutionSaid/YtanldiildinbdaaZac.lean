import Derived.Test.YtanldiildinbdaaZt
namespace Go.Proofs.Ytanldiildinbdaa
open Go Go.RowKit
/-- A strictly increasing list of elements, at least one. -/
def IncSet (n : Nat) (set : List Int) : Prop := (∀ i, i < set.length → (0 ≤ set.getD i 0 ∧ set.getD i 0 < (n : Int)) ∧ (0 < i → set.getD (i - 1) 0 < set.getD i 0)) ∧ 0 < set.length
def ClF (f s : List (List Int)) (set : List Int) : Prop := ∀ i k, i < set.length → k < set.length → ((ap f (set.getD i 0).toNat (set.getD k 0).toNat : Nat) : Int) ∈ set ∧ ((ap s (set.getD i 0).toNat (set.getD k 0).toNat : Nat) : Int) ∈ set
def CsRes (f s : List (List Int)) (set : List Int) (r : Bool) (code : Int) : Prop :=
  (PMap f s ∧ IncSet f.length set ∧ (r = true ↔ ClF f s set) ∧ code = 0) ∨ (PMap f s ∧ ¬ IncSet f.length set ∧ r = false ∧ code = 2) ∨ (¬ PMap f s ∧ r = false ∧ code = 1)
theorem CsRes.ex (f s : List (List Int)) (set : List Int) : ∃ r code, CsRes f s set r code := by
  by_cases h : PMap f s
  · by_cases h2 : IncSet f.length set
    · obtain ⟨r, hr⟩ := bool_of (ClF f s set)
      exact ⟨r, _, .inl ⟨h, h2, hr, rfl⟩⟩
    · exact ⟨_, _, .inr (.inl ⟨h, h2, rfl, rfl⟩)⟩
  · exact ⟨_, _, .inr (.inr ⟨h, rfl, rfl⟩)⟩
theorem IncSet.at {n : Nat} {set : List Int} (h : IncSet n set) {i : Nat} (hi : i < set.length) : ∃ j : Nat, set.getD i 0 = (j : Int) ∧ j < n := by
  have h1 := (h.1 i hi).1
  obtain ⟨j, hj⟩ := Int.eq_ofNat_of_zero_le h1.1
  exact ⟨j, hj, by omega⟩
/-- Such a list has at most n elements. -/
theorem IncSet.le {n : Nat} {set : List Int} (h : IncSet n set) : set.length ≤ n := by
  have h2 : ∀ i, i < set.length → (i : Int) ≤ set.getD i 0 := by
    intro i
    induction i with
    | zero => intro hi; exact (h.1 0 hi).1.1
    | succ i ih =>
      intro hi
      have h3 := ih (by omega)
      have h4 := (h.1 (i + 1) hi).2 (by omega)
      rw [Nat.add_sub_cancel] at h4
      omega
  have h5 := h2 (set.length - 1) (by have := h.2; omega)
  have h6 := (h.1 (set.length - 1) (by have := h.2; omega)).1.2
  have := h.2
  omega
end Go.Proofs.Ytanldiildinbdaa
