import Derived.Test.YtaejgmdeiemhcabZaa
import Derived.Test.YtaejgmdeiemhcabZai
import Derived.Test.YtaejgmdeiemhcabZh
namespace Go.Proofs.Ytaejgmdeiemhcab
open Go Go.RowKit
open Classical
def CnF (f : List (List Int)) : Prop := ∀ y, y < f.length → (labL f f.length f.length).getD y 0 = 0
def CnRes (f : List (List Int)) : Bool → Int → Prop := BRes (Rck f) (CnF f)
theorem CnRes.ex (f : List (List Int)) : ∃ r code, CnRes f r code := BRes.ex _ _
theorem lab_set (rows : List (List Int)) (k : Nat) : ∀ y, y < k → 0 ≤ (lab rows k).1 y := by
  induction k with
  | zero => intro y hy; omega
  | succ k ih =>
    intro y hy
    unfold lab
    by_cases h : 0 ≤ (lab rows k).1 k
    · rw [if_pos h]
      by_cases e : y = k
      · rw [e]; exact h
      · exact ih y (by omega)
    · rw [if_neg h]
      show 0 ≤ (if Rch rows k y then ((lab rows k).2 : Int) else (lab rows k).1 y)
      by_cases hr : Rch rows k y
      · rw [if_pos hr]; omega
      · rw [if_neg hr]
        by_cases e : y = k
        · subst e; exact absurd .start hr
        · exact ih y (by omega)
/-- The greatest number of a list. -/
def IsMax (xs : List Int) (m : Int) : Prop := (∃ i, i < xs.length ∧ xs.getD i 0 = m) ∧ ∀ i, i < xs.length → xs.getD i 0 ≤ m
theorem IsMax.ex (xs : List Int) (h : 1 ≤ xs.length) : ∃ m, IsMax xs m := by
  have key : ∀ k, 1 ≤ k → k ≤ xs.length → ∃ m, (∃ i, i < k ∧ xs.getD i 0 = m) ∧ ∀ i, i < k → xs.getD i 0 ≤ m := by
    intro k h1
    induction k with
    | zero => omega
    | succ k ih =>
      intro hk
      by_cases e : k = 0
      · subst e
        exact ⟨_, ⟨0, by omega, rfl⟩, fun i hi => by
          have e : i = 0 := by omega
          subst e
          exact Int.le_refl _⟩
      · obtain ⟨m, ⟨i, hi, hm⟩, hall⟩ := ih (by omega) (by omega)
        by_cases h2 : xs.getD k 0 ≤ m
        · exact ⟨m, ⟨i, by omega, hm⟩, fun j hj => by
            by_cases e : j = k
            · subst e; exact h2
            · exact hall j (by omega)⟩
        · exact ⟨xs.getD k 0, ⟨k, by omega, rfl⟩, fun j hj => by
            by_cases e : j = k
            · subst e; exact Int.le_refl _
            · have := hall j (by omega); omega⟩
  obtain ⟨m, ⟨i, hi, hm⟩, hall⟩ := key xs.length h (Nat.le_refl _)
  exact ⟨m, ⟨i, hi, hm⟩, hall⟩
theorem max_zero {f : List (List Int)} {m : Int} (h : IsMax (labL f f.length f.length) m) : m = 0 ↔ CnF f := by
  obtain ⟨⟨i, hi, hm⟩, hall⟩ := h
  rw [labL_length] at hi hall
  constructor
  · intro e y hy
    have h1 := hall y hy
    have h2 := lab_set f f.length y hy
    rw [← labL_at f f.length f.length y hy] at h2
    omega
  · intro hc
    rw [← hm, hc i hi]
end Go.Proofs.Ytaejgmdeiemhcab
