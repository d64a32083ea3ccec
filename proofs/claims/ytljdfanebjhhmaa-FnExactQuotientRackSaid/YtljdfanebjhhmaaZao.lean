import Derived.Test.YtljdfanebjhhmaaZac
import Derived.Test.YtljdfanebjhhmaaZai
import Derived.Test.YtljdfanebjhhmaaZn
namespace Go.Proofs.Ytljdfanebjhhmaa
open Go Go.RowKit
open Classical
def CnF (f : List (List Int)) : Prop := ∀ y, y < f.length → (labL f f.length f.length).getD y 0 = 0
def CnRes (f : List (List Int)) : Bool → Int → Prop := BRes (Rck f) (CnF f)
theorem CnRes.ex (f : List (List Int)) : ∃ r code, CnRes f r code := BRes.ex _ _
theorem lab_set (rows : List (List Int)) (k : Nat) : ∀ y, y < k → 0 ≤ (lab rows k).1 y := by
  induction k with
  | zero => intro y hy; omega
  | succ k ih =>
    intro y hy
    unfold lab
    by_cases h : 0 ≤ (lab rows k).1 k
    · rw [if_pos h]
      by_cases e : y = k
      · rw [e]; exact h
      · exact ih y (by omega)
    · rw [if_neg h]
      show 0 ≤ (if Rch rows k y then ((lab rows k).2 : Int) else (lab rows k).1 y)
      by_cases hr : Rch rows k y
      · rw [if_pos hr]; omega
      · rw [if_neg hr]
        by_cases e : y = k
        · subst e; exact absurd .start hr
        · exact ih y (by omega)
/-- The greatest number of a list. -/
def IsMax (xs : List Int) (m : Int) : Prop := (∃ i, i < xs.length ∧ xs.getD i 0 = m) ∧ ∀ i, i < xs.length → xs.getD i 0 ≤ m
theorem IsMax.ex (xs : List Int) (h : 1 ≤ xs.length) : ∃ m, IsMax xs m := by
  have key : ∀ k, 1 ≤ k → k ≤ xs.length → ∃ m, (∃ i, i < k ∧ xs.getD i 0 = m) ∧ ∀ i, i < k → xs.getD i 0 ≤ m := by
    intro k h1
    induction k with
    | zero => omega
    | succ k ih =>
      intro hk
      by_cases e : k = 0
      · subst e
        exact ⟨_, ⟨0, by omega, rfl⟩, fun i hi => by
          have e : i = 0 := by omega
          subst e
          exact Int.le_refl _⟩
      · obtain ⟨m, ⟨i, hi, hm⟩, hall⟩ := ih (by omega) (by omega)
        by_cases h2 : xs.getD k 0 ≤ m
        · exact ⟨m, ⟨i, by omega, hm⟩, fun j hj => by
            by_cases e : j = k
            · subst e; exact h2
            · exact hall j (by omega)⟩
        · exact ⟨xs.getD k 0, ⟨k, by omega, rfl⟩, fun j hj => by
            by_cases e : j = k
            · subst e; exact Int.le_refl _
            · have := hall j (by omega); omega⟩
  obtain ⟨m, ⟨i, hi, hm⟩, hall⟩ := key xs.length h (Nat.le_refl _)
  exact ⟨m, ⟨i, hi, hm⟩, hall⟩
theorem max_zero {f : List (List Int)} {m : Int} (h : IsMax (labL f f.length f.length) m) : m = 0 ↔ CnF f := by
  obtain ⟨⟨i, hi, hm⟩, hall⟩ := h
  rw [labL_length] at hi hall
  constructor
  · intro e y hy
    have h1 := hall y hy
    have h2 := lab_set f f.length y hy
    rw [← labL_at f f.length f.length y hy] at h2
    omega
  · intro hc
    rw [← hm, hc i hi]
end Go.Proofs.Ytljdfanebjhhmaa
namespace Go.Proofs.Ytljdfanebjhhmaa
open Go Go.RowKit
/-- Element number a of a set. -/
def mel (S a : Nat) : Nat := (mems 12 S).getD a 0
theorem mel_in {S a : Nat} (h : a < (mems 12 S).length) : inb S (mel S a) := by
  have : mel S a ∈ mems 12 S := by
    unfold mel
    rw [List.getD_eq_getElem?_getD, List.getElem?_eq_getElem h]
    exact List.getElem_mem h
  exact ((mems_mem _ _ _).1 this).2
theorem mel_of {S x : Nat} (hS : S < 4096) (h : inb S x) : ∃ a, a < (mems 12 S).length ∧ mel S a = x := by
  have hm : x ∈ mems 12 S := (mems_mem _ _ _).2 ⟨inb_lt (k := 12) (by simpa using hS) h, h⟩
  obtain ⟨a, ha, e⟩ := List.getElem_of_mem hm
  exact ⟨a, ha, by unfold mel; rw [List.getD_eq_getElem?_getD, List.getElem?_eq_getElem ha]; exact e⟩
theorem mel_getD {S a : Nat} (h : a < (mems 12 S).length) : (memL 12 S).getD a 0 = (mel S a : Int) := memL_getD _ _ _ h
/-- The set behind the pairs before (i, j). -/
def GrQ (f : List (List Int)) (S i j V : Nat) : Prop := ∀ t, inb V t ↔ inb S t ∨ ∃ a b, (a < i ∨ (a = i ∧ b < j)) ∧ a < (mems 12 S).length ∧ b < (mems 12 S).length ∧ ap f (mel S a) (mel S b) = t
theorem GrQ.start (f : List (List Int)) (S : Nat) : GrQ f S 0 0 S := fun t => ⟨.inl, fun h => by
  rcases h with h | ⟨a, b, h, _⟩
  · exact h
  · omega⟩
theorem GrQ.step {f : List (List Int)} {S i j V v : Nat} (h : GrQ f S i j V) (hi : i < (mems 12 S).length) (hj : j < (mems 12 S).length) (hv : ap f (mel S i) (mel S j) = v) : GrQ f S i (j + 1) (V ||| 2 ^ v) := by
  intro t
  rw [inb_or, h t]
  constructor
  · rintro ((h1 | ⟨a, b, h1, h2, h3, h4⟩) | rfl)
    · exact .inl h1
    · exact .inr ⟨a, b, by omega, h2, h3, h4⟩
    · exact .inr ⟨i, j, by omega, hi, hj, hv⟩
  · rintro (h1 | ⟨a, b, h1, h2, h3, h4⟩)
    · exact .inl (.inl h1)
    · by_cases e : a = i ∧ b = j
      · obtain ⟨rfl, rfl⟩ := e
        exact .inr (h4.symm.trans hv)
      · exact .inl (.inr ⟨a, b, by omega, h2, h3, h4⟩)
theorem GrQ.next {f : List (List Int)} {S i V : Nat} (h : GrQ f S i (mems 12 S).length V) : GrQ f S (i + 1) 0 V := by
  intro t
  rw [h t]
  constructor
  · rintro (h1 | ⟨a, b, h1, h2, h3, h4⟩)
    · exact .inl h1
    · exact .inr ⟨a, b, by omega, h2, h3, h4⟩
  · rintro (h1 | ⟨a, b, h1, h2, h3, h4⟩)
    · exact .inl h1
    · exact .inr ⟨a, b, by omega, h2, h3, h4⟩
theorem GrQ.done {f : List (List Int)} {S V : Nat} (hS : S < 4096) (h : GrQ f S (mems 12 S).length 0 V) : GrF f S V := by
  intro t
  rw [h t]
  constructor
  · rintro (h1 | ⟨a, b, h1, h2, h3, h4⟩)
    · exact .inl h1
    · exact .inr ⟨_, _, mel_in h2, mel_in h3, h4⟩
  · rintro (h1 | ⟨x, y, hx, hy, h4⟩)
    · exact .inl h1
    · obtain ⟨a, ha, rfl⟩ := mel_of hS hx
      obtain ⟨b, hb, rfl⟩ := mel_of hS hy
      exact .inr ⟨a, b, .inl ha, ha, hb, h4⟩
/-- A subrack, as a set. -/
def SubF (f : List (List Int)) (S : Nat) : Prop := S ≠ 0 ∧ ClosedF f S
theorem pow_le (n : Nat) (h : n ≤ 12) : 2 ^ n ≤ 4096 := Nat.pow_le_pow_right (n := 2) (by decide) h
end Go.Proofs.Ytljdfanebjhhmaa
