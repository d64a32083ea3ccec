import Derived.Test.YtaejgmdeiemhcabZac
namespace Go.Proofs.Ytaejgmdeiemhcab
open Go Go.RowKit
/-- Element number a of a set. -/
def mel (S a : Nat) : Nat := (mems 12 S).getD a 0
theorem mel_in {S a : Nat} (h : a < (mems 12 S).length) : inb S (mel S a) := by
  have : mel S a ∈ mems 12 S := by
    unfold mel
    rw [List.getD_eq_getElem?_getD, List.getElem?_eq_getElem h]
    exact List.getElem_mem h
  exact ((mems_mem _ _ _).1 this).2
theorem mel_of {S x : Nat} (hS : S < 4096) (h : inb S x) : ∃ a, a < (mems 12 S).length ∧ mel S a = x := by
  have hm : x ∈ mems 12 S := (mems_mem _ _ _).2 ⟨inb_lt (k := 12) (by simpa using hS) h, h⟩
  obtain ⟨a, ha, e⟩ := List.getElem_of_mem hm
  exact ⟨a, ha, by unfold mel; rw [List.getD_eq_getElem?_getD, List.getElem?_eq_getElem ha]; exact e⟩
theorem mel_getD {S a : Nat} (h : a < (mems 12 S).length) : (memL 12 S).getD a 0 = (mel S a : Int) := memL_getD _ _ _ h
/-- The set behind the pairs before (i, j). -/
def GrQ (f : List (List Int)) (S i j V : Nat) : Prop := ∀ t, inb V t ↔ inb S t ∨ ∃ a b, (a < i ∨ (a = i ∧ b < j)) ∧ a < (mems 12 S).length ∧ b < (mems 12 S).length ∧ ap f (mel S a) (mel S b) = t
theorem GrQ.start (f : List (List Int)) (S : Nat) : GrQ f S 0 0 S := fun t => ⟨.inl, fun h => by
  rcases h with h | ⟨a, b, h, _⟩
  · exact h
  · omega⟩
theorem GrQ.step {f : List (List Int)} {S i j V v : Nat} (h : GrQ f S i j V) (hi : i < (mems 12 S).length) (hj : j < (mems 12 S).length) (hv : ap f (mel S i) (mel S j) = v) : GrQ f S i (j + 1) (V ||| 2 ^ v) := by
  intro t
  rw [inb_or, h t]
  constructor
  · rintro ((h1 | ⟨a, b, h1, h2, h3, h4⟩) | rfl)
    · exact .inl h1
    · exact .inr ⟨a, b, by omega, h2, h3, h4⟩
    · exact .inr ⟨i, j, by omega, hi, hj, hv⟩
  · rintro (h1 | ⟨a, b, h1, h2, h3, h4⟩)
    · exact .inl (.inl h1)
    · by_cases e : a = i ∧ b = j
      · obtain ⟨rfl, rfl⟩ := e
        exact .inr (h4.symm.trans hv)
      · exact .inl (.inr ⟨a, b, by omega, h2, h3, h4⟩)
theorem GrQ.next {f : List (List Int)} {S i V : Nat} (h : GrQ f S i (mems 12 S).length V) : GrQ f S (i + 1) 0 V := by
  intro t
  rw [h t]
  constructor
  · rintro (h1 | ⟨a, b, h1, h2, h3, h4⟩)
    · exact .inl h1
    · exact .inr ⟨a, b, by omega, h2, h3, h4⟩
  · rintro (h1 | ⟨a, b, h1, h2, h3, h4⟩)
    · exact .inl h1
    · exact .inr ⟨a, b, by omega, h2, h3, h4⟩
theorem GrQ.done {f : List (List Int)} {S V : Nat} (hS : S < 4096) (h : GrQ f S (mems 12 S).length 0 V) : GrF f S V := by
  intro t
  rw [h t]
  constructor
  · rintro (h1 | ⟨a, b, h1, h2, h3, h4⟩)
    · exact .inl h1
    · exact .inr ⟨_, _, mel_in h2, mel_in h3, h4⟩
  · rintro (h1 | ⟨x, y, hx, hy, h4⟩)
    · exact .inl h1
    · obtain ⟨a, ha, rfl⟩ := mel_of hS hx
      obtain ⟨b, hb, rfl⟩ := mel_of hS hy
      exact .inr ⟨a, b, .inl ha, ha, hb, h4⟩
/-- A subrack, as a set. -/
def SubF (f : List (List Int)) (S : Nat) : Prop := S ≠ 0 ∧ ClosedF f S
theorem pow_le (n : Nat) (h : n ≤ 12) : 2 ^ n ≤ 4096 := Nat.pow_le_pow_right (n := 2) (by decide) h
end Go.Proofs.Ytaejgmdeiemhcab
