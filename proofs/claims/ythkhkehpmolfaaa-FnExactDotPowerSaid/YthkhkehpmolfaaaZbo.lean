import Derived.Test.YthkhkehpmolfaaaZt
namespace Go.Proofs.Ythkhkehpmolfaaa
open Go Go.RowKit
/-- Where the squares lead an element, done k times. -/
def sqIt (f : List (List Int)) (x : Nat) : Nat → Nat
  | 0 => x
  | k + 1 => ap f (sqIt f x k) (sqIt f x k)
theorem sqIt_lt {f : List (List Int)} (ht : Tbl f) {n x : Nat} (hn : f.length = n) (hx : x < n) (k : Nat) : sqIt f x k < n := by
  induction k with
  | zero => exact hx
  | succ k ih => exact ht.ap_lt hn ih ih
def DpRes (f : List (List Int)) (x k v code : Int) : Prop :=
  (Cyc f ∧ ((0 ≤ x ∧ x < (f.length : Int)) ∧ (0 ≤ k ∧ k ≤ 1000)) ∧ v = ((sqIt f x.toNat k.toNat : Nat) : Int) ∧ code = 0) ∨ (Cyc f ∧ ¬ ((0 ≤ x ∧ x < (f.length : Int)) ∧ (0 ≤ k ∧ k ≤ 1000)) ∧ v = 0 ∧ code = 2) ∨ (¬ Cyc f ∧ v = 0 ∧ code = 1)
theorem DpRes.ex (f : List (List Int)) (x k : Int) : ∃ v code, DpRes f x k v code := by
  by_cases h : Cyc f
  · by_cases h2 : (0 ≤ x ∧ x < (f.length : Int)) ∧ (0 ≤ k ∧ k ≤ 1000)
    · exact ⟨_, _, .inl ⟨h, h2, rfl, rfl⟩⟩
    · exact ⟨_, _, .inr (.inl ⟨h, h2, rfl, rfl⟩)⟩
  · exact ⟨_, _, .inr (.inr ⟨h, rfl, rfl⟩)⟩
end Go.Proofs.Ythkhkehpmolfaaa
