import Derived.Test.YtljdfanebjhhmaaZac
import Derived.Test.YtljdfanebjhhmaaZn
import Derived.Test.YtljdfanebjhhmaaZt
namespace Go.Proofs.Ytljdfanebjhhmaa
open Go Go.RowKit
/-- The number that the next new class has to have, behind the first i elements. -/
def nxt (xs : List Int) : Nat → Nat
  | 0 => 0
  | i + 1 => if xs.getD i 0 = (nxt xs i : Int) then nxt xs i + 1 else nxt xs i
theorem nxt_le (xs : List Int) (i : Nat) : nxt xs i ≤ i := by
  induction i with
  | zero => exact Nat.le_refl _
  | succ i ih => unfold nxt; split <;> omega
theorem nxt_mono (xs : List Int) (i j : Nat) (h : i ≤ j) : nxt xs i ≤ nxt xs j := by
  induction j with
  | zero => have : i = 0 := by omega
            subst this; exact Nat.le_refl _
  | succ j ih =>
    by_cases e : i = j + 1
    · subst e; exact Nat.le_refl _
    · have h1 := ih (by omega)
      have h2 : nxt xs j ≤ nxt xs (j + 1) := by
        show nxt xs j ≤ if xs.getD j 0 = (nxt xs j : Int) then nxt xs j + 1 else nxt xs j
        split <;> omega
      omega
/-- The classes are numbered in the order of their first elements. -/
def Canon (xs : List Int) : Prop := ∀ i, i < xs.length → 0 ≤ xs.getD i 0 ∧ xs.getD i 0 ≤ (nxt xs i : Int)
def Part (f : List (List Int)) (xs : List Int) : Prop := xs.length = f.length ∧ Canon xs
theorem Canon.lt {xs : List Int} (h : Canon xs) {i : Nat} (hi : i < xs.length) : 0 ≤ xs.getD i 0 ∧ xs.getD i 0 < (xs.length : Int) := by
  have h1 := h i hi
  have h2 := nxt_le xs i
  omega
/-- The number of a class, as a natural number. -/
def cl (xs : List Int) (i : Nat) : Nat := (xs.getD i 0).toNat
theorem Canon.val {xs : List Int} (h : Canon xs) {i : Nat} (hi : i < xs.length) : xs.getD i 0 = (cl xs i : Int) ∧ cl xs i < xs.length := by
  have h1 := h.lt hi
  unfold cl
  omega
/-- One condition of a congruence. -/
def Cg3 (f : List (List Int)) (xs : List Int) (x z y : Nat) : Prop := cl xs (ap f x y) = cl xs (ap f z y) ∧ cl xs (ap f y x) = cl xs (ap f y z)
def Cg2 (f : List (List Int)) (xs : List Int) (x z : Nat) : Prop := cl xs x = cl xs z → ∀ y, y < f.length → Cg3 f xs x z y
def CgF (f : List (List Int)) (xs : List Int) : Prop := ∀ x, x < f.length → ∀ z, z < f.length → Cg2 f xs x z
/-- The code of a rack and a partition. -/
def CdRes (f : List (List Int)) (xs : List Int) (code : Int) : Prop := (Rck f ∧ Part f xs ∧ code = 0) ∨ (¬ (Rck f ∧ Part f xs) ∧ code = 1)
def CgRes (f : List (List Int)) (xs : List Int) : Bool → Int → Prop := BRes (Rck f ∧ Part f xs) (CgF f xs)
theorem CgRes.ex (f : List (List Int)) (xs : List Int) : ∃ r code, CgRes f xs r code := BRes.ex _ _
theorem cg_pairs {f : List (List Int)} {xs : List Int} {n : Nat} (hn : f.length = n) (h : ∀ i, i < n * n → Cg2 f xs (i / n) (i % n)) : CgF f xs := by
  intro x hx z hz
  rw [hn] at hx hz
  have h1 := h _ (pair_lt n x z hx hz)
  rw [pair_div n x z hz, pair_mod n x z hz] at h1
  exact h1
end Go.Proofs.Ytljdfanebjhhmaa
