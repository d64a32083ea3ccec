import Derived.Test.YthkhkehpmolfaaaZb
namespace Go.Proofs.Ythkhkehpmolfaaa
open Go Go.RowKit

def cmpL : List Int → List Int → Int
  | [], [] => 0
  | [], _ :: _ => -1
  | _ :: _, [] => 1
  | x :: xs, y :: ys => if x < y then -1 else if y < x then 1 else cmpL xs ys
def lessL : List Int → List Int → Bool
  | [], [] => false
  | [], _ :: _ => true
  | _ :: _, [] => false
  | x :: xs, y :: ys => if x = y then lessL xs ys else decide (x < y)
def cmpT : List (List Int) → List (List Int) → Int
  | [], [] => 0
  | [], _ :: _ => -1
  | _ :: _, [] => 1
  | x :: xs, y :: ys => if cmpL x y = 0 then cmpT xs ys else cmpL x y
def lessT : List (List Int) → List (List Int) → Bool
  | [], [] => false
  | [], _ :: _ => true
  | _ :: _, [] => false
  | x :: xs, y :: ys => if x = y then lessT xs ys else lessL x y

theorem cmpL_zero (xs ys : List Int) : cmpL xs ys = 0 ↔ xs = ys := by
  induction xs generalizing ys with
  | nil => cases ys <;> simp [cmpL]
  | cons x xs ih =>
    cases ys with
    | nil => simp [cmpL]
    | cons y ys =>
      unfold cmpL
      by_cases h1 : x < y
      · rw [if_pos h1]; simp; omega
      · by_cases h2 : y < x
        · rw [if_neg h1, if_pos h2]; simp; omega
        · rw [if_neg h1, if_neg h2, ih]
          have : x = y := by omega
          simp [this]
theorem cmpL_neg (xs ys : List Int) : cmpL xs ys < 0 ↔ lessL xs ys = true := by
  induction xs generalizing ys with
  | nil => cases ys <;> simp [cmpL, lessL]
  | cons x xs ih =>
    cases ys with
    | nil => simp [cmpL, lessL]
    | cons y ys =>
      unfold cmpL lessL
      by_cases h1 : x < y
      · rw [if_pos h1, if_neg (by omega)]; simp [h1]
      · by_cases h2 : y < x
        · rw [if_neg h1, if_pos h2, if_neg (by omega)]; simp [h1]
        · rw [if_neg h1, if_neg h2, if_pos (by omega), ih]
theorem cmpL_range (xs ys : List Int) : -1 ≤ cmpL xs ys ∧ cmpL xs ys ≤ 1 := by
  induction xs generalizing ys with
  | nil => cases ys <;> simp [cmpL]
  | cons x xs ih =>
    cases ys with
    | nil => simp [cmpL]
    | cons y ys =>
      unfold cmpL
      split
      · omega
      · split
        · omega
        · exact ih ys
theorem cmpT_neg (xs ys : List (List Int)) : cmpT xs ys < 0 ↔ lessT xs ys = true := by
  induction xs generalizing ys with
  | nil => cases ys <;> simp [cmpT, lessT]
  | cons x xs ih =>
    cases ys with
    | nil => simp [cmpT, lessT]
    | cons y ys =>
      unfold cmpT lessT
      by_cases h : x = y
      · rw [if_pos ((cmpL_zero x y).2 h), if_pos h, ih]
      · rw [if_neg (fun e => h ((cmpL_zero x y).1 e)), if_neg h, cmpL_neg]
theorem lessT_irrefl (xs : List (List Int)) : lessT xs xs = false := by
  induction xs with
  | nil => rfl
  | cons x xs ih => simp [lessT, ih]

theorem drop_cons (xs : List Int) (k : Nat) (h : k < xs.length) : xs.drop k = xs.getD k 0 :: xs.drop (k + 1) := by
  rw [List.drop_eq_getElem_cons h]
  simp [h]
theorem drop_cons2 (xs : List (List Int)) (k : Nat) (h : k < xs.length) : xs.drop k = xs.getD k [] :: xs.drop (k + 1) := by
  rw [List.drop_eq_getElem_cons h]
  simp [h]
end Go.Proofs.Ythkhkehpmolfaaa
