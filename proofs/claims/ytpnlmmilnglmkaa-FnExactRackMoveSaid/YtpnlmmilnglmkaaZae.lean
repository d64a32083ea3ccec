import Derived.Test.YtpnlmmilnglmkaaZad
namespace Go.Proofs.Ytpnlmmilnglmkaa
open Go Go.RowKit

/-- All permutations of n elements that begin with start, f further elements each. -/
def growS (n : Nat) : Nat → List Int → List (List Int)
  | 0, start => [start]
  | f + 1, start => (List.range n).flatMap fun (x : Nat) => if start.contains (Int.ofNat x) then [] else growS n f (start ++ [Int.ofNat x])
def permsS (n : Nat) : List (List Int) := growS n n []
/-- Each list's next one is the one behind it. -/
def chk : List (List Int) → Bool
  | [] => false
  | [a] => adv a == none
  | a :: b :: r => adv a == some b && chk (b :: r)
/-- All lists have n elements. -/
def lens (n : Nat) (l : List (List Int)) : Bool := l.all fun r => r.length == n
def unit (n : Nat) : List Int := (List.range n).map fun (x : Nat) => Int.ofNat x
def good (n : Nat) (l : List (List Int)) : Bool := chk l && lens n l && (l.head? == some (unit n)) && decide (l.length ≤ 5040)

theorem good1 : good 1 (permsS 1) = true := by decide +kernel
theorem good2 : good 2 (permsS 2) = true := by decide +kernel
theorem good3 : good 3 (permsS 3) = true := by decide +kernel
theorem good4 : good 4 (permsS 4) = true := by decide +kernel
theorem good5 : good 5 (permsS 5) = true := by decide +kernel
theorem good6 : good 6 (permsS 6) = true := by decide +kernel
theorem good7 : good 7 (permsS 7) = true := by decide +kernel
theorem good_all (n : Nat) (h1 : 1 ≤ n) (h2 : n ≤ 7) : good n (permsS n) = true := by
  match n, h1, h2 with
  | 1, _, _ => exact good1
  | 2, _, _ => exact good2
  | 3, _, _ => exact good3
  | 4, _, _ => exact good4
  | 5, _, _ => exact good5
  | 6, _, _ => exact good6
  | 7, _, _ => exact good7

theorem chk_pos (l : List (List Int)) (h : chk l = true) : 0 < l.length := by
  cases l with
  | nil => cases h
  | cons a r => simp

theorem chk_next (l : List (List Int)) (h : chk l = true) (k : Nat) (hk : k < l.length) : adv (l.getD k []) = if k + 1 < l.length then some (l.getD (k + 1) []) else none := by
  induction l generalizing k with
  | nil => cases h
  | cons a r ih =>
    cases r with
    | nil =>
      have hk0 : k = 0 := by simp at hk; omega
      subst hk0
      have h' : adv a = none := by simpa [chk] using h
      rw [if_neg (by simp)]
      exact h'
    | cons b r =>
      have h' : adv a = some b ∧ chk (b :: r) = true := by simpa [chk] using h
      cases k with
      | zero =>
        rw [if_pos (by simp)]
        exact h'.1
      | succ k =>
        have := ih h'.2 k (by simpa using hk)
        have e1 : (a :: b :: r).getD (k + 1) [] = (b :: r).getD k [] := by simp
        have e2 : (a :: b :: r).getD (k + 1 + 1) [] = (b :: r).getD (k + 1) [] := by simp
        rw [e1, e2, this]
        simp

structure Perms (n : Nat) : Prop where
  next : ∀ k, k < (permsS n).length → adv ((permsS n).getD k []) = if k + 1 < (permsS n).length then some ((permsS n).getD (k + 1) []) else none
  len : ∀ k, k < (permsS n).length → ((permsS n).getD k []).length = n
  pos : 0 < (permsS n).length
  first : (permsS n).getD 0 [] = unit n
  most : (permsS n).length ≤ 5040

theorem perms_all (n : Nat) (h1 : 1 ≤ n) (h2 : n ≤ 7) : Perms n := by
  have h := good_all n h1 h2
  unfold good at h
  simp only [Bool.and_eq_true, decide_eq_true_eq, beq_iff_eq] at h
  obtain ⟨⟨⟨hc, hl⟩, hf⟩, hm⟩ := h
  have hp := chk_pos _ hc
  refine ⟨chk_next _ hc, fun k hk => ?_, hp, ?_, hm⟩
  · unfold lens at hl
    have := List.all_eq_true.1 hl ((permsS n)[k]) (List.getElem_mem hk)
    have e : (permsS n).getD k [] = (permsS n)[k] := by simp [hk]
    rw [e]
    simpa using this
  · rw [List.getD_eq_getElem?_getD, ← List.head?_eq_getElem?, hf]
    rfl

def PermsRes (n : Int) (zs : List (List Int)) (code : Int) : Prop := (1 ≤ n ∧ n ≤ 7 ∧ zs = permsS n.toNat ∧ code = 0) ∨ (¬ (1 ≤ n ∧ n ≤ 7) ∧ zs = [] ∧ code = 2)
theorem PermsRes.ex (n : Int) : ∃ zs code, PermsRes n zs code ∧ zs.length ≤ 1048576 ∧ ∀ i, i < zs.length → (zs.getD i []).length ≤ 1048576 := by
  by_cases h : 1 ≤ n ∧ n ≤ 7
  · have hp := perms_all n.toNat (by omega) (by omega)
    exact ⟨_, _, .inl ⟨h.1, h.2, rfl, rfl⟩, by have := hp.most; omega, fun i hi => by rw [hp.len i hi]; omega⟩
  · exact ⟨_, _, .inr ⟨h, rfl, rfl⟩, by simp, fun i hi => by simp at hi⟩
end Go.Proofs.Ytpnlmmilnglmkaa
