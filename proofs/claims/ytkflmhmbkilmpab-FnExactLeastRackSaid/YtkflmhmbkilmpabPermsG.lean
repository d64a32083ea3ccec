import Derived.Test.YtkflmhmbkilmpabPermsF
namespace Go.Proofs.Ytkflmhmbkilmpab
open Go Go.RowKit

def isP (n : Nat) (p : List Int) : Bool := (p.all fun x => decide (0 ≤ x) && decide (x < (n : Int))) && ((List.range n).all fun y => p.any fun x => x == Int.ofNat y)
theorem isP1 : ((permsS 1).all (isP 1)) = true := by decide +kernel
theorem isP2 : ((permsS 2).all (isP 2)) = true := by decide +kernel
theorem isP3 : ((permsS 3).all (isP 3)) = true := by decide +kernel
theorem isP4 : ((permsS 4).all (isP 4)) = true := by decide +kernel
theorem isP5 : ((permsS 5).all (isP 5)) = true := by decide +kernel
theorem isP6 : ((permsS 6).all (isP 6)) = true := by decide +kernel
theorem isP7 : ((permsS 7).all (isP 7)) = true := by decide +kernel
theorem isP_all (n : Nat) (h1 : 1 ≤ n) (h2 : n ≤ 7) : (permsS n).all (isP n) = true := by
  match n, h1, h2 with
  | 1, _, _ => exact isP1
  | 2, _, _ => exact isP2
  | 3, _, _ => exact isP3
  | 4, _, _ => exact isP4
  | 5, _, _ => exact isP5
  | 6, _, _ => exact isP6
  | 7, _, _ => exact isP7

theorem perms_isP (n : Nat) (h1 : 1 ≤ n) (h2 : n ≤ 7) (k : Nat) (hk : k < (permsS n).length) :
    (∀ x ∈ (permsS n).getD k [], 0 ≤ x ∧ x < (n : Int)) ∧ ∀ y, y < n → ∃ i, i < n ∧ (((permsS n).getD k []).getD i 0).toNat = y := by
  have h := isP_all n h1 h2
  have e : (permsS n).getD k [] = (permsS n)[k] := by simp [hk]
  have hl := (perms_all n h1 h2).len k hk
  have hp := List.all_eq_true.1 h ((permsS n)[k]) (List.getElem_mem hk)
  rw [← e] at hp
  obtain ⟨p, hpe⟩ : ∃ p, p = (permsS n).getD k [] := ⟨_, rfl⟩
  rw [← hpe] at hp hl ⊢
  clear hpe e h
  unfold isP at hp
  rw [Bool.and_eq_true, List.all_eq_true, List.all_eq_true] at hp
  refine ⟨fun x hx => ?_, fun y hy => ?_⟩
  · have := hp.1 x hx
    simpa using this
  · have := hp.2 y (List.mem_range.2 hy)
    rw [List.any_eq_true] at this
    obtain ⟨x, hx, he⟩ := this
    have hxy : x = (y : Int) := by simpa using he
    obtain ⟨i, hi, hxi⟩ := List.getElem_of_mem hx
    refine ⟨i, by omega, ?_⟩
    have : p.getD i 0 = x := by simp [hi, hxi]
    rw [this, hxy]
    simp
end Go.Proofs.Ytkflmhmbkilmpab
