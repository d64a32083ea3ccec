import Derived.Test.YtaejgmdeiemhcaaZba
import Derived.Test.YtaejgmdeiemhcaaZan
namespace Go.Proofs.Ytaejgmdeiemhcaa
open Go Go.RowKit
open Classical
/-- The places below k with another number than 0. -/
def notTo (xs : List Int) (k : Nat) : List Int := ((List.range k).filter (fun y => !(xs.getD y 0 == 0))).map (fun y : Nat => (y : Int))
theorem notTo_hit (xs : List Int) (k : Nat) (h : ¬ xs.getD k 0 = 0) : notTo xs (k + 1) = notTo xs k ++ [(k : Int)] := by
  unfold notTo
  have h2 : (!(xs.getD k 0 == 0)) = true := by simpa using h
  rw [List.range_succ, List.filter_append, List.map_append, List.filter_cons_of_pos (p := fun y => !(xs.getD y 0 == 0)) h2]
  rfl
theorem notTo_miss (xs : List Int) (k : Nat) (h : xs.getD k 0 = 0) : notTo xs (k + 1) = notTo xs k := by
  unfold notTo
  have h2 : ¬ (!(xs.getD k 0 == 0)) = true := by simpa using h
  rw [List.range_succ, List.filter_append, List.map_append, List.filter_cons_of_neg (p := fun y => !(xs.getD y 0 == 0)) h2]
  simp
theorem notTo_le (xs : List Int) (k : Nat) : (notTo xs k).length ≤ k := by
  unfold notTo
  rw [List.length_map]
  have h := List.length_filter_le (fun y => !(xs.getD y 0 == 0)) (List.range k)
  rwa [List.length_range] at h
def DecRes (f s : List (List Int)) (xs ys : List Int) (code : Int) : Prop :=
  (NdS f s ∧ ¬ orbN f s = 1 ∧ xs = memTo (orbS f s) 0 f.length ∧ ys = notTo (orbS f s) f.length ∧ code = 0) ∨ (NdS f s ∧ orbN f s = 1 ∧ xs = [] ∧ ys = [] ∧ code = 4) ∨ (¬ NdS f s ∧ xs = [] ∧ ys = [] ∧ code = 1)
theorem DecRes.ex (f s : List (List Int)) : ∃ xs ys code, DecRes f s xs ys code ∧ xs.length ≤ 1048576 ∧ ys.length ≤ 1048576 := by
  by_cases h : NdS f s
  · have h1 := h.sizes rfl
    by_cases h2 : orbN f s = 1
    · exact ⟨_, _, _, .inr (.inl ⟨h, h2, rfl, rfl, rfl⟩), by simp, by simp⟩
    · have h3 := memTo_le (orbS f s) 0 f.length
      have h4 := notTo_le (orbS f s) f.length
      exact ⟨_, _, _, .inl ⟨h, h2, rfl, rfl, rfl⟩, by omega, by omega⟩
  · exact ⟨_, _, _, .inr (.inr ⟨h, rfl, rfl, rfl⟩), by simp, by simp⟩
end Go.Proofs.Ytaejgmdeiemhcaa
