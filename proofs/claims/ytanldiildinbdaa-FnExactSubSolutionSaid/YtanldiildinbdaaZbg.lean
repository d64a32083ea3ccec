import Derived.Test.YtanldiildinbdaaZac
import Derived.Test.YtanldiildinbdaaZab
import Derived.Test.YtanldiildinbdaaZh
namespace Go.Proofs.Ytanldiildinbdaa
open Go Go.RowKit
/-- A table on a closed set, its elements having their places as new numbers. -/
def sb1 (f : List (List Int)) (set : List Int) : Nat → Nat → Int := fun i k => ixOf set ((ap f (set.getD i 0).toNat (set.getD k 0).toNat : Nat) : Int)
def SubRes (f s : List (List Int)) (set : List Int) (zf zg : List (List Int)) (code : Int) : Prop :=
  (PMap f s ∧ IncSet f.length set ∧ ClF f s set ∧ zf = grid set.length (sb1 f set) ∧ zg = grid set.length (sb1 s set) ∧ code = 0) ∨ (PMap f s ∧ IncSet f.length set ∧ ¬ ClF f s set ∧ zf = [] ∧ zg = [] ∧ code = 5) ∨ (PMap f s ∧ ¬ IncSet f.length set ∧ zf = [] ∧ zg = [] ∧ code = 2) ∨ (¬ PMap f s ∧ zf = [] ∧ zg = [] ∧ code = 1)
theorem SubRes.ex (f s : List (List Int)) (set : List Int) : ∃ zf zg code, SubRes f s set zf zg code ∧ ZSz 1048576 zf zf.length zg zg.length := by
  by_cases h : PMap f s
  · by_cases h2 : IncSet f.length set
    · by_cases h3 : ClF f s set
      · exact ⟨_, _, _, .inl ⟨h, h2, h3, rfl, rfl, rfl⟩, grid_sz (by have := h2.le; have := h.1.2.1; omega) _ _⟩
      · exact ⟨_, _, _, .inr (.inl ⟨h, h2, h3, rfl, rfl, rfl⟩), nil_sz⟩
    · exact ⟨_, _, _, .inr (.inr (.inl ⟨h, h2, rfl, rfl, rfl⟩)), nil_sz⟩
  · exact ⟨_, _, _, .inr (.inr (.inr ⟨h, rfl, rfl, rfl⟩)), nil_sz⟩
theorem ixOf_in {xs : List Int} {v : Int} (h : v ∈ xs) : 0 ≤ ixOf xs v ∧ ixOf xs v < (xs.length : Int) := by
  unfold ixOf
  rw [if_pos h]
  have := List.idxOf_lt_length_of_mem h
  omega
end Go.Proofs.Ytanldiildinbdaa
