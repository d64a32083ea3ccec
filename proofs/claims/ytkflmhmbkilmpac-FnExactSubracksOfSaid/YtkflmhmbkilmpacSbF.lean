import Derived.Test.YtkflmhmbkilmpacGrF
import Derived.Test.YtkflmhmbkilmpacRkF
namespace Go.Proofs.Ytkflmhmbkilmpac
open Go Go.RowKit
theorem ownsRow_mono {w : World} {B B' n : Nat} {e : TypeId} {v : Value} {xs : List Value} (hB : B' ≤ B) (h : w.ownsRow B e 1 v n xs) : w.ownsRow B' e 1 v n xs := by
  obtain ⟨h1, h2⟩ := h
  refine ⟨h1, ?_⟩
  rcases h2 with h2 | ⟨g, cap, cur, hv, hg, r⟩
  · exact .inl h2
  · exact .inr ⟨g, cap, cur, hv, Nat.le_trans hB hg, r⟩
/-- The subracks below k, as sets, in ascending order. -/
noncomputable def sbB (f : List (List Int)) (S : Nat) : Bool := @decide (SubF f S) (Classical.propDecidable _)
theorem sbB_iff (f : List (List Int)) (S : Nat) : sbB f S = true ↔ SubF f S := by
  unfold sbB
  exact @decide_eq_true_iff _ (Classical.propDecidable _)
noncomputable def sbN (f : List (List Int)) (k : Nat) : List Nat := (List.range k).filter fun S => sbB f S
theorem sbN_yes {f : List (List Int)} {k : Nat} (h : SubF f k) : sbN f (k + 1) = sbN f k ++ [k] := by
  unfold sbN
  have h2 := (sbB_iff f k).2 h
  rw [List.range_succ, List.filter_append]
  simp [h2]
theorem sbN_no {f : List (List Int)} {k : Nat} (h : ¬ SubF f k) : sbN f (k + 1) = sbN f k := by
  unfold sbN
  have h2 : sbB f k = false := by
    cases hb : sbB f k
    · rfl
    · exact absurd ((sbB_iff f k).1 hb) h
  rw [List.range_succ, List.filter_append]
  simp [h2]
theorem sbN_length (f : List (List Int)) (k : Nat) : (sbN f k).length ≤ k := by
  unfold sbN
  have := List.length_filter_le (fun S => sbB f S) (List.range k)
  simpa using this
noncomputable def sbL (f : List (List Int)) (k : Nat) : List Int := (sbN f k).map fun (x : Nat) => (x : Int)
theorem sbL_length (f : List (List Int)) (k : Nat) : (sbL f k).length = (sbN f k).length := by simp [sbL]
theorem sbL_yes {f : List (List Int)} {k : Nat} (h : SubF f k) : ints (sbL f (k + 1)) = ints (sbL f k) ++ [.int .i64 k] := by
  unfold sbL
  rw [sbN_yes h]
  simp [ints]
theorem sbL_no {f : List (List Int)} {k : Nat} (h : ¬ SubF f k) : sbL f (k + 1) = sbL f k := by
  unfold sbL
  rw [sbN_no h]
theorem SubF.zero (f : List (List Int)) : ¬ SubF f 0 := fun h => h.1 rfl
theorem sbN_one (f : List (List Int)) : sbN f 1 = [] := by rw [sbN_no (SubF.zero f)]; rfl
theorem sbL_one (f : List (List Int)) : sbL f 1 = [] := by unfold sbL; rw [sbN_one]; rfl
def SbRes (f : List (List Int)) (zs : List Int) (code : Int) : Prop := (Rck f ∧ zs = sbL f (2 ^ f.length) ∧ code = 0) ∨ (¬ Rck f ∧ zs = [] ∧ code = 1)
theorem SbRes.ex (f : List (List Int)) : ∃ zs code, SbRes f zs code ∧ zs.length ≤ 1048576 := by
  by_cases h : Rck f
  · refine ⟨_, _, .inl ⟨h, rfl, rfl⟩, ?_⟩
    rw [sbL_length]
    have h1 := sbN_length f (2 ^ f.length)
    have h2 := pow_le f.length h.tbl.2.1
    omega
  · exact ⟨_, _, .inr ⟨h, rfl, rfl⟩, by simp⟩
end Go.Proofs.Ytkflmhmbkilmpac
