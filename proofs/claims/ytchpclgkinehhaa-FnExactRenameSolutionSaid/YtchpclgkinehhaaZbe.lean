import Derived.Test.YtchpclgkinehhaaZbd
import Derived.Test.YtchpclgkinehhaaZbb
import Derived.Test.YtchpclgkinehhaaZb
namespace Go.Proofs.Ytchpclgkinehhaa
open Go Go.RowKit
def RsRes (f s : List (List Int)) (p : List Int) (zf zg : List (List Int)) (code : Int) : Prop :=
  (PMap f s ∧ (Prm p ∧ p.length = f.length) ∧ zf = renL f p ∧ zg = renL s p ∧ code = 0) ∨ (PMap f s ∧ ¬ (Prm p ∧ p.length = f.length) ∧ zf = [] ∧ zg = [] ∧ code = 2) ∨ (¬ PMap f s ∧ zf = [] ∧ zg = [] ∧ code = 1)
theorem renL_sz {f s : List (List Int)} (hp : PMap f s) (p : List Int) : ZSz 1048576 (renL f p) (renL f p).length (renL s p) (renL s p).length := by
  have h1 := hp.1.2.1
  have h2 := hp.2.1.2.1
  refine ⟨rfl, by rw [renL_length]; omega, fun i hi => ?_, rfl, by rw [renL_length]; omega, fun i hi => ?_⟩
  · rw [renL_length] at hi; unfold renL; rw [grid_row_length _ _ _ hi]; omega
  · rw [renL_length] at hi; unfold renL; rw [grid_row_length _ _ _ hi]; omega
theorem RsRes.ex (f s : List (List Int)) (p : List Int) : ∃ zf zg code, RsRes f s p zf zg code ∧ ZSz 1048576 zf zf.length zg zg.length := by
  by_cases h : PMap f s
  · by_cases h2 : Prm p ∧ p.length = f.length
    · exact ⟨_, _, _, .inl ⟨h, h2, rfl, rfl, rfl⟩, renL_sz h p⟩
    · exact ⟨_, _, _, .inr (.inl ⟨h, h2, rfl, rfl, rfl⟩), nil_sz⟩
  · exact ⟨_, _, _, .inr (.inr ⟨h, rfl, rfl, rfl⟩), nil_sz⟩
theorem Tbl.inr' {rows : List (List Int)} {n : Nat} (h : Tbl rows) (hn : rows.length = n) : ∀ i j, i < n → j < n → 0 ≤ (rows.getD i []).getD j 0 ∧ (rows.getD i []).getD j 0 < (n : Int) := fun i j hi hj => by have := (h.2.2 i (by omega)).2 j (by omega); rw [hn] at this; exact this
end Go.Proofs.Ytchpclgkinehhaa
