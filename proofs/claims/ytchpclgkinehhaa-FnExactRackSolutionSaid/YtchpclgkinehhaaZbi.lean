import Derived.Test.YtchpclgkinehhaaZr
import Derived.Test.YtchpclgkinehhaaZh
import Derived.Test.YtchpclgkinehhaaZj
namespace Go.Proofs.Ytchpclgkinehhaa
open Go Go.RowKit
def fstG (f : List (List Int)) : List (List Int) := grid f.length (fun x y => ((ap f x y : Nat) : Int))
def sndG (f : List (List Int)) : List (List Int) := grid f.length (fun x _ => (x : Int))
theorem fstG_self {f : List (List Int)} (h : Tbl f) : fstG f = f := by
  unfold fstG
  apply List.ext_getElem
  · rw [grid_length]
  · intro i h1 h2
    have hl := h.rows i h2
    have e : f.getD i [] = f[i] := by simp [h2]
    simp only [grid, List.getElem_map, List.getElem_range]
    apply List.ext_getElem
    · rw [List.length_map, List.length_range, ← e, hl]
    · intro j h3 h4
      simp only [List.getElem_map, List.getElem_range]
      rw [← h.ap_eq rfl h2 (by rw [← hl, e]; exact h4), e]
      simp [h4]
def RsoRes (f zf zg : List (List Int)) (code : Int) : Prop := (Rck f ∧ f = zf ∧ zg = sndG f ∧ code = 0) ∨ (¬ Rck f ∧ zf = [] ∧ zg = [] ∧ code = 1)
theorem RsoRes.ex (f : List (List Int)) : ∃ zf zg code, RsoRes f zf zg code ∧ ZSz 1048576 zf zf.length zg zg.length := by
  by_cases h : Rck f
  · have h12 := h.tbl.2.1
    refine ⟨_, _, _, .inl ⟨h, rfl, rfl, rfl⟩, rfl, by omega, fun i hi => ?_, rfl, ?_, fun i hi => ?_⟩
    · rw [h.tbl.rows i hi]; omega
    · rw [sndG, grid_length]; omega
    · rw [sndG, grid_length] at hi
      rw [sndG, grid_row_length _ _ _ hi]; omega
  · exact ⟨_, _, _, .inr ⟨h, rfl, rfl, rfl⟩, rfl, by simp, by simp, rfl, by simp, by simp⟩
end Go.Proofs.Ytchpclgkinehhaa
