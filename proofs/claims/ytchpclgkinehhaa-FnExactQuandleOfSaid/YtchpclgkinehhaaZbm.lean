import Derived.Test.YtchpclgkinehhaaZbh
import Derived.Test.YtchpclgkinehhaaZt
import Derived.Test.YtchpclgkinehhaaZas
namespace Go.Proofs.Ytchpclgkinehhaa
open Go Go.RowKit
def qoL (f : List (List Int)) : List (List Int) := rowsL f (fun i => thenL (f.getD i []) (backTo (kinkL f) f.length))
def QoRes (f zs : List (List Int)) (code : Int) : Prop := (Rck f ∧ zs = qoL f ∧ code = 0) ∨ (¬ Rck f ∧ zs = [] ∧ code = 1)
theorem QoRes.ex (f : List (List Int)) : ∃ zs code, QoRes f zs code ∧ zs.length ≤ 1048576 ∧ ∀ i, i < zs.length → (zs.getD i []).length ≤ 1048576 := by
  by_cases h : Rck f
  · have h12 := h.tbl.2.1
    refine ⟨_, _, .inl ⟨h, rfl, rfl⟩, ?_, fun i hi => ?_⟩
    · rw [qoL, rowsL_length]; omega
    · rw [qoL, rowsL_length] at hi
      rw [qoL, rowsL_at f _ i hi, thenL_length, h.tbl.rows i hi]
      omega
  · exact ⟨_, _, .inr ⟨h, rfl, rfl⟩, by simp, by simp⟩
theorem kink_in {f : List (List Int)} (h : Tbl f) {n : Nat} (hn : f.length = n) : ∀ x ∈ kinkL f, 0 ≤ x ∧ x < (n : Int) := by
  intro x hx
  unfold kinkL at hx
  obtain ⟨a, ha, rfl⟩ := List.mem_map.1 hx
  have ha := List.mem_range.1 ha
  have := h.ap_lt hn (show a < n by omega) (show a < n by omega)
  omega
end Go.Proofs.Ytchpclgkinehhaa
