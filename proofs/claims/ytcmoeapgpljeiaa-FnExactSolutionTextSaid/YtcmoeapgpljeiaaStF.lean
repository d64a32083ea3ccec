import Derived.Test.YtcmoeapgpljeiaaTabT
import Derived.Test.YtcmoeapgpljeiaaPMapF
namespace Go.Proofs.Ytcmoeapgpljeiaa
open Go Go.RowKit
/-- The text of a pair map. -/
def solS (f s : List (List Int)) : ByteArray := (tabS f ++ ⟨#[124]⟩) ++ tabS s
def StRes (f s : List (List Int)) (v : ByteArray) (code : Int) : Prop := (PMap f s ∧ v = solS f s ∧ code = 0) ∨ (¬ PMap f s ∧ v = ⟨#[]⟩ ∧ code = 1)
theorem StRes.ex (f s : List (List Int)) : ∃ v code, StRes f s v code := by
  by_cases h : PMap f s
  · exact ⟨_, _, .inl ⟨h, rfl, rfl⟩⟩
  · exact ⟨_, _, .inr ⟨h, rfl, rfl⟩⟩
theorem tabS_small {f : List (List Int)} (h : Tbl f) : (tabS f).size ≤ 156 := by
  have h1 := tabS_size f 12 (fun i hi => by rw [h.rows i hi]; exact h.2.1) f.length (Nat.le_refl _)
  rw [List.take_of_length_le (Nat.le_refl _)] at h1
  have h2 := h.2.1
  have h3 : f.length * 13 ≤ 12 * 13 := Nat.mul_le_mul_right 13 h2
  omega
end Go.Proofs.Ytcmoeapgpljeiaa
