import Derived.Test.YtaejgmdeiemhcabZaa
import Derived.Test.YtaejgmdeiemhcabZj
namespace Go.Proofs.Ytaejgmdeiemhcab
open Go Go.RowKit
def RkOrb (f : List (List Int)) (zs : List Int) (code : Int) : Prop := (Rck f ∧ zs = labL f f.length f.length ∧ code = 0) ∨ (¬ Rck f ∧ zs = [] ∧ code = 1)
theorem Rck.sys {f : List (List Int)} {n : Nat} (h : Rck f) (hn : f.length = n) : Sys (n : Int) f := by
  have h1 := h.tbl.1
  have h2 := h.tbl.2.1
  refine ⟨by omega, by omega, by omega, fun i hi => ⟨?_, h.prm i hi⟩⟩
  rw [h.tbl.rows i hi, hn]
theorem RkOrb.ex (f : List (List Int)) : ∃ zs code, RkOrb f zs code ∧ zs.length ≤ 1048576 := by
  by_cases h : Rck f
  · exact ⟨_, _, .inl ⟨h, rfl, rfl⟩, by rw [labL_length]; have := h.tbl.2.1; omega⟩
  · exact ⟨_, _, .inr ⟨h, rfl, rfl⟩, by simp⟩
end Go.Proofs.Ytaejgmdeiemhcab
