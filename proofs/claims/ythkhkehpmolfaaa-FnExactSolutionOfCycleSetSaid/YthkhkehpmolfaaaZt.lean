import Derived.Test.YthkhkehpmolfaaaZp
import Derived.Test.YthkhkehpmolfaaaZr
namespace Go.Proofs.Ythkhkehpmolfaaa
open Go Go.RowKit
/-- Whether three elements show that a dot table is no cycle set. -/
def cyq (f : List (List Int)) : Nat → Nat → Nat → Bool := fun x y z => !decide (ap f (ap f x y) (ap f x z) = ap f (ap f y x) (ap f y z))
/-- What a cycle set is. -/
def Cyc (f : List (List Int)) : Prop := (Tbl f ∧ AllPrm f) ∧ Prm (kinkL f) ∧ ∀ i, i < f.length * f.length * f.length → qAt (cyq f) f.length i = false
theorem Cyc.tbl {f : List (List Int)} (h : Cyc f) : Tbl f := h.1.1
theorem Cyc.prm {f : List (List Int)} (h : Cyc f) : AllPrm f := h.1.2
theorem Cyc.le {f : List (List Int)} (h : Cyc f) : f.length ≤ 12 := h.tbl.2.1
def CyRes (f : List (List Int)) (r : Bool) : Prop := r = true ↔ Cyc f
theorem CyRes.ex (f : List (List Int)) : ∃ r, CyRes f r := bool_of _
def CyFRes (f : List (List Int)) (zs : List Int) (code : Int) : Prop :=
  (∃ T, Tbl f ∧ FirstQ (cyq f) f.length T ∧ ((T < f.length * f.length * f.length ∧ zs = lst3 (trip f.length T) ∧ code = 0) ∨ (T = f.length * f.length * f.length ∧ zs = [] ∧ code = 4))) ∨ (¬ Tbl f ∧ zs = [] ∧ code = 1)
theorem CyFRes.ex (f : List (List Int)) : ∃ zs code, CyFRes f zs code ∧ zs.length ≤ 1048576 := by
  by_cases h : Tbl f
  · obtain ⟨T, hT⟩ := FirstQ.ex (cyq f) f.length
    by_cases h2 : T < f.length * f.length * f.length
    · exact ⟨_, _, .inl ⟨T, h, hT, .inl ⟨h2, rfl, rfl⟩⟩, by simp [lst3]⟩
    · exact ⟨_, _, .inl ⟨T, h, hT, .inr ⟨by have := hT.2.1; omega, rfl, rfl⟩⟩, by simp⟩
  · exact ⟨_, _, .inr ⟨h, rfl, rfl⟩, by simp⟩
def DqRes (f : List (List Int)) (zs : List Int) (code : Int) : Prop := (Tbl f ∧ zs = kinkL f ∧ code = 0) ∨ (¬ Tbl f ∧ zs = [] ∧ code = 1)
theorem DqRes.ex (f : List (List Int)) : ∃ zs code, DqRes f zs code ∧ zs.length ≤ 1048576 := by
  by_cases h : Tbl f
  · exact ⟨_, _, .inl ⟨h, rfl, rfl⟩, by rw [kinkL_length]; have := h.2.1; omega⟩
  · exact ⟨_, _, .inr ⟨h, rfl, rfl⟩, by simp⟩
end Go.Proofs.Ythkhkehpmolfaaa
