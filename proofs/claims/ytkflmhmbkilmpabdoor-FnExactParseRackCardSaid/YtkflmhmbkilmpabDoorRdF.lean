import Derived.Test.YtkflmhmbkilmpabDoorOwn
import Derived.Test.YtkflmhmbkilmpabDoorPig
import Derived.Lib.Bytealg
namespace Go.Proofs.YtkflmhmbkilmpabDoor
open Go Go.RowKit

/-- The element with a digit, or -1. -/
def ub (b : Nat) : Int := if 48 ≤ b ∧ b ≤ 57 then (b : Int) - 48 else if 97 ≤ b ∧ b ≤ 98 then (b : Int) - 87 else -1
theorem ub_ge (b : Nat) : -1 ≤ ub b := by unfold ub; split <;> (try split) <;> omega
theorem ub_le (b : Nat) : ub b < 12 := by unfold ub; split <;> (try split) <;> omega
theorem ub_index : ∀ n : Fin 256, Lib.indexByte [48, 49, 50, 51, 52, 53, 54, 55, 56, 57, 97, 98] (UInt8.ofNat n.val) = ub n.val := by decide +kernel
theorem ub_byte (c : UInt8) : Lib.indexByte [48, 49, 50, 51, 52, 53, 54, 55, 56, 57, 97, 98] c = ub c.toNat := by
  have h := ub_index ⟨c.toNat, c.toNat_lt⟩
  have e : UInt8.ofNat c.toNat = c := by simp
  rw [e] at h
  exact h
/-- The elements with the digits of a text. -/
def readL (s : ByteArray) : List Int := s.data.toList.map fun b => ub b.toNat
theorem readL_length (s : ByteArray) : (readL s).length = s.size := by
  unfold readL
  rw [List.length_map]
  exact Array.length_toList
theorem readL_getD (s : ByteArray) (k : Nat) (h : k < s.size) : (readL s).getD k 0 = ub s[k].toNat := by
  have h' : k < s.data.size := h
  have e : s.data.toList[k]? = some s[k] := by
    rw [Array.getElem?_toList, Array.getElem?_eq_getElem h']
    rfl
  simp only [readL, List.getD_eq_getElem?_getD, List.getElem?_map, e]
  rfl
/-- All bytes are digits. -/
def AllDig (s : ByteArray) : Prop := ∀ k, k < s.size → 0 ≤ (readL s).getD k 0

def ReadRes (s : ByteArray) (xs : List Int) (ok : Bool) : Prop := (AllDig s ∧ xs = readL s ∧ ok = true) ∨ (¬ AllDig s ∧ xs = [] ∧ ok = false)
theorem ReadRes.ex (s : ByteArray) : ∃ xs ok, ReadRes s xs ok := by
  by_cases h : AllDig s
  · exact ⟨_, _, .inl ⟨h, rfl, rfl⟩⟩
  · exact ⟨_, _, .inr ⟨h, rfl, rfl⟩⟩

/-- Two results: a slice of numbers in new memory, and a bool. -/
def BPost (t : TypeId) (n : Nat) (xs : List Int) (ok : Bool) (w : World) (e : Ending) (w' : World) : Prop :=
  ∃ A c, e = .returned (.tuple #[.slice A n c, .bool ok]) ∧ Below w.heap.size w w' ∧ Res t w.heap.size w' A xs

def PParseRes (s : ByteArray) (zs : List Int) (code : Int) : Prop := (AllDig s ∧ Prm (readL s) ∧ zs = readL s ∧ code = 0) ∨ (¬ (AllDig s ∧ Prm (readL s)) ∧ zs = [] ∧ code = 6)
theorem PParseRes.ex (s : ByteArray) : ∃ zs code, PParseRes s zs code ∧ zs.length ≤ 12 := by
  by_cases h : AllDig s ∧ Prm (readL s)
  · exact ⟨_, _, .inl ⟨h.1, h.2, rfl, rfl⟩, h.2.2.1⟩
  · exact ⟨_, _, .inr ⟨h, rfl, rfl⟩, by simp⟩
end Go.Proofs.YtkflmhmbkilmpabDoor
