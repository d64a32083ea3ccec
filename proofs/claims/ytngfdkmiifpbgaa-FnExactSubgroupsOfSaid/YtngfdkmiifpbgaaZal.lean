import Derived.Test.YtngfdkmiifpbgaaZl
import Derived.Test.YtngfdkmiifpbgaaZai
namespace Go.Proofs.Ytngfdkmiifpbgaa
open Go Go.RowKit
set_option maxHeartbeats 1000000
theorem bt_andNot (a b : Nat) (ha : a < 4096) (hb : b < 4096) : bits .andNot .i64 (a : Int) (b : Int) = ((a &&& (2 ^ 64 - 1 - b) : Nat) : Int) := by
  have hx : a &&& (2 ^ 64 - 1 - b) ≤ a := Nat.and_le_left
  show IntKind.i64.wrap ((BitVec.ofInt 64 (a : Int) &&& ~~~BitVec.ofInt 64 (b : Int)).toNat : Int) = _
  rw [BitVec.toNat_and, BitVec.toNat_not]
  simp only [BitVec.ofInt_natCast, BitVec.toNat_ofNat]
  rw [Nat.mod_eq_of_lt (by omega : a < 2 ^ 64), Nat.mod_eq_of_lt (by omega : b < 2 ^ 64), IntKind.wrap_i64]
  omega
theorem andNot_zero (a b : Nat) (hb : b < 4096) (ha : a < 4096) : a &&& (2 ^ 64 - 1 - b) = 0 ↔ ∀ t, inb a t → inb b t := by
  have e : 2 ^ 64 - 1 - b = 2 ^ 64 - (b + 1) := by omega
  rw [e]
  constructor
  · intro h t hat
    have h1 : (a &&& (2 ^ 64 - (b + 1))).testBit t = false := by rw [h]; simp
    rw [Nat.testBit_and, Nat.testBit_two_pow_sub_succ (by omega)] at h1
    have h12 : t < 12 := inb_lt (k := 12) (by simpa using ha) hat
    unfold inb at hat ⊢
    rw [hat] at h1
    simpa [show t < 64 by omega] using h1
  · intro h
    apply Nat.eq_of_testBit_eq
    intro t
    rw [Nat.testBit_and, Nat.testBit_two_pow_sub_succ (by omega)]
    have h1 := h t
    unfold inb at h1
    cases ha1 : a.testBit t
    · simp
    · simp [h1 ha1]
/-- A subgroup, as a set. -/
def SubG (f : List (List Int)) (S : Nat) : Prop := inb S 0 ∧ ClosedF f S
theorem inb0 (S : Nat) : inb S 0 ↔ S % 2 = 1 := by rw [inb_iff]; simp
noncomputable def sgB (f : List (List Int)) (S : Nat) : Bool := @decide (SubG f S) (Classical.propDecidable _)
theorem sgB_iff (f : List (List Int)) (S : Nat) : sgB f S = true ↔ SubG f S := by
  unfold sgB
  exact @decide_eq_true_iff _ (Classical.propDecidable _)
noncomputable def sgN (f : List (List Int)) (k : Nat) : List Nat := (List.range k).filter fun S => sgB f S
theorem sgN_yes {f : List (List Int)} {k : Nat} (h : SubG f k) : sgN f (k + 1) = sgN f k ++ [k] := by
  unfold sgN
  have h2 := (sgB_iff f k).2 h
  rw [List.range_succ, List.filter_append]
  simp [h2]
theorem sgN_no {f : List (List Int)} {k : Nat} (h : ¬ SubG f k) : sgN f (k + 1) = sgN f k := by
  unfold sgN
  have h2 : sgB f k = false := by
    cases hb : sgB f k
    · rfl
    · exact absurd ((sgB_iff f k).1 hb) h
  rw [List.range_succ, List.filter_append]
  simp [h2]
theorem sgN_length (f : List (List Int)) (k : Nat) : (sgN f k).length ≤ k := by
  unfold sgN
  have := List.length_filter_le (fun S => sgB f S) (List.range k)
  simpa using this
noncomputable def sgL (f : List (List Int)) (k : Nat) : List Int := (sgN f k).map fun (x : Nat) => (x : Int)
theorem sgL_length (f : List (List Int)) (k : Nat) : (sgL f k).length = (sgN f k).length := by simp [sgL]
theorem sgL_yes {f : List (List Int)} {k : Nat} (h : SubG f k) : ints (sgL f (k + 1)) = ints (sgL f k) ++ [.int .i64 k] := by
  unfold sgL
  rw [sgN_yes h]
  simp [ints]
theorem sgL_no {f : List (List Int)} {k : Nat} (h : ¬ SubG f k) : sgL f (k + 1) = sgL f k := by
  unfold sgL
  rw [sgN_no h]
theorem SubG.even {f : List (List Int)} {S : Nat} (h : S % 2 = 0) : ¬ SubG f S := fun h2 => by have := (inb0 S).1 h2.1; omega
theorem sgN_one (f : List (List Int)) : sgN f 1 = [] := by rw [sgN_no (SubG.even rfl)]; rfl
theorem sgL_one (f : List (List Int)) : sgL f 1 = [] := by unfold sgL; rw [sgN_one]; rfl
def SgRes (f : List (List Int)) (zs : List Int) (code : Int) : Prop := (Grp f ∧ zs = sgL f (2 ^ f.length) ∧ code = 0) ∨ (¬ Grp f ∧ zs = [] ∧ code = 1)
theorem SgRes.ex (f : List (List Int)) : ∃ zs code, SgRes f zs code ∧ zs.length ≤ 1048576 := by
  by_cases h : Grp f
  · refine ⟨_, _, .inl ⟨h, rfl, rfl⟩, ?_⟩
    rw [sgL_length]
    have h1 := sgN_length f (2 ^ f.length)
    have h2 := pow_le f.length h.tbl.2.1
    omega
  · exact ⟨_, _, .inr ⟨h, rfl, rfl⟩, by simp⟩
/-- A set that has all conjugates of its elements. -/
def NrmF (f : List (List Int)) (S : Nat) : Prop := ∀ x y, x < f.length → inb S y → inb S (cj f x y)
/-- The error of a set. -/
def SubC (f : List (List Int)) (x : Int) (code : Int) : Prop := (Grp f ∧ (∃ S : Nat, x = S ∧ S < 2 ^ f.length ∧ SubG f S) ∧ code = 0) ∨ (¬ Grp f ∧ code = 1) ∨ (Grp f ∧ ¬ (0 ≤ x ∧ x < ((2 ^ f.length : Nat) : Int)) ∧ code = 2) ∨ (Grp f ∧ (∃ S : Nat, x = S ∧ S < 2 ^ f.length ∧ ¬ SubG f S) ∧ code = 5)
def NrRes (f : List (List Int)) (x : Int) (r : Bool) (code : Int) : Prop := (Grp f ∧ (∃ S : Nat, x = S ∧ S < 2 ^ f.length ∧ SubG f S ∧ (r = true ↔ NrmF f S)) ∧ code = 0) ∨ (code ≠ 0 ∧ r = false ∧ SubC f x code)
theorem NrRes.ex (f : List (List Int)) (x : Int) : ∃ r code, NrRes f x r code := by
  by_cases h : Grp f
  · by_cases h1 : 0 ≤ x ∧ x < ((2 ^ f.length : Nat) : Int)
    · obtain ⟨S, rfl⟩ : ∃ S : Nat, x = S := ⟨x.toNat, by omega⟩
      have hS : S < 2 ^ f.length := by have := h1.2; exact_mod_cast this
      by_cases h2 : SubG f S
      · obtain ⟨r, hr⟩ := bool_of (NrmF f S)
        exact ⟨r, 0, .inl ⟨h, ⟨S, rfl, hS, h2, hr⟩, rfl⟩⟩
      · exact ⟨false, 5, .inr ⟨by decide, rfl, .inr (.inr (.inr ⟨h, ⟨S, rfl, hS, h2⟩, rfl⟩))⟩⟩
    · exact ⟨false, 2, .inr ⟨by decide, rfl, .inr (.inr (.inl ⟨h, h1, rfl⟩))⟩⟩
  · exact ⟨false, 1, .inr ⟨by decide, rfl, .inr (.inl ⟨h, rfl⟩)⟩⟩
end Go.Proofs.Ytngfdkmiifpbgaa
