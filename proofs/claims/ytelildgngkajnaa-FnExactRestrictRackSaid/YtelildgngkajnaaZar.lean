import Derived.Test.YtelildgngkajnaaZx
import Derived.Test.YtelildgngkajnaaZn
import Derived.Test.YtelildgngkajnaaZb
namespace Go.Proofs.Ytelildgngkajnaa
open Go Go.RowKit
theorem quiet_below {P : Program} {F : FuncId} {args : Array Value} {w : World} {v : Ending} (h : Calls P F args w fun e w' => e = v ∧ Quiet w w') : Calls P F args w fun e w' => e = v ∧ Below w.heap.size w w' := h.mono fun _ _ ⟨he, hq⟩ => ⟨he, hq.below _⟩
/-- Strictly increasing. -/
def Incr (xs : List Int) : Prop := ∀ i, 1 ≤ i → i < xs.length → xs.getD (i - 1) 0 < xs.getD i 0
theorem Incr.ge {n : Nat} {xs : List Int} (h : Incr xs) (he : Els n xs) (i : Nat) (hi : i < xs.length) : (i : Int) ≤ xs.getD i 0 := by
  induction i with
  | zero => exact (he 0 hi).1
  | succ i ih =>
    have h1 := ih (by omega)
    have h2 := h (i + 1) (by omega) hi
    rw [show i + 1 - 1 = i by omega] at h2
    omega
theorem Incr.len {n : Nat} {xs : List Int} (h : Incr xs) (he : Els n xs) : xs.length ≤ n := by
  by_cases h0 : xs.length = 0
  · omega
  · have h1 := h.ge he (xs.length - 1) (by omega)
    have h2 := (he (xs.length - 1) (by omega)).2
    omega
def rtH (f : List (List Int)) (xs : List Int) : Nat → Nat → Int := fun x y => ixOf xs (ap f (el xs x) (el xs y) : Nat)
def RtRes (f : List (List Int)) (xs : List Int) (zs : List (List Int)) (code : Int) : Prop :=
  ((Rck f ∧ Els f.length xs ∧ Incr xs) ∧ SubF f (sN xs xs.length) ∧ zs = grid xs.length (rtH f xs) ∧ code = 0) ∨ ((Rck f ∧ Els f.length xs ∧ Incr xs) ∧ ¬ SubF f (sN xs xs.length) ∧ zs = [] ∧ code = 5) ∨ (Rck f ∧ ¬ Els f.length xs ∧ zs = [] ∧ code = 2) ∨ (Rck f ∧ Els f.length xs ∧ ¬ Incr xs ∧ zs = [] ∧ code = 2) ∨ (¬ Rck f ∧ zs = [] ∧ code = 1)
theorem RtRes.ex (f : List (List Int)) (xs : List Int) : ∃ zs code, RtRes f xs zs code ∧ zs.length ≤ 1048576 ∧ ∀ i, i < zs.length → (zs.getD i []).length ≤ 1048576 := by
  by_cases h1 : Rck f
  · by_cases h2 : Els f.length xs
    · by_cases h3 : Incr xs
      · by_cases h4 : SubF f (sN xs xs.length)
        · have hl := h3.len h2
          have h12 := h1.tbl.2.1
          refine ⟨_, _, .inl ⟨⟨h1, h2, h3⟩, h4, rfl, rfl⟩, by rw [grid_length]; omega, fun i hi => ?_⟩
          rw [grid_length] at hi
          rw [grid_row_length _ _ _ hi]; omega
        · exact ⟨_, _, .inr (.inl ⟨⟨h1, h2, h3⟩, h4, rfl, rfl⟩), by simp, by simp⟩
      · exact ⟨_, _, .inr (.inr (.inr (.inl ⟨h1, h2, h3, rfl, rfl⟩))), by simp, by simp⟩
    · exact ⟨_, _, .inr (.inr (.inl ⟨h1, h2, rfl, rfl⟩)), by simp, by simp⟩
  · exact ⟨_, _, .inr (.inr (.inr (.inr ⟨h1, rfl, rfl⟩))), by simp, by simp⟩
theorem ixOf_bounds (xs : List Int) (v : Int) (hn : xs.length ≤ 12) : -1 ≤ ixOf xs v ∧ ixOf xs v ≤ 12 := by
  unfold ixOf
  split
  · have := List.idxOf_le_length (a := v) (l := xs); omega
  · omega
theorem ixOf_ge (xs : List Int) (v : Int) : 0 ≤ ixOf xs v ↔ v ∈ xs := by
  unfold ixOf
  split
  · rename_i h; exact ⟨fun _ => h, fun _ => by omega⟩
  · rename_i h; exact ⟨fun h2 => by omega, fun h2 => absurd h2 h⟩
theorem ixOf_lt (xs : List Int) (v : Int) (h : v ∈ xs) : ixOf xs v < (xs.length : Int) := by
  unfold ixOf
  rw [if_pos h]
  have := List.idxOf_lt_length_of_mem h
  omega
theorem in_list {n : Nat} {xs : List Int} (he : Els n xs) (v : Nat) : (v : Int) ∈ xs ↔ inb (sN xs xs.length) v := by
  rw [sN_in]
  constructor
  · intro h
    obtain ⟨i, hi, e⟩ := List.getElem_of_mem h
    refine ⟨i, hi, ?_⟩
    have h2 := (he.val hi).1
    have h3 : xs.getD i 0 = (v : Int) := by simp [hi, e]
    omega
  · rintro ⟨i, hi, e⟩
    have h2 := (he.val hi).1
    have h3 : xs.getD i 0 = xs[i] := by simp [hi]
    rw [← e, ← h2, h3]
    exact List.getElem_mem hi
/-- The table of the part is a table exactly if the elements are a subrack. -/
theorem rt_iff {f : List (List Int)} {n : Nat} {xs : List Int} (he : Els n xs) (hi : Incr xs) (h12 : n ≤ 12) : Tbl (grid xs.length (rtH f xs)) ↔ SubF f (sN xs xs.length) := by
  have hl := hi.len he
  constructor
  · rintro ⟨h1, _, h3⟩
    rw [grid_length] at h1 h3
    refine ⟨sN_ne (by omega), fun a b ha hb => ?_⟩
    obtain ⟨i, hi', rfl⟩ := (sN_in _ _ _).1 ha
    obtain ⟨j, hj', rfl⟩ := (sN_in _ _ _).1 hb
    have h4 := (h3 i hi').2 j hj'
    rw [grid_at _ _ _ _ hi' hj'] at h4
    exact (in_list he _).1 ((ixOf_ge _ _).1 h4.1)
  · rintro ⟨h0, hc⟩
    have hpos : 1 ≤ xs.length := by
      by_cases e : xs.length = 0
      · rw [e] at h0; exact absurd rfl h0
      · omega
    refine ⟨by rw [grid_length]; exact hpos, by rw [grid_length]; omega, fun i hi' => ?_⟩
    rw [grid_length] at hi' ⊢
    refine ⟨grid_row_length _ _ _ hi', fun j hj => ?_⟩
    rw [grid_at _ _ _ _ hi' hj]
    have hm : ((ap f (el xs i) (el xs j) : Nat) : Int) ∈ xs := (in_list he _).2 (hc _ _ ((sN_in _ _ _).2 ⟨i, hi', rfl⟩) ((sN_in _ _ _).2 ⟨j, hj, rfl⟩))
    exact ⟨(ixOf_ge _ _).2 hm, ixOf_lt _ _ hm⟩
theorem rt_iff2 {f : List (List Int)} {n m : Nat} {xs : List Int} (he : Els n xs) (hi : Incr xs) (h12 : n ≤ 12) (hm : xs.length = m) : Tbl (grid m (rtH f xs)) ↔ SubF f (sN xs m) := by
  subst hm
  exact rt_iff he hi h12
end Go.Proofs.Ytelildgngkajnaa
