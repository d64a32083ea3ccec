import Derived.Test.YtnkggphffinekaaCycF
namespace Go.Proofs.Ytnkggphffinekaa
open Go Go.RowKit
open Classical

/-- What the specification has when the labels below o are done for a number of elements z. -/
noncomputable def spO (f : Nat → Int) (n z : Nat) (o : Nat) : List Int := (List.range o).flatMap fun a => if cnt f n a = z then [(z : Int)] else []
noncomputable def spZ (f : Nat → Int) (n G : Nat) (z : Nat) : List Int := (List.range z).flatMap fun a => spO f n (a + 1) G
theorem spO_next (f : Nat → Int) (n z o : Nat) : spO f n z (o + 1) = spO f n z o ++ (if cnt f n o = z then [(z : Int)] else []) := by
  unfold spO
  rw [List.range_succ, List.flatMap_append]
  simp
theorem spZ_next (f : Nat → Int) (n G z : Nat) : spZ f n G (z + 1) = spZ f n G z ++ spO f n (z + 1) G := by
  unfold spZ
  rw [List.range_succ, List.flatMap_append]
  simp
theorem spO_all (f : Nat → Int) (n z o : Nat) : ∀ x ∈ spO f n z o, x = (z : Int) := by
  induction o with
  | zero => simp [spO]
  | succ o ih =>
    rw [spO_next]
    intro x hx
    rcases List.mem_append.1 hx with h | h
    · exact ih x h
    · split at h
      · simpa using h
      · simp at h
theorem spO_length (f : Nat → Int) (n z o : Nat) : (spO f n z o).length ≤ o := by
  induction o with
  | zero => simp [spO]
  | succ o ih =>
    rw [spO_next, List.length_append]
    split <;> simp <;> omega
theorem spO_count (f : Nat → Int) (n z o : Nat) (v : Int) : (spO f n z o).count v = if v = (z : Int) then ((List.range o).map fun a => (cnt f n a : Int)).count v else 0 := by
  induction o with
  | zero => simp [spO]
  | succ o ih =>
    rw [spO_next, List.count_append, ih, List.range_succ, List.map_append, List.count_append]
    by_cases hv : v = (z : Int)
    · rw [if_pos hv, if_pos hv]
      congr 1
      by_cases hc : cnt f n o = z
      · rw [if_pos hc, hv]
        simp [hc]
      · rw [if_neg hc, hv]
        have : ¬ ((cnt f n o : Int) = (z : Int)) := by omega
        simp [this]
    · rw [if_neg hv, if_neg hv]
      split
      · have : ¬ ((z : Int) = v) := fun e => hv e.symm
        simp [this]
      · simp
theorem spZ_range (f : Nat → Int) (n G z : Nat) : ∀ x ∈ spZ f n G z, 1 ≤ x ∧ x ≤ (z : Int) := by
  induction z with
  | zero => simp [spZ]
  | succ z ih =>
    rw [spZ_next]
    intro x hx
    rcases List.mem_append.1 hx with h | h
    · have := ih x h; omega
    · have := spO_all f n (z + 1) G x h; omega
theorem spZ_count (f : Nat → Int) (n G z : Nat) (v : Int) : (spZ f n G z).count v = if 1 ≤ v ∧ v ≤ (z : Int) then ((List.range G).map fun a => (cnt f n a : Int)).count v else 0 := by
  induction z with
  | zero =>
    rw [if_neg (by omega)]
    simp [spZ]
  | succ z ih =>
    rw [spZ_next, List.count_append, ih, spO_count]
    by_cases h1 : v = ((z + 1 : Nat) : Int)
    · rw [if_pos h1, if_neg (by omega), if_pos (by omega), Nat.zero_add]
    · rw [if_neg h1, Nat.add_zero]
      by_cases h2 : 1 ≤ v ∧ v ≤ (z : Int)
      · rw [if_pos h2, if_pos (by omega)]
      · rw [if_neg h2, if_neg (by omega)]
theorem sorted_append {xs ys : List Int} (h1 : Sorted xs) (h2 : Sorted ys) (h : ∀ x ∈ xs, ∀ y ∈ ys, x ≤ y) : Sorted (xs ++ ys) := by
  intro a b hab hb
  rw [List.length_append] at hb
  rw [List.getD_eq_getElem?_getD, List.getD_eq_getElem?_getD]
  by_cases hb1 : b < xs.length
  · rw [List.getElem?_append_left (by omega), List.getElem?_append_left hb1, ← List.getD_eq_getElem?_getD, ← List.getD_eq_getElem?_getD]
    exact h1 a b hab hb1
  · by_cases ha1 : a < xs.length
    · rw [List.getElem?_append_left ha1, List.getElem?_append_right (by omega)]
      have e1 : xs[a]? = some xs[a] := by simp [ha1]
      have hb2 : b - xs.length < ys.length := by omega
      have e2 : ys[b - xs.length]? = some ys[b - xs.length] := by simp [hb2]
      rw [e1, e2]
      exact h _ (List.getElem_mem ha1) _ (List.getElem_mem hb2)
    · rw [List.getElem?_append_right (by omega), List.getElem?_append_right (by omega), ← List.getD_eq_getElem?_getD, ← List.getD_eq_getElem?_getD]
      exact h2 _ _ (by omega) (by omega)
theorem spO_sorted (f : Nat → Int) (n z o : Nat) : Sorted (spO f n z o) := by
  intro a b hab hb
  have h1 : (spO f n z o).getD a 0 = (z : Int) := spO_all f n z o _ (by have : a < (spO f n z o).length := (by omega); simp [this])
  have h2 : (spO f n z o).getD b 0 = (z : Int) := spO_all f n z o _ (by simp [hb])
  omega
theorem spZ_sorted (f : Nat → Int) (n G z : Nat) : Sorted (spZ f n G z) := by
  induction z with
  | zero => intro a b _ hb; simp [spZ] at hb
  | succ z ih =>
    rw [spZ_next]
    exact sorted_append ih (spO_sorted f n (z + 1) G) (fun x hx y hy => by
      have := spZ_range f n G z x hx
      have := spO_all f n (z + 1) G y hy
      omega)
theorem cnt_le (f : Nat → Int) (n o : Nat) : cnt f n o ≤ n := by
  unfold cnt
  have := List.countP_le_length (p := fun y => f y == (o : Int)) (l := List.range n)
  simpa using this
theorem spZ_perm (rows : List (List Int)) (n : Nat) (hg : Gens rows n) : (spZ (lab rows n).1 n (lab rows n).2 n).Perm (cyc rows n n) := by
  rw [List.perm_iff_count]
  intro v
  rw [spZ_count]
  have hok := lab_ok rows n n hg (Nat.le_refl _)
  unfold cyc
  split
  · rfl
  · rename_i h
    symm
    rw [List.count_eq_zero]
    intro hv
    obtain ⟨o, ho, e⟩ := List.mem_map.1 hv
    have hol := List.mem_range.1 ho
    have h1 := cnt_le (lab rows n).1 n o
    obtain ⟨y, hy, hyo⟩ := hok.onto o hol
    have h2 : 0 < cnt (lab rows n).1 n o := by
      unfold cnt
      rw [List.countP_pos_iff]
      exact ⟨y, List.mem_range.2 hy, by simp [hyo]⟩
    exact h (by omega)
end Go.Proofs.Ytnkggphffinekaa
