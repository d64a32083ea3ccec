import Derived.Test.YtjgjnekpdeffaaaLabF
import Derived.Test.YtjgjnekpdeffaaaSortF
namespace Go.Proofs.Ytjgjnekpdeffaaa
open Go Go.RowKit
open Classical

/-- How many of n elements have the label o. -/
def cnt (f : Nat → Int) (n : Nat) (o : Nat) : Nat := (List.range n).countP fun y => f y == (o : Int)
theorem cnt_congr (f g : Nat → Int) (n o : Nat) (h : ∀ y, y < n → (f y = (o : Int) ↔ g y = (o : Int))) : cnt f n o = cnt g n o := by
  unfold cnt
  refine List.countP_congr (fun y hy => ?_)
  have := h y (List.mem_range.1 hy)
  simpa using this
theorem cnt_list (f : Nat → Int) (n o : Nat) (V : List Nat) (hnd : V.Nodup) (h : ∀ y, y ∈ V ↔ y < n ∧ f y = (o : Int)) : cnt f n o = V.length := by
  unfold cnt
  rw [List.countP_eq_length_filter]
  have hF : ((List.range n).filter fun y => f y == (o : Int)).Nodup := List.Pairwise.filter _ List.nodup_range
  have hm : ∀ y, y ∈ (List.range n).filter (fun y => f y == (o : Int)) ↔ y ∈ V := fun y => by
    rw [h y]; simp
  obtain ⟨l1, h1⟩ := subset_perm _ V hF (fun a ha => (hm a).1 ha)
  obtain ⟨l2, h2⟩ := subset_perm V _ hnd (fun a ha => (hm a).2 ha)
  have e1 := h1.length_eq
  have e2 := h2.length_eq
  rw [List.length_append] at e1 e2
  omega

structure LabOk (rows : List (List Int)) (n k : Nat) : Prop where
  lt : ∀ y, (lab rows k).1 y < ((lab rows k).2 : Int)
  onto : ∀ o, o < (lab rows k).2 → ∃ y, y < n ∧ (lab rows k).1 y = (o : Int)
  all : ∀ y, y < k → 0 ≤ (lab rows k).1 y
theorem lab_ok (rows : List (List Int)) (n k : Nat) (hg : Gens rows n) (hk : k ≤ n) : LabOk rows n k := by
  induction k with
  | zero => exact ⟨fun y => by simp [lab], fun o ho => by simp [lab] at ho, fun y hy => by omega⟩
  | succ k ih =>
    have ih := ih (by omega)
    by_cases h0 : 0 ≤ (lab rows k).1 k
    · have e : lab rows (k + 1) = lab rows k := by rw [lab, if_pos h0]
      exact ⟨by rw [e]; exact ih.lt, by rw [e]; exact ih.onto, fun y hy => by
        rw [e]
        by_cases h : y = k
        · subst h; exact h0
        · exact ih.all y (by omega)⟩
    · have e : lab rows (k + 1) = (fun y => if Rch rows k y then ((lab rows k).2 : Int) else (lab rows k).1 y, (lab rows k).2 + 1) := by rw [lab, if_neg h0]
      have hun : ∀ y, Rch rows k y → (lab rows k).1 y < 0 := fun y hy => by
        have hkn : k < n := by omega
        induction hy with
        | start => omega
        | @step a b h1 hs ih2 =>
          have ha := hg.stay hkn h1
          have := lab_closed hg k (by omega) a b ha hs
          omega
      refine ⟨?_, ?_, ?_⟩
      · intro y
        rw [e]
        show (if Rch rows k y then ((lab rows k).2 : Int) else (lab rows k).1 y) < (((lab rows k).2 + 1 : Nat) : Int)
        have := ih.lt y
        split <;> omega
      · intro o ho
        rw [e] at ho ⊢
        have ho' : o < (lab rows k).2 + 1 := ho
        show ∃ y, y < n ∧ (if Rch rows k y then ((lab rows k).2 : Int) else (lab rows k).1 y) = (o : Int)
        by_cases h : o = (lab rows k).2
        · exact ⟨k, by omega, by rw [if_pos .start, h]⟩
        · obtain ⟨y, hy, hyo⟩ := ih.onto o (by omega)
          refine ⟨y, hy, ?_⟩
          rw [if_neg (fun hr => by have := hun y hr; omega), hyo]
      · intro y hy
        rw [e]
        show 0 ≤ (if Rch rows k y then ((lab rows k).2 : Int) else (lab rows k).1 y)
        by_cases h : Rch rows k y
        · rw [if_pos h]; omega
        · rw [if_neg h]
          by_cases h2 : y = k
          · subst h2; exact absurd .start h
          · exact ih.all y (by omega)
theorem lab_free {rows : List (List Int)} {n k : Nat} (hg : Gens rows n) (hk : k < n) (h0 : (lab rows k).1 k < 0) (y : Nat) (hy : Rch rows k y) : (lab rows k).1 y < 0 := by
  induction hy with
  | start => exact h0
  | @step a b h1 hs ih2 =>
    have ha := hg.stay hk h1
    have := lab_closed hg k (by omega) a b ha hs
    omega

/-- The numbers of elements of the labels when the elements below k are done. -/
noncomputable def cyc (rows : List (List Int)) (n k : Nat) : List Int := (List.range (lab rows k).2).map fun o => (cnt (lab rows k).1 n o : Int)
theorem cyc_stay (rows : List (List Int)) (n k : Nat) (h0 : 0 ≤ (lab rows k).1 k) : cyc rows n (k + 1) = cyc rows n k := by
  have e : lab rows (k + 1) = lab rows k := by rw [lab, if_pos h0]
  unfold cyc
  rw [e]
theorem cyc_next (rows : List (List Int)) (n k : Nat) (hg : Gens rows n) (hk : k < n) (h0 : (lab rows k).1 k < 0) (V : List Nat) (hnd : V.Nodup) (hV : ∀ y, y ∈ V ↔ Rch rows k y) : cyc rows n (k + 1) = cyc rows n k ++ [(V.length : Int)] := by
  have e : lab rows (k + 1) = (fun y => if Rch rows k y then ((lab rows k).2 : Int) else (lab rows k).1 y, (lab rows k).2 + 1) := by rw [lab, if_neg (by omega)]
  have hok := lab_ok rows n k hg (by omega)
  unfold cyc
  rw [e]
  show (List.range ((lab rows k).2 + 1)).map (fun o => (cnt (fun y => if Rch rows k y then ((lab rows k).2 : Int) else (lab rows k).1 y) n o : Int)) = _
  rw [List.range_succ, List.map_append]
  congr 1
  · refine List.map_congr_left (fun o ho => ?_)
    have ho' := List.mem_range.1 ho
    congr 1
    refine cnt_congr _ _ _ _ (fun y _ => ?_)
    by_cases hr : Rch rows k y
    · rw [if_pos hr]
      have := lab_free hg hk h0 y hr
      constructor <;> intro h <;> omega
    · rw [if_neg hr]
  · simp only [List.map_cons, List.map_nil]
    congr 1
    congr 1
    refine cnt_list _ _ _ V hnd (fun y => ?_)
    rw [hV y]
    constructor
    · intro hr
      exact ⟨hg.stay hk hr, by rw [if_pos hr]⟩
    · rintro ⟨_, h⟩
      by_cases hr : Rch rows k y
      · exact hr
      · rw [if_neg hr] at h
        have := hok.lt y
        omega
end Go.Proofs.Ytjgjnekpdeffaaa
