import Derived.Test.YtaejgmdeiemhcaaZbh
import Derived.Test.YtaejgmdeiemhcaaZg
import Derived.Shelf.SlSortCmp.NoneTotal
namespace Go.Proofs.Ytaejgmdeiemhcaa
open Go Go.RowKit Go.Sort Go.Lib
section
variable {α : Type} [Inhabited α]
theorem sortWorld_block (enc : α → Value) (w : World) (g n : Nat) (d : Array α) (os : Array Obj) (k : Nat) (hk : k ≠ g) (hlt : k < w.heap.size) : (sortWorld enc w g 0 n d os).heap[k]? = w.heap[k]? := by
  unfold sortWorld grow putRow mapBlock Sort.ahead
  simp only [Array.getElem?_append, Array.size_modify]
  rw [if_pos hlt, Array.getElem?_modify, if_neg (fun e => hk e.symm)]
theorem sortWorld_top (enc : α → Value) (w : World) (g n : Nat) (d : Array α) (os : Array Obj) (cur : Array Value) (t : TypeId) (fr : Nat × Nat) (h : w.heap[g]? = some (.cells cur t fr)) : (sortWorld enc w g 0 n d os).heap[g]? = some (.cells (putCells enc 0 d cur) t fr) := by
  have hlt : g < w.heap.size := (Array.getElem?_eq_some_iff.1 h).1
  unfold sortWorld grow putRow mapBlock Sort.ahead
  simp only [Array.getElem?_append, Array.size_modify]
  rw [if_pos hlt, Array.getElem?_modify, if_pos rfl, h]
  rfl
theorem sortWorld_size (enc : α → Value) (w : World) (g n : Nat) (d : Array α) (os : Array Obj) : w.heap.size ≤ (sortWorld enc w g 0 n d os).heap.size := by
  unfold sortWorld grow putRow mapBlock Sort.ahead
  simp
theorem sortWorld_low (enc : α → Value) (w : World) (g n : Nat) (d : Array α) (os : Array Obj) (B : Nat) (hB : B ≤ g) (hBw : B ≤ w.heap.size) : Go.RowKit.Below B w (sortWorld enc w g 0 n d os) :=
  ⟨rfl, rfl, rfl, sortWorld_size enc w g n d os, fun k hk => sortWorld_block enc w g n d os k (by omega) (by omega)⟩
theorem sortWorld_keep (enc : α → Value) (w : World) (g n : Nat) (d : Array α) (os : Array Obj) {ts t : TypeId} (hne : ts ≠ t) {cur : Array Value} {fr : Nat × Nat} (h : w.heap[g]? = some (.cells cur ts fr)) : KeepT t w (sortWorld enc w g 0 n d os) := by
  intro k c e
  by_cases hk : k = g
  · subst hk
    rw [h] at e
    injection e with e
    injection e with _ e
    exact absurd e hne
  · exact (sortWorld_block enc w g n d os k hk (Array.getElem?_eq_some_iff.1 e).1).trans e
end
theorem cmpW_neg (p q : List Int) : cmpW p q < 0 ↔ lessL p q = true := by
  unfold cmpW
  by_cases h : lessL p q = true
  · simp [h]
  · by_cases h2 : lessL q p = true
    · simp [h, h2]
    · simp [h, h2]
section
variable {M : Nat} (R : Fin (M + 1) → List Int)
theorem rowLt (x y : Fin (M + 1)) : ltOf (fun i j => cmpW (R i) (R j)) x y = lessL (R x) (R y) := by
  unfold ltOf
  have h := cmpW_neg (R x) (R y)
  cases h2 : lessL (R x) (R y) with
  | true => rw [h2] at h; simpa using h.2 rfl
  | false =>
    rw [h2] at h
    have h3 : ¬ cmpW (R x) (R y) < 0 := fun h3 => by have := h.1 h3; cases this
    simpa using h3
theorem rowSwo : SWO (ltOf (fun i j => cmpW (R i) (R j))) where
  irrefl x := by rw [rowLt]; exact lessL_irr _
  trans x y z h1 h2 := by rw [rowLt] at *; exact lessL_trans _ _ _ h1 h2
  ntrans x y z h1 h2 := by
    rw [rowLt] at *
    cases h3 : lessL (R x) (R z) with
    | false => rfl
    | true =>
      exfalso
      by_cases e : R x = R y
      · rw [e] at h3; rw [h3] at h2; cases h2
      · rcases lessL_tri _ _ e with h | h
        · rw [h] at h1; cases h1
        · have := lessL_trans _ _ _ h h3
          rw [this] at h2; cases h2
theorem rowTot (hinj : ∀ x y, R x = R y → x = y) (x y : Fin (M + 1)) (h1 : ltOf (fun i j => cmpW (R i) (R j)) x y = false) (h2 : ltOf (fun i j => cmpW (R i) (R j)) y x = false) : x = y := by
  rw [rowLt] at h1 h2
  by_cases e : R x = R y
  · exact hinj x y e
  · rcases lessL_tri _ _ e with h | h
    · rw [h] at h1; cases h1
    · rw [h] at h2; cases h2
/-- The indices in the order of their rows. -/
def srtI : List (Fin (M + 1)) := (Array.ofFn (n := M + 1) id).toList.mergeSort fun x y => !(ltOf (fun i j => cmpW (R i) (R j))) y x
theorem srtI_perm : (srtI R).Perm (List.ofFn (n := M + 1) id) := by
  have h := List.mergeSort_perm (Array.ofFn (n := M + 1) id).toList (fun x y => !(ltOf (fun i j => cmpW (R i) (R j))) y x)
  unfold srtI
  simpa using h
theorem srtI_len : (srtI R).length = M + 1 := by
  have := (srtI_perm R).length_eq
  simpa using this
theorem srtI_mem (x : Fin (M + 1)) : x ∈ srtI R := (srtI_perm R).mem_iff.2 (List.mem_ofFn.2 ⟨x, rfl⟩)
theorem srtI_nd : (srtI R).Nodup := by
  refine (srtI_perm R).nodup_iff.2 ?_
  rw [List.nodup_iff_pairwise_ne, List.pairwise_iff_getElem]
  intro i j hi hj hij e
  rw [List.getElem_ofFn, List.getElem_ofFn] at e
  have e2 : i = j := congrArg Fin.val e
  omega
theorem srtI_asc (hinj : ∀ x y, R x = R y → x = y) : ((srtI R).map R).Pairwise fun a b => lessL a b = true := by
  have hs : (srtI R).Pairwise fun x y => (!(ltOf (fun i j => cmpW (R i) (R j))) y x) = true := by
    unfold srtI
    refine List.pairwise_mergeSort (fun x y z h1 h2 => ?_) (fun x y => ?_) _
    · simp only [Bool.not_eq_true'] at *
      exact (rowSwo R).ntrans _ _ _ h2 h1
    · cases h : ltOf (fun i j => cmpW (R i) (R j)) y x with
      | false => simp
      | true =>
        have : ltOf (fun i j => cmpW (R i) (R j)) x y = false := by
          cases h2 : ltOf (fun i j => cmpW (R i) (R j)) x y with
          | false => rfl
          | true =>
            have h3 := (rowSwo R).trans _ _ _ h h2
            rw [(rowSwo R).irrefl] at h3
            cases h3
        simp [this]
  have hn := List.nodup_iff_pairwise_ne.1 (srtI_nd R)
  rw [List.pairwise_map]
  refine List.Pairwise.imp₂ ?_ hs hn
  intro a b h1 h2
  rw [Bool.not_eq_true', rowLt] at h1
  rcases lessL_tri (R a) (R b) (fun e => h2 (hinj a b e)) with h | h
  · exact h
  · rw [h] at h1; cases h1
end
end Go.Proofs.Ytaejgmdeiemhcaa
