import Derived.Test.YthkhkehpmolfaaaProg
import Derived.Test.YthkhkehpmolfaaaZd
import Derived.Test.YthkhkehpmolfaaaZf
import Derived.Test.YthkhkehpmolfaaaZh
namespace Go.Proofs.Ythkhkehpmolfaaa
open Go Go.RowKit

/-- A slice of n slices in block g of which the first k are laid: the rows h 0, h 1, .. in blocks of their own behind it. -/
structure Fil (ts t : TypeId) (n k : Nat) (h : Nat → List Int) (lo g : Nat) (w : World) : Prop where
  low : lo ≤ g
  all : ∃ (cur : Array Value) (R : Nat → Option Addr) (C : Nat → Nat), w.heap[g]? = some (.cells cur ts (0, 0)) ∧ cur.size = n ∧ (∀ i, i < k → cur[i]? = some (.slice (R i) (h i).length (C i))) ∧ (∀ i, i < k → Obj1 t (g + 1) w.heap.size w (R i) (h i)) ∧
    (∀ i j, i < k → j < k → i ≠ j → ∀ a b, R i = some a → R j = some b → a.block ≠ b.block)

section
variable {ts t : TypeId} {n k : Nat} {h : Nat → List Int} {lo g : Nat} {w w' : World}
theorem Fil.lt (f : Fil ts t n k h lo g w) : g < w.heap.size := by
  obtain ⟨_, cur, R, C, h1, _⟩ := f
  exact (Array.getElem?_eq_some_iff.1 h1).1
theorem Fil.start (w : World) (hlo : lo ≤ w.heap.size) : Fil ts t n 0 h lo w.heap.size (w.alloc (.cells (madeCells #[.slice none 0 0] n) ts)) :=
  ⟨hlo, _, fun _ => none, fun _ => 0, heap_alloc_new _ _, by simp [madeCells], fun i hi => absurd hi (Nat.not_lt_zero _), fun i hi => absurd hi (Nat.not_lt_zero _), fun i j hi => absurd hi (Nat.not_lt_zero _)⟩
theorem Fil.later (f : Fil ts t n k h lo g w) (hb : Below w.heap.size w w') : Fil ts t n k h lo g w' := by
  have hl := f.lt
  obtain ⟨h0, cur, R, C, h1, h2, h3, h4, h5⟩ := f
  exact ⟨h0, cur, R, C, (hb.block g hl).trans h1, h2, h3, fun i hi => ((h4 i hi).later hb).mono (Nat.le_refl _) hb.size, h5⟩
theorem Fil.at (f : Fil ts t n k h lo g w) (i : Nat) (hi : i < n) : (∃ v, w.cell? ⟨g, i, none⟩ = some v) ∧ w.frozen? ⟨g, i, none⟩ = false := by
  obtain ⟨_, cur, R, C, h1, h2, _⟩ := f
  refine ⟨?_, by simp [World.frozen?, h1]⟩
  rw [cell_of_row w g i cur ts (0, 0) h1]
  exact ⟨cur[i]'(by omega), by simp [h2, hi]⟩
theorem Fil.push {A : Option Addr} {c : Nat} (f : Fil ts t n k h lo g w) (hb : Below w.heap.size w w') (hA : Res t w.heap.size w' A (h k)) (hk : k < n) :
    Fil ts t n (k + 1) h lo g (w'.setCell ⟨g, k, none⟩ (.slice A (h k).length c)) := by
  have hl := f.lt
  have f' := f.later hb
  obtain ⟨h0, cur, R, C, h1, h2, h3, h4, h5⟩ := f
  have hg' : w'.heap[g]? = some (.cells cur ts (0, 0)) := (hb.block g hl).trans h1
  have hold : ∀ i, i < k → Obj1 t (g + 1) w.heap.size w' (R i) (h i) := fun i hi => (h4 i hi).later hb
  have hnew : Obj1 t w.heap.size w'.heap.size w' A (h k) := hA.obj
  refine ⟨h0, cur.set! k (.slice A (h k).length c), fun i => if i = k then A else R i, fun i => if i = k then c else C i, ?_, by simp [h2], ?_, ?_, ?_⟩
  · simp [World.setCell, Array.getElem?_modify, hg']
  · intro i hi
    by_cases e : i = k
    · subst e
      simp [h2, hk]
    · simp only [if_neg e]
      rw [Array.set!_eq_setIfInBounds, Array.getElem?_setIfInBounds_ne (fun e2 => e e2.symm)]
      exact h3 i (by omega)
  · intro i hi
    have hs : (w'.setCell ⟨g, k, none⟩ (.slice A (h k).length c)).heap.size = w'.heap.size := by simp [World.setCell]
    rw [hs]
    by_cases e : i = k
    · subst e
      simp only [if_pos]
      exact (hnew.mono (lo' := g + 1) (by omega) (Nat.le_refl _)).set (.inl (Nat.lt_succ_self _)) _
    · simp only [if_neg e]
      exact ((hold i (by omega)).mono (Nat.le_refl _) hb.size).set (.inl (Nat.lt_succ_self _)) _
  · intro i j hi hj hne a b ha hb'
    by_cases e1 : i = k
    · have e2 : j ≠ k := fun e2 => hne (e1.trans e2.symm)
      simp only [if_pos e1, if_neg e2] at ha hb'
      have p := hnew.bounds a ha
      have q := (h4 j (by omega)).bounds b hb'
      omega
    · simp only [if_neg e1] at ha
      by_cases e2 : j = k
      · simp only [if_pos e2] at hb'
        have p := hnew.bounds b hb'
        have q := (h4 i (by omega)).bounds a ha
        omega
      · simp only [if_neg e2] at hb'
        exact h5 i j (by omega) (by omega) hne a b ha hb'
theorem Fil.done (f : Fil ts t n n h lo g w) : Obj2 ts t lo w.heap.size w (some ⟨g, 0, none⟩) ((List.range n).map h) := by
  have hl := f.lt
  obtain ⟨h0, cur, R, C, h1, h2, h3, h4, h5⟩ := f
  have hg : ∀ i, i < n → ((List.range n).map h).getD i [] = h i := fun i hi => by simp [hi]
  refine .inr ⟨g, R, C, rfl, h0, hl, ⟨cur, h1, fun i hi => ?_⟩, fun i hi => ?_, fun i j hi hj => ?_⟩
  · simp only [List.length_map, List.length_range] at hi
    rw [hg i hi]
    exact h3 i hi
  · simp only [List.length_map, List.length_range] at hi
    rw [hg i hi]
    exact (h4 i hi).mono (by omega) (Nat.le_refl _)
  · simp only [List.length_map, List.length_range] at hi hj
    exact h5 i j hi hj
end

theorem rd_rows {w : World} {A : Option Addr} {f : List (List Int)} {n : Nat} (ht : Tbl f) (hr : Rd2 w A f) (hn : f.length = n) : ∃ b o, A = some ⟨b, o, none⟩ ∧ b < w.heap.size ∧ ∀ x, x < n → ∃ B c, w.cell? ⟨b, o + x, none⟩ = some (.slice B n c) ∧ Rd w B (f.getD x []) := by
  have h1 := ht.1
  obtain ⟨b, o, rfl, hb, hc⟩ := hr (by omega)
  refine ⟨b, o, rfl, hb, fun x hx => ?_⟩
  obtain ⟨B, c, h2, h3⟩ := hc x (by omega)
  rw [ht.rows x (by omega), hn] at h2
  exact ⟨B, c, h2, h3⟩

/-- What is asked of the function value: of each row, in each later world, it makes the row h x in memory of its own. -/
def RowFn (P : Program) (t : TypeId) (F : FuncId) (post : Array Value) (w : World) (n : Nat) (f : List (List Int)) (h : Nat → List Int) : Prop :=
  ∀ (W : World) (x : Nat) (B : Option Addr) (d : Nat), x < n → Below w.heap.size w W → Rd W B (f.getD x []) → Calls P F (#[.slice B n d] ++ post) W fun e w' => ∃ A' c', e = .returned (.slice A' (h x).length c') ∧ Below W.heap.size W w' ∧ Res t W.heap.size w' A' (h x)
end Go.Proofs.Ythkhkehpmolfaaa
