import Derived.Test.YtgahmfkmhaeniaaRkF
import Derived.Test.YtgahmfkmhaeniaaBackS
import Derived.Test.YtgahmfkmhaeniaaPMapF
import Derived.Test.YtgahmfkmhaeniaaPairF
import Derived.Test.YtgahmfkmhaeniaaEqF
import Derived.Test.YtgahmfkmhaeniaaZArg
import Derived.Test.YtgahmfkmhaeniaaProg
import Derived.Test.YtgahmfkmhaeniaaObj
import Derived.Test.YtgahmfkmhaeniaaBlk
import Derived.Test.YtgahmfkmhaeniaaTabRes
import Derived.Test.YtgahmfkmhaeniaaLst
import Derived.Test.YtgahmfkmhaeniaaZEnd
import Derived.Test.YtgahmfkmhaeniaaBackI
import Derived.Test.YtgahmfkmhaeniaaHeld
import Derived.Deep.Cut
import Derived.Test.YtgahmfkmhaeniaaOwn
import Derived.Deep.AppendLies
import Derived.Deep.RegionLaw
import Derived.Test.YtgahmfkmhaeniaaTblI
import Derived.OwnWalk
import Derived.Test.YtgahmfkmhaeniaaMem
import Derived.ChangeKeysEq
import Derived.Deep.DeepCutAuto
import Derived.Maps.Own
import Derived.Maps.Views
import Derived.WideKeyEntry
import Derived.DeepKeys4
import Derived.MapViews
import Derived.WalkArith
import Derived.Test.YtgahmfkmhaeniaaNewTab
import Derived.Test.YtgahmfkmhaeniaaRowsI
import Derived.Test.YtgahmfkmhaeniaaTblS
import Derived.Test.YtgahmfkmhaeniaaLessS
import Derived.Test.YtgahmfkmhaeniaaRowsS
namespace Go.Proofs.Ytgahmfkmhaeniaa
open Go Go.RowKit
def rowsL (f : List (List Int)) (h : Nat → List Int) : List (List Int) := (List.range f.length).map h
theorem rowsL_length (f : List (List Int)) (h : Nat → List Int) : (rowsL f h).length = f.length := by simp [rowsL]
theorem rowsL_at (f : List (List Int)) (h : Nat → List Int) (i : Nat) (hi : i < f.length) : (rowsL f h).getD i [] = h i := by simp [rowsL, hi]
def dualL (f : List (List Int)) : List (List Int) := rowsL f (fun i => backTo (f.getD i []) f.length)
def DuRes (f zs : List (List Int)) (code : Int) : Prop := (Rck f ∧ zs = dualL f ∧ code = 0) ∨ (¬ Rck f ∧ zs = [] ∧ code = 1)
theorem DuRes.ex (f : List (List Int)) : ∃ zs code, DuRes f zs code ∧ zs.length ≤ 1048576 ∧ ∀ i, i < zs.length → (zs.getD i []).length ≤ 1048576 := by
  by_cases h : Rck f
  · have h12 := h.tbl.2.1
    refine ⟨_, _, .inl ⟨h, rfl, rfl⟩, ?_, fun i hi => ?_⟩
    · rw [dualL, rowsL_length]; omega
    · rw [dualL, rowsL_length] at hi
      rw [dualL, rowsL_at f _ i hi, backTo_length, h.tbl.rows i hi]
      omega
  · exact ⟨_, _, .inr ⟨h, rfl, rfl⟩, by simp, by simp⟩
end Go.Proofs.Ytgahmfkmhaeniaa
namespace Go.Proofs.Ytgahmfkmhaeniaa
open Go Go.RowKit
/-- The pair to which pair number k is led. -/
def ledK (f s : List (List Int)) (n k : Nat) : Nat × Nat := (ap f (k / n) (k % n), ap s (k / n) (k % n))
/-- The numbers below k that are led to q. -/
def ledL (f s : List (List Int)) (n k : Nat) (q : Nat × Nat) : List Nat := (List.range k).filter (fun j => decide (ledK f s n j = q))
theorem ledL_succ (f s : List (List Int)) (n k : Nat) (q : Nat × Nat) : ledL f s n (k + 1) q = if ledK f s n k = q then ledL f s n k q ++ [k] else ledL f s n k q := by
  unfold ledL
  rw [List.range_succ, List.filter_append]
  by_cases h : ledK f s n k = q
  · simp [h]
  · simp [h]
theorem ledL_mem {f s : List (List Int)} {n k : Nat} {q : Nat × Nat} {j : Nat} : j ∈ ledL f s n k q ↔ j < k ∧ ledK f s n j = q := by
  unfold ledL
  simp
theorem ledL_sorted (f s : List (List Int)) (n k : Nat) (q : Nat × Nat) : (ledL f s n k q).Pairwise (· < ·) := by
  unfold ledL
  exact List.Pairwise.filter _ List.pairwise_lt_range
theorem ledL_len (f s : List (List Int)) (n k : Nat) (q : Nat × Nat) : (ledL f s n k q).length ≤ k := by
  have h := List.length_filter_le (fun j => decide (ledK f s n j = q)) (List.range k)
  unfold ledL
  simpa using h
def NoCol (f s : List (List Int)) (n : Nat) : Prop := ∀ i j, i < n * n → j < n * n → i ≠ j → ledK f s n i ≠ ledK f s n j
/-- The first two that are led to one. -/
def FstCol (f s : List (List Int)) (n a b : Nat) : Prop := a < n * n ∧ b < n * n ∧ a ≠ b ∧ ledK f s n a = ledK f s n b ∧ (∀ i, i < a → ∀ j, j < n * n → j ≠ i → ledK f s n i ≠ ledK f s n j) ∧ (∀ j, j < b → j ≠ a → ledK f s n a ≠ ledK f s n j)
theorem FstCol.uniq {f s : List (List Int)} {n a b a' b' : Nat} (h : FstCol f s n a b) (h' : FstCol f s n a' b') : a = a' ∧ b = b' := by
  obtain ⟨h1, h2, h3, h4, h5, h6⟩ := h
  obtain ⟨g1, g2, g3, g4, g5, g6⟩ := h'
  have e : a = a' := by
    rcases Nat.lt_trichotomy a a' with hl | hl | hl
    · exact absurd h4 (g5 a hl b h2 h3.symm)
    · exact hl
    · exact absurd g4 (h5 a' hl b' g2 g3.symm)
  subst e
  refine ⟨rfl, ?_⟩
  rcases Nat.lt_trichotomy b b' with hl | hl | hl
  · exact absurd h4 (g6 b hl h3.symm)
  · exact hl
  · exact absurd g4 (h6 b' hl g3.symm)
theorem FstCol.not {f s : List (List Int)} {n a b : Nat} (h : FstCol f s n a b) : ¬ NoCol f s n := fun hn => hn a b h.1 h.2.1 h.2.2.1 h.2.2.2.1
/-- At the first one whose list has two, the second one of the list. -/
theorem FstCol.of_list {f s : List (List Int)} {n k : Nat} (hk : k < n * n) (h1 : ∀ i, i < k → (ledL f s n (n * n) (ledK f s n i)).length ≤ 1) (h2 : 1 < (ledL f s n (n * n) (ledK f s n k)).length) :
    FstCol f s n k ((ledL f s n (n * n) (ledK f s n k)).getD 1 0) := by
  have hnone : ∀ i, i < k → ∀ j, j < n * n → j ≠ i → ledK f s n i ≠ ledK f s n j := by
    intro i hi j hj hne e
    have m1 : i ∈ ledL f s n (n * n) (ledK f s n i) := ledL_mem.2 ⟨by omega, rfl⟩
    have m2 : j ∈ ledL f s n (n * n) (ledK f s n i) := ledL_mem.2 ⟨hj, e.symm⟩
    have hl := h1 i hi
    match hL : ledL f s n (n * n) (ledK f s n i), m1, m2 with
    | [x], m1, m2 => simp at m1 m2; omega
    | x :: y :: r, _, _ => rw [hL] at hl; simp at hl
  match hL : ledL f s n (n * n) (ledK f s n k), h2 with
  | x :: y :: r, _ =>
    have hs := ledL_sorted f s n (n * n) (ledK f s n k)
    rw [hL] at hs
    have hxy : x < y := by
      have := (List.pairwise_cons.1 hs).1 y (by simp)
      exact this
    have mx : x < n * n ∧ ledK f s n x = ledK f s n k := ledL_mem.1 (by rw [hL]; simp)
    have my : y < n * n ∧ ledK f s n y = ledK f s n k := ledL_mem.1 (by rw [hL]; simp)
    have mk : k ∈ ledL f s n (n * n) (ledK f s n k) := ledL_mem.2 ⟨hk, rfl⟩
    have hxk : x = k := by
      rcases Nat.lt_trichotomy x k with hl | hl | hl
      · exact absurd mx.2 (hnone x hl k hk (by omega))
      · exact hl
      · rw [hL] at mk
        rcases List.mem_cons.1 mk with e | e
        · omega
        · have := (List.pairwise_cons.1 hs).1 k e; omega
    subst hxk
    simp only [List.getD_cons_succ, List.getD_cons_zero]
    refine ⟨hk, my.1, by omega, my.2.symm, hnone, fun j hj hne e => ?_⟩
    have mj : j ∈ ledL f s n (n * n) (ledK f s n x) := ledL_mem.2 ⟨by have := my.1; omega, e.symm⟩
    rw [hL] at mj
    rcases List.mem_cons.1 mj with e1 | e1
    · exact hne e1
    · rcases List.mem_cons.1 e1 with e2 | e2
      · omega
      · have h3 := (List.pairwise_cons.1 hs).2
        have := (List.pairwise_cons.1 h3).1 j e2
        omega
theorem NoCol.of_list {f s : List (List Int)} {n : Nat} (h1 : ∀ i, i < n * n → (ledL f s n (n * n) (ledK f s n i)).length ≤ 1) : NoCol f s n := by
  intro i j hi hj hne e
  have m1 : i ∈ ledL f s n (n * n) (ledK f s n i) := ledL_mem.2 ⟨hi, rfl⟩
  have m2 : j ∈ ledL f s n (n * n) (ledK f s n i) := ledL_mem.2 ⟨hj, e.symm⟩
  have hl := h1 i hi
  match hL : ledL f s n (n * n) (ledK f s n i), m1, m2 with
  | [x], m1, m2 => simp at m1 m2; omega
  | x :: y :: r, _, _ => rw [hL] at hl; simp at hl
theorem col_or (f s : List (List Int)) (n : Nat) : NoCol f s n ∨ ∃ a b, FstCol f s n a b := by
  have key : ∀ k, k ≤ n * n → (∀ i, i < k → (ledL f s n (n * n) (ledK f s n i)).length ≤ 1) ∨ ∃ a b, FstCol f s n a b := by
    intro k
    induction k with
    | zero => intro _; exact .inl (fun i hi => absurd hi (Nat.not_lt_zero _))
    | succ k ih =>
      intro hk
      rcases ih (by omega) with h | h
      · by_cases e : 1 < (ledL f s n (n * n) (ledK f s n k)).length
        · exact .inr ⟨_, _, FstCol.of_list (by omega) h e⟩
        · exact .inl (fun i hi => by
            by_cases e2 : i = k
            · subst e2; omega
            · exact h i (by omega))
      · exact .inr h
  rcases key _ (Nat.le_refl _) with h | h
  · exact .inl (NoCol.of_list h)
  · exact .inr h
/-- The cells of pairs, given by their numbers. -/
def pcs (n : Nat) (l : List Nat) : List Value := l.flatMap (fun j => [.int .i64 ((j / n : Nat) : Int), .int .i64 ((j % n : Nat) : Int)])
theorem pcs_length (n : Nat) (l : List Nat) : (pcs n l).length = l.length * 2 := by
  induction l with
  | nil => rfl
  | cons a r ih => simp only [pcs, List.flatMap_cons, List.length_append, List.length_cons, List.length_nil] at ih ⊢; omega
theorem pcs_snoc (n : Nat) (l : List Nat) (k : Nat) : pcs n (l ++ [k]) = pcs n l ++ [.int .i64 ((k / n : Nat) : Int), .int .i64 ((k % n : Nat) : Int)] := by simp [pcs]
theorem pcs_second (n : Nat) (l : List Nat) (h : 1 < l.length) : (pcs n l)[2]? = some (.int .i64 ((l.getD 1 0 / n : Nat) : Int)) ∧ (pcs n l)[3]? = some (.int .i64 ((l.getD 1 0 % n : Nat) : Int)) := by
  match l, h with
  | a :: b :: r, _ => simp [pcs]
def CoRes (f s : List (List Int)) (zs : List Int) (code : Int) : Prop :=
  (∃ a b, PMap f s ∧ FstCol f s f.length a b ∧ zs = [((a / f.length : Nat) : Int), ((a % f.length : Nat) : Int), ((b / f.length : Nat) : Int), ((b % f.length : Nat) : Int)] ∧ code = 0) ∨ (PMap f s ∧ NoCol f s f.length ∧ zs = [] ∧ code = 4) ∨ (¬ PMap f s ∧ zs = [] ∧ code = 1)
theorem CoRes.ex (f s : List (List Int)) : ∃ zs code, CoRes f s zs code ∧ zs.length ≤ 1048576 := by
  by_cases h : PMap f s
  · rcases col_or f s f.length with h1 | ⟨a, b, h1⟩
    · exact ⟨_, _, .inr (.inl ⟨h, h1, rfl, rfl⟩), by simp⟩
    · exact ⟨_, _, .inl ⟨a, b, h, h1, rfl, rfl⟩, by simp⟩
  · exact ⟨_, _, .inr (.inr ⟨h, rfl, rfl⟩), by simp⟩
end Go.Proofs.Ytgahmfkmhaeniaa
namespace Go.Proofs.Ytgahmfkmhaeniaa
open Go Go.RowKit
set_option maxHeartbeats 1000000
def SolF (f s : List (List Int)) : Prop := PMap f s ∧ NoCol f s f.length ∧ First f s f.length (f.length * f.length * f.length)
def IsRes (f s : List (List Int)) (r : Bool) : Prop := r = true ↔ SolF f s
theorem IsRes.ex (f s : List (List Int)) : ∃ r, IsRes f s r := by
  by_cases h : SolF f s
  · exact ⟨true, by simp [IsRes, h]⟩
  · exact ⟨false, by simp [IsRes, h]⟩
theorem First.uniq {f s : List (List Int)} {n T T' : Nat} (h : First f s n T) (h' : First f s n T') : T = T' := by
  rcases Nat.lt_trichotomy T T' with e | e | e
  · exact absurd (h'.1 T e) (h.2.2 (by have := h'.2.1; omega))
  · exact e
  · exact absurd (h.1 T' e) (h'.2.2 (by have := h.2.1; omega))
/-- The four ways of it. -/
theorem IsRes.cases {f s : List (List Int)} {n : Nat} (hn : f.length = n) {r : Bool} (h : IsRes f s r) :
    (¬ PMap f s ∧ r = false) ∨ (PMap f s ∧ ∃ T, First f s n T ∧ ((T < n * n * n ∧ ((NoCol f s n ∧ r = false) ∨ ((∃ a b, FstCol f s n a b) ∧ r = false))) ∨ (T = n * n * n ∧ (((∃ a b, FstCol f s n a b) ∧ r = false) ∨ (NoCol f s n ∧ r = true))))) := by
  subst hn
  have hb : ∀ h9 : ¬ SolF f s, r = false := fun h9 => Bool.eq_false_iff.2 (fun e => h9 (h.1 e))
  by_cases hp : PMap f s
  · obtain ⟨T, hT⟩ := First.ex f s f.length
    refine .inr ⟨hp, T, hT, ?_⟩
    by_cases h2 : T < f.length * f.length * f.length
    · have hr := hb (fun h9 => by have := First.uniq hT h9.2.2; omega)
      rcases col_or f s f.length with hc | hc
      · exact .inl ⟨h2, .inl ⟨hc, hr⟩⟩
      · exact .inl ⟨h2, .inr ⟨hc, hr⟩⟩
    · have he : T = f.length * f.length * f.length := by have := hT.2.1; omega
      subst he
      refine .inr ⟨rfl, ?_⟩
      rcases col_or f s f.length with hc | hc
      · exact .inr ⟨hc, h.2 ⟨hp, hc, hT⟩⟩
      · exact .inl ⟨hc, hb (fun h9 => by obtain ⟨a, b, hf⟩ := hc; exact hf.not h9.2.1)⟩
  · exact .inl ⟨hp, hb (fun h9 => hp h9.1)⟩
end Go.Proofs.Ytgahmfkmhaeniaa
namespace Go.Proofs.Ytgahmfkmhaeniaa
open Go Go.RowKit
/-- What CycleSetOfSolution answers. -/
def ZcRes (f s zs : List (List Int)) (code : Int) : Prop := (SolF f s ∧ (NonF f s ∧ InvF f s) ∧ zs = dualL f ∧ code = 0) ∨ (SolF f s ∧ ¬ (NonF f s ∧ InvF f s) ∧ zs = [] ∧ code = 5) ∨ (¬ SolF f s ∧ zs = [] ∧ code = 1)
theorem ZcRes.ex (f s : List (List Int)) : ∃ zs code, ZcRes f s zs code ∧ zs.length ≤ 1048576 ∧ ∀ i, i < zs.length → (zs.getD i []).length ≤ 1048576 := by
  by_cases h : SolF f s
  · by_cases h2 : NonF f s ∧ InvF f s
    · have ht : Tbl f := h.1.1
      have h12 := ht.2.1
      refine ⟨_, _, .inl ⟨h, h2, rfl, rfl⟩, ?_, fun i hi => ?_⟩
      · rw [dualL, rowsL_length]; omega
      · rw [dualL, rowsL_length] at hi
        rw [dualL, rowsL_at f _ i hi, backTo_length, ht.rows i hi]
        omega
    · exact ⟨_, _, .inr (.inl ⟨h, h2, rfl, rfl⟩), by simp, by simp⟩
  · exact ⟨_, _, .inr (.inr ⟨h, rfl, rfl⟩), by simp, by simp⟩
end Go.Proofs.Ytgahmfkmhaeniaa
namespace Go.Proofs.Ytgahmfkmhaeniaa
open Go Go.RowKit

/-- A slice of n slices in block g of which the first k are laid: the rows h 0, h 1, .. in blocks of their own behind it. -/
structure Fil (ts t : TypeId) (n k : Nat) (h : Nat → List Int) (lo g : Nat) (w : World) : Prop where
  low : lo ≤ g
  all : ∃ (cur : Array Value) (R : Nat → Option Addr) (C : Nat → Nat), w.heap[g]? = some (.cells cur ts (0, 0)) ∧ cur.size = n ∧ (∀ i, i < k → cur[i]? = some (.slice (R i) (h i).length (C i))) ∧ (∀ i, i < k → Obj1 t (g + 1) w.heap.size w (R i) (h i)) ∧
    (∀ i j, i < k → j < k → i ≠ j → ∀ a b, R i = some a → R j = some b → a.block ≠ b.block)

section
variable {ts t : TypeId} {n k : Nat} {h : Nat → List Int} {lo g : Nat} {w w' : World}
theorem Fil.lt (f : Fil ts t n k h lo g w) : g < w.heap.size := by
  obtain ⟨_, cur, R, C, h1, _⟩ := f
  exact (Array.getElem?_eq_some_iff.1 h1).1
theorem Fil.start (w : World) (hlo : lo ≤ w.heap.size) : Fil ts t n 0 h lo w.heap.size (w.alloc (.cells (madeCells #[.slice none 0 0] n) ts)) :=
  ⟨hlo, _, fun _ => none, fun _ => 0, heap_alloc_new _ _, by simp [madeCells], fun i hi => absurd hi (Nat.not_lt_zero _), fun i hi => absurd hi (Nat.not_lt_zero _), fun i j hi => absurd hi (Nat.not_lt_zero _)⟩
theorem Fil.later (f : Fil ts t n k h lo g w) (hb : Below w.heap.size w w') : Fil ts t n k h lo g w' := by
  have hl := f.lt
  obtain ⟨h0, cur, R, C, h1, h2, h3, h4, h5⟩ := f
  exact ⟨h0, cur, R, C, (hb.block g hl).trans h1, h2, h3, fun i hi => ((h4 i hi).later hb).mono (Nat.le_refl _) hb.size, h5⟩
theorem Fil.at (f : Fil ts t n k h lo g w) (i : Nat) (hi : i < n) : (∃ v, w.cell? ⟨g, i, none⟩ = some v) ∧ w.frozen? ⟨g, i, none⟩ = false := by
  obtain ⟨_, cur, R, C, h1, h2, _⟩ := f
  refine ⟨?_, by simp [World.frozen?, h1]⟩
  rw [cell_of_row w g i cur ts (0, 0) h1]
  exact ⟨cur[i]'(by omega), by simp [h2, hi]⟩
theorem Fil.push {A : Option Addr} {c : Nat} (f : Fil ts t n k h lo g w) (hb : Below w.heap.size w w') (hA : Res t w.heap.size w' A (h k)) (hk : k < n) :
    Fil ts t n (k + 1) h lo g (w'.setCell ⟨g, k, none⟩ (.slice A (h k).length c)) := by
  have hl := f.lt
  have f' := f.later hb
  obtain ⟨h0, cur, R, C, h1, h2, h3, h4, h5⟩ := f
  have hg' : w'.heap[g]? = some (.cells cur ts (0, 0)) := (hb.block g hl).trans h1
  have hold : ∀ i, i < k → Obj1 t (g + 1) w.heap.size w' (R i) (h i) := fun i hi => (h4 i hi).later hb
  have hnew : Obj1 t w.heap.size w'.heap.size w' A (h k) := hA.obj
  refine ⟨h0, cur.set! k (.slice A (h k).length c), fun i => if i = k then A else R i, fun i => if i = k then c else C i, ?_, by simp [h2], ?_, ?_, ?_⟩
  · simp [World.setCell, Array.getElem?_modify, hg']
  · intro i hi
    by_cases e : i = k
    · subst e
      simp [h2, hk]
    · simp only [if_neg e]
      rw [Array.set!_eq_setIfInBounds, Array.getElem?_setIfInBounds_ne (fun e2 => e e2.symm)]
      exact h3 i (by omega)
  · intro i hi
    have hs : (w'.setCell ⟨g, k, none⟩ (.slice A (h k).length c)).heap.size = w'.heap.size := by simp [World.setCell]
    rw [hs]
    by_cases e : i = k
    · subst e
      simp only [if_pos]
      exact (hnew.mono (lo' := g + 1) (by omega) (Nat.le_refl _)).set (.inl (Nat.lt_succ_self _)) _
    · simp only [if_neg e]
      exact ((hold i (by omega)).mono (Nat.le_refl _) hb.size).set (.inl (Nat.lt_succ_self _)) _
  · intro i j hi hj hne a b ha hb'
    by_cases e1 : i = k
    · have e2 : j ≠ k := fun e2 => hne (e1.trans e2.symm)
      simp only [if_pos e1, if_neg e2] at ha hb'
      have p := hnew.bounds a ha
      have q := (h4 j (by omega)).bounds b hb'
      omega
    · simp only [if_neg e1] at ha
      by_cases e2 : j = k
      · simp only [if_pos e2] at hb'
        have p := hnew.bounds b hb'
        have q := (h4 i (by omega)).bounds a ha
        omega
      · simp only [if_neg e2] at hb'
        exact h5 i j (by omega) (by omega) hne a b ha hb'
theorem Fil.done (f : Fil ts t n n h lo g w) : Obj2 ts t lo w.heap.size w (some ⟨g, 0, none⟩) ((List.range n).map h) := by
  have hl := f.lt
  obtain ⟨h0, cur, R, C, h1, h2, h3, h4, h5⟩ := f
  have hg : ∀ i, i < n → ((List.range n).map h).getD i [] = h i := fun i hi => by simp [hi]
  refine .inr ⟨g, R, C, rfl, h0, hl, ⟨cur, h1, fun i hi => ?_⟩, fun i hi => ?_, fun i j hi hj => ?_⟩
  · simp only [List.length_map, List.length_range] at hi
    rw [hg i hi]
    exact h3 i hi
  · simp only [List.length_map, List.length_range] at hi
    rw [hg i hi]
    exact (h4 i hi).mono (by omega) (Nat.le_refl _)
  · simp only [List.length_map, List.length_range] at hi hj
    exact h5 i j hi hj
end

theorem rd_rows {w : World} {A : Option Addr} {f : List (List Int)} {n : Nat} (ht : Tbl f) (hr : Rd2 w A f) (hn : f.length = n) : ∃ b o, A = some ⟨b, o, none⟩ ∧ b < w.heap.size ∧ ∀ x, x < n → ∃ B c, w.cell? ⟨b, o + x, none⟩ = some (.slice B n c) ∧ Rd w B (f.getD x []) := by
  have h1 := ht.1
  obtain ⟨b, o, rfl, hb, hc⟩ := hr (by omega)
  refine ⟨b, o, rfl, hb, fun x hx => ?_⟩
  obtain ⟨B, c, h2, h3⟩ := hc x (by omega)
  rw [ht.rows x (by omega), hn] at h2
  exact ⟨B, c, h2, h3⟩

/-- What is asked of the function value: of each row, in each later world, it makes the row h x in memory of its own. -/
def RowFn (P : Program) (t : TypeId) (F : FuncId) (post : Array Value) (w : World) (n : Nat) (f : List (List Int)) (h : Nat → List Int) : Prop :=
  ∀ (W : World) (x : Nat) (B : Option Addr) (d : Nat), x < n → Below w.heap.size w W → Rd W B (f.getD x []) → Calls P F (#[.slice B n d] ++ post) W fun e w' => ∃ A' c', e = .returned (.slice A' (h x).length c') ∧ Below W.heap.size W w' ∧ Res t W.heap.size w' A' (h x)
end Go.Proofs.Ytgahmfkmhaeniaa
namespace Go.Proofs.Ytgahmfkmhaeniaa
open Go Go.RowKit

section
variable {ts t tz : TypeId} {B : Nat} {w w' w1 : World} {v v' : Value} {rows : List (List Int)} {vals : List Value}

theorem own_type {n : Nat} {xs : List Value} (h : w.ownsRow B ts 1 v n xs) {g : Nat} (hg : v.ownBlock = some g) : g < w.heap.size ∧ B ≤ g ∧ ∃ cur : Array Value, w.heap[g]? = some (.cells cur ts (0, 0)) := by
  rcases h.2 with ⟨hv, _⟩ | ⟨g', cap, cur, hv, h1, hh, _⟩
  · rw [hv] at hg; cases hg
  · rw [hv] at hg
    have e : g' = g := by simpa [Value.ownBlock] using hg
    subst e
    exact ⟨(Array.getElem?_eq_some_iff.1 hh).1, h1, cur, hh⟩

theorem own_form {n : Nat} {xs : List Value} (h : w.ownsRow B ts 1 v (n + 1) xs) : ∃ g cap, v = .slice (some ⟨g, 0, none⟩) (n + 1) cap := by
  rcases h.2 with ⟨_, h0⟩ | ⟨g, cap, cur, hv, _⟩
  · omega
  · exact ⟨g, cap, hv⟩

theorem LstV.beside {o : Option Nat} (h : LstV ts t B w v rows vals) (hg : w.grownBy w' o) (hv : v.ownBlock = none ∨ v.ownBlock ≠ o) (hk : KeepT t w w') : LstV ts t B w' v rows vals :=
  ⟨h.own.kept hg hv, fun i hi => by
    obtain ⟨A, c, h1, h2⟩ := h.row i hi
    exact ⟨A, c, h1, (hk.obj h2).mono (Nat.le_refl _) hg.size⟩, h.ne⟩

/-- Two lists of rows that the call builds by append, in the box ob. -/
structure Two (ts t tz : TypeId) (B : Nat) (w : World) (ob : Nat) (v1 v2 : Value) (rows1 rows2 : List (List Int)) (vals1 vals2 : List Value) : Prop where
  box : Blk w ob tz [v1, v2]
  low : ob < B
  bsz : B ≤ w.heap.size
  l1 : LstV ts t B w v1 rows1 vals1
  l2 : LstV ts t B w v2 rows2 vals2
  ne : ∀ g, v1.ownBlock = some g → v2.ownBlock ≠ some g

variable {ob : Nat} {v1 v2 : Value} {rows1 rows2 : List (List Int)} {vals1 vals2 : List Value}

theorem Two.later (h : Two ts t tz B w ob v1 v2 rows1 rows2 vals1 vals2) (hb : Below w.heap.size w w') : Two ts t tz B w' ob v1 v2 rows1 rows2 vals1 vals2 :=
  ⟨h.box.later hb, h.low, Nat.le_trans h.bsz hb.size, h.l1.later hb, h.l2.later hb, h.ne⟩

theorem store_low (h : LstV ts t B w v rows vals) (hl : ob < B) (i : Nat) (u : Value) : LstV ts t B (w.setCell ⟨ob, i, none⟩ u) v rows vals :=
  h.of_blocks (fun k hk _ => Below.heap_setCell w ⟨ob, i, none⟩ u k (by show k ≠ ob; omega)) (by simp [World.setCell])

theorem Two.kept1 {tmp : Obj} (h : Two ts t tz B w ob v1 v2 rows1 rows2 vals1 vals2) (hg : (w.alloc tmp).grownBy w1 v1.ownBlock) : Blk w1 ob tz [v1, v2] :=
  (hg.block ob (by have := h.box.lt; simp; omega) (fun e => by
    have := (own_type h.l1.own e.symm).2.1
    have := h.low
    omega)).trans (h.box.later ((Below.refl _ _).alloc (Nat.le_refl _) _))
theorem Two.kept2 {tmp : Obj} (h : Two ts t tz B w ob v1 v2 rows1 rows2 vals1 vals2) (hg : (w.alloc tmp).grownBy w1 v2.ownBlock) : Blk w1 ob tz [v1, v2] :=
  (hg.block ob (by have := h.box.lt; simp; omega) (fun e => by
    have := (own_type h.l2.own e.symm).2.1
    have := h.low
    omega)).trans (h.box.later ((Below.refl _ _).alloc (Nat.le_refl _) _))

/-- A row is appended to the first list. -/
theorem Two.push1 {A : Option Addr} {c : Nat} {r : List Int} {tmp : Obj} (hne : ts ≠ t) (h : Two ts t tz B w ob v1 v2 rows1 rows2 vals1 vals2) (hA : Obj1 t B w.heap.size w A r)
    (hdis : ∀ (i : Nat) (u : Value) (g : Nat), vals1[i]? = some u → u.ownBlock = some g → ∀ a, A = some a → a.block ≠ g)
    (hown : w1.ownsRow B ts 1 v' (rows1.length + 1) (vals1 ++ [.slice A r.length c])) (hg : (w.alloc tmp).grownBy w1 v1.ownBlock) (hat : v'.ownBlock = v1.ownBlock ∨ v'.ownBlock = some (w.alloc tmp).heap.size) :
    Two ts t tz B (w1.setCell ⟨ob, 0, none⟩ v') ob v' v2 (rows1 ++ [r]) rows2 (vals1 ++ [.slice A r.length c]) vals2 := by
  have hal : Below w.heap.size w (w.alloc tmp) := (Below.refl _ _).alloc (Nat.le_refl _) _
  have hobw : ob < w.heap.size := h.box.lt
  have hob1 : some ob ≠ v1.ownBlock := fun e => by
    have := (own_type h.l1.own e.symm).2.1
    have := h.low
    omega
  have hv2 : v2.ownBlock = none ∨ v2.ownBlock ≠ v1.ownBlock := by
    cases e : v2.ownBlock with
    | none => exact .inl rfl
    | some g => exact .inr (fun e2 => h.ne g e2.symm e)
  have hk : KeepT t (w.alloc tmp) w1 := KeepT.of_grown hne (ownsRow_below h.l1.own hal) hg
  refine ⟨?_, h.low, by have h1 := hg.size; have h2 := h.bsz; simp at h1; simp [World.setCell]; omega, store_low (h.l1.push2 hne hA hdis hown hg) h.low _ _, store_low ((h.l2.later hal).beside hg hv2 hk) h.low _ _, fun g hg1 => ?_⟩
  · have hb1 : Blk w1 ob tz [v1, v2] := (hg.block ob (by simp; omega) hob1).trans (h.box.later hal)
    exact hb1.set 0 v'
  · rcases hat with e | e
    · exact h.ne g (e ▸ hg1)
    · intro e2
      have h3 := (own_type h.l2.own e2).1
      rw [e] at hg1
      simp at hg1
      omega

/-- .. to the second one. -/
theorem Two.push2 {A : Option Addr} {c : Nat} {r : List Int} {tmp : Obj} (hne : ts ≠ t) (h : Two ts t tz B w ob v1 v2 rows1 rows2 vals1 vals2) (hA : Obj1 t B w.heap.size w A r)
    (hdis : ∀ (i : Nat) (u : Value) (g : Nat), vals2[i]? = some u → u.ownBlock = some g → ∀ a, A = some a → a.block ≠ g)
    (hown : w1.ownsRow B ts 1 v' (rows2.length + 1) (vals2 ++ [.slice A r.length c])) (hg : (w.alloc tmp).grownBy w1 v2.ownBlock) (hat : v'.ownBlock = v2.ownBlock ∨ v'.ownBlock = some (w.alloc tmp).heap.size) :
    Two ts t tz B (w1.setCell ⟨ob, 1, none⟩ v') ob v1 v' rows1 (rows2 ++ [r]) vals1 (vals2 ++ [.slice A r.length c]) := by
  have hal : Below w.heap.size w (w.alloc tmp) := (Below.refl _ _).alloc (Nat.le_refl _) _
  have hobw : ob < w.heap.size := h.box.lt
  have hob1 : some ob ≠ v2.ownBlock := fun e => by
    have := (own_type h.l2.own e.symm).2.1
    have := h.low
    omega
  have hv2 : v1.ownBlock = none ∨ v1.ownBlock ≠ v2.ownBlock := by
    cases e : v1.ownBlock with
    | none => exact .inl rfl
    | some g => exact .inr (fun e2 => h.ne g e e2.symm)
  have hk : KeepT t (w.alloc tmp) w1 := KeepT.of_grown hne (ownsRow_below h.l2.own hal) hg
  refine ⟨?_, h.low, by have h1 := hg.size; have h2 := h.bsz; simp at h1; simp [World.setCell]; omega, store_low ((h.l1.later hal).beside hg hv2 hk) h.low _ _, store_low (h.l2.push2 hne hA hdis hown hg) h.low _ _, fun g hg1 e2 => ?_⟩
  · have hb1 : Blk w1 ob tz [v1, v2] := (hg.block ob (by simp; omega) hob1).trans (h.box.later hal)
    exact hb1.set 1 v'
  · rcases hat with e | e
    · exact h.ne g hg1 (e ▸ e2)
    · have h3 := (own_type h.l1.own hg1).1
      rw [e] at e2
      simp at e2
      omega

theorem Two.start (w : World) (ts t tz : TypeId) (hb : Blk w ob tz [.slice none 0 0, .slice none 0 0]) : Two ts t tz (ob + 1) w ob (.slice none 0 0) (.slice none 0 0) [] [] [] [] :=
  ⟨hb, Nat.lt_succ_self _, hb.lt, LstV.nil _ _ _ _, LstV.nil _ _ _ _, fun g h => by cases h⟩

/-- Block g of the row is kept by pushing to a list. -/
theorem push_keeps {lo hi : Nat} {A : Option Addr} {xs : List Int} {n : Nat} {ys : List Value} {tmp : Obj} (hne : ts ≠ t) (ho : w.ownsRow B ts 1 v n ys) (hg : (w.alloc tmp).grownBy w1 v.ownBlock) (h : Obj1 t lo hi w A xs) : Obj1 t lo hi w1 A xs :=
  (KeepT.of_grown (t := t) hne (ownsRow_below ho ((Below.refl _ _).alloc (Nat.le_refl _) _)) hg).obj (h.later ((Below.refl _ _).alloc (Nat.le_refl _) _))

/-- Appending to list 1 and storing the result leaves the blocks below the lists, but for the box. -/
theorem Two.frame1 {tmp : Obj} (h : Two ts t tz B w ob v1 v2 rows1 rows2 vals1 vals2) (hg : (w.alloc tmp).grownBy w1 v1.ownBlock) (u : Value) {k : Nat} (hk : k < B) (hne : k ≠ ob) (hkw : k < w.heap.size) : (w1.setCell ⟨ob, 0, none⟩ u).heap[k]? = w.heap[k]? :=
  (Below.heap_setCell w1 ⟨ob, 0, none⟩ u k hne).trans ((hg.block k (by simp; omega) (fun e => by
    have := (own_type h.l1.own e.symm).2.1
    omega)).trans (((Below.refl w.heap.size w).alloc (Nat.le_refl _) tmp).block k hkw))
theorem Two.below1 {tmp : Obj} {b0 : Nat} {w0 : World} (h : Two ts t tz B w ob v1 v2 rows1 rows2 vals1 vals2) (hg : (w.alloc tmp).grownBy w1 v1.ownBlock) (u : Value) (hb : Below b0 w0 w) (h0 : b0 ≤ ob) : Below b0 w0 (w1.setCell ⟨ob, 0, none⟩ u) :=
  ((hb.alloc (by have := h.box.lt; omega) tmp).grown hg (by have := h.box.lt; simp; omega) (fun g e => by
    have := (own_type h.l1.own e).2.1
    have := h.low
    omega)).setCell (p := ⟨ob, 0, none⟩) h0 u
theorem Two.add1 {w0 : World} {A : Option Addr} {c k x gg cap : Nat} {r : List Int} {tmp : Obj} {lo : Nat} (hne : ts ≠ t) (h0 : Two ts t tz B w0 ob v1 v2 rows1 rows2 vals1 vals2 ∨ ∃ u u' R R' VS VS', Two ts t tz B w0 ob u u' R R' VS VS' ∧ v1 = u ∧ rows1 = R ∧ vals1 = VS) (h : Two ts t tz B w ob v1 v2 rows1 rows2 vals1 vals2) (hlo : w0.heap.size ≤ lo) (hA : Obj1 t lo w.heap.size w A r) (hl : rows1.length = x) (hr : r.length = k)
    (hown : w1.ownsRow B ts 1 (.slice (some ⟨gg, 0, none⟩) (x + 1) cap) (x + 1) (vals1 ++ [.slice A k c])) (hg : (w.alloc tmp).grownBy w1 v1.ownBlock) (hat : v1.ownBlock = some gg ∨ gg = w.heap.size + 1) :
    Two ts t tz B (w1.setCell ⟨ob, 0, none⟩ (.slice (some ⟨gg, 0, none⟩) (x + 1) cap)) ob (.slice (some ⟨gg, 0, none⟩) (x + 1) cap) v2 (rows1 ++ [r]) rows2 (vals1 ++ [.slice A k c]) vals2 := by
  have hlow : ∀ (i : Nat) (u : Value) (g : Nat), vals1[i]? = some u → u.ownBlock = some g → g < w0.heap.size := by
    rcases h0 with h0 | ⟨u, u', R, R', VS, VS', h0, rfl, rfl, rfl⟩
    · exact h0.l1.low
    · exact h0.l1.low
  have hB : B ≤ w0.heap.size := by
    rcases h0 with h0 | ⟨u, u', R, R', VS, VS', h0, _⟩
    · have := h0.box.lt; have := h0.low; have := h0.l1.own; exact h0.bsz
    · exact h0.bsz
  subst hr
  subst hl
  refine h.push1 hne (hA.mono (by omega) (Nat.le_refl _)) (fun i u g hu hug a ha => ?_) hown hg ?_
  · have h1 := hlow i u g hu hug
    have h2 := (hA.bounds a ha).1
    omega
  · rcases hat with e | e
    · exact .inl (by rw [e]; rfl)
    · exact .inr (by rw [e]; simp [Value.ownBlock])

/-- Appending to list 2 and storing the result leaves the blocks below the lists, but for the box. -/
theorem Two.frame2 {tmp : Obj} (h : Two ts t tz B w ob v1 v2 rows1 rows2 vals1 vals2) (hg : (w.alloc tmp).grownBy w1 v2.ownBlock) (u : Value) {k : Nat} (hk : k < B) (hne : k ≠ ob) (hkw : k < w.heap.size) : (w1.setCell ⟨ob, 1, none⟩ u).heap[k]? = w.heap[k]? :=
  (Below.heap_setCell w1 ⟨ob, 1, none⟩ u k hne).trans ((hg.block k (by simp; omega) (fun e => by
    have := (own_type h.l2.own e.symm).2.1
    omega)).trans (((Below.refl w.heap.size w).alloc (Nat.le_refl _) tmp).block k hkw))
theorem Two.below2 {tmp : Obj} {b0 : Nat} {w0 : World} (h : Two ts t tz B w ob v1 v2 rows1 rows2 vals1 vals2) (hg : (w.alloc tmp).grownBy w1 v2.ownBlock) (u : Value) (hb : Below b0 w0 w) (h0 : b0 ≤ ob) : Below b0 w0 (w1.setCell ⟨ob, 1, none⟩ u) :=
  ((hb.alloc (by have := h.box.lt; omega) tmp).grown hg (by have := h.box.lt; simp; omega) (fun g e => by
    have := (own_type h.l2.own e).2.1
    have := h.low
    omega)).setCell (p := ⟨ob, 1, none⟩) h0 u
theorem Two.add2 {w0 : World} {A : Option Addr} {c k x gg cap : Nat} {r : List Int} {tmp : Obj} {lo : Nat} (hne : ts ≠ t) (h0 : Two ts t tz B w0 ob v1 v2 rows1 rows2 vals1 vals2 ∨ ∃ u u' R R' VS VS', Two ts t tz B w0 ob u u' R R' VS VS' ∧ v2 = u' ∧ rows2 = R' ∧ vals2 = VS') (h : Two ts t tz B w ob v1 v2 rows1 rows2 vals1 vals2) (hlo : w0.heap.size ≤ lo) (hA : Obj1 t lo w.heap.size w A r) (hl : rows2.length = x) (hr : r.length = k)
    (hown : w1.ownsRow B ts 1 (.slice (some ⟨gg, 0, none⟩) (x + 1) cap) (x + 1) (vals2 ++ [.slice A k c])) (hg : (w.alloc tmp).grownBy w1 v2.ownBlock) (hat : v2.ownBlock = some gg ∨ gg = w.heap.size + 1) :
    Two ts t tz B (w1.setCell ⟨ob, 1, none⟩ (.slice (some ⟨gg, 0, none⟩) (x + 1) cap)) ob v1 (.slice (some ⟨gg, 0, none⟩) (x + 1) cap) rows1 (rows2 ++ [r]) vals1 (vals2 ++ [.slice A k c]) := by
  have hlow : ∀ (i : Nat) (u : Value) (g : Nat), vals2[i]? = some u → u.ownBlock = some g → g < w0.heap.size := by
    rcases h0 with h0 | ⟨u, u', R, R', VS, VS', h0, rfl, rfl, rfl⟩
    · exact h0.l2.low
    · exact h0.l2.low
  have hB : B ≤ w0.heap.size := by
    rcases h0 with h0 | ⟨u, u', R, R', VS, VS', h0, _⟩
    · have := h0.box.lt; have := h0.low; have := h0.l1.own; exact h0.bsz
    · exact h0.bsz
  subst hr
  subst hl
  refine h.push2 hne (hA.mono (by omega) (Nat.le_refl _)) (fun i u g hu hug a ha => ?_) hown hg ?_
  · have h1 := hlow i u g hu hug
    have h2 := (hA.bounds a ha).1
    omega
  · rcases hat with e | e
    · exact .inl (by rw [e]; rfl)
    · exact .inr (by rw [e]; simp [Value.ownBlock])

theorem row_kept {k : Nat} {lo hi : Nat} {A : Option Addr} {xs : List Int} {n : Nat} {ys : List Value} {tmp : Obj} (hne : ts ≠ t) (ho : w.ownsRow B ts 1 v n ys) (hg : (w.alloc tmp).grownBy w1 v.ownBlock) (h : Obj1 t lo hi w A xs) (hk : ob < lo) (u : Value) : Obj1 t lo hi (w1.setCell ⟨ob, k, none⟩ u) A xs :=
  (push_keeps hne ho hg h).set (p := ⟨ob, k, none⟩) (.inl hk) u
end
end Go.Proofs.Ytgahmfkmhaeniaa
namespace Go.Proofs.Ytgahmfkmhaeniaa
open Go Go.RowKit

section
variable {ts t tz : TypeId} {B : Nat} {w w' w1 : World} {v v' : Value} {rows : List (List Int)} {vals : List Value} {ob : Nat}

/-- A list of rows that the call builds by append, in cell s of the box ob, whose other cells are cs. -/
structure One (ts t tz : TypeId) (B : Nat) (w : World) (ob s : Nat) (cs : List Value) (v : Value) (rows : List (List Int)) (vals : List Value) : Prop where
  box : Blk w ob tz (cs.set s v)
  low : ob < B
  bsz : B ≤ w.heap.size
  l : LstV ts t B w v rows vals

variable {s : Nat} {cs : List Value}
theorem One.later (h : One ts t tz B w ob s cs v rows vals) (hb : Below w.heap.size w w') : One ts t tz B w' ob s cs v rows vals :=
  ⟨h.box.later hb, h.low, Nat.le_trans h.bsz hb.size, h.l.later hb⟩
theorem One.kept {tmp : Obj} (h : One ts t tz B w ob s cs v rows vals) (hg : (w.alloc tmp).grownBy w1 v.ownBlock) : Blk w1 ob tz (cs.set s v) :=
  (hg.block ob (by have := h.box.lt; simp; omega) (fun e => by
    have := (own_type h.l.own e.symm).2.1
    have := h.low
    omega)).trans (h.box.later ((Below.refl _ _).alloc (Nat.le_refl _) _))
theorem One.push {A : Option Addr} {c : Nat} {r : List Int} {tmp : Obj} (hne : ts ≠ t) (h : One ts t tz B w ob s cs v rows vals) (hA : Obj1 t B w.heap.size w A r)
    (hdis : ∀ (i : Nat) (u : Value) (g : Nat), vals[i]? = some u → u.ownBlock = some g → ∀ a, A = some a → a.block ≠ g)
    (hown : w1.ownsRow B ts 1 v' (rows.length + 1) (vals ++ [.slice A r.length c])) (hg : (w.alloc tmp).grownBy w1 v.ownBlock) :
    One ts t tz B (w1.setCell ⟨ob, s, none⟩ v') ob s cs v' (rows ++ [r]) (vals ++ [.slice A r.length c]) := by
  refine ⟨?_, h.low, by have h1 := hg.size; have h2 := h.bsz; simp at h1; simp [World.setCell]; omega, store_low (h.l.push2 hne hA hdis hown hg) h.low _ _⟩
  have hb1 : Blk w1 ob tz (cs.set s v) := h.kept hg
  have h2 := hb1.set s v'
  rw [List.set_set] at h2
  exact h2
theorem One.start (w : World) (ts t tz : TypeId) (hb : Blk w ob tz (cs.set s (.slice none 0 0))) (hB : ob < B) (hw : B ≤ w.heap.size) : One ts t tz B w ob s cs (.slice none 0 0) [] [] :=
  ⟨hb, hB, hw, LstV.nil _ _ _ _⟩
theorem One.frame {tmp : Obj} (h : One ts t tz B w ob s cs v rows vals) (hg : (w.alloc tmp).grownBy w1 v.ownBlock) (u : Value) {k : Nat} (hk : k < B) (hne : k ≠ ob) (hkw : k < w.heap.size) : (w1.setCell ⟨ob, s, none⟩ u).heap[k]? = w.heap[k]? :=
  (Below.heap_setCell w1 ⟨ob, s, none⟩ u k hne).trans ((hg.block k (by simp; omega) (fun e => by
    have := (own_type h.l.own e.symm).2.1
    omega)).trans (((Below.refl w.heap.size w).alloc (Nat.le_refl _) tmp).block k hkw))
theorem One.below {tmp : Obj} {b0 : Nat} {w0 : World} (h : One ts t tz B w ob s cs v rows vals) (hg : (w.alloc tmp).grownBy w1 v.ownBlock) (u : Value) (hb : Below b0 w0 w) (h0 : b0 ≤ ob) : Below b0 w0 (w1.setCell ⟨ob, s, none⟩ u) :=
  ((hb.alloc (by have := h.box.lt; omega) tmp).grown hg (by have := h.box.lt; simp; omega) (fun g e => by
    have := (own_type h.l.own e).2.1
    have := h.low
    omega)).setCell (p := ⟨ob, s, none⟩) h0 u
/-- A row that a call has made behind the world w0, in which the list lay already, is appended and stored. -/
theorem One.add {w0 : World} {A : Option Addr} {c k x gg cap : Nat} {r : List Int} {tmp : Obj} {lo : Nat} (hne : ts ≠ t) (h0 : One ts t tz B w0 ob s cs v rows vals) (h : One ts t tz B w ob s cs v rows vals) (hlo : w0.heap.size ≤ lo) (hA : Obj1 t lo w.heap.size w A r) (hl : rows.length = x) (hr : r.length = k)
    (hown : w1.ownsRow B ts 1 (.slice (some ⟨gg, 0, none⟩) (x + 1) cap) (x + 1) (vals ++ [.slice A k c])) (hg : (w.alloc tmp).grownBy w1 v.ownBlock) :
    One ts t tz B (w1.setCell ⟨ob, s, none⟩ (.slice (some ⟨gg, 0, none⟩) (x + 1) cap)) ob s cs (.slice (some ⟨gg, 0, none⟩) (x + 1) cap) (rows ++ [r]) (vals ++ [.slice A k c]) := by
  have hB := h0.bsz
  subst hr
  subst hl
  refine h.push hne (hA.mono (by omega) (Nat.le_refl _)) (fun i u g hu hug a ha => ?_) hown hg
  have h1 := h0.l.low i u g hu hug
  have h2 := (hA.bounds a ha).1
  omega
end

/-- The table of a result is laid into its box. -/
theorem kend {ts t tz : TypeId} {w w3 wf : World} {r lo hi : Nat} {A : Option Addr} {n c : Nat} {f : List (List Int)} {u : Value} (hwf : wf = w3.setCell ⟨r, 0, none⟩ (.slice A n c)) (hr : Blk w3 r tz [u]) (hr0 : w.heap.size ≤ r) (hb : Below w.heap.size w w3) (ho : Obj2 ts t lo hi w3 A f) (hlo : w.heap.size ≤ lo) (hrl : r < lo) (hhi : hi ≤ w3.heap.size) :
    wf.cell? ⟨r, 0, none⟩ = some (.slice A n c) ∧ Below w.heap.size w wf ∧ Obj2 ts t w.heap.size wf.heap.size wf A f := by
  have hR : Blk wf r tz [.slice A n c] := by rw [hwf]; exact hr.set 0 _
  refine ⟨hR.cell 0 _ rfl, ?_, ?_⟩
  · rw [hwf]; exact hb.setCell (p := ⟨r, 0, none⟩) hr0 _
  · rw [hwf]; exact (ho.set (p := ⟨r, 0, none⟩) (.inl hrl) _).mono hlo (by simp [World.setCell]; exact hhi)
end Go.Proofs.Ytgahmfkmhaeniaa
namespace Go.Proofs.Ytgahmfkmhaeniaa
open Go Go.RowKit
set_option maxHeartbeats 2000000
theorem zcInfo2 : (Try.prog.info? 31).map (fun i => (i.zero, i.size, i.bytes)) = some (some (.slice none 0 0), 1, 24) := by kernel_rfl

set_option maxRecDepth 100000 in
theorem zcycle_any (A B : Option Addr) (n c m d : Nat) (f : List (List Int)) (w : World) (hn : f.length = n) (ht : Tbl f) (hp : AllPrm f) (hr : Rd2 w A f) :
    Calls Try.prog 79 #[.agg #[.slice A n c, .slice B m d]] w fun e w' => ∃ A' c', e = .returned (.agg #[.slice A' n c']) ∧ Below w.heap.size w w' ∧ Obj2 31 2 w.heap.size w'.heap.size w' A' (dualL f) := by
  have HN := hide hn
  have HTB := hide ht
  have HPM := hide hp
  have HRD := hide hr
  have h1 : 1 ≤ n := by rw [← hn]; exact ht.1
  have h12 : n ≤ 12 := by rw [← hn]; exact ht.2.1
  have HB0 := hide (((Below.refl _ w).alloc (Nat.le_refl _) (Obj.cells #[Value.slice A n c, Value.slice B m d] 41)).alloc (by simp) (Obj.cells #[.slice none 0 0] 27))
  have HK0 := hide ((Blk.new w 41 [.slice A n c, .slice B m d]).alloc (Obj.cells #[.slice none 0 0] 27))
  have HR0 : Hid (Blk ((w.alloc (Obj.cells #[Value.slice A n c, Value.slice B m d] 41)).alloc (Obj.cells #[.slice none 0 0] 27)) (w.heap.size + 1) 27 [.slice none 0 0]) := hide (by have h := Blk.new (w.alloc (Obj.cells #[Value.slice A n c, Value.slice B m d] 41)) 27 [.slice none 0 0]; simpa using h)
  have hmk := run_make_row' (P := Try.prog) 22 31 (.slice none 0 0) 24 Try.underlying22 zcInfo2 rfl .i64 .i64 n (by omega) (by omega)
  clear hn ht hp hr
  go_enter Try.func79, Try.ntmps79
  go_upto_region 1 with fail
  refine wp_gen fun w1 hw1 => ?_
  have HB1 : Hid (Below w.heap.size w w1) := hide (by rw [hw1]; exact HB0.out)
  have HK1 : Hid (Blk w1 w.heap.size 41 [.slice A n c, .slice B m d]) := hide (by rw [hw1]; exact HK0.out)
  have HR1 : Hid (Blk w1 (w.heap.size + 1) 27 [.slice none 0 0]) := hide (by rw [hw1]; exact HR0.out)
  clear hw1
  have k0 := HK1.out.cell 0 _ rfl
  have k2 := fun o => (HK1.out.alloc o).cell 0 _ rfl
  go_wp2_with fail
  clear hmk k0 k2
  refine wp_gen fun w0 hw0 => ?_
  obtain ⟨G, hG⟩ : ∃ G, w1.heap.size = G := ⟨_, rfl⟩
  have hGw : w.heap.size + 1 < G := by have := HR1.out.lt; omega
  have HBm : Hid (Below w.heap.size w w0) := hide (by rw [hw0]; exact HB1.out.alloc HB1.out.size _)
  have HRm : Hid (Blk w0 (w.heap.size + 1) 27 [.slice none 0 0]) := hide (by rw [hw0]; exact HR1.out.alloc _)
  have HFm : Hid (Fil 31 2 n 0 (fun i => backTo (f.getD i []) n) G G w0) := hide (by rw [hw0, ← hG]; exact Fil.start w1 (Nat.le_refl _))
  rw [hG]
  clear hw0 hG
  go_loopw [13] (fun i wr => ∃ k : Nat, k ≤ n ∧ i = .int .i64 k ∧ Below w.heap.size w wr ∧ Blk wr (w.heap.size + 1) 27 [.slice none 0 0] ∧ Fil 31 2 n k (fun i => backTo (f.getD i []) n) G G wr) (fun i _ => n - (intOf i).toNat)
  case atStart => exact ⟨0, Nat.zero_le _, rfl, HBm.out, HRm.out, HFm.out⟩
  case round =>
    obtain ⟨k, hk, rfl, hbe, hrr, hff⟩ := hrel
    have HBc := hide hbe
    have HRc := hide hrr
    have HFc := hide hff
    clear hbe hrr hff
    by_cases hlt : k < n
    · have hkl : Hid (k < f.length) := hide (by have := HN.out; omega)
      obtain ⟨b, o, hA, hbw, hc⟩ := (HRD.out.later HBc.out) (by have := hkl.out; omega)
      obtain ⟨Ak, ck, hcell, hrd⟩ := hc k hkl.out
      have hl := HTB.out.row_len HN.out hlt
      rw [hl] at hcell
      have HL := hide hl
      have HRR := hide hrd
      have hltz : (k : Int) < n := by omega
      subst hA
      clear hc hrd hl
      go_wp2_with fail
      refine (inverse_any Ak n ck (f.getD k []) _ HL.out (by omega) HRR.out (by have h := (HPM.out k hkl.out).2.2.1; rw [HL.out] at h; exact h)).mono ?_
      rintro e wd ⟨A5, c5, rfl, hbd, hres⟩
      have HPU := hide (HFc.out.push (c := c5) hbd hres hlt)
      have HBd := hide (HBc.out.trans (hbd.mono HBc.out.size))
      have HRd := hide (HRc.out.later hbd)
      have HFd := hide (HFc.out.later hbd)
      have HLB : Hid ((backTo (f.getD k []) n).length = n) := hide (by rw [backTo_length]; exact HL.out)
      clear hbd hres
      rw [HLB.out] at HPU
      obtain ⟨⟨v0, hv0⟩, hz0⟩ := HFd.out.at k hlt
      go_wp2_with fail
      go_roundw
      case rel => exact ⟨k + 1, by omega, by go_num, HBd.out.setCell (p := ⟨G, k, none⟩) (by show w.heap.size ≤ G; omega) _, HRd.out.far (p := ⟨G, k, none⟩) (by show w.heap.size + 1 ≠ G; omega) _, HPU.out⟩
      case measure => simp [intOf]; omega
    · have hkn : k = n := by omega
      subst hkn
      have HO := hide HFc.out.done
      have k0 := HRc.out.cell 0 _ rfl
      have k1 := HRc.out.frozen 0
      have hgl := HFc.out.lt
      go_wp2_with fail
      refine bp_gen fun wf hwf => ?_
      obtain ⟨q0, hbf, hof⟩ := kend hwf HRc.out (by omega) HBc.out HO.out (by omega) (by omega) (Nat.le_refl _)
      have hdl : dualL f = (List.range k).map (fun i => backTo (f.getD i []) k) := by unfold dualL rowsL; rw [HN.out]
      clear hwf k0 k1
      exact bodyPost_ret (v := .agg #[.slice (some ⟨G, 0, none⟩) k k]) (by simp [results, Try.results79, go_sem, q0]) rfl ⟨_, _, rfl, hbf, by rw [hdl]; exact hof⟩
end Go.Proofs.Ytgahmfkmhaeniaa
namespace Go.Proofs.Ytgahmfkmhaeniaa
open Go Go.RowKit
def kinkL (f : List (List Int)) : List Int := (List.range f.length).map fun (x : Nat) => ((ap f x x : Nat) : Int)
theorem kinkL_length (f : List (List Int)) : (kinkL f).length = f.length := by simp [kinkL]
theorem kinkL_getD (f : List (List Int)) (k : Nat) (h : k < f.length) : (kinkL f).getD k 0 = ((ap f k k : Nat) : Int) := by simp [kinkL, h]
def KinkRes (f : List (List Int)) (zs : List Int) (code : Int) : Prop := (Rck f ∧ zs = kinkL f ∧ code = 0) ∨ (¬ Rck f ∧ zs = [] ∧ code = 1)
theorem KinkRes.ex (f : List (List Int)) : ∃ zs code, KinkRes f zs code ∧ zs.length ≤ 1048576 := by
  by_cases h : Rck f
  · exact ⟨_, _, .inl ⟨h, rfl, rfl⟩, by rw [kinkL_length]; have := h.tbl.2.1; omega⟩
  · exact ⟨_, _, .inr ⟨h, rfl, rfl⟩, by simp⟩
theorem kq_take (zs : List Int) (k : Nat) (y : Int) (h : k < zs.length) (hy : zs.getD k 0 = y) : ints (zs.take k) ++ [.int .i64 y] = ints (zs.take (k + 1)) := by
  rw [List.take_succ_eq_append_getElem h]
  have : zs[k] = y := by simpa [h] using hy
  simp [ints, this]
theorem kq_empty (w : World) (t : TypeId) : (w.alloc (.cells #[] t)).ownsRow w.heap.size t 1 (.slice (some ⟨w.heap.size, 0, none⟩) 0 0) 0 [] :=
  ⟨by simp, .inr ⟨w.heap.size, 0, #[], rfl, Nat.le_refl _, heap_alloc_new _ _, Nat.le_refl _, by unfold maxLen; omega, by simp, by simp⟩⟩
theorem kq_new {w : World} {v : Value} {t : TypeId} : ∀ j u, [v][j]? = some u → (w.alloc (.cells #[v] t)).cell? ((⟨w.heap.size, 0, none⟩ : Addr).add j) = some u := by
  intro j u hj
  match j, hj with
  | 0, hj => simp at hj; subst hj; simp [Addr.add, World.cell?_alloc_new]
theorem kqInfo : (Try.prog.info? 2).map (fun i => (i.zero, i.size, i.bytes)) = some (some (.int .i64 0), 1, 8) := by kernel_rfl
/-- The last lines of a row that was filled from the front. -/
theorem kq_fill (zs : List Int) (n k : Nat) (hz : zs.length = n) (hk : k < n) : ((zs.take k ++ List.replicate (n - k) 0).set k (zs.getD k 0)) = zs.take (k + 1) ++ List.replicate (n - (k + 1)) 0 := by
  apply List.ext_getElem
  · simp; omega
  · intro i h1 h2
    simp only [List.getElem_set, List.getElem_append, List.length_take, List.getElem_take, List.getElem_replicate]
    by_cases e : k = i
    · subst e
      rw [if_pos rfl, dif_pos (by omega)]
      simp [show k < zs.length by omega]
    · rw [if_neg e]
      by_cases e2 : i < k
      · rw [dif_pos (by omega), dif_pos (by omega)]
      · rw [dif_neg (by omega), dif_neg (by omega)]
end Go.Proofs.Ytgahmfkmhaeniaa
namespace Go.Proofs.Ytgahmfkmhaeniaa
open Go Go.RowKit
set_option maxHeartbeats 2000000
theorem zcsInfo2 : (Try.prog.info? 31).map (fun i => (i.zero, i.size, i.bytes)) = some (some (.slice none 0 0), 1, 24) := by kernel_rfl
theorem rowsC_take (f : List (List Int)) (h : Nat → List Int) (x : Nat) (hx : x < f.length) : (rowsL f h).take (x + 1) = (rowsL f h).take x ++ [h x] := by
  unfold rowsL
  rw [← List.map_take, ← List.map_take, List.take_range, List.take_range, Nat.min_eq_left (by omega), Nat.min_eq_left (by omega), List.range_succ, List.map_append]
  rfl

set_option maxRecDepth 100000 in
theorem cycleS_any (A B : Option Addr) (n c m d : Nat) (f : List (List Int)) (w : World) (hn : f.length = n) (ht : Tbl f) (hp : AllPrm f) (hr : Rd2 w A f) :
    Calls Try.prog 75 #[.agg #[.slice A n c, .slice B m d]] w fun e w' => ∃ A' c', e = .returned (.agg #[.slice A' n c']) ∧ Below w.heap.size w w' ∧ Obj2 31 2 w.heap.size w'.heap.size w' A' (dualL f) := by
  have HN := hide hn
  have HTB := hide ht
  have HPM := hide hp
  have HRD := hide hr
  have h1 : 1 ≤ n := by rw [← hn]; exact ht.1
  have h12 : n ≤ 12 := by rw [← hn]; exact ht.2.1
  have HB0 := hide (((Below.refl _ w).alloc (Nat.le_refl _) (Obj.cells #[Value.slice A n c, Value.slice B m d] 41)).alloc (by simp) (Obj.cells #[.slice none 0 0] 27))
  have HK0 := hide ((Blk.new w 41 [.slice A n c, .slice B m d]).alloc (Obj.cells #[.slice none 0 0] 27))
  have HR0 : Hid (Blk ((w.alloc (Obj.cells #[Value.slice A n c, Value.slice B m d] 41)).alloc (Obj.cells #[.slice none 0 0] 27)) (w.heap.size + 1) 27 [.slice none 0 0]) := hide (by have h := Blk.new (w.alloc (Obj.cells #[Value.slice A n c, Value.slice B m d] 41)) 27 [.slice none 0 0]; simpa using h)

  obtain ⟨i2, hj, hy0, hy1, hy2⟩ := info_parts zcsInfo2
  clear hn ht hp hr
  obtain ⟨b, o, hA, hbw, hc⟩ := rd_rows HTB.out HRD.out HN.out
  subst hA
  have HC := hide hc
  clear hc
  go_enter Try.func75, Try.ntmps75
  go_upto_region 1 with fail
  refine wp_gen fun w1 hw1 => ?_
  have HB1 : Hid (Below w.heap.size w w1) := hide (by rw [hw1]; exact HB0.out)
  have HK1 : Hid (Blk w1 w.heap.size 41 [.slice (some ⟨b, o, none⟩) n c, .slice B m d]) := hide (by rw [hw1]; exact HK0.out)
  have HR1 : Hid (Blk w1 (w.heap.size + 1) 27 [.slice none 0 0]) := hide (by rw [hw1]; exact HR0.out)
  clear hw1
  go_wp2_with fail
  refine wp_gen fun w2 hw2 => ?_
  obtain ⟨ob, hob⟩ : ∃ ob, w1.heap.size = ob := ⟨_, rfl⟩
  have hob1 : w.heap.size + 1 < ob := by rw [← hob]; exact HR1.out.lt
  have HB2 : Hid (Below w.heap.size w w2) := hide (by rw [hw2]; exact HB1.out.alloc HB1.out.size _)
  have HK2 : Hid (Blk w2 w.heap.size 41 [.slice (some ⟨b, o, none⟩) n c, .slice B m d]) := hide (by rw [hw2]; exact HK1.out.alloc _)
  have HR2 : Hid (Blk w2 (w.heap.size + 1) 27 [.slice none 0 0]) := hide (by rw [hw2]; exact HR1.out.alloc _)
  have HO2 : Hid (Blk w2 ob 27 [.slice none 0 0]) := hide (by rw [hw2, ← hob]; exact Blk.new _ _ _)
  have HT2 : Hid (One 31 2 27 (ob + 1) w2 ob 0 [.slice none 0 0] (.slice none 0 0) [] []) := hide (One.start w2 _ _ _ HO2.out (Nat.lt_succ_self _) HO2.out.lt)
  rw [hob]
  clear hw2 hob
  go_loopw [4] (fun i wr => ∃ (x : Nat) (v : Value) (vals : List Value), x ≤ n ∧ i = .int .i64 x ∧ Below w.heap.size w wr ∧ Blk wr w.heap.size 41 [.slice (some ⟨b, o, none⟩) n c, .slice B m d] ∧ Blk wr (w.heap.size + 1) 27 [.slice none 0 0] ∧ One 31 2 27 (ob + 1) wr ob 0 [.slice none 0 0] v ((dualL f).take x) vals) (fun i _ => n - (intOf i).toNat)
  case atStart => exact ⟨0, _, _, Nat.zero_le _, rfl, HB2.out, HK2.out, HR2.out, by simpa using HT2.out⟩
  case round =>
    obtain ⟨x, v, vals, hx, rfl, hbe, hkk, hrr, htw⟩ := hrel
    clear HB2 HK2 HR2 HT2 HO2
    have HB2 := hide hbe
    have HK2 := hide hkk
    have HR2 := hide hrr
    have HT2 := hide htw
    clear hbe hkk hrr htw
    have j0 := HK2.out.cell 0 _ rfl
    by_cases hlt : x < n
    · have hxz : (x : Int) < n := by omega
      obtain ⟨Bx, cx, r1, hrd⟩ := HC.out x hlt
      have R1 := hide r1
      have HRR := hide hrd
      have HRL : Hid ((f.getD x []).length = n) := hide (HTB.out.row_len HN.out hlt)
      have HIN : Hid (∀ y ∈ f.getD x [], 0 ≤ y ∧ y < (n : Int)) := hide (by have h := (HPM.out x (by have := HN.out; omega)).2.2.1; rw [HRL.out] at h; exact h)
      have HBL : Hid ((backTo (f.getD x []) n).length = n) := hide ((backTo_length _ _).trans HRL.out)
      have HTL : Hid (((dualL f).take x).length = x) := hide (by rw [List.length_take, dualL, rowsL_length]; have := HN.out; omega)
      replace r1 := (HB2.out.cell (p := ⟨b, o + x, none⟩) hbw).trans R1.out
      clear hrd
      go_wp2_with fail
      have k0 := HT2.out.box.cell 0 _ rfl
      have k2 := HT2.out.box.frozen 0
      go_region_law (first | (go_simp; go_at_call 112; go_must (refine calls_gen fun wc hwc => ?_; (first | have hbx := drew_below hwc | have hbx := eq_below hwc); replace HB2 := hide (HB2.out.trans (hbx.mono HB2.out.size)); replace HT2 := hide (HT2.out.later hbx); replace HR2 := hide (HR2.out.later hbx); replace HK2 := hide (HK2.out.later hbx); clear hwc hbx; refine (l01Back_any _ n _ (f.getD x []) _ HRL.out (by omega) (HRR.out.later HB2.out) HIN.out).mono ?_; rintro e wd ⟨A5, c5, rfl, hbd, hr5⟩; have HLW := hide HT2.out; replace HB2 := hide (HB2.out.trans (hbd.mono HB2.out.size)); replace HT2 := hide (HT2.out.later hbd); replace HR2 := hide (HR2.out.later hbd); replace HK2 := hide (HK2.out.later hbd); have HR5 := hide hr5; have HOW1 : Hid (wd.ownsRow (ob + 1) 31 1 v x vals) := hide (by have h := HT2.out.l.own; rw [HTL.out] at h; exact h); have hobl := HT2.out.box.lt; clear hbd hr5; have k0 := HT2.out.box.cell 0 _ rfl; have k2 := HT2.out.box.frozen 0; have j0 := HK2.out.cell 0 _ rfl; have r1 := (HB2.out.cell (p := ⟨b, o + x, none⟩) hbw).trans R1.out)) | (refine step_append_lies _ (by rfl) _ _ _ (by rfl) (ob + 1) 31 i2 _ 1 24 Try.underlying22 hj hy0 hy1 hy2 rfl (by omega) v x vals (by rfl) (HOW1.out.alloc _) ⟨wd.heap.size, 0, none⟩ 1 1 [.slice A5 n c5] (by rfl) (by rfl) kq_new (by simp [Value.oneCell']) (by omega) (by unfold maxLen; omega) (by omega) (by simp; omega) (wd.heap.size + 1) (by simp) ?_; intro gg cap w5 hown5 hgrow5 hat5 hlt5; have hbk := HT2.out.kept hgrow5; have k0 := hbk.cell 0 _ rfl; have k2 := hbk.frozen 0))
      all_goals
        have HT3 := hide (One.add (by decide) HLW.out HT2.out (Nat.le_refl _) HR5.out.obj HTL.out HBL.out hown5 hgrow5)
        have HB3 := hide (HT2.out.below hgrow5 (.slice (some ⟨gg, 0, none⟩) (x + 1) cap) HB2.out (by omega))
        have HK3 := hide ((HT2.out.frame hgrow5 (.slice (some ⟨gg, 0, none⟩) (x + 1) cap) (by omega) (by omega) HK2.out.lt).trans HK2.out)
        have HR3 := hide ((HT2.out.frame hgrow5 (.slice (some ⟨gg, 0, none⟩) (x + 1) cap) (by omega) (by omega) HR2.out.lt).trans HR2.out)
        clear hown5 hat5 hlt5 hgrow5 hbk k0 k2 j0 r1
        go_wp2_with fail
        go_roundw
        case rel =>
          refine ⟨x + 1, .slice (some ⟨gg, 0, none⟩) (x + 1) cap, vals ++ [.slice A5 n c5], by omega, by go_num, HB3.out, HK3.out, HR3.out, ?_⟩
          rw [dualL, rowsC_take f _ x (by have := HN.out; omega)]
          have h := HT3.out
          rw [← HN.out] at h
          rw [dualL, HN.out] at h
          rw [HN.out]
          exact h
        case measure => simp [intOf]; omega
    · have hxn : x = n := by omega
      subst hxn
      obtain ⟨A1, c1, hv1, ho1⟩ := HT2.out.l.shape
      have hll : (dualL f).length = x := by rw [dualL, rowsL_length]; exact HN.out
      rw [List.take_of_length_le (by omega)] at hv1 ho1
      rw [hll] at hv1
      subst hv1
      have HA1 := hide ho1
      clear ho1
      have k0 := HT2.out.box.cell 0 _ rfl
      have k2 := HR2.out.cell 0 _ rfl
      have k3 := HR2.out.frozen 0
      go_wp2_with fail
      refine bp_gen fun wf hwf => ?_
      obtain ⟨q0, hbf, hof⟩ := kend hwf HR2.out (by omega) HB2.out HA1.out (by omega) (by omega) (Nat.le_refl _)
      clear hwf k0 k2 k3
      exact bodyPost_ret (v := .agg #[.slice A1 x c1]) (by simp [results, Try.results75, go_sem, q0]) rfl ⟨_, _, rfl, hbf, hof⟩
end Go.Proofs.Ytgahmfkmhaeniaa
namespace Go.Proofs.Ytgahmfkmhaeniaa
open Go Go.RowKit
set_option maxHeartbeats 1000000

theorem mapI_any (A : Option Addr) (n c : Nat) (f : List (List Int)) (B : Option Addr) (m d : Nat) (s : List (List Int)) (r : Bool) (w : World) (hz : ZArg 1048576 w A n f B m s) (hr : r = true ↔ PMap f s) :
    Calls Try.prog 113 #[.agg #[.slice A n c, .slice B m d]] w fun e w' => e = .returned (.bool r) ∧ Below w.heap.size w w' := by
  have HZ := hide hz
  have HR := hide hr
  clear hz hr
  have HB0 := hide ((Below.refl _ w).alloc (Nat.le_refl _) (Obj.cells #[Value.slice A n c, Value.slice B m d] 41))
  have HK0 := hide (Blk.new w 41 [.slice A n c, .slice B m d])
  by_cases h1 : Tbl f
  · have H1 := hide h1
    clear h1
    by_cases h2 : Tbl s
    · have H2 := hide h2
      clear h2
      have HEQ : Hid (r = true ↔ n = m) := hide (by rw [HR.out, ← HZ.out.sz.fl, ← HZ.out.sz.sl]; exact ⟨fun h => h.2.2, fun h => ⟨H1.out, H2.out, h⟩⟩)
      have hfin : r = decide (n = m) := by
        have h := HEQ.out
        cases r <;> simp at h ⊢ <;> exact h
      by_cases hnm : n = m
      · subst hnm
        simp at hfin
        subst hfin
        go_enter Try.func113, Try.ntmps113
        go_wp2_with fail
        refine (isTable_any _ _ _ f true _ HZ.out.sz.fl (by have := HZ.out.sz.nb; omega) (fun i hi => by have := HZ.out.sz.nr i hi; omega) (HZ.out.fst.later HB0.out) (by simp [H1.out])).mono ?_
        rintro e w1 ⟨rfl, hq1⟩
        have HB1 := hide (HB0.out.trans (hq1.below _))
        have HK1 := hide (HK0.out.later (hq1.below _))
        have k0 := HK1.out.cell 0 _ rfl
        have k1 := HK1.out.cell 1 _ rfl
        clear hq1
        go_wp2_with fail
        clear k0 k1
        refine (isTable_any _ _ _ s true _ HZ.out.sz.sl (by have := HZ.out.sz.mb; omega) (fun i hi => by have := HZ.out.sz.mr i hi; omega) (HZ.out.snd.later HB1.out) (by simp [H2.out])).mono ?_
        rintro e w2 ⟨rfl, hq2⟩
        have HB2 := hide (HB1.out.trans (hq2.below _))
        have HK2 := hide (HK1.out.later (hq2.below _))
        have k0 := HK2.out.cell 0 _ rfl
        have k1 := HK2.out.cell 1 _ rfl
        have hnb := HZ.out.sz.nb
        clear hq2
        go_wp2_with fail
        go_ret
        exact ⟨rfl, HB2.out⟩
      · have hne : decide ((n : Int) = (m : Int)) = false := by simp; omega
        have hne2 : ((n : Int) == (m : Int)) = false := by simp; omega
        simp [hnm] at hfin
        subst hfin
        clear hnm
        go_enter Try.func113, Try.ntmps113
        go_wp2_with fail
        refine (isTable_any _ _ _ f true _ HZ.out.sz.fl (by have := HZ.out.sz.nb; omega) (fun i hi => by have := HZ.out.sz.nr i hi; omega) (HZ.out.fst.later HB0.out) (by simp [H1.out])).mono ?_
        rintro e w1 ⟨rfl, hq1⟩
        have HB1 := hide (HB0.out.trans (hq1.below _))
        have HK1 := hide (HK0.out.later (hq1.below _))
        have k0 := HK1.out.cell 0 _ rfl
        have k1 := HK1.out.cell 1 _ rfl
        clear hq1
        go_wp2_with fail
        clear k0 k1
        refine (isTable_any _ _ _ s true _ HZ.out.sz.sl (by have := HZ.out.sz.mb; omega) (fun i hi => by have := HZ.out.sz.mr i hi; omega) (HZ.out.snd.later HB1.out) (by simp [H2.out])).mono ?_
        rintro e w2 ⟨rfl, hq2⟩
        have HB2 := hide (HB1.out.trans (hq2.below _))
        have HK2 := hide (HK1.out.later (hq2.below _))
        have k0 := HK2.out.cell 0 _ rfl
        have k1 := HK2.out.cell 1 _ rfl
        have hnb := HZ.out.sz.nb
        have hmb := HZ.out.sz.mb
        clear hq2
        go_wp2_with fail
        go_ret
        exact ⟨rfl, HB2.out⟩
    · have hrt : r = false := by
        cases r
        · rfl
        · exact absurd (HR.out.1 rfl).2.1 h2
      have H2 := hide h2
      subst hrt
      clear h2
      go_enter Try.func113, Try.ntmps113
      go_wp2_with fail
      refine (isTable_any _ _ _ f true _ HZ.out.sz.fl (by have := HZ.out.sz.nb; omega) (fun i hi => by have := HZ.out.sz.nr i hi; omega) (HZ.out.fst.later HB0.out) (by simp [H1.out])).mono ?_
      rintro e w1 ⟨rfl, hq1⟩
      have HB1 := hide (HB0.out.trans (hq1.below _))
      have HK1 := hide (HK0.out.later (hq1.below _))
      have k0 := HK1.out.cell 0 _ rfl
      have k1 := HK1.out.cell 1 _ rfl
      clear hq1
      go_wp2_with fail
      refine (isTable_any _ _ _ s false _ HZ.out.sz.sl (by have := HZ.out.sz.mb; omega) (fun i hi => by have := HZ.out.sz.mr i hi; omega) (HZ.out.snd.later HB1.out) (by simp [H2.out])).mono ?_
      rintro e w2 ⟨rfl, hq2⟩
      have HB2 := hide (HB1.out.trans (hq2.below _))
      clear hq2
      go_wp2_with fail
      go_ret
      exact ⟨rfl, HB2.out⟩
  · have hrt : r = false := by
      cases r
      · rfl
      · exact absurd (HR.out.1 rfl).1 h1
    have H1 := hide h1
    subst hrt
    clear h1
    go_enter Try.func113, Try.ntmps113
    go_wp2_with fail
    refine (isTable_any _ _ _ f false _ HZ.out.sz.fl (by have := HZ.out.sz.nb; omega) (fun i hi => by have := HZ.out.sz.nr i hi; omega) (HZ.out.fst.later HB0.out) (by simp [H1.out])).mono ?_
    rintro e w1 ⟨rfl, hq1⟩
    have HB1 := hide (HB0.out.trans (hq1.below _))
    clear hq1
    go_wp2_with fail
    go_ret
    exact ⟨rfl, HB1.out⟩
end Go.Proofs.Ytgahmfkmhaeniaa
namespace Go.Proofs.Ytgahmfkmhaeniaa
open Go Go.RowKit
set_option maxHeartbeats 1000000

theorem cell_other {w : World} {b o k j : Nat} (h : b ≠ k) (v : Value) : (w.setCell ⟨k, j, none⟩ v).cell? ⟨b, o, none⟩ = w.cell? ⟨b, o, none⟩ :=
  World.cell?_of_block (a := ⟨b, o, none⟩) (Below.heap_setCell w ⟨k, j, none⟩ v b h)

theorem lead_any (A : Option Addr) (n c : Nat) (f : List (List Int)) (B : Option Addr) (m d : Nat) (s : List (List Int)) (x y : Nat) (w : World) (hz : ZArg 1048576 w A n f B m s) (hp : PMap f s) (hx : x < n) (hy : y < n) :
    Calls Try.prog 119 #[.agg #[.slice A n c, .slice B m d], .agg #[.int .i64 x, .int .i64 y]] w fun e w' => e = .returned (.agg #[.int .i64 (ap f x y : Nat), .int .i64 (ap s x y : Nat)]) ∧ Below w.heap.size w w' := by
  obtain ⟨b, o, rfl, hb, hc⟩ := hp.1.cells hz.fst hz.sz.fl
  have hm : s.length = n := by rw [← hp.2.2]; exact hz.sz.fl
  obtain ⟨b2, o2, rfl, hb2, hc2⟩ := hp.2.1.cells hz.snd hm
  obtain ⟨bx, ox, cx, h1, h2, h3⟩ := hc x hx
  obtain ⟨by', oy, cy, h4, h5, h6⟩ := hc2 x hx
  have h7 := h3 y hy
  have h8 := h6 y hy
  have hmn : m = n := by rw [← hz.sz.sl]; exact hm
  subst hmn
  have hnb := hz.sz.nb
  obtain ⟨u, hu⟩ : ∃ u, ap f x y = u := ⟨_, rfl⟩
  obtain ⟨v, hv⟩ : ∃ v, ap s x y = v := ⟨_, rfl⟩
  rw [hu] at h7 ⊢
  rw [hv] at h8 ⊢
  have H1 := hide h1
  have H4 := hide h4
  have H7 := hide h7
  have H8 := hide h8
  clear h1 h3 h4 h6 h7 h8 hc hc2 hu hv hm hz hp
  go_enter Try.func119, Try.ntmps119
  go_wp2_with fail
  refine wp_gen fun w1 hw1 => ?_
  have hbb : Below w.heap.size w w1 := by rw [hw1]; exact (((Below.refl _ _).alloc (Nat.le_refl _) _).alloc (by simp) _).alloc (by simp; omega) _
  have HBB := hide hbb
  have hk0 : Blk w1 w.heap.size 41 [.slice (some ⟨b, o, none⟩) m c, .slice (some ⟨b2, o2, none⟩) m d] := by rw [hw1]; exact ((Blk.new _ _ _).alloc _).alloc _
  have hk1 : Blk w1 (w.heap.size + 1) 104 [.int .i64 x, .int .i64 y] := by rw [hw1]; have h := (Blk.new (w.alloc (Obj.cells #[.slice (some ⟨b, o, none⟩) m c, .slice (some ⟨b2, o2, none⟩) m d] 41)) 104 [.int .i64 x, .int .i64 y]).alloc (Obj.cells #[Value.int IntKind.i64 0, Value.int IntKind.i64 0] 104); simpa using h
  have hk2 : Blk w1 (w.heap.size + 1 + 1) 104 [.int .i64 0, .int .i64 0] := by rw [hw1]; have h := (Blk.new ((w.alloc (Obj.cells #[.slice (some ⟨b, o, none⟩) m c, .slice (some ⟨b2, o2, none⟩) m d] 41)).alloc (Obj.cells #[Value.int IntKind.i64 x, Value.int IntKind.i64 y] 104)) 104 [.int .i64 0, .int .i64 0]); simpa using h
  have HK2 := hide hk2
  have a0 := hk0.cell 0 _ rfl
  have a1 := hk0.cell 1 _ rfl
  have a2 := hk1.cell 0 _ rfl
  have a3 := hk1.cell 1 _ rfl
  have a4 : w1.cell? ⟨b, o + x, none⟩ = some (.slice (some ⟨bx, ox, none⟩) m cx) := (hbb.cell (p := ⟨b, o + x, none⟩) hb).trans H1.out
  have a5 : w1.cell? ⟨b2, o2 + x, none⟩ = some (.slice (some ⟨by', oy, none⟩) m cy) := (hbb.cell (p := ⟨b2, o2 + x, none⟩) hb2).trans H4.out
  have a6 : w1.cell? ⟨bx, ox + y, none⟩ = some (.int .i64 u) := (hbb.cell (p := ⟨bx, ox + y, none⟩) h2).trans H7.out
  have a7 : w1.cell? ⟨by', oy + y, none⟩ = some (.int .i64 v) := (hbb.cell (p := ⟨by', oy + y, none⟩) h5).trans H8.out
  have a8 := hk2.cell 0 _ rfl
  have a9 := hk2.cell 1 _ rfl
  have b0 := hk2.frozen 0
  have b1 := hk2.frozen 1
  have hxz : (x : Int) < m := by omega
  have hyz : (y : Int) < m := by omega
  have hxz0 : (0 : Int) ≤ x := by omega
  have hyz0 : (0 : Int) ≤ y := by omega
  have k1 : w.heap.size + 1 + 1 ≠ w.heap.size := by omega
  have k2 : w.heap.size + 1 + 1 ≠ b := by omega
  have k3 : w.heap.size + 1 + 1 ≠ b2 := by omega
  have k4 : w.heap.size + 1 + 1 ≠ bx := by omega
  have k5 : w.heap.size + 1 + 1 ≠ by' := by omega
  have j1 := k1.symm
  have j2 := k2.symm
  have j3 := k3.symm
  have j4 := k4.symm
  have j5 := k5.symm
  clear hw1 hk0 hk1 hk2 hbb hb hb2 h2 h5
  go_region_held3 (fun w' => w'.cell? ⟨w.heap.size, 0, none⟩ = some (.slice (some ⟨b, o, none⟩) m c) ∧ w'.cell? ⟨w.heap.size, 1, none⟩ = some (.slice (some ⟨b2, o2, none⟩) m d) ∧ w'.cell? ⟨w.heap.size + 1, 0, none⟩ = some (.int .i64 x) ∧ w'.cell? ⟨w.heap.size + 1, 1, none⟩ = some (.int .i64 y) ∧ w'.cell? ⟨b, o + x, none⟩ = some (.slice (some ⟨bx, ox, none⟩) m cx) ∧ w'.cell? ⟨b2, o2 + x, none⟩ = some (.slice (some ⟨by', oy, none⟩) m cy) ∧ w'.cell? ⟨bx, ox + y, none⟩ = some (.int .i64 u) ∧ w'.cell? ⟨by', oy + y, none⟩ = some (.int .i64 v)) (first | exact ⟨a0, a1, a2, a3, a4, a5, a6, a7⟩ | go_keep) (first | fail)
  clear k1 k2 k3 k4 k5 j1 j2 j3 j4 j5 a0 a1 a2 a3 a4 a5 a6 a7 a8 a9 b0 b1
  go_wp2_with fail
  refine bp_gen fun wf hwf => ?_
  have HRF : Blk wf (w.heap.size + 1 + 1) 104 [.int .i64 u, .int .i64 v] := by rw [hwf]; exact ((HK2.out.set 0 _).set 1 _).drew
  have HBF : Below w.heap.size w wf := by rw [hwf]; exact ((HBB.out.setCell (by show w.heap.size ≤ w.heap.size + 1 + 1; omega) _).setCell (by show w.heap.size ≤ w.heap.size + 1 + 1; omega) _).drew
  have q0 := HRF.cell 0 _ rfl
  have q1 := HRF.cell 1 _ rfl
  clear hwf
  exact bodyPost_ret (v := .agg #[.int .i64 u, .int .i64 v]) (by simp [results, Try.results119, go_sem, q0, q1]) rfl ⟨rfl, HBF⟩
end Go.Proofs.Ytgahmfkmhaeniaa
namespace Go.Proofs.Ytgahmfkmhaeniaa
open Go Go.RowKit
set_option maxHeartbeats 1000000

theorem size_any (A : Option Addr) (n c : Nat) (B : Option Addr) (m d : Nat) (w : World) (_hn : n ≤ 1048576) :
    Calls Try.prog 118 #[.agg #[.slice A n c, .slice B m d]] w fun e w' => e = .returned (.int .i64 n) ∧ Below w.heap.size w w' := by
  have HB0 := hide ((Below.refl _ w).alloc (Nat.le_refl _) (Obj.cells #[Value.slice A n c, Value.slice B m d] 41))
  go_enter Try.func118, Try.ntmps118
  go_wp2_with fail
  go_ret
  exact ⟨rfl, HB0.out⟩
end Go.Proofs.Ytgahmfkmhaeniaa
namespace Go.Proofs.Ytgahmfkmhaeniaa
open Go Go.RowKit

/-- The cells that are read at two elements of both tables of a pair map. -/
theorem ZArg.reads {K : Nat} {w : World} {A : Option Addr} {n : Nat} {f : List (List Int)} {B : Option Addr} {m : Nat} {s : List (List Int)} (hz : ZArg K w A n f B m s) (hp : PMap f s) {x y : Nat} (hx : x < n) (hy : y < n) :
    ∃ b o b2 o2 bx ox cx by' oy cy, A = some ⟨b, o, none⟩ ∧ B = some ⟨b2, o2, none⟩ ∧ w.cell? ⟨b, o + x, none⟩ = some (.slice (some ⟨bx, ox, none⟩) n cx) ∧ w.cell? ⟨b2, o2 + x, none⟩ = some (.slice (some ⟨by', oy, none⟩) n cy) ∧
      w.cell? ⟨bx, ox + y, none⟩ = some (.int .i64 (ap f x y : Nat)) ∧ w.cell? ⟨by', oy + y, none⟩ = some (.int .i64 (ap s x y : Nat)) ∧ b < w.heap.size ∧ b2 < w.heap.size ∧ bx < w.heap.size ∧ by' < w.heap.size := by
  obtain ⟨b, o, rfl, hb, hc⟩ := hp.1.cells hz.fst hz.sz.fl
  have hm : s.length = n := by rw [← hp.2.2]; exact hz.sz.fl
  obtain ⟨b2, o2, rfl, hb2, hc2⟩ := hp.2.1.cells hz.snd hm
  obtain ⟨bx, ox, cx, h1, h2, h3⟩ := hc x hx
  obtain ⟨by', oy, cy, h4, h5, h6⟩ := hc2 x hx
  exact ⟨b, o, b2, o2, bx, ox, cx, by', oy, cy, rfl, rfl, h1, h4, h3 y hy, h6 y hy, hb, hb2, h2, h5⟩
theorem ZArg.same {K : Nat} {w : World} {A : Option Addr} {n : Nat} {f : List (List Int)} {B : Option Addr} {m : Nat} {s : List (List Int)} (hz : ZArg K w A n f B m s) (hp : PMap f s) : m = n := by
  rw [← hz.sz.sl, ← hp.2.2]; exact hz.sz.fl
theorem ZArg.small {K : Nat} {w : World} {A : Option Addr} {n : Nat} {f : List (List Int)} {B : Option Addr} {m : Nat} {s : List (List Int)} (hz : ZArg K w A n f B m s) (hp : PMap f s) : 1 ≤ n ∧ n ≤ 12 := by
  have h1 := hp.1.1
  have h2 := hp.1.2.1
  have h3 := hz.sz.fl
  omega
theorem PMap.lt1 {f s : List (List Int)} (hp : PMap f s) {n x y : Nat} (hn : f.length = n) (hx : x < n) (hy : y < n) : ap f x y < n := hp.1.ap_lt hn hx hy
theorem PMap.lt2 {f s : List (List Int)} (hp : PMap f s) {n x y : Nat} (hn : f.length = n) (hx : x < n) (hy : y < n) : ap s x y < n := hp.2.1.ap_lt (by rw [← hp.2.2]; exact hn) hx hy
end Go.Proofs.Ytgahmfkmhaeniaa
namespace Go.Proofs.Ytgahmfkmhaeniaa
open Go Go.RowKit
set_option maxHeartbeats 1000000

theorem paInfo : (Try.prog.info? 104).map (fun i => (i.zero, i.size, i.bytes)) = some (some (.agg #[.int .i64 0, .int .i64 0]), 2, 16) := by kernel_rfl

/-- The cells of the first k pairs. -/
def pcells (n k : Nat) : List Value := (List.range k).flatMap fun i => [.int .i64 ((i / n : Nat) : Int), .int .i64 ((i % n : Nat) : Int)]
theorem pcells_succ (n k : Nat) : pcells n (k + 1) = pcells n k ++ [.int .i64 ((k / n : Nat) : Int), .int .i64 ((k % n : Nat) : Int)] := by
  unfold pcells
  rw [List.range_succ, List.flatMap_append]
  simp
theorem pcells_length (n k : Nat) : (pcells n k).length = k * 2 := by
  induction k with
  | zero => rfl
  | succ k ih => rw [pcells_succ, List.length_append, ih]; simp; omega
theorem pcells_at (n k i : Nat) (h : i < k) : (pcells n k)[i * 2]? = some (.int .i64 ((i / n : Nat) : Int)) ∧ (pcells n k)[i * 2 + 1]? = some (.int .i64 ((i % n : Nat) : Int)) := by
  induction k with
  | zero => omega
  | succ k ih =>
    have hl := pcells_length n k
    rw [pcells_succ]
    by_cases e : i < k
    · rw [List.getElem?_append_left (by omega), List.getElem?_append_left (by omega)]
      exact ih e
    · have e2 : i = k := by omega
      subst e2
      rw [List.getElem?_append_right (by omega), List.getElem?_append_right (by omega), hl]
      simp
/-- Block g holds all pairs of n elements. -/
def PairsAt (w : World) (g n : Nat) : Prop := g < w.heap.size ∧ ∀ k, k < n * n → w.cell? ⟨g, k * 2, none⟩ = some (.int .i64 ((k / n : Nat) : Int)) ∧ w.cell? ⟨g, k * 2 + 1, none⟩ = some (.int .i64 ((k % n : Nat) : Int))
theorem PairsAt.later {w w' : World} {g n : Nat} (h : PairsAt w g n) (hb : Below w.heap.size w w') : PairsAt w' g n :=
  ⟨Nat.lt_of_lt_of_le h.1 hb.size, fun k hk => ⟨(hb.cell (p := ⟨g, k * 2, none⟩) h.1).trans (h.2 k hk).1, (hb.cell (p := ⟨g, k * 2 + 1, none⟩) h.1).trans (h.2 k hk).2⟩⟩
theorem PairsAt.touch {w w' : World} {g n lo hi : Nat} (h : PairsAt w g n) (ht : Touch lo hi w w') (hs : g < lo ∨ hi ≤ g) : PairsAt w' g n :=
  ⟨Nat.lt_of_lt_of_le h.1 ht.size, fun k hk => ⟨(World.cell?_of_block (a := ⟨g, k * 2, none⟩) (ht.block g h.1 hs)).trans (h.2 k hk).1, (World.cell?_of_block (a := ⟨g, k * 2 + 1, none⟩) (ht.block g h.1 hs)).trans (h.2 k hk).2⟩⟩
theorem pairs_of_owns {w : World} {B g n N : Nat} {t : TypeId} (hN : n * n = N) (h : w.ownsRow B t 2 (.slice (some ⟨g, 0, none⟩) N N) N (pcells n N)) : PairsAt w g n := by
  obtain ⟨h1, h2⟩ := h
  rcases h2 with ⟨hv, _⟩ | ⟨g', cap, cur, hv, hg, hh, a1, a2, a3, a4⟩
  · cases hv
  · cases hv
    refine ⟨(Array.getElem?_eq_some_iff.1 hh).1, fun k hk => ?_⟩
    have hp := pcells_at n N k (by omega)
    rw [← a4, List.getElem?_take, List.getElem?_take, if_pos (by omega), if_pos (by omega)] at hp
    rw [cell_of_row w g (k * 2) cur t (0, 0) hh, cell_of_row w g (k * 2 + 1) cur t (0, 0) hh]
    simpa using hp

set_option maxRecDepth 100000 in
theorem pairsOf_any (n N : Nat) (w : World) (h1 : 1 ≤ n) (h12 : n ≤ 12) (hN : n * n = N) :
    Calls Try.prog 117 #[.int .i64 n] w fun e w' => ∃ g, e = .returned (.slice (some ⟨g, 0, none⟩) N N) ∧ Below w.heap.size w w' ∧ w.heap.size ≤ g ∧ PairsAt w' g n := by
  obtain ⟨i0, hi, hz0, hz1, hz2⟩ := info_parts paInfo
  have hsq : (n : Int) * (n : Int) = (N : Int) := by rw [← hN]; simp
  have hN144 : N ≤ 144 := by rw [← hN]; exact sq_le n h12
  have HN := hide hN
  have hby : i0.bytes = 16 := hz2
  clear hN
  go_enter Try.func117, Try.ntmps117
  go_wp2_with (refine wpList_make_own _ rfl _ _ 107 rfl w.heap.size 104 i0 (.agg #[.int .i64 0, .int .i64 0]) 2 Try.underlying107 hi hz0 hz1 .i64 .i64 (N : Int) N rfl rfl rfl (by rw [hby]; omega) (by unfold maxLen; omega) (Nat.le_refl _) ?_; intro w1 hown1 hgrow1)
  have HO1 := hide hown1
  have HB1 : Hid (Below w.heap.size w w1) := hide ((Below.refl _ w).grown hgrow1 (Nat.le_refl _) (fun g hg => by cases hg))
  clear hown1 hgrow1
  go_wp2_with fail
  have hwl : w.heap.size < w1.heap.size := by have h := HO1.out.2; rcases h with ⟨h, _⟩ | ⟨g, cap, cur, hv, _, hh, _⟩; · cases h
                                              · cases hv; exact (Array.getElem?_eq_some_iff.1 hh).1
  go_loopw [3, 11] (fun v i wr => ∃ x q : Nat, x ≤ n ∧ q = x * n ∧ i = .int .i64 x ∧ v = .slice (some ⟨w.heap.size, 0, none⟩) q N ∧ Below w.heap.size w wr ∧ wr.ownsRow w.heap.size 104 2 (.slice (some ⟨w.heap.size, 0, none⟩) q N) q (pcells n q)) (fun _ i _ => n - (intOf i).toNat)
  case atStart => exact ⟨0, 0, Nat.zero_le _, by simp, rfl, rfl, HB1.out, HO1.out⟩
  case round =>
    obtain ⟨x, q, hx, hq, rfl, rfl, hbe, hown⟩ := hrel
    have HQ := hide hq
    have HB := hide hbe
    have HO := hide hown
    clear hq hbe hown
    by_cases hlt : x < n
    · have hxz : (x : Int) < n := by omega
      go_wp2_with fail
      obtain ⟨wo, rfl⟩ : ∃ wo : World, wo = wr := ⟨_, rfl⟩
      go_loopw [3, 15] (fun v i wi => ∃ y p : Nat, y ≤ n ∧ p = x * n + y ∧ i = .int .i64 y ∧ v = .slice (some ⟨w.heap.size, 0, none⟩) p N ∧ Below w.heap.size w wi ∧ wi.ownsRow w.heap.size 104 2 (.slice (some ⟨w.heap.size, 0, none⟩) p N) p (pcells n p)) (fun _ i _ => n - (intOf i).toNat)
      case atStart => exact ⟨0, q, Nat.zero_le _, by rw [HQ.out]; rfl, rfl, rfl, HB.out, HO.out⟩
      case round =>
        obtain ⟨y, p, hy, hp, rfl, rfl, hbi, hoi⟩ := hrel
        have HP := hide hp
        have HBI := hide hbi
        have HOI := hide hoi
        clear hp hbi hoi
        by_cases hlty : y < n
        · have hyz : (y : Int) < n := by omega
          have hpN : p + 1 ≤ N := by have h := pair_lt n x y hlt hlty; rw [HN.out, ← HP.out] at h; omega
          go_wp2_with (at_builtin; refine wpList_append_fits _ rfl _ _ 107 rfl w.heap.size 104 i0 2 Try.underlying107 hi hz1 w.heap.size p N (pcells n p) rfl (HOI.out.alloc _) ⟨wr.heap.size, 0, none⟩ 1 1 [.int .i64 x, .int .i64 y] rfl rfl (World.news_of_block (cs := #[.int .i64 x, .int .i64 y]) (t := 104) (fr := (0, 0)) (heap_alloc_new wr _)) (by simp [Value.oneCell']) hpN ?_)
          intro w3 hown3 hgrow3
          have hb3 : Below w.heap.size w w3 := (HBI.out.alloc HBI.out.size _).grown hgrow3 (by have := HBI.out.size; simp; omega) (fun g hg => by cases hg; exact Nat.le_refl _)
          have HB3 := hide hb3
          have HO3 := hide hown3
          clear hown3 hgrow3 hb3
          go_wp2_with fail
          go_roundw
          case rel =>
            refine ⟨y + 1, p + 1, by omega, by rw [HP.out]; omega, by go_num, rfl, HB3.out, ?_⟩
            have h := HO3.out
            rw [pcells_succ, HP.out, pair_div n x y hlty, pair_mod n x y hlty, ← HP.out]
            exact h
          case measure => simp [intOf]; omega
        · have hyn : y = n := by omega
          subst hyn
          go_wp2_with fail
          go_roundw
          case rel => exact ⟨x + 1, p, by omega, by rw [HP.out, Nat.add_mul]; omega, by go_num, rfl, HBI.out, HOI.out⟩
          case measure => simp [intOf]; omega
    · have hxn : x = n := by omega
      subst hxn
      have hqn : q = N := by rw [HQ.out, HN.out]
      subst hqn
      go_wp2_with fail
      go_ret
      exact ⟨w.heap.size, rfl, HB.out, Nat.le_refl _, pairs_of_owns HN.out HO.out⟩
end Go.Proofs.Ytgahmfkmhaeniaa
namespace Go.Proofs.Ytgahmfkmhaeniaa
open Go Go.RowKit

theorem al_below {a b : World} {o : Obj} (h : a = b.alloc o) : Below b.heap.size b a := h ▸ (Below.refl _ _).alloc (Nat.le_refl _) _
theorem al_drew_below {a b : World} {o : Obj} (h : a = (b.alloc o).drew) : Below b.heap.size b a := h ▸ ((Below.refl _ _).alloc (Nat.le_refl _) _).drew
theorem ex_gen {Q : Exit → Act → World → Prop} {e : Exit} {a : Act} {w : World} (h : ∀ wf, wf = w → Q e a wf) : Q e a w := h w rfl

/-- The boxes that a call has made, the last one being top; the list of pairs; and nothing below is changed. -/
structure FK (w wx : World) (g n top : Nat) (bs : List (Nat × TypeId × List Value)) : Prop where
  below : Below w.heap.size w wx
  pairs : PairsAt wx g n
  gtop : g ≤ top
  blks : ∀ q, q ∈ bs → Blk wx q.1 q.2.1 q.2.2 ∧ q.1 ≤ top
  low : w.heap.size ≤ top
  sz : top < wx.heap.size

section
variable {w wx wy : World} {g n top : Nat} {bs : List (Nat × TypeId × List Value)}
theorem FK.start {b1 b2 b3 : Nat} {t1 t2 t3 : TypeId} {c1 c2 c3 : List Value} (hb : Below w.heap.size w wx) (hp : PairsAt wx g n) (h1 : Blk wx b1 t1 c1) (h2 : Blk wx b2 t2 c2) (h3 : Blk wx b3 t3 c3) (hw : w.heap.size < wx.heap.size := by assumption) : FK w wx g n (wx.heap.size - 1) [(b3, t3, c3), (b2, t2, c2), (b1, t1, c1)] :=
  ⟨hb, hp, by have := hp.1; omega, fun q hq => by
    have l1 := h1.lt
    have l2 := h2.lt
    have l3 := h3.lt
    simp at hq
    rcases hq with rfl | rfl | rfl
    · exact ⟨h3, by show b3 ≤ _; omega⟩
    · exact ⟨h2, by show b2 ≤ _; omega⟩
    · exact ⟨h1, by show b1 ≤ _; omega⟩, by omega, by omega⟩
theorem FK.later (h : FK w wx g n top bs) (hb : Below wx.heap.size wx wy) : FK w wy g n top bs :=
  ⟨h.below.trans (hb.mono h.below.size), h.pairs.later hb, h.gtop, fun q hq => ⟨(h.blks q hq).1.later hb, (h.blks q hq).2⟩, h.low, Nat.lt_of_lt_of_le h.sz hb.size⟩
theorem FK.set (h : FK w wx g n top bs) {p : Addr} (hp : top < p.block) (v : Value) : FK w (wx.setCell p v) g n top bs :=
  ⟨h.below.setCell (Nat.le_trans h.low (Nat.le_of_lt hp)) v, h.pairs.touch (lo := p.block) (hi := p.block + 1) ⟨rfl, rfl, rfl, by simp [World.setCell], fun k _ hne => Below.heap_setCell wx p v k (by omega)⟩ (.inl (Nat.lt_of_le_of_lt h.gtop hp)), h.gtop, fun q hq => ⟨(h.blks q hq).1.far (by have := (h.blks q hq).2; omega) v, (h.blks q hq).2⟩, h.low, by have := h.sz; simp [World.setCell]; omega⟩
theorem FK.push (h : FK w wx g n top bs) {L : Nat} {t : TypeId} {cs : List Value} (hb : Blk wx L t cs) (hL : top < L) : FK w wx g n L ((L, t, cs) :: bs) :=
  ⟨h.below, h.pairs, by have := h.gtop; omega, fun q hq => by
    rcases List.mem_cons.1 hq with rfl | hq
    · exact ⟨hb, Nat.le_refl _⟩
    · exact ⟨(h.blks q hq).1, by have := (h.blks q hq).2; omega⟩, by have := h.low; omega, hb.lt⟩
theorem FK.new (h : FK w wx g n top bs) (t : TypeId) (cs : List Value) : FK w (wx.alloc (.cells cs.toArray t)) g n wx.heap.size ((wx.heap.size, t, cs) :: bs) :=
  (h.later ((Below.refl _ _).alloc (Nat.le_refl _) _)).push (Blk.new _ _ _) h.sz
theorem FK.blk (h : FK w wx g n top bs) {b : Nat} {t : TypeId} {cs : List Value} (hm : (b, t, cs) ∈ bs) : Blk wx b t cs := (h.blks _ hm).1
theorem FK.top' (h : FK w wx g n top bs) {b : Nat} {t : TypeId} {cs : List Value} (hm : (b, t, cs) ∈ bs) : b ≤ top := (h.blks _ hm).2
end
end Go.Proofs.Ytgahmfkmhaeniaa
namespace Go.Proofs.Ytgahmfkmhaeniaa
open Go Go.RowKit
set_option maxHeartbeats 1000000

/-- Three elements as a value. -/
def tv (t : Nat × Nat × Nat) : Value := .agg #[.int .i64 t.1, .int .i64 t.2.1, .int .i64 t.2.2]

set_option maxRecDepth 100000 in
theorem leadAt0_any (A : Option Addr) (n c : Nat) (f : List (List Int)) (B : Option Addr) (m d : Nat) (s : List (List Int)) (x y z : Nat) (w : World) (hz : ZArg 1048576 w A n f B m s) (hp : PMap f s) (hx : x < n) (hy : y < n) (_hz' : z < n) :
    Calls Try.prog 139 #[.agg #[.slice A n c, .slice B m d], .int .i64 0, tv (x, y, z)] w fun e w' => e = .returned (tv (at0 f s (x, y, z))) ∧ Below w.heap.size w w' := by
  have HZ := hide hz
  have HP := hide hp
  have h12 := hz.sz.nb
  unfold at0 tv
  show Calls Try.prog 139 #[.agg #[.slice A n c, .slice B m d], .int .i64 0, .agg #[.int .i64 x, .int .i64 y, .int .i64 z]] w fun e w' => e = .returned (.agg #[.int .i64 (ap f x y : Nat), .int .i64 (ap s x y : Nat), .int .i64 (z : Nat)]) ∧ Below w.heap.size w w'
  obtain ⟨u, hu⟩ : ∃ u, ap f x y = u := ⟨_, rfl⟩
  obtain ⟨v, hv⟩ : ∃ v, ap s x y = v := ⟨_, rfl⟩
  rw [hu, hv]
  have HU := hide hu
  have HV := hide hv
  clear hz hp hu hv
  have hwp1 : IntKind.i64.wrap 1 = 1 := IntWalk.i64_in _ (by omega)
  have hwp2 : IntKind.i64.wrap 2 = 2 := IntWalk.i64_in _ (by omega)
  go_enter Try.func139, Try.ntmps139
  go_wp2_with fail
  refine wp_gen fun w1 hw1 => ?_
  have hb1 : Below w.heap.size w w1 := by rw [hw1]; exact (((Below.refl _ _).alloc (Nat.le_refl _) _).alloc (by simp) _).alloc (by simp; omega) _
  have HS : Hid (Blk w1 w.heap.size 41 [.slice A n c, .slice B m d]) := hide (by rw [hw1]; exact ((Blk.new _ _ _).alloc _).alloc _)
  have HL : Hid (Blk w1 (w.heap.size + 1) 100 [.int .i64 x, .int .i64 y, .int .i64 z]) := hide (by rw [hw1]; have h := (Blk.new (w.alloc (Obj.cells #[Value.slice A n c, Value.slice B m d] 41)) 100 [.int .i64 x, .int .i64 y, .int .i64 z]).alloc (Obj.cells #[Value.int IntKind.i64 0, Value.int IntKind.i64 0, Value.int IntKind.i64 0] 100); simpa using h)
  have HO : Hid (Blk w1 (w.heap.size + 1 + 1) 100 [.int .i64 0, .int .i64 0, .int .i64 0]) := hide (by rw [hw1]; have h := Blk.new ((w.alloc (Obj.cells #[Value.slice A n c, Value.slice B m d] 41)).alloc (Obj.cells #[Value.int IntKind.i64 x, Value.int IntKind.i64 y, Value.int IntKind.i64 z] 100)) 100 [.int .i64 0, .int .i64 0, .int .i64 0]; simpa using h)
  have HBc := hide hb1
  replace HZ := hide (HZ.out.later hb1)
  have Z1 : Hid (w1.heap.size = w.heap.size + 1 + 1 + 1) := hide (by rw [hw1]; simp)
  have j1 : w1.heap.size ≠ w.heap.size := by have := Z1.out; omega
  have j2 : w1.heap.size ≠ w.heap.size + 1 := by have := Z1.out; omega
  have j3 := j1.symm
  have j4 := j2.symm
  have hz1 : w.heap.size + 1 < w1.heap.size := by have := Z1.out; omega
  clear hw1 hb1
  have k0 := HS.out.cell 0 _ rfl
  have k1 := HS.out.cell 1 _ rfl
  have k2 := HL.out.cell 0 _ rfl
  have k3 := HL.out.cell 1 _ rfl
  have k4 := HL.out.cell 2 _ rfl
  go_region_held3 (fun w' => w'.cell? ⟨w.heap.size, 0, none⟩ = some (.slice A n c) ∧ w'.cell? ⟨w.heap.size, 1, none⟩ = some (.slice B m d) ∧ w'.cell? ⟨w.heap.size + 1, 0, none⟩ = some (.int .i64 x) ∧ w'.cell? ⟨w.heap.size + 1, 1, none⟩ = some (.int .i64 y) ∧ w'.cell? ⟨w.heap.size + 1, 2, none⟩ = some (.int .i64 z)) (first | exact ⟨k0, k1, k2, k3, k4⟩ | go_keep) (first | (go_at_call 119; go_must (refine calls_gen fun wc hwc => ?_; (first | (have hbx := al_drew_below hwc; have HPB : Hid (Blk wc w1.heap.size 104 [.int .i64 0, .int .i64 0]) := hide (by rw [hwc]; exact Blk.new _ _ _)) | (have hbx := al_below hwc; have HPB : Hid (Blk wc w1.heap.size 104 [.int .i64 0, .int .i64 0]) := hide (by rw [hwc]; exact Blk.new _ _ _)) | (have hbx := drew_below hwc; have HPB : Hid True := hide trivial) | (have hbx := eq_below hwc; have HPB : Hid True := hide trivial)); have hbx0 := hide hbx.size; replace HBc := hide (HBc.out.trans (hbx.mono HBc.out.size)); replace HZ := hide (HZ.out.later hbx); replace HS := hide (HS.out.later hbx); replace HL := hide (HL.out.later hbx); replace HO := hide (HO.out.later hbx); clear hwc hbx; refine (lead_any _ _ _ f _ _ _ s x y _ HZ.out HP.out hx hy).mono ?_; rintro e wd ⟨rfl, hbd⟩; replace HBc := hide (HBc.out.trans (hbd.mono HBc.out.size)); replace HZ := hide (HZ.out.later hbd); replace HS := hide (HS.out.later hbd); replace HL := hide (HL.out.later hbd); replace HO := hide (HO.out.later hbd); (first | (replace HPB := hide (HPB.out.later hbd); have k5 := HPB.out.cell 0 _ rfl; have k6 := HPB.out.cell 1 _ rfl; have k7 := HPB.out.frozen 0; have k8 := HPB.out.frozen 1) | skip); have hsd := hbd.size; have hsx := hbx0.out; have g1 : wd.heap.size ≠ w.heap.size := (by omega); have g2 : wd.heap.size ≠ w.heap.size + 1 := (by omega); have g3 := g1.symm; have g4 := g2.symm; clear hsd hsx; clear hbd; have k0 := HS.out.cell 0 _ rfl; have k1 := HS.out.cell 1 _ rfl; have k2 := HL.out.cell 0 _ rfl; have k3 := HL.out.cell 1 _ rfl; have k4 := HL.out.cell 2 _ rfl; rw [HU.out, HV.out])))

  · clear k0 k1 k2 k3 k4
    refine ex_gen (Q := Exit.then _ _) fun w2 hw2 => ?_
    have hb2 : Below wd.heap.size wd w2 := by rw [hw2]; exact (Below.refl _ _).alloc (Nat.le_refl _) _
    have hsz := Z1.out
    have hsw : w.heap.size + 1 + 1 < wd.heap.size := by have := HO.out.lt; omega
    have HL2 : Hid (Blk w2 (w.heap.size + 1) 100 [.int .i64 x, .int .i64 y, .int .i64 z]) := hide (HL.out.later hb2)
    have HO2 : Hid (Blk w2 (w.heap.size + 1 + 1) 100 [.int .i64 0, .int .i64 0, .int .i64 0]) := hide (HO.out.later hb2)
    have HP2 : Hid (Blk w2 (wd.heap.size) 104 [.int .i64 u, .int .i64 v]) := hide (by rw [hw2]; exact Blk.new _ _ _)
    have HB2 : Hid (Below w.heap.size w w2) := hide (by rw [hw2]; exact HBc.out.alloc HBc.out.size _)
    clear hw2
    obtain ⟨P, hPe⟩ : ∃ P, wd.heap.size = P := ⟨_, rfl⟩
    rw [hPe] at HP2 hsw ⊢
    have l0 := HL2.out.cell 0 _ rfl
    have l1 := HL2.out.cell 1 _ rfl
    have l2 := HL2.out.cell 2 _ rfl
    have l3 := HL2.out.frozen 0
    have l4 := HL2.out.frozen 1
    have l5 := HL2.out.frozen 2
    have p0 := HP2.out.cell 0 _ rfl
    have p1 := HP2.out.cell 1 _ rfl
    have o0 := HO2.out.cell 0 _ rfl
    have o1 := HO2.out.cell 1 _ rfl
    have o2 := HO2.out.cell 2 _ rfl
    have o3 := HO2.out.frozen 0
    have o4 := HO2.out.frozen 1
    have o5 := HO2.out.frozen 2
    have n1 : P ≠ w.heap.size + 1 := by omega
    have n2 : P ≠ w.heap.size + 1 + 1 := by omega
    have n3 := n1.symm
    have n4 := n2.symm
    go_wp2_with fail
    obtain ⟨y', hy'⟩ := cell?_setCell_some (w := w2.drew) (p := ⟨w.heap.size + 1, 0, none⟩) (x := Value.int IntKind.i64 u) (q := ⟨w.heap.size + 1, 1, none⟩) (v := Value.int IntKind.i64 y) (by go_simp)
    go_region
    go_wp2_with fail
    refine bp_gen fun wf hwf => ?_
    have hfar : w.heap.size + 1 + 1 ≠ w.heap.size + 1 := by omega
    have hlo1 : w.heap.size ≤ w.heap.size + 1 := by omega
    have hlo2 : w.heap.size ≤ w.heap.size + 1 + 1 := by omega
    have HRF : Blk wf (w.heap.size + 1 + 1) 100 [.int .i64 u, .int .i64 v, .int .i64 z] := by rw [hwf]; first | exact ((((((HO2.out.far (p := ⟨w.heap.size + 1, 0, none⟩) hfar _).far (p := ⟨w.heap.size + 1, 1, none⟩) hfar _).set 0 _).set 1 _).set 2 _).drew) | exact (((((HO2.out.far (p := ⟨w.heap.size + 1, 0, none⟩) hfar _).far (p := ⟨w.heap.size + 1, 1, none⟩) hfar _).set 0 _).set 1 _).set 2 _)
    have HBF : Below w.heap.size w wf := by rw [hwf]; first | exact ((((((HB2.out.setCell (p := ⟨w.heap.size + 1, 0, none⟩) hlo1 _).setCell (p := ⟨w.heap.size + 1, 1, none⟩) hlo1 _).setCell (p := ⟨w.heap.size + 1 + 1, 0, none⟩) hlo2 _).setCell (p := ⟨w.heap.size + 1 + 1, 1, none⟩) hlo2 _).setCell (p := ⟨w.heap.size + 1 + 1, 2, none⟩) hlo2 _).drew) | exact (((((HB2.out.setCell (p := ⟨w.heap.size + 1, 0, none⟩) hlo1 _).setCell (p := ⟨w.heap.size + 1, 1, none⟩) hlo1 _).setCell (p := ⟨w.heap.size + 1 + 1, 0, none⟩) hlo2 _).setCell (p := ⟨w.heap.size + 1 + 1, 1, none⟩) hlo2 _).setCell (p := ⟨w.heap.size + 1 + 1, 2, none⟩) hlo2 _)
    clear hwf l0 l1 l2 l3 l4 l5 p0 p1 o0 o1 o2 o3 o4 o5 hy'
    have q0 := HRF.cell 0 _ rfl
    have q1 := HRF.cell 1 _ rfl
    have q2 := HRF.cell 2 _ rfl
    exact bodyPost_ret (v := .agg #[.int .i64 u, .int .i64 v, .int .i64 z]) (by simp [results, Try.results139, go_sem, q0, q1, q2]) rfl ⟨rfl, HBF⟩

  · clear k0 k1 k2 k3 k4
    refine ex_gen (Q := Exit.then _ _) fun w2 hw2 => ?_
    skip
    have hsz := Z1.out
    have hsw : w.heap.size + 1 + 1 < w1.heap.size := by have := HO.out.lt; omega
    have HL2 : Hid (Blk w2 (w.heap.size + 1) 100 [.int .i64 x, .int .i64 y, .int .i64 z]) := hide (by rw [hw2]; exact ((HL.out).far (p := ⟨w1.heap.size, 0, none⟩) (by show _ ≠ w1.heap.size; omega) _).far (p := ⟨w1.heap.size, 1, none⟩) (by show _ ≠ w1.heap.size; omega) _)
    have HO2 : Hid (Blk w2 (w.heap.size + 1 + 1) 100 [.int .i64 0, .int .i64 0, .int .i64 0]) := hide (by rw [hw2]; exact ((HO.out).far (p := ⟨w1.heap.size, 0, none⟩) (by show _ ≠ w1.heap.size; omega) _).far (p := ⟨w1.heap.size, 1, none⟩) (by show _ ≠ w1.heap.size; omega) _)
    have HP2 : Hid (Blk w2 (w1.heap.size) 104 [.int .i64 u, .int .i64 v]) := hide (by rw [hw2]; exact (HPB.out.set 0 _).set 1 _)
    have HB2 : Hid (Below w.heap.size w w2) := hide (by rw [hw2]; exact (HBc.out.setCell (p := ⟨w1.heap.size, 0, none⟩) (by show w.heap.size ≤ w1.heap.size; omega) _).setCell (p := ⟨w1.heap.size, 1, none⟩) (by show w.heap.size ≤ w1.heap.size; omega) _)
    clear hw2
    obtain ⟨P, hPe⟩ : ∃ P, w1.heap.size = P := ⟨_, rfl⟩
    rw [hPe] at HP2 hsw ⊢
    have l0 := HL2.out.cell 0 _ rfl
    have l1 := HL2.out.cell 1 _ rfl
    have l2 := HL2.out.cell 2 _ rfl
    have l3 := HL2.out.frozen 0
    have l4 := HL2.out.frozen 1
    have l5 := HL2.out.frozen 2
    have p0 := HP2.out.cell 0 _ rfl
    have p1 := HP2.out.cell 1 _ rfl
    have o0 := HO2.out.cell 0 _ rfl
    have o1 := HO2.out.cell 1 _ rfl
    have o2 := HO2.out.cell 2 _ rfl
    have o3 := HO2.out.frozen 0
    have o4 := HO2.out.frozen 1
    have o5 := HO2.out.frozen 2
    have n1 : P ≠ w.heap.size + 1 := by omega
    have n2 : P ≠ w.heap.size + 1 + 1 := by omega
    have n3 := n1.symm
    have n4 := n2.symm
    go_wp2_with fail
    obtain ⟨y', hy'⟩ := cell?_setCell_some (w := w2.drew) (p := ⟨w.heap.size + 1, 0, none⟩) (x := Value.int IntKind.i64 u) (q := ⟨w.heap.size + 1, 1, none⟩) (v := Value.int IntKind.i64 y) (by go_simp)
    go_region
    go_wp2_with fail
    refine bp_gen fun wf hwf => ?_
    have hfar : w.heap.size + 1 + 1 ≠ w.heap.size + 1 := by omega
    have hlo1 : w.heap.size ≤ w.heap.size + 1 := by omega
    have hlo2 : w.heap.size ≤ w.heap.size + 1 + 1 := by omega
    have HRF : Blk wf (w.heap.size + 1 + 1) 100 [.int .i64 u, .int .i64 v, .int .i64 z] := by rw [hwf]; first | exact ((((((HO2.out.far (p := ⟨w.heap.size + 1, 0, none⟩) hfar _).far (p := ⟨w.heap.size + 1, 1, none⟩) hfar _).set 0 _).set 1 _).set 2 _).drew) | exact (((((HO2.out.far (p := ⟨w.heap.size + 1, 0, none⟩) hfar _).far (p := ⟨w.heap.size + 1, 1, none⟩) hfar _).set 0 _).set 1 _).set 2 _)
    have HBF : Below w.heap.size w wf := by rw [hwf]; first | exact ((((((HB2.out.setCell (p := ⟨w.heap.size + 1, 0, none⟩) hlo1 _).setCell (p := ⟨w.heap.size + 1, 1, none⟩) hlo1 _).setCell (p := ⟨w.heap.size + 1 + 1, 0, none⟩) hlo2 _).setCell (p := ⟨w.heap.size + 1 + 1, 1, none⟩) hlo2 _).setCell (p := ⟨w.heap.size + 1 + 1, 2, none⟩) hlo2 _).drew) | exact (((((HB2.out.setCell (p := ⟨w.heap.size + 1, 0, none⟩) hlo1 _).setCell (p := ⟨w.heap.size + 1, 1, none⟩) hlo1 _).setCell (p := ⟨w.heap.size + 1 + 1, 0, none⟩) hlo2 _).setCell (p := ⟨w.heap.size + 1 + 1, 1, none⟩) hlo2 _).setCell (p := ⟨w.heap.size + 1 + 1, 2, none⟩) hlo2 _)
    clear hwf l0 l1 l2 l3 l4 l5 p0 p1 o0 o1 o2 o3 o4 o5 hy'
    have q0 := HRF.cell 0 _ rfl
    have q1 := HRF.cell 1 _ rfl
    have q2 := HRF.cell 2 _ rfl
    exact bodyPost_ret (v := .agg #[.int .i64 u, .int .i64 v, .int .i64 z]) (by simp [results, Try.results139, go_sem, q0, q1, q2]) rfl ⟨rfl, HBF⟩

set_option maxRecDepth 100000 in
theorem leadAt1_any (A : Option Addr) (n c : Nat) (f : List (List Int)) (B : Option Addr) (m d : Nat) (s : List (List Int)) (x y z : Nat) (w : World) (hz : ZArg 1048576 w A n f B m s) (hp : PMap f s) (_hx : x < n) (hy : y < n) (hz' : z < n) :
    Calls Try.prog 139 #[.agg #[.slice A n c, .slice B m d], .int .i64 1, tv (x, y, z)] w fun e w' => e = .returned (tv (at1 f s (x, y, z))) ∧ Below w.heap.size w w' := by
  have HZ := hide hz
  have HP := hide hp
  have h12 := hz.sz.nb
  unfold at1 tv
  show Calls Try.prog 139 #[.agg #[.slice A n c, .slice B m d], .int .i64 1, .agg #[.int .i64 x, .int .i64 y, .int .i64 z]] w fun e w' => e = .returned (.agg #[.int .i64 (x : Nat), .int .i64 (ap f y z : Nat), .int .i64 (ap s y z : Nat)]) ∧ Below w.heap.size w w'
  obtain ⟨u, hu⟩ : ∃ u, ap f y z = u := ⟨_, rfl⟩
  obtain ⟨v, hv⟩ : ∃ v, ap s y z = v := ⟨_, rfl⟩
  rw [hu, hv]
  have HU := hide hu
  have HV := hide hv
  clear hz hp hu hv
  have hwp1 : IntKind.i64.wrap 1 = 1 := IntWalk.i64_in _ (by omega)
  have hwp2 : IntKind.i64.wrap 2 = 2 := IntWalk.i64_in _ (by omega)
  go_enter Try.func139, Try.ntmps139
  go_wp2_with fail
  refine wp_gen fun w1 hw1 => ?_
  have hb1 : Below w.heap.size w w1 := by rw [hw1]; exact (((Below.refl _ _).alloc (Nat.le_refl _) _).alloc (by simp) _).alloc (by simp; omega) _
  have HS : Hid (Blk w1 w.heap.size 41 [.slice A n c, .slice B m d]) := hide (by rw [hw1]; exact ((Blk.new _ _ _).alloc _).alloc _)
  have HL : Hid (Blk w1 (w.heap.size + 1) 100 [.int .i64 x, .int .i64 y, .int .i64 z]) := hide (by rw [hw1]; have h := (Blk.new (w.alloc (Obj.cells #[Value.slice A n c, Value.slice B m d] 41)) 100 [.int .i64 x, .int .i64 y, .int .i64 z]).alloc (Obj.cells #[Value.int IntKind.i64 0, Value.int IntKind.i64 0, Value.int IntKind.i64 0] 100); simpa using h)
  have HO : Hid (Blk w1 (w.heap.size + 1 + 1) 100 [.int .i64 0, .int .i64 0, .int .i64 0]) := hide (by rw [hw1]; have h := Blk.new ((w.alloc (Obj.cells #[Value.slice A n c, Value.slice B m d] 41)).alloc (Obj.cells #[Value.int IntKind.i64 x, Value.int IntKind.i64 y, Value.int IntKind.i64 z] 100)) 100 [.int .i64 0, .int .i64 0, .int .i64 0]; simpa using h)
  have HBc := hide hb1
  replace HZ := hide (HZ.out.later hb1)
  have Z1 : Hid (w1.heap.size = w.heap.size + 1 + 1 + 1) := hide (by rw [hw1]; simp)
  have j1 : w1.heap.size ≠ w.heap.size := by have := Z1.out; omega
  have j2 : w1.heap.size ≠ w.heap.size + 1 := by have := Z1.out; omega
  have j3 := j1.symm
  have j4 := j2.symm
  have hz1 : w.heap.size + 1 < w1.heap.size := by have := Z1.out; omega
  clear hw1 hb1
  have k0 := HS.out.cell 0 _ rfl
  have k1 := HS.out.cell 1 _ rfl
  have k2 := HL.out.cell 0 _ rfl
  have k3 := HL.out.cell 1 _ rfl
  have k4 := HL.out.cell 2 _ rfl
  go_region_held3 (fun w' => w'.cell? ⟨w.heap.size, 0, none⟩ = some (.slice A n c) ∧ w'.cell? ⟨w.heap.size, 1, none⟩ = some (.slice B m d) ∧ w'.cell? ⟨w.heap.size + 1, 0, none⟩ = some (.int .i64 x) ∧ w'.cell? ⟨w.heap.size + 1, 1, none⟩ = some (.int .i64 y) ∧ w'.cell? ⟨w.heap.size + 1, 2, none⟩ = some (.int .i64 z)) (first | exact ⟨k0, k1, k2, k3, k4⟩ | go_keep) (first | (go_at_call 119; go_must (refine calls_gen fun wc hwc => ?_; (first | (have hbx := al_drew_below hwc; have HPB : Hid (Blk wc w1.heap.size 104 [.int .i64 0, .int .i64 0]) := hide (by rw [hwc]; exact Blk.new _ _ _)) | (have hbx := al_below hwc; have HPB : Hid (Blk wc w1.heap.size 104 [.int .i64 0, .int .i64 0]) := hide (by rw [hwc]; exact Blk.new _ _ _)) | (have hbx := drew_below hwc; have HPB : Hid True := hide trivial) | (have hbx := eq_below hwc; have HPB : Hid True := hide trivial)); have hbx0 := hide hbx.size; replace HBc := hide (HBc.out.trans (hbx.mono HBc.out.size)); replace HZ := hide (HZ.out.later hbx); replace HS := hide (HS.out.later hbx); replace HL := hide (HL.out.later hbx); replace HO := hide (HO.out.later hbx); clear hwc hbx; refine (lead_any _ _ _ f _ _ _ s y z _ HZ.out HP.out hy hz').mono ?_; rintro e wd ⟨rfl, hbd⟩; replace HBc := hide (HBc.out.trans (hbd.mono HBc.out.size)); replace HZ := hide (HZ.out.later hbd); replace HS := hide (HS.out.later hbd); replace HL := hide (HL.out.later hbd); replace HO := hide (HO.out.later hbd); (first | (replace HPB := hide (HPB.out.later hbd); have k5 := HPB.out.cell 0 _ rfl; have k6 := HPB.out.cell 1 _ rfl; have k7 := HPB.out.frozen 0; have k8 := HPB.out.frozen 1) | skip); have hsd := hbd.size; have hsx := hbx0.out; have g1 : wd.heap.size ≠ w.heap.size := (by omega); have g2 : wd.heap.size ≠ w.heap.size + 1 := (by omega); have g3 := g1.symm; have g4 := g2.symm; clear hsd hsx; clear hbd; have k0 := HS.out.cell 0 _ rfl; have k1 := HS.out.cell 1 _ rfl; have k2 := HL.out.cell 0 _ rfl; have k3 := HL.out.cell 1 _ rfl; have k4 := HL.out.cell 2 _ rfl; rw [HU.out, HV.out])))

  · clear k0 k1 k2 k3 k4
    refine ex_gen (Q := Exit.then _ _) fun w2 hw2 => ?_
    have hb2 : Below wd.heap.size wd w2 := by rw [hw2]; exact (Below.refl _ _).alloc (Nat.le_refl _) _
    have hsz := Z1.out
    have hsw : w.heap.size + 1 + 1 < wd.heap.size := by have := HO.out.lt; omega
    have HL2 : Hid (Blk w2 (w.heap.size + 1) 100 [.int .i64 x, .int .i64 y, .int .i64 z]) := hide (HL.out.later hb2)
    have HO2 : Hid (Blk w2 (w.heap.size + 1 + 1) 100 [.int .i64 0, .int .i64 0, .int .i64 0]) := hide (HO.out.later hb2)
    have HP2 : Hid (Blk w2 (wd.heap.size) 104 [.int .i64 u, .int .i64 v]) := hide (by rw [hw2]; exact Blk.new _ _ _)
    have HB2 : Hid (Below w.heap.size w w2) := hide (by rw [hw2]; exact HBc.out.alloc HBc.out.size _)
    clear hw2
    obtain ⟨P, hPe⟩ : ∃ P, wd.heap.size = P := ⟨_, rfl⟩
    rw [hPe] at HP2 hsw ⊢
    have l0 := HL2.out.cell 0 _ rfl
    have l1 := HL2.out.cell 1 _ rfl
    have l2 := HL2.out.cell 2 _ rfl
    have l3 := HL2.out.frozen 0
    have l4 := HL2.out.frozen 1
    have l5 := HL2.out.frozen 2
    have p0 := HP2.out.cell 0 _ rfl
    have p1 := HP2.out.cell 1 _ rfl
    have o0 := HO2.out.cell 0 _ rfl
    have o1 := HO2.out.cell 1 _ rfl
    have o2 := HO2.out.cell 2 _ rfl
    have o3 := HO2.out.frozen 0
    have o4 := HO2.out.frozen 1
    have o5 := HO2.out.frozen 2
    have n1 : P ≠ w.heap.size + 1 := by omega
    have n2 : P ≠ w.heap.size + 1 + 1 := by omega
    have n3 := n1.symm
    have n4 := n2.symm
    go_wp2_with fail
    obtain ⟨y', hy'⟩ := cell?_setCell_some (w := w2.drew) (p := ⟨w.heap.size + 1, 1, none⟩) (x := Value.int IntKind.i64 u) (q := ⟨w.heap.size + 1, 2, none⟩) (v := Value.int IntKind.i64 z) (by go_simp)
    go_region
    go_wp2_with fail
    refine bp_gen fun wf hwf => ?_
    have hfar : w.heap.size + 1 + 1 ≠ w.heap.size + 1 := by omega
    have hlo1 : w.heap.size ≤ w.heap.size + 1 := by omega
    have hlo2 : w.heap.size ≤ w.heap.size + 1 + 1 := by omega
    have HRF : Blk wf (w.heap.size + 1 + 1) 100 [.int .i64 x, .int .i64 u, .int .i64 v] := by rw [hwf]; first | exact ((((((HO2.out.far (p := ⟨w.heap.size + 1, 1, none⟩) hfar _).far (p := ⟨w.heap.size + 1, 2, none⟩) hfar _).set 0 _).set 1 _).set 2 _).drew) | exact (((((HO2.out.far (p := ⟨w.heap.size + 1, 1, none⟩) hfar _).far (p := ⟨w.heap.size + 1, 2, none⟩) hfar _).set 0 _).set 1 _).set 2 _)
    have HBF : Below w.heap.size w wf := by rw [hwf]; first | exact ((((((HB2.out.setCell (p := ⟨w.heap.size + 1, 1, none⟩) hlo1 _).setCell (p := ⟨w.heap.size + 1, 2, none⟩) hlo1 _).setCell (p := ⟨w.heap.size + 1 + 1, 0, none⟩) hlo2 _).setCell (p := ⟨w.heap.size + 1 + 1, 1, none⟩) hlo2 _).setCell (p := ⟨w.heap.size + 1 + 1, 2, none⟩) hlo2 _).drew) | exact (((((HB2.out.setCell (p := ⟨w.heap.size + 1, 1, none⟩) hlo1 _).setCell (p := ⟨w.heap.size + 1, 2, none⟩) hlo1 _).setCell (p := ⟨w.heap.size + 1 + 1, 0, none⟩) hlo2 _).setCell (p := ⟨w.heap.size + 1 + 1, 1, none⟩) hlo2 _).setCell (p := ⟨w.heap.size + 1 + 1, 2, none⟩) hlo2 _)
    clear hwf l0 l1 l2 l3 l4 l5 p0 p1 o0 o1 o2 o3 o4 o5 hy'
    have q0 := HRF.cell 0 _ rfl
    have q1 := HRF.cell 1 _ rfl
    have q2 := HRF.cell 2 _ rfl
    exact bodyPost_ret (v := .agg #[.int .i64 x, .int .i64 u, .int .i64 v]) (by simp [results, Try.results139, go_sem, q0, q1, q2]) rfl ⟨rfl, HBF⟩

  · clear k0 k1 k2 k3 k4
    refine ex_gen (Q := Exit.then _ _) fun w2 hw2 => ?_
    skip
    have hsz := Z1.out
    have hsw : w.heap.size + 1 + 1 < w1.heap.size := by have := HO.out.lt; omega
    have HL2 : Hid (Blk w2 (w.heap.size + 1) 100 [.int .i64 x, .int .i64 y, .int .i64 z]) := hide (by rw [hw2]; exact ((HL.out).far (p := ⟨w1.heap.size, 0, none⟩) (by show _ ≠ w1.heap.size; omega) _).far (p := ⟨w1.heap.size, 1, none⟩) (by show _ ≠ w1.heap.size; omega) _)
    have HO2 : Hid (Blk w2 (w.heap.size + 1 + 1) 100 [.int .i64 0, .int .i64 0, .int .i64 0]) := hide (by rw [hw2]; exact ((HO.out).far (p := ⟨w1.heap.size, 0, none⟩) (by show _ ≠ w1.heap.size; omega) _).far (p := ⟨w1.heap.size, 1, none⟩) (by show _ ≠ w1.heap.size; omega) _)
    have HP2 : Hid (Blk w2 (w1.heap.size) 104 [.int .i64 u, .int .i64 v]) := hide (by rw [hw2]; exact (HPB.out.set 0 _).set 1 _)
    have HB2 : Hid (Below w.heap.size w w2) := hide (by rw [hw2]; exact (HBc.out.setCell (p := ⟨w1.heap.size, 0, none⟩) (by show w.heap.size ≤ w1.heap.size; omega) _).setCell (p := ⟨w1.heap.size, 1, none⟩) (by show w.heap.size ≤ w1.heap.size; omega) _)
    clear hw2
    obtain ⟨P, hPe⟩ : ∃ P, w1.heap.size = P := ⟨_, rfl⟩
    rw [hPe] at HP2 hsw ⊢
    have l0 := HL2.out.cell 0 _ rfl
    have l1 := HL2.out.cell 1 _ rfl
    have l2 := HL2.out.cell 2 _ rfl
    have l3 := HL2.out.frozen 0
    have l4 := HL2.out.frozen 1
    have l5 := HL2.out.frozen 2
    have p0 := HP2.out.cell 0 _ rfl
    have p1 := HP2.out.cell 1 _ rfl
    have o0 := HO2.out.cell 0 _ rfl
    have o1 := HO2.out.cell 1 _ rfl
    have o2 := HO2.out.cell 2 _ rfl
    have o3 := HO2.out.frozen 0
    have o4 := HO2.out.frozen 1
    have o5 := HO2.out.frozen 2
    have n1 : P ≠ w.heap.size + 1 := by omega
    have n2 : P ≠ w.heap.size + 1 + 1 := by omega
    have n3 := n1.symm
    have n4 := n2.symm
    go_wp2_with fail
    obtain ⟨y', hy'⟩ := cell?_setCell_some (w := w2.drew) (p := ⟨w.heap.size + 1, 1, none⟩) (x := Value.int IntKind.i64 u) (q := ⟨w.heap.size + 1, 2, none⟩) (v := Value.int IntKind.i64 z) (by go_simp)
    go_region
    go_wp2_with fail
    refine bp_gen fun wf hwf => ?_
    have hfar : w.heap.size + 1 + 1 ≠ w.heap.size + 1 := by omega
    have hlo1 : w.heap.size ≤ w.heap.size + 1 := by omega
    have hlo2 : w.heap.size ≤ w.heap.size + 1 + 1 := by omega
    have HRF : Blk wf (w.heap.size + 1 + 1) 100 [.int .i64 x, .int .i64 u, .int .i64 v] := by rw [hwf]; first | exact ((((((HO2.out.far (p := ⟨w.heap.size + 1, 1, none⟩) hfar _).far (p := ⟨w.heap.size + 1, 2, none⟩) hfar _).set 0 _).set 1 _).set 2 _).drew) | exact (((((HO2.out.far (p := ⟨w.heap.size + 1, 1, none⟩) hfar _).far (p := ⟨w.heap.size + 1, 2, none⟩) hfar _).set 0 _).set 1 _).set 2 _)
    have HBF : Below w.heap.size w wf := by rw [hwf]; first | exact ((((((HB2.out.setCell (p := ⟨w.heap.size + 1, 1, none⟩) hlo1 _).setCell (p := ⟨w.heap.size + 1, 2, none⟩) hlo1 _).setCell (p := ⟨w.heap.size + 1 + 1, 0, none⟩) hlo2 _).setCell (p := ⟨w.heap.size + 1 + 1, 1, none⟩) hlo2 _).setCell (p := ⟨w.heap.size + 1 + 1, 2, none⟩) hlo2 _).drew) | exact (((((HB2.out.setCell (p := ⟨w.heap.size + 1, 1, none⟩) hlo1 _).setCell (p := ⟨w.heap.size + 1, 2, none⟩) hlo1 _).setCell (p := ⟨w.heap.size + 1 + 1, 0, none⟩) hlo2 _).setCell (p := ⟨w.heap.size + 1 + 1, 1, none⟩) hlo2 _).setCell (p := ⟨w.heap.size + 1 + 1, 2, none⟩) hlo2 _)
    clear hwf l0 l1 l2 l3 l4 l5 p0 p1 o0 o1 o2 o3 o4 o5 hy'
    have q0 := HRF.cell 0 _ rfl
    have q1 := HRF.cell 1 _ rfl
    have q2 := HRF.cell 2 _ rfl
    exact bodyPost_ret (v := .agg #[.int .i64 x, .int .i64 u, .int .i64 v]) (by simp [results, Try.results139, go_sem, q0, q1, q2]) rfl ⟨rfl, HBF⟩
end Go.Proofs.Ytgahmfkmhaeniaa
namespace Go.Proofs.Ytgahmfkmhaeniaa
open Go Go.RowKit
theorem e3Info : (Try.prog.info? 2).map (fun i => (i.zero, i.size, i.bytes)) = some (some (.int .i64 0), 1, 8) := by kernel_rfl
theorem eq3_run (a b c a' b' c' : Int) (w : World) : (Op.equalIn 10000 100 (.agg #[.int .i64 a, .int .i64 b, .int .i64 c]) (.agg #[.int .i64 a', .int .i64 b', .int .i64 c'])).run Try.prog w = .ok (decide (a = a' ∧ b = b' ∧ c = c')) w := by
  obtain ⟨i0, hi, hz0, hz1, hz2⟩ := info_parts e3Info
  have hc : Try.prog.cellsOf 2 = 1 := by kernel_rfl
  have hp : Try.prog.plainKey 2 = true := by kernel_rfl
  have hu := Try.underlying2
  rw [run_equalIn_array _ 9999 _ _ Try.underlying100 hi, hc]
  have h3 : List.range 3 = [0, 1, 2] := rfl
  rw [h3]
  have pa : ∀ (x y z : Int) (i : Nat) (v : Value), (#[Value.int .i64 x, .int .i64 y, .int .i64 z])[i]? = some v → (part 2 #[Value.int .i64 x, .int .i64 y, .int .i64 z] i).run Try.prog w = .ok v w := fun x y z i v h => run_part_plain w hp h
  have e : ∀ x y : Int, (Op.equalIn 9999 2 (.int .i64 x) (.int .i64 y)).run Try.prog w = .ok (x == y) w := fun x y => run_equalIn_int w 9998 _ .i64 .i64 x y hu
  have p0 := fun x y z => pa x y z 0 _ rfl
  have p1 := fun x y z => pa x y z 1 _ rfl
  have p2 := fun x y z => pa x y z 2 _ rfl
  have ie : ∀ x y : Int, (x == y) = decide (x = y) := fun x y => rfl
  by_cases h1 : a = a'
  · by_cases h2 : b = b'
    · by_cases h3 : c = c'
      · simp [Op.eqItems, Sem.run_bind, h1, h2, h3, p0, p1, p2, e]
      · simp [Op.eqItems, Sem.run_bind, h1, h2, h3, p0, p1, p2, e, ie]
    · simp [Op.eqItems, Sem.run_bind, h1, h2, p0, p1, e, ie]
  · simp [Op.eqItems, Sem.run_bind, h1, p0, e, ie]
end Go.Proofs.Ytgahmfkmhaeniaa
namespace Go.Proofs.Ytgahmfkmhaeniaa
open Go Go.RowKit
set_option maxHeartbeats 2000000

theorem blk_al {a b : World} {t : TypeId} {cs : List Value} (h : a = b.alloc (.cells cs.toArray t)) : Blk a b.heap.size t cs := h ▸ Blk.new _ _ _
theorem blk_al_drew {a b : World} {t : TypeId} {cs : List Value} (h : a = (b.alloc (.cells cs.toArray t)).drew) : Blk a b.heap.size t cs := h ▸ (Blk.new _ _ _ : Blk (b.alloc (.cells cs.toArray t)) _ _ _)
theorem leadA0_any (A : Option Addr) (n c : Nat) (f : List (List Int)) (B : Option Addr) (m d : Nat) (s : List (List Int)) (x y z x' y' z' : Nat) (w : World) (hz : ZArg 1048576 w A n f B m s) (hp : PMap f s) (hi : In3 n (x, y, z)) (he : doAt f s 0 (x, y, z) = (x', y', z')) :
    Calls Try.prog 139 #[.agg #[.slice A n c, .slice B m d], .int .i64 0, .agg #[.int .i64 x, .int .i64 y, .int .i64 z]] w fun e w' => e = .returned (.agg #[.int .i64 x', .int .i64 y', .int .i64 z']) ∧ Below w.heap.size w w' := by
  have h := leadAt0_any A n c f B m d s x y z w hz hp hi.1 hi.2.1 hi.2.2
  have e : at0 f s (x, y, z) = (x', y', z') := he
  rw [e] at h
  exact h
theorem leadA1_any (A : Option Addr) (n c : Nat) (f : List (List Int)) (B : Option Addr) (m d : Nat) (s : List (List Int)) (x y z x' y' z' : Nat) (w : World) (hz : ZArg 1048576 w A n f B m s) (hp : PMap f s) (hi : In3 n (x, y, z)) (he : doAt f s 1 (x, y, z) = (x', y', z')) :
    Calls Try.prog 139 #[.agg #[.slice A n c, .slice B m d], .int .i64 1, .agg #[.int .i64 x, .int .i64 y, .int .i64 z]] w fun e w' => e = .returned (.agg #[.int .i64 x', .int .i64 y', .int .i64 z']) ∧ Below w.heap.size w w' := by
  have h := leadAt1_any A n c f B m d s x y z w hz hp hi.1 hi.2.1 hi.2.2
  have e : at1 f s (x, y, z) = (x', y', z') := he
  rw [e] at h
  exact h

set_option maxRecDepth 100000 in
theorem fault_any (A : Option Addr) (n c : Nat) (f : List (List Int)) (B : Option Addr) (m d : Nat) (s : List (List Int)) (T : Nat) (w : World) (hz : ZArg 1048576 w A n f B m s) (hp : PMap f s) (hT : First f s n T) :
    Calls Try.prog 114 #[.agg #[.slice A n c, .slice B m d]] w fun e w' => ∃ t ok, e = .returned (.tuple #[tv t, .bool ok]) ∧ Below w.heap.size w w' ∧ ((ok = true ∧ T < n * n * n ∧ t = trip n T) ∨ (ok = false ∧ T = n * n * n)) := by
  have hnb := hz.sz.nb
  have HZ := hide hz
  have HP := hide hp
  have HT := hide hT
  have HFL := hide hz.sz.fl
  have h12 := hz.small hp
  obtain ⟨N, hN⟩ : ∃ N, n * n = N := ⟨_, rfl⟩
  have hN144 : N ≤ 144 := by rw [← hN]; exact sq_le n h12.2
  have HN := hide hN
  clear hp hz hN hT
  go_enter Try.func114, Try.ntmps114
  go_wp2_with fail
  refine calls_gen fun w0 hw0 => ?_
  have HB0 : Hid (Below w.heap.size w w0) := hide (by rw [hw0]; exact ((Below.refl _ _).alloc (Nat.le_refl _) _).alloc (by simp) _)
  have HK0 : Hid (Blk w0 w.heap.size 41 [.slice A n c, .slice B m d]) := hide (by rw [hw0]; exact (Blk.new _ _ _).alloc _)
  have HO0 : Hid (Blk w0 (w.heap.size + 1) 100 [.int .i64 0, .int .i64 0, .int .i64 0]) := hide (by rw [hw0]; have h := Blk.new (w.alloc (Obj.cells #[Value.slice A n c, Value.slice B m d] 41)) 100 [.int .i64 0, .int .i64 0, .int .i64 0]; simpa using h)
  clear hw0
  refine (size_any _ _ _ _ _ _ _ hnb).mono ?_
  rintro e w2 ⟨rfl, hb2⟩
  have HB2 := hide (HB0.out.trans (hb2.mono HB0.out.size))
  have HK2 := hide (HK0.out.later hb2)
  have HO2 := hide (HO0.out.later hb2)
  clear hb2
  go_wp2_with fail
  refine (pairsOf_any n N _ h12.1 h12.2 HN.out).mono ?_
  rintro e w3 ⟨g, rfl, hb3, hg3, hpa⟩
  have HB3 := hide (HB2.out.trans (hb3.mono HB2.out.size))
  have HK3 := hide (HK2.out.later hb3)
  have HO3 := hide (HO2.out.later hb3)
  have HPA3 := hide hpa
  clear hb3 hpa
  go_wp2_with fail
  go_loopw [14] (fun i wr => ∃ k : Nat, k ≤ N ∧ i = .int .i64 k ∧ Below w.heap.size w wr ∧ Blk wr w.heap.size 41 [.slice A n c, .slice B m d] ∧ Blk wr (w.heap.size + 1) 100 [.int .i64 0, .int .i64 0, .int .i64 0] ∧ PairsAt wr g n ∧ ∀ i, i < k * n → Eq3 f s n i) (fun i _ => N - (intOf i).toNat)
  case atStart => exact ⟨0, Nat.zero_le _, rfl, HB3.out, HK3.out, HO3.out, HPA3.out, fun i hi => absurd hi (by omega)⟩
  case round =>
    obtain ⟨k, hk, rfl, hbe, hkk, hoo, hpa, hall⟩ := hrel
    have HB := hide hbe
    have HK := hide hkk
    have HO := hide hoo
    have HPA := hide hpa
    have HALL := hide hall
    clear hbe hkk hoo hpa hall
    have k0 := HK.out.cell 0 _ rfl
    have k1 := HK.out.cell 1 _ rfl
    have k2 := fun o => (HK.out.alloc o).cell 0 _ rfl
    have k3 := fun o => (HK.out.alloc o).cell 1 _ rfl
    by_cases hlt : k < N
    · have hkz : (k : Int) < N := by omega
      obtain ⟨p0, p1⟩ := HPA.out.2 k (by rw [HN.out]; exact hlt)
      have hxn : k / n < n := div_lt_sq (by rw [HN.out]; exact hlt)
      have hyn : k % n < n := mod_lt_sq (by rw [HN.out]; exact hlt)
      obtain ⟨x, hx⟩ : ∃ x, k / n = x := ⟨_, rfl⟩
      obtain ⟨y, hy⟩ : ∃ y, k % n = y := ⟨_, rfl⟩
      rw [hx] at p0 hxn
      rw [hy] at p1 hyn
      have HX := hide hx
      have HY := hide hy
      clear hx hy
      go_wp2_with fail
      refine calls_gen fun w4 hw4 => ?_
      obtain ⟨P, hPe⟩ : ∃ P, wr.heap.size = P := ⟨_, rfl⟩
      have HB4 : Hid (Below w.heap.size w w4) := hide (by rw [hw4]; exact HB.out.alloc HB.out.size _)
      have HK4 : Hid (Blk w4 w.heap.size 41 [.slice A n c, .slice B m d]) := hide (by rw [hw4]; exact HK.out.alloc _)
      have HO4 : Hid (Blk w4 (w.heap.size + 1) 100 [.int .i64 0, .int .i64 0, .int .i64 0]) := hide (by rw [hw4]; exact HO.out.alloc _)
      have HP4 : Hid (Blk w4 P 104 [.int .i64 x, .int .i64 y]) := hide (by rw [hw4, ← hPe]; exact Blk.new _ _ _)
      have HA4 : Hid (PairsAt w4 g n) := hide (by rw [hw4]; exact HPA.out.later ((Below.refl _ _).alloc (Nat.le_refl _) _))
      rw [hPe]
      clear hw4 k0 k1 k2 k3 p0 p1 hPe
      refine (size_any _ _ _ _ _ _ _ hnb).mono ?_
      rintro e w5 ⟨rfl, hb5⟩
      have HB5 := hide (HB4.out.trans (hb5.mono HB4.out.size))
      have HK5 := hide (HK4.out.later hb5)
      have HO5 := hide (HO4.out.later hb5)
      have HP5 := hide (HP4.out.later hb5)
      have HA5 := hide (HA4.out.later hb5)
      clear hb5
      go_wp2_with fail
      go_loopw [20] (fun i wi => ∃ z : Nat, z ≤ n ∧ i = .int .i64 z ∧ Below w.heap.size w wi ∧ Blk wi w.heap.size 41 [.slice A n c, .slice B m d] ∧ Blk wi (w.heap.size + 1) 100 [.int .i64 0, .int .i64 0, .int .i64 0] ∧ Blk wi P 104 [.int .i64 x, .int .i64 y] ∧ PairsAt wi g n ∧ ∀ i, i < k * n + z → Eq3 f s n i) (fun i _ => n - (intOf i).toNat)
      case atStart => exact ⟨0, Nat.zero_le _, rfl, HB5.out, HK5.out, HO5.out, HP5.out, HA5.out, HALL.out⟩
      case round =>
        obtain ⟨z, hzn, rfl, hbe, hkk, hoo, hpp, hpa, hall⟩ := hrel
        have HBc := hide hbe
        have HKc := hide hkk
        have HOc := hide hoo
        have HPc := hide hpp
        have HAc := hide hpa
        have HALLI := hide hall
        clear hbe hkk hoo hpp hpa hall
        by_cases hltz : z < n
        · have hzz : (z : Int) < n := by omega
          have p0 := HPc.out.cell 0 _ rfl
          have p1 := HPc.out.cell 1 _ rfl
          go_wp2_with fail
          refine wp_gen fun W0 hW0 => ?_
          have hwsz : w.heap.size < wr.heap.size := HKc.out.lt
          obtain ⟨Lb, hLb⟩ : ∃ Lb, wr.heap.size = Lb := ⟨_, rfl⟩
          have HF : Hid (FK w W0 g n Lb [(Lb, 100, [.int .i64 x, .int .i64 y, .int .i64 z]), (P, 104, [.int .i64 x, .int .i64 y]), (w.heap.size + 1, 100, [.int .i64 0, .int .i64 0, .int .i64 0]), (w.heap.size, 41, [.slice A n c, .slice B m d])]) := hide (by rw [hW0, ← hLb]; exact FK.new (top := wr.heap.size - 1) (FK.start HBc.out HAc.out HKc.out HOc.out HPc.out) _ _)
          rw [hLb]
          clear hW0 hLb p0 p1 hwsz
          have I0 : Hid (In3 n (x, y, z)) := hide ⟨hxn, hyn, hltz⟩
          obtain ⟨⟨x1, y1, z1⟩, hE1⟩ : ∃ t, doAt f s 0 (x, y, z) = t := ⟨_, rfl⟩
          have E1 := hide hE1
          have I1 : Hid (In3 n (x1, y1, z1)) := hide (by rw [← hE1]; exact I0.out.do HP.out HFL.out 0)
          clear hE1
          obtain ⟨⟨x2, y2, z2⟩, hE2⟩ : ∃ t, doAt f s 1 (x1, y1, z1) = t := ⟨_, rfl⟩
          have E2 := hide hE2
          have I2 : Hid (In3 n (x2, y2, z2)) := hide (by rw [← hE2]; exact I1.out.do HP.out HFL.out 1)
          clear hE2
          obtain ⟨⟨x3, y3, z3⟩, hE3⟩ : ∃ t, doAt f s 0 (x2, y2, z2) = t := ⟨_, rfl⟩
          have E3 := hide hE3
          clear hE3
          obtain ⟨⟨s1, t1, r1⟩, hG1⟩ : ∃ t, doAt f s 1 (x, y, z) = t := ⟨_, rfl⟩
          have G1 := hide hG1
          have J1 : Hid (In3 n (s1, t1, r1)) := hide (by rw [← hG1]; exact I0.out.do HP.out HFL.out 1)
          clear hG1
          obtain ⟨⟨s2, t2, r2⟩, hG2⟩ : ∃ t, doAt f s 0 (s1, t1, r1) = t := ⟨_, rfl⟩
          have G2 := hide hG2
          have J2 : Hid (In3 n (s2, t2, r2)) := hide (by rw [← hG2]; exact J1.out.do HP.out HFL.out 0)
          clear hG2
          obtain ⟨⟨s3, t3, r3⟩, hG3⟩ : ∃ t, doAt f s 1 (s2, t2, r2) = t := ⟨_, rfl⟩
          have G3 := hide hG3
          clear hG3
          go_cut [8] (fun v wx => ∃ L, v = .pointer (some ⟨L, 0, none⟩) ∧ FK w wx g n L ((L, 100, [.int .i64 x3, .int .i64 y3, .int .i64 z3]) :: [(Lb, 100, [.int .i64 x, .int .i64 y, .int .i64 z]), (P, 104, [.int .i64 x, .int .i64 y]), (w.heap.size + 1, 100, [.int .i64 0, .int .i64 0, .int .i64 0]), (w.heap.size, 41, [.slice A n c, .slice B m d])]))
          case first =>
            have HPB : Hid True := hide trivial
            have tok0 : True := trivial
            have tok1 : True := trivial
            have k0 := (HF.out.blk (b := w.heap.size) (t := 41) (cs := [.slice A n c, .slice B m d]) (by simp)).cell 0 _ rfl
            have k1 := (HF.out.blk (b := w.heap.size) (t := 41) (cs := [.slice A n c, .slice B m d]) (by simp)).cell 1 _ rfl
            have l0 := (HF.out.blk (b := Lb) (t := 100) (cs := [.int .i64 x, .int .i64 y, .int .i64 z]) (by simp)).cell 0 _ rfl
            have l1 := (HF.out.blk (b := Lb) (t := 100) (cs := [.int .i64 x, .int .i64 y, .int .i64 z]) (by simp)).cell 1 _ rfl
            have l2 := (HF.out.blk (b := Lb) (t := 100) (cs := [.int .i64 x, .int .i64 y, .int .i64 z]) (by simp)).cell 2 _ rfl
            have g1 : W0.heap.size ≠ w.heap.size := (by have h1 := HF.out.sz; have h2 := HF.out.low; omega)
            have g2 : W0.heap.size ≠ Lb := (by have h1 := HF.out.sz; have h2 := HF.out.top' (b := Lb) (t := 100) (cs := [.int .i64 x, .int .i64 y, .int .i64 z]) (by simp); omega)
            have g3 := g1.symm
            have g4 := g2.symm
            go_region_held3 (fun w' => w'.cell? ⟨w.heap.size, 0, none⟩ = some (.slice A n c) ∧ w'.cell? ⟨w.heap.size, 1, none⟩ = some (.slice B m d) ∧ w'.cell? ⟨Lb, 0, none⟩ = some (.int .i64 x) ∧ w'.cell? ⟨Lb, 1, none⟩ = some (.int .i64 y) ∧ w'.cell? ⟨Lb, 2, none⟩ = some (.int .i64 z)) (first | exact ⟨k0, k1, l0, l1, l2⟩ | go_keep) (first | (go_at_call 139; have _t := tok0; clear _t tok0; go_must (refine calls_gen fun wc hwc => ?_; have HF0 := HF; (first | (have hbx := al_drew_below hwc; have HPB := hide (And.intro (blk_al_drew hwc) HF0.out.sz)) | (have hbx := al_below hwc; have HPB := hide (And.intro (blk_al hwc) HF0.out.sz)) | (have hbx := drew_below hwc; (first | replace HPB := hide (And.intro (HPB.out.1.later hbx) HPB.out.2) | skip)) | (have hbx := eq_below hwc; (first | replace HPB := hide (And.intro (HPB.out.1.later hbx) HPB.out.2) | skip))); clear HF0; replace HF := hide (HF.out.later hbx); clear hwc hbx; refine (leadA0_any _ _ _ f _ _ _ s x y z x1 y1 z1 _ (HZ.out.later HF.out.below) HP.out I0.out E1.out).mono ?_; rintro e wd ⟨rfl, hbd⟩; replace HF := hide (HF.out.later hbd); (first | replace HPB := hide (And.intro (HPB.out.1.later hbd) HPB.out.2) | skip); clear hbd; have g1 : wd.heap.size ≠ w.heap.size := (by have h1 := HF.out.sz; have h2 := HF.out.low; omega); have g2 : wd.heap.size ≠ Lb := (by have h1 := HF.out.sz; have h2 := HF.out.top' (b := Lb) (t := 100) (cs := [.int .i64 x, .int .i64 y, .int .i64 z]) (by simp); omega); have g3 := g1.symm; have g4 := g2.symm; have k0 := (HF.out.blk (b := w.heap.size) (t := 41) (cs := [.slice A n c, .slice B m d]) (by simp)).cell 0 _ rfl; have k1 := (HF.out.blk (b := w.heap.size) (t := 41) (cs := [.slice A n c, .slice B m d]) (by simp)).cell 1 _ rfl; have l0 := (HF.out.blk (b := Lb) (t := 100) (cs := [.int .i64 x, .int .i64 y, .int .i64 z]) (by simp)).cell 0 _ rfl; have l1 := (HF.out.blk (b := Lb) (t := 100) (cs := [.int .i64 x, .int .i64 y, .int .i64 z]) (by simp)).cell 1 _ rfl; have l2 := (HF.out.blk (b := Lb) (t := 100) (cs := [.int .i64 x, .int .i64 y, .int .i64 z]) (by simp)).cell 2 _ rfl; (first | (have b0 := HPB.out.1.cell 0 _ rfl; have b1 := HPB.out.1.cell 1 _ rfl; have b2 := HPB.out.1.cell 2 _ rfl; have b3 := HPB.out.1.frozen 0; have b4 := HPB.out.1.frozen 1; have b5 := HPB.out.1.frozen 2) | skip))) | (go_at_call 139; have _t := tok1; clear _t tok1; go_must (refine calls_gen fun wc hwc => ?_; have HF0 := HF; (first | (have hbx := al_drew_below hwc; have HPB := hide (And.intro (blk_al_drew hwc) HF0.out.sz)) | (have hbx := al_below hwc; have HPB := hide (And.intro (blk_al hwc) HF0.out.sz)) | (have hbx := drew_below hwc; (first | replace HPB := hide (And.intro (HPB.out.1.later hbx) HPB.out.2) | skip)) | (have hbx := eq_below hwc; (first | replace HPB := hide (And.intro (HPB.out.1.later hbx) HPB.out.2) | skip))); clear HF0; replace HF := hide (HF.out.later hbx); clear hwc hbx; refine (leadA1_any _ _ _ f _ _ _ s x1 y1 z1 x2 y2 z2 _ (HZ.out.later HF.out.below) HP.out I1.out E2.out).mono ?_; rintro e wd ⟨rfl, hbd⟩; replace HF := hide (HF.out.later hbd); (first | replace HPB := hide (And.intro (HPB.out.1.later hbd) HPB.out.2) | skip); clear hbd; have g1 : wd.heap.size ≠ w.heap.size := (by have h1 := HF.out.sz; have h2 := HF.out.low; omega); have g2 : wd.heap.size ≠ Lb := (by have h1 := HF.out.sz; have h2 := HF.out.top' (b := Lb) (t := 100) (cs := [.int .i64 x, .int .i64 y, .int .i64 z]) (by simp); omega); have g3 := g1.symm; have g4 := g2.symm; have k0 := (HF.out.blk (b := w.heap.size) (t := 41) (cs := [.slice A n c, .slice B m d]) (by simp)).cell 0 _ rfl; have k1 := (HF.out.blk (b := w.heap.size) (t := 41) (cs := [.slice A n c, .slice B m d]) (by simp)).cell 1 _ rfl; have l0 := (HF.out.blk (b := Lb) (t := 100) (cs := [.int .i64 x, .int .i64 y, .int .i64 z]) (by simp)).cell 0 _ rfl; have l1 := (HF.out.blk (b := Lb) (t := 100) (cs := [.int .i64 x, .int .i64 y, .int .i64 z]) (by simp)).cell 1 _ rfl; have l2 := (HF.out.blk (b := Lb) (t := 100) (cs := [.int .i64 x, .int .i64 y, .int .i64 z]) (by simp)).cell 2 _ rfl; (first | (have b0 := HPB.out.1.cell 0 _ rfl; have b1 := HPB.out.1.cell 1 _ rfl; have b2 := HPB.out.1.cell 2 _ rfl; have b3 := HPB.out.1.frozen 0; have b4 := HPB.out.1.frozen 1; have b5 := HPB.out.1.frozen 2) | skip))) | (go_at_call 139; go_must (refine calls_gen fun wc hwc => ?_; have HF0 := HF; (first | (have hbx := al_drew_below hwc; have HPB := hide (And.intro (blk_al_drew hwc) HF0.out.sz)) | (have hbx := al_below hwc; have HPB := hide (And.intro (blk_al hwc) HF0.out.sz)) | (have hbx := drew_below hwc; (first | replace HPB := hide (And.intro (HPB.out.1.later hbx) HPB.out.2) | skip)) | (have hbx := eq_below hwc; (first | replace HPB := hide (And.intro (HPB.out.1.later hbx) HPB.out.2) | skip))); clear HF0; replace HF := hide (HF.out.later hbx); clear hwc hbx; refine (leadA0_any _ _ _ f _ _ _ s x2 y2 z2 x3 y3 z3 _ (HZ.out.later HF.out.below) HP.out I2.out E3.out).mono ?_; rintro e wd ⟨rfl, hbd⟩; replace HF := hide (HF.out.later hbd); (first | replace HPB := hide (And.intro (HPB.out.1.later hbd) HPB.out.2) | skip); clear hbd; have g1 : wd.heap.size ≠ w.heap.size := (by have h1 := HF.out.sz; have h2 := HF.out.low; omega); have g2 : wd.heap.size ≠ Lb := (by have h1 := HF.out.sz; have h2 := HF.out.top' (b := Lb) (t := 100) (cs := [.int .i64 x, .int .i64 y, .int .i64 z]) (by simp); omega); have g3 := g1.symm; have g4 := g2.symm; have k0 := (HF.out.blk (b := w.heap.size) (t := 41) (cs := [.slice A n c, .slice B m d]) (by simp)).cell 0 _ rfl; have k1 := (HF.out.blk (b := w.heap.size) (t := 41) (cs := [.slice A n c, .slice B m d]) (by simp)).cell 1 _ rfl; have l0 := (HF.out.blk (b := Lb) (t := 100) (cs := [.int .i64 x, .int .i64 y, .int .i64 z]) (by simp)).cell 0 _ rfl; have l1 := (HF.out.blk (b := Lb) (t := 100) (cs := [.int .i64 x, .int .i64 y, .int .i64 z]) (by simp)).cell 1 _ rfl; have l2 := (HF.out.blk (b := Lb) (t := 100) (cs := [.int .i64 x, .int .i64 y, .int .i64 z]) (by simp)).cell 2 _ rfl; (first | (have b0 := HPB.out.1.cell 0 _ rfl; have b1 := HPB.out.1.cell 1 _ rfl; have b2 := HPB.out.1.cell 2 _ rfl; have b3 := HPB.out.1.frozen 0; have b4 := HPB.out.1.frozen 1; have b5 := HPB.out.1.frozen 2) | skip))))
            all_goals go_wp2_with fail
            all_goals go_meet
            all_goals refine ⟨_, rfl, ?_⟩
            all_goals first | exact HF.out.new _ _ | exact (((HF.out.set (p := ⟨_, 0, none⟩) HPB.out.2 _).set (p := ⟨_, 1, none⟩) HPB.out.2 _).set (p := ⟨_, 2, none⟩) HPB.out.2 _).push (((HPB.out.1.set 0 _).set 1 _).set 2 _) HPB.out.2
          case rest =>
            obtain ⟨L1, rfl, hfk⟩ := hcut
            replace HF := hide hfk
            clear hfk
            go_wp2_with fail
            go_cut [9] (fun v wx => ∃ L, v = .pointer (some ⟨L, 0, none⟩) ∧ FK w wx g n L ((L, 100, [.int .i64 s3, .int .i64 t3, .int .i64 r3]) :: (L1, 100, [.int .i64 x3, .int .i64 y3, .int .i64 z3]) :: [(Lb, 100, [.int .i64 x, .int .i64 y, .int .i64 z]), (P, 104, [.int .i64 x, .int .i64 y]), (w.heap.size + 1, 100, [.int .i64 0, .int .i64 0, .int .i64 0]), (w.heap.size, 41, [.slice A n c, .slice B m d])]))
            case first =>
              have HPB : Hid True := hide trivial
              have tok0 : True := trivial
              have tok1 : True := trivial
              have k0 := (HF.out.blk (b := w.heap.size) (t := 41) (cs := [.slice A n c, .slice B m d]) (by simp)).cell 0 _ rfl
              have k1 := (HF.out.blk (b := w.heap.size) (t := 41) (cs := [.slice A n c, .slice B m d]) (by simp)).cell 1 _ rfl
              have l0 := (HF.out.blk (b := Lb) (t := 100) (cs := [.int .i64 x, .int .i64 y, .int .i64 z]) (by simp)).cell 0 _ rfl
              have l1 := (HF.out.blk (b := Lb) (t := 100) (cs := [.int .i64 x, .int .i64 y, .int .i64 z]) (by simp)).cell 1 _ rfl
              have l2 := (HF.out.blk (b := Lb) (t := 100) (cs := [.int .i64 x, .int .i64 y, .int .i64 z]) (by simp)).cell 2 _ rfl
              have g1 : wc.heap.size ≠ w.heap.size := (by have h1 := HF.out.sz; have h2 := HF.out.low; omega)
              have g2 : wc.heap.size ≠ Lb := (by have h1 := HF.out.sz; have h2 := HF.out.top' (b := Lb) (t := 100) (cs := [.int .i64 x, .int .i64 y, .int .i64 z]) (by simp); omega)
              have g3 := g1.symm
              have g4 := g2.symm
              go_region_held3 (fun w' => w'.cell? ⟨w.heap.size, 0, none⟩ = some (.slice A n c) ∧ w'.cell? ⟨w.heap.size, 1, none⟩ = some (.slice B m d) ∧ w'.cell? ⟨Lb, 0, none⟩ = some (.int .i64 x) ∧ w'.cell? ⟨Lb, 1, none⟩ = some (.int .i64 y) ∧ w'.cell? ⟨Lb, 2, none⟩ = some (.int .i64 z)) (first | exact ⟨k0, k1, l0, l1, l2⟩ | go_keep) (first | (go_at_call 139; have _t := tok0; clear _t tok0; go_must (refine calls_gen fun wc hwc => ?_; have HF0 := HF; (first | (have hbx := al_drew_below hwc; have HPB := hide (And.intro (blk_al_drew hwc) HF0.out.sz)) | (have hbx := al_below hwc; have HPB := hide (And.intro (blk_al hwc) HF0.out.sz)) | (have hbx := drew_below hwc; (first | replace HPB := hide (And.intro (HPB.out.1.later hbx) HPB.out.2) | skip)) | (have hbx := eq_below hwc; (first | replace HPB := hide (And.intro (HPB.out.1.later hbx) HPB.out.2) | skip))); clear HF0; replace HF := hide (HF.out.later hbx); clear hwc hbx; refine (leadA1_any _ _ _ f _ _ _ s x y z s1 t1 r1 _ (HZ.out.later HF.out.below) HP.out I0.out G1.out).mono ?_; rintro e wd ⟨rfl, hbd⟩; replace HF := hide (HF.out.later hbd); (first | replace HPB := hide (And.intro (HPB.out.1.later hbd) HPB.out.2) | skip); clear hbd; have g1 : wd.heap.size ≠ w.heap.size := (by have h1 := HF.out.sz; have h2 := HF.out.low; omega); have g2 : wd.heap.size ≠ Lb := (by have h1 := HF.out.sz; have h2 := HF.out.top' (b := Lb) (t := 100) (cs := [.int .i64 x, .int .i64 y, .int .i64 z]) (by simp); omega); have g3 := g1.symm; have g4 := g2.symm; have k0 := (HF.out.blk (b := w.heap.size) (t := 41) (cs := [.slice A n c, .slice B m d]) (by simp)).cell 0 _ rfl; have k1 := (HF.out.blk (b := w.heap.size) (t := 41) (cs := [.slice A n c, .slice B m d]) (by simp)).cell 1 _ rfl; have l0 := (HF.out.blk (b := Lb) (t := 100) (cs := [.int .i64 x, .int .i64 y, .int .i64 z]) (by simp)).cell 0 _ rfl; have l1 := (HF.out.blk (b := Lb) (t := 100) (cs := [.int .i64 x, .int .i64 y, .int .i64 z]) (by simp)).cell 1 _ rfl; have l2 := (HF.out.blk (b := Lb) (t := 100) (cs := [.int .i64 x, .int .i64 y, .int .i64 z]) (by simp)).cell 2 _ rfl; (first | (have b0 := HPB.out.1.cell 0 _ rfl; have b1 := HPB.out.1.cell 1 _ rfl; have b2 := HPB.out.1.cell 2 _ rfl; have b3 := HPB.out.1.frozen 0; have b4 := HPB.out.1.frozen 1; have b5 := HPB.out.1.frozen 2) | skip))) | (go_at_call 139; have _t := tok1; clear _t tok1; go_must (refine calls_gen fun wc hwc => ?_; have HF0 := HF; (first | (have hbx := al_drew_below hwc; have HPB := hide (And.intro (blk_al_drew hwc) HF0.out.sz)) | (have hbx := al_below hwc; have HPB := hide (And.intro (blk_al hwc) HF0.out.sz)) | (have hbx := drew_below hwc; (first | replace HPB := hide (And.intro (HPB.out.1.later hbx) HPB.out.2) | skip)) | (have hbx := eq_below hwc; (first | replace HPB := hide (And.intro (HPB.out.1.later hbx) HPB.out.2) | skip))); clear HF0; replace HF := hide (HF.out.later hbx); clear hwc hbx; refine (leadA0_any _ _ _ f _ _ _ s s1 t1 r1 s2 t2 r2 _ (HZ.out.later HF.out.below) HP.out J1.out G2.out).mono ?_; rintro e wd ⟨rfl, hbd⟩; replace HF := hide (HF.out.later hbd); (first | replace HPB := hide (And.intro (HPB.out.1.later hbd) HPB.out.2) | skip); clear hbd; have g1 : wd.heap.size ≠ w.heap.size := (by have h1 := HF.out.sz; have h2 := HF.out.low; omega); have g2 : wd.heap.size ≠ Lb := (by have h1 := HF.out.sz; have h2 := HF.out.top' (b := Lb) (t := 100) (cs := [.int .i64 x, .int .i64 y, .int .i64 z]) (by simp); omega); have g3 := g1.symm; have g4 := g2.symm; have k0 := (HF.out.blk (b := w.heap.size) (t := 41) (cs := [.slice A n c, .slice B m d]) (by simp)).cell 0 _ rfl; have k1 := (HF.out.blk (b := w.heap.size) (t := 41) (cs := [.slice A n c, .slice B m d]) (by simp)).cell 1 _ rfl; have l0 := (HF.out.blk (b := Lb) (t := 100) (cs := [.int .i64 x, .int .i64 y, .int .i64 z]) (by simp)).cell 0 _ rfl; have l1 := (HF.out.blk (b := Lb) (t := 100) (cs := [.int .i64 x, .int .i64 y, .int .i64 z]) (by simp)).cell 1 _ rfl; have l2 := (HF.out.blk (b := Lb) (t := 100) (cs := [.int .i64 x, .int .i64 y, .int .i64 z]) (by simp)).cell 2 _ rfl; (first | (have b0 := HPB.out.1.cell 0 _ rfl; have b1 := HPB.out.1.cell 1 _ rfl; have b2 := HPB.out.1.cell 2 _ rfl; have b3 := HPB.out.1.frozen 0; have b4 := HPB.out.1.frozen 1; have b5 := HPB.out.1.frozen 2) | skip))) | (go_at_call 139; go_must (refine calls_gen fun wc hwc => ?_; have HF0 := HF; (first | (have hbx := al_drew_below hwc; have HPB := hide (And.intro (blk_al_drew hwc) HF0.out.sz)) | (have hbx := al_below hwc; have HPB := hide (And.intro (blk_al hwc) HF0.out.sz)) | (have hbx := drew_below hwc; (first | replace HPB := hide (And.intro (HPB.out.1.later hbx) HPB.out.2) | skip)) | (have hbx := eq_below hwc; (first | replace HPB := hide (And.intro (HPB.out.1.later hbx) HPB.out.2) | skip))); clear HF0; replace HF := hide (HF.out.later hbx); clear hwc hbx; refine (leadA1_any _ _ _ f _ _ _ s s2 t2 r2 s3 t3 r3 _ (HZ.out.later HF.out.below) HP.out J2.out G3.out).mono ?_; rintro e wd ⟨rfl, hbd⟩; replace HF := hide (HF.out.later hbd); (first | replace HPB := hide (And.intro (HPB.out.1.later hbd) HPB.out.2) | skip); clear hbd; have g1 : wd.heap.size ≠ w.heap.size := (by have h1 := HF.out.sz; have h2 := HF.out.low; omega); have g2 : wd.heap.size ≠ Lb := (by have h1 := HF.out.sz; have h2 := HF.out.top' (b := Lb) (t := 100) (cs := [.int .i64 x, .int .i64 y, .int .i64 z]) (by simp); omega); have g3 := g1.symm; have g4 := g2.symm; have k0 := (HF.out.blk (b := w.heap.size) (t := 41) (cs := [.slice A n c, .slice B m d]) (by simp)).cell 0 _ rfl; have k1 := (HF.out.blk (b := w.heap.size) (t := 41) (cs := [.slice A n c, .slice B m d]) (by simp)).cell 1 _ rfl; have l0 := (HF.out.blk (b := Lb) (t := 100) (cs := [.int .i64 x, .int .i64 y, .int .i64 z]) (by simp)).cell 0 _ rfl; have l1 := (HF.out.blk (b := Lb) (t := 100) (cs := [.int .i64 x, .int .i64 y, .int .i64 z]) (by simp)).cell 1 _ rfl; have l2 := (HF.out.blk (b := Lb) (t := 100) (cs := [.int .i64 x, .int .i64 y, .int .i64 z]) (by simp)).cell 2 _ rfl; (first | (have b0 := HPB.out.1.cell 0 _ rfl; have b1 := HPB.out.1.cell 1 _ rfl; have b2 := HPB.out.1.cell 2 _ rfl; have b3 := HPB.out.1.frozen 0; have b4 := HPB.out.1.frozen 1; have b5 := HPB.out.1.frozen 2) | skip))))
              all_goals go_wp2_with fail
              all_goals go_meet
              all_goals refine ⟨_, rfl, ?_⟩
              all_goals first | exact HF.out.new _ _ | exact (((HF.out.set (p := ⟨_, 0, none⟩) HPB.out.2 _).set (p := ⟨_, 1, none⟩) HPB.out.2 _).set (p := ⟨_, 2, none⟩) HPB.out.2 _).push (((HPB.out.1.set 0 _).set 1 _).set 2 _) HPB.out.2
            case rest =>
              obtain ⟨L2, rfl, hfk⟩ := hcut
              replace HF := hide hfk
              clear hfk
              have kb0 := (HF.out.blk (b := L1) (t := 100) (cs := [.int .i64 x3, .int .i64 y3, .int .i64 z3]) (by simp)).cell 0 _ rfl
              have kb1 := (HF.out.blk (b := L1) (t := 100) (cs := [.int .i64 x3, .int .i64 y3, .int .i64 z3]) (by simp)).cell 1 _ rfl
              have kb2 := (HF.out.blk (b := L1) (t := 100) (cs := [.int .i64 x3, .int .i64 y3, .int .i64 z3]) (by simp)).cell 2 _ rfl
              have kc0 := (HF.out.blk (b := L2) (t := 100) (cs := [.int .i64 s3, .int .i64 t3, .int .i64 r3]) (by simp)).cell 0 _ rfl
              have kc1 := (HF.out.blk (b := L2) (t := 100) (cs := [.int .i64 s3, .int .i64 t3, .int .i64 r3]) (by simp)).cell 1 _ rfl
              have kc2 := (HF.out.blk (b := L2) (t := 100) (cs := [.int .i64 s3, .int .i64 t3, .int .i64 r3]) (by simp)).cell 2 _ rfl
              have hlef : lef f s (x, y, z) = (x3, y3, z3) := by unfold lef; rw [E1.out, E2.out, E3.out]
              have hrig : rig f s (x, y, z) = (s3, t3, r3) := by unfold rig; rw [G1.out, G2.out, G3.out]
              have htr : trip n (k * n + z) = (x, y, z) := by
                have h := trip_of (n := n) (x := x) hyn hltz
                rw [← HX.out, ← HY.out, pair_eta, HX.out, HY.out] at h
                exact h
              have heq : Eq3 f s n (k * n + z) ↔ (x3, y3, z3) = (s3, t3, r3) := by unfold Eq3; rw [htr, hlef, hrig]
              have hklt : k * n + z < n * n * n := by
                have h := trip_lt (n := n) hxn hyn hltz
                rw [← HX.out, ← HY.out, pair_eta] at h
                exact h
              have HEQ := hide heq
              have HTR := hide htr
              have HKL := hide hklt
              clear hlef hrig htr heq hklt
              have heqv := eq3_run x3 y3 z3 s3 t3 r3 wc
              by_cases hcs : ((x3 : Int) = s3) ∧ ((y3 : Int) = t3) ∧ ((z3 : Int) = r3)
              · rw [decide_eq_true hcs] at heqv
                have hgood : Eq3 f s n (k * n + z) := HEQ.out.2 (by
                  obtain ⟨e1, e2, e3⟩ := hcs
                  have a1 : x3 = s3 := by omega
                  have a2 : y3 = t3 := by omega
                  have a3 : z3 = r3 := by omega
                  rw [a1, a2, a3])
                have HGOOD := hide hgood
                clear hgood hcs
                go_wp2_with fail
                go_roundw
                case rel => exact ⟨z + 1, by omega, by go_num, HF.out.below, HF.out.blk (by simp), HF.out.blk (by simp), HF.out.blk (by simp), HF.out.pairs, fun i hi => by
                  by_cases e : i = k * n + z
                  · rw [e]; exact HGOOD.out
                  · exact HALLI.out i (by omega)⟩
                case measure => simp [intOf]; omega
              · rw [decide_eq_false hcs] at heqv
                have hbad : ¬ Eq3 f s n (k * n + z) := fun h => by
                  have h := HEQ.out.1 h
                  injection h with a1 a2
                  injection a2 with a2 a3
                  exact hcs ⟨by omega, by omega, by omega⟩
                have HTB := hide (HT.out.bad HALLI.out HKL.out hbad)
                clear hbad hcs
                have kd0 := (HF.out.blk (b := Lb) (t := 100) (cs := [.int .i64 x, .int .i64 y, .int .i64 z]) (by simp)).cell 0 _ rfl
                have kd1 := (HF.out.blk (b := Lb) (t := 100) (cs := [.int .i64 x, .int .i64 y, .int .i64 z]) (by simp)).cell 1 _ rfl
                have kd2 := (HF.out.blk (b := Lb) (t := 100) (cs := [.int .i64 x, .int .i64 y, .int .i64 z]) (by simp)).cell 2 _ rfl
                have HO9 := hide (HF.out.blk (b := w.heap.size + 1) (t := 100) (cs := [.int .i64 0, .int .i64 0, .int .i64 0]) (by simp))
                have o0 := HO9.out.cell 0 _ rfl
                have o1 := HO9.out.cell 1 _ rfl
                have o2 := HO9.out.cell 2 _ rfl
                have o3 := HO9.out.frozen 0
                have o4 := HO9.out.frozen 1
                have o5 := HO9.out.frozen 2
                go_wp2_with fail
                refine bp_gen fun wf hwf => ?_
                have hlo : w.heap.size ≤ w.heap.size + 1 := by omega
                have HRF : Blk wf (w.heap.size + 1) 100 [.int .i64 x, .int .i64 y, .int .i64 z] := by rw [hwf]; exact ((HO9.out.set 0 _).set 1 _).set 2 _
                have HBF : Below w.heap.size w wf := by rw [hwf]; exact ((HF.out.below.setCell (p := ⟨w.heap.size + 1, 0, none⟩) hlo _).setCell (p := ⟨w.heap.size + 1, 1, none⟩) hlo _).setCell (p := ⟨w.heap.size + 1, 2, none⟩) hlo _
                clear hwf o0 o1 o2 o3 o4 o5 kd0 kd1 kd2 kb0 kb1 kb2 kc0 kc1 kc2
                have q0 := HRF.cell 0 _ rfl
                have q1 := HRF.cell 1 _ rfl
                have q2 := HRF.cell 2 _ rfl
                exact bodyPost_ret (v := .tuple #[.agg #[.int .i64 x, .int .i64 y, .int .i64 z], .bool true]) (by simp [results, Try.results114, go_sem, q0, q1, q2]) rfl ⟨(x, y, z), true, rfl, HBF, .inl ⟨rfl, by rw [HTB.out]; exact HKL.out, by rw [HTB.out, HTR.out]⟩⟩
        · have hzn' : z = n := by omega
          subst hzn'
          go_wp2_with fail
          go_roundw
          case rel => exact ⟨k + 1, by omega, by go_num, HBc.out, HKc.out, HOc.out, HAc.out, fun i hi => HALLI.out i (by rw [Nat.add_mul, Nat.one_mul] at hi; exact hi)⟩
          case measure => simp [intOf]; omega
    · have hkn : k = N := by omega
      subst hkn
      clear k0 k1 k2 k3
      have o0 := HO.out.cell 0 _ rfl
      have o1 := HO.out.cell 1 _ rfl
      have o2 := HO.out.cell 2 _ rfl
      have o3 := HO.out.frozen 0
      have o4 := HO.out.frozen 1
      have o5 := HO.out.frozen 2
      go_wp2_with fail
      refine bp_gen fun wf hwf => ?_
      have hlo : w.heap.size ≤ w.heap.size + 1 := by omega
      have HRF : Blk wf (w.heap.size + 1) 100 [.int .i64 0, .int .i64 0, .int .i64 0] := by rw [hwf]; exact ((HO.out.set 0 _).set 1 _).set 2 _
      have HBF : Below w.heap.size w wf := by rw [hwf]; exact ((HB.out.setCell (p := ⟨w.heap.size + 1, 0, none⟩) hlo _).setCell (p := ⟨w.heap.size + 1, 1, none⟩) hlo _).setCell (p := ⟨w.heap.size + 1, 2, none⟩) hlo _
      clear hwf o0 o1 o2 o3 o4 o5
      have q0 := HRF.cell 0 _ rfl
      have q1 := HRF.cell 1 _ rfl
      have q2 := HRF.cell 2 _ rfl
      have HTN : T = n * n * n := HT.out.all (fun i hi => HALL.out i (by rw [HN.out] at hi; exact hi))
      exact bodyPost_ret (v := .tuple #[.agg #[.int .i64 (0 : Nat), .int .i64 (0 : Nat), .int .i64 (0 : Nat)], .bool false]) (by simp [results, Try.results114, go_sem, q0, q1, q2]) rfl ⟨(0, 0, 0), false, rfl, HBF, .inr ⟨rfl, HTN⟩⟩
end Go.Proofs.Ytgahmfkmhaeniaa
namespace Go.Proofs.Ytgahmfkmhaeniaa
open Go Go.RowKit Go.ChangeShapes Go.WideShapes
open Go.ChangeMaps (setBlock heap_setBlock_same heap_setBlock_other)
open Go.WideElems (Fit)
open Classical
set_option maxRecDepth 100000

/-- An element of a map reads as itself. -/
def tokR : Value → Option (DataW Value × List MemPlace) := fun v => some (.held v, [])
def pkey (x y : Nat) : Value := .agg #[.int .i64 x, .int .i64 y]
theorem pkey_inj {x y u v : Nat} (h : pkey x y = pkey u v) : x = u ∧ y = v := by
  unfold pkey at h
  injection h with h
  injection h with h
  injection h with h1 h2
  injection h2 with h2 _
  injection h1 with _ h1
  injection h2 with _ h2
  omega
theorem mp_laid : laidOutB Try.prog = true := by kernel_rfl
theorem mp_row : (104 : TypeId) < Try.prog.types.size := of_decide_eq_true (by kernel_rfl)
theorem mp_deep : Try.prog.keyTypeAt (Try.prog.types.size + 1) 104 = true := by kernel_rfl
theorem mp_wide : (match Try.prog.underlying 104 with | some (.array _ _) | some (.struct _) => true | _ => false) = true := by rw [Try.underlying104]
theorem mp_law : WideMaps.KeyLaw Try.prog 104 := deep_law_laid mp_laid (m := 2) (by omega) mp_row (by kernel_rfl) mp_wide
theorem mp_keyed : Maps.Keyed Try.prog 104 := Maps.Keyed.of_law mp_law
theorem mp_cells : Try.prog.cellsOf 104 = 2 := by kernel_rfl
theorem mp_cellsI : Try.prog.cellsOf 2 = 1 := by kernel_rfl
theorem mp_key (w : World) (x y : Nat) (hx : x < 4611686018427387904) (hy : y < 4611686018427387904) : ∃ kl, keyOf Try.prog 104 (pkey x y) = some kl := by
  have hf : (pkey x y).formed Try.prog 104 = true := by simp [pkey, Value.formed, Try.underlying104, mp_cells]
  have wx : (Lit.int .i64 (x : Int)).wf = true := WalkArith.wf_i64 (by omega)
  have wy : (Lit.int .i64 (y : Int)).wf = true := WalkArith.wf_i64 (by omega)
  have ht := trod_struct2_mk (H := Unit) (enc := fun _ => ()) (P := Try.prog) (w := w) (base := 0) (spare := fun _ => true) (held := true) (n := 1) (cs := [.int .i64 (x : Int), .int .i64 (y : Int)]) Try.underlying104 mp_cells.symm
    (by show DataW.trod _ _ _ _ _ _ 1 2 (([Value.int .i64 (x : Int), .int .i64 (y : Int)].drop 0).take (Try.prog.cellsOf 2)) = _; rw [mp_cellsI]; exact trod_int_mk 0 Try.underlying2 wx)
    (by show DataW.trod _ _ _ _ _ _ 1 2 (([Value.int .i64 (x : Int), .int .i64 (y : Int)].drop 1).take (Try.prog.cellsOf 2)) = _; rw [mp_cellsI]; exact trod_int_mk 0 Try.underlying2 wy)
  exact ⟨_, (keyOf_asKey mp_deep mp_wide hf ⟨_, by simpa [pkey, Value.cells] using ht⟩).1⟩

/-- Block b is a map keyed by pairs, of at most n entries, whose values are V. -/
def MapV (w : World) (b n : Nat) (V : Value → Option Value) : Prop :=
  ∃ D : DataW Value, w.ownsMap Try.prog 104 tokR b n D ∧ ∀ key kl, keyOf Try.prog 104 key = some kl → D.atKey kl .nil = (match V key with | some v => .held v | none => .nil)

theorem MapV.made (w : World) : MapV (w.alloc (.map #[] 0)) w.heap.size 0 (fun _ => none) := ⟨_, World.ownsMap_made w _ _ _, fun _ _ _ => rfl⟩
theorem MapV.lt {w : World} {b n : Nat} {V : Value → Option Value} (h : MapV w b n V) : b < w.heap.size := h.elim fun _ h => h.1.lt
theorem MapV.of_block {w w' : World} {b n : Nat} {V : Value → Option Value} (h : MapV w b n V) (e : w'.heap[b]? = w.heap[b]?) : MapV w' b n V := by
  obtain ⟨D, ⟨es, clock, hb, F, hs, hD⟩, hV⟩ := h
  exact ⟨D, ⟨es, clock, e.trans hb, F, hs, hD⟩, hV⟩
theorem MapV.later {w w' : World} {b n : Nat} {V : Value → Option Value} (h : MapV w b n V) (hb : Below w.heap.size w w') : MapV w' b n V := h.of_block (hb.block b h.lt)
theorem MapV.congr {w : World} {b n : Nat} {V V' : Value → Option Value} (h : MapV w b n V) (e : ∀ k, V k = V' k) : MapV w b n V' := by
  have e2 : V = V' := funext e
  rw [← e2]; exact h

theorem MapV.look {w : World} {b n : Nat} {V : Value → Option Value} {t e : TypeId} (h : MapV w b n V) (ht : Try.prog.underlying t = some (.map 104 e)) {z : Value} (hz : (zeroValue e).run Try.prog w = .ok z w) {key : Value} {kl : Lit} (hkey : keyOf Try.prog 104 key = some kl) :
    (Instr.lookup t (.map (some b)) key false).run Try.prog w = .ok ((V key).getD z) w := by
  obtain ⟨D, ⟨es, clock, hb, F, hs, rfl⟩, hV⟩ := h
  have hk := hV key kl hkey
  rcases Maps.fit_look false mp_keyed ht hz hb F hkey with ⟨hrun, _, hat⟩ | ⟨e0, y, _, _, hrun, hR, hat, _⟩
  · rw [hat] at hk
    cases e : V key with
    | none => simpa using hrun
    | some v => rw [e] at hk; cases hk
  · rw [hat] at hk
    have hy : y = (.held e0.val, []) := by unfold tokR at hR; injection hR with hR; exact hR.symm
    subst hy
    cases e : V key with
    | none => rw [e] at hk; cases hk
    | some v =>
      rw [e] at hk
      injection hk with hk
      rw [← hk]
      simpa using hrun

theorem MapV.entry {w : World} {b n : Nat} {V : Value → Option Value} {t e : TypeId} (h : MapV w b n V) (ht : Try.prog.underlying t = some (.map 104 e)) {z : Value} (hz : ∀ u : World, (zeroValue e).run Try.prog u = .ok z u) (hn : n < maxLen) {key : Value} {kl : Lit} (hkey : keyOf Try.prog 104 key = some kl) :
    ∃ st es1 clock1, (Instr.mapEntry t (.map (some b)) key).run Try.prog w = .ok (.tuple #[(V key).getD z, goInt st]) (setBlock w b (.map es1 clock1)) ∧
      ∀ (w2 : World) (val : Value), w2.heap[b]? = some (.map es1 clock1) → ∃ es' clock', (Instr.entryStore t (.map (some b)) (goInt st) val).run Try.prog w2 = .ok () (setBlock w2 b (.map es' clock')) ∧
        MapV (setBlock w2 b (.map es' clock')) b (n + 1) (fun k => if k = key then some val else V k) := by
  have hlook := h.look ht (hz w) hkey
  obtain ⟨D, how, hV⟩ := h
  have how0 := how
  obtain ⟨es, clock, hb, F, hs, rfl⟩ := how
  obtain ⟨v0, st, es1, clock1, hE, hcase, hS⟩ := WideElems.entry_then_store mp_law ht hz hb F hkey
  have hv0 : v0 = (V key).getD z := by
    have hk := hV key kl hkey
    rcases Maps.fit_look false mp_keyed ht (hz w) hb F hkey with ⟨_, hno, hat⟩ | ⟨e0, y, hm0, hk0, hrun, hR, hat, _⟩
    · rw [hat] at hk
      rcases hcase with ⟨e1, hm1, hk1, _⟩ | ⟨_, e1⟩
      · exact absurd hk1 (hno e1 hm1)
      · cases e : V key with
        | none => rw [e1]; rfl
        | some v => rw [e] at hk; cases hk
    · rcases hcase with ⟨e1, hm1, hk1, hv1⟩ | ⟨hno, _⟩
      · have hnd := F.stamped.2.2
        have he : e0 = e1 := by
          obtain ⟨i, hi, hi2⟩ := List.getElem_of_mem hm0
          obtain ⟨j, hj, hj2⟩ := List.getElem_of_mem hm1
          have hij : i = j := by
            have e : (es.toList.map (·.key))[i]'(by simpa using hi) = (es.toList.map (·.key))[j]'(by simpa using hj) := by
              simp only [List.getElem_map]
              rw [hi2, hj2, hk0, hk1]
            exact (List.getElem_inj hnd).1 e
          subst hij
          rw [← hi2, hj2]
        have h2 := hrun.symm.trans hlook
        simp at h2
        rw [hv1, ← he]
        exact h2
      · exact absurd hk0 (hno e0 hm0)
  refine ⟨st, es1, clock1, by rw [← hv0]; exact hE, fun w2 val hw2 => ?_⟩
  obtain ⟨es', clock', hrun2, hU⟩ := hS w2 val hw2
  refine ⟨es', clock', hrun2, ?_⟩
  obtain ⟨w', hU2, how2, _⟩ := how0.update mp_keyed ht hn hkey (show tokR val = some (.held val, []) from rfl)
  have hw' : w' = setBlock w b (.map es' clock') := by
    have h2 := hU2.symm.trans hU
    simpa using h2
  subst hw'
  refine MapV.of_block (w := setBlock w b (.map es' clock')) ⟨_, how2, fun key' kl' hkey' => ?_⟩ ?_
  · by_cases e : key' = key
    · subst e
      have e2 : kl' = kl := by rw [hkey] at hkey'; injection hkey' with hkey'; exact hkey'.symm
      subst e2
      rw [Maps.atKey_put_same ⟨_, rfl⟩ (mp_keyed.key hkey)]
      simp
    · have hne : kl' ≠ kl := fun e2 => e (mp_keyed.inj hkey' (e2 ▸ hkey))
      rw [Maps.atKey_put_other hne, hV key' kl' hkey']
      simp [e]
  · rw [heap_setBlock_same hw2, heap_setBlock_same hb]
end Go.Proofs.Ytgahmfkmhaeniaa
namespace Go.Proofs.Ytgahmfkmhaeniaa
open Go Go.RowKit
open Go.ChangeMaps (setBlock heap_setBlock_same heap_setBlock_other)
open Classical
set_option maxRecDepth 100000

/-- The map from each pair to the list of those that are led to it, among the first k: G tells the slices. -/
structure Led (w : World) (b B n k : Nat) (f s : List (List Int)) (G : Nat × Nat → Value) : Prop where
  map : ∃ V, MapV w b k V ∧ ∀ p : Nat × Nat, (V (pkey p.1 p.2)).getD (.slice none 0 0) = G p
  low : b < B
  rows : ∀ p : Nat × Nat, w.ownsRow B 104 2 (G p) (ledL f s n k p).length (pcs n (ledL f s n k p))
  ne : ∀ (p p' : Nat × Nat) (g : Nat), p ≠ p' → (G p).ownBlock = some g → (G p').ownBlock ≠ some g

theorem Led.start {w : World} {b : Nat} {V : Value → Option Value} (h : MapV w b 0 V) (hV : ∀ v, V v = none) (B n : Nat) (f s : List (List Int)) (hb : b < B) : Led w b B n 0 f s (fun _ => .slice none 0 0) :=
  ⟨⟨V, h, fun p => by rw [hV]; rfl⟩, hb, fun p => ⟨by simp [ledL, pcs], .inl ⟨rfl, by simp [ledL]⟩⟩, fun _ _ _ _ h => by cases h⟩
theorem Led.lt {w : World} {b B n k : Nat} {f s : List (List Int)} {G : Nat × Nat → Value} (h : Led w b B n k f s G) : b < w.heap.size := by
  obtain ⟨V, hm, _⟩ := h.map
  exact hm.lt
theorem ownsRow2_later {w w' : World} {B n : Nat} {t : TypeId} {v : Value} {xs : List Value} (h : w.ownsRow B t 2 v n xs) (hb : Below w.heap.size w w') : w'.ownsRow B t 2 v n xs := by
  obtain ⟨hl, h | ⟨g, cap, cur, hv, h1, hg, hn, hcap, hsz, hxs⟩⟩ := h
  · exact ⟨hl, .inl h⟩
  · exact ⟨hl, .inr ⟨g, cap, cur, hv, h1, (hb.block g (Array.getElem?_eq_some_iff.1 hg).1).trans hg, hn, hcap, hsz, hxs⟩⟩
theorem Led.later {w w' : World} {b B n k : Nat} {f s : List (List Int)} {G : Nat × Nat → Value} (h : Led w b B n k f s G) (hb : Below w.heap.size w w') : Led w' b B n k f s G := by
  obtain ⟨⟨V, hm, hV⟩, h1, h2, h3⟩ := h
  exact ⟨⟨V, hm.later hb, hV⟩, h1, fun p => ownsRow2_later (h2 p) hb, h3⟩

theorem led_low {w : World} {b B n k : Nat} {f s : List (List Int)} {G : Nat × Nat → Value} (h : Led w b B n k f s G) (p : Nat × Nat) : some b ≠ (G p).ownBlock := fun e => by
  have h1 := (h.rows p).lt b e.symm
  have h2 := h.low
  omega

/-- A pair is appended to the list at the pair to which it is led: the entry is looked up, the slice appended to, and laid back. -/
theorem Led.step {w : World} {b B n k : Nat} {f s : List (List Int)} {G : Nat × Nat → Value} {t : TypeId} (h : Led w b B n k f s G) (ht : Try.prog.underlying t = some (.map 104 107)) (hz : ∀ u : World, (zeroValue 107).run Try.prog u = .ok (.slice none 0 0) u) (hk : k < maxLen) (q : Nat × Nat) (hq : ledK f s n k = q) (hq1 : q.1 < 4611686018427387904) (hq2 : q.2 < 4611686018427387904) :
    ∃ st W, (Instr.mapEntry t (.map (some b)) (.agg #[.int .i64 q.1, .int .i64 q.2])).run Try.prog w = .ok (.tuple #[G q, .int .i64 st]) W ∧ (∀ i, i ≠ b → W.heap[i]? = w.heap[i]?) ∧ W.heap.size = w.heap.size ∧ w.grownBy W (some b) ∧
      (W.ownsRow B 104 2 (G q) (ledL f s n k q).length (pcs n (ledL f s n k q))) ∧
      ∀ (w1 : World) (v' : Value), W.grownBy w1 (G q).ownBlock → w1.ownsRow B 104 2 v' ((ledL f s n k q).length + 1) (pcs n (ledL f s n k q) ++ [.int .i64 ((k / n : Nat) : Int), .int .i64 ((k % n : Nat) : Int)]) → (v'.ownBlock = (G q).ownBlock ∨ v'.ownBlock = some W.heap.size) →
        ∃ w3, (Instr.entryStore t (.map (some b)) (.int .i64 st) v').run Try.prog w1 = .ok () w3 ∧ w1.grownBy w3 (some b) ∧ Led w3 b B n (k + 1) f s (fun p => if p = q then v' else G p) := by
  obtain ⟨V, hm, hV⟩ := h.map
  have hlow := h.low
  have hrows := h.rows
  have hne := h.ne
  have hltb := hm.lt
  obtain ⟨kl, hkey⟩ := mp_key w q.1 q.2 hq1 hq2
  obtain ⟨st, es1, clock1, hE, hS⟩ := hm.entry ht hz hk hkey
  have hbk : ∃ es clock, w.heap[b]? = some (.map es clock) := by
    obtain ⟨D, ⟨es, clock, hb, _⟩, _⟩ := hm
    exact ⟨es, clock, hb⟩
  obtain ⟨es0, clock0, hb0⟩ := hbk
  have hother : ∀ i, i ≠ b → (setBlock w b (.map es1 clock1)).heap[i]? = w.heap[i]? := fun i hi => heap_setBlock_other hb0 _ hi
  have hsize : (setBlock w b (.map es1 clock1)).heap.size = w.heap.size := by simp [setBlock]
  have hgr : w.grownBy (setBlock w b (.map es1 clock1)) (some b) := ⟨rfl, rfl, rfl, by simp [setBlock], fun i _ hi => heap_setBlock_other hb0 _ (fun e => hi (by rw [e]))⟩
  have hkeep : ∀ p : Nat × Nat, (setBlock w b (.map es1 clock1)).ownsRow B 104 2 (G p) (ledL f s n k p).length (pcs n (ledL f s n k p)) := fun p => (hrows p).kept hgr (by
    cases e : (G p).ownBlock with
    | none => exact .inl rfl
    | some g => exact .inr (fun e2 => led_low h p (by rw [e, e2])))
  refine ⟨st, setBlock w b (.map es1 clock1), ?_, hother, hsize, hgr, hkeep q, fun w1 v' hg1 hown hat => ?_⟩
  · rw [← hV q]; exact hE
  have hb1 : w1.heap[b]? = some (.map es1 clock1) := (hg1.block b (by rw [hsize]; exact hltb) (led_low h q)).trans (heap_setBlock_same hb0 _)
  obtain ⟨es', clock', hrun, hMap⟩ := hS w1 v' hb1
  have hgr3 : w1.grownBy (setBlock w1 b (.map es' clock')) (some b) := ⟨rfl, rfl, rfl, by simp [setBlock], fun i _ hi => heap_setBlock_other hb1 _ (fun e => hi (by rw [e]))⟩
  refine ⟨setBlock w1 b (.map es' clock'), hrun, hgr3, ⟨_, hMap, fun p => ?_⟩, hlow, fun p => ?_, fun p p' g hpp hg hg' => ?_⟩
  · by_cases e : p = q
    · subst e
      simp
    · have e2 : pkey p.1 p.2 ≠ pkey q.1 q.2 := fun e3 => e (by
        obtain ⟨e4, e5⟩ := pkey_inj e3
        exact Prod.ext e4 e5)
      simp only [if_neg e, if_neg e2]
      exact hV p
  · rw [ledL_succ]
    by_cases e : p = q
    · subst e
      simp only [if_pos, hq]
      rw [List.length_append, List.length_singleton, pcs_snoc]
      refine hown.kept hgr3 ?_
      cases e : v'.ownBlock with
      | none => exact .inl rfl
      | some g =>
        refine .inr (fun e2 => ?_)
        injection e2 with e2
        have := hown.lt g e
        omega
    · have e2 : ¬ ledK f s n k = p := fun e3 => e (e3.symm.trans hq)
      simp only [if_neg e, if_neg e2]
      have h1 : w1.ownsRow B 104 2 (G p) (ledL f s n k p).length (pcs n (ledL f s n k p)) := (hkeep p).kept hg1 (by
        cases e3 : (G p).ownBlock with
        | none => exact .inl rfl
        | some g => exact .inr (fun e4 => hne p q g e e3 e4.symm))
      refine h1.kept hgr3 ?_
      cases e3 : (G p).ownBlock with
      | none => exact .inl rfl
      | some g => exact .inr (fun e4 => led_low h p (by rw [e3, e4]))
  · have hnew : ∀ p'', p'' ≠ q → ∀ g, v'.ownBlock = some g → (G p'').ownBlock ≠ some g := fun p'' hp g hg hg' => by
      rcases hat with e | e
      · exact hne p'' q g hp hg' (e ▸ hg)
      · rw [hg] at e
        injection e with e
        have := (hrows p'').lt g hg'
        omega
    by_cases e : p = q
    · have e2 : p' ≠ q := fun e2 => hpp (e.trans e2.symm)
      simp only [if_pos e] at hg
      simp only [if_neg e2] at hg'
      exact hnew p' e2 g hg hg'
    · simp only [if_neg e] at hg
      by_cases e2 : p' = q
      · simp only [if_pos e2] at hg'
        exact hnew p e g hg' hg
      · simp only [if_neg e2] at hg'
        exact hne p p' g hpp hg hg'
end Go.Proofs.Ytgahmfkmhaeniaa
namespace Go.Proofs.Ytgahmfkmhaeniaa
open Go Go.RowKit
set_option maxHeartbeats 4000000
theorem colInfo2 : (Try.prog.info? 104).map (fun i => (i.zero, i.size, i.bytes)) = some (some (.agg #[.int .i64 0, .int .i64 0]), 2, 16) := by kernel_rfl
theorem colZero (u : World) : (zeroValue 107).run Try.prog u = .ok (.slice none 0 0) u := by kernel_rfl
theorem ck_new {w : World} {v v2 : Value} {t : TypeId} : ∀ j u, [v, v2][j]? = some u → (w.alloc (.cells #[v, v2] t)).cell? ((⟨w.heap.size, 0, none⟩ : Addr).add j) = some u := by
  intro j u hj
  match j, hj with
  | 0, hj => simp at hj; subst hj; simp [Addr.add, World.cell?_alloc_new]
  | 1, hj => simp at hj; subst hj; simp [Addr.add, World.cell?_alloc_new]

set_option maxRecDepth 100000 in
theorem coll_any (A : Option Addr) (n c : Nat) (f : List (List Int)) (B : Option Addr) (m d : Nat) (s : List (List Int)) (w : World) (hz : ZArg 1048576 w A n f B m s) (hp : PMap f s) :
    Calls Try.prog 115 #[.agg #[.slice A n c, .slice B m d]] w fun e w' => Below w.heap.size w w' ∧ ((NoCol f s n ∧ e = .returned (.tuple #[.agg #[.int .i64 (0 : Nat), .int .i64 (0 : Nat)], .agg #[.int .i64 (0 : Nat), .int .i64 (0 : Nat)], .bool false])) ∨
      ∃ a b, FstCol f s n a b ∧ e = .returned (.tuple #[.agg #[.int .i64 (a / n : Nat), .int .i64 (a % n : Nat)], .agg #[.int .i64 (b / n : Nat), .int .i64 (b % n : Nat)], .bool true])) := by
  have hnb := hz.sz.nb
  have HZ := hide hz
  have HP := hide hp
  have HFL := hide hz.sz.fl
  have h12 := hz.small hp
  obtain ⟨N, hN⟩ : ∃ N, n * n = N := ⟨_, rfl⟩
  have hN144 : N ≤ 144 := by rw [← hN]; exact sq_le n h12.2
  have HN := hide hN
  obtain ⟨i0, hi, hz0, hz1, hz2⟩ := info_parts colInfo2
  have hmm := @run_makeMap Try.prog
  clear hp hz hN
  go_enter Try.func115, Try.ntmps115
  go_wp2_with fail
  clear hmm
  refine calls_gen fun w0 hw0 => ?_
  have HB0 : Hid (Below w.heap.size w w0) := hide (by rw [hw0]; exact ((((Below.refl _ _).alloc (Nat.le_refl _) _).alloc (by simp) _).alloc (by simp; omega) _).alloc (by simp; omega) _)
  have HK0 : Hid (Blk w0 w.heap.size 41 [.slice A n c, .slice B m d]) := hide (by rw [hw0]; exact (((Blk.new _ _ _).alloc _).alloc _).alloc _)
  have HO0 : Hid (Blk w0 (w.heap.size + 1) 104 [.int .i64 0, .int .i64 0]) := hide (by rw [hw0]; have h := ((Blk.new (w.alloc (Obj.cells #[Value.slice A n c, Value.slice B m d] 41)) 104 [.int .i64 0, .int .i64 0]).alloc (Obj.cells #[.int .i64 0, .int .i64 0] 104)).alloc (.map #[] 0); simpa using h)
  have HU0 : Hid (Blk w0 (w.heap.size + 1 + 1) 104 [.int .i64 0, .int .i64 0]) := hide (by rw [hw0]; have h := (Blk.new ((w.alloc (Obj.cells #[Value.slice A n c, Value.slice B m d] 41)).alloc (Obj.cells #[.int .i64 0, .int .i64 0] 104)) 104 [.int .i64 0, .int .i64 0]).alloc (.map #[] 0); simpa using h)
  have HM0 : Hid (MapV w0 (w.heap.size + 1 + 1 + 1) 0 (fun _ => none)) := hide (by rw [hw0]; have h := MapV.made (((w.alloc (Obj.cells #[Value.slice A n c, Value.slice B m d] 41)).alloc (Obj.cells #[.int .i64 0, .int .i64 0] 104)).alloc (Obj.cells #[.int .i64 0, .int .i64 0] 104)); simpa using h)
  clear hw0
  refine (size_any _ _ _ _ _ _ _ hnb).mono ?_
  rintro e w2 ⟨rfl, hb2⟩
  have HB2 := hide (HB0.out.trans (hb2.mono HB0.out.size))
  have HK2 := hide (HK0.out.later hb2)
  have HO2 := hide (HO0.out.later hb2)
  have HU2 := hide (HU0.out.later hb2)
  have HM2 := hide (HM0.out.later hb2)
  clear hb2
  go_wp2_with fail
  refine (pairsOf_any n N _ h12.1 h12.2 HN.out).mono ?_
  rintro e w3 ⟨g, rfl, hb3, hg3, hpa⟩
  have HB3 := hide (HB2.out.trans (hb3.mono HB2.out.size))
  have HK3 := hide (HK2.out.later hb3)
  have HO3 := hide (HO2.out.later hb3)
  have HU3 := hide (HU2.out.later hb3)
  have HPA3 := hide hpa
  obtain ⟨L0, hL0⟩ : ∃ L0, w3.heap.size = L0 := ⟨_, rfl⟩
  have HL3 : Hid (Led w3 (w.heap.size + 1 + 1 + 1) L0 n 0 f s (fun _ => .slice none 0 0)) := hide (Led.start (HM2.out.later hb3) (fun _ => rfl) _ _ _ _ (by rw [← hL0]; exact (HM2.out.later hb3).lt))
  have hgL : g < L0 := by rw [← hL0]; exact hpa.1
  have hgb : g ≠ w.heap.size + 1 + 1 + 1 := by have := HM2.out.lt; omega
  have hmL : w.heap.size + 1 + 1 + 1 < L0 := by rw [← hL0]; exact (HM2.out.later hb3).lt
  have hLs : L0 ≤ w3.heap.size := by omega
  clear hb3 hpa hL0
  go_wp2_with fail
  go_outline
  go_loopw [17] (fun i wr => ∃ (k : Nat) (G : Nat × Nat → Value), k ≤ N ∧ i = .int .i64 k ∧ Below w.heap.size w wr ∧ Blk wr w.heap.size 41 [.slice A n c, .slice B m d] ∧ Blk wr (w.heap.size + 1) 104 [.int .i64 0, .int .i64 0] ∧ Blk wr (w.heap.size + 1 + 1) 104 [.int .i64 0, .int .i64 0] ∧ PairsAt wr g n ∧ L0 ≤ wr.heap.size ∧ Led wr (w.heap.size + 1 + 1 + 1) L0 n k f s G) (fun i _ => N - (intOf i).toNat)
  case atStart => exact ⟨0, _, Nat.zero_le _, rfl, HB3.out, HK3.out, HO3.out, HU3.out, HPA3.out, hLs, HL3.out⟩
  case round =>
    obtain ⟨k, G, hk, rfl, hbe, hkk, hoo, huu, hpa, hls, hled⟩ := hrel
    have HB := hide hbe
    have HK := hide hkk
    have HO := hide hoo
    have HU := hide huu
    have HPA := hide hpa
    have HLD := hide hled
    clear hbe hkk hoo huu hpa hled
    by_cases hlt : k < N
    · have hkz : (k : Int) < N := by omega
      obtain ⟨p0, p1⟩ := HPA.out.2 k (by rw [HN.out]; exact hlt)
      have hxn : k / n < n := div_lt_sq (by rw [HN.out]; exact hlt)
      have hyn : k % n < n := mod_lt_sq (by rw [HN.out]; exact hlt)
      obtain ⟨x, hx⟩ : ∃ x, k / n = x := ⟨_, rfl⟩
      obtain ⟨y, hy⟩ : ∃ y, k % n = y := ⟨_, rfl⟩
      rw [hx] at p0 hxn
      rw [hy] at p1 hyn
      have HX := hide hx
      have HY := hide hy
      clear hx hy
      have hu := HP.out.lt1 HFL.out hxn hyn
      have hv := HP.out.lt2 HFL.out hxn hyn
      have hq : ledK f s n k = (ap f x y, ap s x y) := by unfold ledK; rw [HX.out, HY.out]
      obtain ⟨u, hue⟩ : ∃ u, ap f x y = u := ⟨_, rfl⟩
      obtain ⟨v, hve⟩ : ∃ v, ap s x y = v := ⟨_, rfl⟩
      rw [hue, hve] at hq
      rw [hue] at hu
      rw [hve] at hv
      have HQ := hide hq
      have HUE := hide hue
      have HVE := hide hve
      clear hq hue hve
      have k0 := fun o => (HK.out.alloc o).cell 0 _ rfl
      have k1 := fun o => (HK.out.alloc o).cell 1 _ rfl
      go_wp2_with fail
      clear k0 k1 p0 p1
      refine calls_gen fun w4 hw4 => ?_
      obtain ⟨P, hPe⟩ : ∃ P, wr.heap.size = P := ⟨_, rfl⟩
      have hbx : Below wr.heap.size wr w4 := by rw [hw4]; exact (Below.refl _ _).alloc (Nat.le_refl _) _
      have HP4 : Hid (Blk w4 P 104 [.int .i64 x, .int .i64 y]) := hide (by rw [hw4, ← hPe]; exact Blk.new _ _ _)
      have HB4 := hide (HB.out.trans (hbx.mono HB.out.size))
      have HK4 := hide (HK.out.later hbx)
      have HO4 := hide (HO.out.later hbx)
      have HU4 := hide (HU.out.later hbx)
      have HA4 := hide (HPA.out.later hbx)
      have HL4 := hide (HLD.out.later hbx)
      have hs4 := hbx.size
      rw [hPe]
      clear hw4 hbx
      refine (lead_any _ _ _ f _ _ _ s x y _ (HZ.out.later HB4.out) HP.out hxn hyn).mono ?_
      rintro e w5 ⟨rfl, hb5⟩
      rw [HUE.out, HVE.out]
      have HP5 := hide (HP4.out.later hb5)
      have HB5 := hide (HB4.out.trans (hb5.mono HB4.out.size))
      have HK5 := hide (HK4.out.later hb5)
      have HO5 := hide (HO4.out.later hb5)
      have HU5 := hide (HU4.out.later hb5)
      have HA5 := hide (HA4.out.later hb5)
      have HL5 := hide (HL4.out.later hb5)
      have hs5 := hb5.size
      clear hb5 hPe
      have p0 := fun o => (HP5.out.alloc o).cell 0 _ rfl
      have p1 := fun o => (HP5.out.alloc o).cell 1 _ rfl
      -- the world behind the box of q and the cells of the pair that is appended
      obtain ⟨w6, hw6⟩ : ∃ w6, w6 = (w5.alloc (Obj.cells #[Value.int IntKind.i64 u, Value.int IntKind.i64 v] 104)) := ⟨_, rfl⟩
      have hb6 : Below w5.heap.size w5 w6 := by rw [hw6]; exact (Below.refl _ _).alloc (Nat.le_refl _) _
      have hs6 : w6.heap.size = w5.heap.size + 1 := by rw [hw6]; simp
      obtain ⟨w7, hw7⟩ : ∃ w7, w7 = (w6.alloc (Obj.cells #[Value.int IntKind.i64 x, Value.int IntKind.i64 y] 104)) := ⟨_, rfl⟩
      have hb7 : Below w6.heap.size w6 w7 := by rw [hw7]; exact (Below.refl _ _).alloc (Nat.le_refl _) _
      have hs7 : w7.heap.size = w6.heap.size + 1 := by rw [hw7]; simp
      have hb57 : Below w5.heap.size w5 w7 := hb6.trans (hb7.mono hb6.size)
      have HB7 := hide (HB5.out.trans (hb57.mono HB5.out.size))
      have HK7 := hide (HK5.out.later hb57)
      have HO7 := hide (HO5.out.later hb57)
      have HU7 := hide (HU5.out.later hb57)
      have HA7 := hide (HA5.out.later hb57)
      have HL7 := hide (HL5.out.later hb57)
      obtain ⟨st, W, hE, hWo, hWs, hWg, hWr, hstep⟩ := HL7.out.step (t := 122) Try.underlying122 colZero (by unfold maxLen; omega) (u, v) HQ.out (by show u < _; omega) (by show v < _; omega)
      have hnew : ∀ j z, [Value.int IntKind.i64 (x : Int), Value.int IntKind.i64 (y : Int)][j]? = some z → W.cell? ((⟨w6.heap.size, 0, none⟩ : Addr).add j) = some z := fun j z hj => by
        have e : W.heap[w6.heap.size]? = w7.heap[w6.heap.size]? := hWo w6.heap.size (by have := HL5.out.lt; omega)
        have e2 : w7.cell? ((⟨w6.heap.size, 0, none⟩ : Addr).add j) = some z := by rw [hw7]; exact ck_new j z hj
        have hbl : ((⟨w6.heap.size, 0, none⟩ : Addr).add j).block = w6.heap.size := by unfold Addr.add; split <;> rfl
        rw [← e2]
        exact World.cell?_of_block (w := w7) (w' := W) (a := (⟨w6.heap.size, 0, none⟩ : Addr).add j) (by rw [hbl]; exact e)
      have HWO := hide hWo
      have HSTEP := hide hstep
      have HWR := hide hWr
      have HWG := hide hWg
      have HW67 := hide hw7
      rw [hw7, hw6] at hE
      have hE' : (Instr.mapEntry 122 (.map (some (w.heap.size + 1 + 1 + 1))) (.agg #[.int .i64 (u : Int), .int .i64 (v : Int)])).run Try.prog ((w5.alloc (Obj.cells #[Value.int IntKind.i64 u, Value.int IntKind.i64 v] 104)).alloc (Obj.cells #[Value.int IntKind.i64 x, Value.int IntKind.i64 y] 104)) = .ok (.tuple #[G (u, v), .int .i64 st]) W := hE
      rw [hs6] at hnew
      clear hE hWo hstep hWr hWg hw7
      have hLb := ledL_len f s n k (u, v)
      go_wp2_with (at_builtin; refine wpList_append_own_at _ rfl _ _ 107 rfl L0 104 i0 (.agg #[.int .i64 0, .int .i64 0]) 2 16 Try.underlying107 hi hz0 hz1 hz2 rfl (by decide) _ _ _ rfl HWR.out ⟨w5.heap.size + 1, 0, none⟩ 1 1 [.int .i64 (x : Int), .int .i64 (y : Int)] rfl rfl ?c1 ?c2 ?c3 ?c4 ?c5 ?_)
      case c1 => exact hnew
      case c2 => intro z hz9; simp at hz9; rcases hz9 with rfl | rfl <;> rfl
      case c3 => unfold maxLen; omega
      case c4 => omega
      case c5 => omega
      intro v' w8 hown8 hgrow8 _ hat8
      rw [← HX.out, ← HY.out] at hown8
      obtain ⟨w9, hS, hg9, hLed9⟩ := HSTEP.out w8 v' hgrow8 hown8 (hat8.imp id (fun h => by rw [h]; congr 1; omega))
      have hown : ∀ j, (G (u, v)).ownBlock = some j → L0 ≤ j := fun j hj => (HWR.out.lt j hj).1
      have hs8 := hgrow8.size
      have hs9 := hg9.size
      have hfr : ∀ i, i < L0 → i ≠ w.heap.size + 1 + 1 + 1 → w9.heap[i]? = w7.heap[i]? := fun i h1 h2 => by
        have e1 := HWO.out i h2
        have e2 := hgrow8.block i (by omega) (fun e => by have := hown i e.symm; omega)
        have e3 := hg9.block i (by omega) (fun e => by injection e with e; omega)
        rw [e3, e2, e1]
      have HB9 : Hid (Below w.heap.size w w9) := hide (by
        have h7 := HB7.out
        have s7 := h7.size
        have h8 := h7.grown HWG.out s7 (fun j e => by injection e with e; omega)
        have h9 := h8.grown hgrow8 (by omega) (fun j e => by have := hown j e; omega)
        exact h9.grown hg9 (by omega) (fun j e => by injection e with e; omega))
      have HK9 : Hid (Blk w9 w.heap.size 41 [.slice A n c, .slice B m d]) := hide ((hfr _ (by omega) (by omega)).trans HK7.out)
      have HO9 : Hid (Blk w9 (w.heap.size + 1) 104 [.int .i64 0, .int .i64 0]) := hide ((hfr _ (by omega) (by omega)).trans HO7.out)
      have HU9 : Hid (Blk w9 (w.heap.size + 1 + 1) 104 [.int .i64 0, .int .i64 0]) := hide ((hfr _ (by omega) (by omega)).trans HU7.out)
      have HA9 : Hid (PairsAt w9 g n) := hide (by
        have e := hfr g hgL hgb
        refine ⟨by omega, fun j hj => ?_⟩
        rw [World.cell?_of_block (a := ⟨g, j * 2, none⟩) e, World.cell?_of_block (a := ⟨g, j * 2 + 1, none⟩) e]
        exact HA7.out.2 j hj)
      have HL9 := hide hLed9
      clear hnew hown8 hgrow8 hat8 hg9 hLed9 hfr hown p0 p1 hE'
      go_wp2_with fail
      go_roundw
      case rel => exact ⟨k + 1, _, by omega, by go_num, HB9.out, HK9.out, HO9.out, HU9.out, HA9.out, by omega, HL9.out⟩
      case measure => simp [intOf]; omega
    · have hkn : k = N := by omega
      subst hkn
      have k0 := HK.out.cell 0 _ rfl
      have k1 := HK.out.cell 1 _ rfl
      go_wp2_with fail
      clear k0 k1
      refine (size_any _ _ _ _ _ _ _ hnb).mono ?_
      rintro e w4 ⟨rfl, hb4⟩
      have HB4 := hide (HB.out.trans (hb4.mono HB.out.size))
      have HK4 := hide (HK.out.later hb4)
      have HO4 := hide (HO.out.later hb4)
      have HU4 := hide (HU.out.later hb4)
      have HL4 := hide (HLD.out.later hb4)
      clear hb4
      go_wp2_with fail
      refine (pairsOf_any n k _ h12.1 h12.2 HN.out).mono ?_
      rintro e w5 ⟨g2, rfl, hb5, hg5, hpa5⟩
      have HB5 := hide (HB4.out.trans (hb5.mono HB4.out.size))
      have HK5 := hide (HK4.out.later hb5)
      have HO5 := hide (HO4.out.later hb5)
      have HU5 := hide (HU4.out.later hb5)
      have HL5 := hide (HL4.out.later hb5)
      have HA5 := hide hpa5
      clear hb5 hpa5
      go_wp2_with fail
      go_outline
      go_loopw [37] (fun i wr => ∃ j : Nat, j ≤ k ∧ i = .int .i64 j ∧ Below w.heap.size w wr ∧ Blk wr w.heap.size 41 [.slice A n c, .slice B m d] ∧ Blk wr (w.heap.size + 1) 104 [.int .i64 0, .int .i64 0] ∧ Blk wr (w.heap.size + 1 + 1) 104 [.int .i64 0, .int .i64 0] ∧ PairsAt wr g2 n ∧ Led wr (w.heap.size + 1 + 1 + 1) L0 n k f s G ∧ ∀ i, i < j → (ledL f s n (n * n) (ledK f s n i)).length ≤ 1) (fun i _ => k - (intOf i).toNat)
      case atStart => exact ⟨0, Nat.zero_le _, rfl, HB5.out, HK5.out, HO5.out, HU5.out, HA5.out, HL5.out, fun i hi => absurd hi (Nat.not_lt_zero _)⟩
      case round =>
        obtain ⟨j, hj, rfl, hbe, hkk, hoo, huu, hpa, hled, hall⟩ := hrel
        have HBr := hide hbe
        have HKr := hide hkk
        have HOr := hide hoo
        have HUr := hide huu
        have HAr := hide hpa
        have HLr := hide hled
        have HALL := hide hall
        clear hbe hkk hoo huu hpa hled hall
        by_cases hltj : j < k
        · have hjz : (j : Int) < k := by omega
          obtain ⟨p0, p1⟩ := HAr.out.2 j (by rw [HN.out]; exact hltj)
          have hxn : j / n < n := div_lt_sq (by rw [HN.out]; exact hltj)
          have hyn : j % n < n := mod_lt_sq (by rw [HN.out]; exact hltj)
          obtain ⟨x, hx⟩ : ∃ x, j / n = x := ⟨_, rfl⟩
          obtain ⟨y, hy⟩ : ∃ y, j % n = y := ⟨_, rfl⟩
          rw [hx] at p0 hxn
          rw [hy] at p1 hyn
          have HX := hide hx
          have HY := hide hy
          clear hx hy
          have hu := HP.out.lt1 HFL.out hxn hyn
          have hv := HP.out.lt2 HFL.out hxn hyn
          have hq : ledK f s n j = (ap f x y, ap s x y) := by unfold ledK; rw [HX.out, HY.out]
          obtain ⟨u, hue⟩ : ∃ u, ap f x y = u := ⟨_, rfl⟩
          obtain ⟨v, hve⟩ : ∃ v, ap s x y = v := ⟨_, rfl⟩
          rw [hue, hve] at hq
          rw [hue] at hu
          rw [hve] at hv
          have HQ := hide hq
          have HUE := hide hue
          have HVE := hide hve
          have hmem : j ∈ ledL f s n k (u, v) := ledL_mem.2 ⟨hltj, hq⟩
          clear hq hue hve
          have k0 := fun o => (HKr.out.alloc o).cell 0 _ rfl
          have k1 := fun o => (HKr.out.alloc o).cell 1 _ rfl
          go_wp2_with fail
          clear k0 k1 p0 p1
          refine calls_gen fun w6 hw6 => ?_
          obtain ⟨P, hPe⟩ : ∃ P, wr.heap.size = P := ⟨_, rfl⟩
          have hbx : Below wr.heap.size wr w6 := by rw [hw6]; exact (Below.refl _ _).alloc (Nat.le_refl _) _
          have HP6 : Hid (Blk w6 P 104 [.int .i64 x, .int .i64 y]) := hide (by rw [hw6, ← hPe]; exact Blk.new _ _ _)
          have HB6 := hide (HBr.out.trans (hbx.mono HBr.out.size))
          have HK6 := hide (HKr.out.later hbx)
          have HO6 := hide (HOr.out.later hbx)
          have HU6 := hide (HUr.out.later hbx)
          have HA6 := hide (HAr.out.later hbx)
          have HL6 := hide (HLr.out.later hbx)
          have hPlt : w.heap.size + 1 + 1 < P := by rw [← hPe]; exact HUr.out.lt
          rw [hPe]
          clear hw6 hbx hPe
          refine (lead_any _ _ _ f _ _ _ s x y _ (HZ.out.later HB6.out) HP.out hxn hyn).mono ?_
          rintro e w7 ⟨rfl, hb7⟩
          rw [HUE.out, HVE.out]
          have HP7 := hide (HP6.out.later hb7)
          have HB7 := hide (HB6.out.trans (hb7.mono HB6.out.size))
          have HK7 := hide (HK6.out.later hb7)
          have HO7 := hide (HO6.out.later hb7)
          have HU7 := hide (HU6.out.later hb7)
          have HA7 := hide (HA6.out.later hb7)
          have HL7 := hide (HL6.out.later hb7)
          clear hb7
          obtain ⟨V, hMV, hV⟩ := HL7.out.map
          obtain ⟨kl, hkey⟩ := mp_key w7 u v (by omega) (by omega)
          have hlook := hMV.look (t := 122) Try.underlying122 (colZero w7) hkey
          rw [hV (u, v)] at hlook
          have hrow := HL7.out.rows (u, v)
          obtain ⟨len, hlen⟩ : ∃ len, (ledL f s n k (u, v)).length = len := ⟨_, rfl⟩
          have hlen1 : 1 ≤ len := by rw [← hlen]; exact List.length_pos_of_mem hmem
          have hlenk : len ≤ k := by rw [← hlen]; exact ledL_len f s n k (u, v)
          rw [hlen] at hrow
          have hform : ∃ gg cap, G (u, v) = .slice (some ⟨gg, 0, none⟩) len cap := by
            rcases hrow.2 with ⟨_, h0⟩ | ⟨gg, cap, cur, hv9, _⟩
            · omega
            · exact ⟨gg, cap, hv9⟩
          obtain ⟨gg, cap, hG⟩ := hform
          have hcells := hrow.cells (g := gg) (by rw [hG]; rfl)
          have hgg : L0 ≤ gg := (hrow.lt gg (by rw [hG]; rfl)).1
          rw [hG] at hlook
          have hlook' : (Instr.lookup 122 (.map (some (w.heap.size + 1 + 1 + 1))) (.agg #[.int .i64 (u : Int), .int .i64 (v : Int)]) false).run Try.prog w7 = .ok (.slice (some ⟨gg, 0, none⟩) len cap) w7 := hlook
          have HLEN := hide hlen
          have HCELLS := hide hcells
          clear hMV hV hkey hlook hrow hG hlen hcells hmem
          by_cases h1l : 1 < len
          · have hsec := pcs_second n (ledL f s n k (u, v)) (by rw [HLEN.out]; exact h1l)
            have c2 := HCELLS.out 2 _ hsec.1
            have c3 := HCELLS.out 3 _ hsec.2
            simp only [Addr.add, Nat.zero_add] at c2 c3
            have hfst : FstCol f s n j ((ledL f s n k (u, v)).getD 1 0) := by
              have h := FstCol.of_list (f := f) (s := s) (n := n) (k := j) (by rw [HN.out]; exact hltj) HALL.out (by rw [HN.out, HQ.out, HLEN.out]; exact h1l)
              rw [HN.out, HQ.out] at h
              exact h
            obtain ⟨b2, hb2⟩ : ∃ b2, (ledL f s n k (u, v)).getD 1 0 = b2 := ⟨_, rfl⟩
            rw [hb2] at c2 c3 hfst
            obtain ⟨x2, hx2⟩ : ∃ x2, b2 / n = x2 := ⟨_, rfl⟩
            obtain ⟨y2, hy2⟩ : ∃ y2, b2 % n = y2 := ⟨_, rfl⟩
            rw [hx2] at c2
            rw [hy2] at c3
            have HF := hide hfst
            have HX2 := hide hx2
            have HY2 := hide hy2
            have h1z : (1 : Int) < len := by omega
            have p0 := HP7.out.cell 0 _ rfl
            have p1 := HP7.out.cell 1 _ rfl
            have o0 := HO7.out.cell 0 _ rfl
            have o1 := HO7.out.cell 1 _ rfl
            have o2 := HO7.out.frozen 0
            have o3 := HO7.out.frozen 1
            have u0 := HU7.out.cell 0 _ rfl
            have u1 := HU7.out.cell 1 _ rfl
            have u2 := HU7.out.frozen 0
            have u3 := HU7.out.frozen 1
            have c2' : w7.cell? ⟨gg, 2, none⟩ = some (.int .i64 x2) := by simpa using c2
            have c3' : w7.cell? ⟨gg, 3, none⟩ = some (.int .i64 y2) := by simpa using c3
            have d1 : w.heap.size + 1 ≠ P := by omega
            have d2 : w.heap.size + 1 + 1 ≠ P := by omega
            have d3 : w.heap.size + 1 ≠ gg := by omega
            have d4 : w.heap.size + 1 + 1 ≠ gg := by omega
            have d5 := d1.symm
            have d6 := d2.symm
            have d7 := d3.symm
            have d8 := d4.symm
            have n1 : w.heap.size + 1 ≠ w.heap.size + 1 + 1 := by omega
            have n2 := n1.symm
            clear hfst hb2 hx2 hy2 hsec c2 c3
            go_wp2_with fail
            go_region
            clear d1 d2 d3 d4 d5 d6 d7 d8 n1 n2 p0 p1 c2' c3' o0 o1 o2 o3 u0 u1 u2 u3
            all_goals go_wp2_with fail
            all_goals refine bp_gen fun wf hwf => ?_
            all_goals have HRF : Blk wf (w.heap.size + 1) 104 [.int .i64 x, .int .i64 y] := by rw [hwf]; exact (((((HO7.out.set 0 _).set 1 _).far (p := ⟨w.heap.size + 1 + 1, 0, none⟩) (by show w.heap.size + 1 ≠ w.heap.size + 1 + 1; omega) _).far (p := ⟨w.heap.size + 1 + 1, 1, none⟩) (by show w.heap.size + 1 ≠ w.heap.size + 1 + 1; omega) _)).drew
            all_goals have HSF : Blk wf (w.heap.size + 1 + 1) 104 [.int .i64 x2, .int .i64 y2] := by rw [hwf]; exact (((((HU7.out.far (p := ⟨w.heap.size + 1, 0, none⟩) (by show w.heap.size + 1 + 1 ≠ w.heap.size + 1; omega) _).far (p := ⟨w.heap.size + 1, 1, none⟩) (by show w.heap.size + 1 + 1 ≠ w.heap.size + 1; omega) _).set 0 _).set 1 _)).drew
            all_goals have HBF : Below w.heap.size w wf := by rw [hwf]; exact ((((HB7.out.setCell (by show w.heap.size ≤ w.heap.size + 1; omega) _).setCell (by show w.heap.size ≤ w.heap.size + 1; omega) _).setCell (by show w.heap.size ≤ w.heap.size + 1 + 1; omega) _).setCell (by show w.heap.size ≤ w.heap.size + 1 + 1; omega) _).drew
            all_goals have q0 := HRF.cell 0 _ rfl
            all_goals have q1 := HRF.cell 1 _ rfl
            all_goals have q2 := HSF.cell 0 _ rfl
            all_goals have q3 := HSF.cell 1 _ rfl
            all_goals clear hwf
            all_goals exact bodyPost_ret (v := .tuple #[.agg #[.int .i64 x, .int .i64 y], .agg #[.int .i64 x2, .int .i64 y2], .bool true]) (by simp [results, Try.results115, go_sem, q0, q1, q2, q3]) rfl ⟨HBF, .inr ⟨j, b2, HF.out, by rw [HX.out, HY.out, HX2.out, HY2.out]⟩⟩
          · have hl1 : len = 1 := by omega
            subst hl1
            go_wp2_with fail
            go_roundw
            case rel => exact ⟨j + 1, by omega, by go_num, HB7.out, HK7.out, HO7.out, HU7.out, HA7.out, HL7.out, fun i hi => by
              by_cases e : i = j
              · rw [e, HQ.out, HN.out, HLEN.out]; exact Nat.le_refl _
              · exact HALL.out i (by omega)⟩
            case measure => simp [intOf]; omega
        · have hjn : j = k := by omega
          subst hjn
          have hnc : NoCol f s n := NoCol.of_list (fun i hi => HALL.out i (by rw [← HN.out]; exact hi))
          have o0 := HOr.out.cell 0 _ rfl
          have o1 := HOr.out.cell 1 _ rfl
          have o2 := HOr.out.frozen 0
          have o3 := HOr.out.frozen 1
          have u0 := HUr.out.cell 0 _ rfl
          have u1 := HUr.out.cell 1 _ rfl
          have u2 := HUr.out.frozen 0
          have u3 := HUr.out.frozen 1
          have HNC := hide hnc
          clear hnc
          go_wp2_with fail
          clear o0 o1 o2 o3 u0 u1 u2 u3
          refine bp_gen fun wf hwf => ?_
          have HRF : Blk wf (w.heap.size + 1) 104 [.int .i64 0, .int .i64 0] := by rw [hwf]; exact (((((HOr.out.set 0 _).set 1 _).far (p := ⟨w.heap.size + 1 + 1, 0, none⟩) (by show w.heap.size + 1 ≠ w.heap.size + 1 + 1; omega) _).far (p := ⟨w.heap.size + 1 + 1, 1, none⟩) (by show w.heap.size + 1 ≠ w.heap.size + 1 + 1; omega) _))
          have HSF : Blk wf (w.heap.size + 1 + 1) 104 [.int .i64 0, .int .i64 0] := by rw [hwf]; exact (((((HUr.out.far (p := ⟨w.heap.size + 1, 0, none⟩) (by show w.heap.size + 1 + 1 ≠ w.heap.size + 1; omega) _).far (p := ⟨w.heap.size + 1, 1, none⟩) (by show w.heap.size + 1 + 1 ≠ w.heap.size + 1; omega) _).set 0 _).set 1 _))
          have HBF : Below w.heap.size w wf := by rw [hwf]; exact ((((HBr.out.setCell (by show w.heap.size ≤ w.heap.size + 1; omega) _).setCell (by show w.heap.size ≤ w.heap.size + 1; omega) _).setCell (by show w.heap.size ≤ w.heap.size + 1 + 1; omega) _).setCell (by show w.heap.size ≤ w.heap.size + 1 + 1; omega) _)
          have q0 := HRF.cell 0 _ rfl
          have q1 := HRF.cell 1 _ rfl
          have q2 := HSF.cell 0 _ rfl
          have q3 := HSF.cell 1 _ rfl
          clear hwf
          exact bodyPost_ret (v := .tuple #[.agg #[.int .i64 0, .int .i64 0], .agg #[.int .i64 0, .int .i64 0], .bool false]) (by simp [results, Try.results115, go_sem, q0, q1, q2, q3]) rfl ⟨HBF, .inl ⟨HNC.out, rfl⟩⟩
end Go.Proofs.Ytgahmfkmhaeniaa
namespace Go.Proofs.Ytgahmfkmhaeniaa
open Go Go.RowKit
set_option maxHeartbeats 1000000
theorem isI_any (A : Option Addr) (n c : Nat) (f : List (List Int)) (B : Option Addr) (m d : Nat) (s : List (List Int)) (r : Bool) (w : World) (hz : ZArg 1048576 w A n f B m s) (hr : IsRes f s r) :
    Calls Try.prog 76 #[.agg #[.slice A n c, .slice B m d]] w fun e w' => e = .returned (.bool r) ∧ Below w.heap.size w w' := by
  have HZ := hide hz
  have HB0 := hide ((Below.refl _ w).alloc (Nat.le_refl _) (Obj.cells #[Value.slice A n c, Value.slice B m d] 41))
  have HK0 := hide (Blk.new w 41 [.slice A n c, .slice B m d])
  have hcs := hr.cases hz.sz.fl
  clear hr hz
  rcases hcs with ⟨hp, rfl⟩ | ⟨hp, T, hT, hq⟩
  · have HP := hide hp
    clear hp
    go_enter Try.func76, Try.ntmps76
    go_wp2_with fail
    refine (mapI_any _ _ _ f _ _ _ s false _ (HZ.out.later HB0.out) (by simp [HP.out])).mono ?_
    rintro e w1 ⟨rfl, hb1⟩
    have HB1 := hide (HB0.out.trans (hb1.mono HB0.out.size))
    have HK1 := hide (HK0.out.later hb1)
    have k0 := HK1.out.cell 0 _ rfl
    have k1 := HK1.out.cell 1 _ rfl
    clear hb1
    go_wp2_with fail
    go_ret
    exact ⟨rfl, HB1.out⟩
  · have HP := hide hp
    have HT := hide hT
    clear hp hT
    have hq2 : (T < n * n * n ∧ r = false) ∨ (T = n * n * n ∧ (Hid (∃ a b, FstCol f s n a b) ∧ r = false ∨ Hid (NoCol f s n) ∧ r = true)) := by
      rcases hq with ⟨h1, ⟨_, h⟩ | ⟨_, h⟩⟩ | ⟨h1, ⟨h2, h⟩ | ⟨h2, h⟩⟩
      · exact .inl ⟨h1, h⟩
      · exact .inl ⟨h1, h⟩
      · exact .inr ⟨h1, .inl ⟨hide h2, h⟩⟩
      · exact .inr ⟨h1, .inr ⟨hide h2, h⟩⟩
    clear hq
    rcases hq2 with ⟨hlt, rfl⟩ | ⟨hte, ⟨HC, rfl⟩ | ⟨HC, rfl⟩⟩
    · go_enter Try.func76, Try.ntmps76
      go_wp2_with fail
      refine (mapI_any _ _ _ f _ _ _ s true _ (HZ.out.later HB0.out) (by simp [HP.out])).mono ?_
      rintro e w1 ⟨rfl, hb1⟩
      have HB1 := hide (HB0.out.trans (hb1.mono HB0.out.size))
      have HK1 := hide (HK0.out.later hb1)
      have k0 := HK1.out.cell 0 _ rfl
      have k1 := HK1.out.cell 1 _ rfl
      clear hb1
      go_wp2_with fail
      refine (fault_any _ _ _ f _ _ _ s T _ (HZ.out.later HB1.out) HP.out HT.out).mono ?_
      rintro e w2 ⟨t, ok, rfl, hb2, hres⟩
      have HB2 := hide (HB1.out.trans (hb2.mono HB1.out.size))
      have HK2 := hide (HK1.out.later hb2)
      have hok : ok = true := by rcases hres with ⟨h1, h2, _⟩ | ⟨h1, h2⟩ <;> first | exact h1 | omega
      subst hok
      clear hb2 hres k0 k1
      unfold tv
      obtain ⟨x, y, z⟩ := t
      have k0 := fun o => (HK2.out.alloc o).cell 0 _ rfl
      have k1 := fun o => (HK2.out.alloc o).cell 1 _ rfl
      go_wp2_with fail
      clear k0 k1
      refine bp_gen fun wf hwf => ?_
      have HBF : Below w.heap.size w wf := by rw [hwf]; exact HB2.out.alloc HB2.out.size _
      clear hwf
      go_ret
      exact ⟨rfl, HBF⟩
    · go_enter Try.func76, Try.ntmps76
      go_wp2_with fail
      refine (mapI_any _ _ _ f _ _ _ s true _ (HZ.out.later HB0.out) (by simp [HP.out])).mono ?_
      rintro e w1 ⟨rfl, hb1⟩
      have HB1 := hide (HB0.out.trans (hb1.mono HB0.out.size))
      have HK1 := hide (HK0.out.later hb1)
      have k0 := HK1.out.cell 0 _ rfl
      have k1 := HK1.out.cell 1 _ rfl
      clear hb1
      go_wp2_with fail
      refine (fault_any _ _ _ f _ _ _ s T _ (HZ.out.later HB1.out) HP.out HT.out).mono ?_
      rintro e w2 ⟨t, ok, rfl, hb2, hres⟩
      have HB2 := hide (HB1.out.trans (hb2.mono HB1.out.size))
      have HK2 := hide (HK1.out.later hb2)
      have hok : ok = false := by rcases hres with ⟨h1, h2, _⟩ | ⟨h1, h2⟩ <;> first | exact h1 | omega
      subst hok
      clear hb2 hres k0 k1
      unfold tv
      obtain ⟨x, y, z⟩ := t
      have k0 := fun o => (HK2.out.alloc o).cell 0 _ rfl
      have k1 := fun o => (HK2.out.alloc o).cell 1 _ rfl
      go_wp2_with fail
      clear k0 k1
      refine calls_gen fun w4 hw4 => ?_
      replace HB2 : Hid (Below w.heap.size w w4) := hide (by rw [hw4]; exact HB2.out.alloc HB2.out.size _)
      clear hw4 HK2
      refine (coll_any _ _ _ f _ _ _ s _ (HZ.out.later HB2.out) HP.out).mono ?_
      rintro e w3 ⟨hb3, hres⟩
      have HB3 := hide (HB2.out.trans (hb3.mono HB2.out.size))
      clear hb3
      obtain ⟨a, b, hf⟩ := HC.out
      rcases hres with ⟨hno, _⟩ | ⟨a', b', _, rfl⟩
      · exact absurd hno hf.not
      · go_wp2_with fail
        refine bp_gen fun wf hwf => ?_
        have HBF : Below w.heap.size w wf := by rw [hwf]; exact (HB3.out.alloc HB3.out.size _).alloc (by have := HB3.out.size; simp; omega) _
        clear hwf
        go_ret
        exact ⟨rfl, HBF⟩
    · go_enter Try.func76, Try.ntmps76
      go_wp2_with fail
      refine (mapI_any _ _ _ f _ _ _ s true _ (HZ.out.later HB0.out) (by simp [HP.out])).mono ?_
      rintro e w1 ⟨rfl, hb1⟩
      have HB1 := hide (HB0.out.trans (hb1.mono HB0.out.size))
      have HK1 := hide (HK0.out.later hb1)
      have k0 := HK1.out.cell 0 _ rfl
      have k1 := HK1.out.cell 1 _ rfl
      clear hb1
      go_wp2_with fail
      refine (fault_any _ _ _ f _ _ _ s T _ (HZ.out.later HB1.out) HP.out HT.out).mono ?_
      rintro e w2 ⟨t, ok, rfl, hb2, hres⟩
      have HB2 := hide (HB1.out.trans (hb2.mono HB1.out.size))
      have HK2 := hide (HK1.out.later hb2)
      have hok : ok = false := by rcases hres with ⟨h1, h2, _⟩ | ⟨h1, h2⟩ <;> first | exact h1 | omega
      subst hok
      clear hb2 hres k0 k1
      unfold tv
      obtain ⟨x, y, z⟩ := t
      have k0 := fun o => (HK2.out.alloc o).cell 0 _ rfl
      have k1 := fun o => (HK2.out.alloc o).cell 1 _ rfl
      go_wp2_with fail
      clear k0 k1
      refine calls_gen fun w4 hw4 => ?_
      replace HB2 : Hid (Below w.heap.size w w4) := hide (by rw [hw4]; exact HB2.out.alloc HB2.out.size _)
      clear hw4 HK2
      refine (coll_any _ _ _ f _ _ _ s _ (HZ.out.later HB2.out) HP.out).mono ?_
      rintro e w3 ⟨hb3, hres⟩
      have HB3 := hide (HB2.out.trans (hb3.mono HB2.out.size))
      clear hb3
      rcases hres with ⟨_, rfl⟩ | ⟨a', b', hf2, _⟩
      · go_wp2_with fail
        refine bp_gen fun wf hwf => ?_
        have HBF : Below w.heap.size w wf := by rw [hwf]; exact (HB3.out.alloc HB3.out.size _).alloc (by have := HB3.out.size; simp; omega) _
        clear hwf
        go_ret
        exact ⟨rfl, HBF⟩
      · exact absurd HC.out hf2.not
end Go.Proofs.Ytgahmfkmhaeniaa
namespace Go.Proofs.Ytgahmfkmhaeniaa
open Go Go.RowKit
set_option maxHeartbeats 1000000

/-- Between the rounds: what has been written after x rows and y values of the next one. -/
def turnTo (rows : List (List Int)) (x y : Nat) : Nat → Nat → Int := fun a b => if b < x ∨ (b = x ∧ a < y) then (rows.getD b []).getD a 0 else 0

theorem turnTo_set (rows : List (List Int)) (x y : Nat) (v : Int) (hv : (rows.getD x []).getD y 0 = v) : ∀ a b, (if a = y ∧ b = x then v else turnTo rows x y a b) = turnTo rows x (y + 1) a b := by
  intro a b
  unfold turnTo
  by_cases h : a = y ∧ b = x
  · obtain ⟨rfl, rfl⟩ := h
    rw [if_pos ⟨rfl, rfl⟩, if_pos (.inr ⟨rfl, by omega⟩), hv]
  · rw [if_neg h]
    by_cases h2 : b < x ∨ (b = x ∧ a < y)
    · rw [if_pos h2, if_pos (by omega)]
    · rw [if_neg h2, if_neg (by omega)]

theorem turnTo_next (rows : List (List Int)) (x n : Nat) : ∀ a b, a < n → turnTo rows x n a b = turnTo rows (x + 1) 0 a b := by
  intro a b ha
  unfold turnTo
  by_cases h2 : b < x ∨ (b = x ∧ a < n)
  · rw [if_pos h2, if_pos (by omega)]
  · rw [if_neg h2, if_neg (by omega)]

theorem turnI_any (A : Option Addr) (n c : Nat) (rows : List (List Int)) (w : World) (hn : rows.length = n) (hb : n ≤ 1048576) (hbs : ∀ i, i < rows.length → (rows.getD i []).length = n) (hr : Rd2 w A rows) :
    Calls Try.prog 116 #[.slice A n c] w fun e w' => ∃ A' c', e = .returned (.slice A' n c') ∧ Below w.heap.size w w' ∧ Obj2 31 2 w.heap.size w'.heap.size w' A' (turnL rows) := by
  have HN := hide hn
  clear hn
  go_enter Try.func116, Try.ntmps116
  go_wp2_with fail
  refine (newTable_any n _ hb).mono ?_
  rintro e w1 ⟨rfl, hb1, htab, hsz⟩
  have HB1 := hide hb1
  have HT := hide htab
  have HS := hide hsz
  clear hb1 htab hsz
  go_wp2_with fail
  go_loopw [13] (fun i wr => ∃ x : Nat, x ≤ n ∧ i = .int .i64 x ∧ Below w.heap.size w wr ∧ TabF 31 2 wr w.heap.size (fun i => w.heap.size + 1 + i) n (turnTo rows x 0) ∧ wr.heap.size = w.heap.size + 1 + n) (fun i _ => n - (intOf i).toNat)
  case atStart => exact ⟨0, Nat.zero_le _, rfl, HB1.out, HT.out.congr (fun a b _ _ => by simp [turnTo]), HS.out⟩
  case round =>
    obtain ⟨x, hx, rfl, hbe, htab, hsz⟩ := hrel
    have HB := hide hbe
    have HT2 := hide htab
    have HS2 := hide hsz
    clear hbe htab hsz
    by_cases hlt : x < n
    · obtain ⟨b, o, rfl, hbw, hc⟩ := hr (by have := HN.out; omega)
      obtain ⟨Ax, cx, hcell, hrd⟩ := hc x (by have := HN.out; omega)
      have hl := hbs x (by have := HN.out; omega)
      obtain ⟨r, hx'⟩ : ∃ r, r = rows.getD x [] := ⟨_, rfl⟩
      rw [← hx'] at hcell hrd hl
      rw [hl] at hcell
      have HX := hide hx'
      have HL := hide hl
      have hcell' : wr.cell? ⟨b, o + x, none⟩ = some (.slice Ax n cx) := (HB.out.cell (p := ⟨b, o + x, none⟩) hbw).trans hcell
      have hrd' : Rd w Ax r := hrd
      clear hx' hc hl hcell hrd hbs
      have hltz : (x : Int) < n := by omega
      go_wp2_with fail
      obtain ⟨wo, rfl⟩ : ∃ wo : World, wo = wr := ⟨_, rfl⟩
      go_loopw [20] (fun i wi => ∃ y : Nat, y ≤ n ∧ i = .int .i64 y ∧ Below w.heap.size w wi ∧ TabF 31 2 wi w.heap.size (fun i => w.heap.size + 1 + i) n (turnTo rows x y) ∧ wi.heap.size = w.heap.size + 1 + n) (fun i _ => n - (intOf i).toNat)
      case atStart => exact ⟨0, Nat.zero_le _, rfl, HB.out, HT2.out, HS2.out⟩
      case round =>
        obtain ⟨y, hy, rfl, hbi, hti, hsi⟩ := hrel
        have HBI := hide hbi
        have HTI := hide hti
        have HSI := hide hsi
        clear hbi hti hsi
        by_cases hlty : y < n
        · obtain ⟨b2, o2, rfl, hbw2, hc2⟩ := hrd' (by have := HL.out; omega)
          have hv : wr.cell? ⟨b2, o2 + y, none⟩ = some (.int .i64 (r.getD y 0)) := (HBI.out.cell (p := ⟨b2, o2 + y, none⟩) hbw2).trans (hc2 y (by have := HL.out; omega))
          obtain ⟨z, hz⟩ : ∃ z, r.getD y 0 = z := ⟨_, rfl⟩
          rw [hz] at hv
          have HZ := hide hz
          obtain ⟨C, htop⟩ := HTI.out.top
          have ho : wr.cell? ⟨w.heap.size, y, none⟩ = some (.slice (some ⟨w.heap.size + 1 + y, 0, none⟩) n (C y)) := htop.cell hlty
          clear htop
          have hi1 : wr.cell? ⟨w.heap.size + 1 + y, x, none⟩ = some (.int .i64 (turnTo rows x y y x)) := (HTI.out.row y hlty).cell hlt
          obtain ⟨old, hold⟩ : ∃ q, turnTo rows x y y x = q := ⟨_, rfl⟩
          rw [hold] at hi1
          have hi2 : wr.frozen? ⟨w.heap.size + 1 + y, x, none⟩ = false := (HTI.out.row y hlty).frozen x
          clear hz hold hc2 hrd' hcell'
          have hltyz : (y : Int) < n := by omega
          go_wp2_with fail
          go_roundw
          case rel =>
            refine ⟨y + 1, by omega, by go_num, HBI.out.setCell (p := ⟨w.heap.size + 1 + y, x, none⟩) (by show w.heap.size ≤ w.heap.size + 1 + y; omega) _, ?_, by have := HSI.out; simpa [World.setCell] using this⟩
            refine (HTI.out.set y x z hlty).congr (fun a b _ _ => turnTo_set rows x y z ?_ a b)
            rw [← HX.out]
            exact HZ.out
          case measure => simp [intOf]; omega
        · have hyn : y = n := by omega
          subst hyn
          go_wp2_with fail
          go_roundw
          case rel => exact ⟨x + 1, by omega, by go_num, HBI.out, HTI.out.congr (fun a b ha _ => turnTo_next rows x y a b ha), HSI.out⟩
          case measure => simp [intOf]; omega
    · have hxn : x = n := by omega
      subst hxn
      go_wp2_with fail
      go_ret
      refine ⟨_, _, rfl, HB.out, ?_⟩
      have h := HT2.out.congr (f' := fun a b => (rows.getD b []).getD a 0) (fun a b _ hb => by simp [turnTo, hb])
      have e := HN.out
      unfold turnL
      rw [e]
      exact h.obj (Nat.le_refl _) (by have := HS2.out; omega) (fun i hi => by have := HS2.out; omega)
end Go.Proofs.Ytgahmfkmhaeniaa
namespace Go.Proofs.Ytgahmfkmhaeniaa
open Go Go.RowKit
set_option maxHeartbeats 1000000

theorem nonI_any (A : Option Addr) (n c : Nat) (f : List (List Int)) (B : Option Addr) (m d : Nat) (s : List (List Int)) (r : Bool) (code : Int) (w : World) (hz : ZArg 1048576 w A n f B m s) (hr : NonRes f s r code) :
    Calls Try.prog 77 #[.agg #[.slice A n c, .slice B m d]] w fun e w' => e = .returned (.tuple #[.bool r, .int .i64 code]) ∧ Below w.heap.size w w' := by
  have hnb := hz.sz.nb
  have HZ := hide hz
  have HB0 := hide ((Below.refl _ w).alloc (Nat.le_refl _) (Obj.cells #[Value.slice A n c, Value.slice B m d] 41))
  have HK0 := hide (Blk.new w 41 [.slice A n c, .slice B m d])
  have hfl := hz.sz.fl
  rcases hr with ⟨hp, hrr, rfl⟩ | ⟨hp, rfl, rfl⟩
  · have HP := hide hp
    have HR := hide hrr
    have HFL := hide hfl
    obtain rfl := hz.same hp
    have h12 := hz.small hp
    clear hp hrr hfl hz
    by_cases h1 : AllPrm f
    · have H1 := hide h1
      have hr2 : r = true ↔ AllPrm (turnL s) := by rw [HR.out]; unfold NonF; exact ⟨fun h => h.2, fun h => ⟨h1, h⟩⟩
      have HR2 := hide hr2
      clear h1 hr2
      go_enter Try.func77, Try.ntmps77
      go_wp2_with fail
      refine (mapI_any _ _ _ f _ _ _ s true _ (HZ.out.later HB0.out) (by simp [HP.out])).mono ?_
      rintro e w1 ⟨rfl, hb1⟩
      have HB1 := hide (HB0.out.trans (hb1.mono HB0.out.size))
      have HK1 := hide (HK0.out.later hb1)
      have k0 := HK1.out.cell 0 _ rfl
      have k1 := HK1.out.cell 1 _ rfl
      clear hb1
      go_wp2_with fail
      refine (rowsI_any _ _ _ f true _ HZ.out.sz.fl hnb HZ.out.sz.nr (HZ.out.later HB1.out).fst ⟨fun _ => H1.out, fun _ => rfl⟩).mono ?_
      rintro e w2 ⟨rfl, hb2⟩
      have HB2 := hide (HB1.out.trans (hb2.mono HB1.out.size))
      have HK2 := hide (HK1.out.later hb2)
      have k0 := HK2.out.cell 0 _ rfl
      have k1 := HK2.out.cell 1 _ rfl
      clear hb2
      go_wp2_with fail
      refine (turnI_any _ _ _ s _ HZ.out.sz.sl hnb (fun i hi => by rw [HP.out.2.1.rows i hi]; exact HZ.out.sz.sl) (HZ.out.later HB2.out).snd).mono ?_
      rintro e w3 ⟨A3, c3, rfl, hb3, hobj⟩
      have HB3 := hide (HB2.out.trans (hb3.mono HB2.out.size))
      have HOBJ := hide hobj
      clear hb3 hobj
      go_wp2_with fail
      refine (rowsI_any _ _ _ (turnL s) r _ (by rw [turnL_length]; exact HZ.out.sz.sl) hnb (fun i hi => by rw [turnL_length] at hi; unfold turnL; rw [grid_row_length _ _ _ hi, HZ.out.sz.sl]; exact hnb) HOBJ.out.rd HR2.out).mono ?_
      rintro e w4 ⟨rfl, hb4⟩
      have HB4 := hide (HB3.out.trans (hb4.mono HB3.out.size))
      clear hb4
      go_wp2_with fail
      go_ret2
      exact ⟨rfl, HB4.out⟩
    · have hrf : r = false := by
        cases r
        · rfl
        · exact absurd (HR.out.1 rfl).1 h1
      subst hrf
      have H1 := hide h1
      clear h1
      go_enter Try.func77, Try.ntmps77
      go_wp2_with fail
      refine (mapI_any _ _ _ f _ _ _ s true _ (HZ.out.later HB0.out) (by simp [HP.out])).mono ?_
      rintro e w1 ⟨rfl, hb1⟩
      have HB1 := hide (HB0.out.trans (hb1.mono HB0.out.size))
      have HK1 := hide (HK0.out.later hb1)
      have k0 := HK1.out.cell 0 _ rfl
      have k1 := HK1.out.cell 1 _ rfl
      clear hb1
      go_wp2_with fail
      refine (rowsI_any _ _ _ f false _ HZ.out.sz.fl hnb HZ.out.sz.nr (HZ.out.later HB1.out).fst ⟨fun h => absurd h (by simp), fun h => absurd h H1.out⟩).mono ?_
      rintro e w2 ⟨rfl, hb2⟩
      have HB2 := hide (HB1.out.trans (hb2.mono HB1.out.size))
      clear hb2
      go_wp2_with fail
      go_ret2
      exact ⟨rfl, HB2.out⟩
  · have HP := hide hp
    clear hp hfl hz
    go_enter Try.func77, Try.ntmps77
    go_wp2_with fail
    refine (mapI_any _ _ _ f _ _ _ s false _ (HZ.out.later HB0.out) (by simp [HP.out])).mono ?_
    rintro e w1 ⟨rfl, hb1⟩
    have HB1 := hide (HB0.out.trans (hb1.mono HB0.out.size))
    clear hb1
    go_wp2_with fail
    go_ret2
    exact ⟨rfl, HB1.out⟩
end Go.Proofs.Ytgahmfkmhaeniaa
namespace Go.Proofs.Ytgahmfkmhaeniaa
open Go Go.RowKit
set_option maxHeartbeats 1000000

theorem invoI_any (A : Option Addr) (n c : Nat) (f : List (List Int)) (B : Option Addr) (m d : Nat) (s : List (List Int)) (r : Bool) (code : Int) (w : World) (hz : ZArg 1048576 w A n f B m s) (hr : InvoRes f s r code) :
    Calls Try.prog 78 #[.agg #[.slice A n c, .slice B m d]] w fun e w' => e = .returned (.tuple #[.bool r, .int .i64 code]) ∧ Below w.heap.size w w' := by
  have hnb := hz.sz.nb
  have HZ := hide hz
  have HB0 := hide ((Below.refl _ w).alloc (Nat.le_refl _) (Obj.cells #[Value.slice A n c, Value.slice B m d] 41))
  have HK0 := hide (Blk.new w 41 [.slice A n c, .slice B m d])
  have hfl := hz.sz.fl
  rcases hr with ⟨hp, hrr, rfl⟩ | ⟨hp, rfl, rfl⟩
  · have HP := hide hp
    have HR := hide hrr
    have HFL := hide hfl
    have h12 := hz.small hp
    obtain ⟨N, hN⟩ : ∃ N, n * n = N := ⟨_, rfl⟩
    have hN144 : N ≤ 144 := by rw [← hN]; exact sq_le n h12.2
    have HN := hide hN
    clear hp hrr hfl hz hN
    go_enter Try.func78, Try.ntmps78
    go_wp2_with fail
    refine (mapI_any _ _ _ f _ _ _ s true _ (HZ.out.later HB0.out) (by simp [HP.out])).mono ?_
    rintro e w1 ⟨rfl, hb1⟩
    have HB1 := hide (HB0.out.trans (hb1.mono HB0.out.size))
    have HK1 := hide (HK0.out.later hb1)
    have k0 := HK1.out.cell 0 _ rfl
    have k1 := HK1.out.cell 1 _ rfl
    clear hb1
    go_wp2_with fail
    refine (size_any _ _ _ _ _ _ _ hnb).mono ?_
    rintro e w2 ⟨rfl, hb2⟩
    have HB2 := hide (HB1.out.trans (hb2.mono HB1.out.size))
    have HK2 := hide (HK1.out.later hb2)
    clear hb2
    go_wp2_with fail
    refine (pairsOf_any n N _ h12.1 h12.2 HN.out).mono ?_
    rintro e w3 ⟨g, rfl, hb3, hg3, hpa⟩
    have HB3 := hide (HB2.out.trans (hb3.mono HB2.out.size))
    have HK3 := hide (HK2.out.later hb3)
    have HPA3 := hide hpa
    clear hb3 hpa
    go_wp2_with fail
    go_loopw [13] (fun i wr => ∃ k : Nat, k ≤ N ∧ i = .int .i64 k ∧ Below w.heap.size w wr ∧ Blk wr w.heap.size 41 [.slice A n c, .slice B m d] ∧ PairsAt wr g n ∧ ∀ a, a < k → ap f (ap f (a / n) (a % n)) (ap s (a / n) (a % n)) = a / n ∧ ap s (ap f (a / n) (a % n)) (ap s (a / n) (a % n)) = a % n) (fun i _ => N - (intOf i).toNat)
    case atStart => exact ⟨0, Nat.zero_le _, rfl, HB3.out, HK3.out, HPA3.out, fun a ha => absurd ha (Nat.not_lt_zero _)⟩
    case round =>
      obtain ⟨k, hk, rfl, hbe, hkk, hpa, hall⟩ := hrel
      have HB := hide hbe
      have HK := hide hkk
      have HPA := hide hpa
      have HALL := hide hall
      clear hbe hkk hpa hall
      have k0 := HK.out.cell 0 _ rfl
      have k1 := HK.out.cell 1 _ rfl
      by_cases hlt : k < N
      · have hkz : (k : Int) < N := by omega
        obtain ⟨p0, p1⟩ := HPA.out.2 k (by rw [HN.out]; exact hlt)
        have hxn : k / n < n := div_lt_sq (by rw [HN.out]; exact hlt)
        have hyn : k % n < n := mod_lt_sq (by rw [HN.out]; exact hlt)
        obtain ⟨x, hx⟩ : ∃ x, k / n = x := ⟨_, rfl⟩
        obtain ⟨y, hy⟩ : ∃ y, k % n = y := ⟨_, rfl⟩
        rw [hx] at p0 hxn
        rw [hy] at p1 hyn
        have HX := hide hx
        have HY := hide hy
        clear hx hy
        have hu := HP.out.lt1 HFL.out hxn hyn
        have hv := HP.out.lt2 HFL.out hxn hyn
        obtain ⟨u, hue⟩ : ∃ u, ap f x y = u := ⟨_, rfl⟩
        obtain ⟨v, hve⟩ : ∃ v, ap s x y = v := ⟨_, rfl⟩
        rw [hue] at hu
        rw [hve] at hv
        obtain ⟨u2, hue2⟩ : ∃ u2, ap f u v = u2 := ⟨_, rfl⟩
        obtain ⟨v2, hve2⟩ : ∃ v2, ap s u v = v2 := ⟨_, rfl⟩
        have HU := hide hue
        have HV := hide hve
        have HU2 := hide hue2
        have HV2 := hide hve2
        clear hue hve hue2 hve2
        have hno : ¬ (u2 = x ∧ v2 = y) → r = false := fun h => by
          cases r
          · rfl
          · have h0 := (HR.out.1 rfl) x y (by have := HFL.out; omega) (by have := HFL.out; omega)
            rw [HU.out, HV.out, HU2.out, HV2.out] at h0
            exact absurd h0 h
        have HNO := hide hno
        clear hno
        go_wp2_with fail
        refine wp_gen fun w4 hw4 => ?_
        obtain ⟨P, hPe⟩ : ∃ P, wr.heap.size = P := ⟨_, rfl⟩
        have HBc : Hid (Below w.heap.size w w4) := hide (by rw [hw4]; exact HB.out.alloc HB.out.size _)
        have HKc : Hid (Blk w4 w.heap.size 41 [.slice A n c, .slice B m d]) := hide (by rw [hw4]; exact HK.out.alloc _)
        have HPc : Hid (Blk w4 P 104 [.int .i64 x, .int .i64 y]) := hide (by rw [hw4, ← hPe]; exact Blk.new _ _ _)
        have HAc : Hid (PairsAt w4 g n) := hide (by rw [hw4]; exact HPA.out.later ((Below.refl _ _).alloc (Nat.le_refl _) _))
        rw [hPe]
        clear hw4 k0 k1 p0 p1 hPe
        have k0 := HKc.out.cell 0 _ rfl
        have k1 := HKc.out.cell 1 _ rfl
        have k2 := HPc.out.cell 0 _ rfl
        have k3 := HPc.out.cell 1 _ rfl
        have hcs : (((u2 : Int) = x) ∧ ((v2 : Int) = y)) ∨ (¬ ((u2 : Int) = x)) ∨ (((u2 : Int) = x) ∧ ¬ ((v2 : Int) = y)) := by omega
        rcases hcs with ⟨e1, e2⟩ | e1 | ⟨e1, e2⟩
        · have hyes : u2 = x ∧ v2 = y := by omega
          have HYES := hide hyes
          clear hyes
          go_region_held3 (fun w' => w'.cell? ⟨w.heap.size, 0, none⟩ = some (.slice A n c) ∧ w'.cell? ⟨w.heap.size, 1, none⟩ = some (.slice B m d) ∧ w'.cell? ⟨P, 0, none⟩ = some (.int .i64 x) ∧ w'.cell? ⟨P, 1, none⟩ = some (.int .i64 y)) (first | exact ⟨k0, k1, k2, k3⟩ | go_keep) (first | (go_at_call 119; go_must (refine calls_gen fun wc hwc => ?_; replace HBc : Hid (Below w.heap.size w wc) := hide (by rw [hwc]; first | exact HBc.out | exact HBc.out.drew); replace HKc : Hid (Blk wc w.heap.size 41 [.slice A n c, .slice B m d]) := hide (by rw [hwc]; first | exact HKc.out | exact HKc.out.drew); replace HPc : Hid (Blk wc P 104 [.int .i64 x, .int .i64 y]) := hide (by rw [hwc]; first | exact HPc.out | exact HPc.out.drew); replace HAc : Hid (PairsAt wc g n) := hide (by rw [hwc]; first | exact HAc.out | exact HAc.out.later ((Below.refl _ _).drew)); clear hwc; refine (lead_any _ _ _ f _ _ _ s _ _ _ (HZ.out.later HBc.out) HP.out (by assumption) (by assumption)).mono ?_; rintro e wd ⟨rfl, hbd⟩; replace HBc := hide (HBc.out.trans (hbd.mono HBc.out.size)); replace HKc := hide (HKc.out.later hbd); replace HPc := hide (HPc.out.later hbd); replace HAc := hide (HAc.out.later hbd); clear hbd; have k0 := HKc.out.cell 0 _ rfl; have k1 := HKc.out.cell 1 _ rfl; have k2 := HPc.out.cell 0 _ rfl; have k3 := HPc.out.cell 1 _ rfl; (first | rw [HU.out, HV.out] | rw [HU2.out, HV2.out]))))
          go_wp2_with fail
          go_roundw
          case rel =>
            refine ⟨k + 1, by omega, by go_num, HBc.out, HKc.out, HAc.out, fun a ha => ?_⟩
            by_cases e : a = k
            · subst e; rw [HX.out, HY.out, HU.out, HV.out, HU2.out, HV2.out]; exact HYES.out
            · exact HALL.out a (by omega)
          case measure => simp [intOf]; omega
        all_goals
          have hrf := HNO.out (by omega)
          subst hrf
          go_region_held3 (fun w' => w'.cell? ⟨w.heap.size, 0, none⟩ = some (.slice A n c) ∧ w'.cell? ⟨w.heap.size, 1, none⟩ = some (.slice B m d) ∧ w'.cell? ⟨P, 0, none⟩ = some (.int .i64 x) ∧ w'.cell? ⟨P, 1, none⟩ = some (.int .i64 y)) (first | exact ⟨k0, k1, k2, k3⟩ | go_keep) (first | (go_at_call 119; go_must (refine calls_gen fun wc hwc => ?_; replace HBc : Hid (Below w.heap.size w wc) := hide (by rw [hwc]; first | exact HBc.out | exact HBc.out.drew); replace HKc : Hid (Blk wc w.heap.size 41 [.slice A n c, .slice B m d]) := hide (by rw [hwc]; first | exact HKc.out | exact HKc.out.drew); replace HPc : Hid (Blk wc P 104 [.int .i64 x, .int .i64 y]) := hide (by rw [hwc]; first | exact HPc.out | exact HPc.out.drew); replace HAc : Hid (PairsAt wc g n) := hide (by rw [hwc]; first | exact HAc.out | exact HAc.out.later ((Below.refl _ _).drew)); clear hwc; refine (lead_any _ _ _ f _ _ _ s _ _ _ (HZ.out.later HBc.out) HP.out (by assumption) (by assumption)).mono ?_; rintro e wd ⟨rfl, hbd⟩; replace HBc := hide (HBc.out.trans (hbd.mono HBc.out.size)); replace HKc := hide (HKc.out.later hbd); replace HPc := hide (HPc.out.later hbd); replace HAc := hide (HAc.out.later hbd); clear hbd; have k0 := HKc.out.cell 0 _ rfl; have k1 := HKc.out.cell 1 _ rfl; have k2 := HPc.out.cell 0 _ rfl; have k3 := HPc.out.cell 1 _ rfl; (first | rw [HU.out, HV.out] | rw [HU2.out, HV2.out]))))
          go_wp2_with fail
          go_ret2
          exact ⟨rfl, HBc.out⟩
      · have hkn : k = N := by omega
        subst hkn
        have hrt : r = true := HR.out.2 (fun a b ha hb => by
          have ha' : a < n := by have := HFL.out; omega
          have hb' : b < n := by have := HFL.out; omega
          have h := HALL.out (a * n + b) (by rw [← HN.out]; exact pair_lt n a b ha' hb')
          rw [pair_div n a b hb', pair_mod n a b hb'] at h
          exact h)
        subst hrt
        go_wp2_with fail
        go_ret2
        exact ⟨rfl, HB.out⟩
  · have HP := hide hp
    clear hp hfl hz
    go_enter Try.func78, Try.ntmps78
    go_wp2_with fail
    refine (mapI_any _ _ _ f _ _ _ s false _ (HZ.out.later HB0.out) (by simp [HP.out])).mono ?_
    rintro e w1 ⟨rfl, hb1⟩
    have HB1 := hide (HB0.out.trans (hb1.mono HB0.out.size))
    clear hb1
    go_wp2_with fail
    go_ret2
    exact ⟨rfl, HB1.out⟩
end Go.Proofs.Ytgahmfkmhaeniaa
namespace Go.Proofs.Ytgahmfkmhaeniaa
open Go Go.RowKit
set_option maxHeartbeats 1000000

theorem mapS_any (A : Option Addr) (n c : Nat) (f : List (List Int)) (B : Option Addr) (m d : Nat) (s : List (List Int)) (r : Bool) (w : World) (hz : ZArg 1048576 w A n f B m s) (hr : r = true ↔ PMap f s) :
    Calls Try.prog 108 #[.agg #[.slice A n c, .slice B m d]] w fun e w' => e = .returned (.bool r) ∧ Below w.heap.size w w' := by
  have HZ := hide hz
  have HR := hide hr
  clear hz hr
  have HB0 := hide ((Below.refl _ w).alloc (Nat.le_refl _) (Obj.cells #[Value.slice A n c, Value.slice B m d] 41))
  have HK0 := hide (Blk.new w 41 [.slice A n c, .slice B m d])
  by_cases h1 : Tbl f
  · have H1 := hide h1
    clear h1
    by_cases h2 : Tbl s
    · have H2 := hide h2
      clear h2
      have HEQ : Hid (r = true ↔ n = m) := hide (by rw [HR.out, ← HZ.out.sz.fl, ← HZ.out.sz.sl]; exact ⟨fun h => h.2.2, fun h => ⟨H1.out, H2.out, h⟩⟩)
      have hfin : r = decide (n = m) := by
        have h := HEQ.out
        cases r <;> simp at h ⊢ <;> exact h
      by_cases hnm : n = m
      · subst hnm
        simp at hfin
        subst hfin
        go_enter Try.func108, Try.ntmps108
        go_wp2_with fail
        refine (l01Table_any _ _ _ f true _ HZ.out.sz.fl (by have := HZ.out.sz.nb; omega) (fun i hi => by have := HZ.out.sz.nr i hi; omega) (HZ.out.fst.later HB0.out) (by simp [H1.out])).mono ?_
        rintro e w1 ⟨rfl, hq1⟩
        have HB1 := hide (HB0.out.trans (hq1.below _))
        have HK1 := hide (HK0.out.later (hq1.below _))
        have k0 := HK1.out.cell 0 _ rfl
        have k1 := HK1.out.cell 1 _ rfl
        clear hq1
        go_wp2_with fail
        clear k0 k1
        refine (l01Table_any _ _ _ s true _ HZ.out.sz.sl (by have := HZ.out.sz.mb; omega) (fun i hi => by have := HZ.out.sz.mr i hi; omega) (HZ.out.snd.later HB1.out) (by simp [H2.out])).mono ?_
        rintro e w2 ⟨rfl, hq2⟩
        have HB2 := hide (HB1.out.trans (hq2.below _))
        have HK2 := hide (HK1.out.later (hq2.below _))
        have k0 := HK2.out.cell 0 _ rfl
        have k1 := HK2.out.cell 1 _ rfl
        have hnb := HZ.out.sz.nb
        clear hq2
        go_wp2_with fail
        go_ret
        exact ⟨rfl, HB2.out⟩
      · have hne : decide ((n : Int) = (m : Int)) = false := by simp; omega
        have hne2 : ((n : Int) == (m : Int)) = false := by simp; omega
        simp [hnm] at hfin
        subst hfin
        clear hnm
        go_enter Try.func108, Try.ntmps108
        go_wp2_with fail
        refine (l01Table_any _ _ _ f true _ HZ.out.sz.fl (by have := HZ.out.sz.nb; omega) (fun i hi => by have := HZ.out.sz.nr i hi; omega) (HZ.out.fst.later HB0.out) (by simp [H1.out])).mono ?_
        rintro e w1 ⟨rfl, hq1⟩
        have HB1 := hide (HB0.out.trans (hq1.below _))
        have HK1 := hide (HK0.out.later (hq1.below _))
        have k0 := HK1.out.cell 0 _ rfl
        have k1 := HK1.out.cell 1 _ rfl
        clear hq1
        go_wp2_with fail
        clear k0 k1
        refine (l01Table_any _ _ _ s true _ HZ.out.sz.sl (by have := HZ.out.sz.mb; omega) (fun i hi => by have := HZ.out.sz.mr i hi; omega) (HZ.out.snd.later HB1.out) (by simp [H2.out])).mono ?_
        rintro e w2 ⟨rfl, hq2⟩
        have HB2 := hide (HB1.out.trans (hq2.below _))
        have HK2 := hide (HK1.out.later (hq2.below _))
        have k0 := HK2.out.cell 0 _ rfl
        have k1 := HK2.out.cell 1 _ rfl
        have hnb := HZ.out.sz.nb
        have hmb := HZ.out.sz.mb
        clear hq2
        go_wp2_with fail
        go_ret
        exact ⟨rfl, HB2.out⟩
    · have hrt : r = false := by
        cases r
        · rfl
        · exact absurd (HR.out.1 rfl).2.1 h2
      have H2 := hide h2
      subst hrt
      clear h2
      go_enter Try.func108, Try.ntmps108
      go_wp2_with fail
      refine (l01Table_any _ _ _ f true _ HZ.out.sz.fl (by have := HZ.out.sz.nb; omega) (fun i hi => by have := HZ.out.sz.nr i hi; omega) (HZ.out.fst.later HB0.out) (by simp [H1.out])).mono ?_
      rintro e w1 ⟨rfl, hq1⟩
      have HB1 := hide (HB0.out.trans (hq1.below _))
      have HK1 := hide (HK0.out.later (hq1.below _))
      have k0 := HK1.out.cell 0 _ rfl
      have k1 := HK1.out.cell 1 _ rfl
      clear hq1
      go_wp2_with fail
      refine (l01Table_any _ _ _ s false _ HZ.out.sz.sl (by have := HZ.out.sz.mb; omega) (fun i hi => by have := HZ.out.sz.mr i hi; omega) (HZ.out.snd.later HB1.out) (by simp [H2.out])).mono ?_
      rintro e w2 ⟨rfl, hq2⟩
      have HB2 := hide (HB1.out.trans (hq2.below _))
      clear hq2
      go_wp2_with fail
      go_ret
      exact ⟨rfl, HB2.out⟩
  · have hrt : r = false := by
      cases r
      · rfl
      · exact absurd (HR.out.1 rfl).1 h1
    have H1 := hide h1
    subst hrt
    clear h1
    go_enter Try.func108, Try.ntmps108
    go_wp2_with fail
    refine (l01Table_any _ _ _ f false _ HZ.out.sz.fl (by have := HZ.out.sz.nb; omega) (fun i hi => by have := HZ.out.sz.nr i hi; omega) (HZ.out.fst.later HB0.out) (by simp [H1.out])).mono ?_
    rintro e w1 ⟨rfl, hq1⟩
    have HB1 := hide (HB0.out.trans (hq1.below _))
    clear hq1
    go_wp2_with fail
    go_ret
    exact ⟨rfl, HB1.out⟩
end Go.Proofs.Ytgahmfkmhaeniaa
namespace Go.Proofs.Ytgahmfkmhaeniaa
open Go Go.RowKit

theorem clInfo : (Try.prog.info? 2).map (fun i => (i.zero, i.size, i.bytes)) = some (some (.int .i64 0), 1, 8) := by kernel_rfl
theorem cl_empty (w : World) (t : TypeId) : (w.alloc (.cells #[] t)).ownsRow w.heap.size t 1 (.slice (some ⟨w.heap.size, 0, none⟩) 0 0) 0 [] :=
  ⟨by simp, .inr ⟨w.heap.size, 0, #[], rfl, Nat.le_refl _, heap_alloc_new _ _, Nat.le_refl _, by unfold maxLen; omega, by simp, by simp⟩⟩

theorem cl_cells {w : World} {b o : Nat} {xs : List Int} {obj : Obj} (hc : ∀ i, i < xs.length → w.cell? ⟨b, o + i, none⟩ = some (.int .i64 (xs.getD i 0))) (hb : b < w.heap.size) : ∀ j u, (ints xs)[j]? = some u → (w.alloc obj).cell? ((⟨b, o, none⟩ : Addr).add j) = some u := by
  intro j u hj
  have hl : j < xs.length := by
    have := (List.getElem?_eq_some_iff.1 hj).1
    rw [ints_length] at this
    exact this
  have e : (⟨b, o, none⟩ : Addr).add j = ⟨b, o + j, none⟩ := by
    unfold Addr.add
    by_cases h : j = 0
    · subst h; simp
    · simp [h]
  rw [e, World.cell?_alloc_lt w _ _ hb, hc j hl, ← hj]
  simp [ints, hl]
end Go.Proofs.Ytgahmfkmhaeniaa
namespace Go.Proofs.Ytgahmfkmhaeniaa
open Go Go.RowKit
set_option maxHeartbeats 1000000

theorem own_any (b o : Nat) (n c : Nat) (xs : List Int) (w : World) (hn : xs.length = n) (hbn : n ≤ 1048576) (hb : b < w.heap.size) (hc : ∀ i, i < xs.length → w.cell? ⟨b, o + i, none⟩ = some (.int .i64 (xs.getD i 0))) :
    Calls Try.prog 123 #[.slice (some ⟨b, o, none⟩) n c] w fun e w' => ∃ v, e = .returned v ∧ Below w.heap.size w w' ∧ w'.ownsRow w.heap.size 2 1 v n (ints xs) := by
  have HN := hide hn
  have hcc := cl_cells (obj := .cells #[] 2) hc hb
  have HC := hide hcc
  clear hn hc hcc
  obtain ⟨i0, hi, hz0, hz1, hz2⟩ := info_parts clInfo
  go_enter Try.func123, Try.ntmps123
  go_wp2_with (at_builtin; refine wpList_append_own _ rfl _ _ 31 rfl w.heap.size 2 i0 (.int .i64 0) 1 8 Try.underlying31 hi hz0 hz1 hz2 rfl (by decide) _ _ _ rfl (cl_empty w 2) ⟨b, o, none⟩ n c (ints xs) rfl ?c1 HC.out ?c2 ?c3 ?c4 ?c5 ?_)
  case c1 => rw [ints_length]; have := HN.out; omega
  case c2 => intro u hu; simp [ints] at hu; obtain ⟨_, _, rfl⟩ := hu; rfl
  case c3 => unfold maxLen; omega
  case c4 => omega
  case c5 => simp
  intro v' w1 hown' hgrow _
  have HO' := hide hown'
  have HG := hide hgrow
  clear hown' hgrow
  go_wp2_with fail
  go_ret
  have h := HO'.out
  have hB : Below w.heap.size w w1 := ((Below.refl _ _).alloc (Nat.le_refl _) _).grown HG.out (by simp) (fun g hg => ((cl_empty w 2).lt g hg).1)
  exact ⟨v', rfl, hB, h⟩
end Go.Proofs.Ytgahmfkmhaeniaa
namespace Go.Proofs.Ytgahmfkmhaeniaa
open Go Go.RowKit
set_option maxHeartbeats 1000000

/-- Block b begins with three elements. -/
def L3 (w : World) (b x y z : Nat) : Prop := b < w.heap.size ∧ w.cell? ⟨b, 0, none⟩ = some (.int .i64 x) ∧ w.cell? ⟨b, 1, none⟩ = some (.int .i64 y) ∧ w.cell? ⟨b, 2, none⟩ = some (.int .i64 z)
theorem L3.later {w w' : World} {b x y z : Nat} (h : L3 w b x y z) (hb : Below w.heap.size w w') : L3 w' b x y z :=
  ⟨Nat.lt_of_lt_of_le h.1 hb.size, (hb.cell (p := ⟨b, 0, none⟩) h.1).trans h.2.1, (hb.cell (p := ⟨b, 1, none⟩) h.1).trans h.2.2.1, (hb.cell (p := ⟨b, 2, none⟩) h.1).trans h.2.2.2⟩
theorem L3.of_own {t : TypeId} {w : World} {g x y z : Nat} {xs : List Int} (h : OwnB t w g xs) (hx : xs = lst3 (x, y, z)) : L3 w g x y z := by
  subst hx
  exact ⟨h.lt, h.cell (i := 0) (by simp [lst3]), h.cell (i := 1) (by simp [lst3]), h.cell (i := 2) (by simp [lst3])⟩
theorem L3.own {w : World} {b x y z : Nat} (h : L3 w b x y z) : ∀ i, i < (lst3 (x, y, z)).length → w.cell? ⟨b, 0 + i, none⟩ = some (.int .i64 ((lst3 (x, y, z)).getD i 0)) := by
  intro i hi
  simp [lst3] at hi
  rcases i with _ | _ | _ | i
  · exact h.2.1
  · exact h.2.2.1
  · exact h.2.2.2
  · omega
theorem L3.rd {w : World} {b x y z : Nat} (h : L3 w b x y z) : Rd w (some ⟨b, 0, none⟩) (lst3 (x, y, z)) := fun _ => ⟨b, 0, rfl, h.1, h.own⟩

set_option maxRecDepth 100000 in
theorem do0_any (A : Option Addr) (n c : Nat) (f : List (List Int)) (B : Option Addr) (m d : Nat) (s : List (List Int)) (bc e : Nat) (x y z x' y' z' : Nat) (w : World) (hz : ZArg 1048576 w A n f B m s) (hp : PMap f s) (hi3 : In3 n (x, y, z)) (hdo : doAt f s 0 (x, y, z) = (x', y', z')) (hl : L3 w bc x y z) :
    Calls Try.prog 137 #[.agg #[.slice A n c, .slice B m d], .slice (some ⟨bc, 0, none⟩) 3 e, .int .i64 0] w fun e w' => ∃ g cap, e = .returned (.slice (some ⟨g, 0, none⟩) 3 cap) ∧ Below w.heap.size w w' ∧ w.heap.size ≤ g ∧ L3 w' g x' y' z' := by
  have HZ := hide hz
  have HP := hide hp
  have hnb := hz.sz.nb
  have hx : x < n := hi3.1
  have hy : y < n := hi3.2.1
  have hz' : z < n := hi3.2.2
  obtain rfl := hz.same hp
  have HL := hide hl
  have hbc := hl.1
  have HB0 := hide ((Below.refl _ w).alloc (Nat.le_refl _) (Obj.cells #[Value.slice A m c, Value.slice B m d] 41))
  have HK0 := hide (Blk.new w 41 [.slice A m c, .slice B m d])
  obtain ⟨u, hu⟩ : ∃ u, ap f x y = u := ⟨_, rfl⟩
  obtain ⟨v, hv⟩ : ∃ v, ap s x y = v := ⟨_, rfl⟩
  have hdo' : (u, v, z) = (x', y', z') := by rw [← hdo, ← hu, ← hv]; rfl
  injection hdo' with d1 d2
  injection d2 with d2 d3
  subst d1
  subst d2
  subst d3
  have HU := hide hu
  have HV := hide hv
  clear hz hp hl hi3 hdo hu hv
  go_enter Try.func137, Try.ntmps137
  go_wp2_with fail
  refine (own_any bc 0 3 e (lst3 (x, y, z)) _ rfl (by omega) (by have := HB0.out.size; omega) (HL.out.later HB0.out).own).mono ?_
  rintro e w1 ⟨v1, rfl, hb1, ho1⟩
  obtain ⟨A1, cap, hv, hres⟩ := own_shape ho1
  subst hv
  rcases hres with ⟨rfl, h⟩ | ⟨g, rfl, hg, how⟩
  · cases h
  have HB1 := hide (HB0.out.trans (hb1.mono HB0.out.size))
  have HK1 := hide (HK0.out.later hb1)
  have HL1 := hide ((HL.out.later HB0.out).later hb1)
  have HO1 := hide how
  have hgw : w.heap.size < g := by have := HK0.out.lt; omega
  clear hb1 ho1 how hg
  obtain ⟨bA, oA, bB, oB, bx, ox, cx, bY, oy, cy, rfl, rfl, h1, h2, h3, h4, l1, l2, l3, l4⟩ := HZ.out.reads HP.out hx hy
  rw [HU.out] at h3
  rw [HV.out] at h4
  have H2 := hide h2
  have H4 := hide h4
  have k0 := HK1.out.cell 0 _ rfl
  have k1 := HL1.out.2.1
  have k2 := HL1.out.2.2.1
  have r1 : w1.cell? ⟨bA, oA + x, none⟩ = some (.slice (some ⟨bx, ox, none⟩) m cx) := (HB1.out.cell (p := ⟨bA, oA + x, none⟩) l1).trans h1
  have r2 : w1.cell? ⟨bx, ox + y, none⟩ = some (.int .i64 u) := (HB1.out.cell (p := ⟨bx, ox + y, none⟩) l3).trans h3
  have g0 := HO1.out.cell (i := 0) (by simp [lst3])
  have g1 := HO1.out.frozen 0
  have n1 : g ≠ w.heap.size := by omega
  have n2 : g ≠ bc := by omega
  have n3 : g ≠ bA := by omega
  have n4 : g ≠ bx := by omega
  have n5 := n1.symm
  have n6 := n2.symm
  have n7 := n3.symm
  have n8 := n4.symm
  have az : (x : Int) < m := by omega
  have bz : (y : Int) < m := by omega
  have az0 : (0 : Int) ≤ x := by omega
  have bz0 : (0 : Int) ≤ y := by omega
  clear h1 h2 h3 h4
  have hw1 : IntKind.i64.wrap 1 = 1 := IntWalk.i64_in _ (by omega)
  have hw2 : IntKind.i64.wrap 2 = 2 := IntWalk.i64_in _ (by omega)
  go_wp2_with fail
  go_region_held3 (fun w' => w'.cell? ⟨w.heap.size, 0, none⟩ = some (.slice (some ⟨bA, oA, none⟩) m c) ∧ w'.cell? ⟨bc, 0, none⟩ = some (.int .i64 x) ∧ w'.cell? ⟨bc, 1, none⟩ = some (.int .i64 y) ∧ w'.cell? ⟨bA, oA + x, none⟩ = some (.slice (some ⟨bx, ox, none⟩) m cx) ∧ w'.cell? ⟨bx, ox + y, none⟩ = some (.int .i64 u)) (first | exact ⟨k0, k1, k2, r1, r2⟩ | go_keep) (first | fail)
  clear k0 k1 k2 r1 r2 g0 g1
  refine ex_gen (Q := Exit.then _ _) fun w2 hww2 => ?_
  have ht : Touch g (g + 1) w1 w2 := by rw [hww2]; exact ⟨rfl, rfl, rfl, by simp [World.setCell], fun k _ hne => by first | exact Below.heap_setCell w1 ⟨g, 0, none⟩ _ k (by show k ≠ g; omega) | exact (Below.heap_setCell w1.drew ⟨g, 0, none⟩ _ k (by show k ≠ g; omega))⟩
  have HO2 : Hid (OwnB 2 w2 g ((lst3 (x, y, z)).set 0 (u : Int))) := hide (by rw [hww2]; first | exact HO1.out.set 0 u (by simp [lst3]) | exact OwnB.set (w := w1.drew) HO1.out 0 u (by simp [lst3]))
  have HB2 := hide (ht.below HB1.out HB1.out.size (by omega))
  have HK2 := hide (HK1.out.touch ht (.inl (by omega)))
  have k0 := HK2.out.cell 1 _ rfl
  have k1 : w2.cell? ⟨bc, 0, none⟩ = some (.int .i64 x) := (World.cell?_of_block (a := ⟨bc, 0, none⟩) (ht.block bc HL1.out.1 (.inl (by omega)))).trans HL1.out.2.1
  have k2 : w2.cell? ⟨bc, 1, none⟩ = some (.int .i64 y) := (World.cell?_of_block (a := ⟨bc, 1, none⟩) (ht.block bc HL1.out.1 (.inl (by omega)))).trans HL1.out.2.2.1
  have r1 : w2.cell? ⟨bB, oB + x, none⟩ = some (.slice (some ⟨bY, oy, none⟩) m cy) := (HB2.out.cell (p := ⟨bB, oB + x, none⟩) l2).trans H2.out
  have r2 : w2.cell? ⟨bY, oy + y, none⟩ = some (.int .i64 v) := (HB2.out.cell (p := ⟨bY, oy + y, none⟩) l4).trans H4.out
  have g0 := HO2.out.cell (i := 1) (by simp [lst3])
  have g1 := HO2.out.frozen 1
  have n3 : g ≠ bB := by omega
  have n4 : g ≠ bY := by omega
  have n7 := n3.symm
  have n8 := n4.symm
  clear hww2 ht
  go_wp2_with fail
  go_region_held3 (fun w' => w'.cell? ⟨w.heap.size, 1, none⟩ = some (.slice (some ⟨bB, oB, none⟩) m d) ∧ w'.cell? ⟨bc, 0, none⟩ = some (.int .i64 x) ∧ w'.cell? ⟨bc, 1, none⟩ = some (.int .i64 y) ∧ w'.cell? ⟨bB, oB + x, none⟩ = some (.slice (some ⟨bY, oy, none⟩) m cy) ∧ w'.cell? ⟨bY, oy + y, none⟩ = some (.int .i64 v)) (first | exact ⟨k0, k1, k2, r1, r2⟩ | go_keep) (first | fail)
  clear k0 k1 k2 r1 r2 g0 g1
  refine ex_gen (Q := Exit.then _ _) fun w3 hw3 => ?_
  have HO3 : Hid (OwnB 2 w3 g (((lst3 (x, y, z)).set 0 (u : Int)).set 1 (v : Int))) := hide (by rw [hw3]; first | exact HO2.out.set 1 v (by simp [lst3]) | exact OwnB.set (w := w2.drew) HO2.out 1 v (by simp [lst3]))
  have HB3 : Hid (Below w.heap.size w w3) := hide (by rw [hw3]; first | exact HB2.out.setCell (p := ⟨g, 1, none⟩) (by show w.heap.size ≤ g; omega) _ | exact HB2.out.drew.setCell (p := ⟨g, 1, none⟩) (by show w.heap.size ≤ g; omega) _)
  clear hw3
  go_wp2_with fail
  go_ret
  exact ⟨g, cap, rfl, HB3.out, by omega, L3.of_own HO3.out rfl⟩

set_option maxRecDepth 100000 in
theorem do1_any (A : Option Addr) (n c : Nat) (f : List (List Int)) (B : Option Addr) (m d : Nat) (s : List (List Int)) (bc e : Nat) (x y z x' y' z' : Nat) (w : World) (hz : ZArg 1048576 w A n f B m s) (hp : PMap f s) (hi3 : In3 n (x, y, z)) (hdo : doAt f s 1 (x, y, z) = (x', y', z')) (hl : L3 w bc x y z) :
    Calls Try.prog 137 #[.agg #[.slice A n c, .slice B m d], .slice (some ⟨bc, 0, none⟩) 3 e, .int .i64 1] w fun e w' => ∃ g cap, e = .returned (.slice (some ⟨g, 0, none⟩) 3 cap) ∧ Below w.heap.size w w' ∧ w.heap.size ≤ g ∧ L3 w' g x' y' z' := by
  have HZ := hide hz
  have HP := hide hp
  have hnb := hz.sz.nb
  have hx : x < n := hi3.1
  have hy : y < n := hi3.2.1
  have hz' : z < n := hi3.2.2
  obtain rfl := hz.same hp
  have HL := hide hl
  have hbc := hl.1
  have HB0 := hide ((Below.refl _ w).alloc (Nat.le_refl _) (Obj.cells #[Value.slice A m c, Value.slice B m d] 41))
  have HK0 := hide (Blk.new w 41 [.slice A m c, .slice B m d])
  obtain ⟨u, hu⟩ : ∃ u, ap f y z = u := ⟨_, rfl⟩
  obtain ⟨v, hv⟩ : ∃ v, ap s y z = v := ⟨_, rfl⟩
  have hdo' : (x, u, v) = (x', y', z') := by rw [← hdo, ← hu, ← hv]; rfl
  injection hdo' with d1 d2
  injection d2 with d2 d3
  subst d1
  subst d2
  subst d3
  have HU := hide hu
  have HV := hide hv
  clear hz hp hl hi3 hdo hu hv
  go_enter Try.func137, Try.ntmps137
  go_wp2_with fail
  refine (own_any bc 0 3 e (lst3 (x, y, z)) _ rfl (by omega) (by have := HB0.out.size; omega) (HL.out.later HB0.out).own).mono ?_
  rintro e w1 ⟨v1, rfl, hb1, ho1⟩
  obtain ⟨A1, cap, hv, hres⟩ := own_shape ho1
  subst hv
  rcases hres with ⟨rfl, h⟩ | ⟨g, rfl, hg, how⟩
  · cases h
  have HB1 := hide (HB0.out.trans (hb1.mono HB0.out.size))
  have HK1 := hide (HK0.out.later hb1)
  have HL1 := hide ((HL.out.later HB0.out).later hb1)
  have HO1 := hide how
  have hgw : w.heap.size < g := by have := HK0.out.lt; omega
  clear hb1 ho1 how hg
  obtain ⟨bA, oA, bB, oB, bx, ox, cx, bY, oy, cy, rfl, rfl, h1, h2, h3, h4, l1, l2, l3, l4⟩ := HZ.out.reads HP.out hy hz'
  rw [HU.out] at h3
  rw [HV.out] at h4
  have H2 := hide h2
  have H4 := hide h4
  have k0 := HK1.out.cell 0 _ rfl
  have k1 := HL1.out.2.2.1
  have k2 := HL1.out.2.2.2
  have r1 : w1.cell? ⟨bA, oA + y, none⟩ = some (.slice (some ⟨bx, ox, none⟩) m cx) := (HB1.out.cell (p := ⟨bA, oA + y, none⟩) l1).trans h1
  have r2 : w1.cell? ⟨bx, ox + z, none⟩ = some (.int .i64 u) := (HB1.out.cell (p := ⟨bx, ox + z, none⟩) l3).trans h3
  have g0 := HO1.out.cell (i := 1) (by simp [lst3])
  have g1 := HO1.out.frozen 1
  have n1 : g ≠ w.heap.size := by omega
  have n2 : g ≠ bc := by omega
  have n3 : g ≠ bA := by omega
  have n4 : g ≠ bx := by omega
  have n5 := n1.symm
  have n6 := n2.symm
  have n7 := n3.symm
  have n8 := n4.symm
  have az : (y : Int) < m := by omega
  have bz : (z : Int) < m := by omega
  have az0 : (0 : Int) ≤ y := by omega
  have bz0 : (0 : Int) ≤ z := by omega
  clear h1 h2 h3 h4
  have hw1 : IntKind.i64.wrap 1 = 1 := IntWalk.i64_in _ (by omega)
  have hw2 : IntKind.i64.wrap 2 = 2 := IntWalk.i64_in _ (by omega)
  go_wp2_with fail
  go_region_held3 (fun w' => w'.cell? ⟨w.heap.size, 0, none⟩ = some (.slice (some ⟨bA, oA, none⟩) m c) ∧ w'.cell? ⟨bc, 1, none⟩ = some (.int .i64 y) ∧ w'.cell? ⟨bc, 2, none⟩ = some (.int .i64 z) ∧ w'.cell? ⟨bA, oA + y, none⟩ = some (.slice (some ⟨bx, ox, none⟩) m cx) ∧ w'.cell? ⟨bx, ox + z, none⟩ = some (.int .i64 u)) (first | exact ⟨k0, k1, k2, r1, r2⟩ | go_keep) (first | fail)
  clear k0 k1 k2 r1 r2 g0 g1
  refine ex_gen (Q := Exit.then _ _) fun w2 hww2 => ?_
  have ht : Touch g (g + 1) w1 w2 := by rw [hww2]; exact ⟨rfl, rfl, rfl, by simp [World.setCell], fun k _ hne => by first | exact Below.heap_setCell w1 ⟨g, 1, none⟩ _ k (by show k ≠ g; omega) | exact (Below.heap_setCell w1.drew ⟨g, 1, none⟩ _ k (by show k ≠ g; omega))⟩
  have HO2 : Hid (OwnB 2 w2 g ((lst3 (x, y, z)).set 1 (u : Int))) := hide (by rw [hww2]; first | exact HO1.out.set 1 u (by simp [lst3]) | exact OwnB.set (w := w1.drew) HO1.out 1 u (by simp [lst3]))
  have HB2 := hide (ht.below HB1.out HB1.out.size (by omega))
  have HK2 := hide (HK1.out.touch ht (.inl (by omega)))
  have k0 := HK2.out.cell 1 _ rfl
  have k1 : w2.cell? ⟨bc, 1, none⟩ = some (.int .i64 y) := (World.cell?_of_block (a := ⟨bc, 1, none⟩) (ht.block bc HL1.out.1 (.inl (by omega)))).trans HL1.out.2.2.1
  have k2 : w2.cell? ⟨bc, 2, none⟩ = some (.int .i64 z) := (World.cell?_of_block (a := ⟨bc, 2, none⟩) (ht.block bc HL1.out.1 (.inl (by omega)))).trans HL1.out.2.2.2
  have r1 : w2.cell? ⟨bB, oB + y, none⟩ = some (.slice (some ⟨bY, oy, none⟩) m cy) := (HB2.out.cell (p := ⟨bB, oB + y, none⟩) l2).trans H2.out
  have r2 : w2.cell? ⟨bY, oy + z, none⟩ = some (.int .i64 v) := (HB2.out.cell (p := ⟨bY, oy + z, none⟩) l4).trans H4.out
  have g0 := HO2.out.cell (i := 2) (by simp [lst3])
  have g1 := HO2.out.frozen 2
  have n3 : g ≠ bB := by omega
  have n4 : g ≠ bY := by omega
  have n7 := n3.symm
  have n8 := n4.symm
  clear hww2 ht
  go_wp2_with fail
  go_region_held3 (fun w' => w'.cell? ⟨w.heap.size, 1, none⟩ = some (.slice (some ⟨bB, oB, none⟩) m d) ∧ w'.cell? ⟨bc, 1, none⟩ = some (.int .i64 y) ∧ w'.cell? ⟨bc, 2, none⟩ = some (.int .i64 z) ∧ w'.cell? ⟨bB, oB + y, none⟩ = some (.slice (some ⟨bY, oy, none⟩) m cy) ∧ w'.cell? ⟨bY, oy + z, none⟩ = some (.int .i64 v)) (first | exact ⟨k0, k1, k2, r1, r2⟩ | go_keep) (first | fail)
  clear k0 k1 k2 r1 r2 g0 g1
  refine ex_gen (Q := Exit.then _ _) fun w3 hw3 => ?_
  have HO3 : Hid (OwnB 2 w3 g (((lst3 (x, y, z)).set 1 (u : Int)).set 2 (v : Int))) := hide (by rw [hw3]; first | exact HO2.out.set 2 v (by simp [lst3]) | exact OwnB.set (w := w2.drew) HO2.out 2 v (by simp [lst3]))
  have HB3 : Hid (Below w.heap.size w w3) := hide (by rw [hw3]; first | exact HB2.out.setCell (p := ⟨g, 2, none⟩) (by show w.heap.size ≤ g; omega) _ | exact HB2.out.drew.setCell (p := ⟨g, 2, none⟩) (by show w.heap.size ≤ g; omega) _)
  clear hw3
  go_wp2_with fail
  go_ret
  exact ⟨g, cap, rfl, HB3.out, by omega, L3.of_own HO3.out rfl⟩
end Go.Proofs.Ytgahmfkmhaeniaa
namespace Go.Proofs.Ytgahmfkmhaeniaa
open Go Go.RowKit
set_option maxHeartbeats 2000000

theorem L3.of_blk {w : World} {b : Nat} {t : TypeId} {x y z : Nat} (h : Blk w b t [.int .i64 x, .int .i64 y, .int .i64 z]) : L3 w b x y z := ⟨h.lt, h.cell 0 _ rfl, h.cell 1 _ rfl, h.cell 2 _ rfl⟩

theorem lst3_inj {a b : Nat × Nat × Nat} (h : lst3 a = lst3 b) : a = b := by
  obtain ⟨a1, a2, a3⟩ := a
  obtain ⟨b1, b2, b3⟩ := b
  simp [lst3] at h
  obtain ⟨h1, h2, h3⟩ := h
  have e1 : a1 = b1 := by omega
  have e2 : a2 = b2 := by omega
  have e3 : a3 = b3 := by omega
  rw [e1, e2, e3]

set_option maxRecDepth 100000 in
theorem faultS_any (A : Option Addr) (n c : Nat) (f : List (List Int)) (B : Option Addr) (m d : Nat) (s : List (List Int)) (T : Nat) (w : World) (hz : ZArg 1048576 w A n f B m s) (hp : PMap f s) (hT : First f s n T) :
    Calls Try.prog 110 #[.agg #[.slice A n c, .slice B m d]] w fun e w' => ∃ g k zs, e = .returned (.slice (some ⟨g, 0, none⟩) k k) ∧ Below w.heap.size w w' ∧ w.heap.size ≤ g ∧ OwnB 2 w' g zs ∧ ((T < n * n * n ∧ zs = lst3 (trip n T) ∧ k = 3) ∨ (T = n * n * n ∧ zs = [] ∧ k = 0)) := by
  have hnb := hz.sz.nb
  have HZ := hide hz
  have HP := hide hp
  have HT := hide hT
  have HFL := hide hz.sz.fl
  have h12 := hz.small hp
  obtain rfl := hz.same hp
  have HB0 := hide ((Below.refl _ w).alloc (Nat.le_refl _) (Obj.cells #[Value.slice A m c, Value.slice B m d] 41))
  have HK0 := hide (Blk.new w 41 [.slice A m c, .slice B m d])
  clear hp hz hT
  go_enter Try.func110, Try.ntmps110
  go_wp2_with fail
  go_loopw [4] (fun i wr => ∃ x : Nat, x ≤ m ∧ i = .int .i64 x ∧ Below w.heap.size w wr ∧ Blk wr w.heap.size 41 [.slice A m c, .slice B m d] ∧ ∀ i, i < x * m * m → Eq3 f s m i) (fun i _ => m - (intOf i).toNat)
  case atStart => exact ⟨0, Nat.zero_le _, rfl, HB0.out, HK0.out, fun i hi => absurd hi (by omega)⟩
  case round =>
    obtain ⟨x, hx, rfl, hbe, hkk, hall⟩ := hrel
    have HB := hide hbe
    have HK := hide hkk
    have HALL := hide hall
    clear hbe hkk hall
    have k0 := HK.out.cell 0 _ rfl
    have k1 := HK.out.cell 1 _ rfl
    by_cases hlt : x < m
    · have hxz : (x : Int) < m := by omega
      go_wp2_with fail
      clear k0 k1
      obtain ⟨wo, rfl⟩ : ∃ wo : World, wo = wr := ⟨_, rfl⟩
      go_loopw [5] (fun i wi => ∃ y : Nat, y ≤ m ∧ i = .int .i64 y ∧ Below w.heap.size w wi ∧ Blk wi w.heap.size 41 [.slice A m c, .slice B m d] ∧ ∀ i, i < (x * m + y) * m → Eq3 f s m i) (fun i _ => m - (intOf i).toNat)
      case atStart => exact ⟨0, Nat.zero_le _, rfl, HB.out, HK.out, HALL.out⟩
      case round =>
        obtain ⟨y, hy, rfl, hbi, hki, halli⟩ := hrel
        have HBI := hide hbi
        have HKI := hide hki
        have HALLI := hide halli
        clear hbi hki halli
        by_cases hlty : y < m
        · have hyz : (y : Int) < m := by omega
          go_wp2_with fail
          obtain ⟨wo2, rfl⟩ : ∃ wo : World, wo = wr := ⟨_, rfl⟩
          go_loopw [6] (fun i wi => ∃ z : Nat, z ≤ m ∧ i = .int .i64 z ∧ Below w.heap.size w wi ∧ Blk wi w.heap.size 41 [.slice A m c, .slice B m d] ∧ ∀ i, i < (x * m + y) * m + z → Eq3 f s m i) (fun i _ => m - (intOf i).toNat)
          case atStart => exact ⟨0, Nat.zero_le _, rfl, HBI.out, HKI.out, HALLI.out⟩
          case round =>
            obtain ⟨z, hzn, rfl, hbj, hkj, hallj⟩ := hrel
            have HBJ := hide hbj
            have HKJ := hide hkj
            have HALLJ := hide hallj
            clear hbj hkj hallj
            by_cases hltz : z < m
            · have hzz : (z : Int) < m := by omega
              go_wp2_with fail
              refine wp_gen fun W0 hW0 => ?_
              obtain ⟨Lb, hLb⟩ : ∃ Lb, wr.heap.size = Lb := ⟨_, rfl⟩
              have HBc : Hid (Below w.heap.size w W0) := hide (by rw [hW0]; exact HBJ.out.alloc HBJ.out.size _)
              have HKc : Hid (Blk W0 w.heap.size 41 [.slice A m c, .slice B m d]) := hide (by rw [hW0]; exact HKJ.out.alloc _)
              have HLc : Hid (Blk W0 Lb 2 [.int .i64 x, .int .i64 y, .int .i64 z]) := hide (by rw [hW0, ← hLb]; exact Blk.new _ _ _)
              have hlo : w.heap.size ≤ Lb := by rw [← hLb]; exact HBJ.out.size
              rw [hLb]
              clear hW0 hLb
              have I0 : Hid (In3 m (x, y, z)) := hide ⟨hlt, hlty, hltz⟩
              obtain ⟨⟨x1, y1, z1⟩, hE1⟩ : ∃ t, doAt f s 0 (x, y, z) = t := ⟨_, rfl⟩
              have E1 := hide hE1
              have I1 : Hid (In3 m (x1, y1, z1)) := hide (by rw [← hE1]; exact I0.out.do HP.out HFL.out 0)
              clear hE1
              obtain ⟨⟨x2, y2, z2⟩, hE2⟩ : ∃ t, doAt f s 1 (x1, y1, z1) = t := ⟨_, rfl⟩
              have E2 := hide hE2
              have I2 : Hid (In3 m (x2, y2, z2)) := hide (by rw [← hE2]; exact I1.out.do HP.out HFL.out 1)
              clear hE2
              obtain ⟨⟨x3, y3, z3⟩, hE3⟩ : ∃ t, doAt f s 0 (x2, y2, z2) = t := ⟨_, rfl⟩
              have E3 := hide hE3
              clear hE3
              obtain ⟨⟨s1, t1, r1⟩, hF1⟩ : ∃ t, doAt f s 1 (x, y, z) = t := ⟨_, rfl⟩
              have F1 := hide hF1
              have J1 : Hid (In3 m (s1, t1, r1)) := hide (by rw [← hF1]; exact I0.out.do HP.out HFL.out 1)
              clear hF1
              obtain ⟨⟨s2, t2, r2⟩, hF2⟩ : ∃ t, doAt f s 0 (s1, t1, r1) = t := ⟨_, rfl⟩
              have F2 := hide hF2
              have J2 : Hid (In3 m (s2, t2, r2)) := hide (by rw [← hF2]; exact J1.out.do HP.out HFL.out 0)
              clear hF2
              obtain ⟨⟨s3, t3, r3⟩, hF3⟩ : ∃ t, doAt f s 1 (s2, t2, r2) = t := ⟨_, rfl⟩
              have F3 := hide hF3
              clear hF3
              have hlef : lef f s (x, y, z) = (x3, y3, z3) := by unfold lef; rw [E1.out, E2.out, E3.out]
              have hrig : rig f s (x, y, z) = (s3, t3, r3) := by unfold rig; rw [F1.out, F2.out, F3.out]
              have htr : trip m ((x * m + y) * m + z) = (x, y, z) := trip_of hlty hltz
              have heq : Eq3 f s m ((x * m + y) * m + z) ↔ (x3, y3, z3) = (s3, t3, r3) := by unfold Eq3; rw [htr, hlef, hrig]
              have hklt : (x * m + y) * m + z < m * m * m := trip_lt hlt hlty hltz
              have HEQ := hide heq
              have HTR := hide htr
              have HKL := hide hklt
              clear hlef hrig htr heq hklt
              by_cases hcs : (x3, y3, z3) = (s3, t3, r3)
              · have HGOOD := hide (HEQ.out.2 hcs)
                have HCS := hide hcs
                clear hcs
                have tok0 : True := trivial
                have tok1 : True := trivial
                have tok2 : True := trivial
                have tok3 : True := trivial
                have tok4 : True := trivial
                have k0 := HKc.out.cell 0 _ rfl
                have k1 := HKc.out.cell 1 _ rfl
                go_region_held3 (fun w' => w'.cell? ⟨w.heap.size, 0, none⟩ = some (.slice A m c) ∧ w'.cell? ⟨w.heap.size, 1, none⟩ = some (.slice B m d)) (first | exact ⟨k0, k1⟩ | go_keep) (first | (go_at_call 137; have _t := tok0; clear _t tok0; go_must (refine calls_gen fun wc hwc => ?_; (first | have hbx := drew_below hwc | have hbx := eq_below hwc); replace HBc := hide (HBc.out.trans (hbx.mono HBc.out.size)); replace HKc := hide (HKc.out.later hbx); replace HLc := hide (HLc.out.later hbx); clear hwc hbx; refine (do0_any _ _ _ f _ _ _ s _ _ x y z x1 y1 z1 _ (HZ.out.later HBc.out) HP.out I0.out E1.out (L3.of_blk HLc.out)).mono ?_; rintro e wd ⟨gG1, cG1, rfl, hbd, hgG1, hlG1⟩; replace HBc := hide (HBc.out.trans (hbd.mono HBc.out.size)); replace HKc := hide (HKc.out.later hbd); replace HLc := hide (HLc.out.later hbd); clear hbd; have k0 := HKc.out.cell 0 _ rfl; have k1 := HKc.out.cell 1 _ rfl; have G1 := hide hlG1; clear hlG1 hgG1)) | (go_at_call 137; have _t := tok1; clear _t tok1; go_must (refine calls_gen fun wc hwc => ?_; (first | have hbx := drew_below hwc | have hbx := eq_below hwc); replace HBc := hide (HBc.out.trans (hbx.mono HBc.out.size)); replace HKc := hide (HKc.out.later hbx); replace HLc := hide (HLc.out.later hbx); replace G1 := hide (G1.out.later hbx); clear hwc hbx; refine (do1_any _ _ _ f _ _ _ s _ _ x1 y1 z1 x2 y2 z2 _ (HZ.out.later HBc.out) HP.out I1.out E2.out G1.out).mono ?_; rintro e wd ⟨gG2, cG2, rfl, hbd, hgG2, hlG2⟩; replace HBc := hide (HBc.out.trans (hbd.mono HBc.out.size)); replace HKc := hide (HKc.out.later hbd); replace HLc := hide (HLc.out.later hbd); replace G1 := hide (G1.out.later hbd); clear hbd; have k0 := HKc.out.cell 0 _ rfl; have k1 := HKc.out.cell 1 _ rfl; have G2 := hide hlG2; clear hlG2 hgG2)) | (go_at_call 137; have _t := tok2; clear _t tok2; go_must (refine calls_gen fun wc hwc => ?_; (first | have hbx := drew_below hwc | have hbx := eq_below hwc); replace HBc := hide (HBc.out.trans (hbx.mono HBc.out.size)); replace HKc := hide (HKc.out.later hbx); replace HLc := hide (HLc.out.later hbx); replace G1 := hide (G1.out.later hbx); replace G2 := hide (G2.out.later hbx); clear hwc hbx; refine (do0_any _ _ _ f _ _ _ s _ _ x2 y2 z2 x3 y3 z3 _ (HZ.out.later HBc.out) HP.out I2.out E3.out G2.out).mono ?_; rintro e wd ⟨gG3, cG3, rfl, hbd, hgG3, hlG3⟩; replace HBc := hide (HBc.out.trans (hbd.mono HBc.out.size)); replace HKc := hide (HKc.out.later hbd); replace HLc := hide (HLc.out.later hbd); replace G1 := hide (G1.out.later hbd); replace G2 := hide (G2.out.later hbd); clear hbd; have k0 := HKc.out.cell 0 _ rfl; have k1 := HKc.out.cell 1 _ rfl; have G3 := hide hlG3; clear hlG3 hgG3)) | (go_at_call 137; have _t := tok3; clear _t tok3; go_must (refine calls_gen fun wc hwc => ?_; (first | have hbx := drew_below hwc | have hbx := eq_below hwc); replace HBc := hide (HBc.out.trans (hbx.mono HBc.out.size)); replace HKc := hide (HKc.out.later hbx); replace HLc := hide (HLc.out.later hbx); replace G1 := hide (G1.out.later hbx); replace G2 := hide (G2.out.later hbx); replace G3 := hide (G3.out.later hbx); clear hwc hbx; refine (do1_any _ _ _ f _ _ _ s _ _ x y z s1 t1 r1 _ (HZ.out.later HBc.out) HP.out I0.out F1.out (L3.of_blk HLc.out)).mono ?_; rintro e wd ⟨gG4, cG4, rfl, hbd, hgG4, hlG4⟩; replace HBc := hide (HBc.out.trans (hbd.mono HBc.out.size)); replace HKc := hide (HKc.out.later hbd); replace HLc := hide (HLc.out.later hbd); replace G1 := hide (G1.out.later hbd); replace G2 := hide (G2.out.later hbd); replace G3 := hide (G3.out.later hbd); clear hbd; have k0 := HKc.out.cell 0 _ rfl; have k1 := HKc.out.cell 1 _ rfl; have G4 := hide hlG4; clear hlG4 hgG4)) | (go_at_call 137; have _t := tok4; clear _t tok4; go_must (refine calls_gen fun wc hwc => ?_; (first | have hbx := drew_below hwc | have hbx := eq_below hwc); replace HBc := hide (HBc.out.trans (hbx.mono HBc.out.size)); replace HKc := hide (HKc.out.later hbx); replace HLc := hide (HLc.out.later hbx); replace G1 := hide (G1.out.later hbx); replace G2 := hide (G2.out.later hbx); replace G3 := hide (G3.out.later hbx); replace G4 := hide (G4.out.later hbx); clear hwc hbx; refine (do0_any _ _ _ f _ _ _ s _ _ s1 t1 r1 s2 t2 r2 _ (HZ.out.later HBc.out) HP.out J1.out F2.out G4.out).mono ?_; rintro e wd ⟨gG5, cG5, rfl, hbd, hgG5, hlG5⟩; replace HBc := hide (HBc.out.trans (hbd.mono HBc.out.size)); replace HKc := hide (HKc.out.later hbd); replace HLc := hide (HLc.out.later hbd); replace G1 := hide (G1.out.later hbd); replace G2 := hide (G2.out.later hbd); replace G3 := hide (G3.out.later hbd); replace G4 := hide (G4.out.later hbd); clear hbd; have k0 := HKc.out.cell 0 _ rfl; have k1 := HKc.out.cell 1 _ rfl; have G5 := hide hlG5; clear hlG5 hgG5)) | (go_at_call 137; go_must (refine calls_gen fun wc hwc => ?_; (first | have hbx := drew_below hwc | have hbx := eq_below hwc); replace HBc := hide (HBc.out.trans (hbx.mono HBc.out.size)); replace HKc := hide (HKc.out.later hbx); replace HLc := hide (HLc.out.later hbx); replace G1 := hide (G1.out.later hbx); replace G2 := hide (G2.out.later hbx); replace G3 := hide (G3.out.later hbx); replace G4 := hide (G4.out.later hbx); replace G5 := hide (G5.out.later hbx); clear hwc hbx; refine (do1_any _ _ _ f _ _ _ s _ _ s2 t2 r2 s3 t3 r3 _ (HZ.out.later HBc.out) HP.out J2.out F3.out G5.out).mono ?_; rintro e wd ⟨gG6, cG6, rfl, hbd, hgG6, hlG6⟩; replace HBc := hide (HBc.out.trans (hbd.mono HBc.out.size)); replace HKc := hide (HKc.out.later hbd); replace HLc := hide (HLc.out.later hbd); replace G1 := hide (G1.out.later hbd); replace G2 := hide (G2.out.later hbd); replace G3 := hide (G3.out.later hbd); replace G4 := hide (G4.out.later hbd); replace G5 := hide (G5.out.later hbd); clear hbd; have k0 := HKc.out.cell 0 _ rfl; have k1 := HKc.out.cell 1 _ rfl; have G6 := hide hlG6; clear hlG6 hgG6)) | (go_at_call 82; go_must (refine calls_gen fun wc hwc => ?_; (first | have hbx := drew_below hwc | have hbx := eq_below hwc); replace HBc := hide (HBc.out.trans (hbx.mono HBc.out.size)); replace HKc := hide (HKc.out.later hbx); replace HLc := hide (HLc.out.later hbx); replace G3 := hide (G3.out.later hbx); replace G6 := hide (G6.out.later hbx); clear hwc hbx; refine (same_any _ _ _ _ _ _ (lst3 (x3, y3, z3)) (lst3 (s3, t3, r3)) true _ (show (lst3 (x3, y3, z3)).length = 3 from rfl) (show (lst3 (s3, t3, r3)).length = 3 from rfl) (by omega) (by omega) G3.out.rd G6.out.rd (by rw [HCS.out]; simp)).mono ?_; rintro e wd ⟨rfl, hqd⟩; have hbd := hqd.below wc.heap.size; replace HBc := hide (HBc.out.trans (hbd.mono HBc.out.size)); replace HKc := hide (HKc.out.later hbd); replace HLc := hide (HLc.out.later hbd); clear hqd hbd; have k0 := HKc.out.cell 0 _ rfl; have k1 := HKc.out.cell 1 _ rfl)))
                clear k0 k1
                go_wp2_with fail
                go_roundw
                case rel => exact ⟨z + 1, by omega, by go_num, HBc.out, HKc.out, fun i hi => by
                  by_cases e : i = (x * m + y) * m + z
                  · rw [e]; exact HGOOD.out
                  · exact HALLJ.out i (by omega)⟩
                case measure => simp [intOf]; omega
              · have hbad : ¬ Eq3 f s m ((x * m + y) * m + z) := fun h => hcs (HEQ.out.1 h)
                have HTB := hide (HT.out.bad HALLJ.out HKL.out hbad)
                have HCS := hide hcs
                clear hcs hbad
                have tok0 : True := trivial
                have tok1 : True := trivial
                have tok2 : True := trivial
                have tok3 : True := trivial
                have tok4 : True := trivial
                have k0 := HKc.out.cell 0 _ rfl
                have k1 := HKc.out.cell 1 _ rfl
                go_region_held3 (fun w' => w'.cell? ⟨w.heap.size, 0, none⟩ = some (.slice A m c) ∧ w'.cell? ⟨w.heap.size, 1, none⟩ = some (.slice B m d)) (first | exact ⟨k0, k1⟩ | go_keep) (first | (go_at_call 137; have _t := tok0; clear _t tok0; go_must (refine calls_gen fun wc hwc => ?_; (first | have hbx := drew_below hwc | have hbx := eq_below hwc); replace HBc := hide (HBc.out.trans (hbx.mono HBc.out.size)); replace HKc := hide (HKc.out.later hbx); replace HLc := hide (HLc.out.later hbx); clear hwc hbx; refine (do0_any _ _ _ f _ _ _ s _ _ x y z x1 y1 z1 _ (HZ.out.later HBc.out) HP.out I0.out E1.out (L3.of_blk HLc.out)).mono ?_; rintro e wd ⟨gG1, cG1, rfl, hbd, hgG1, hlG1⟩; replace HBc := hide (HBc.out.trans (hbd.mono HBc.out.size)); replace HKc := hide (HKc.out.later hbd); replace HLc := hide (HLc.out.later hbd); clear hbd; have k0 := HKc.out.cell 0 _ rfl; have k1 := HKc.out.cell 1 _ rfl; have G1 := hide hlG1; clear hlG1 hgG1)) | (go_at_call 137; have _t := tok1; clear _t tok1; go_must (refine calls_gen fun wc hwc => ?_; (first | have hbx := drew_below hwc | have hbx := eq_below hwc); replace HBc := hide (HBc.out.trans (hbx.mono HBc.out.size)); replace HKc := hide (HKc.out.later hbx); replace HLc := hide (HLc.out.later hbx); replace G1 := hide (G1.out.later hbx); clear hwc hbx; refine (do1_any _ _ _ f _ _ _ s _ _ x1 y1 z1 x2 y2 z2 _ (HZ.out.later HBc.out) HP.out I1.out E2.out G1.out).mono ?_; rintro e wd ⟨gG2, cG2, rfl, hbd, hgG2, hlG2⟩; replace HBc := hide (HBc.out.trans (hbd.mono HBc.out.size)); replace HKc := hide (HKc.out.later hbd); replace HLc := hide (HLc.out.later hbd); replace G1 := hide (G1.out.later hbd); clear hbd; have k0 := HKc.out.cell 0 _ rfl; have k1 := HKc.out.cell 1 _ rfl; have G2 := hide hlG2; clear hlG2 hgG2)) | (go_at_call 137; have _t := tok2; clear _t tok2; go_must (refine calls_gen fun wc hwc => ?_; (first | have hbx := drew_below hwc | have hbx := eq_below hwc); replace HBc := hide (HBc.out.trans (hbx.mono HBc.out.size)); replace HKc := hide (HKc.out.later hbx); replace HLc := hide (HLc.out.later hbx); replace G1 := hide (G1.out.later hbx); replace G2 := hide (G2.out.later hbx); clear hwc hbx; refine (do0_any _ _ _ f _ _ _ s _ _ x2 y2 z2 x3 y3 z3 _ (HZ.out.later HBc.out) HP.out I2.out E3.out G2.out).mono ?_; rintro e wd ⟨gG3, cG3, rfl, hbd, hgG3, hlG3⟩; replace HBc := hide (HBc.out.trans (hbd.mono HBc.out.size)); replace HKc := hide (HKc.out.later hbd); replace HLc := hide (HLc.out.later hbd); replace G1 := hide (G1.out.later hbd); replace G2 := hide (G2.out.later hbd); clear hbd; have k0 := HKc.out.cell 0 _ rfl; have k1 := HKc.out.cell 1 _ rfl; have G3 := hide hlG3; clear hlG3 hgG3)) | (go_at_call 137; have _t := tok3; clear _t tok3; go_must (refine calls_gen fun wc hwc => ?_; (first | have hbx := drew_below hwc | have hbx := eq_below hwc); replace HBc := hide (HBc.out.trans (hbx.mono HBc.out.size)); replace HKc := hide (HKc.out.later hbx); replace HLc := hide (HLc.out.later hbx); replace G1 := hide (G1.out.later hbx); replace G2 := hide (G2.out.later hbx); replace G3 := hide (G3.out.later hbx); clear hwc hbx; refine (do1_any _ _ _ f _ _ _ s _ _ x y z s1 t1 r1 _ (HZ.out.later HBc.out) HP.out I0.out F1.out (L3.of_blk HLc.out)).mono ?_; rintro e wd ⟨gG4, cG4, rfl, hbd, hgG4, hlG4⟩; replace HBc := hide (HBc.out.trans (hbd.mono HBc.out.size)); replace HKc := hide (HKc.out.later hbd); replace HLc := hide (HLc.out.later hbd); replace G1 := hide (G1.out.later hbd); replace G2 := hide (G2.out.later hbd); replace G3 := hide (G3.out.later hbd); clear hbd; have k0 := HKc.out.cell 0 _ rfl; have k1 := HKc.out.cell 1 _ rfl; have G4 := hide hlG4; clear hlG4 hgG4)) | (go_at_call 137; have _t := tok4; clear _t tok4; go_must (refine calls_gen fun wc hwc => ?_; (first | have hbx := drew_below hwc | have hbx := eq_below hwc); replace HBc := hide (HBc.out.trans (hbx.mono HBc.out.size)); replace HKc := hide (HKc.out.later hbx); replace HLc := hide (HLc.out.later hbx); replace G1 := hide (G1.out.later hbx); replace G2 := hide (G2.out.later hbx); replace G3 := hide (G3.out.later hbx); replace G4 := hide (G4.out.later hbx); clear hwc hbx; refine (do0_any _ _ _ f _ _ _ s _ _ s1 t1 r1 s2 t2 r2 _ (HZ.out.later HBc.out) HP.out J1.out F2.out G4.out).mono ?_; rintro e wd ⟨gG5, cG5, rfl, hbd, hgG5, hlG5⟩; replace HBc := hide (HBc.out.trans (hbd.mono HBc.out.size)); replace HKc := hide (HKc.out.later hbd); replace HLc := hide (HLc.out.later hbd); replace G1 := hide (G1.out.later hbd); replace G2 := hide (G2.out.later hbd); replace G3 := hide (G3.out.later hbd); replace G4 := hide (G4.out.later hbd); clear hbd; have k0 := HKc.out.cell 0 _ rfl; have k1 := HKc.out.cell 1 _ rfl; have G5 := hide hlG5; clear hlG5 hgG5)) | (go_at_call 137; go_must (refine calls_gen fun wc hwc => ?_; (first | have hbx := drew_below hwc | have hbx := eq_below hwc); replace HBc := hide (HBc.out.trans (hbx.mono HBc.out.size)); replace HKc := hide (HKc.out.later hbx); replace HLc := hide (HLc.out.later hbx); replace G1 := hide (G1.out.later hbx); replace G2 := hide (G2.out.later hbx); replace G3 := hide (G3.out.later hbx); replace G4 := hide (G4.out.later hbx); replace G5 := hide (G5.out.later hbx); clear hwc hbx; refine (do1_any _ _ _ f _ _ _ s _ _ s2 t2 r2 s3 t3 r3 _ (HZ.out.later HBc.out) HP.out J2.out F3.out G5.out).mono ?_; rintro e wd ⟨gG6, cG6, rfl, hbd, hgG6, hlG6⟩; replace HBc := hide (HBc.out.trans (hbd.mono HBc.out.size)); replace HKc := hide (HKc.out.later hbd); replace HLc := hide (HLc.out.later hbd); replace G1 := hide (G1.out.later hbd); replace G2 := hide (G2.out.later hbd); replace G3 := hide (G3.out.later hbd); replace G4 := hide (G4.out.later hbd); replace G5 := hide (G5.out.later hbd); clear hbd; have k0 := HKc.out.cell 0 _ rfl; have k1 := HKc.out.cell 1 _ rfl; have G6 := hide hlG6; clear hlG6 hgG6)) | (go_at_call 82; go_must (refine calls_gen fun wc hwc => ?_; (first | have hbx := drew_below hwc | have hbx := eq_below hwc); replace HBc := hide (HBc.out.trans (hbx.mono HBc.out.size)); replace HKc := hide (HKc.out.later hbx); replace HLc := hide (HLc.out.later hbx); replace G3 := hide (G3.out.later hbx); replace G6 := hide (G6.out.later hbx); clear hwc hbx; refine (same_any _ _ _ _ _ _ (lst3 (x3, y3, z3)) (lst3 (s3, t3, r3)) false _ (show (lst3 (x3, y3, z3)).length = 3 from rfl) (show (lst3 (s3, t3, r3)).length = 3 from rfl) (by omega) (by omega) G3.out.rd G6.out.rd (by constructor <;> intro h; cases h; exact absurd h (fun h => HCS.out (lst3_inj h)))).mono ?_; rintro e wd ⟨rfl, hqd⟩; have hbd := hqd.below wc.heap.size; replace HBc := hide (HBc.out.trans (hbd.mono HBc.out.size)); replace HKc := hide (HKc.out.later hbd); replace HLc := hide (HLc.out.later hbd); clear hqd hbd; have k0 := HKc.out.cell 0 _ rfl; have k1 := HKc.out.cell 1 _ rfl)))
                clear k0 k1
                go_wp2_with fail
                go_ret
                exact ⟨Lb, 3, lst3 (x, y, z), rfl, HBc.out, hlo, ⟨_, HLc.out, fun i hi => by
                  simp [lst3] at hi
                  rcases i with _ | _ | _ | i
                  · rfl
                  · rfl
                  · rfl
                  · omega⟩, .inl ⟨by rw [HTB.out]; exact HKL.out, by rw [HTB.out, HTR.out], rfl⟩⟩
            · have hzn' : z = m := by omega
              subst hzn'
              go_wp2_with fail
              go_roundw
              case rel => exact ⟨y + 1, by omega, by go_num, HBJ.out, HKJ.out, fun i hi => HALLJ.out i (by rw [← Nat.add_assoc, Nat.add_mul _ 1, Nat.one_mul] at hi; exact hi)⟩
              case measure => simp [intOf]; omega
        · have hyn' : y = m := by omega
          subst hyn'
          go_wp2_with fail
          go_roundw
          case rel => exact ⟨x + 1, by omega, by go_num, HBI.out, HKI.out, fun i hi => HALLI.out i (by rw [Nat.add_mul x 1, Nat.one_mul] at hi; exact hi)⟩
          case measure => simp [intOf]; omega
    · have hxn : x = m := by omega
      subst hxn
      clear k0 k1
      go_wp2_with fail
      refine bp_gen fun wf hwf => ?_
      have HBF : Below w.heap.size w wf := by rw [hwf]; exact HB.out.alloc HB.out.size _
      have HOF : OwnB 2 wf wr.heap.size [] := by rw [hwf]; exact ⟨_, heap_alloc_new _ _, fun i hi => absurd hi (Nat.not_lt_zero _)⟩
      have hlo : w.heap.size ≤ wr.heap.size := HB.out.size
      clear hwf
      go_ret
      exact ⟨wr.heap.size, 0, _, rfl, HBF, hlo, HOF, .inr ⟨HT.out.all HALL.out, rfl, rfl⟩⟩
end Go.Proofs.Ytgahmfkmhaeniaa
namespace Go.Proofs.Ytgahmfkmhaeniaa
open Go Go.RowKit
set_option maxHeartbeats 2000000
theorem sqf_div {m a : Nat} (h : a < m * m) : a / m < m := Nat.div_lt_of_lt_mul h
theorem sqf_mod {m a : Nat} (h : a < m * m) : a % m < m := Nat.mod_lt _ (by rcases Nat.eq_zero_or_pos m with e | e; (subst e; simp at h); exact e)
theorem tdivN (a m : Nat) : Int.tdiv (a : Int) (m : Int) = ((a / m : Nat) : Int) := (Int.ofNat_tdiv a m).symm
theorem tmodN (a m : Nat) : Int.tmod (a : Int) (m : Int) = ((a % m : Nat) : Int) := (Int.ofNat_tmod a m).symm

set_option maxRecDepth 100000 in
theorem collS_any (A : Option Addr) (n c : Nat) (f : List (List Int)) (B : Option Addr) (m d : Nat) (s : List (List Int)) (w : World) (hz : ZArg 1048576 w A n f B m s) (hp : PMap f s) :
    Calls Try.prog 109 #[.agg #[.slice A n c, .slice B m d]] w fun e w' => ∃ g k zs, e = .returned (.slice (some ⟨g, 0, none⟩) k k) ∧ Below w.heap.size w w' ∧ w.heap.size ≤ g ∧ OwnB 2 w' g zs ∧ ((NoCol f s n ∧ zs = [] ∧ k = 0) ∨ ∃ a b, FstCol f s n a b ∧ zs = [((a / n : Nat) : Int), ((a % n : Nat) : Int), ((b / n : Nat) : Int), ((b % n : Nat) : Int)] ∧ k = 4) := by
  have hnb := hz.sz.nb
  have HZ := hide hz
  have HB0 := hide ((Below.refl _ w).alloc (Nat.le_refl _) (Obj.cells #[Value.slice A n c, Value.slice B m d] 41))
  have HK0 := hide (Blk.new w 41 [.slice A n c, .slice B m d])
  have HFL := hide hz.sz.fl
  have HP := hide hp
  have h12 := hz.small hp
  obtain rfl := hz.same hp
  have hm0 : (m : Int) ≠ 0 := by omega
  have hm1 : (m : Int) ≠ -1 := by omega
  clear hp hz
  obtain ⟨N, hN⟩ : ∃ N, m * m = N := ⟨_, rfl⟩
  have hN144 : N ≤ 144 := by rw [← hN]; exact Nat.mul_le_mul h12.2 h12.2
  have hNz : (m : Int) * (m : Int) = (N : Int) := by rw [← hN]; exact (Int.natCast_mul m m).symm
  have HN := hide hN
  clear hN
  go_enter Try.func109, Try.ntmps109
  go_wp2_with fail
  go_loopw [4] (fun i wr => ∃ x : Nat, x ≤ N ∧ i = .int .i64 x ∧ Below w.heap.size w wr ∧ Blk wr w.heap.size 41 [.slice A m c, .slice B m d] ∧ ∀ i j, i < x → j < N → j ≠ i → ledK f s m i ≠ ledK f s m j) (fun i _ => N - (intOf i).toNat)
  case atStart => exact ⟨0, Nat.zero_le _, rfl, HB0.out, HK0.out, fun a b ha => absurd ha (Nat.not_lt_zero _)⟩
  case round =>
    obtain ⟨a, ha, rfl, hbe, hkk, hall⟩ := hrel
    have HB := hide hbe
    have HK := hide hkk
    have HALL := hide hall
    clear hbe hkk hall
    by_cases hlt : a < N
    · have haz : (a : Int) < N := by omega
      go_wp2_with fail
      obtain ⟨wo, rfl⟩ : ∃ wo : World, wo = wr := ⟨_, rfl⟩
      go_loopw [5] (fun i wi => ∃ y : Nat, y ≤ N ∧ i = .int .i64 y ∧ Below w.heap.size w wi ∧ Blk wi w.heap.size 41 [.slice A m c, .slice B m d] ∧ ∀ j, j < y → j ≠ a → ledK f s m a ≠ ledK f s m j) (fun i _ => N - (intOf i).toNat)
      case atStart => exact ⟨0, Nat.zero_le _, rfl, HB.out, HK.out, fun b hb => absurd hb (Nat.not_lt_zero _)⟩
      case round =>
        obtain ⟨b, hb, rfl, hbi, hki, halli⟩ := hrel
        have HBI := hide hbi
        have HKI := hide hki
        have HALLI := hide halli
        clear hbi hki halli
        by_cases hlty : b < N
        · have hbz : (b : Int) < N := by omega
          have td1 := tdivN a m
          have td2 := tmodN a m
          have td3 := tdivN b m
          have td4 := tmodN b m
          obtain ⟨x, hx⟩ : ∃ x, a / m = x := ⟨_, rfl⟩
          obtain ⟨y, hy⟩ : ∃ y, a % m = y := ⟨_, rfl⟩
          obtain ⟨u, hu⟩ : ∃ u, b / m = u := ⟨_, rfl⟩
          obtain ⟨v, hv⟩ : ∃ v, b % m = v := ⟨_, rfl⟩
          have hxn : x < m := by rw [← hx]; exact sqf_div (by rw [HN.out]; exact hlt)
          have hyn : y < m := by rw [← hy]; exact sqf_mod (by rw [HN.out]; exact hlt)
          have hun : u < m := by rw [← hu]; exact sqf_div (by rw [HN.out]; exact hlty)
          have hvn : v < m := by rw [← hv]; exact sqf_mod (by rw [HN.out]; exact hlty)
          rw [hx] at td1
          rw [hy] at td2
          rw [hu] at td3
          rw [hv] at td4
          have HX := hide hx
          have HY := hide hy
          have HU := hide hu
          have HV := hide hv
          clear hx hy hu hv
          go_wp2_with fail
          go_region
          clear td1 td2 td3 td4
          have k0 := HKI.out.cell 0 _ rfl
          have k1 := HKI.out.cell 1 _ rfl
          obtain ⟨bb, o, b2, o2, bx, ox, cx, by', oy, cy, rfl, rfl, h1, h2, h3, h4, _, _, _, _⟩ := (HZ.out.later HBI.out).reads HP.out hxn hyn
          obtain ⟨b', o', b2', o2', bu, ou, cu, bv, ov, cv, e1, e2, g1, g2, g3, g4, _, _, _, _⟩ := (HZ.out.later HBI.out).reads HP.out hun hvn
          injection e1 with e1
          injection e1 with e1 e3 _
          injection e2 with e2
          injection e2 with e2 e4 _
          subst e1
          subst e3
          subst e2
          subst e4
          obtain ⟨p1, hp1⟩ : ∃ zz, ap f x y = zz := ⟨_, rfl⟩
          obtain ⟨p2, hp2⟩ : ∃ zz, ap s x y = zz := ⟨_, rfl⟩
          obtain ⟨q1, hq1⟩ : ∃ zz, ap f u v = zz := ⟨_, rfl⟩
          obtain ⟨q2, hq2⟩ : ∃ zz, ap s u v = zz := ⟨_, rfl⟩
          rw [hp1] at h3
          rw [hp2] at h4
          rw [hq1] at g3
          rw [hq2] at g4
          have hka : ledK f s m a = (p1, p2) := by unfold ledK; rw [HX.out, HY.out, hp1, hp2]
          have hkb : ledK f s m b = (q1, q2) := by unfold ledK; rw [HU.out, HV.out, hq1, hq2]
          have HKA := hide hka
          have HKB := hide hkb
          clear hka hkb hp1 hp2 hq1 hq2
          have hxz : (x : Int) < m := by omega
          have hyz : (y : Int) < m := by omega
          have huz : (u : Int) < m := by omega
          have hvz : (v : Int) < m := by omega
          have hcs : (((a : Int) != (b : Int)) = false ∧ Hid (b = a)) ∨ (((a : Int) != (b : Int)) = true ∧ ((p1 : Int) == (q1 : Int)) = false ∧ Hid (ledK f s m a ≠ ledK f s m b)) ∨ (((a : Int) != (b : Int)) = true ∧ ((p1 : Int) == (q1 : Int)) = true ∧ ((p2 : Int) == (q2 : Int)) = false ∧ Hid (ledK f s m a ≠ ledK f s m b)) ∨ (((a : Int) != (b : Int)) = true ∧ ((p1 : Int) == (q1 : Int)) = true ∧ ((p2 : Int) == (q2 : Int)) = true ∧ Hid (b ≠ a ∧ ledK f s m a = ledK f s m b)) := by
            by_cases z0 : b = a
            · exact .inl ⟨by simp [z0], hide z0⟩
            · by_cases z1 : p1 = q1
              · by_cases z2 : p2 = q2
                · exact .inr (.inr (.inr ⟨by simp; omega, by simp [z1], by simp [z2], hide ⟨z0, by rw [HKA.out, HKB.out, z1, z2]⟩⟩))
                · exact .inr (.inr (.inl ⟨by simp; omega, by simp [z1], by simp; omega, hide (by rw [HKA.out, HKB.out]; intro e; injection e with _ e; exact z2 e)⟩))
              · exact .inr (.inl ⟨by simp; omega, by simp; omega, hide (by rw [HKA.out, HKB.out]; intro e; injection e with e _; exact z1 e)⟩)
          rcases hcs with ⟨t1, HT⟩ | ⟨t1, t2, HT⟩ | ⟨t1, t2, t3, HT⟩ | ⟨t1, t2, t3, HT⟩
          · go_wp2_with fail
            go_quiet (fail)
            clear h1 h2 h3 h4 g1 g2 g3 g4 k0 k1
            have hBN := bdrewN HBI.out (1 + nq)
            have hKN := HKI.out.drewN (1 + nq)
            have HBN := hide hBN
            have HKN := hide hKN
            clear hBN hKN
            go_wp2_with fail
            go_roundw
            case rel =>
              exact ⟨b + 1, by omega, by go_num, HBN.out, HKN.out, fun j hj hne => by
                by_cases e : j = b
                · exact absurd (e.trans HT.out) hne
                · exact HALLI.out j (by omega) hne⟩
            case measure => simp [intOf]; omega
          · go_wp2_with fail
            go_quiet (fail)
            clear h1 h2 h3 h4 g1 g2 g3 g4 k0 k1
            have hBN := bdrewN HBI.out (1 + nq)
            have hKN := HKI.out.drewN (1 + nq)
            have HBN := hide hBN
            have HKN := hide hKN
            clear hBN hKN
            go_wp2_with fail
            go_roundw
            case rel =>
              exact ⟨b + 1, by omega, by go_num, HBN.out, HKN.out, fun j hj hne => by
                by_cases e : j = b
                · rw [e]; exact HT.out
                · exact HALLI.out j (by omega) hne⟩
            case measure => simp [intOf]; omega
          · go_wp2_with fail
            go_quiet (fail)
            clear h1 h2 h3 h4 g1 g2 g3 g4 k0 k1
            have hBN := bdrewN HBI.out (1 + nq)
            have hKN := HKI.out.drewN (1 + nq)
            have HBN := hide hBN
            have HKN := hide hKN
            clear hBN hKN
            go_wp2_with fail
            go_roundw
            case rel =>
              exact ⟨b + 1, by omega, by go_num, HBN.out, HKN.out, fun j hj hne => by
                by_cases e : j = b
                · rw [e]; exact HT.out
                · exact HALLI.out j (by omega) hne⟩
            case measure => simp [intOf]; omega
          · go_wp2_with fail
            go_quiet (fail)
            clear h1 h2 h3 h4 g1 g2 g3 g4 k0 k1
            have hBN := bdrewN HBI.out (1 + nq)
            have hKN := HKI.out.drewN (1 + nq)
            have HBN := hide hBN
            have HKN := hide hKN
            clear hBN hKN
            go_wp2_with fail
            refine bp_gen fun wf hwf => ?_
            have HBF : Below w.heap.size w wf := by rw [hwf]; exact HBN.out.alloc HBN.out.size _
            have HOF : OwnB 2 wf (wr.drewN (1 + nq)).heap.size [(x : Int), (y : Int), (u : Int), (v : Int)] := by
              rw [hwf]
              refine ⟨_, heap_alloc_new _ _, fun i hi => ?_⟩
              simp at hi
              rcases i with _ | _ | _ | _ | i
              · rfl
              · rfl
              · rfl
              · rfl
              · omega
            have hlo : w.heap.size ≤ (wr.drewN (1 + nq)).heap.size := HBN.out.size
            clear hwf
            have HFC : Hid (FstCol f s m a b) := hide ⟨by rw [HN.out]; exact hlt, by rw [HN.out]; exact hlty, fun e => HT.out.1 e.symm, HT.out.2, fun i hi j hj => HALL.out i j hi (by rw [← HN.out]; exact hj), fun j hj hne => HALLI.out j hj hne⟩
            go_ret
            exact ⟨_, 4, _, rfl, HBF, hlo, HOF, .inr ⟨a, b, HFC.out, by rw [HX.out, HY.out, HU.out, HV.out], rfl⟩⟩
        · have hyn : b = N := by omega
          subst hyn
          go_wp2_with fail
          go_roundw
          case rel =>
            refine ⟨a + 1, by omega, by go_num, HBI.out, HKI.out, fun i j hi hj hne => ?_⟩
            by_cases e : i = a
            · subst e; exact HALLI.out j hj hne
            · exact HALL.out i j (by omega) hj hne
          case measure => simp [intOf]; omega
    · have hxn : a = N := by omega
      subst hxn
      go_wp2_with fail
      refine bp_gen fun wf hwf => ?_
      have HBF : Below w.heap.size w wf := by rw [hwf]; exact HB.out.alloc HB.out.size _
      have HOF : OwnB 2 wf wr.heap.size [] := by rw [hwf]; exact ⟨_, heap_alloc_new _ _, fun i hi => absurd hi (Nat.not_lt_zero _)⟩
      have hlo : w.heap.size ≤ wr.heap.size := HB.out.size
      clear hwf
      go_ret
      exact ⟨_, 0, [], rfl, HBF, hlo, HOF, .inl ⟨fun i j hi hj hne => HALL.out i j (by rw [← HN.out]; exact hi) (by rw [← HN.out]; exact hj) (fun e => hne e.symm), rfl, rfl⟩⟩
end Go.Proofs.Ytgahmfkmhaeniaa
namespace Go.Proofs.Ytgahmfkmhaeniaa
open Go Go.RowKit
set_option maxHeartbeats 1000000
theorem isS_any (A : Option Addr) (n c : Nat) (f : List (List Int)) (B : Option Addr) (m d : Nat) (s : List (List Int)) (r : Bool) (w : World) (hz : ZArg 1048576 w A n f B m s) (hr : IsRes f s r) :
    Calls Try.prog 72 #[.agg #[.slice A n c, .slice B m d]] w fun e w' => e = .returned (.bool r) ∧ Below w.heap.size w w' := by
  have HZ := hide hz
  have HB0 := hide ((Below.refl _ w).alloc (Nat.le_refl _) (Obj.cells #[Value.slice A n c, Value.slice B m d] 41))
  have HK0 := hide (Blk.new w 41 [.slice A n c, .slice B m d])
  have hcs := hr.cases hz.sz.fl
  clear hr hz
  rcases hcs with ⟨hp, rfl⟩ | ⟨hp, T, hT, hq⟩
  · have HP := hide hp
    clear hp
    go_enter Try.func72, Try.ntmps72
    go_wp2_with fail
    refine (mapS_any _ _ _ f _ _ _ s false _ (HZ.out.later HB0.out) (by simp [HP.out])).mono ?_
    rintro e w1 ⟨rfl, hb1⟩
    have HB1 := hide (HB0.out.trans (hb1.mono HB0.out.size))
    have HK1 := hide (HK0.out.later hb1)
    have k0 := HK1.out.cell 0 _ rfl
    have k1 := HK1.out.cell 1 _ rfl
    clear hb1
    go_wp2_with fail
    go_ret
    exact ⟨rfl, HB1.out⟩
  · have HP := hide hp
    have HT := hide hT
    clear hp hT
    have hq2 : (Hid (∃ a b, FstCol f s n a b) ∧ r = false) ∨ (Hid (NoCol f s n) ∧ ((T < n * n * n ∧ r = false) ∨ (T = n * n * n ∧ r = true))) := by
      rcases hq with ⟨h1, ⟨h2, h⟩ | ⟨h2, h⟩⟩ | ⟨h1, ⟨h2, h⟩ | ⟨h2, h⟩⟩
      · exact .inr ⟨hide h2, .inl ⟨h1, h⟩⟩
      · exact .inl ⟨hide h2, h⟩
      · exact .inl ⟨hide h2, h⟩
      · exact .inr ⟨hide h2, .inr ⟨h1, h⟩⟩
    clear hq
    rcases hq2 with ⟨HC, rfl⟩ | ⟨HC, ⟨hlt, rfl⟩ | ⟨hte, rfl⟩⟩
    · go_enter Try.func72, Try.ntmps72
      go_wp2_with fail
      refine (mapS_any _ _ _ f _ _ _ s true _ (HZ.out.later HB0.out) (by simp [HP.out])).mono ?_
      rintro e w1 ⟨rfl, hb1⟩
      have HB1 := hide (HB0.out.trans (hb1.mono HB0.out.size))
      have HK1 := hide (HK0.out.later hb1)
      have k0 := HK1.out.cell 0 _ rfl
      have k1 := HK1.out.cell 1 _ rfl
      clear hb1
      go_wp2_with fail
      refine (collS_any _ _ _ f _ _ _ s _ (HZ.out.later HB1.out) HP.out).mono ?_
      rintro e w2 ⟨g, q, ys, rfl, hb2, _, _, hres⟩
      have HB2 := hide (HB1.out.trans (hb2.mono HB1.out.size))
      have HK2 := hide (HK1.out.later hb2)
      have hq9 : q = 4 := by obtain ⟨a, b, hf⟩ := HC.out; rcases hres with ⟨hno, _⟩ | ⟨a', b', _, _, h⟩; exact absurd hno hf.not; exact h
      subst hq9
      clear hb2 hres k0 k1
      have k0 := HK2.out.cell 0 _ rfl
      have k1 := HK2.out.cell 1 _ rfl
      go_wp2_with fail
      go_ret
      exact ⟨rfl, HB2.out⟩
    · go_enter Try.func72, Try.ntmps72
      go_wp2_with fail
      refine (mapS_any _ _ _ f _ _ _ s true _ (HZ.out.later HB0.out) (by simp [HP.out])).mono ?_
      rintro e w1 ⟨rfl, hb1⟩
      have HB1 := hide (HB0.out.trans (hb1.mono HB0.out.size))
      have HK1 := hide (HK0.out.later hb1)
      have k0 := HK1.out.cell 0 _ rfl
      have k1 := HK1.out.cell 1 _ rfl
      clear hb1
      go_wp2_with fail
      refine (collS_any _ _ _ f _ _ _ s _ (HZ.out.later HB1.out) HP.out).mono ?_
      rintro e w2 ⟨g, q, ys, rfl, hb2, _, _, hres⟩
      have HB2 := hide (HB1.out.trans (hb2.mono HB1.out.size))
      have HK2 := hide (HK1.out.later hb2)
      have hq9 : q = 0 := by rcases hres with ⟨_, _, h⟩ | ⟨a', b', hf2, _⟩; exact h; exact absurd HC.out hf2.not
      subst hq9
      clear hb2 hres k0 k1
      have k0 := HK2.out.cell 0 _ rfl
      have k1 := HK2.out.cell 1 _ rfl
      go_wp2_with fail
      refine (faultS_any _ _ _ f _ _ _ s T _ (HZ.out.later HB2.out) HP.out HT.out).mono ?_
      rintro e w3 ⟨g3, q3, ys3, rfl, hb3, _, _, hres⟩
      have HB3 := hide (HB2.out.trans (hb3.mono HB2.out.size))
      have hq9 : q3 = 3 := by rcases hres with ⟨h1, _, h2⟩ | ⟨h1, _, h2⟩ <;> omega
      subst hq9
      clear hb3 hres k0 k1
      go_wp2_with fail
      go_ret
      exact ⟨rfl, HB3.out⟩
    · go_enter Try.func72, Try.ntmps72
      go_wp2_with fail
      refine (mapS_any _ _ _ f _ _ _ s true _ (HZ.out.later HB0.out) (by simp [HP.out])).mono ?_
      rintro e w1 ⟨rfl, hb1⟩
      have HB1 := hide (HB0.out.trans (hb1.mono HB0.out.size))
      have HK1 := hide (HK0.out.later hb1)
      have k0 := HK1.out.cell 0 _ rfl
      have k1 := HK1.out.cell 1 _ rfl
      clear hb1
      go_wp2_with fail
      refine (collS_any _ _ _ f _ _ _ s _ (HZ.out.later HB1.out) HP.out).mono ?_
      rintro e w2 ⟨g, q, ys, rfl, hb2, _, _, hres⟩
      have HB2 := hide (HB1.out.trans (hb2.mono HB1.out.size))
      have HK2 := hide (HK1.out.later hb2)
      have hq9 : q = 0 := by rcases hres with ⟨_, _, h⟩ | ⟨a', b', hf2, _⟩; exact h; exact absurd HC.out hf2.not
      subst hq9
      clear hb2 hres k0 k1
      have k0 := HK2.out.cell 0 _ rfl
      have k1 := HK2.out.cell 1 _ rfl
      go_wp2_with fail
      refine (faultS_any _ _ _ f _ _ _ s T _ (HZ.out.later HB2.out) HP.out HT.out).mono ?_
      rintro e w3 ⟨g3, q3, ys3, rfl, hb3, _, _, hres⟩
      have HB3 := hide (HB2.out.trans (hb3.mono HB2.out.size))
      have hq9 : q3 = 0 := by rcases hres with ⟨h1, _, h2⟩ | ⟨h1, _, h2⟩ <;> omega
      subst hq9
      clear hb3 hres k0 k1
      go_wp2_with fail
      go_ret
      exact ⟨rfl, HB3.out⟩
end Go.Proofs.Ytgahmfkmhaeniaa
namespace Go.Proofs.Ytgahmfkmhaeniaa
open Go Go.RowKit
set_option maxHeartbeats 1000000

def colL (rows : List (List Int)) (j : Nat) : List Int := (List.range rows.length).map fun (x : Nat) => (rows.getD x []).getD j 0
theorem colL_length (rows : List (List Int)) (j : Nat) : (colL rows j).length = rows.length := by simp [colL]
theorem colL_getD (rows : List (List Int)) (j k : Nat) (h : k < rows.length) : (colL rows j).getD k 0 = (rows.getD k []).getD j 0 := by simp [colL, h]
theorem turnL_row (rows : List (List Int)) (j : Nat) (h : j < rows.length) : (turnL rows).getD j [] = colL rows j := by
  unfold turnL
  rw [grid_row _ _ _ h]
  rfl

theorem ints_take_succ (zs : List Int) (k : Nat) (y : Int) (h : k < zs.length) (hy : zs.getD k 0 = y) : ints (zs.take k) ++ [.int .i64 y] = ints (zs.take (k + 1)) := by
  rw [List.take_succ_eq_append_getElem h]
  have : zs[k] = y := by simpa [h] using hy
  simp [ints, this]

theorem colInfo : (Try.prog.info? 2).map (fun i => (i.zero, i.size, i.bytes)) = some (some (.int .i64 0), 1, 8) := by kernel_rfl
theorem colsInfo2 : (Try.prog.info? 31).map (fun i => (i.zero, i.size, i.bytes)) = some (some (.slice none 0 0), 1, 24) := by kernel_rfl

theorem row_empty (w : World) (t : TypeId) : (w.alloc (.cells #[] t)).ownsRow w.heap.size t 1 (.slice (some ⟨w.heap.size, 0, none⟩) 0 0) 0 [] :=
  ⟨by simp, .inr ⟨w.heap.size, 0, #[], rfl, Nat.le_refl _, heap_alloc_new _ _, Nat.le_refl _, by unfold maxLen; omega, by simp, by simp⟩⟩

theorem one_new {w : World} {v : Value} {t : TypeId} : ∀ j u, [v][j]? = some u → (w.alloc (.cells #[v] t)).cell? ((⟨w.heap.size, 0, none⟩ : Addr).add j) = some u := by
  intro j u hj
  match j, hj with
  | 0, hj => simp at hj; subst hj; simp [Addr.add, World.cell?_alloc_new]

theorem l01Column_any (A : Option Addr) (n c m j : Nat) (rows : List (List Int)) (w : World) (hn : rows.length = n) (hb : n ≤ 1048576) (hm : m ≤ 1048576) (hbs : ∀ i, i < rows.length → (rows.getD i []).length = m) (hj : j < m) (hr : Rd2 w A rows) :
    Calls Try.prog 138 #[.slice A n c, .int .i64 j] w fun e w' => ∃ A' c', e = .returned (.slice A' n c') ∧ Below w.heap.size w w' ∧ Res 2 w.heap.size w' A' (colL rows j) := by
  have HN := hide hn
  have HZ : Hid ((colL rows j).length = n) := hide ((colL_length rows j).trans hn)
  clear hn
  obtain ⟨i0, hi, hz0, hz1, hz2⟩ := info_parts colInfo
  go_enter Try.func138, Try.ntmps138
  go_wp2_with fail
  go_loopw [5, 6] (fun v i wr => ∃ k : Nat, k ≤ n ∧ i = .int .i64 k ∧ Below w.heap.size w wr ∧ wr.ownsRow w.heap.size 2 1 v k (ints ((colL rows j).take k)) ∧ w.heap.size ≤ wr.heap.size) (fun _ i _ => n - (intOf i).toNat)
  case atStart => exact ⟨0, Nat.zero_le _, rfl, (Below.refl _ _).alloc (Nat.le_refl _) _, by simpa [ints] using row_empty w _, by simp⟩
  case round =>
    obtain ⟨k, hk, rfl, hbe, hown, hsz⟩ := hrel
    have HB := hide hbe
    have HO := hide hown
    clear hbe hown
    by_cases hlt : k < n
    · obtain ⟨b, o, rfl, hbw, hc⟩ := hr (by have := HN.out; omega)
      obtain ⟨Ak, ck, hcell, hrd⟩ := hc k (by have := HN.out; omega)
      have hl := hbs k (by have := HN.out; omega)
      obtain ⟨r, hx'⟩ : ∃ r, r = rows.getD k [] := ⟨_, rfl⟩
      rw [← hx'] at hcell hrd hl
      rw [hl] at hcell
      have HX := hide hx'
      have HL := hide hl
      have hcell' : wr.cell? ⟨b, o + k, none⟩ = some (.slice Ak m ck) := (HB.out.cell (p := ⟨b, o + k, none⟩) hbw).trans hcell
      obtain ⟨b2, o2, rfl, hbw2, hc2⟩ := hrd (by omega)
      have hc3 : wr.cell? ⟨b2, o2 + j, none⟩ = some (.int .i64 (r.getD j 0)) := (HB.out.cell (p := ⟨b2, o2 + j, none⟩) hbw2).trans (hc2 j (by omega))
      obtain ⟨y, hy'⟩ : ∃ y, r.getD j 0 = y := ⟨_, rfl⟩
      rw [hy'] at hc3
      have HY : Hid ((colL rows j).getD k 0 = y) := hide (by rw [colL_getD rows j k (by have := HN.out; omega), ← HX.out]; exact hy')
      clear hx' hc hc2 hy' hcell hrd hl hbs hr
      have hltz : (k : Int) < n := by omega
      have hjz : (j : Int) < m := by omega
      go_wp2_with (at_builtin; refine wpList_append_own _ rfl _ _ 31 rfl w.heap.size 2 i0 (.int .i64 0) 1 8 Try.underlying31 hi hz0 hz1 hz2 rfl (by decide) _ _ _ rfl (HO.out.alloc _) ⟨wr.heap.size, 0, none⟩ 1 1 [.int .i64 y] rfl rfl ?c1 ?c2 ?c3 ?c4 ?c5 ?_)
      case c1 => exact one_new
      case c2 => intro u hu; simp at hu; subst hu; rfl
      case c3 => unfold maxLen; omega
      case c4 => omega
      case c5 => simp; omega
      intro v' w1 hown' hgrow _
      have HO' := hide hown'
      have HG := hide hgrow
      clear hown' hgrow
      go_wp2_with fail
      go_roundw
      case rel =>
        have hB1 : Below w.heap.size w w1 := (HB.out.alloc hsz _).grown HG.out (by simp; omega) (fun g hg => (HO.out.alloc (.cells #[.int .i64 y] 2)).lt g hg |>.1)
        refine ⟨k + 1, by omega, by go_num, hB1, ?_, by have := hB1.size; omega⟩
        have h := HO'.out
        rw [ints_take_succ _ k y (by have := HZ.out; omega) HY.out] at h
        exact h
      case measure => simp [intOf]; omega
    · have hkn : k = n := by omega
      subst hkn
      go_wp2_with fail
      have h := HO.out
      rw [List.take_of_length_le (by have := HZ.out; omega)] at h
      go_ret
      obtain ⟨A', c', hv, hres⟩ := own_shape h
      exact ⟨A', c', by rw [← hv]; rfl, HB.out, hres⟩

theorem l01Turn_any (A : Option Addr) (n c : Nat) (rows : List (List Int)) (w : World) (hn : rows.length = n) (hb : n ≤ 1048576) (hbs : ∀ i, i < rows.length → (rows.getD i []).length = n) (hr : Rd2 w A rows) :
    Calls Try.prog 111 #[.slice A n c] w fun e w' => ∃ A' c', e = .returned (.slice A' n c') ∧ Below w.heap.size w w' ∧ Obj2 31 2 w.heap.size w'.heap.size w' A' (turnL rows) := by
  have HN := hide hn
  have HZ : Hid ((turnL rows).length = n) := hide ((turnL_length rows).trans hn)
  clear hn
  obtain ⟨i0, hi, hz0, hz1, hz2⟩ := info_parts colsInfo2
  go_enter Try.func111, Try.ntmps111
  go_wp2_with fail
  go_loopw [3, 4] (fun v i wr => ∃ (k : Nat) (vals : List Value), k ≤ n ∧ i = .int .i64 k ∧ Below w.heap.size w wr ∧ LstV 31 2 w.heap.size wr v ((turnL rows).take k) vals ∧ w.heap.size ≤ wr.heap.size) (fun _ i _ => n - (intOf i).toNat)
  case atStart => exact ⟨0, [], Nat.zero_le _, rfl, (Below.refl _ _).alloc (Nat.le_refl _) _, by simpa using LstV.start w _ _, by simp⟩
  case round =>
    obtain ⟨k, vals, hk, rfl, hbe, hlst, hsz⟩ := hrel
    have HB := hide hbe
    have HL := hide hlst
    clear hbe hlst
    by_cases hlt : k < n
    · have hltz : (k : Int) < n := by omega
      go_wp2_with fail
      refine (l01Column_any _ _ _ n k rows _ HN.out hb hb hbs hlt (hr.later HB.out)).mono ?_
      rintro e w2 ⟨A2, c2, rfl, hb2, hres⟩
      have HB2 := hide hb2
      have HR2 := hide hres.obj
      clear hb2 hres
      have HL2 := hide (HL.out.later HB2.out)
      have hlen : ((turnL rows).take k).length = k := by have := HZ.out; simp; omega
      have hown : w2.ownsRow w.heap.size 31 1 u3 k vals := by have := HL2.out.own; rwa [hlen] at this
      have HO := hide hown
      have hs2 : w.heap.size ≤ w2.heap.size := by have := HB2.out.size; omega
      clear hown hlen
      go_wp2_with (at_builtin; refine wpList_append_own _ rfl _ _ 22 rfl w.heap.size 31 i0 (.slice none 0 0) 1 24 Try.underlying22 hi hz0 hz1 hz2 rfl (by decide) _ _ _ rfl (HO.out.alloc _) ⟨w2.heap.size, 0, none⟩ 1 1 [.slice A2 n c2] rfl rfl ?c1 ?c2 ?c3 ?c4 ?c5 ?_)
      case c1 => exact one_new
      case c2 => intro u hu; simp at hu; subst hu; rfl
      case c3 => unfold maxLen; omega
      case c4 => omega
      case c5 => simp; omega
      intro v' w3 hown' hgrow _
      have HO' := hide hown'
      have HG := hide hgrow
      clear hown' hgrow
      go_wp2_with fail
      go_roundw
      case rel =>
        have hB3 : Below w.heap.size w w3 := ((HB.out.trans (HB2.out.mono hsz)).alloc hs2 _).grown HG.out (by simp; omega) (fun g hg => (HO.out.alloc (.cells #[.slice A2 n c2] 31)).lt g hg |>.1)
        have hN := HN.out
        have hlen : ((turnL rows).take k).length = k := by have := HZ.out; simp; omega
        have hrow : (turnL rows).getD k [] = colL rows k := turnL_row rows k (by omega)
        have hcl : (colL rows k).length = n := by rw [colL_length]; exact hN
        have hpush := LstV.push (tmp := .cells #[.slice A2 n c2] 31) (A := A2) (c := c2) (r := colL rows k) (w1 := w3) (v' := v') (by decide) hsz HL.out HB2.out HR2.out (by rw [hlen, hcl]; exact HO'.out) HG.out
        refine ⟨k + 1, vals ++ [.slice A2 (colL rows k).length c2], by omega, by go_num, hB3, ?_, by have := hB3.size; omega⟩
        have e : (turnL rows).take (k + 1) = (turnL rows).take k ++ [colL rows k] := by
          have hl : k < (turnL rows).length := by have := HZ.out; omega
          rw [List.take_succ_eq_append_getElem hl, ← hrow]
          simp [hl]
        rw [e]
        exact hpush
      case measure => simp [intOf]; omega
    · have hkn : k = n := by omega
      subst hkn
      go_wp2_with fail
      have h := HL.out
      rw [List.take_of_length_le (by have := HZ.out; omega)] at h
      go_ret
      obtain ⟨A', c', hv, hobj⟩ := h.shape
      have hz := HZ.out
      exact ⟨A', c', by rw [hz] at hv; rw [← hv]; rfl, HB.out, hobj⟩
end Go.Proofs.Ytgahmfkmhaeniaa
namespace Go.Proofs.Ytgahmfkmhaeniaa
open Go Go.RowKit
set_option maxHeartbeats 1000000

theorem goodS_any (A : Option Addr) (n c : Nat) (f : List (List Int)) (B : Option Addr) (m d : Nat) (s : List (List Int)) (r : Bool) (w : World) (hz : ZArg 1048576 w A n f B m s) (hp : PMap f s) (hr : r = true ↔ NonF f s) :
    Calls Try.prog 73 #[.agg #[.slice A n c, .slice B m d]] w fun e w' => e = .returned (.bool r) ∧ Below w.heap.size w w' := by
  have hnb := hz.sz.nb
  have HZ := hide hz
  have HB0 := hide ((Below.refl _ w).alloc (Nat.le_refl _) (Obj.cells #[Value.slice A n c, Value.slice B m d] 41))
  have HK0 := hide (Blk.new w 41 [.slice A n c, .slice B m d])
  have HP := hide hp
  have HR := hide hr
  obtain rfl := hz.same hp
  clear hp hr hz
  by_cases h1 : AllPrm f
  · have H1 := hide h1
    have hr2 : r = true ↔ AllPrm (turnL s) := by rw [HR.out]; unfold NonF; exact ⟨fun h => h.2, fun h => ⟨h1, h⟩⟩
    have HR2 := hide hr2
    clear h1 hr2
    go_enter Try.func73, Try.ntmps73
    go_wp2_with fail
    refine (rowsS_any _ _ _ f true _ HZ.out.sz.fl hnb HZ.out.sz.nr (HZ.out.later HB0.out).fst ⟨fun _ => H1.out, fun _ => rfl⟩).mono ?_
    rintro e w2 ⟨rfl, hb2⟩
    have HB2 := hide (HB0.out.trans (hb2.mono HB0.out.size))
    have HK2 := hide (HK0.out.later hb2)
    have k0 := HK2.out.cell 0 _ rfl
    have k1 := HK2.out.cell 1 _ rfl
    clear hb2
    go_wp2_with fail
    refine (l01Turn_any _ _ _ s _ HZ.out.sz.sl hnb (fun i hi => by rw [HP.out.2.1.rows i hi]; exact HZ.out.sz.sl) (HZ.out.later HB2.out).snd).mono ?_
    rintro e w3 ⟨A3, c3, rfl, hb3, hobj⟩
    have HB3 := hide (HB2.out.trans (hb3.mono HB2.out.size))
    have HOBJ := hide hobj
    clear hb3 hobj
    go_wp2_with fail
    refine (rowsS_any _ _ _ (turnL s) r _ (by rw [turnL_length]; exact HZ.out.sz.sl) hnb (fun i hi => by rw [turnL_length] at hi; unfold turnL; rw [grid_row_length _ _ _ hi, HZ.out.sz.sl]; exact hnb) HOBJ.out.rd HR2.out).mono ?_
    rintro e w4 ⟨rfl, hb4⟩
    have HB4 := hide (HB3.out.trans (hb4.mono HB3.out.size))
    clear hb4
    go_wp2_with fail
    go_ret
    exact ⟨rfl, HB4.out⟩
  · have hrf : r = false := by
      cases r
      · rfl
      · exact absurd (HR.out.1 rfl).1 h1
    subst hrf
    have H1 := hide h1
    clear h1
    go_enter Try.func73, Try.ntmps73
    go_wp2_with fail
    refine (rowsS_any _ _ _ f false _ HZ.out.sz.fl hnb HZ.out.sz.nr (HZ.out.later HB0.out).fst ⟨fun h => absurd h (by simp), fun h => absurd h H1.out⟩).mono ?_
    rintro e w2 ⟨rfl, hb2⟩
    have HB2 := hide (HB0.out.trans (hb2.mono HB0.out.size))
    clear hb2
    go_wp2_with fail
    go_ret
    exact ⟨rfl, HB2.out⟩
end Go.Proofs.Ytgahmfkmhaeniaa
namespace Go.Proofs.Ytgahmfkmhaeniaa
open Go Go.RowKit
set_option maxHeartbeats 1000000

theorem twiceS_any (A : Option Addr) (n c : Nat) (f : List (List Int)) (B : Option Addr) (m d : Nat) (s : List (List Int)) (r : Bool) (w : World) (hz : ZArg 1048576 w A n f B m s) (hp : PMap f s) (hr : r = true ↔ InvF f s) :
    Calls Try.prog 74 #[.agg #[.slice A n c, .slice B m d]] w fun e w' => e = .returned (.bool r) ∧ Below w.heap.size w w' := by
  have hnb := hz.sz.nb
  have HZ := hide hz
  have HB0 := hide ((Below.refl _ w).alloc (Nat.le_refl _) (Obj.cells #[Value.slice A n c, Value.slice B m d] 41))
  have HK0 := hide (Blk.new w 41 [.slice A n c, .slice B m d])
  have HFL := hide hz.sz.fl
  have HP := hide hp
  have HR := hide hr
  have h12 := hz.small hp
  obtain rfl := hz.same hp
  clear hp hr hz
  go_enter Try.func74, Try.ntmps74
  go_wp2_with fail
  go_loopw [3] (fun i wr => ∃ x : Nat, x ≤ m ∧ i = .int .i64 x ∧ Below w.heap.size w wr ∧ Blk wr w.heap.size 41 [.slice A m c, .slice B m d] ∧ ∀ a b, a < x → b < m → ap f (ap f a b) (ap s a b) = a ∧ ap s (ap f a b) (ap s a b) = b) (fun i _ => m - (intOf i).toNat)
  case atStart => exact ⟨0, Nat.zero_le _, rfl, HB0.out, HK0.out, fun a b ha => absurd ha (Nat.not_lt_zero _)⟩
  case round =>
    obtain ⟨x, hx, rfl, hbe, hkk, hall⟩ := hrel
    have HB := hide hbe
    have HK := hide hkk
    have HALL := hide hall
    clear hbe hkk hall
    have k0 := HK.out.cell 0 _ rfl
    have k1 := HK.out.cell 1 _ rfl
    by_cases hlt : x < m
    · have hxz : (x : Int) < m := by omega
      go_wp2_with fail
      clear k0 k1
      obtain ⟨wo, rfl⟩ : ∃ wo : World, wo = wr := ⟨_, rfl⟩
      go_loopw [4] (fun i wi => ∃ y : Nat, y ≤ m ∧ i = .int .i64 y ∧ Below w.heap.size w wi ∧ Blk wi w.heap.size 41 [.slice A m c, .slice B m d] ∧ ∀ b, b < y → ap f (ap f x b) (ap s x b) = x ∧ ap s (ap f x b) (ap s x b) = b) (fun i _ => m - (intOf i).toNat)
      case atStart => exact ⟨0, Nat.zero_le _, rfl, HB.out, HK.out, fun b hb => absurd hb (Nat.not_lt_zero _)⟩
      case round =>
        obtain ⟨y, hy, rfl, hbi, hki, halli⟩ := hrel
        have HBI := hide hbi
        have HKI := hide hki
        have HALLI := hide halli
        clear hbi hki halli
        have k0 := HKI.out.cell 0 _ rfl
        have k1 := HKI.out.cell 1 _ rfl
        by_cases hlty : y < m
        · have hyz : (y : Int) < m := by omega
          obtain ⟨b, o, b2, o2, bx, ox, cx, by', oy, cy, rfl, rfl, h1, h2, h3, h4, _, _, _, _⟩ := (HZ.out.later HBI.out).reads HP.out hlt hlty
          have hu := HP.out.lt1 HFL.out hlt hlty
          have hv := HP.out.lt2 HFL.out hlt hlty
          obtain ⟨u, hue⟩ : ∃ u, ap f x y = u := ⟨_, rfl⟩
          obtain ⟨v, hve⟩ : ∃ v, ap s x y = v := ⟨_, rfl⟩
          rw [hue] at h3 hu
          rw [hve] at h4 hv
          obtain ⟨b', o', b2', o2', bu, ou, cu, bv, ov, cv, e1, e2, g1, g2, g3, g4, _, _, _, _⟩ := (HZ.out.later HBI.out).reads HP.out hu hv
          injection e1 with e1
          injection e1 with e1 e3 _
          injection e2 with e2
          injection e2 with e2 e4 _
          subst e1
          subst e3
          subst e2
          subst e4
          obtain ⟨u2, hue2⟩ : ∃ u2, ap f u v = u2 := ⟨_, rfl⟩
          obtain ⟨v2, hve2⟩ : ∃ v2, ap s u v = v2 := ⟨_, rfl⟩
          rw [hue2] at g3
          rw [hve2] at g4
          have HU := hide hue
          have HV := hide hve
          have HU2 := hide hue2
          have HV2 := hide hve2
          clear hue hve hue2 hve2
          have huz : (u : Int) < m := by omega
          have hvz : (v : Int) < m := by omega
          have hno : ¬ (u2 = x ∧ v2 = y) → r = false := fun h => by
            cases r
            · rfl
            · have h0 := (HR.out.1 rfl) x y (by have := HFL.out; omega) (by have := HFL.out; omega)
              rw [HU.out, HV.out, HU2.out, HV2.out] at h0
              exact absurd h0 h
          have HNO := hide hno
          clear hno
          have hcs : (((u2 : Int) != (x : Int)) = false ∧ ((v2 : Int) != (y : Int)) = false ∧ u2 = x ∧ v2 = y) ∨ (((u2 : Int) != (x : Int)) = true ∧ ¬ u2 = x) ∨ (((u2 : Int) != (x : Int)) = false ∧ ((v2 : Int) != (y : Int)) = true ∧ ¬ v2 = y) := by
            by_cases q1 : u2 = x
            · by_cases q2 : v2 = y
              · exact .inl ⟨by simp [q1], by simp [q2], q1, q2⟩
              · exact .inr (.inr ⟨by simp [q1], by simp; omega, q2⟩)
            · exact .inr (.inl ⟨by simp; omega, q1⟩)
          go_wp2_with fail
          go_quiet (fail)
          have hBN := bdrewN HBI.out nq
          have hKN := HKI.out.drewN nq
          have HBN := hide hBN
          have HKN := hide hKN
          clear hBN hKN
          rcases hcs with ⟨t1, t2, t3, t4⟩ | ⟨t1, t2⟩ | ⟨t1, t2, t3⟩
          · have HT := hide (And.intro t3 t4)
            clear t3 t4
            go_wp2_with fail
            go_roundw
            case rel =>
              refine ⟨y + 1, by omega, by go_num, HBN.out, HKN.out, fun b hb => ?_⟩
              by_cases e : b = y
              · subst e; rw [HU.out, HV.out, HU2.out, HV2.out]; exact HT.out
              · exact HALLI.out b (by omega)
            case measure => simp [intOf]; omega
          · have hrf := HNO.out (fun h => t2 h.1)
            subst hrf
            clear t2
            go_wp2_with fail
            go_ret
            exact ⟨rfl, HBN.out⟩
          · have hrf := HNO.out (fun h => t3 h.2)
            subst hrf
            clear t3
            go_wp2_with fail
            go_ret
            exact ⟨rfl, HBN.out⟩
        · have hyn : y = m := by omega
          subst hyn
          go_wp2_with fail
          go_roundw
          case rel =>
            refine ⟨x + 1, by omega, by go_num, HBI.out, HKI.out, fun a b ha hb => ?_⟩
            by_cases e : a = x
            · subst e; exact HALLI.out b hb
            · exact HALL.out a b (by omega) hb
          case measure => simp [intOf]; omega
    · have hxn : x = m := by omega
      subst hxn
      have hrt : r = true := HR.out.2 (fun a b ha hb => HALL.out a b (by have := HFL.out; omega) (by have := HFL.out; omega))
      subst hrt
      go_wp2_with fail
      go_ret
      exact ⟨rfl, HB.out⟩
end Go.Proofs.Ytgahmfkmhaeniaa
namespace Go.Proofs.Ytgahmfkmhaeniaa
open Go Go.RowKit
set_option maxHeartbeats 2000000

set_option maxRecDepth 100000 in
theorem zcI_any (A : Option Addr) (n c : Nat) (f : List (List Int)) (B : Option Addr) (m d : Nat) (s : List (List Int))  (zs : List (List Int)) (code : Int) (k : Nat) (w : World) (hz : ZArg 1048576 w A n f B m s)  (hres : ZcRes f s zs code) (hk : zs.length = k) :
    Calls Try.prog 38 #[.agg #[.slice A n c, .slice B m d]] w (fun e w' => ∃ A' c', e = .returned (.tuple #[.agg #[.slice A' k c'], .int .i64 code]) ∧ Below w.heap.size w w' ∧ Obj2 31 2 w.heap.size w'.heap.size w' A' zs) := by
  have HZ := hide hz
  have HN := hide hz.sz.fl
  have HB0 := hide (((Below.refl _ w).alloc (Nat.le_refl _) (Obj.cells #[Value.slice A n c, Value.slice B m d] 41)).alloc (by simp) (Obj.cells #[.slice none 0 0] 27))
  have HK0 := hide ((Blk.new w 41 [.slice A n c, .slice B m d]).alloc (Obj.cells #[.slice none 0 0] 27))
  have HR0 : Hid (Blk ((w.alloc (Obj.cells #[Value.slice A n c, Value.slice B m d] 41)).alloc (Obj.cells #[.slice none 0 0] 27)) (w.heap.size + 1) 27 [.slice none 0 0]) := hide (by have h := Blk.new (w.alloc (Obj.cells #[Value.slice A n c, Value.slice B m d] 41)) 27 [.slice none 0 0]; simpa using h)

  by_cases hs : SolF f s
  · have HS := hide hs
    have HP : Hid (PMap f s) := hide hs.1
    obtain ⟨r1, hr1⟩ : ∃ r : Bool, r = true ↔ NonF f s := bool_of _
    obtain ⟨r2, hr2⟩ : ∃ r : Bool, r = true ↔ InvF f s := bool_of _
    have HR1_ := hide hr1
    have HR2_ := hide hr2
    have HTF : Hid (IsRes f s true) := hide ⟨fun _ => HS.out, fun _ => rfl⟩
    have HRES : Hid (ZcRes f s zs code) := hide hres
    have HKZ := hide hk
    clear hz hres hk hs hr1 hr2
    go_enter Try.func38, Try.ntmps38
    have k0 := HK0.out.cell 0 _ rfl
    have k1 := HK0.out.cell 1 _ rfl
    go_wp2_with fail
    refine (isI_any _ _ _ f _ _ _ s true _ (HZ.out.later HB0.out) HTF.out).mono ?_
    rintro e w1 ⟨rfl, hb1⟩
    have HB1 := hide (HB0.out.trans (hb1.mono HB0.out.size))
    have HK1 := hide (HK0.out.later hb1)
    have HR1 := hide (HR0.out.later hb1)
    clear hb1 k0 k1
    have k0 := HK1.out.cell 0 _ rfl
    have k1 := HK1.out.cell 1 _ rfl
    go_wp2_with fail
    refine (nonI_any _ _ _ f _ _ _ s r1 0 _ (HZ.out.later HB1.out) (.inl ⟨HP.out, HR1_.out, rfl⟩)).mono ?_
    rintro e w2 ⟨rfl, hb2⟩
    have HB2 := hide (HB1.out.trans (hb2.mono HB1.out.size))
    have HK2 := hide (HK1.out.later hb2)
    have HR2 := hide (HR1.out.later hb2)
    clear hb2 k0 k1
    have k0 := HK2.out.cell 0 _ rfl
    have k1 := HK2.out.cell 1 _ rfl
    go_wp2_with fail
    refine (invoI_any _ _ _ f _ _ _ s r2 0 _ (HZ.out.later HB2.out) (.inl ⟨HP.out, HR2_.out, rfl⟩)).mono ?_
    rintro e w3 ⟨rfl, hb3⟩
    have HB3 := hide (HB2.out.trans (hb3.mono HB2.out.size))
    have HK3 := hide (HK2.out.later hb3)
    have HR3 := hide (HR2.out.later hb3)
    clear hb3 k0 k1
    rcases r1 with _ | _
    · skip
      obtain ⟨rfl, rfl⟩ : zs = [] ∧ code = 5 := by
        rcases HRES.out with ⟨_, h, _⟩ | ⟨_, _, h⟩ | ⟨h, _⟩
        · exact absurd (HR1_.out.2 h.1) (by simp)
        · exact h
        · exact absurd HS.out h
      obtain rfl : k = 0 := by rw [← HKZ.out]; rfl
      have k2 := HR3.out.cell 0 _ rfl
      have k3 := HR3.out.frozen 0
      go_wp2_with fail
      refine bp_gen fun wf hwf => ?_
      have HRF : Blk wf (w.heap.size + 1) 27 [.slice none 0 0] := by rw [hwf]; first | exact HR3.out | exact HR3.out.set 0 _
      have hbf : Below w.heap.size w wf := by rw [hwf]; first | exact HB3.out | exact HB3.out.setCell (p := ⟨w.heap.size + 1, 0, none⟩) (by show w.heap.size ≤ w.heap.size + 1; omega) _
      have q0 := HRF.cell 0 _ rfl
      clear hwf k2 k3
      exact bodyPost_ret (v := .tuple #[.agg #[.slice none 0 0], .int .i64 5]) (by simp [results, Try.results38, go_sem, q0]) rfl ⟨_, _, rfl, hbf, .inl ⟨rfl, rfl⟩⟩
    rcases r2 with _ | _
    · skip
      obtain ⟨rfl, rfl⟩ : zs = [] ∧ code = 5 := by
        rcases HRES.out with ⟨_, h, _⟩ | ⟨_, _, h⟩ | ⟨h, _⟩
        · exact absurd (HR2_.out.2 h.2) (by simp)
        · exact h
        · exact absurd HS.out h
      obtain rfl : k = 0 := by rw [← HKZ.out]; rfl
      have k2 := HR3.out.cell 0 _ rfl
      have k3 := HR3.out.frozen 0
      go_wp2_with fail
      refine bp_gen fun wf hwf => ?_
      have HRF : Blk wf (w.heap.size + 1) 27 [.slice none 0 0] := by rw [hwf]; first | exact HR3.out | exact HR3.out.set 0 _
      have hbf : Below w.heap.size w wf := by rw [hwf]; first | exact HB3.out | exact HB3.out.setCell (p := ⟨w.heap.size + 1, 0, none⟩) (by show w.heap.size ≤ w.heap.size + 1; omega) _
      have q0 := HRF.cell 0 _ rfl
      clear hwf k2 k3
      exact bodyPost_ret (v := .tuple #[.agg #[.slice none 0 0], .int .i64 5]) (by simp [results, Try.results38, go_sem, q0]) rfl ⟨_, _, rfl, hbf, .inl ⟨rfl, rfl⟩⟩
    obtain ⟨rfl, rfl⟩ : zs = dualL f ∧ code = 0 := by
      rcases HRES.out with ⟨_, _, h⟩ | ⟨_, h, _⟩ | ⟨h, _⟩
      · exact h
      · exact absurd ⟨HR1_.out.1 (by simp), HR2_.out.1 (by simp)⟩ h
      · exact absurd HS.out h
    obtain rfl : k = n := by rw [← HKZ.out, dualL, rowsL_length]; exact HN.out
    have k0 := HK3.out.cell 0 _ rfl
    have k1 := HK3.out.cell 1 _ rfl
    go_wp2_with fail
    refine (zcycle_any _ _ _ _ _ _ f _ HN.out HP.out.1 (HR1_.out.1 (by simp)).1 (HZ.out.later HB3.out).fst).mono ?_
    rintro e w4 ⟨A4, c4, rfl, hb4, ho4⟩
    have HB4 := hide (HB3.out.trans (hb4.mono HB3.out.size))
    have HK4 := hide (HK3.out.later hb4)
    have HR4 := hide (HR3.out.later hb4)
    have HO4 := hide ho4
    have HLO := hide HB3.out.size
    have HLT := hide HR3.out.lt
    clear ho4
    clear hb4 k0 k1
    have k2 := HR4.out.cell 0 _ rfl
    have k3 := HR4.out.frozen 0
    go_wp2_with fail
    refine bp_gen fun wf hwf => ?_
    obtain ⟨q0, hbf, hof⟩ := kend hwf HR4.out (by omega) HB4.out HO4.out HLO.out HLT.out (Nat.le_refl _)
    clear hwf k2 k3
    exact bodyPost_ret (v := .tuple #[.agg #[.slice A4 k c4], .int .i64 0]) (by simp [results, Try.results38, go_sem, q0]) rfl ⟨_, _, rfl, hbf, hof⟩
  · obtain ⟨rfl, rfl⟩ : zs = [] ∧ code = 1 := by
      rcases hres with ⟨h, _⟩ | ⟨h, _⟩ | ⟨_, h⟩
      · exact absurd h hs
      · exact absurd h hs
      · exact h
    obtain rfl : k = 0 := by rw [← hk]; rfl
    have HTF : Hid (IsRes f s false) := hide ⟨fun h => (by cases h), fun h => absurd h hs⟩
    clear hz hres hk hs
    go_enter Try.func38, Try.ntmps38
    have k0 := HK0.out.cell 0 _ rfl
    have k1 := HK0.out.cell 1 _ rfl
    go_wp2_with fail
    refine (isI_any _ _ _ f _ _ _ s false _ (HZ.out.later HB0.out) HTF.out).mono ?_
    rintro e w1 ⟨rfl, hb1⟩
    have HB1 := hide (HB0.out.trans (hb1.mono HB0.out.size))
    have HK1 := hide (HK0.out.later hb1)
    have HR1 := hide (HR0.out.later hb1)
    clear hb1 k0 k1
    have k2 := HR1.out.cell 0 _ rfl
    have k3 := HR1.out.frozen 0
    go_wp2_with fail
    refine bp_gen fun wf hwf => ?_
    have HRF : Blk wf (w.heap.size + 1) 27 [.slice none 0 0] := by rw [hwf]; first | exact HR1.out | exact HR1.out.set 0 _
    have hbf : Below w.heap.size w wf := by rw [hwf]; first | exact HB1.out | exact HB1.out.setCell (p := ⟨w.heap.size + 1, 0, none⟩) (by show w.heap.size ≤ w.heap.size + 1; omega) _
    have q0 := HRF.cell 0 _ rfl
    clear hwf k2 k3
    exact bodyPost_ret (v := .tuple #[.agg #[.slice none 0 0], .int .i64 1]) (by simp [results, Try.results38, go_sem, q0]) rfl ⟨_, _, rfl, hbf, .inl ⟨rfl, rfl⟩⟩

set_option maxRecDepth 100000 in
theorem zcS_any (A : Option Addr) (n c : Nat) (f : List (List Int)) (B : Option Addr) (m d : Nat) (s : List (List Int))  (zs : List (List Int)) (code : Int) (k : Nat) (w : World) (hz : ZArg 1048576 w A n f B m s)  (hres : ZcRes f s zs code) (hk : zs.length = k) :
    Calls Try.prog 36 #[.agg #[.slice A n c, .slice B m d]] w (fun e w' => ∃ A' c', e = .returned (.tuple #[.agg #[.slice A' k c'], .int .i64 code]) ∧ Below w.heap.size w w' ∧ Obj2 31 2 w.heap.size w'.heap.size w' A' zs) := by
  have HZ := hide hz
  have HN := hide hz.sz.fl
  have HB0 := hide (((Below.refl _ w).alloc (Nat.le_refl _) (Obj.cells #[Value.slice A n c, Value.slice B m d] 41)).alloc (by simp) (Obj.cells #[.slice none 0 0] 27))
  have HK0 := hide ((Blk.new w 41 [.slice A n c, .slice B m d]).alloc (Obj.cells #[.slice none 0 0] 27))
  have HR0 : Hid (Blk ((w.alloc (Obj.cells #[Value.slice A n c, Value.slice B m d] 41)).alloc (Obj.cells #[.slice none 0 0] 27)) (w.heap.size + 1) 27 [.slice none 0 0]) := hide (by have h := Blk.new (w.alloc (Obj.cells #[Value.slice A n c, Value.slice B m d] 41)) 27 [.slice none 0 0]; simpa using h)

  by_cases hs : SolF f s
  · have HS := hide hs
    have HP : Hid (PMap f s) := hide hs.1
    obtain ⟨r1, hr1⟩ : ∃ r : Bool, r = true ↔ NonF f s := bool_of _
    obtain ⟨r2, hr2⟩ : ∃ r : Bool, r = true ↔ InvF f s := bool_of _
    have HR1_ := hide hr1
    have HR2_ := hide hr2
    have HTF : Hid (IsRes f s true) := hide ⟨fun _ => HS.out, fun _ => rfl⟩
    have HRES : Hid (ZcRes f s zs code) := hide hres
    have HKZ := hide hk
    clear hz hres hk hs hr1 hr2
    go_enter Try.func36, Try.ntmps36
    have k0 := HK0.out.cell 0 _ rfl
    have k1 := HK0.out.cell 1 _ rfl
    go_wp2_with fail
    refine (isS_any _ _ _ f _ _ _ s true _ (HZ.out.later HB0.out) HTF.out).mono ?_
    rintro e w1 ⟨rfl, hb1⟩
    have HB1 := hide (HB0.out.trans (hb1.mono HB0.out.size))
    have HK1 := hide (HK0.out.later hb1)
    have HR1 := hide (HR0.out.later hb1)
    clear hb1 k0 k1
    have k0 := HK1.out.cell 0 _ rfl
    have k1 := HK1.out.cell 1 _ rfl
    go_wp2_with fail
    refine (goodS_any _ _ _ f _ _ _ s r1 _ (HZ.out.later HB1.out) HP.out HR1_.out).mono ?_
    rintro e w2 ⟨rfl, hb2⟩
    have HB2 := hide (HB1.out.trans (hb2.mono HB1.out.size))
    have HK2 := hide (HK1.out.later hb2)
    have HR2 := hide (HR1.out.later hb2)
    clear hb2 k0 k1
    rcases r1 with _ | _
    · skip
      obtain ⟨rfl, rfl⟩ : zs = [] ∧ code = 5 := by
        rcases HRES.out with ⟨_, h, _⟩ | ⟨_, _, h⟩ | ⟨h, _⟩
        · exact absurd (HR1_.out.2 h.1) (by simp)
        · exact h
        · exact absurd HS.out h
      obtain rfl : k = 0 := by rw [← HKZ.out]; rfl
      have k2 := HR2.out.cell 0 _ rfl
      have k3 := HR2.out.frozen 0
      go_wp2_with fail
      refine bp_gen fun wf hwf => ?_
      have HRF : Blk wf (w.heap.size + 1) 27 [.slice none 0 0] := by rw [hwf]; first | exact HR2.out | exact HR2.out.set 0 _
      have hbf : Below w.heap.size w wf := by rw [hwf]; first | exact HB2.out | exact HB2.out.setCell (p := ⟨w.heap.size + 1, 0, none⟩) (by show w.heap.size ≤ w.heap.size + 1; omega) _
      have q0 := HRF.cell 0 _ rfl
      clear hwf k2 k3
      exact bodyPost_ret (v := .tuple #[.agg #[.slice none 0 0], .int .i64 5]) (by simp [results, Try.results36, go_sem, q0]) rfl ⟨_, _, rfl, hbf, .inl ⟨rfl, rfl⟩⟩
    have k0 := HK2.out.cell 0 _ rfl
    have k1 := HK2.out.cell 1 _ rfl
    go_wp2_with fail
    refine (twiceS_any _ _ _ f _ _ _ s r2 _ (HZ.out.later HB2.out) HP.out HR2_.out).mono ?_
    rintro e w3 ⟨rfl, hb3⟩
    have HB3 := hide (HB2.out.trans (hb3.mono HB2.out.size))
    have HK3 := hide (HK2.out.later hb3)
    have HR3 := hide (HR2.out.later hb3)
    clear hb3 k0 k1
    rcases r2 with _ | _
    · skip
      obtain ⟨rfl, rfl⟩ : zs = [] ∧ code = 5 := by
        rcases HRES.out with ⟨_, h, _⟩ | ⟨_, _, h⟩ | ⟨h, _⟩
        · exact absurd (HR2_.out.2 h.2) (by simp)
        · exact h
        · exact absurd HS.out h
      obtain rfl : k = 0 := by rw [← HKZ.out]; rfl
      have k2 := HR3.out.cell 0 _ rfl
      have k3 := HR3.out.frozen 0
      go_wp2_with fail
      refine bp_gen fun wf hwf => ?_
      have HRF : Blk wf (w.heap.size + 1) 27 [.slice none 0 0] := by rw [hwf]; first | exact HR3.out | exact HR3.out.set 0 _
      have hbf : Below w.heap.size w wf := by rw [hwf]; first | exact HB3.out | exact HB3.out.setCell (p := ⟨w.heap.size + 1, 0, none⟩) (by show w.heap.size ≤ w.heap.size + 1; omega) _
      have q0 := HRF.cell 0 _ rfl
      clear hwf k2 k3
      exact bodyPost_ret (v := .tuple #[.agg #[.slice none 0 0], .int .i64 5]) (by simp [results, Try.results36, go_sem, q0]) rfl ⟨_, _, rfl, hbf, .inl ⟨rfl, rfl⟩⟩
    obtain ⟨rfl, rfl⟩ : zs = dualL f ∧ code = 0 := by
      rcases HRES.out with ⟨_, _, h⟩ | ⟨_, h, _⟩ | ⟨h, _⟩
      · exact h
      · exact absurd ⟨HR1_.out.1 (by simp), HR2_.out.1 (by simp)⟩ h
      · exact absurd HS.out h
    obtain rfl : k = n := by rw [← HKZ.out, dualL, rowsL_length]; exact HN.out
    have k0 := HK3.out.cell 0 _ rfl
    have k1 := HK3.out.cell 1 _ rfl
    go_wp2_with fail
    refine (cycleS_any _ _ _ _ _ _ f _ HN.out HP.out.1 (HR1_.out.1 (by simp)).1 (HZ.out.later HB3.out).fst).mono ?_
    rintro e w4 ⟨A4, c4, rfl, hb4, ho4⟩
    have HB4 := hide (HB3.out.trans (hb4.mono HB3.out.size))
    have HK4 := hide (HK3.out.later hb4)
    have HR4 := hide (HR3.out.later hb4)
    have HO4 := hide ho4
    have HLO := hide HB3.out.size
    have HLT := hide HR3.out.lt
    clear ho4
    clear hb4 k0 k1
    have k2 := HR4.out.cell 0 _ rfl
    have k3 := HR4.out.frozen 0
    go_wp2_with fail
    refine bp_gen fun wf hwf => ?_
    obtain ⟨q0, hbf, hof⟩ := kend hwf HR4.out (by omega) HB4.out HO4.out HLO.out HLT.out (Nat.le_refl _)
    clear hwf k2 k3
    exact bodyPost_ret (v := .tuple #[.agg #[.slice A4 k c4], .int .i64 0]) (by simp [results, Try.results36, go_sem, q0]) rfl ⟨_, _, rfl, hbf, hof⟩
  · obtain ⟨rfl, rfl⟩ : zs = [] ∧ code = 1 := by
      rcases hres with ⟨h, _⟩ | ⟨h, _⟩ | ⟨_, h⟩
      · exact absurd h hs
      · exact absurd h hs
      · exact h
    obtain rfl : k = 0 := by rw [← hk]; rfl
    have HTF : Hid (IsRes f s false) := hide ⟨fun h => (by cases h), fun h => absurd h hs⟩
    clear hz hres hk hs
    go_enter Try.func36, Try.ntmps36
    have k0 := HK0.out.cell 0 _ rfl
    have k1 := HK0.out.cell 1 _ rfl
    go_wp2_with fail
    refine (isS_any _ _ _ f _ _ _ s false _ (HZ.out.later HB0.out) HTF.out).mono ?_
    rintro e w1 ⟨rfl, hb1⟩
    have HB1 := hide (HB0.out.trans (hb1.mono HB0.out.size))
    have HK1 := hide (HK0.out.later hb1)
    have HR1 := hide (HR0.out.later hb1)
    clear hb1 k0 k1
    have k2 := HR1.out.cell 0 _ rfl
    have k3 := HR1.out.frozen 0
    go_wp2_with fail
    refine bp_gen fun wf hwf => ?_
    have HRF : Blk wf (w.heap.size + 1) 27 [.slice none 0 0] := by rw [hwf]; first | exact HR1.out | exact HR1.out.set 0 _
    have hbf : Below w.heap.size w wf := by rw [hwf]; first | exact HB1.out | exact HB1.out.setCell (p := ⟨w.heap.size + 1, 0, none⟩) (by show w.heap.size ≤ w.heap.size + 1; omega) _
    have q0 := HRF.cell 0 _ rfl
    clear hwf k2 k3
    exact bodyPost_ret (v := .tuple #[.agg #[.slice none 0 0], .int .i64 1]) (by simp [results, Try.results36, go_sem, q0]) rfl ⟨_, _, rfl, hbf, .inl ⟨rfl, rfl⟩⟩

end Go.Proofs.Ytgahmfkmhaeniaa
