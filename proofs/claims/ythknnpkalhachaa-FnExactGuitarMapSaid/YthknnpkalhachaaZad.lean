import Derived.Test.YthknnpkalhachaaZg
import Derived.Test.YthknnpkalhachaaZj
import Derived.Test.YthknnpkalhachaaZc
import Derived.Test.YthknnpkalhachaaZy
namespace Go.Proofs.Ythknnpkalhachaa
open Go Go.RowKit
/-! The group of some permutations of n elements, found from the identity on. -/
theorem unit_prm {n : Nat} (h1 : 1 ≤ n) (h12 : n ≤ 12) : Prm (unitN n) := by
  refine (prm_iff _).2 ⟨by rw [unitN_length]; exact h1, by rw [unitN_length]; exact h12, fun x h0 hx => ?_⟩
  rw [unitN_length] at hx
  obtain ⟨m, rfl⟩ : ∃ m : Nat, x = (m : Int) := ⟨x.toNat, by omega⟩
  exact List.mem_map.2 ⟨m, List.mem_range.2 (by omega), rfl⟩
theorem then_prm {n : Nat} {p q : List Int} (hl : p.length = n) (hp : Prm p) (hm : q.length = n) (hq : Prm q) : Prm (thenL p q) := by
  have hp1 := (prm_iff _).1 hp
  have hq1 := (prm_iff _).1 hq
  refine (prm_iff _).2 ⟨by rw [thenL_length]; exact hp1.1, by rw [thenL_length]; exact hp1.2.1, fun x h0 hx => ?_⟩
  rw [thenL_length, hl] at hx
  obtain ⟨j, hj, e⟩ := List.getElem_of_mem (hq1.2.2 x h0 (by omega))
  have hjp := hp1.2.2 (j : Int) (by omega) (by omega)
  refine List.mem_map.2 ⟨(j : Int), hjp, ?_⟩
  simp [hj, e]
/-- What the generators make, from the identity on. -/
inductive Gen (n : Nat) (gs : List (List Int)) : List Int → Prop
  | unit : Gen n gs (unitN n)
  | step {p q : List Int} : Gen n gs p → q ∈ gs → Gen n gs (thenL p q)
/-- A list of all of them, each once. -/
def Enu (n : Nat) (gs L : List (List Int)) : Prop := L.Nodup ∧ ∀ x, x ∈ L ↔ Gen n gs x
theorem nodup_sub {α : Type} [DecidableEq α] {l m : List α} (h : l.Nodup) (hs : ∀ a ∈ l, a ∈ m) : l.length ≤ m.length := by
  obtain ⟨k, hk⟩ := subset_perm l m h hs
  have := hk.length_eq
  simp at this
  omega
theorem Enu.len {n : Nat} {gs L L' : List (List Int)} (h : Enu n gs L) (h' : Enu n gs L') : L.length = L'.length :=
  Nat.le_antisymm (nodup_sub h.1 fun a ha => (h'.2 a).2 ((h.2 a).1 ha)) (nodup_sub h'.1 fun a ha => (h.2 a).2 ((h'.2 a).1 ha))
/-- There are at most M. -/
def AtMost (n : Nat) (gs : List (List Int)) (M : Nat) : Prop := ∃ L, Enu n gs L ∧ L.length ≤ M
theorem not_atMost {n : Nat} {gs found : List (List Int)} {x : List Int} {M : Nat} (hd : found.Nodup) (hg : ∀ y, y ∈ found → Gen n gs y) (hx : Gen n gs x) (hn : x ∉ found) (hM : M ≤ found.length) : ¬ AtMost n gs M := by
  rintro ⟨L, hL, hl⟩
  have := nodup_sub (l := x :: found) (m := L) (List.nodup_cons.2 ⟨hn, hd⟩) (fun a ha => by
    rcases List.mem_cons.1 ha with rfl | ha
    · exact (hL.2 _).2 hx
    · exact (hL.2 _).2 (hg _ ha))
  simp at this
  omega
/-- How the search stands: the first i that were found are done, and of the next one the first k generators. -/
structure Srch (n : Nat) (gs found : List (List Int)) (i k : Nat) : Prop where
  nd : found.Nodup
  gen : ∀ y, y ∈ found → Gen n gs y
  unit : unitN n ∈ found
  done : ∀ a, a < i → ∀ g, g ∈ gs → thenL (found.getD a []) g ∈ found
  part : ∀ b, b < k → thenL (found.getD i []) (gs.getD b []) ∈ found
theorem Srch.start (n : Nat) (gs : List (List Int)) : Srch n gs [unitN n] 0 0 where
  nd := by simp
  gen := fun y hy => by simp at hy; subst hy; exact .unit
  unit := by simp
  done := fun a ha => by omega
  part := fun b hb => by omega
theorem getD_mem {α : Type} (l : List α) (i : Nat) (d : α) (h : i < l.length) : l.getD i d ∈ l := by simp [h]
theorem getD_app {α : Type} (l : List α) (v : α) (i : Nat) (d : α) (h : i < l.length) : (l ++ [v]).getD i d = l.getD i d := by
  simp only [List.getD_eq_getElem?_getD]
  rw [List.getElem?_append_left h]
theorem Srch.keep {n : Nat} {gs found : List (List Int)} {i k : Nat} (h : Srch n gs found i k) (hm : thenL (found.getD i []) (gs.getD k []) ∈ found) : Srch n gs found i (k + 1) :=
  ⟨h.nd, h.gen, h.unit, h.done, fun b hb => by
    by_cases e : b = k
    · rw [e]; exact hm
    · exact h.part b (by omega)⟩
theorem Srch.made {n : Nat} {gs found : List (List Int)} {i k : Nat} (h : Srch n gs found i k) (hi : i < found.length) (hk : k < gs.length) : Gen n gs (thenL (found.getD i []) (gs.getD k [])) :=
  .step (h.gen _ (getD_mem _ _ _ hi)) (getD_mem _ _ _ hk)
theorem Srch.push {n : Nat} {gs found : List (List Int)} {i k : Nat} (h : Srch n gs found i k) (hi : i < found.length) (hk : k < gs.length) (hn : thenL (found.getD i []) (gs.getD k []) ∉ found) : Srch n gs (found ++ [thenL (found.getD i []) (gs.getD k [])]) i (k + 1) where
  nd := List.nodup_append.2 ⟨h.nd, by simp, fun a ha b hb e => by simp at hb; subst hb; subst e; exact hn ha⟩
  gen := fun y hy => by
    rcases List.mem_append.1 hy with hy | hy
    · exact h.gen y hy
    · simp at hy; subst hy; exact h.made hi hk
  unit := List.mem_append.2 (.inl h.unit)
  done := fun a ha g hg => by rw [getD_app _ _ _ _ (by omega)]; exact List.mem_append.2 (.inl (h.done a ha g hg))
  part := fun b hb => by
    rw [getD_app _ _ _ _ hi]
    by_cases e : b = k
    · rw [e]; exact List.mem_append.2 (.inr (by simp))
    · exact List.mem_append.2 (.inl (h.part b (by omega)))
theorem Srch.next {n : Nat} {gs found : List (List Int)} {i : Nat} (h : Srch n gs found i gs.length) : Srch n gs found (i + 1) 0 :=
  ⟨h.nd, h.gen, h.unit, fun a ha g hg => by
    by_cases e : a = i
    · obtain ⟨b, hb, e2⟩ := List.getElem_of_mem hg
      have h2 := h.part b hb
      rw [show gs.getD b [] = g by rw [← e2]; simp [hb]] at h2
      rw [e]; exact h2
    · exact h.done a (by omega) g hg, fun b hb => by omega⟩
theorem Srch.fin {n : Nat} {gs found : List (List Int)} (h : Srch n gs found found.length 0) : Enu n gs found :=
  ⟨h.nd, fun x => ⟨h.gen x, fun hx => by
    induction hx with
    | unit => exact h.unit
    | @step p q _ hq ih =>
      obtain ⟨a, ha, e⟩ := List.getElem_of_mem ih
      have h2 := h.done a ha _ hq
      have h3 : found.getD a [] = p := by rw [← e]; simp [ha]
      rw [h3] at h2
      exact h2⟩⟩
/-- All of them are permutations of n elements. -/
theorem gen_prm {n : Nat} {gs : List (List Int)} (h1 : 1 ≤ n) (h12 : n ≤ 12) (hg : Gens gs n) {x : List Int} (hx : Gen n gs x) : x.length = n ∧ Prm x := by
  induction hx with
  | unit => exact ⟨unitN_length n, unit_prm h1 h12⟩
  | @step p q _ hq ih =>
    obtain ⟨b, hb, e⟩ := List.getElem_of_mem hq
    have h2 := hg b hb
    have h3 : gs.getD b [] = q := by rw [← e]; simp [hb]
    rw [h3] at h2
    exact ⟨by unfold thenL; simpa using ih.1, then_prm ih.1 ih.2 h2.1 h2.2⟩
/-- What the order of a group is answered. -/
def OrdR (n : Nat) (gs : List (List Int)) (M : Nat) (err v code : Int) : Prop := (∃ L, Enu n gs L ∧ L.length ≤ M ∧ v = (L.length : Int) ∧ code = 0) ∨ (¬ AtMost n gs M ∧ v = 0 ∧ code = err)
theorem OrdR.ex (n : Nat) (gs : List (List Int)) (M : Nat) (err : Int) : ∃ v code, OrdR n gs M err v code := by
  by_cases h : AtMost n gs M
  · obtain ⟨L, h1, h2⟩ := h
    exact ⟨_, _, .inl ⟨L, h1, h2, rfl, rfl⟩⟩
  · exact ⟨_, _, .inr ⟨h, rfl, rfl⟩⟩
end Go.Proofs.Ythknnpkalhachaa
