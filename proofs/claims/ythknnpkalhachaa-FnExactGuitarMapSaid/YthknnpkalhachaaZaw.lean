import Derived.Test.YthknnpkalhachaaZau
import Derived.Test.YthknnpkalhachaaZam
namespace Go.Proofs.Ythknnpkalhachaa
open Go Go.RowKit
/-! Words of a solution. -/
/-- A word of elements of a set of n. -/
def Wrd (n : Nat) (xs : List Int) : Prop := xs.length ≤ 8 ∧ ∀ j, j < xs.length → 0 ≤ xs.getD j 0 ∧ xs.getD j 0 < (n : Int)
theorem Wrd.tup {n : Nat} {xs : List Int} (h : Wrd n xs) : Tup n xs := ⟨by have := h.1; omega, h.2⟩
theorem Wrd.nil (n : Nat) : Wrd n [] := ⟨by simp, fun j hj => by simp at hj⟩
/-- All of some lists are words. -/
def Wrds (n : Nat) (rows : List (List Int)) : Prop := ∀ i, i < rows.length → Wrd n (rows.getD i [])
/-- What forbids something with words. -/
def WdC (f s : List (List Int)) (rows : List (List Int)) (code : Int) : Prop :=
  (SolF f s ∧ Wrds f.length rows ∧ code = 0) ∨ (SolF f s ∧ ¬ Wrds f.length rows ∧ code = 2) ∨ (¬ SolF f s ∧ code = 1)
theorem WdC.ex (f s : List (List Int)) (rows : List (List Int)) : ∃ code, WdC f s rows code := by
  by_cases h : SolF f s
  · by_cases h2 : Wrds f.length rows
    · exact ⟨_, .inl ⟨h, h2, rfl⟩⟩
    · exact ⟨_, .inr (.inl ⟨h, h2, rfl⟩)⟩
  · exact ⟨_, .inr (.inr ⟨h, rfl⟩)⟩
theorem WdC.zero {f s : List (List Int)} {rows : List (List Int)} {code : Int} (h : WdC f s rows code) (h0 : code = 0) : SolF f s ∧ Wrds f.length rows := by
  rcases h with ⟨a, b, _⟩ | ⟨_, _, c⟩ | ⟨_, c⟩
  · exact ⟨a, b⟩
  · omega
  · omega
theorem WdC.uniq {f s : List (List Int)} {rows : List (List Int)} {c c' : Int} (h : WdC f s rows c) (h' : WdC f s rows c') : c = c' := by
  rcases h with ⟨a, b, rfl⟩ | ⟨a, b, rfl⟩ | ⟨a, rfl⟩ <;> rcases h' with ⟨a', b', rfl⟩ | ⟨a', b', rfl⟩ | ⟨a', rfl⟩ <;> first | rfl | contradiction
theorem WdC.congr {f s : List (List Int)} {rows rows' : List (List Int)} {c : Int} (h : WdC f s rows c) (e : Wrds f.length rows ↔ Wrds f.length rows') : WdC f s rows' c := by
  rcases h with ⟨a, b, r⟩ | ⟨a, b, r⟩ | ⟨a, r⟩
  · exact .inl ⟨a, e.1 b, r⟩
  · exact .inr (.inl ⟨a, fun h => b (e.2 h), r⟩)
  · exact .inr (.inr ⟨a, r⟩)
theorem wrds1 {n : Nat} {xs : List Int} : Wrds n [xs] ↔ Wrd n xs := by
  constructor
  · intro h; exact h 0 (by simp)
  · intro h i hi
    have : i = 0 := by simpa using hi
    subst this; exact h
theorem wrds2 {n : Nat} {xs ys : List Int} : Wrds n [xs, ys] ↔ Wrd n xs ∧ Wrd n ys := by
  constructor
  · intro h; exact ⟨h 0 (by simp), h 1 (by simp)⟩
  · rintro ⟨h1, h2⟩ i hi
    rcases i with _ | _ | i
    · exact h1
    · exact h2
    · simp at hi; omega
/-- The tuples that are reached, in order, if there are at most M. -/
def OrbR (f s : List (List Int)) (xs : List Int) (M : Nat) (zs : List (List Int)) (code : Int) : Prop :=
  (Cls (leH f) (leH s) xs zs ∧ Asc zs ∧ zs.length ≤ M ∧ code = 0) ∨ (¬ FewT (leH f) (leH s) xs M ∧ zs = [] ∧ code = 3)
theorem Cls.sorted {h1 h2 : Nat → Nat → Int} {x : List Int} {L L' : List (List Int)} (h : Cls h1 h2 x L) (ha : Asc L') (hm : ∀ y, y ∈ L' ↔ y ∈ L) : Cls h1 h2 x L' := ⟨ha.nodup, fun y => (hm y).trans (h.2 y)⟩
theorem Cls.ascEq {h1 h2 : Nat → Nat → Int} {x : List Int} {L L' : List (List Int)} (h : Cls h1 h2 x L) (h' : Cls h1 h2 x L') (ha : Asc L) (ha' : Asc L') : L = L' := Asc.eq ha ha' (fun y => (h.2 y).trans (h'.2 y).symm)
theorem Cls.pos {h1 h2 : Nat → Nat → Int} {x : List Int} {L : List (List Int)} (h : Cls h1 h2 x L) : 0 < L.length := by
  have hm := (h.2 x).2 .refl
  cases L with
  | nil => simp at hm
  | cons a t => simp
theorem Cls.row {h1 h2 : Nat → Nat → Int} {x : List Int} {L : List (List Int)} (h : Cls h1 h2 x L) {i : Nat} (hi : i < L.length) : (L.getD i []).length = x.length := ((h.2 _).1 (tgetD_mem _ _ _ hi)).len
theorem OrbR.ex (f s : List (List Int)) (xs : List Int) (M : Nat) : ∃ zs code, OrbR f s xs M zs code := by
  by_cases h : FewT (leH f) (leH s) xs M
  · obtain ⟨L, hE, hl⟩ := h
    obtain ⟨L', ha, hl', hm⟩ := asc_ex L hE.1
    exact ⟨L', 0, .inl ⟨hE.sorted ha hm, ha, by omega, rfl⟩⟩
  · exact ⟨[], 3, .inr ⟨h, rfl, rfl⟩⟩
theorem OrbR.size {f s : List (List Int)} {xs : List Int} {M : Nat} {zs : List (List Int)} {code : Int} (hx : xs.length ≤ 12) (hM : M ≤ 5000) (h : OrbR f s xs M zs code) : zs.length ≤ 1048576 ∧ ∀ i, i < zs.length → (zs.getD i []).length ≤ 1048576 := by
  rcases h with ⟨hE, _, hl, _⟩ | ⟨_, rfl, _⟩
  · exact ⟨by omega, fun i hi => by rw [hE.row hi]; omega⟩
  · exact ⟨by simp, by simp⟩
/-- What the class of a word is told. -/
def CowR (f s : List (List Int)) (xs : List Int) (zs : List (List Int)) (code : Int) : Prop := (WdC f s [xs] 0 ∧ OrbR f s xs 1000 zs code) ∨ (WdC f s [xs] code ∧ code ≠ 0 ∧ zs = [])
theorem CowR.ex (f s : List (List Int)) (xs : List Int) : ∃ zs code, CowR f s xs zs code ∧ zs.length ≤ 1048576 ∧ ∀ i, i < zs.length → (zs.getD i []).length ≤ 1048576 := by
  obtain ⟨c, hc⟩ := WdC.ex f s [xs]
  by_cases h0 : c = 0
  · subst h0
    obtain ⟨zs, code, h⟩ := OrbR.ex f s xs 1000
    have hw := (wrds1.1 (hc.zero rfl).2).1
    exact ⟨zs, code, .inl ⟨hc, h⟩, OrbR.size (by omega) (by omega) h⟩
  · exact ⟨[], c, .inr ⟨hc, h0, rfl⟩, by simp, by simp⟩
/-- What the orbit of a tuple is told. -/
def TorR (f s : List (List Int)) (xs : List Int) (zs : List (List Int)) (code : Int) : Prop := (SolF f s ∧ Tup f.length xs ∧ OrbR f s xs 5000 zs code) ∨ (SolF f s ∧ ¬ Tup f.length xs ∧ zs = [] ∧ code = 2) ∨ (¬ SolF f s ∧ zs = [] ∧ code = 1)
theorem TorR.ex (f s : List (List Int)) (xs : List Int) : ∃ zs code, TorR f s xs zs code ∧ zs.length ≤ 1048576 ∧ ∀ i, i < zs.length → (zs.getD i []).length ≤ 1048576 := by
  by_cases h : SolF f s
  · by_cases h2 : Tup f.length xs
    · obtain ⟨zs, code, h3⟩ := OrbR.ex f s xs 5000
      exact ⟨zs, code, .inl ⟨h, h2, h3⟩, OrbR.size h2.1 (by omega) h3⟩
    · exact ⟨_, _, .inr (.inl ⟨h, h2, rfl, rfl⟩), by simp, by simp⟩
  · exact ⟨_, _, .inr (.inr ⟨h, rfl, rfl⟩), by simp, by simp⟩
end Go.Proofs.Ythknnpkalhachaa
