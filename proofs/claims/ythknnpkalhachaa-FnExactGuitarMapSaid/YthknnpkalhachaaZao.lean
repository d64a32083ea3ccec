import Derived.Test.YthknnpkalhachaaZam
namespace Go.Proofs.Ythknnpkalhachaa
open Go Go.RowKit
/-- All are elements. -/
def Els (n : Nat) (xs : List Int) : Prop := ∀ i, i < xs.length → 0 ≤ xs.getD i 0 ∧ xs.getD i 0 < (n : Int)
/-- An element of a list, as a natural number. -/
def el (xs : List Int) (i : Nat) : Nat := (xs.getD i 0).toNat
theorem Els.val {n : Nat} {xs : List Int} (h : Els n xs) {i : Nat} (hi : i < xs.length) : xs.getD i 0 = (el xs i : Int) ∧ el xs i < n := by
  have h1 := h i hi
  unfold el
  omega
/-- The set of the first k elements of a list. -/
def sN (xs : List Int) : Nat → Nat
  | 0 => 0
  | k + 1 => sN xs k ||| 2 ^ el xs k
theorem sN_in (xs : List Int) (k x : Nat) : inb (sN xs k) x ↔ ∃ i, i < k ∧ el xs i = x := by
  induction k with
  | zero => exact ⟨fun h => absurd h (inb_zero x), fun ⟨i, hi, _⟩ => by omega⟩
  | succ k ih =>
    show inb (sN xs k ||| 2 ^ el xs k) x ↔ _
    rw [inb_or, ih]
    constructor
    · rintro (⟨i, hi, e⟩ | rfl)
      · exact ⟨i, by omega, e⟩
      · exact ⟨k, by omega, rfl⟩
    · rintro ⟨i, hi, e⟩
      by_cases h : i = k
      · subst h; exact .inr e.symm
      · exact .inl ⟨i, by omega, e⟩
theorem sN_lt {n : Nat} {xs : List Int} (h : Els n xs) {k : Nat} (hk : k ≤ xs.length) : sN xs k < 2 ^ n :=
  set_lt (fun x hx => by
    obtain ⟨i, hi, rfl⟩ := (sN_in xs k x).1 hx
    exact (h.val (by omega)).2)
theorem sN_ne {xs : List Int} {k : Nat} (h : 0 < k) : sN xs k ≠ 0 := by
  intro e
  have h2 : inb (sN xs k) (el xs 0) := (sN_in xs k _).2 ⟨0, h, rfl⟩
  rw [e] at h2
  exact inb_zero _ h2

/-- A set of what holds, below n. -/
theorem set_of (P : Nat → Prop) (n : Nat) : ∃ V, V < 2 ^ n ∧ ∀ x, x < n → (inb V x ↔ P x) := by
  induction n with
  | zero => exact ⟨0, by simp, fun x hx => absurd hx (Nat.not_lt_zero _)⟩
  | succ n ih =>
    obtain ⟨V, hV, h⟩ := ih
    have hn : ¬ inb V n := fun h2 => by have := inb_lt hV h2; omega
    by_cases hp : P n
    · refine ⟨V ||| 2 ^ n, or_lt (Nat.lt_of_lt_of_le hV (Nat.pow_le_pow_right (by decide) (by omega))) (by omega), fun x hx => ?_⟩
      rw [inb_or]
      by_cases e : x = n
      · subst e; simp [hp]
      · rw [← h x (by omega)]; simp [e]
    · refine ⟨V, Nat.lt_of_lt_of_le hV (Nat.pow_le_pow_right (by decide) (by omega)), fun x hx => ?_⟩
      by_cases e : x = n
      · subst e; simp [hp, hn]
      · exact h x (by omega)
/-- V is in each set with S that is closed. -/
def Under (f : List (List Int)) (S V : Nat) : Prop := ∀ T, ClosedF f T → (∀ x, inb S x → inb T x) → ∀ x, inb V x → inb T x
/-- The least closed set with S. -/
structure LeastS (f : List (List Int)) (n S V : Nat) : Prop where
  lt : V < 2 ^ n
  closed : ClosedF f V
  up : ∀ x, inb S x → inb V x
  low : Under f S V
theorem LeastS.uniq {f : List (List Int)} {n S V V' : Nat} (h : LeastS f n S V) (h' : LeastS f n S V') : V = V' :=
  inb_eq (fun x => ⟨h.low V' h'.closed h'.up x, h'.low V h.closed h.up x⟩)
theorem LeastS.ex (f : List (List Int)) (n S : Nat) (hf : ∀ x y, x < n → y < n → ap f x y < n) (hS : S < 2 ^ n) : ∃ V, LeastS f n S V := by
  obtain ⟨V, hV, h⟩ := set_of (fun x => ∀ T, ClosedF f T → (∀ x, inb S x → inb T x) → inb T x) n
  refine ⟨V, hV, ?_, ?_, ?_⟩
  · intro x y hx hy
    have lx := inb_lt hV hx
    have ly := inb_lt hV hy
    refine (h _ (hf x y lx ly)).2 fun T hT hs => hT x y ((h x lx).1 hx T hT hs) ((h y ly).1 hy T hT hs)
  · intro x hx
    exact (h x (inb_lt hS hx)).2 fun T _ hs => hs x hx
  · intro T hT hs x hx
    exact (h x (inb_lt hV hx)).1 hx T hT hs
theorem Under.grow {f : List (List Int)} {S V W : Nat} (h : Under f S V) (hg : GrF f V W) : Under f S W := by
  intro T hT hs x hx
  rcases (hg x).1 hx with h1 | ⟨a, b, ha, hb, rfl⟩
  · exact h T hT hs x h1
  · exact hT a b (h T hT hs a ha) (h T hT hs b hb)
theorem Under.add {f : List (List Int)} {S V a b v : Nat} (h : Under f S V) (ha : inb V a) (hb : inb V b) (hv : ap f a b = v) : Under f S (V ||| 2 ^ v) := by
  intro T hT hs x hx
  rcases (inb_or V v x).1 hx with h1 | rfl
  · exact h T hT hs x h1
  · rw [← hv]; exact hT a b (h T hT hs a ha) (h T hT hs b hb)
def SfRes (f : List (List Int)) (xs : List Int) (zs : List Int) (code : Int) : Prop :=
  (∃ V, (Rck f ∧ Els f.length xs ∧ xs ≠ []) ∧ LeastS f f.length (sN xs xs.length) V ∧ zs = memL f.length V ∧ code = 0) ∨ (¬ Rck f ∧ zs = [] ∧ code = 1) ∨ (Rck f ∧ ¬ Els f.length xs ∧ zs = [] ∧ code = 2) ∨ (Rck f ∧ Els f.length xs ∧ xs = [] ∧ zs = [] ∧ code = 5)
theorem SfRes.ex (f : List (List Int)) (xs : List Int) : ∃ zs code, SfRes f xs zs code ∧ zs.length ≤ 1048576 := by
  by_cases h : Rck f
  · by_cases h2 : Els f.length xs
    · by_cases h3 : xs = []
      · exact ⟨_, _, .inr (.inr (.inr ⟨h, h2, h3, rfl, rfl⟩)), by simp⟩
      · obtain ⟨V, hV⟩ := LeastS.ex f f.length (sN xs xs.length) (fun x y hx hy => h.tbl.ap_lt rfl hx hy) (sN_lt h2 (Nat.le_refl _))
        refine ⟨_, _, .inl ⟨V, ⟨h, h2, h3⟩, hV, rfl, rfl⟩, ?_⟩
        have h4 := mems_length f.length V
        have h5 := h.tbl.2.1
        rw [memL_length]
        omega
    · exact ⟨_, _, .inr (.inr (.inl ⟨h, h2, rfl, rfl⟩)), by simp⟩
  · exact ⟨_, _, .inr (.inl ⟨h, rfl, rfl⟩), by simp⟩
end Go.Proofs.Ythknnpkalhachaa
