import Derived.Test.YtljdfanebjhhmaaZag
import Derived.Test.YtljdfanebjhhmaaZv
import Derived.Test.YtljdfanebjhhmaaZb
import Derived.Test.YtljdfanebjhhmaaZao
import Derived.Test.YtljdfanebjhhmaaProg
import Derived.Test.YtljdfanebjhhmaaZa
namespace Go.Proofs.Ytljdfanebjhhmaa
open Go Go.RowKit
theorem nxt_succ (xs : List Int) (i : Nat) : nxt xs (i + 1) = if xs.getD i 0 = (nxt xs i : Int) then nxt xs i + 1 else nxt xs i := rfl
theorem nxt_new {xs : List Int} (h : Canon xs) {i : Nat} (hi : i < xs.length) (e : cl xs i = nxt xs i) : nxt xs (i + 1) = nxt xs i + 1 := by
  rw [nxt_succ, if_pos (by rw [(h.val hi).1, e])]
theorem nxt_old {xs : List Int} (h : Canon xs) {i : Nat} (hi : i < xs.length) (e : cl xs i ≠ nxt xs i) : nxt xs (i + 1) = nxt xs i ∧ cl xs i < nxt xs i := by
  have h1 := h.val hi
  have h2 := h i hi
  refine ⟨?_, by omega⟩
  rw [nxt_succ, if_neg (by rw [h1.1]; omega)]
theorem nxt_has {xs : List Int} (h : Canon xs) (i : Nat) (hi : i ≤ xs.length) (k : Nat) : k < nxt xs i ↔ ∃ j, j < i ∧ cl xs j = k := by
  induction i with
  | zero => exact ⟨fun h => absurd h (Nat.not_lt_zero _), fun ⟨j, hj, _⟩ => absurd hj (Nat.not_lt_zero _)⟩
  | succ i ih =>
    have ih := ih (by omega)
    by_cases e : cl xs i = nxt xs i
    · rw [nxt_new h (by omega) e]
      constructor
      · intro hk
        by_cases e2 : k = nxt xs i
        · exact ⟨i, by omega, by omega⟩
        · obtain ⟨j, hj, h2⟩ := ih.1 (by omega)
          exact ⟨j, by omega, h2⟩
      · rintro ⟨j, hj, h2⟩
        by_cases e2 : j = i
        · subst e2; omega
        · have := ih.2 ⟨j, by omega, h2⟩; omega
    · have ho := nxt_old h (by omega) e
      rw [ho.1]
      constructor
      · intro hk
        obtain ⟨j, hj, h2⟩ := ih.1 hk
        exact ⟨j, by omega, h2⟩
      · rintro ⟨j, hj, h2⟩
        by_cases e2 : j = i
        · subst e2; omega
        · exact ih.2 ⟨j, by omega, h2⟩
/-- The first element of a class. -/
def fstc (xs : List Int) (k : Nat) : Nat := xs.idxOf (k : Int)
theorem fstc_at {xs : List Int} (h : Canon xs) {i : Nat} (hi : i < xs.length) (hno : ∀ j, j < i → cl xs j ≠ cl xs i) : fstc xs (cl xs i) = i ∧ ixOf xs (cl xs i) = i := by
  have hv := (h.val hi).1
  have h1 := ixOf_at xs (cl xs i) i hi hv (by
    intro hm
    obtain ⟨j, hj, e⟩ := List.getElem_of_mem hm
    have hj2 : j < i := by rw [List.length_take] at hj; omega
    have e2 : xs.getD j 0 = (cl xs i : Int) := by
      rw [List.getElem_take] at e
      rw [← e]
      simp [show j < xs.length by omega]
    have h3 := (h.val (i := j) (by omega)).1
    exact hno j hj2 (by omega))
  refine ⟨?_, h1⟩
  unfold ixOf at h1
  have hm : ((cl xs i : Nat) : Int) ∈ xs := by rw [← hv]; simp [hi]
  rw [if_pos hm] at h1
  unfold fstc
  omega
theorem fstc_new {xs : List Int} (h : Canon xs) {i : Nat} (hi : i < xs.length) (e : cl xs i = nxt xs i) : fstc xs (nxt xs i) = i := by
  rw [← e]
  refine (fstc_at h hi fun j hj e2 => ?_).1
  have := (nxt_has h i (by omega) (cl xs i)).2 ⟨j, hj, e2⟩
  omega
theorem fstc_ok {xs : List Int} (h : Canon xs) {k : Nat} (hk : k < nxt xs xs.length) : fstc xs k < xs.length ∧ ixOf xs (k : Int) = fstc xs k := by
  obtain ⟨j, hj, e⟩ := (nxt_has h _ (Nat.le_refl _) k).1 hk
  have hm : ((k : Nat) : Int) ∈ xs := by
    have := (h.val hj).1
    rw [← e, ← this]; simp [hj]
  refine ⟨List.idxOf_lt_length_of_mem hm, ?_⟩
  unfold ixOf fstc
  rw [if_pos hm]
/-- The quotient. -/
def quH (f : List (List Int)) (xs : List Int) : Nat → Nat → Int := fun x y => (cl xs (ap f (fstc xs x) (fstc xs y)) : Int)
def QtRes (f : List (List Int)) (xs : List Int) (zs : List (List Int)) (code : Int) : Prop :=
  ((Rck f ∧ Part f xs) ∧ CgF f xs ∧ zs = grid (nxt xs xs.length) (quH f xs) ∧ code = 0) ∨ ((Rck f ∧ Part f xs) ∧ ¬ CgF f xs ∧ zs = [] ∧ code = 5) ∨ (¬ (Rck f ∧ Part f xs) ∧ zs = [] ∧ code = 1)
theorem QtRes.ex (f : List (List Int)) (xs : List Int) : ∃ zs code, QtRes f xs zs code ∧ zs.length ≤ 1048576 ∧ ∀ i, i < zs.length → (zs.getD i []).length ≤ 1048576 := by
  by_cases h1 : Rck f ∧ Part f xs
  · by_cases h2 : CgF f xs
    · have hl := nxt_le xs xs.length
      have h12 := h1.1.tbl.2.1
      have hp := h1.2.1
      refine ⟨_, _, .inl ⟨h1, h2, rfl, rfl⟩, by rw [grid_length]; omega, fun i hi => ?_⟩
      rw [grid_length] at hi
      rw [grid_row_length _ _ _ hi]; omega
    · exact ⟨_, _, .inr (.inl ⟨h1, h2, rfl, rfl⟩), by simp, by simp⟩
  · exact ⟨_, _, .inr (.inr ⟨h1, rfl, rfl⟩), by simp, by simp⟩
theorem nxt_pos {xs : List Int} (h : Canon xs) (h1 : 1 ≤ xs.length) : 1 ≤ nxt xs xs.length := by
  have := (nxt_has h _ (Nat.le_refl _) (cl xs 0)).2 ⟨0, by omega, rfl⟩
  omega
theorem nxt_max {xs : List Int} (h : Canon xs) (h1 : 1 ≤ xs.length) : IsMax xs ((nxt xs xs.length - 1 : Nat) : Int) := by
  have hp := nxt_pos h h1
  have mem : ∀ j, j < xs.length → cl xs j ≤ nxt xs xs.length - 1 := fun j hj => by
    have := (nxt_has h _ (Nat.le_refl _) (cl xs j)).2 ⟨j, hj, rfl⟩
    omega
  obtain ⟨j, hj, e⟩ := (nxt_has h _ (Nat.le_refl _) (nxt xs xs.length - 1)).1 (by omega)
  exact ⟨⟨j, hj, by rw [(h.val hj).1, e]⟩, fun i hi => by have h2 := mem i hi; have h3 := (h.val hi).1; omega⟩
end Go.Proofs.Ytljdfanebjhhmaa
namespace Go.Proofs.Ytljdfanebjhhmaa
open Go Go.RowKit
/-- All are elements. -/
def Els (n : Nat) (xs : List Int) : Prop := ∀ i, i < xs.length → 0 ≤ xs.getD i 0 ∧ xs.getD i 0 < (n : Int)
/-- An element of a list, as a natural number. -/
def el (xs : List Int) (i : Nat) : Nat := (xs.getD i 0).toNat
theorem Els.val {n : Nat} {xs : List Int} (h : Els n xs) {i : Nat} (hi : i < xs.length) : xs.getD i 0 = (el xs i : Int) ∧ el xs i < n := by
  have h1 := h i hi
  unfold el
  omega
/-- The set of the first k elements of a list. -/
def sN (xs : List Int) : Nat → Nat
  | 0 => 0
  | k + 1 => sN xs k ||| 2 ^ el xs k
theorem sN_in (xs : List Int) (k x : Nat) : inb (sN xs k) x ↔ ∃ i, i < k ∧ el xs i = x := by
  induction k with
  | zero => exact ⟨fun h => absurd h (inb_zero x), fun ⟨i, hi, _⟩ => by omega⟩
  | succ k ih =>
    show inb (sN xs k ||| 2 ^ el xs k) x ↔ _
    rw [inb_or, ih]
    constructor
    · rintro (⟨i, hi, e⟩ | rfl)
      · exact ⟨i, by omega, e⟩
      · exact ⟨k, by omega, rfl⟩
    · rintro ⟨i, hi, e⟩
      by_cases h : i = k
      · subst h; exact .inr e.symm
      · exact .inl ⟨i, by omega, e⟩
theorem sN_lt {n : Nat} {xs : List Int} (h : Els n xs) {k : Nat} (hk : k ≤ xs.length) : sN xs k < 2 ^ n :=
  set_lt (fun x hx => by
    obtain ⟨i, hi, rfl⟩ := (sN_in xs k x).1 hx
    exact (h.val (by omega)).2)
theorem sN_ne {xs : List Int} {k : Nat} (h : 0 < k) : sN xs k ≠ 0 := by
  intro e
  have h2 : inb (sN xs k) (el xs 0) := (sN_in xs k _).2 ⟨0, h, rfl⟩
  rw [e] at h2
  exact inb_zero _ h2

/-- A set of what holds, below n. -/
theorem set_of (P : Nat → Prop) (n : Nat) : ∃ V, V < 2 ^ n ∧ ∀ x, x < n → (inb V x ↔ P x) := by
  induction n with
  | zero => exact ⟨0, by simp, fun x hx => absurd hx (Nat.not_lt_zero _)⟩
  | succ n ih =>
    obtain ⟨V, hV, h⟩ := ih
    have hn : ¬ inb V n := fun h2 => by have := inb_lt hV h2; omega
    by_cases hp : P n
    · refine ⟨V ||| 2 ^ n, or_lt (Nat.lt_of_lt_of_le hV (Nat.pow_le_pow_right (by decide) (by omega))) (by omega), fun x hx => ?_⟩
      rw [inb_or]
      by_cases e : x = n
      · subst e; simp [hp]
      · rw [← h x (by omega)]; simp [e]
    · refine ⟨V, Nat.lt_of_lt_of_le hV (Nat.pow_le_pow_right (by decide) (by omega)), fun x hx => ?_⟩
      by_cases e : x = n
      · subst e; simp [hp, hn]
      · exact h x (by omega)
/-- V is in each set with S that is closed. -/
def Under (f : List (List Int)) (S V : Nat) : Prop := ∀ T, ClosedF f T → (∀ x, inb S x → inb T x) → ∀ x, inb V x → inb T x
/-- The least closed set with S. -/
structure LeastS (f : List (List Int)) (n S V : Nat) : Prop where
  lt : V < 2 ^ n
  closed : ClosedF f V
  up : ∀ x, inb S x → inb V x
  low : Under f S V
theorem LeastS.uniq {f : List (List Int)} {n S V V' : Nat} (h : LeastS f n S V) (h' : LeastS f n S V') : V = V' :=
  inb_eq (fun x => ⟨h.low V' h'.closed h'.up x, h'.low V h.closed h.up x⟩)
theorem LeastS.ex (f : List (List Int)) (n S : Nat) (hf : ∀ x y, x < n → y < n → ap f x y < n) (hS : S < 2 ^ n) : ∃ V, LeastS f n S V := by
  obtain ⟨V, hV, h⟩ := set_of (fun x => ∀ T, ClosedF f T → (∀ x, inb S x → inb T x) → inb T x) n
  refine ⟨V, hV, ?_, ?_, ?_⟩
  · intro x y hx hy
    have lx := inb_lt hV hx
    have ly := inb_lt hV hy
    refine (h _ (hf x y lx ly)).2 fun T hT hs => hT x y ((h x lx).1 hx T hT hs) ((h y ly).1 hy T hT hs)
  · intro x hx
    exact (h x (inb_lt hS hx)).2 fun T _ hs => hs x hx
  · intro T hT hs x hx
    exact (h x (inb_lt hV hx)).1 hx T hT hs
theorem Under.grow {f : List (List Int)} {S V W : Nat} (h : Under f S V) (hg : GrF f V W) : Under f S W := by
  intro T hT hs x hx
  rcases (hg x).1 hx with h1 | ⟨a, b, ha, hb, rfl⟩
  · exact h T hT hs x h1
  · exact hT a b (h T hT hs a ha) (h T hT hs b hb)
theorem Under.add {f : List (List Int)} {S V a b v : Nat} (h : Under f S V) (ha : inb V a) (hb : inb V b) (hv : ap f a b = v) : Under f S (V ||| 2 ^ v) := by
  intro T hT hs x hx
  rcases (inb_or V v x).1 hx with h1 | rfl
  · exact h T hT hs x h1
  · rw [← hv]; exact hT a b (h T hT hs a ha) (h T hT hs b hb)
def SfRes (f : List (List Int)) (xs : List Int) (zs : List Int) (code : Int) : Prop :=
  (∃ V, (Rck f ∧ Els f.length xs ∧ xs ≠ []) ∧ LeastS f f.length (sN xs xs.length) V ∧ zs = memL f.length V ∧ code = 0) ∨ (¬ Rck f ∧ zs = [] ∧ code = 1) ∨ (Rck f ∧ ¬ Els f.length xs ∧ zs = [] ∧ code = 2) ∨ (Rck f ∧ Els f.length xs ∧ xs = [] ∧ zs = [] ∧ code = 5)
theorem SfRes.ex (f : List (List Int)) (xs : List Int) : ∃ zs code, SfRes f xs zs code ∧ zs.length ≤ 1048576 := by
  by_cases h : Rck f
  · by_cases h2 : Els f.length xs
    · by_cases h3 : xs = []
      · exact ⟨_, _, .inr (.inr (.inr ⟨h, h2, h3, rfl, rfl⟩)), by simp⟩
      · obtain ⟨V, hV⟩ := LeastS.ex f f.length (sN xs xs.length) (fun x y hx hy => h.tbl.ap_lt rfl hx hy) (sN_lt h2 (Nat.le_refl _))
        refine ⟨_, _, .inl ⟨V, ⟨h, h2, h3⟩, hV, rfl, rfl⟩, ?_⟩
        have h4 := mems_length f.length V
        have h5 := h.tbl.2.1
        rw [memL_length]
        omega
    · exact ⟨_, _, .inr (.inr (.inl ⟨h, h2, rfl, rfl⟩)), by simp⟩
  · exact ⟨_, _, .inr (.inl ⟨h, rfl, rfl⟩), by simp⟩
end Go.Proofs.Ytljdfanebjhhmaa
namespace Go.Proofs.Ytljdfanebjhhmaa
open Go Go.RowKit
set_option maxHeartbeats 1000000

theorem max_any (A : Option Addr) (n c : Nat) (xs : List Int) (m : Int) (w : World) (hn : xs.length = n) (h1 : 1 ≤ n) (hb : n ≤ 1048576) (hx : Rd w A xs) (hm : IsMax xs m) :
    Calls Try.prog 55 #[.slice A n c] w fun e w' => e = .returned (.int .i64 m) ∧ Below w.heap.size w w' := by
  have HN := hide hn
  have HM := hide hm
  obtain ⟨b, o, rfl, hbw, hc⟩ := hx (by omega)
  have HC := hide hc
  have hc0 := hc 0 (by omega)
  simp only [Nat.add_zero] at hc0
  obtain ⟨x0, hx0⟩ : ∃ v, xs.getD 0 0 = v := ⟨_, rfl⟩
  rw [hx0] at hc0
  have HX0 := hide hx0
  have h1z : ¬ ((n : Int) < 1) := by omega
  clear hn hx hm hc hx0
  go_enter Try.func55, Try.ntmps55
  go_wp2_with fail
  go_loopw [3, 4] (fun v i wr => ∃ (k : Nat) (u : Int), 1 ≤ k ∧ k ≤ n ∧ i = .int .i64 k ∧ v = .int .i64 u ∧ Below w.heap.size w wr ∧ (∃ j, j < k ∧ xs.getD j 0 = u) ∧ ∀ j, j < k → xs.getD j 0 ≤ u) (fun _ i _ => n - (intOf i).toNat)
  case atStart => exact ⟨1, x0, Nat.le_refl _, h1, rfl, rfl, Below.refl _ _, ⟨0, by omega, HX0.out⟩, fun j hj => by
    have e : j = 0 := by omega
    subst e
    rw [HX0.out]
    exact Int.le_refl _⟩
  case round =>
    obtain ⟨k, u, h1k, hk, rfl, rfl, hbe, hex, hall⟩ := hrel
    have HB := hide hbe
    have HEX := hide hex
    have HALL := hide hall
    clear hbe hex hall
    by_cases hlt : k < n
    · have hltz : (k : Int) < n := by omega
      have hck := HC.out k (by have := HN.out; omega)
      obtain ⟨y, hy⟩ : ∃ v, xs.getD k 0 = v := ⟨_, rfl⟩
      rw [hy] at hck
      replace hck := (HB.out.cell (p := ⟨b, o + k, none⟩) hbw).trans hck
      have HY := hide hy
      clear hy
      by_cases hlu : u < y
      · have hn2 : ¬ y < u := by omega
        go_wp2_with fail
        go_roundw
        case rel => exact ⟨k + 1, y, by omega, by omega, by go_num, (by first | rfl | (congr 1; omega)), HB.out, ⟨k, by omega, HY.out⟩, fun j hj => by
          by_cases e : j = k
          · subst e; rw [HY.out]; exact Int.le_refl _
          · have := HALL.out j (by omega); omega⟩
        case measure => simp [intOf]; omega
      · by_cases hyu : y < u
        · go_wp2_with fail
          go_roundw
          case rel => exact ⟨k + 1, u, by omega, by omega, by go_num, (by first | rfl | (congr 1; omega)), HB.out, by obtain ⟨j, h2, h3⟩ := HEX.out; exact ⟨j, by omega, h3⟩, fun j hj => by
            by_cases e : j = k
            · subst e; rw [HY.out]; omega
            · exact HALL.out j (by omega)⟩
          case measure => simp [intOf]; omega
        · have e : y = u := by omega
          subst e
          go_wp2_with fail
          go_roundw
          case rel => exact ⟨k + 1, y, by omega, by omega, by go_num, (by first | rfl | (congr 1; omega)), HB.out, ⟨k, by omega, HY.out⟩, fun j hj => by
            by_cases e : j = k
            · subst e; rw [HY.out]; exact Int.le_refl _
            · exact HALL.out j (by omega)⟩
          case measure => simp [intOf]; omega
    · have hkn : k = n := by omega
      subst hkn
      obtain ⟨j, h2, h3⟩ := HEX.out
      obtain ⟨⟨i, hi, hmi⟩, hml⟩ := HM.out
      have e : u = m := by
        have a := hml j (by have := HN.out; omega)
        have b := HALL.out i (by have := HN.out; omega)
        omega
      subst e
      clear h3 hmi hml
      go_wp2_with fail
      go_ret
      exact ⟨rfl, HB.out⟩
end Go.Proofs.Ytljdfanebjhhmaa
