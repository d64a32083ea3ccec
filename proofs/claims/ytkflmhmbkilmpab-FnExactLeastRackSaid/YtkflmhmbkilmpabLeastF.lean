import Derived.Test.YtkflmhmbkilmpabPermsG
import Derived.Test.YtkflmhmbkilmpabRenF
import Derived.Test.YtkflmhmbkilmpabCmpF
import Derived.Test.YtkflmhmbkilmpabTabRes
namespace Go.Proofs.Ytkflmhmbkilmpab
open Go Go.RowKit

theorem renRow_far (rows : List (List Int)) (p : List Int) (x : Nat) (y : Nat) (f : Nat → Nat → Int) (a b : Nat) (h : a ≠ (p.getD x 0).toNat) : renRow rows p x y f a b = f a b := by
  induction y with
  | zero => rfl
  | succ y ih => unfold renRow; rw [if_neg (fun e => h e.1), ih]
theorem renRow_congr (rows : List (List Int)) (p : List Int) (x y : Nat) (f g : Nat → Nat → Int) (a b : Nat) (h : f a b = g a b) : renRow rows p x y f a b = renRow rows p x y g a b := by
  induction y with
  | zero => exact h
  | succ y ih => unfold renRow; rw [ih]
theorem renRow_hit (rows : List (List Int)) (p : List Int) (x y : Nat) (f g : Nat → Nat → Int) (a b y0 : Nat) (h0 : y0 < y) (ha : a = (p.getD x 0).toNat) (hb : b = (p.getD y0 0).toNat) : renRow rows p x y f a b = renRow rows p x y g a b := by
  induction y with
  | zero => omega
  | succ y ih =>
    unfold renRow
    by_cases h : a = (p.getD x 0).toNat ∧ b = (p.getD y 0).toNat
    · rw [if_pos h, if_pos h]
    · rw [if_neg h, if_neg h]
      have hne : y0 ≠ y := fun e => h ⟨ha, by rw [hb, e]⟩
      exact ih (by omega)
theorem renTo_congr (rows : List (List Int)) (p : List Int) (n x : Nat) (f g : Nat → Nat → Int) (a b : Nat) (h : f a b = g a b) : renTo rows p n x f a b = renTo rows p n x g a b := by
  induction x with
  | zero => exact h
  | succ x ih => exact renRow_congr _ _ _ _ _ _ _ _ ih
theorem renTo_cover (rows : List (List Int)) (p : List Int) (n x : Nat) (f g : Nat → Nat → Int) (a b x0 y0 : Nat) (h0 : x0 < x) (ha : (p.getD x0 0).toNat = a) (hy : y0 < n) (hb : (p.getD y0 0).toNat = b) : renTo rows p n x f a b = renTo rows p n x g a b := by
  induction x with
  | zero => omega
  | succ x ih =>
    unfold renTo
    by_cases h : x0 = x
    · subst h
      exact renRow_hit _ _ _ _ _ _ _ _ y0 hy ha.symm hb.symm
    · exact renRow_congr _ _ _ _ _ _ _ _ (ih (by omega))

theorem unit_getD (n k : Nat) (h : k < n) : (unit n).getD k 0 = (k : Int) := by simp [unit, h]
theorem unit_length (n : Nat) : (unit n).length = n := by simp [unit]
theorem renRow_unit (rows : List (List Int)) (n x y : Nat) (f : Nat → Nat → Int) (a b : Nat) (hx : x < n) (hy : y ≤ n) (hin : ∀ i j, i < n → j < n → 0 ≤ (rows.getD i []).getD j 0 ∧ (rows.getD i []).getD j 0 < (n : Int)) :
    renRow rows (unit n) x y f a b = if a = x ∧ b < y then (rows.getD x []).getD b 0 else f a b := by
  induction y with
  | zero => rw [if_neg (by omega)]; rfl
  | succ y ih =>
    unfold renRow
    rw [ih (by omega), unit_getD n x hx, unit_getD n y (by omega), Int.toNat_natCast, Int.toNat_natCast]
    by_cases h : a = x ∧ b = y
    · rw [if_pos h, if_pos (by omega)]
      have hr := hin x y hx (by omega)
      obtain ⟨z, hz⟩ := Int.eq_ofNat_of_zero_le hr.1
      rw [h.2, hz, Int.toNat_natCast, unit_getD n z (by omega)]
    · rw [if_neg h]
      by_cases h2 : a = x ∧ b < y
      · rw [if_pos h2, if_pos (by omega)]
      · rw [if_neg h2, if_neg (by omega)]
theorem renTo_unit (rows : List (List Int)) (n x : Nat) (f : Nat → Nat → Int) (a b : Nat) (hx : x ≤ n) (hb : b < n) (hin : ∀ i j, i < n → j < n → 0 ≤ (rows.getD i []).getD j 0 ∧ (rows.getD i []).getD j 0 < (n : Int)) :
    renTo rows (unit n) n x f a b = if a < x then (rows.getD a []).getD b 0 else f a b := by
  induction x with
  | zero => rw [if_neg (by omega)]; rfl
  | succ x ih =>
    unfold renTo
    rw [renRow_unit rows n x n _ a b (by omega) (Nat.le_refl _) hin, ih (by omega)]
    by_cases h : a = x
    · subst h
      rw [if_pos ⟨rfl, hb⟩, if_pos (by omega)]
    · rw [if_neg (fun e => h e.1)]
      by_cases h2 : a < x
      · rw [if_pos h2, if_pos (by omega)]
      · rw [if_neg h2, if_neg (by omega)]
theorem grid_self (rows : List (List Int)) (n : Nat) (hn : rows.length = n) (hl : ∀ i, i < n → (rows.getD i []).length = n) : grid n (fun a b => (rows.getD a []).getD b 0) = rows := by
  apply List.ext_getElem
  · simp [grid, hn]
  · intro i h1 h2
    have hi : i < n := by omega
    have hl' := hl i hi
    have e : rows.getD i [] = rows[i] := by simp [h2]
    rw [e] at hl'
    simp only [grid, List.getElem_map, List.getElem_range]
    apply List.ext_getElem
    · simp [hl']
    · intro j h3 h4
      simp only [List.getElem_map, List.getElem_range]
      rw [e]
      simp [h4]
theorem renL_unit (rows : List (List Int)) (n : Nat) (hn : rows.length = n) (hl : ∀ i, i < n → (rows.getD i []).length = n) (hin : ∀ i j, i < n → j < n → 0 ≤ (rows.getD i []).getD j 0 ∧ (rows.getD i []).getD j 0 < (n : Int)) : renL rows (unit n) = rows := by
  unfold renL
  rw [hn, grid_congr n _ (fun a b => (rows.getD a []).getD b 0) (fun a b ha hb => by rw [renTo_unit rows n n _ a b (Nat.le_refl _) hb hin, if_pos ha]), grid_self rows n hn hl]
theorem renL_cover (rows : List (List Int)) (n k : Nat) (f : Nat → Nat → Int) (hn : rows.length = n) (h1 : 1 ≤ n) (h7 : n ≤ 7) (hk : k < (permsS n).length) : grid n (renTo rows ((permsS n).getD k []) n n f) = renL rows ((permsS n).getD k []) := by
  unfold renL
  rw [hn]
  refine grid_congr n _ _ (fun a b ha hb => ?_)
  have hc := (perms_isP n h1 h7 k hk).2
  obtain ⟨x0, hx0, e0⟩ := hc a ha
  obtain ⟨y0, hy0, e1⟩ := hc b hb
  exact renTo_cover rows _ n n _ _ a b x0 y0 hx0 e0 hy0 e1

/-- The least one of the table and its first k renamed ones. -/
def bestS (rows : List (List Int)) (n : Nat) : Nat → List (List Int)
  | 0 => rows
  | k + 1 => if lessT (renL rows ((permsS n).getD k [])) (bestS rows n k) then renL rows ((permsS n).getD k []) else bestS rows n k
theorem bestS_shape (rows : List (List Int)) (n k : Nat) (hn : rows.length = n) (hl : ∀ i, i < n → (rows.getD i []).length = n) : (bestS rows n k).length = n ∧ ∀ i, i < n → ((bestS rows n k).getD i []).length = n := by
  induction k with
  | zero => exact ⟨hn, hl⟩
  | succ k ih =>
    unfold bestS
    split
    · refine ⟨by rw [renL_length, hn], fun i hi => ?_⟩
      unfold renL
      rw [hn, grid_row_length n _ i hi]
    · exact ih
theorem bestS_one (rows : List (List Int)) (n : Nat) (hn : rows.length = n) (h1 : 1 ≤ n) (h7 : n ≤ 7) (hl : ∀ i, i < n → (rows.getD i []).length = n) (hin : ∀ i j, i < n → j < n → 0 ≤ (rows.getD i []).getD j 0 ∧ (rows.getD i []).getD j 0 < (n : Int)) : bestS rows n 1 = renL rows ((permsS n).getD 0 []) := by
  unfold bestS
  rw [(perms_all n h1 h7).first, renL_unit rows n hn hl hin]
  unfold bestS
  split <;> rfl
def LeastRes (rows : List (List Int)) (zs : List (List Int)) (code : Int) : Prop :=
  (Tbl rows ∧ rows.length ≤ 7 ∧ zs = bestS rows rows.length (permsS rows.length).length ∧ code = 0) ∨ (Tbl rows ∧ 7 < rows.length ∧ zs = [] ∧ code = 3) ∨ (¬ Tbl rows ∧ zs = [] ∧ code = 1)
theorem LeastRes.ex (rows : List (List Int)) : ∃ zs code, LeastRes rows zs code ∧ zs.length ≤ 1048576 ∧ ∀ i, i < zs.length → (zs.getD i []).length ≤ 1048576 := by
  by_cases h : Tbl rows
  · by_cases h7 : rows.length ≤ 7
    · have hs := bestS_shape rows rows.length (permsS rows.length).length rfl (fun i hi => h.rows i hi)
      exact ⟨_, _, .inl ⟨h, h7, rfl, rfl⟩, by omega, fun i hi => by rw [hs.2 i (by omega)]; omega⟩
    · exact ⟨_, _, .inr (.inl ⟨h, by omega, rfl, rfl⟩), by simp, fun i hi => by simp at hi⟩
  · exact ⟨_, _, .inr (.inr ⟨h, rfl, rfl⟩), by simp, fun i hi => by simp at hi⟩
end Go.Proofs.Ytkflmhmbkilmpab
