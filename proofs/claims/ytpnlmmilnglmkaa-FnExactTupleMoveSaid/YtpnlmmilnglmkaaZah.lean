import Derived.Test.YtpnlmmilnglmkaaZaf
import Derived.Test.YtpnlmmilnglmkaaZag
import Derived.Test.YtpnlmmilnglmkaaZd
import Derived.Test.YtpnlmmilnglmkaaZg
import Derived.Test.YtpnlmmilnglmkaaZh
namespace Go.Proofs.Ytpnlmmilnglmkaa
open Go Go.RowKit

theorem renRow_far (rows : List (List Int)) (p : List Int) (x : Nat) (y : Nat) (f : Nat → Nat → Int) (a b : Nat) (h : a ≠ (p.getD x 0).toNat) : renRow rows p x y f a b = f a b := by
  induction y with
  | zero => rfl
  | succ y ih => unfold renRow; rw [if_neg (fun e => h e.1), ih]
theorem renRow_congr (rows : List (List Int)) (p : List Int) (x y : Nat) (f g : Nat → Nat → Int) (a b : Nat) (h : f a b = g a b) : renRow rows p x y f a b = renRow rows p x y g a b := by
  induction y with
  | zero => exact h
  | succ y ih => unfold renRow; rw [ih]
theorem renRow_hit (rows : List (List Int)) (p : List Int) (x y : Nat) (f g : Nat → Nat → Int) (a b y0 : Nat) (h0 : y0 < y) (ha : a = (p.getD x 0).toNat) (hb : b = (p.getD y0 0).toNat) : renRow rows p x y f a b = renRow rows p x y g a b := by
  induction y with
  | zero => omega
  | succ y ih =>
    unfold renRow
    by_cases h : a = (p.getD x 0).toNat ∧ b = (p.getD y 0).toNat
    · rw [if_pos h, if_pos h]
    · rw [if_neg h, if_neg h]
      have hne : y0 ≠ y := fun e => h ⟨ha, by rw [hb, e]⟩
      exact ih (by omega)
theorem renTo_congr (rows : List (List Int)) (p : List Int) (n x : Nat) (f g : Nat → Nat → Int) (a b : Nat) (h : f a b = g a b) : renTo rows p n x f a b = renTo rows p n x g a b := by
  induction x with
  | zero => exact h
  | succ x ih => exact renRow_congr _ _ _ _ _ _ _ _ ih
theorem renTo_cover (rows : List (List Int)) (p : List Int) (n x : Nat) (f g : Nat → Nat → Int) (a b x0 y0 : Nat) (h0 : x0 < x) (ha : (p.getD x0 0).toNat = a) (hy : y0 < n) (hb : (p.getD y0 0).toNat = b) : renTo rows p n x f a b = renTo rows p n x g a b := by
  induction x with
  | zero => omega
  | succ x ih =>
    unfold renTo
    by_cases h : x0 = x
    · subst h
      exact renRow_hit _ _ _ _ _ _ _ _ y0 hy ha.symm hb.symm
    · exact renRow_congr _ _ _ _ _ _ _ _ (ih (by omega))

theorem unit_getD (n k : Nat) (h : k < n) : (unit n).getD k 0 = (k : Int) := by simp [unit, h]
theorem unit_length (n : Nat) : (unit n).length = n := by simp [unit]
theorem renRow_unit (rows : List (List Int)) (n x y : Nat) (f : Nat → Nat → Int) (a b : Nat) (hx : x < n) (hy : y ≤ n) (hin : ∀ i j, i < n → j < n → 0 ≤ (rows.getD i []).getD j 0 ∧ (rows.getD i []).getD j 0 < (n : Int)) :
    renRow rows (unit n) x y f a b = if a = x ∧ b < y then (rows.getD x []).getD b 0 else f a b := by
  induction y with
  | zero => rw [if_neg (by omega)]; rfl
  | succ y ih =>
    unfold renRow
    rw [ih (by omega), unit_getD n x hx, unit_getD n y (by omega), Int.toNat_natCast, Int.toNat_natCast]
    by_cases h : a = x ∧ b = y
    · rw [if_pos h, if_pos (by omega)]
      have hr := hin x y hx (by omega)
      obtain ⟨z, hz⟩ := Int.eq_ofNat_of_zero_le hr.1
      rw [h.2, hz, Int.toNat_natCast, unit_getD n z (by omega)]
    · rw [if_neg h]
      by_cases h2 : a = x ∧ b < y
      · rw [if_pos h2, if_pos (by omega)]
      · rw [if_neg h2, if_neg (by omega)]
theorem renTo_unit (rows : List (List Int)) (n x : Nat) (f : Nat → Nat → Int) (a b : Nat) (hx : x ≤ n) (hb : b < n) (hin : ∀ i j, i < n → j < n → 0 ≤ (rows.getD i []).getD j 0 ∧ (rows.getD i []).getD j 0 < (n : Int)) :
    renTo rows (unit n) n x f a b = if a < x then (rows.getD a []).getD b 0 else f a b := by
  induction x with
  | zero => rw [if_neg (by omega)]; rfl
  | succ x ih =>
    unfold renTo
    rw [renRow_unit rows n x n _ a b (by omega) (Nat.le_refl _) hin, ih (by omega)]
    by_cases h : a = x
    · subst h
      rw [if_pos ⟨rfl, hb⟩, if_pos (by omega)]
    · rw [if_neg (fun e => h e.1)]
      by_cases h2 : a < x
      · rw [if_pos h2, if_pos (by omega)]
      · rw [if_neg h2, if_neg (by omega)]
theorem grid_self (rows : List (List Int)) (n : Nat) (hn : rows.length = n) (hl : ∀ i, i < n → (rows.getD i []).length = n) : grid n (fun a b => (rows.getD a []).getD b 0) = rows := by
  apply List.ext_getElem
  · simp [grid, hn]
  · intro i h1 h2
    have hi : i < n := by omega
    have hl' := hl i hi
    have e : rows.getD i [] = rows[i] := by simp [h2]
    rw [e] at hl'
    simp only [grid, List.getElem_map, List.getElem_range]
    apply List.ext_getElem
    · simp [hl']
    · intro j h3 h4
      simp only [List.getElem_map, List.getElem_range]
      rw [e]
      simp [h4]
theorem renL_unit (rows : List (List Int)) (n : Nat) (hn : rows.length = n) (hl : ∀ i, i < n → (rows.getD i []).length = n) (hin : ∀ i j, i < n → j < n → 0 ≤ (rows.getD i []).getD j 0 ∧ (rows.getD i []).getD j 0 < (n : Int)) : renL rows (unit n) = rows := by
  unfold renL
  rw [hn, grid_congr n _ (fun a b => (rows.getD a []).getD b 0) (fun a b ha hb => by rw [renTo_unit rows n n _ a b (Nat.le_refl _) hb hin, if_pos ha]), grid_self rows n hn hl]
theorem renL_cover (rows : List (List Int)) (n k : Nat) (f : Nat → Nat → Int) (hn : rows.length = n) (h1 : 1 ≤ n) (h7 : n ≤ 7) (hk : k < (permsS n).length) : grid n (renTo rows ((permsS n).getD k []) n n f) = renL rows ((permsS n).getD k []) := by
  unfold renL
  rw [hn]
  refine grid_congr n _ _ (fun a b ha hb => ?_)
  have hc := (perms_isP n h1 h7 k hk).2
  obtain ⟨x0, hx0, e0⟩ := hc a ha
  obtain ⟨y0, hy0, e1⟩ := hc b hb
  exact renTo_cover rows _ n n _ _ a b x0 y0 hx0 e0 hy0 e1

/-- The least one of the table and its first k renamed ones. -/
def bestS (rows : List (List Int)) (n : Nat) : Nat → List (List Int)
  | 0 => rows
  | k + 1 => if lessT (renL rows ((permsS n).getD k [])) (bestS rows n k) then renL rows ((permsS n).getD k []) else bestS rows n k
theorem bestS_shape (rows : List (List Int)) (n k : Nat) (hn : rows.length = n) (hl : ∀ i, i < n → (rows.getD i []).length = n) : (bestS rows n k).length = n ∧ ∀ i, i < n → ((bestS rows n k).getD i []).length = n := by
  induction k with
  | zero => exact ⟨hn, hl⟩
  | succ k ih =>
    unfold bestS
    split
    · refine ⟨by rw [renL_length, hn], fun i hi => ?_⟩
      unfold renL
      rw [hn, grid_row_length n _ i hi]
    · exact ih
theorem bestS_one (rows : List (List Int)) (n : Nat) (hn : rows.length = n) (h1 : 1 ≤ n) (h7 : n ≤ 7) (hl : ∀ i, i < n → (rows.getD i []).length = n) (hin : ∀ i j, i < n → j < n → 0 ≤ (rows.getD i []).getD j 0 ∧ (rows.getD i []).getD j 0 < (n : Int)) : bestS rows n 1 = renL rows ((permsS n).getD 0 []) := by
  unfold bestS
  rw [(perms_all n h1 h7).first, renL_unit rows n hn hl hin]
  unfold bestS
  split <;> rfl
def LeastRes (rows : List (List Int)) (zs : List (List Int)) (code : Int) : Prop :=
  (Tbl rows ∧ rows.length ≤ 7 ∧ zs = bestS rows rows.length (permsS rows.length).length ∧ code = 0) ∨ (Tbl rows ∧ 7 < rows.length ∧ zs = [] ∧ code = 3) ∨ (¬ Tbl rows ∧ zs = [] ∧ code = 1)
theorem LeastRes.ex (rows : List (List Int)) : ∃ zs code, LeastRes rows zs code ∧ zs.length ≤ 1048576 ∧ ∀ i, i < zs.length → (zs.getD i []).length ≤ 1048576 := by
  by_cases h : Tbl rows
  · by_cases h7 : rows.length ≤ 7
    · have hs := bestS_shape rows rows.length (permsS rows.length).length rfl (fun i hi => h.rows i hi)
      exact ⟨_, _, .inl ⟨h, h7, rfl, rfl⟩, by omega, fun i hi => by rw [hs.2 i (by omega)]; omega⟩
    · exact ⟨_, _, .inr (.inl ⟨h, by omega, rfl, rfl⟩), by simp, fun i hi => by simp at hi⟩
  · exact ⟨_, _, .inr (.inr ⟨h, rfl, rfl⟩), by simp, fun i hi => by simp at hi⟩
end Go.Proofs.Ytpnlmmilnglmkaa
namespace Go.Proofs.Ytpnlmmilnglmkaa
open Go Go.RowKit

theorem grid_sz {n : Nat} (h : n ≤ 1048576) (f g : Nat → Nat → Int) : ZSz 1048576 (grid n f) (grid n f).length (grid n g) (grid n g).length :=
  ⟨rfl, by rw [grid_length]; exact h, fun i hi => by rw [grid_length] at hi; rw [grid_row_length _ _ _ hi]; exact h, rfl, by rw [grid_length]; exact h, fun i hi => by rw [grid_length] at hi; rw [grid_row_length _ _ _ hi]; exact h⟩
theorem nil_sz : ZSz 1048576 [] ([] : List (List Int)).length [] ([] : List (List Int)).length := ⟨rfl, by simp, by simp, rfl, by simp, by simp⟩

/-- A pair of tables where all is well, else a code. -/
def GRes (good : Prop) (n : Nat) (h1 h2 : Nat → Nat → Int) (err : Int) (zf zg : List (List Int)) (code : Int) : Prop := (good ∧ zf = grid n h1 ∧ zg = grid n h2 ∧ code = 0) ∨ (¬ good ∧ zf = [] ∧ zg = [] ∧ code = err)
theorem GRes.ex (good : Prop) (n : Nat) (h1 h2 : Nat → Nat → Int) (err : Int) (hn : good → n ≤ 1048576) : ∃ zf zg code, GRes good n h1 h2 err zf zg code ∧ ZSz 1048576 zf zf.length zg zg.length := by
  by_cases h : good
  · exact ⟨_, _, _, .inl ⟨h, rfl, rfl, rfl⟩, grid_sz (hn h) _ _⟩
  · exact ⟨_, _, _, .inr ⟨h, rfl, rfl, rfl⟩, nil_sz⟩

def mir1 (s : List (List Int)) : Nat → Nat → Int := fun x y => ((ap s y x : Nat) : Int)
def MirRes (f s : List (List Int)) : List (List Int) → List (List Int) → Int → Prop := GRes (PMap f s) f.length (mir1 s) (mir1 f) 1
theorem MirRes.ex (f s : List (List Int)) : ∃ zf zg code, MirRes f s zf zg code ∧ ZSz 1048576 zf zf.length zg zg.length := GRes.ex _ _ _ _ _ (fun h => by have := h.1.2.1; omega)
theorem mir_turn {s : List (List Int)} (h : Tbl s) : grid s.length (mir1 s) = turnL s := by
  unfold turnL
  refine grid_congr _ _ _ fun a b ha hb => ?_
  unfold mir1
  rw [h.ap_eq rfl hb ha]
def FlipRes (n : Int) : List (List Int) → List (List Int) → Int → Prop := GRes (1 ≤ n ∧ n ≤ 12) n.toNat (fun _ y => (y : Int)) (fun x _ => (x : Int)) 2
theorem FlipRes.ex (n : Int) : ∃ zf zg code, FlipRes n zf zg code ∧ ZSz 1048576 zf zf.length zg zg.length := GRes.ex _ _ _ _ _ (fun h => by omega)
end Go.Proofs.Ytpnlmmilnglmkaa
namespace Go.Proofs.Ytpnlmmilnglmkaa
open Go Go.RowKit

section
variable {t : TypeId} {B : Nat} {w w' w1 : World} {v v' v1 v2 : Value} {n1 n2 : Nat} {xs1 xs2 : List Int}

/-- Two rows of numbers that the call builds by append. -/
structure Row2 (t : TypeId) (B : Nat) (w : World) (v1 v2 : Value) (n1 n2 : Nat) (xs1 xs2 : List Int) : Prop where
  o1 : w.ownsRow B t 1 v1 n1 (ints xs1)
  o2 : w.ownsRow B t 1 v2 n2 (ints xs2)
  ne : ∀ g, v1.ownBlock = some g → v2.ownBlock ≠ some g

theorem Row2.later (h : Row2 t B w v1 v2 n1 n2 xs1 xs2) (hb : Below w.heap.size w w') : Row2 t B w' v1 v2 n1 n2 xs1 xs2 :=
  ⟨ownsRow_below h.o1 hb, ownsRow_below h.o2 hb, h.ne⟩
theorem ints_push (xs : List Int) (a : Int) : ints (xs ++ [a]) = ints xs ++ [.int .i64 a] := by unfold ints; rw [List.map_append]; rfl

theorem Row2.add1 {a : Int} {tmp : Obj} (h : Row2 t B w v1 v2 n1 n2 xs1 xs2) (hown : w1.ownsRow B t 1 v' (n1 + 1) (ints xs1 ++ [.int .i64 a])) (hg : (w.alloc tmp).grownBy w1 v1.ownBlock) (hat : v'.ownBlock = v1.ownBlock ∨ v'.ownBlock = some (w.alloc tmp).heap.size) :
    Row2 t B w1 v' v2 (n1 + 1) n2 (xs1 ++ [a]) xs2 := by
  have hal : Below w.heap.size w (w.alloc tmp) := (Below.refl _ _).alloc (Nat.le_refl _) _
  have hv2 : v2.ownBlock = none ∨ v2.ownBlock ≠ v1.ownBlock := by
    cases e : v2.ownBlock with
    | none => exact .inl rfl
    | some g => exact .inr (fun e2 => h.ne g e2.symm e)
  refine ⟨by rw [ints_push]; exact hown, (ownsRow_below h.o2 hal).kept hg hv2, fun g hg1 e2 => ?_⟩
  rcases hat with e | e
  · exact h.ne g (e ▸ hg1) e2
  · have h3 := (own_type h.o2 e2).1
    rw [e] at hg1
    simp at hg1
    omega
theorem Row2.add2 {a : Int} {tmp : Obj} (h : Row2 t B w v1 v2 n1 n2 xs1 xs2) (hown : w1.ownsRow B t 1 v' (n2 + 1) (ints xs2 ++ [.int .i64 a])) (hg : (w.alloc tmp).grownBy w1 v2.ownBlock) (hat : v'.ownBlock = v2.ownBlock ∨ v'.ownBlock = some (w.alloc tmp).heap.size) :
    Row2 t B w1 v1 v' n1 (n2 + 1) xs1 (xs2 ++ [a]) := by
  have hal : Below w.heap.size w (w.alloc tmp) := (Below.refl _ _).alloc (Nat.le_refl _) _
  have hv1 : v1.ownBlock = none ∨ v1.ownBlock ≠ v2.ownBlock := by
    cases e : v1.ownBlock with
    | none => exact .inl rfl
    | some g => exact .inr (fun e2 => h.ne g e e2.symm)
  refine ⟨(ownsRow_below h.o1 hal).kept hg hv1, by rw [ints_push]; exact hown, fun g hg1 e2 => ?_⟩
  rcases hat with e | e
  · exact h.ne g hg1 (e ▸ e2)
  · have h3 := (own_type h.o1 hg1).1
    rw [e] at e2
    simp at e2
    omega
/-- The blocks below both rows are left. -/
theorem grown_low {tmp : Obj} {b0 : Nat} {w0 : World} (h : w.ownsRow B t 1 v n1 (ints xs1)) (hg : (w.alloc tmp).grownBy w1 v.ownBlock) (hb : Below b0 w0 w) (h0 : b0 ≤ B) (hs : b0 ≤ w.heap.size) : Below b0 w0 w1 :=
  (hb.alloc hs tmp).grown hg (by simp; omega) (fun g e => by
    have := (own_type h e).2.1
    omega)
end
end Go.Proofs.Ytpnlmmilnglmkaa
