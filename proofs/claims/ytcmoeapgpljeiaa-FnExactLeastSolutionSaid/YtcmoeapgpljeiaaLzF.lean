import Derived.Test.YtcmoeapgpljeiaaLeastF
import Derived.Test.YtcmoeapgpljeiaaMirF
namespace Go.Proofs.Ytcmoeapgpljeiaa
open Go Go.RowKit
theorem cmpT_zero (xs ys : List (List Int)) : cmpT xs ys = 0 ↔ xs = ys := by
  induction xs generalizing ys with
  | nil => cases ys <;> simp [cmpT]
  | cons x xs ih =>
    cases ys with
    | nil => simp [cmpT]
    | cons y ys =>
      unfold cmpT
      by_cases h : x = y
      · rw [if_pos ((cmpL_zero x y).2 h), ih]; simp [h]
      · rw [if_neg (fun e => h ((cmpL_zero x y).1 e))]
        constructor
        · intro e; exact absurd ((cmpL_zero x y).1 e) h
        · intro e; injection e with e1 _; exact absurd e1 h
theorem cmpT_range (xs ys : List (List Int)) : -1 ≤ cmpT xs ys ∧ cmpT xs ys ≤ 1 := by
  induction xs generalizing ys with
  | nil => cases ys <;> simp [cmpT]
  | cons x xs ih =>
    cases ys with
    | nil => simp [cmpT]
    | cons y ys =>
      unfold cmpT
      split
      · exact ih ys
      · exact cmpL_range x y
/-- Pairs of tables in order, the first ones first. -/
def cmpZ (f s g t : List (List Int)) : Int := if cmpT f g = 0 then cmpT s t else cmpT f g
def lessZ (f s g t : List (List Int)) : Bool := if f = g then lessT s t else lessT f g
theorem cmpZ_neg (f s g t : List (List Int)) : cmpZ f s g t < 0 ↔ lessZ f s g t = true := by
  unfold cmpZ lessZ
  by_cases h : f = g
  · rw [if_pos ((cmpT_zero f g).2 h), if_pos h]; exact cmpT_neg s t
  · rw [if_neg (fun e => h ((cmpT_zero f g).1 e)), if_neg h]; exact cmpT_neg f g
/-- The least one of the pair and its first k renamed ones. -/
def bestZ (f s : List (List Int)) (n : Nat) : Nat → List (List Int) × List (List Int)
  | 0 => (f, s)
  | k + 1 => if lessZ (renL f ((permsS n).getD k [])) (renL s ((permsS n).getD k [])) (bestZ f s n k).1 (bestZ f s n k).2 then (renL f ((permsS n).getD k []), renL s ((permsS n).getD k [])) else bestZ f s n k
/-- A square table of n rows. -/
def Sq (rows : List (List Int)) (n : Nat) : Prop := rows.length = n ∧ ∀ i, i < n → (rows.getD i []).length = n
theorem ren_sq {rows : List (List Int)} {n : Nat} (hn : rows.length = n) (p : List Int) : Sq (renL rows p) n := by
  refine ⟨by rw [renL_length, hn], fun i hi => ?_⟩
  unfold renL
  rw [hn, grid_row_length n _ i hi]
theorem bestZ_shape {f s : List (List Int)} {n : Nat} (k : Nat) (h1 : Sq f n) (h2 : Sq s n) : Sq (bestZ f s n k).1 n ∧ Sq (bestZ f s n k).2 n := by
  induction k with
  | zero => exact ⟨h1, h2⟩
  | succ k ih =>
    unfold bestZ
    split
    · exact ⟨ren_sq h1.1 _, ren_sq h2.1 _⟩
    · exact ih
theorem PMap.sq {f s : List (List Int)} (h : PMap f s) {n : Nat} (hn : f.length = n) : Sq f n ∧ Sq s n := by
  have hm : s.length = n := by rw [← h.2.2]; exact hn
  exact ⟨⟨hn, fun i hi => h.1.row_len hn hi⟩, ⟨hm, fun i hi => h.2.1.row_len hm hi⟩⟩
theorem bestZ_one {f s : List (List Int)} {n : Nat} (h : PMap f s) (hn : f.length = n) (h7 : n ≤ 7) : bestZ f s n 1 = (renL f ((permsS n).getD 0 []), renL s ((permsS n).getD 0 [])) := by
  have h1 : 1 ≤ n := by have := h.1.1; omega
  have hm : s.length = n := by rw [← h.2.2]; exact hn
  obtain ⟨q1, q2⟩ := h.sq hn
  have e1 := bestS_one f n hn h1 h7 q1.2 (fun i j hi hj => by have := (h.1.2.2 i (by omega)).2 j (by omega); rw [hn] at this; exact this)
  have e2 := bestS_one s n hm h1 h7 q2.2 (fun i j hi hj => by have := (h.2.1.2.2 i (by omega)).2 j (by omega); rw [hm] at this; exact this)
  have u1 : renL f ((permsS n).getD 0 []) = f := by rw [(perms_all n h1 h7).first]; exact renL_unit f n hn q1.2 (fun i j hi hj => by have := (h.1.2.2 i (by omega)).2 j (by omega); rw [hn] at this; exact this)
  have u2 : renL s ((permsS n).getD 0 []) = s := by rw [(perms_all n h1 h7).first]; exact renL_unit s n hm q2.2 (fun i j hi hj => by have := (h.2.1.2.2 i (by omega)).2 j (by omega); rw [hm] at this; exact this)
  unfold bestZ
  rw [u1, u2]
  unfold bestZ
  split <;> rfl
def LzRes (f s zf zg : List (List Int)) (code : Int) : Prop :=
  (PMap f s ∧ f.length ≤ 7 ∧ zf = (bestZ f s f.length (permsS f.length).length).1 ∧ zg = (bestZ f s f.length (permsS f.length).length).2 ∧ code = 0) ∨ (PMap f s ∧ 7 < f.length ∧ zf = [] ∧ zg = [] ∧ code = 3) ∨ (¬ PMap f s ∧ zf = [] ∧ zg = [] ∧ code = 1)
theorem sq_sz {f s : List (List Int)} {n : Nat} (h1 : Sq f n) (h2 : Sq s n) (hn : n ≤ 1048576) : ZSz 1048576 f f.length s s.length :=
  ⟨rfl, by rw [h1.1]; exact hn, fun i hi => by rw [h1.1] at hi; rw [h1.2 i hi]; exact hn, rfl, by rw [h2.1]; exact hn, fun i hi => by rw [h2.1] at hi; rw [h2.2 i hi]; exact hn⟩
theorem LzRes.ex (f s : List (List Int)) : ∃ zf zg code, LzRes f s zf zg code ∧ ZSz 1048576 zf zf.length zg zg.length := by
  by_cases h : PMap f s
  · by_cases h7 : f.length ≤ 7
    · have q := bestZ_shape (permsS f.length).length (h.sq rfl).1 (h.sq rfl).2
      exact ⟨_, _, _, .inl ⟨h, h7, rfl, rfl, rfl⟩, sq_sz q.1 q.2 (by omega)⟩
    · exact ⟨_, _, _, .inr (.inl ⟨h, by omega, rfl, rfl, rfl⟩), nil_sz⟩
  · exact ⟨_, _, _, .inr (.inr ⟨h, rfl, rfl, rfl⟩), nil_sz⟩
end Go.Proofs.Ytcmoeapgpljeiaa
