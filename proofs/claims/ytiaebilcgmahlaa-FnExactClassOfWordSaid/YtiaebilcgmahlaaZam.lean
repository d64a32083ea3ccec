import Derived.Test.YtiaebilcgmahlaaZj
import Derived.Test.YtiaebilcgmahlaaZah
namespace Go.Proofs.Ytiaebilcgmahlaa
open Go Go.RowKit
/-! A queue of rows that grows, and beside it a list of the same rows in order. -/
theorem ins_at {α : Type} (l : List α) (k : Nat) (x : α) (hk : k ≤ l.length) (i : Nat) : (l.take k ++ x :: l.drop k)[i]? = if i < k then l[i]? else if i = k then some x else l[i - 1]? := by
  rw [List.getElem?_append, List.length_take, Nat.min_eq_left hk]
  by_cases h : i < k
  · rw [if_pos h, if_pos h, List.getElem?_take, if_pos h]
  · rw [if_neg h, if_neg h]
    by_cases e : i = k
    · subst e; simp
    · rw [if_neg e, show i - k = (i - 1 - k) + 1 by omega, List.getElem?_cons_succ, List.getElem?_drop, show k + (i - 1 - k) = i - 1 by omega]
theorem insL_at (l : List (List Int)) (k : Nat) (p : List Int) (hk : k ≤ l.length) (i : Nat) : (insL l k p).getD i [] = if i < k then l.getD i [] else if i = k then p else l.getD (i - 1) [] := by
  rw [List.getD_eq_getElem?_getD, insL, ins_at l k p hk i]
  by_cases h : i < k
  · rw [if_pos h, if_pos h, List.getD_eq_getElem?_getD]
  · rw [if_neg h, if_neg h]
    by_cases e : i = k
    · rw [if_pos e, if_pos e]; rfl
    · rw [if_neg e, if_neg e, List.getD_eq_getElem?_getD]
section
variable {ts t : TypeId} {B : Nat} {w w' w1 : World} {v v' vq vs : Value} {rows queue srt : List (List Int)} {vals qvals svals : List Value}
/-- The values are slices that read as the rows. -/
def RowsV (t : TypeId) (B : Nat) (w : World) (rows : List (List Int)) (vals : List Value) : Prop :=
  vals.length = rows.length ∧ ∀ i, i < rows.length → ∃ A c, vals[i]? = some (.slice A (rows.getD i []).length c) ∧ Obj1 t B w.heap.size w A (rows.getD i [])
theorem RowsV.kept (h : RowsV t B w rows vals) (hk : KeepT t w w') (hs : w.heap.size ≤ w'.heap.size) : RowsV t B w' rows vals :=
  ⟨h.1, fun i hi => by
    obtain ⟨A, c, h1, h2⟩ := h.2 i hi
    exact ⟨A, c, h1, (hk.obj h2).mono (Nat.le_refl _) hs⟩⟩
theorem RowsV.ins {A : Option Addr} {c k : Nat} {r : List Int} (h : RowsV t B w rows vals) (hk : k ≤ rows.length) (hA : Obj1 t B w.heap.size w A r) : RowsV t B w (insL rows k r) (vals.take k ++ .slice A r.length c :: vals.drop k) := by
  refine ⟨by simp [insL, h.1], fun i hi => ?_⟩
  rw [insL_length] at hi
  rw [insL_at _ _ _ hk, ins_at _ _ _ (by rw [h.1]; exact hk)]
  by_cases h1 : i < k
  · rw [if_pos h1, if_pos h1]
    exact h.2 i (by omega)
  · rw [if_neg h1, if_neg h1]
    by_cases h2 : i = k
    · rw [if_pos h2, if_pos h2]
      exact ⟨A, c, rfl, hA⟩
    · rw [if_neg h2, if_neg h2]
      exact h.2 (i - 1) (by omega)
/-- The queue and the sorted list. -/
structure Qs (ts t : TypeId) (B : Nat) (w : World) (vq vs : Value) (queue srt : List (List Int)) (qvals svals : List Value) : Prop where
  q : LstV ts t B w vq queue qvals
  s : w.ownsRow B ts 1 vs srt.length svals
  r : RowsV t B w srt svals
  d : ∀ g, vq.ownBlock = some g → vs.ownBlock ≠ some g
theorem Qs.later (h : Qs ts t B w vq vs queue srt qvals svals) (hb : Below w.heap.size w w') : Qs ts t B w' vq vs queue srt qvals svals :=
  ⟨h.q.later hb, ownsRow_below h.s hb, h.r.kept (KeepT.of_below hb) hb.size, h.d⟩
theorem Qs.slen (h : Qs ts t B w vq vs queue srt qvals svals) : svals.length = srt.length := h.r.1
/-- How the sorted list looks. -/
theorem Qs.look (h : Qs ts t B w vq vs queue srt qvals svals) (h0 : 0 < srt.length) : ∃ g c, vs = .slice (some ⟨g, 0, none⟩) srt.length c ∧ srt.length ≤ c ∧ c ≤ maxLen ∧ g < w.heap.size ∧ (∀ i u, svals[i]? = some u → w.cell? ⟨g, i, none⟩ = some u) ∧ Rd2 w (some ⟨g, 0, none⟩) srt := by
  rcases h.s.2 with ⟨_, h2⟩ | ⟨g, cap, cur, hv, hg, hh, h1, h2, h3, h4⟩
  · omega
  · have hc : ∀ i u, svals[i]? = some u → w.cell? ⟨g, i, none⟩ = some u := by
      intro i u hu
      rw [cell_of_row w g i cur ts (0, 0) hh]
      rw [← h4, List.getElem?_take] at hu
      by_cases e : i < srt.length * 1
      · rw [if_pos e] at hu; simpa using hu
      · rw [if_neg e] at hu; cases hu
    refine ⟨g, cap, hv, h1, h2, (Array.getElem?_eq_some_iff.1 hh).1, hc, fun _ => ⟨g, 0, rfl, (Array.getElem?_eq_some_iff.1 hh).1, fun i hi => ?_⟩⟩
    obtain ⟨A, c, e1, e2⟩ := h.r.2 i hi
    exact ⟨A, c, by rw [Nat.zero_add]; exact hc i _ e1, e2.rd⟩
theorem own_lt {n : Nat} {xs : List Value} (h : w.ownsRow B ts 1 v n xs) {g : Nat} (hg : v.ownBlock = some g) : B ≤ g ∧ g < w.heap.size := by
  rcases h.2 with ⟨hv, _⟩ | ⟨g', cap, cur, hv, hb, hh, _⟩
  · subst hv; simp [Value.ownBlock] at hg
  · subst hv
    simp [Value.ownBlock] at hg
    subst hg
    exact ⟨hb, (Array.getElem?_eq_some_iff.1 hh).1⟩
/-- A new sorted list in memory of its own, with one row more. -/
theorem Qs.sorted {A : Option Addr} {c k n : Nat} {p : List Int} (h : Qs ts t B w vq vs queue srt qvals svals) (hb : Below w.heap.size w w') (hB : B ≤ w.heap.size) (hk : k ≤ srt.length) (hA : Obj1 t B w'.heap.size w' A p) (hn : n = (insL srt k p).length)
    (hown : w'.ownsRow w.heap.size ts 1 v' n (svals.take k ++ .slice A p.length c :: svals.drop k)) : Qs ts t B w' vq v' queue (insL srt k p) qvals (svals.take k ++ .slice A p.length c :: svals.drop k) := by
  have h2 := h.later hb
  refine ⟨h2.q, ?_, h2.r.ins hk hA, fun g hg e => ?_⟩
  · subst hn
    refine ⟨hown.1, ?_⟩
    rcases hown.2 with h3 | ⟨g, cap, cur, hv, hg, rest⟩
    · exact .inl h3
    · exact .inr ⟨g, cap, cur, hv, Nat.le_trans hB hg, rest⟩
  · have h3 := (own_lt h.q.own hg).2
    have h4 := (own_lt hown e).1
    omega
/-- The row is put at the end of the queue. -/
theorem Qs.queued {A : Option Addr} {c : Nat} {p : List Int} {tmp : Obj} (hne : ts ≠ t) (h : Qs ts t B w vq vs queue srt qvals svals) (hA : Obj1 t B w.heap.size w A p)
    (hdis : ∀ (i : Nat) (u : Value) (g : Nat), qvals[i]? = some u → u.ownBlock = some g → ∀ a, A = some a → a.block ≠ g)
    (hown : w1.ownsRow B ts 1 v' (queue.length + 1) (qvals ++ [.slice A p.length c])) (hg : (w.alloc tmp).grownBy w1 vq.ownBlock) (hat : v'.ownBlock = vq.ownBlock ∨ v'.ownBlock = some (w.alloc tmp).heap.size) :
    Qs ts t B w1 v' vs (queue ++ [p]) srt (qvals ++ [.slice A p.length c]) svals := by
  have hal : Below w.heap.size w (w.alloc tmp) := (Below.refl _ _).alloc (Nat.le_refl _) _
  have hk : KeepT t w w1 := (KeepT.of_below hal).trans (KeepT.of_grown hne (ownsRow_below h.q.own hal) hg)
  have hsz1 : w.heap.size ≤ w1.heap.size := Nat.le_trans hal.size hg.size
  have hvs : vs.ownBlock = none ∨ vs.ownBlock ≠ vq.ownBlock := by
    cases e : vs.ownBlock with
    | none => exact .inl rfl
    | some g => exact .inr (fun e2 => h.d g e2.symm e)
  refine ⟨h.q.push2 hne hA hdis hown hg, (ownsRow_below h.s hal).kept hg hvs, h.r.kept hk hsz1, fun g hg1 e => ?_⟩
  rcases hat with e2 | e2
  · exact h.d g (e2 ▸ hg1) e
  · rw [hg1] at e2
    injection e2 with e2
    have := (own_lt h.s e).2
    simp at e2
    omega
end
end Go.Proofs.Ytiaebilcgmahlaa
