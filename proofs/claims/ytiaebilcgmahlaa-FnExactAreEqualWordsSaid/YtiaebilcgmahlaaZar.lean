import Derived.Test.YtiaebilcgmahlaaZao
import Derived.Test.YtiaebilcgmahlaaZt
import Derived.Test.YtiaebilcgmahlaaZm
import Derived.Test.YtiaebilcgmahlaaZx
import Derived.Test.YtiaebilcgmahlaaZa
import Derived.Test.YtiaebilcgmahlaaZap
namespace Go.Proofs.Ytiaebilcgmahlaa
open Go Go.RowKit
set_option maxHeartbeats 2000000
theorem ivsInfo2 : (Try.prog.info? 25).map (fun i => (i.zero, i.size, i.bytes)) = some (some (.slice none 0 0), 1, 24) := by kernel_rfl

end Go.Proofs.Ytiaebilcgmahlaa
namespace Go.Proofs.Ytiaebilcgmahlaa
open Go Go.RowKit
/-! A list of rows that is shifted up in place. -/
/-- Of the older blocks only that of o is changed. -/
structure Chg (o : Nat) (w w' : World) : Prop where
  size : w.heap.size ≤ w'.heap.size
  block : ∀ k, k < w.heap.size → k ≠ o → w'.heap[k]? = w.heap[k]?
theorem Chg.refl (o : Nat) (w : World) : Chg o w w := ⟨Nat.le_refl _, fun _ _ _ => rfl⟩
theorem Chg.of_below {o : Nat} {w w' : World} (h : Below w.heap.size w w') : Chg o w w' := ⟨h.size, fun k hk _ => h.block k hk⟩
theorem Chg.trans {o : Nat} {a b c : World} (h : Chg o a b) (h2 : Chg o b c) : Chg o a c := ⟨Nat.le_trans h.size h2.size, fun k hk hne => (h2.block k (Nat.lt_of_lt_of_le hk h.size) hne).trans (h.block k hk hne)⟩
theorem Chg.store {o g i : Nat} {w w' : World} (h : Chg o w w') (hg : g = o ∨ w.heap.size ≤ g) (u : Value) : Chg o w (w'.setCell ⟨g, i, none⟩ u) :=
  ⟨by simpa [World.setCell] using h.size, fun k hk hne => (Below.heap_setCell w' ⟨g, i, none⟩ u k (by show k ≠ g; rcases hg with e | e <;> omega)).trans (h.block k hk hne)⟩
theorem Chg.grown {o : Nat} {w w1 w2 : World} {b : Option Nat} (h : Chg o w w1) (hg : w1.grownBy w2 b) (hb : b = some o ∨ b = none ∨ ∃ g, b = some g ∧ w.heap.size ≤ g) : Chg o w w2 :=
  ⟨Nat.le_trans h.size hg.size, fun k hk hne => (hg.block k (Nat.lt_of_lt_of_le hk h.size) (fun e => by
    rcases hb with e2 | e2 | ⟨g, e2, h2⟩
    · rw [e2] at e; injection e with e; exact hne e
    · rw [e2] at e; cases e
    · rw [e2] at e; injection e with e; omega)).trans (h.block k hk hne)⟩
theorem Chg.keepT {ts t : TypeId} {B o n : Nat} {w w' : World} {v : Value} {xs : List Value} (hne : ts ≠ t) (h : Chg o w w') (hv : v.ownBlock = some o) (hown : w.ownsRow B ts 1 v n xs) : KeepT t w w' := by
  intro k cur e
  refine (h.block k (Array.getElem?_eq_some_iff.1 e).1 (fun e2 => ?_)).trans e
  rcases hown.2 with ⟨h1, _⟩ | ⟨g, cap, cur2, h1, _, hh, _⟩
  · rw [h1] at hv; simp [Value.ownBlock] at hv
  · rw [h1] at hv
    simp [Value.ownBlock] at hv
    subst hv
    subst e2
    rw [hh] at e
    injection e with e
    injection e with _ e
    exact hne e
/-- A place of the row is written. -/
theorem own_set {ts : TypeId} {B n g cap i : Nat} {w : World} {xs : List Value} (h : w.ownsRow B ts 1 (.slice (some ⟨g, 0, none⟩) n cap) n xs) (u : Value) : (w.setCell ⟨g, i, none⟩ u).ownsRow B ts 1 (.slice (some ⟨g, 0, none⟩) n cap) n (xs.set i u) := by
  refine ⟨by simpa using h.1, ?_⟩
  rcases h.2 with ⟨h1, _⟩ | ⟨g', cap', cur, hv, hb, hh, h1, h2, h3, h4⟩
  · cases h1
  · injection hv with hv _ hc
    injection hv with hv
    injection hv with hv
    subst hv
    subst hc
    refine .inr ⟨g, cap, cur.set! i u, rfl, hb, ?_, h1, h2, by simpa using h3, ?_⟩
    · simp [World.setCell, Array.getElem?_modify, hh]
    · rw [← h4]
      simp [List.take_set]
theorem own_frozen {ts : TypeId} {B n g cap : Nat} {w : World} {xs : List Value} (h : w.ownsRow B ts 1 (.slice (some ⟨g, 0, none⟩) n cap) n xs) (i : Nat) : w.frozen? ⟨g, i, none⟩ = false := by
  rcases h.2 with ⟨h1, _⟩ | ⟨g', cap', cur, hv, hb, hh, _⟩
  · cases h1
  · injection hv with hv _ hc
    injection hv with hv
    injection hv with hv
    subst hv
    simp [World.frozen?, hh]
theorem own_cell {ts : TypeId} {B n g cap : Nat} {w : World} {xs : List Value} (h : w.ownsRow B ts 1 (.slice (some ⟨g, 0, none⟩) n cap) n xs) (i : Nat) (hi : i < n) : ∃ u, xs[i]? = some u ∧ w.cell? ⟨g, i, none⟩ = some u := by
  have hl : xs.length = n := by have := h.1; omega
  obtain ⟨g', c', hv, _, hc⟩ := own_look h (by omega)
  injection hv with hv _ _
  injection hv with hv
  injection hv with hv
  subst hv
  exact ⟨xs[i], List.getElem?_eq_getElem (by omega), hc i _ (List.getElem?_eq_getElem (by omega))⟩
/-- The places behind k hold what stood one place before. -/
structure Shf (vals : List Value) (m k : Nat) (xs : List Value) : Prop where
  len : xs.length = m + 1
  lo : ∀ i, i < k → xs[i]? = vals[i]?
  hi : ∀ i, k < i → i ≤ m → xs[i]? = vals[i - 1]?
theorem Shf.start {vals : List Value} {m : Nat} (h : vals.length = m) (u : Value) : Shf vals m m (vals ++ [u]) :=
  ⟨by simp [h], fun i hi => by rw [List.getElem?_append_left (by omega)], fun i h1 h2 => by omega⟩
theorem Shf.step {vals xs : List Value} {m k : Nat} (h : Shf vals m (k + 1) xs) (hk : k + 1 ≤ m) {u : Value} (hu : vals[k]? = some u) : Shf vals m k (xs.set (k + 1) u) :=
  ⟨by simpa using h.len, fun i hi => by rw [List.getElem?_set_ne (by omega)]; exact h.lo i (by omega), fun i h1 h2 => by
    by_cases e : i = k + 1
    · subst e
      rw [List.getElem?_set_self (by have := h.len; omega), show k + 1 - 1 = k by omega, hu]
    · rw [List.getElem?_set_ne (by omega)]; exact h.hi i (by omega) h2⟩
theorem Shf.fin {vals xs : List Value} {m k : Nat} (h : Shf vals m k xs) (hv : vals.length = m) (hk : k ≤ m) (u : Value) : xs.set k u = vals.take k ++ u :: vals.drop k := by
  apply List.ext_getElem?
  intro i
  rw [ins_at vals k u (by omega) i]
  by_cases h1 : i < k
  · rw [if_pos h1, List.getElem?_set_ne (by omega)]; exact h.lo i h1
  · rw [if_neg h1]
    by_cases e : i = k
    · subst e
      rw [if_pos rfl, List.getElem?_set_self (by have := h.len; omega)]
    · rw [if_neg e, List.getElem?_set_ne (by omega)]
      by_cases h2 : i ≤ m
      · exact h.hi i (by omega) h2
      · rw [List.getElem?_eq_none (by have := h.len; omega), List.getElem?_eq_none (by omega)]
end Go.Proofs.Ytiaebilcgmahlaa
