import Derived.Test.YtiaebilcgmahlaaZax
import Derived.Test.YtiaebilcgmahlaaZs
import Derived.Test.YtiaebilcgmahlaaZah
namespace Go.Proofs.Ytiaebilcgmahlaa
open Go Go.RowKit
/-! A slice of tuples. -/
theorem tqInfo : (Try.prog.info? 65).map (fun i => (i.zero, i.size, i.bytes)) = some (some (.agg #[.int .i64 0, .int .i64 0, .int .i64 0, .int .i64 0, .int .i64 0, .int .i64 0, .int .i64 0, .int .i64 0, .int .i64 0, .int .i64 0, .int .i64 0, .int .i64 0]), 12, 96) := by kernel_rfl
theorem tq_mv {h1 h2 : Nat → Nat → Int} {xs : List Int} {k : Nat} (hk : k + 1 < xs.length) : ((pad12 xs).set k (h1 (elN xs k) (elN xs (k + 1)))).set (k + 1) (h2 (elN xs k) (elN xs (k + 1))) = pad12 (mvL h1 h2 xs k) := by
  unfold pad12
  rw [mvL_length]
  unfold mvL
  rw [List.set_append_left _ _ (by omega), List.set_append_left _ _ (by simp; omega)]
/-- The cells of a list of tuples. -/
def tcells (L : List (List Int)) : List Value := L.flatMap fun t => ints (pad12 t)
theorem tcells_snoc (L : List (List Int)) (t : List Int) : tcells (L ++ [t]) = tcells L ++ ints (pad12 t) := by simp [tcells]
theorem tcells_length {L : List (List Int)} (h : ∀ t, t ∈ L → t.length ≤ 12) : (tcells L).length = L.length * 12 := by
  induction L with
  | nil => rfl
  | cons a L ih =>
    have h1 := ih (fun t ht => h t (by simp [ht]))
    have h2 := pad12_length (h a (by simp))
    simp only [tcells, List.flatMap_cons, List.length_append, ints_length, h2, List.length_cons] at h1 ⊢
    omega
theorem tcells_at : ∀ {L : List (List Int)} (_ : ∀ t, t ∈ L → t.length ≤ 12) {i j : Nat} (_ : i < L.length) (_ : j < 12), (tcells L)[i * 12 + j]? = some (.int .i64 ((pad12 (L.getD i [])).getD j 0))
  | [], _, i, _, hi, _ => by simp at hi
  | a :: L, h, i, j, hi, hj => by
    have h2 := pad12_length (h a (by simp))
    have e : tcells (a :: L) = ints (pad12 a) ++ tcells L := by simp [tcells]
    rw [e]
    cases i with
    | zero =>
      rw [List.getElem?_append_left (by rw [ints_length]; omega)]
      have h3 : j < (pad12 a).length := by omega
      simp [ints, h3]
    | succ i =>
      rw [List.getElem?_append_right (by rw [ints_length]; omega), ints_length, h2, show (i + 1) * 12 + j - 12 = i * 12 + j by omega, tcells_at (fun t ht => h t (by simp [ht])) (by simpa using hi) hj]
      simp
/-- The length of a slice. -/
def lenV : Value → Nat
  | .slice _ n _ => n
  | _ => 0
/-- v is a slice of the tuples L, in memory of its own from B on. -/
def TupS (w : World) (B : Nat) (v : Value) (L : List (List Int)) : Prop := w.ownsRow B 65 12 v L.length (tcells L)
section
variable {w w' : World} {B : Nat} {v : Value} {L : List (List Int)}
theorem TupS.later (h : TupS w B v L) (hb : Below w.heap.size w w') : TupS w' B v L := by
  obtain ⟨hl, h⟩ := h
  refine ⟨hl, ?_⟩
  rcases h with h | ⟨g, cap, cur, hv, hb2, hh, rest⟩
  · exact .inl h
  · exact .inr ⟨g, cap, cur, hv, hb2, (hb.block g (Array.getElem?_eq_some_iff.1 hh).1).trans hh, rest⟩
theorem TupS.nil (h : TupS w B v []) : ∃ A c, v = .slice A 0 c := by
  rcases h.2 with ⟨hv, _⟩ | ⟨g, cap, cur, hv, _⟩
  · exact ⟨_, _, hv⟩
  · exact ⟨_, _, hv⟩
theorem TupS.len (h : TupS w B v L) : lenV v = L.length := by
  rcases h.2 with ⟨hv, h0⟩ | ⟨g, cap, cur, hv, _⟩
  · rw [hv, h0]; rfl
  · rw [hv]; rfl
theorem TupS.at (h : TupS w B v L) (hs : ∀ t, t ∈ L → t.length ≤ 12) {i : Nat} (hi : i < L.length) : ∃ g c, v = .slice (some ⟨g, 0, none⟩) L.length c ∧ L.length ≤ c ∧ c ≤ maxLen ∧ B ≤ g ∧ g < w.heap.size ∧ ∀ j, j < 12 → w.cell? ⟨g, i * 12 + j, none⟩ = some (.int .i64 ((pad12 (L.getD i [])).getD j 0)) := by
  rcases h.2 with ⟨_, h2⟩ | ⟨g, cap, cur, hv, hg, hh, h1, h2, h3, h4⟩
  · omega
  · refine ⟨g, cap, hv, h1, h2, hg, (Array.getElem?_eq_some_iff.1 hh).1, fun j hj => ?_⟩
    have h5 := tcells_at hs hi hj
    rw [← h4, List.getElem?_take, if_pos (by omega)] at h5
    rw [cell_of_row w g _ cur _ (0, 0) hh]
    simpa using h5
theorem TupS.front {t : List Int} (h : TupS w B v (L ++ [t])) (hs : ∀ t, t ∈ L → t.length ≤ 12) : ∃ g c, v = .slice (some ⟨g, 0, none⟩) (L.length + 1) c ∧ TupS w B (.slice (some ⟨g, 0, none⟩) L.length c) L := by
  obtain ⟨hl, h | ⟨g, cap, cur, hv, hb, hg, hn, hcap, hsz, hxs⟩⟩ := h
  · simp at h
  · rw [List.length_append] at hv hn hxs
    refine ⟨g, cap, hv, tcells_length hs, .inr ⟨g, cap, cur, rfl, hb, hg, by omega, hcap, hsz, ?_⟩⟩
    rw [tcells_snoc] at hxs
    have h5 := congrArg (List.take (L.length * 12)) hxs
    rw [List.take_take, Nat.min_eq_left (by simp; omega)] at h5
    rw [h5, List.take_left' (tcells_length hs)]
/-- It stays where a map is written. -/
theorem TupS.off {b : Nat} (h : TupS w B v L) (hm : IsMapB w b) (hg : w.grownBy w' (some b)) : TupS w' B v L := by
  obtain ⟨hl, h⟩ := h
  refine ⟨hl, ?_⟩
  rcases h with h | ⟨g, cap, cur, hv, hb, hh, rest⟩
  · exact .inl h
  · exact .inr ⟨g, cap, cur, hv, hb, off_cells hm hg hh, rest⟩
theorem MapN.isMap {K : TypeId} {w : World} {b n : Nat} {V : Value → Option Value} (h : MapN K w b n V) : IsMapB w b := by
  obtain ⟨es, clock, hb, _⟩ := h
  exact ⟨es, clock, hb⟩
/-- A map stays where a slice of tuples grows. -/
theorem MapN.offT {K : TypeId} {b n : Nat} {V : Value → Option Value} (h : MapN K w b n V) (hl : TupS w B v L) (hg : w.grownBy w' v.ownBlock) : MapN K w' b n V := by
  obtain ⟨es, clock, hb⟩ := h.isMap
  refine h.of_block (hg.block b h.lt (fun e => ?_))
  rcases hl.2 with ⟨hv, _⟩ | ⟨g, cap, cur, hv, _, hh, _⟩
  · subst hv; simp [Value.ownBlock] at e
  · subst hv
    simp [Value.ownBlock] at e
    subst e
    rw [hb] at hh
    cases hh
theorem off_cellsN {k : Nat} {cs : Array Value} {t : TypeId} {fr : Nat × Nat} {b : Nat} (hm : ∀ cs t fr, w.heap[b]? ≠ some (.cells cs t fr)) (hg : w.grownBy w' (some b)) (e : w.heap[k]? = some (.cells cs t fr)) : w'.heap[k]? = some (.cells cs t fr) := by
  rw [hg.block k (Array.getElem?_eq_some_iff.1 e).1 (fun e2 => by injection e2 with e2; subst e2; exact hm _ _ _ e)]
  exact e
theorem LstV.offN {ts t : TypeId} {rows : List (List Int)} {vals : List Value} {b : Nat} (h : LstV ts t B w v rows vals) (hm : ∀ cs t fr, w.heap[b]? ≠ some (.cells cs t fr)) (hg : w.grownBy w' (some b)) : LstV ts t B w' v rows vals := by
  refine ⟨?_, fun i hi => ?_, h.ne⟩
  · obtain ⟨h1, h2⟩ := h.own
    refine ⟨h1, ?_⟩
    rcases h2 with h2 | ⟨g, cap, cur, hv, hg', hh, r⟩
    · exact .inl h2
    · exact .inr ⟨g, cap, cur, hv, hg', off_cellsN hm hg hh, r⟩
  · obtain ⟨A, c, h1, h2⟩ := h.row i hi
    refine ⟨A, c, h1, ?_⟩
    rcases h2 with h2 | ⟨g, e, a, b', cur, hc, r⟩
    · exact .inl h2
    · exact .inr ⟨g, e, a, Nat.lt_of_lt_of_le b' hg.size, cur, off_cellsN hm hg hc, r⟩
theorem MetR.iterN {b r cnt : Nat} {found got : List (List Int)} (h : MetR w b r found got cnt) : ∀ cs t fr, w.heap[r]? ≠ some (.cells cs t fr) := by
  obtain ⟨D, left, ⟨es, clock, since, seen, c0, hb, F, hs, hD, hr, _⟩, _⟩ := h
  intro cs t fr e
  rw [hr] at e
  cases e
theorem MetR.mapN {b r cnt : Nat} {found got : List (List Int)} (h : MetR w b r found got cnt) : ∀ cs t fr, w.heap[b]? ≠ some (.cells cs t fr) := by
  obtain ⟨D, left, ⟨es, clock, since, seen, c0, hb, F, hs, hD, hr, _⟩, _⟩ := h
  intro cs t fr e
  rw [hb] at e
  cases e
/-- The way over a map goes on where a list of slices grows. -/
theorem MetR.off {ts : TypeId} {n : Nat} {vals : List Value} {b r cnt : Nat} {found got : List (List Int)} (h : MetR w b r found got cnt) (hl : w.ownsRow B ts 1 v n vals) (hg : w.grownBy w' v.ownBlock) : MetR w' b r found got cnt := by
  have hne : ∀ k, (∀ cs t fr, w.heap[k]? ≠ some (.cells cs t fr)) → some k ≠ v.ownBlock := by
    intro k hk e
    rcases hl.2 with ⟨hv, _⟩ | ⟨g, cap, cur, hv, _, hh, _⟩
    · subst hv; simp [Value.ownBlock] at e
    · subst hv
      simp [Value.ownBlock] at e
      subst e
      exact hk _ _ _ hh
  exact h.of_blocks (hg.block b h.ltb (hne _ h.mapN)) (hg.block r h.ltr (hne _ h.iterN))
theorem Blk.grown {b : Nat} {t : TypeId} {cs : List Value} {row : Option Nat} (h : Blk w b t cs) (hg : w.grownBy w' row) (hne : some b ≠ row) : Blk w' b t cs := (hg.block b h.lt hne).trans h
end
end Go.Proofs.Ytiaebilcgmahlaa
