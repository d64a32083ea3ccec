import Derived.Test.YtaejgmdeiemhcabZp
namespace Go.Proofs.Ytaejgmdeiemhcab
open Go Go.RowKit
section
variable {ts t : TypeId} {B g : Nat} {w w' : World} {v vq vs : Value} {rows queue srt : List (List Int)} {vals qvals svals nvals : List Value}
theorem own_chg {n : Nat} (h : w.ownsRow B ts 1 v n vals) (hc : Chg g w w') (hd : v.ownBlock ≠ some g) : w'.ownsRow B ts 1 v n vals := by
  refine ⟨h.1, ?_⟩
  rcases h.2 with h1 | ⟨g0, cap, cur, hv, hb, hh, rest⟩
  · exact .inl h1
  · refine .inr ⟨g0, cap, cur, hv, hb, ?_, rest⟩
    rw [hc.block g0 (Array.getElem?_eq_some_iff.1 hh).1 (fun e => hd (by rw [hv, ← e]; rfl))]
    exact hh
/-- A row is put into the sorted list. -/
theorem Qs.put {A : Option Addr} {c k n m cap g' cap' : Nat} {p : List Int} (hne : ts ≠ t) (h : Qs ts t B w vq (.slice (some ⟨g, 0, none⟩) m cap) queue srt qvals svals) (hc : Chg g w w') (hk : k ≤ srt.length) (hA : Obj1 t B w.heap.size w A p) (hg : g' = g ∨ w.heap.size ≤ g')
    (hn : n = (insL srt k p).length) (hown : w'.ownsRow B ts 1 (.slice (some ⟨g', 0, none⟩) n cap') n (svals.take k ++ .slice A p.length c :: svals.drop k)) : Qs ts t B w' vq (.slice (some ⟨g', 0, none⟩) n cap') queue (insL srt k p) qvals (svals.take k ++ .slice A p.length c :: svals.drop k) := by
  have hkt : KeepT t w w' := hc.keepT hne rfl h.s
  have hdq : vq.ownBlock ≠ some g := fun e => h.d g e rfl
  refine ⟨⟨own_chg h.q.own hc hdq, fun i hi => ?_, h.q.ne⟩, by rw [← hn]; exact hown, (h.r.kept hkt hc.size).ins hk ((hkt.obj hA).mono (Nat.le_refl _) hc.size), fun g0 hg0 e => ?_⟩
  · obtain ⟨A', c', h1, h2⟩ := h.q.row i hi
    exact ⟨A', c', h1, (hkt.obj h2).mono (Nat.le_refl _) hc.size⟩
  · simp [Value.ownBlock] at e
    subst e
    rcases hg with e | e
    · subst e; exact h.d _ hg0 rfl
    · have := (own_lt h.q.own hg0).2; omega
/-- Two lists of one row each. -/
theorem Qs.start2 {A A2 : Option Addr} {c c2 : Nat} {r : List Int} (hB : B ≤ w.heap.size) (hb : Below w.heap.size w w') (hs : g = w'.heap.size) (hq : LstV ts t B w' vq [r] [.slice A r.length c]) (hvq : ∀ g0, vq.ownBlock = some g0 → g0 < w'.heap.size) (hr2 : Obj1 t B w'.heap.size w' A2 r) :
    Qs ts t B (w'.alloc (.cells #[.slice A2 r.length c2] ts)) vq (.slice (some ⟨g, 0, none⟩) 1 1) [r] [r] [.slice A r.length c] [.slice A2 r.length c2] := by
  have h2 : Below w'.heap.size w' (w'.alloc (.cells #[.slice A2 r.length c2] ts)) := (Below.refl _ _).alloc (Nat.le_refl _) _
  subst hs
  refine ⟨hq.later h2, ⟨rfl, .inr ⟨w'.heap.size, 1, #[.slice A2 r.length c2], rfl, Nat.le_trans hB hb.size, heap_alloc_new _ _, Nat.le_refl _, by unfold maxLen; omega, by simp, by simp⟩⟩, ⟨rfl, fun i hi => ?_⟩, fun g0 hg0 e => ?_⟩
  · simp at hi
    subst hi
    exact ⟨A2, c2, rfl, (hr2.later h2).mono (Nat.le_refl _) h2.size⟩
  · simp [Value.ownBlock] at e
    have := hvq g0 hg0
    omega
end
end Go.Proofs.Ytaejgmdeiemhcab
