import Derived.Test.YtgmloaemnbnbgaaZbg
import Derived.Test.YtgmloaemnbnbgaaZg
namespace Go.Proofs.Ytgmloaemnbnbgaa
open Go Go.RowKit
/-! What a loop over the iterator of the series holds, whose body only writes to boxes. -/
/-- Boxes of the function's own. -/
structure BxI (w : World) (D : Nat) (Bs : List (Nat × TypeId × List Value)) (L : Nat) (U : Nat → Prop) (W : World) : Prop where
  below : Below w.heap.size w W
  bx : ∀ p ∈ Bs, Blk W p.1 p.2.1 p.2.2 ∧ ¬ U p.1 ∧ p.1 ≠ L ∧ w.heap.size ≤ p.1 ∧ p.1 < D
section
variable {w W W' : World} {D L : Nat} {Bs : List (Nat × TypeId × List Value)} {U U' : Nat → Prop}
theorem BxI.step (h : BxI w D Bs L U W) (hL : w.heap.size ≤ L) (hs : StepL L W W') (hu : ∀ b, U' b → U b ∨ W.heap.size ≤ b) : BxI w D Bs L U' W' := by
  refine ⟨hs.below h.below h.below.size hL, fun p hp => ?_⟩
  obtain ⟨h1, h2, h3, h4⟩ := h.bx p hp
  have hl := h1.lt
  refine ⟨(hs.same _ hl h3).trans h1, fun h5 => ?_, h3, h4⟩
  rcases hu _ h5 with h6 | h6
  · exact h2 h6
  · omega
theorem BxI.put {b : Nat} (o' : Obj) (h : BxI w D Bs L U W) (hb : D ≤ b) (hw : w.heap.size ≤ D) : BxI w D Bs L U (W.putObj b o') := by
  refine ⟨h.below.grown (grownBy_putObj' W b o') h.below.size (fun k e => by cases e; omega), fun p hp => ?_⟩
  obtain ⟨h1, h2, h3, h4⟩ := h.bx p hp
  exact ⟨(World.putObj_heap_other (by omega)).trans h1, h2, h3, h4⟩
/-- Boxes have been written. -/
theorem BxI.next {Cs : List (Nat × TypeId × List Value)} {W1 : World} (h : BxI w D Bs L U W) (hs : W1.heap.size = W.heap.size) (ho : W1.os = W.os) (ht : W1.tape = W.tape) (hu : W1.output = W.output) (hsame : ∀ b, (∀ p ∈ Bs, b ≠ p.1) → W1.heap[b]? = W.heap[b]?)
    (hc : ∀ p ∈ Cs, Blk W1 p.1 p.2.1 p.2.2 ∧ ∃ p2 ∈ Bs, p2.1 = p.1) : KeepR D W W1 ∧ KeepU U W W1 ∧ BxI w D Cs L U W1 := by
  refine ⟨⟨by omega, fun b h2 h3 => hsame b fun p hp => by have := (h.bx p hp).2.2.2.2; omega⟩, ⟨by omega, fun b h2 h3 => hsame b fun p hp e => (h.bx p hp).2.1 (e ▸ h3)⟩, ⟨?_, fun p hp => ?_⟩⟩
  · exact h.below.trans ⟨ho, ht, hu, by omega, fun b hb => hsame b fun p hp => by have := (h.bx p hp).2.2.2.1; omega⟩
  · obtain ⟨h1, p2, h2, h3⟩ := hc p hp
    obtain ⟨_, h4, h5, h6⟩ := h.bx p2 h2
    rw [h3] at h4 h5 h6
    exact ⟨h1, h4, h5, h6⟩
end
def SlI (w : World) (D q b3 r4 r5 : Nat) (t ts : TypeId) (x : Int) (k L : Nat) (U : Nat → Prop) (W : World) : Prop :=
  BxI w D [(q, t, [.int .i64 (k : Int)]), (b3, t, [.int .i64 x]), (r4, ts, [.slice none 0 0]), (r5, t, [.int .i64 0])] L U W ∧ ∀ j : Nat, j < k → (j : Int) ≠ x
/-- The loop has been left with the labels. -/
def SlX (w : World) (D m r4 r5 : Nat) (t ts : TypeId) (f s : List (List Int)) (x : Int) (c : Code) (W : World) : Prop :=
  c = .ret ∧ ∃ g cl j, Below w.heap.size w W ∧ Blk W r4 ts [.slice (some ⟨g, 0, none⟩) m cl] ∧ Blk W r5 t [.int .i64 0] ∧ w.heap.size ≤ g ∧ OwnB t W g (sLb f s j) ∧ x = (j : Int) ∧ j ≤ serK f s ∧ r4 < D ∧ r5 < D ∧ w.heap.size ≤ D
theorem SlX.put {w W : World} {D m r4 r5 b : Nat} {t ts : TypeId} {f s : List (List Int)} {x : Int} {c : Code} {o : Obj} (o' : Obj) (h : SlX w D m r4 r5 t ts f s x c W) (hb : D ≤ b) (ho : W.heap[b]? = some o) (hc : o.isCells = false) : SlX w D m r4 r5 t ts f s x c (W.putObj b o') := by
  obtain ⟨h1, g, cl, j, h2, h3, h4, h5, h6, h7, h8, h9, h10, h11⟩ := h
  refine ⟨h1, g, cl, j, h2.grown (grownBy_putObj' W b o') h2.size (fun k e => by cases e; omega), (World.putObj_heap_other (by omega)).trans h3, (World.putObj_heap_other (by omega)).trans h4, h5, h6.of_block (World.putObj_heap_other fun e => ?_), h7, h8, h9, h10, h11⟩
  subst e
  obtain ⟨cur, hcur, _⟩ := h6
  rw [hcur] at ho
  injection ho with ho
  subst ho
  cases hc
theorem SlRes.hit {f s : List (List Int)} {x : Int} {zs : List Int} {code : Int} {j : Nat} (h : SlRes f s x zs code) (hg : NdS f s) (hx : x = (j : Int)) (hj : j ≤ serK f s) : zs = sLb f s j ∧ code = 0 := by
  subst hx
  rcases h with ⟨_, _, h1, h2⟩ | ⟨_, h1, _, _⟩ | ⟨h1, _, _⟩
  · exact ⟨h1, h2⟩
  · exact absurd ⟨by omega, by omega⟩ h1
  · exact absurd hg h1
theorem SlRes.miss {f s : List (List Int)} {x : Int} {zs : List Int} {code : Int} (h : SlRes f s x zs code) (hg : NdS f s) (hx : ∀ j : Nat, j < serK f s + 1 → (j : Int) ≠ x) : zs = [] ∧ code = 4 := by
  rcases h with ⟨_, h3, h1, h2⟩ | ⟨_, _, h1, h2⟩ | ⟨h1, _, _⟩
  · exact absurd (by omega) (hx x.toNat (by omega))
  · exact ⟨h1, h2⟩
  · exact absurd hg h1
theorem SlRes.bad {f s : List (List Int)} {x : Int} {zs : List Int} {code : Int} (h : SlRes f s x zs code) (hg : ¬ NdS f s) : zs = [] ∧ code = 1 := by
  rcases h with ⟨h1, _⟩ | ⟨h1, _⟩ | ⟨_, h1, h2⟩
  · exact absurd h1 hg
  · exact absurd h1 hg
  · exact ⟨h1, h2⟩
/-- A round that leaves the loop. -/
theorem slRet {w W Wf : World} {D q b3 r4 r5 L m g cl k : Nat} {U : Nat → Prop} {t ts : TypeId} {f s : List (List Int)} {A B : Option Addr} (h : BxI w D [(q, t, [.int .i64 (k : Int)]), (b3, t, [.int .i64 (k : Int)]), (r4, ts, [.slice none 0 0]), (r5, t, [.int .i64 0])] L U W) (hd : SerD f s t k A B g (fun b => U b ∧ b ≠ L) W) (hlo : w.heap.size ≤ g) (hk : k ≤ serK f s) (hwf : Wf = (W.setCell ⟨r4, 0, none⟩ (.slice (some ⟨g, 0, none⟩) m cl)).setCell ⟨r5, 0, none⟩ (.int .i64 0)) (hn : r4 ≠ r5) (hq4 : q ≠ r4) (hq5 : q ≠ r5) (hb4 : b3 ≠ r4) (hb5 : b3 ≠ r5) :
    KeepR D W Wf ∧ SlX w D m r4 r5 t ts f s (k : Int) .ret Wf := by
  have hx := h.bx
  simp only [List.forall_mem_cons] at hx
  obtain ⟨b1, b2, b34, b45, _⟩ := hx
  have e4 : Blk Wf r4 ts [.slice (some ⟨g, 0, none⟩) m cl] := by rw [hwf]; exact (b34.1.set 0 _).far hn _
  have e5 : Blk Wf r5 t [.int .i64 0] := by rw [hwf]; exact (b45.1.far hn.symm _).set 0 _
  have e1 : Blk Wf q t [.int .i64 (k : Int)] := by rw [hwf]; exact (b1.1.far hq4 _).far hq5 _
  have e3 : Blk Wf b3 t [.int .i64 (k : Int)] := by rw [hwf]; exact (b2.1.far hb4 _).far hb5 _
  obtain ⟨k1, k2, k3⟩ := h.next (W1 := Wf) (Cs := [(q, t, [.int .i64 (k : Int)]), (b3, t, [.int .i64 (k : Int)]), (r4, ts, [.slice (some ⟨g, 0, none⟩) m cl]), (r5, t, [.int .i64 0])]) (by rw [hwf]; simp [World.setCell]) (by rw [hwf]; rfl) (by rw [hwf]; rfl) (by rw [hwf]; rfl)
    (fun b hb => by rw [hwf]; exact (Below.heap_setCell _ ⟨r5, 0, none⟩ _ b (hb (r5, t, [.int .i64 0]) (by simp))).trans (Below.heap_setCell _ ⟨r4, 0, none⟩ _ b (hb (r4, ts, [.slice none 0 0]) (by simp))))
    (by simp only [List.forall_mem_cons]; exact ⟨⟨e1, _, List.mem_cons_self, rfl⟩, ⟨e3, (b3, t, [.int .i64 (k : Int)]), by simp, rfl⟩, ⟨e4, (r4, ts, [.slice none 0 0]), by simp, rfl⟩, ⟨e5, (r5, t, [.int .i64 0]), by simp, rfl⟩, fun p hp => absurd hp List.not_mem_nil⟩)
  exact ⟨k1, rfl, g, cl, k, k3.below, e4, e5, hlo, (hd Wf (k2.less fun b hb => .inl hb.1)).2.2, rfl, hk, b34.2.2.2.2, b45.2.2.2.2, by have := b34.2.2.2; omega⟩
/-- A round that goes on. -/
theorem slNext {w W Wf : World} {D q b3 r4 r5 L k : Nat} {U : Nat → Prop} {t ts : TypeId} {x : Int} (h : BxI w D [(q, t, [.int .i64 (k : Int)]), (b3, t, [.int .i64 x]), (r4, ts, [.slice none 0 0]), (r5, t, [.int .i64 0])] L U W) (hj : ∀ j : Nat, j < k → (j : Int) ≠ x) (hkx : (k : Int) ≠ x) (hwf : Wf = W.setCell ⟨q, 0, none⟩ (.int .i64 ((k : Int) + 1))) (hq4 : q ≠ r4) (hq5 : q ≠ r5) (hq3 : q ≠ b3) :
    KeepR D W Wf ∧ KeepU U W Wf ∧ SlI w D q b3 r4 r5 t ts x (k + 1) L U Wf := by
  have hx := h.bx
  simp only [List.forall_mem_cons] at hx
  obtain ⟨b1, b2, b34, b45, _⟩ := hx
  have e1 : Blk Wf q t [.int .i64 (((k + 1 : Nat) : Nat) : Int)] := by rw [hwf, Int.natCast_succ]; exact b1.1.set 0 _
  obtain ⟨k1, k2, k3⟩ := h.next (W1 := Wf) (Cs := [(q, t, [.int .i64 (((k + 1 : Nat) : Nat) : Int)]), (b3, t, [.int .i64 x]), (r4, ts, [.slice none 0 0]), (r5, t, [.int .i64 0])]) (by rw [hwf]; simp [World.setCell]) (by rw [hwf]; rfl) (by rw [hwf]; rfl) (by rw [hwf]; rfl)
    (fun b hb => by rw [hwf]; exact Below.heap_setCell _ ⟨q, 0, none⟩ _ b (hb (q, t, [.int .i64 (k : Int)]) (by simp)))
    (by simp only [List.forall_mem_cons]; rw [hwf] at e1 ⊢; exact ⟨⟨e1, _, List.mem_cons_self, rfl⟩, ⟨b2.1.far hq3.symm _, (b3, t, [.int .i64 x]), by simp, rfl⟩, ⟨b34.1.far hq4.symm _, (r4, ts, [.slice none 0 0]), by simp, rfl⟩, ⟨b45.1.far hq5.symm _, (r5, t, [.int .i64 0]), by simp, rfl⟩, fun p hp => absurd hp List.not_mem_nil⟩)
  refine ⟨k1, k2, k3, fun j hj2 => ?_⟩
  rcases Nat.lt_or_ge j k with h1 | h1
  · exact hj j h1
  · obtain rfl : j = k := by omega
    exact hkx
theorem slDone {w W wf : World} {D r4 r5 : Nat} {t ts : TypeId} {u v a b : Value} (o : Obj) (hwf : wf = (W.setCell ⟨r4, 0, none⟩ u).setCell ⟨r5, 0, none⟩ v) (h4 : Blk W r4 ts [a]) (h5 : Blk W r5 t [b]) (hb : Below w.heap.size w W) (h6 : w.heap.size ≤ r4) (h7 : w.heap.size ≤ r5) (hn : r4 ≠ r5) (hD : W.heap[D]? = some (.deferred (some []))) (h8 : r4 < D) (h9 : r5 < D) :
    wf.heap[D]? = some (.deferred (some [])) ∧ (wf.putObj D o).cell? ⟨r4, 0, none⟩ = some u ∧ (wf.putObj D o).cell? ⟨r5, 0, none⟩ = some v ∧ Below w.heap.size w (wf.putObj D o) := by
  have e4 : Blk wf r4 ts [u] := by rw [hwf]; exact (h4.set 0 u).far hn v
  have e5 : Blk wf r5 t [v] := by rw [hwf]; exact (h5.far hn.symm u).set 0 v
  have g4 : Blk (wf.putObj D o) r4 ts [u] := (World.putObj_heap_other (by omega)).trans e4
  have g5 : Blk (wf.putObj D o) r5 t [v] := (World.putObj_heap_other (by omega)).trans e5
  have hbf : Below w.heap.size w wf := by rw [hwf]; exact (hb.setCell (p := ⟨r4, 0, none⟩) h6 _).setCell (p := ⟨r5, 0, none⟩) h7 _
  refine ⟨?_, g4.cell 0 _ rfl, g5.cell 0 _ rfl, hbf.grown (grownBy_putObj' wf _ _) hbf.size (fun k e => by cases e; omega)⟩
  rw [hwf]
  exact (Below.heap_setCell _ ⟨r5, 0, none⟩ _ D (by show D ≠ r5; omega)).trans ((Below.heap_setCell _ ⟨r4, 0, none⟩ _ D (by show D ≠ r4; omega)).trans hD)
end Go.Proofs.Ytgmloaemnbnbgaa
