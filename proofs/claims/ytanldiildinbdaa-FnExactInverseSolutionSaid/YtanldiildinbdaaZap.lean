import Derived.Test.YtanldiildinbdaaZs
import Derived.Test.YtanldiildinbdaaZad
namespace Go.Proofs.Ytanldiildinbdaa
open Go Go.RowKit

theorem ex_gen {Q : Exit → Act → World → Prop} {e : Exit} {a : Act} {w : World} (h : ∀ wf, wf = w → Q e a wf) : Q e a w := h w rfl

/-- The boxes that a call has made, the last one being top; the list of pairs; and nothing below is changed. -/
structure FK (w wx : World) (g n top : Nat) (bs : List (Nat × TypeId × List Value)) : Prop where
  below : Below w.heap.size w wx
  pairs : PairsAt wx g n
  gtop : g ≤ top
  blks : ∀ q, q ∈ bs → Blk wx q.1 q.2.1 q.2.2 ∧ q.1 ≤ top
  low : w.heap.size ≤ top
  sz : top < wx.heap.size

section
variable {w wx wy : World} {g n top : Nat} {bs : List (Nat × TypeId × List Value)}
theorem FK.start {b1 b2 b3 : Nat} {t1 t2 t3 : TypeId} {c1 c2 c3 : List Value} (hb : Below w.heap.size w wx) (hp : PairsAt wx g n) (h1 : Blk wx b1 t1 c1) (h2 : Blk wx b2 t2 c2) (h3 : Blk wx b3 t3 c3) (hw : w.heap.size < wx.heap.size := by assumption) : FK w wx g n (wx.heap.size - 1) [(b3, t3, c3), (b2, t2, c2), (b1, t1, c1)] :=
  ⟨hb, hp, by have := hp.1; omega, fun q hq => by
    have l1 := h1.lt
    have l2 := h2.lt
    have l3 := h3.lt
    simp at hq
    rcases hq with rfl | rfl | rfl
    · exact ⟨h3, by show b3 ≤ _; omega⟩
    · exact ⟨h2, by show b2 ≤ _; omega⟩
    · exact ⟨h1, by show b1 ≤ _; omega⟩, by omega, by omega⟩
theorem FK.later (h : FK w wx g n top bs) (hb : Below wx.heap.size wx wy) : FK w wy g n top bs :=
  ⟨h.below.trans (hb.mono h.below.size), h.pairs.later hb, h.gtop, fun q hq => ⟨(h.blks q hq).1.later hb, (h.blks q hq).2⟩, h.low, Nat.lt_of_lt_of_le h.sz hb.size⟩
theorem FK.set (h : FK w wx g n top bs) {p : Addr} (hp : top < p.block) (v : Value) : FK w (wx.setCell p v) g n top bs :=
  ⟨h.below.setCell (Nat.le_trans h.low (Nat.le_of_lt hp)) v, h.pairs.touch (lo := p.block) (hi := p.block + 1) ⟨rfl, rfl, rfl, by simp [World.setCell], fun k _ hne => Below.heap_setCell wx p v k (by omega)⟩ (.inl (Nat.lt_of_le_of_lt h.gtop hp)), h.gtop, fun q hq => ⟨(h.blks q hq).1.far (by have := (h.blks q hq).2; omega) v, (h.blks q hq).2⟩, h.low, by have := h.sz; simp [World.setCell]; omega⟩
theorem FK.push (h : FK w wx g n top bs) {L : Nat} {t : TypeId} {cs : List Value} (hb : Blk wx L t cs) (hL : top < L) : FK w wx g n L ((L, t, cs) :: bs) :=
  ⟨h.below, h.pairs, by have := h.gtop; omega, fun q hq => by
    rcases List.mem_cons.1 hq with rfl | hq
    · exact ⟨hb, Nat.le_refl _⟩
    · exact ⟨(h.blks q hq).1, by have := (h.blks q hq).2; omega⟩, by have := h.low; omega, hb.lt⟩
theorem FK.new (h : FK w wx g n top bs) (t : TypeId) (cs : List Value) : FK w (wx.alloc (.cells cs.toArray t)) g n wx.heap.size ((wx.heap.size, t, cs) :: bs) :=
  (h.later ((Below.refl _ _).alloc (Nat.le_refl _) _)).push (Blk.new _ _ _) h.sz
theorem FK.blk (h : FK w wx g n top bs) {b : Nat} {t : TypeId} {cs : List Value} (hm : (b, t, cs) ∈ bs) : Blk wx b t cs := (h.blks _ hm).1
theorem FK.top' (h : FK w wx g n top bs) {b : Nat} {t : TypeId} {cs : List Value} (hm : (b, t, cs) ∈ bs) : b ≤ top := (h.blks _ hm).2
end
end Go.Proofs.Ytanldiildinbdaa
