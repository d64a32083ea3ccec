import Derived.Test.YtljdfanebjhhmaaZl
namespace Go.Proofs.Ytljdfanebjhhmaa
open Go Go.RowKit

/-- The boxes of a call, the greatest at most top; and nothing below is changed. -/
structure FB (w wx : World) (top : Nat) (bs : List (Nat × TypeId × List Value)) : Prop where
  below : Below w.heap.size w wx
  blks : ∀ q, q ∈ bs → Blk wx q.1 q.2.1 q.2.2 ∧ q.1 ≤ top
  low : w.heap.size ≤ top
  sz : top < wx.heap.size

section
variable {w wx wy : World} {top : Nat} {bs : List (Nat × TypeId × List Value)}
theorem FB.of (hb : Below w.heap.size w wx) (hw : w.heap.size < wx.heap.size) (h : ∀ q, q ∈ bs → Blk wx q.1 q.2.1 q.2.2) : FB w wx (wx.heap.size - 1) bs :=
  ⟨hb, fun q hq => ⟨h q hq, by have := (h q hq).lt; omega⟩, by omega, by omega⟩
theorem FB.later (h : FB w wx top bs) (hb : Below wx.heap.size wx wy) : FB w wy top bs :=
  ⟨h.below.trans (hb.mono h.below.size), fun q hq => ⟨(h.blks q hq).1.later hb, (h.blks q hq).2⟩, h.low, Nat.lt_of_lt_of_le h.sz hb.size⟩
theorem FB.set (h : FB w wx top bs) {p : Addr} (hp : top < p.block) (v : Value) : FB w (wx.setCell p v) top bs :=
  ⟨h.below.setCell (Nat.le_trans h.low (Nat.le_of_lt hp)) v, fun q hq => ⟨(h.blks q hq).1.far (by have := (h.blks q hq).2; omega) v, (h.blks q hq).2⟩, h.low, by have := h.sz; simp [World.setCell]; omega⟩
theorem FB.push (h : FB w wx top bs) {L : Nat} {t : TypeId} {cs : List Value} (hb : Blk wx L t cs) (hL : top < L) : FB w wx L ((L, t, cs) :: bs) :=
  ⟨h.below, fun q hq => by
    rcases List.mem_cons.1 hq with rfl | hq
    · exact ⟨hb, Nat.le_refl _⟩
    · exact ⟨(h.blks q hq).1, by have := (h.blks q hq).2; omega⟩, by have := h.low; omega, hb.lt⟩
theorem FB.new (h : FB w wx top bs) (t : TypeId) (cs : List Value) : FB w (wx.alloc (.cells cs.toArray t)) wx.heap.size ((wx.heap.size, t, cs) :: bs) :=
  (h.later ((Below.refl _ _).alloc (Nat.le_refl _) _)).push (Blk.new _ _ _) h.sz
theorem FB.blk (h : FB w wx top bs) {b : Nat} {t : TypeId} {cs : List Value} (hm : (b, t, cs) ∈ bs) : Blk wx b t cs := (h.blks _ hm).1
theorem FB.le (h : FB w wx top bs) {b : Nat} {t : TypeId} {cs : List Value} (hm : (b, t, cs) ∈ bs) : b ≤ top := (h.blks _ hm).2
end
end Go.Proofs.Ytljdfanebjhhmaa
