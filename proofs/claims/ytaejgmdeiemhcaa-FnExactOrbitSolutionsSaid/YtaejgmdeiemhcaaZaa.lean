import Derived.Test.YtaejgmdeiemhcaaZg
namespace Go.Proofs.Ytaejgmdeiemhcaa
open Go Go.RowKit
section
variable {ts t : TypeId} {B : Nat} {w w' : World} {v : Value} {rows : List (List Int)} {vals : List Value}
theorem KeepT.rd {A : Option Addr} {lo hi : Nat} {xs : List Int} (h : KeepT t w w') (o : Obj1 t lo hi w A xs) : Rd w' A xs := (h.obj o).rd
/-- The rows of a list in own memory, all as cells. -/
theorem Obj2.look {lo hi : Nat} {A : Option Addr} (h : Obj2 ts t lo hi w A rows) (h0 : 0 < rows.length) : ∃ (g : Nat) (vs : List Value), A = some ⟨g, 0, none⟩ ∧ g < w.heap.size ∧ vs.length = rows.length ∧ (∀ i u, vs[i]? = some u → w.cell? ⟨g, i, none⟩ = some u) ∧ (∀ u ∈ vs, u.oneCell' = true) ∧ ∀ i, i < rows.length → ∃ A c, vs[i]? = some (.slice A (rows.getD i []).length c) ∧ Obj1 t lo hi w A (rows.getD i []) := by
  rcases h with ⟨_, rfl⟩ | ⟨g, R, C, rfl, h1, h2, ⟨cur, h3, h4⟩, h5, _⟩
  · simp at h0
  · refine ⟨g, (List.range rows.length).map (fun i => .slice (R i) (rows.getD i []).length (C i)), rfl, (Array.getElem?_eq_some_iff.1 h3).1, by simp, fun i u hu => ?_, fun u hu => ?_, fun i hi => ⟨R i, C i, by simp [hi], h5 i hi⟩⟩
    · have hi : i < rows.length := by
        have := (List.getElem?_eq_some_iff.1 hu).1
        simpa using this
      have e : u = .slice (R i) (rows.getD i []).length (C i) := by
        simp [hi] at hu
        simp [← hu, hi]
      rw [e, cell_of_row w g i cur ts (0, 0) h3]
      exact h4 i hi
    · obtain ⟨i, _, rfl⟩ := List.mem_map.1 hu
      rfl
/-- What an append of all rows of another list leaves to read. -/
theorem LstV.cat {w1 : World} {v' : Value} {rows2 : List (List Int)} {vals2 : List Value} {lo hi n : Nat} {tmp : Obj} (hne : ts ≠ t) (h : LstV ts t B w v rows vals) (_hlen : vals2.length = rows2.length)
    (h2 : ∀ i, i < rows2.length → ∃ A c, vals2[i]? = some (.slice A (rows2.getD i []).length c) ∧ Obj1 t lo hi w A (rows2.getD i []))
    (hn : n = (rows ++ rows2).length) (h0 : 0 < n) (hown : w1.ownsRow B ts 1 v' n (vals ++ vals2)) (hg : w.grownBy w1 v.ownBlock ∨ (w.alloc tmp).grownBy w1 v.ownBlock) :
    ∃ A c, v' = .slice A n c ∧ Rd2 w1 A (rows ++ rows2) := by
  have hl := ownsRow_len h.own
  have hk : KeepT t w w1 := by
    rcases hg with hg | hg
    · exact KeepT.of_grown hne h.own hg
    · have hal : Below w.heap.size w (w.alloc tmp) := (Below.refl _ _).alloc (Nat.le_refl _) _
      exact (KeepT.of_below hal).trans (KeepT.of_grown hne (ownsRow_below h.own hal) hg)
  subst hn
  rcases hown.2 with ⟨hv, hz⟩ | ⟨g, cap, cur, hv, hgB, hh, h1, h3, h4, h5⟩
  · omega
  · refine ⟨_, _, hv, fun _ => ⟨g, 0, rfl, (Array.getElem?_eq_some_iff.1 hh).1, fun i hi => ?_⟩⟩
    have key : ∃ A c, (vals ++ vals2)[i]? = some (.slice A ((rows ++ rows2).getD i []).length c) ∧ Rd w1 A ((rows ++ rows2).getD i []) := by
      by_cases e : i < rows.length
      · obtain ⟨A, c, e1, e2⟩ := h.row i e
        have e3 : (rows ++ rows2).getD i [] = rows.getD i [] := by simp [List.getElem?_append_left e]
        rw [e3]
        exact ⟨A, c, by rw [List.getElem?_append_left (by omega)]; exact e1, hk.rd e2⟩
      · have hi2 : i - rows.length < rows2.length := by simp at hi; omega
        obtain ⟨A, c, e1, e2⟩ := h2 (i - rows.length) hi2
        have e3 : (rows ++ rows2).getD i [] = rows2.getD (i - rows.length) [] := by simp [List.getElem?_append_right (by omega : rows.length ≤ i)]
        rw [e3]
        exact ⟨A, c, by rw [List.getElem?_append_right (by omega), hl]; exact e1, hk.rd e2⟩
    obtain ⟨A, c, e1, e2⟩ := key
    refine ⟨A, c, ?_, e2⟩
    rw [Nat.zero_add, cell_of_row w1 g i cur ts (0, 0) hh]
    have h6 := e1
    rw [← h5, List.getElem?_take, if_pos (by omega)] at h6
    simpa using h6
end
end Go.Proofs.Ytaejgmdeiemhcaa
namespace Go.Proofs.Ytaejgmdeiemhcaa
open Go Go.RowKit

/-- The boxes of a call, the greatest at most top; and nothing below is changed. -/
structure FB (w wx : World) (top : Nat) (bs : List (Nat × TypeId × List Value)) : Prop where
  below : Below w.heap.size w wx
  blks : ∀ q, q ∈ bs → Blk wx q.1 q.2.1 q.2.2 ∧ q.1 ≤ top
  low : w.heap.size ≤ top
  sz : top < wx.heap.size

section
variable {w wx wy : World} {top : Nat} {bs : List (Nat × TypeId × List Value)}
theorem FB.of (hb : Below w.heap.size w wx) (hw : w.heap.size < wx.heap.size) (h : ∀ q, q ∈ bs → Blk wx q.1 q.2.1 q.2.2) : FB w wx (wx.heap.size - 1) bs :=
  ⟨hb, fun q hq => ⟨h q hq, by have := (h q hq).lt; omega⟩, by omega, by omega⟩
theorem FB.later (h : FB w wx top bs) (hb : Below wx.heap.size wx wy) : FB w wy top bs :=
  ⟨h.below.trans (hb.mono h.below.size), fun q hq => ⟨(h.blks q hq).1.later hb, (h.blks q hq).2⟩, h.low, Nat.lt_of_lt_of_le h.sz hb.size⟩
theorem FB.set (h : FB w wx top bs) {p : Addr} (hp : top < p.block) (v : Value) : FB w (wx.setCell p v) top bs :=
  ⟨h.below.setCell (Nat.le_trans h.low (Nat.le_of_lt hp)) v, fun q hq => ⟨(h.blks q hq).1.far (by have := (h.blks q hq).2; omega) v, (h.blks q hq).2⟩, h.low, by have := h.sz; simp [World.setCell]; omega⟩
theorem FB.push (h : FB w wx top bs) {L : Nat} {t : TypeId} {cs : List Value} (hb : Blk wx L t cs) (hL : top < L) : FB w wx L ((L, t, cs) :: bs) :=
  ⟨h.below, fun q hq => by
    rcases List.mem_cons.1 hq with rfl | hq
    · exact ⟨hb, Nat.le_refl _⟩
    · exact ⟨(h.blks q hq).1, by have := (h.blks q hq).2; omega⟩, by have := h.low; omega, hb.lt⟩
theorem FB.new (h : FB w wx top bs) (t : TypeId) (cs : List Value) : FB w (wx.alloc (.cells cs.toArray t)) wx.heap.size ((wx.heap.size, t, cs) :: bs) :=
  (h.later ((Below.refl _ _).alloc (Nat.le_refl _) _)).push (Blk.new _ _ _) h.sz
theorem FB.blk (h : FB w wx top bs) {b : Nat} {t : TypeId} {cs : List Value} (hm : (b, t, cs) ∈ bs) : Blk wx b t cs := (h.blks _ hm).1
theorem FB.le (h : FB w wx top bs) {b : Nat} {t : TypeId} {cs : List Value} (hm : (b, t, cs) ∈ bs) : b ≤ top := (h.blks _ hm).2
end
end Go.Proofs.Ytaejgmdeiemhcaa
