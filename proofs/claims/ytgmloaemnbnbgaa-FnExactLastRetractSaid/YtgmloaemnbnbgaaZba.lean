import Derived.Test.YtgmloaemnbnbgaaZaz
import Derived.Test.YtgmloaemnbnbgaaZav
import Derived.Test.YtgmloaemnbnbgaaZe
import Derived.Test.YtgmloaemnbnbgaaZg
import Derived.Test.YtgmloaemnbnbgaaZd
import Derived.Test.YtgmloaemnbnbgaaZay
namespace Go.Proofs.Ytgmloaemnbnbgaa
open Go Go.RowKit
/-! What the iterator of the series keeps, and what it tells. -/
theorem Rd.same {w W : World} {A : Option Addr} {xs : List Int} (h : Rd w A xs) (hs : w.heap.size ≤ W.heap.size) (he : ∀ b, b < w.heap.size → W.heap[b]? = w.heap[b]?) : Rd W A xs := by
  intro h0
  obtain ⟨b, o, rfl, hb, hc⟩ := h h0
  exact ⟨b, o, rfl, by omega, fun i hi => (World.cell?_of_block (a := ⟨b, o + i, none⟩) (he b hb)).trans (hc i hi)⟩
theorem Rd2.same {w W : World} {A : Option Addr} {rows : List (List Int)} (h : Rd2 w A rows) (hs : w.heap.size ≤ W.heap.size) (he : ∀ b, b < w.heap.size → W.heap[b]? = w.heap[b]?) : Rd2 W A rows := by
  intro h0
  obtain ⟨b, o, rfl, hb, hc⟩ := h h0
  refine ⟨b, o, rfl, by omega, fun i hi => ?_⟩
  obtain ⟨Ai, ci, h1, h2⟩ := hc i hi
  exact ⟨Ai, ci, (World.cell?_of_block (a := ⟨b, o + i, none⟩) (he b hb)).trans h1, h2.same hs he⟩
theorem Obj2.like {ts t : TypeId} {lo hi : Nat} {w w' : World} {A : Option Addr} {rows : List (List Int)} (h : Obj2 ts t lo hi w A rows) (hs : ∀ k, lo ≤ k → k < hi → w'.heap[k]? = w.heap[k]?) : Obj2 ts t lo hi w' A rows := by
  rcases h with h | ⟨g, R, C, e, a, b, ⟨cur, c1, c2⟩, d, f⟩
  · exact .inl h
  · refine .inr ⟨g, R, C, e, a, b, ⟨cur, (hs g a b).trans c1, c2⟩, fun i hi' => ?_, f⟩
    rcases d i hi' with h | ⟨g2, h1, h2, h3, h4⟩
    · exact .inl h
    · exact .inr ⟨g2, h1, h2, h3, h4.of_block (hs g2 h2 h3)⟩
theorem unit_same (n : Nat) : unitL n = unitN n := by
  unfold unitL unitN
  rfl
section
variable (f s : List (List Int)) (t : TypeId) (lo : Nat)
/-- The solution with index k, and the elements to which those of the first one belong, can be read in each world that keeps the blocks of V. -/
def SerD (k : Nat) (A B : Option Addr) (g : Nat) (V : Nat → Prop) (W : World) : Prop :=
  ∀ W2, KeepU V W W2 → Rd2 W2 A (ser f s k).1 ∧ Rd2 W2 B (ser f s k).2 ∧ OwnB t W2 g (sLb f s k)
/-- What a round is told. -/
def SerT (k L : Nat) (v : Array Value) (U : Nat → Prop) (W : World) : Prop :=
  ∃ A c B d g cl, v = #[.agg #[.slice A (siz f s k) c, .slice B (siz f s k) d], .slice (some ⟨g, 0, none⟩) f.length cl] ∧ lo ≤ g ∧ SerD f s t k A B g (fun b => U b ∧ b ≠ L) W ∧ L < W.heap.size ∧ ∀ b, U b → b < W.heap.size
/-- The blocks that are the iterator's own between rounds. -/
def serU (U0 : Nat → Prop) (L m1 m2 : Nat) : Nat → Prop := fun b => U0 b ∨ b = L ∨ (m1 ≤ b ∧ b < m2)
variable {f s t lo} {k L : Nat} {U V : Nat → Prop} {W W' : World} {v : Array Value} {A B : Option Addr} {g : Nat}
theorem SerD.later (h : SerD f s t k A B g V W) (hk : KeepU V W W') : SerD f s t k A B g V W' := fun W2 h2 => h W2 (hk.trans h2)
theorem SerD.now (h : SerD f s t k A B g V W) : Rd2 W A (ser f s k).1 ∧ Rd2 W B (ser f s k).2 ∧ OwnB t W g (sLb f s k) := h W (KeepU.refl _ _)
theorem SerT.later (h : SerT f s t lo k L v U W) (hk : KeepU U W W') : SerT f s t lo k L v U W' := by
  obtain ⟨A, c, B, d, g, cl, e, h1, h2, h3, h4⟩ := h
  have hs := hk.1
  exact ⟨A, c, B, d, g, cl, e, h1, h2.later (hk.less fun b hb => .inl hb.1), by omega, fun b hb => by have := h4 b hb; omega⟩
theorem SerT.size (h : SerT f s t lo k L v U W) : v.size = 2 := by
  obtain ⟨A, c, B, d, g, cl, e, _⟩ := h
  rw [e]; rfl
end
theorem ser_arg {f s : List (List Int)} {k : Nat} {W : World} {A B : Option Addr} (hg : NdS f s) (h1 : Rd2 W A (ser f s k).1) (h2 : Rd2 W B (ser f s k).2) : ZArg 1048576 W A (siz f s k) (ser f s k).1 B (siz f s k) (ser f s k).2 := by
  have hn := ser_nds hg k
  have a1 := (hn.sizes rfl).2.1
  have a2 := (hn.sizes rfl).2.2
  have e : siz f s k = (ser f s k).1.length := rfl
  exact ⟨⟨rfl, by omega, fun i hi => by rw [hn.map.1.rows i hi]; omega, by omega, by omega, fun i hi => by rw [hn.map.2.1.rows i hi]; omega⟩, h1, h2⟩
end Go.Proofs.Ytgmloaemnbnbgaa
