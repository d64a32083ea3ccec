import Derived.Test.YtgmloaemnbnbgaaZba
import Derived.Test.YtgmloaemnbnbgaaZg
import Derived.RangeFuncLeaves
namespace Go.Proofs.Ytgmloaemnbnbgaa
open Go Go.RowKit
/-! The last solution of the series: what a loop over the iterator holds. -/
theorem ap_grid {f : List (List Int)} (h : Tbl f) {n : Nat} (hn : f.length = n) : grid n (fun x y => ((ap f x y : Nat) : Int)) = f := by
  subst hn
  refine List.ext_getElem (grid_length _ _) fun a h1 h2 => ?_
  have hr := h.2.2 a h2
  have e0 : f.getD a [] = f[a] := by simp [h2]
  rw [e0] at hr
  have e1 : (grid f.length (fun x y => ((ap f x y : Nat) : Int)))[a] = (List.range f.length).map fun (b : Nat) => ((ap f a b : Nat) : Int) := by simp [grid]
  rw [e1]
  refine List.ext_getElem (by simp [hr.1]) fun b h3 h4 => ?_
  have hb : b < f.length := by rw [← hr.1]; exact h4
  have e2 : f[a].getD b 0 = f[a][b] := by simp [h4]
  have h5 := (hr.2 b hb).1
  rw [e2] at h5
  simp only [List.getElem_map, List.getElem_range]
  unfold ap
  rw [e0, e2]
  omega
theorem siz_fst8 (f s : List (List Int)) (k : Nat) : siz f s k = (ser f s k).1.length := rfl
/-- The blocks but L, q and the loop's own. -/
def laV (L q D : Nat) : Nat → Prop := fun b => b ≠ L ∧ b ≠ q ∧ (b < D ∨ D + 2 ≤ b)
structure LaI (w : World) (D q r : Nat) (t tz : TypeId) (f s : List (List Int)) (k L : Nat) (U : Nat → Prop) (W : World) : Prop where
  below : Below w.heap.size w W
  ex : ∃ A B c d, Blk W q tz [.slice A (siz f s (k - 1)) c, .slice B (siz f s (k - 1)) d] ∧ (k = 0 ∨ ∃ g, SerD f s t (k - 1) A B g (laV L q D) W)
  nU : ¬ U q
  nL : q ≠ L
  rb : Blk W r tz [.slice none 0 0, .slice none 0 0]
  rL : r ≠ L
section
variable {w W W' : World} {D q r : Nat} {t tz : TypeId} {f s : List (List Int)} {k L : Nat} {U U' : Nat → Prop}
theorem LaI.step (h : LaI w D q r t tz f s k L U W) (hL : w.heap.size ≤ L) (hs : StepL L W W') (hu : ∀ b, U' b → U b ∨ W.heap.size ≤ b) : LaI w D q r t tz f s k L U' W' := by
  obtain ⟨A, B, c, d, h1, h2⟩ := h.ex
  have hlt := h1.lt
  refine ⟨hs.below h.below h.below.size hL, ⟨A, B, c, d, (hs.same _ hlt h.nL).trans h1, h2.imp id fun ⟨g, h3⟩ => ⟨g, h3.later ⟨hs.size, fun b hb hv => hs.same b hb hv.1⟩⟩⟩, fun h4 => ?_, h.nL, (hs.same _ h.rb.lt h.rL).trans h.rb, h.rL⟩
  rcases hu _ h4 with h5 | h5
  · exact h.nU h5
  · omega
theorem LaI.put {b : Nat} (o' : Obj) (h : LaI w D q r t tz f s k L U W) (hb : D ≤ b) (hb2 : b < D + 2) (hw : w.heap.size ≤ D) (hq : q < D) (hr : r < D) : LaI w D q r t tz f s k L U (W.putObj b o') := by
  obtain ⟨A, B, c, d, h1, h2⟩ := h.ex
  refine ⟨h.below.grown (grownBy_putObj' W b o') h.below.size (fun k e => by cases e; omega), ⟨A, B, c, d, (World.putObj_heap_other (by omega)).trans h1, h2.imp id fun ⟨g, h3⟩ => ⟨g, h3.later (KeepU.put _ fun hv => by have := hv.2.2; omega)⟩⟩, h.nU, h.nL, (World.putObj_heap_other (by omega)).trans h.rb, h.rL⟩
/-- A round has put its solution into the box. -/
theorem LaI.next {A B : Option Addr} {c d g : Nat} {W1 Wf : World} (h : LaI w D q r t tz f s k L U W) (hq : w.heap.size ≤ q) (hqD : q < D) (hrq : r ≠ q) (hD : D + 2 ≤ W.heap.size) (hU : ∀ b, U b → b < D ∨ D + 2 ≤ b) (hd : SerD f s t k A B g (fun b => U b ∧ b ≠ L) W) (hb : Below W.heap.size W W1)
    (hf : Wf = (W1.setCell ⟨q, 0, none⟩ (.slice A (siz f s k) c)).setCell ⟨q, 1, none⟩ (.slice B (siz f s k) d)) : KeepR D W Wf ∧ KeepU U W Wf ∧ LaI w D q r t tz f s (k + 1) L U Wf := by
  obtain ⟨A0, B0, c0, d0, h1, _⟩ := h.ex
  have hsz : Wf.heap.size = W1.heap.size := by rw [hf]; simp [World.setCell]
  have hs1 := hb.size
  have hsame : ∀ b, b < W.heap.size → b ≠ q → Wf.heap[b]? = W.heap[b]? := fun b h2 h3 => by
    rw [hf]
    exact (Below.heap_setCell _ ⟨q, 1, none⟩ _ b h3).trans ((Below.heap_setCell _ ⟨q, 0, none⟩ _ b h3).trans (hb.block b h2))
  have hkU : KeepU U W Wf := ⟨by omega, fun b h2 h3 => hsame b h2 fun e => h.nU (e ▸ h3)⟩
  refine ⟨⟨by omega, fun b h2 h3 => hsame b (by omega) (by omega)⟩, hkU, ?_, ⟨A, B, c, d, ?_, .inr ⟨g, ?_⟩⟩, h.nU, h.nL, (hsame r h.rb.lt hrq).trans h.rb, h.rL⟩
  · rw [hf]
    exact Below.setCell (Below.setCell (h.below.trans (hb.mono h.below.size)) (p := ⟨q, 0, none⟩) hq _) (p := ⟨q, 1, none⟩) hq _
  · rw [hf]
    have h2 := h1.later hb
    exact (h2.set 0 _).set 1 _
  · intro W2 h2
    refine (hd.later (hkU.less fun b hb => .inl hb.1)) W2 (h2.less fun b hb => .inl ⟨hb.2, fun e => h.nU (e ▸ hb.1), hU b hb.1⟩)
end
theorem Obj2.likeZ {ts t : TypeId} {lo hi : Nat} {w w' : World} {A B : Option Addr} {f s : List (List Int)} (h : ObjZ ts t lo hi w A f B s) (hs : ∀ k, lo ≤ k → k < hi → w'.heap[k]? = w.heap[k]?) : ObjZ ts t lo hi w' A f B s := by
  obtain ⟨mid, h1, h2, h3, h4⟩ := h
  exact ⟨mid, h1, h2, h3.like fun k a b => hs k a (by omega), h4.like fun k a b => hs k (by omega) b⟩
theorem zendM {ts t tz : TypeId} {w w2 w3 wf : World} {r D : Nat} {o : Obj} {A B : Option Addr} {n c m d : Nat} {f s : List (List Int)} {u v : Value} (hwf : wf = (w3.setCell ⟨r, 0, none⟩ (.slice A n c)).setCell ⟨r, 1, none⟩ (.slice B m d)) (hr : Blk w3 r tz [u, v]) (hr0 : w.heap.size ≤ r) (hr2 : r < w2.heap.size) (hb : Below w.heap.size w w3) (h2 : w.heap.size ≤ w2.heap.size) (ho : ObjZ ts t w2.heap.size w3.heap.size w3 A f B s)
    (hq : Below w2.heap.size w2 w3) (hD : w2.heap[D]? = some (.deferred (some []))) (hD0 : w.heap.size ≤ D) (hrD : r ≠ D) :
    wf.heap[D]? = some (.deferred (some [])) ∧ (wf.putObj D o).cell? ⟨r, 0, none⟩ = some (.slice A n c) ∧ (wf.putObj D o).cell? ⟨r, 1, none⟩ = some (.slice B m d) ∧ Below w.heap.size w (wf.putObj D o) ∧ ObjZ ts t w.heap.size (wf.putObj D o).heap.size (wf.putObj D o) A f B s := by
  have hD2 := (Array.getElem?_eq_some_iff.1 hD).1
  have hR : Blk wf r tz [.slice A n c, .slice B m d] := by rw [hwf]; exact (hr.set 0 _).set 1 _
  have hR2 : Blk (wf.putObj D o) r tz [.slice A n c, .slice B m d] := (World.putObj_heap_other hrD).trans hR
  have hbf : Below w.heap.size w wf := by rw [hwf]; exact (hb.setCell (p := ⟨r, 0, none⟩) hr0 _).setCell (p := ⟨r, 1, none⟩) hr0 _
  have hof : ObjZ ts t w2.heap.size wf.heap.size wf A f B s := by rw [hwf]; exact ((ho.set (p := ⟨r, 0, none⟩) (.inl hr2) _).set (p := ⟨r, 1, none⟩) (.inl hr2) _).mono (Nat.le_refl _) (by simp [World.setCell])
  refine ⟨?_, hR2.cell 0 _ rfl, hR2.cell 1 _ rfl, hbf.grown (grownBy_putObj' wf _ _) hbf.size (fun k e => by cases e; exact hD0), (Obj2.likeZ hof fun k h3 h4 => World.putObj_heap_other (by omega)).mono h2 (by simp)⟩
  rw [hwf]
  exact (Below.heap_setCell _ ⟨r, 1, none⟩ _ D hrD.symm).trans ((Below.heap_setCell _ ⟨r, 0, none⟩ _ D hrD.symm).trans ((hq.block D hD2).trans hD))
theorem bpm_gen {F : Fence} {n : Nat} {P : Program} {fn : Func} {R : Ending → World → Prop} {e : Exit} {a : Act} {w : World} (h : ∀ wf, wf = w → bodyPostM F n P fn R e a wf) : bodyPostM F n P fn R e a w := h w rfl
end Go.Proofs.Ytgmloaemnbnbgaa
