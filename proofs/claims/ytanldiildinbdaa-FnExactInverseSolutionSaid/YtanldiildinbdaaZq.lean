import Derived.Test.YtanldiildinbdaaZj
namespace Go.Proofs.Ytanldiildinbdaa
open Go Go.RowKit

theorem ObjZ.set {ts t : TypeId} {lo hi : Nat} {w : World} {A B : Option Addr} {f s : List (List Int)} (h : ObjZ ts t lo hi w A f B s) {p : Addr} (hp : p.block < lo ∨ hi ≤ p.block) (v : Value) : ObjZ ts t lo hi (w.setCell p v) A f B s := by
  obtain ⟨mid, h1, h2, h3, h4⟩ := h
  exact ⟨mid, h1, h2, h3.set (by omega) v, h4.set (by omega) v⟩
theorem ObjW.set {ts t : TypeId} {lo hi : Nat} {w : World} {A B : Option Addr} {f s : List (List Int)} (h : ObjW ts t lo hi w A f B s) {p : Addr} (hp : p.block < lo ∨ hi ≤ p.block) (v : Value) : ObjW ts t lo hi (w.setCell p v) A f B s :=
  ⟨h.1.set hp v, h.2.set hp v⟩

/-- The two tables of a result are laid into its box. -/
theorem zend {ts t tz : TypeId} {w w2 w3 wf : World} {r : Nat} {A B : Option Addr} {n c m d : Nat} {f s : List (List Int)} {u v : Value} (hwf : wf = (w3.setCell ⟨r, 0, none⟩ (.slice A n c)).setCell ⟨r, 1, none⟩ (.slice B m d)) (hr : Blk w3 r tz [u, v]) (hr0 : w.heap.size ≤ r) (hr2 : r < w2.heap.size) (hb : Below w.heap.size w w3) (h2 : w.heap.size ≤ w2.heap.size) (ho : ObjZ ts t w2.heap.size w3.heap.size w3 A f B s) :
    wf.cell? ⟨r, 0, none⟩ = some (.slice A n c) ∧ wf.cell? ⟨r, 1, none⟩ = some (.slice B m d) ∧ Below w.heap.size w wf ∧ ObjZ ts t w.heap.size wf.heap.size wf A f B s := by
  have hR : Blk wf r tz [.slice A n c, .slice B m d] := by rw [hwf]; exact (hr.set 0 _).set 1 _
  refine ⟨hR.cell 0 _ rfl, hR.cell 1 _ rfl, ?_, ?_⟩
  · rw [hwf]; exact (hb.setCell (p := ⟨r, 0, none⟩) hr0 _).setCell (p := ⟨r, 1, none⟩) hr0 _
  · rw [hwf]; exact ((ho.set (p := ⟨r, 0, none⟩) (.inl hr2) _).set (p := ⟨r, 1, none⟩) (.inl hr2) _).mono h2 (by simp [World.setCell])
theorem wend {ts t tz : TypeId} {w w2 w3 wf : World} {r : Nat} {A B : Option Addr} {n c m d : Nat} {f s : List (List Int)} {u v : Value} (hwf : wf = (w3.setCell ⟨r, 0, none⟩ (.slice A n c)).setCell ⟨r, 1, none⟩ (.slice B m d)) (hr : Blk w3 r tz [u, v]) (hr0 : w.heap.size ≤ r) (hr2 : r < w2.heap.size) (hb : Below w.heap.size w w3) (h2 : w.heap.size ≤ w2.heap.size) (ho : ObjW ts t w2.heap.size w3.heap.size w3 A f B s) :
    wf.cell? ⟨r, 0, none⟩ = some (.slice A n c) ∧ wf.cell? ⟨r, 1, none⟩ = some (.slice B m d) ∧ Below w.heap.size w wf ∧ ObjW ts t w.heap.size wf.heap.size wf A f B s := by
  have hR : Blk wf r tz [.slice A n c, .slice B m d] := by rw [hwf]; exact (hr.set 0 _).set 1 _
  refine ⟨hR.cell 0 _ rfl, hR.cell 1 _ rfl, ?_, ?_⟩
  · rw [hwf]; exact (hb.setCell (p := ⟨r, 0, none⟩) hr0 _).setCell (p := ⟨r, 1, none⟩) hr0 _
  · rw [hwf]; exact ((ho.set (p := ⟨r, 0, none⟩) (.inl hr2) _).set (p := ⟨r, 1, none⟩) (.inl hr2) _).mono h2 (by simp [World.setCell])

/-- A table among the blocks from lo on. -/
def ObjT (ts t : TypeId) (lo : Nat) (w : World) (A : Option Addr) (rows : List (List Int)) : Prop := Obj2 ts t lo w.heap.size w A rows
theorem ObjT.of {ts t : TypeId} {lo lo' hi : Nat} {w : World} {A : Option Addr} {rows : List (List Int)} (h : Obj2 ts t lo hi w A rows) (h1 : lo' ≤ lo) (h2 : hi ≤ w.heap.size) : ObjT ts t lo' w A rows := h.mono h1 h2
theorem ObjT.later {ts t : TypeId} {lo : Nat} {w w' : World} {A : Option Addr} {rows : List (List Int)} (h : ObjT ts t lo w A rows) (hb : Below w.heap.size w w') : ObjT ts t lo w' A rows := (Obj2.later h hb).mono (Nat.le_refl _) hb.size
theorem ObjT.rd {ts t : TypeId} {lo : Nat} {w : World} {A : Option Addr} {rows : List (List Int)} (h : ObjT ts t lo w A rows) : Rd2 w A rows := Obj2.rd h
theorem wend2 {ts t tz : TypeId} {w w3 wf : World} {r : Nat} {A B : Option Addr} {n c m d : Nat} {f s : List (List Int)} {u v : Value} (hwf : wf = (w3.setCell ⟨r, 0, none⟩ (.slice A n c)).setCell ⟨r, 1, none⟩ (.slice B m d)) (hr : Blk w3 r tz [u, v]) (hr0 : w.heap.size ≤ r) (hb : Below w.heap.size w w3) (h1 : ObjT ts t (r + 1) w3 A f) (h2 : ObjT ts t (r + 1) w3 B s) :
    wf.cell? ⟨r, 0, none⟩ = some (.slice A n c) ∧ wf.cell? ⟨r, 1, none⟩ = some (.slice B m d) ∧ Below w.heap.size w wf ∧ ObjW ts t w.heap.size wf.heap.size wf A f B s := by
  have hR : Blk wf r tz [.slice A n c, .slice B m d] := by rw [hwf]; exact (hr.set 0 _).set 1 _
  have ho : ObjW ts t (r + 1) w3.heap.size w3 A f B s := ⟨h1, h2⟩
  refine ⟨hR.cell 0 _ rfl, hR.cell 1 _ rfl, ?_, ?_⟩
  · rw [hwf]; exact (hb.setCell (p := ⟨r, 0, none⟩) hr0 _).setCell (p := ⟨r, 1, none⟩) hr0 _
  · rw [hwf]; exact ((ho.set (p := ⟨r, 0, none⟩) (.inl (Nat.lt_succ_self r)) _).set (p := ⟨r, 1, none⟩) (.inl (Nat.lt_succ_self r)) _).mono (by omega) (by simp [World.setCell])
end Go.Proofs.Ytanldiildinbdaa
