import Derived.Test.YtanldiildinbdaaZbb
import Derived.Test.YtanldiildinbdaaZab
import Derived.Test.YtanldiildinbdaaZm
namespace Go.Proofs.Ytanldiildinbdaa
open Go Go.RowKit

/-- Boxes below ob. -/
def Bxs (w : World) (ob : Nat) (bs : List (Nat × TypeId × List Value)) : Prop := ∀ q, q ∈ bs → Blk w q.1 q.2.1 q.2.2 ∧ q.1 < ob
section
variable {w w' : World} {ob : Nat} {bs : List (Nat × TypeId × List Value)}
theorem Bxs.later (h : Bxs w ob bs) (hb : Below w.heap.size w w') : Bxs w' ob bs := fun q hq => ⟨(h q hq).1.later hb, (h q hq).2⟩
theorem Bxs.frame (h : Bxs w ob bs) (hf : ∀ k, k < ob → k < w.heap.size → w'.heap[k]? = w.heap[k]?) : Bxs w' ob bs := fun q hq => ⟨(hf q.1 (h q hq).2 (h q hq).1.lt).trans (h q hq).1, (h q hq).2⟩
theorem Bxs.blk (h : Bxs w ob bs) {b : Nat} {t : TypeId} {cs : List Value} (hm : (b, t, cs) ∈ bs) : Blk w b t cs := (h _ hm).1
end

/-- The first y numbers of row x. -/
def rowTo (h : Nat → Nat → Int) (x y : Nat) : List Int := (List.range y).map fun (b : Nat) => h x b
theorem rowTo_succ (h : Nat → Nat → Int) (x y : Nat) : rowTo h x (y + 1) = rowTo h x y ++ [h x y] := by unfold rowTo; rw [List.range_succ, List.map_append]; rfl
theorem rowTo_len (h : Nat → Nat → Int) (x y : Nat) : (rowTo h x y).length = y := by simp [rowTo]
theorem grid_take_row (n : Nat) (h : Nat → Nat → Int) (x : Nat) (hx : x < n) : (grid n h).take (x + 1) = (grid n h).take x ++ [rowTo h x n] := by
  have hl : x < (grid n h).length := by rw [grid_length]; exact hx
  rw [List.take_succ_eq_append_getElem hl]
  have e := grid_row n h x hx
  rw [List.getD_eq_getElem?_getD, List.getElem?_eq_getElem hl] at e
  rw [show (grid n h)[x] = _ from e]
  rfl
theorem l2_new {w : World} {v : Value} {t : TypeId} : ∀ j u, [v][j]? = some u → (w.alloc (.cells #[v] t)).cell? ((⟨w.heap.size, 0, none⟩ : Addr).add j) = some u := by
  intro j u hj
  match j, hj with
  | 0, hj => simp at hj; subst hj; simp [Addr.add, World.cell?_alloc_new]
theorem row2_start (w : World) (t : TypeId) : Row2 t w.heap.size ((w.alloc (.cells #[] t)).alloc (.cells #[] t)) (.slice (some ⟨w.heap.size, 0, none⟩) 0 0) (.slice (some ⟨w.heap.size + 1, 0, none⟩) 0 0) 0 0 [] [] := by
  have h1 := cl_empty w t
  have h2 := cl_empty (w.alloc (.cells #[] t)) t
  refine ⟨?_, ?_, fun g hg e => ?_⟩
  · exact ownsRow_below h1 ((Below.refl _ _).alloc (Nat.le_refl _) _)
  · have h3 : ((w.alloc (.cells #[] t)).alloc (.cells #[] t)).ownsRow (w.alloc (.cells #[] t)).heap.size t 1 (.slice (some ⟨(w.alloc (.cells #[] t)).heap.size, 0, none⟩) 0 0) 0 [] := h2
    have hs : (w.alloc (.cells #[] t)).heap.size = w.heap.size + 1 := by simp
    rw [hs] at h3
    rcases h3 with ⟨hl, hh⟩
    refine ⟨hl, ?_⟩
    rcases hh with h | ⟨g, cap, cur, hv, hg, rest⟩
    · exact .inl h
    · exact .inr ⟨g, cap, cur, hv, by omega, rest⟩
  · simp [Value.ownBlock] at hg e
    omega
theorem at_of {v v' : Value} {gg cap n g : Nat} (hv : v' = .slice (some ⟨gg, 0, none⟩) n cap) (h : v'.ownBlock = v.ownBlock ∨ v'.ownBlock = some g) : v.ownBlock = some gg ∨ gg = g := by
  subst hv
  rcases h with e | e
  · exact .inl (e.symm.trans rfl)
  · refine .inr ?_
    have e2 : some gg = some g := e
    injection e2
/-- What an append of one number to a row leaves. -/
theorem row2_ap1 {t : TypeId} {wo wr wa : World} {u1 u2 : Value} {y y2 gg cap : Nat} {xs1 xs2 : List Int} {r : Int} (h2 : Row2 t wo.heap.size wr u1 u2 y y2 xs1 xs2) (hb2 : Below wo.heap.size wo wr)
    (hown : wa.ownsRow wo.heap.size t 1 (.slice (some ⟨gg, 0, none⟩) (y + 1) cap) (y + 1) (ints xs1 ++ [.int .i64 r])) (hg : (wr.alloc (.cells #[.int .i64 r] t)).grownBy wa u1.ownBlock) (hat : u1.ownBlock = some gg ∨ gg = wr.heap.size + 1) :
    Row2 t wo.heap.size wa (.slice (some ⟨gg, 0, none⟩) (y + 1) cap) u2 (y + 1) y2 (xs1 ++ [r]) xs2 ∧ Below wo.heap.size wo wa ∧ wr.heap.size < wa.heap.size ∧ ∀ b o, b < wo.heap.size → wa.cell? ⟨b, o, none⟩ = wr.cell? ⟨b, o, none⟩ := by
  have h3 := grown_low h2.o1 hg hb2 (Nat.le_refl _) hb2.size
  refine ⟨h2.add1 hown hg ?_, h3, by have := hg.size; simp at this; exact this, fun b o hlt => (h3.cell (p := ⟨b, o, none⟩) hlt).trans (hb2.cell (p := ⟨b, o, none⟩) hlt).symm⟩
  rcases hat with e | e
  · exact .inl (by rw [e]; rfl)
  · refine .inr ?_
    subst e
    show some (wr.heap.size + 1) = some (wr.heap.push _).size
    rw [Array.size_push]
theorem row2_ap2 {t : TypeId} {wo wr wa : World} {u1 u2 : Value} {y y2 gg cap : Nat} {xs1 xs2 : List Int} {r : Int} (h2 : Row2 t wo.heap.size wr u1 u2 y y2 xs1 xs2) (hb2 : Below wo.heap.size wo wr)
    (hown : wa.ownsRow wo.heap.size t 1 (.slice (some ⟨gg, 0, none⟩) (y2 + 1) cap) (y2 + 1) (ints xs2 ++ [.int .i64 r])) (hg : (wr.alloc (.cells #[.int .i64 r] t)).grownBy wa u2.ownBlock) (hat : u2.ownBlock = some gg ∨ gg = wr.heap.size + 1) :
    Row2 t wo.heap.size wa u1 (.slice (some ⟨gg, 0, none⟩) (y2 + 1) cap) y (y2 + 1) xs1 (xs2 ++ [r]) ∧ Below wo.heap.size wo wa ∧ wr.heap.size < wa.heap.size ∧ ∀ b o, b < wo.heap.size → wa.cell? ⟨b, o, none⟩ = wr.cell? ⟨b, o, none⟩ := by
  have h3 := grown_low h2.o2 hg hb2 (Nat.le_refl _) hb2.size
  refine ⟨h2.add2 hown hg ?_, h3, by have := hg.size; simp at this; exact this, fun b o hlt => (h3.cell (p := ⟨b, o, none⟩) hlt).trans (hb2.cell (p := ⟨b, o, none⟩) hlt).symm⟩
  rcases hat with e | e
  · exact .inl (by rw [e]; rfl)
  · refine .inr ?_
    subst e
    show some (wr.heap.size + 1) = some (wr.heap.push _).size
    rw [Array.size_push]
/-- What an append of one number to the first row, behind a draw, leaves. -/
theorem row2_app1 {t : TypeId} {wo wr wa : World} {u1 u2 : Value} {y y2 gg cap : Nat} {xs1 xs2 : List Int} {r : Int} (h : Row2 t wo.heap.size wr u1 u2 y y2 xs1 xs2) (hb : Below wo.heap.size wo wr)
    (hown : wa.ownsRow wo.heap.size t 1 (.slice (some ⟨gg, 0, none⟩) (y + 1) cap) (y + 1) (ints xs1 ++ [.int .i64 r])) (hg : (wr.drew.alloc (.cells #[.int .i64 r] t)).grownBy wa u1.ownBlock) (hat : u1.ownBlock = some gg ∨ gg = wr.heap.size + 1) :
    Row2 t wo.heap.size wa (.slice (some ⟨gg, 0, none⟩) (y + 1) cap) u2 (y + 1) y2 (xs1 ++ [r]) xs2 ∧ Below wo.heap.size wo wa ∧ wr.heap.size < wa.heap.size ∧ ∀ b o, b < wo.heap.size → wa.cell? ⟨b, o, none⟩ = wr.cell? ⟨b, o, none⟩ := by
  have hd : Below wr.heap.size wr wr.drew := (Below.refl _ _).drew
  have h2 := h.later hd
  have hb2 : Below wo.heap.size wo wr.drew := hb.trans (hd.mono hb.size)
  have h3 := grown_low h2.o1 hg hb2 (Nat.le_refl _) hb2.size
  refine ⟨h2.add1 hown hg ?_, h3, by have := hg.size; simp at this; exact this, fun b o hlt => (h3.cell (p := ⟨b, o, none⟩) hlt).trans (hb.cell (p := ⟨b, o, none⟩) hlt).symm⟩
  rcases hat with e | e
  · exact .inl (by rw [e]; rfl)
  · refine .inr ?_
    subst e
    show some (wr.heap.size + 1) = some (wr.heap.push _).size
    rw [Array.size_push]
/-- .. to the second row. -/
theorem row2_app2 {t : TypeId} {wo wr wa : World} {u1 u2 : Value} {y y2 gg cap : Nat} {xs1 xs2 : List Int} {r : Int} (h : Row2 t wo.heap.size wr u1 u2 y y2 xs1 xs2) (hb : Below wo.heap.size wo wr)
    (hown : wa.ownsRow wo.heap.size t 1 (.slice (some ⟨gg, 0, none⟩) (y2 + 1) cap) (y2 + 1) (ints xs2 ++ [.int .i64 r])) (hg : (wr.drew.alloc (.cells #[.int .i64 r] t)).grownBy wa u2.ownBlock) (hat : u2.ownBlock = some gg ∨ gg = wr.heap.size + 1) :
    Row2 t wo.heap.size wa u1 (.slice (some ⟨gg, 0, none⟩) (y2 + 1) cap) y (y2 + 1) xs1 (xs2 ++ [r]) ∧ Below wo.heap.size wo wa ∧ wr.heap.size < wa.heap.size ∧ ∀ b o, b < wo.heap.size → wa.cell? ⟨b, o, none⟩ = wr.cell? ⟨b, o, none⟩ := by
  have hd : Below wr.heap.size wr wr.drew := (Below.refl _ _).drew
  have h2 := h.later hd
  have hb2 : Below wo.heap.size wo wr.drew := hb.trans (hd.mono hb.size)
  have h3 := grown_low h2.o2 hg hb2 (Nat.le_refl _) hb2.size
  refine ⟨h2.add2 hown hg ?_, h3, by have := hg.size; simp at this; exact this, fun b o hlt => (h3.cell (p := ⟨b, o, none⟩) hlt).trans (hb.cell (p := ⟨b, o, none⟩) hlt).symm⟩
  rcases hat with e | e
  · exact .inl (by rw [e]; rfl)
  · refine .inr ?_
    subst e
    show some (wr.heap.size + 1) = some (wr.heap.push _).size
    rw [Array.size_push]
theorem at_to {v : Value} {g n cap H : Nat} (h : v.ownBlock = some g ∨ g = H) : (Value.slice (some ⟨g, 0, none⟩) n cap).ownBlock = v.ownBlock ∨ (Value.slice (some ⟨g, 0, none⟩) n cap).ownBlock = some H := by
  rcases h with e | e
  · exact .inl (by rw [e]; rfl)
  · exact .inr (by rw [e]; rfl)
end Go.Proofs.Ytanldiildinbdaa
