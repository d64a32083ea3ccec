import Derived.Test.YtkflmhmbkilmpabObj
namespace Go.Proofs.Ytkflmhmbkilmpab
open Go Go.RowKit

/-- Two tables in memory of their own, the first one's blocks ahead of the second one's. -/
def ObjZ (ts t : TypeId) (lo hi : Nat) (w : World) (A : Option Addr) (f : List (List Int)) (B : Option Addr) (s : List (List Int)) : Prop :=
  ∃ mid, lo ≤ mid ∧ mid ≤ hi ∧ Obj2 ts t lo mid w A f ∧ Obj2 ts t mid hi w B s
/-- Two tables whose blocks lie from lo to hi. -/
def ObjW (ts t : TypeId) (lo hi : Nat) (w : World) (A : Option Addr) (f : List (List Int)) (B : Option Addr) (s : List (List Int)) : Prop :=
  Obj2 ts t lo hi w A f ∧ Obj2 ts t lo hi w B s

section
variable {ts t : TypeId} {w w' : World} {lo hi : Nat} {A B : Option Addr} {f s : List (List Int)}

theorem ObjZ.weak (h : ObjZ ts t lo hi w A f B s) : ObjW ts t lo hi w A f B s := by
  obtain ⟨mid, h1, h2, h3, h4⟩ := h
  exact ⟨h3.mono (Nat.le_refl _) h2, h4.mono h1 (Nat.le_refl _)⟩
theorem ObjZ.fst (h : ObjZ ts t lo hi w A f B s) : Rd2 w A f := h.weak.1.rd
theorem ObjZ.snd (h : ObjZ ts t lo hi w A f B s) : Rd2 w B s := h.weak.2.rd
theorem ObjW.fst (h : ObjW ts t lo hi w A f B s) : Rd2 w A f := h.1.rd
theorem ObjW.snd (h : ObjW ts t lo hi w A f B s) : Rd2 w B s := h.2.rd
theorem ObjZ.later (h : ObjZ ts t lo hi w A f B s) (hb : Below w.heap.size w w') : ObjZ ts t lo hi w' A f B s := by
  obtain ⟨mid, h1, h2, h3, h4⟩ := h
  exact ⟨mid, h1, h2, h3.later hb, h4.later hb⟩
theorem ObjW.later (h : ObjW ts t lo hi w A f B s) (hb : Below w.heap.size w w') : ObjW ts t lo hi w' A f B s := ⟨h.1.later hb, h.2.later hb⟩
theorem ObjZ.far {lo2 hi2 : Nat} (h : ObjZ ts t lo hi w A f B s) (ht : Touch lo2 hi2 w w') (hd : hi ≤ lo2 ∨ hi2 ≤ lo) : ObjZ ts t lo hi w' A f B s := by
  obtain ⟨mid, h1, h2, h3, h4⟩ := h
  exact ⟨mid, h1, h2, h3.far ht (by omega), h4.far ht (by omega)⟩
theorem ObjW.far {lo2 hi2 : Nat} (h : ObjW ts t lo hi w A f B s) (ht : Touch lo2 hi2 w w') (hd : hi ≤ lo2 ∨ hi2 ≤ lo) : ObjW ts t lo hi w' A f B s := ⟨h.1.far ht hd, h.2.far ht hd⟩
theorem ObjZ.mono {lo' hi' : Nat} (h : ObjZ ts t lo hi w A f B s) (h1 : lo' ≤ lo) (h2 : hi ≤ hi') : ObjZ ts t lo' hi' w A f B s := by
  obtain ⟨mid, k1, k2, h3, h4⟩ := h
  exact ⟨mid, by omega, by omega, h3.mono h1 (Nat.le_refl _), h4.mono (Nat.le_refl _) h2⟩
theorem ObjW.mono {lo' hi' : Nat} (h : ObjW ts t lo hi w A f B s) (h1 : lo' ≤ lo) (h2 : hi ≤ hi') : ObjW ts t lo' hi' w A f B s := ⟨h.1.mono h1 h2, h.2.mono h1 h2⟩
theorem ObjZ.empty (h : lo ≤ hi) : ObjZ ts t lo hi w none [] none [] := ⟨lo, Nat.le_refl _, h, .inl ⟨rfl, rfl⟩, .inl ⟨rfl, rfl⟩⟩
theorem ObjW.empty : ObjW ts t lo hi w none [] none [] := ⟨.inl ⟨rfl, rfl⟩, .inl ⟨rfl, rfl⟩⟩

theorem Touch.wide {lo2 hi2 : Nat} (h : Touch lo2 hi2 w w') (h1 : lo ≤ lo2) (h2 : hi2 ≤ hi) : Touch lo hi w w' :=
  ⟨h.os, h.tape, h.output, h.size, fun k hk hne => h.block k hk (by omega)⟩
theorem Touch.of_below (h : Below w.heap.size w w') : Touch lo hi w w' :=
  ⟨h.os, h.tape, h.output, h.size, fun k hk _ => h.block k hk⟩
end

/-- A pair of tables and a code, in new memory. -/
def ZPost (ts t : TypeId) (n m : Nat) (f s : List (List Int)) (code : Int) (w : World) (e : Ending) (w' : World) : Prop :=
  ∃ A c B d, e = .returned (.tuple #[.agg #[.slice A n c, .slice B m d], .int .i64 code]) ∧ Below w.heap.size w w' ∧ ObjZ ts t w.heap.size w'.heap.size w' A f B s
def WPost (ts t : TypeId) (n m : Nat) (f s : List (List Int)) (code : Int) (w : World) (e : Ending) (w' : World) : Prop :=
  ∃ A c B d, e = .returned (.tuple #[.agg #[.slice A n c, .slice B m d], .int .i64 code]) ∧ Below w.heap.size w w' ∧ ObjW ts t w.heap.size w'.heap.size w' A f B s
end Go.Proofs.Ytkflmhmbkilmpab
