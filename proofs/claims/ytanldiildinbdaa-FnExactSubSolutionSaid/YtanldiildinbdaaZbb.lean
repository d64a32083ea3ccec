import Derived.Test.YtanldiildinbdaaZx
namespace Go.Proofs.Ytanldiildinbdaa
open Go Go.RowKit

section
variable {t : TypeId} {B : Nat} {w w' w1 : World} {v v' v1 v2 : Value} {n1 n2 : Nat} {xs1 xs2 : List Int}

/-- Two rows of numbers that the call builds by append. -/
structure Row2 (t : TypeId) (B : Nat) (w : World) (v1 v2 : Value) (n1 n2 : Nat) (xs1 xs2 : List Int) : Prop where
  o1 : w.ownsRow B t 1 v1 n1 (ints xs1)
  o2 : w.ownsRow B t 1 v2 n2 (ints xs2)
  ne : ∀ g, v1.ownBlock = some g → v2.ownBlock ≠ some g

theorem Row2.later (h : Row2 t B w v1 v2 n1 n2 xs1 xs2) (hb : Below w.heap.size w w') : Row2 t B w' v1 v2 n1 n2 xs1 xs2 :=
  ⟨ownsRow_below h.o1 hb, ownsRow_below h.o2 hb, h.ne⟩
theorem ints_push (xs : List Int) (a : Int) : ints (xs ++ [a]) = ints xs ++ [.int .i64 a] := by unfold ints; rw [List.map_append]; rfl

theorem Row2.add1 {a : Int} {tmp : Obj} (h : Row2 t B w v1 v2 n1 n2 xs1 xs2) (hown : w1.ownsRow B t 1 v' (n1 + 1) (ints xs1 ++ [.int .i64 a])) (hg : (w.alloc tmp).grownBy w1 v1.ownBlock) (hat : v'.ownBlock = v1.ownBlock ∨ v'.ownBlock = some (w.alloc tmp).heap.size) :
    Row2 t B w1 v' v2 (n1 + 1) n2 (xs1 ++ [a]) xs2 := by
  have hal : Below w.heap.size w (w.alloc tmp) := (Below.refl _ _).alloc (Nat.le_refl _) _
  have hv2 : v2.ownBlock = none ∨ v2.ownBlock ≠ v1.ownBlock := by
    cases e : v2.ownBlock with
    | none => exact .inl rfl
    | some g => exact .inr (fun e2 => h.ne g e2.symm e)
  refine ⟨by rw [ints_push]; exact hown, (ownsRow_below h.o2 hal).kept hg hv2, fun g hg1 e2 => ?_⟩
  rcases hat with e | e
  · exact h.ne g (e ▸ hg1) e2
  · have h3 := (own_type h.o2 e2).1
    rw [e] at hg1
    simp at hg1
    omega
theorem Row2.add2 {a : Int} {tmp : Obj} (h : Row2 t B w v1 v2 n1 n2 xs1 xs2) (hown : w1.ownsRow B t 1 v' (n2 + 1) (ints xs2 ++ [.int .i64 a])) (hg : (w.alloc tmp).grownBy w1 v2.ownBlock) (hat : v'.ownBlock = v2.ownBlock ∨ v'.ownBlock = some (w.alloc tmp).heap.size) :
    Row2 t B w1 v1 v' n1 (n2 + 1) xs1 (xs2 ++ [a]) := by
  have hal : Below w.heap.size w (w.alloc tmp) := (Below.refl _ _).alloc (Nat.le_refl _) _
  have hv1 : v1.ownBlock = none ∨ v1.ownBlock ≠ v2.ownBlock := by
    cases e : v1.ownBlock with
    | none => exact .inl rfl
    | some g => exact .inr (fun e2 => h.ne g e e2.symm)
  refine ⟨(ownsRow_below h.o1 hal).kept hg hv1, by rw [ints_push]; exact hown, fun g hg1 e2 => ?_⟩
  rcases hat with e | e
  · exact h.ne g hg1 (e ▸ e2)
  · have h3 := (own_type h.o1 hg1).1
    rw [e] at e2
    simp at e2
    omega
/-- The blocks below both rows are left. -/
theorem grown_low {tmp : Obj} {b0 : Nat} {w0 : World} (h : w.ownsRow B t 1 v n1 (ints xs1)) (hg : (w.alloc tmp).grownBy w1 v.ownBlock) (hb : Below b0 w0 w) (h0 : b0 ≤ B) (hs : b0 ≤ w.heap.size) : Below b0 w0 w1 :=
  (hb.alloc hs tmp).grown hg (by simp; omega) (fun g e => by
    have := (own_type h e).2.1
    omega)
end
end Go.Proofs.Ytanldiildinbdaa
