import Derived.Test.YtaejgmdeiemhcaaZe
import Derived.Test.YtaejgmdeiemhcaaZbd
namespace Go.Proofs.Ytaejgmdeiemhcaa
open Go Go.RowKit
section
variable {t : TypeId} {w w' : World} {lo hi : Nat} {A B : Option Addr} {xs ys : List Int}
/-- Two slices of numbers in memory of their own. -/
def ObjD (t : TypeId) (lo hi : Nat) (w : World) (A : Option Addr) (xs : List Int) (B : Option Addr) (ys : List Int) : Prop :=
  Obj1 t lo hi w A xs ∧ Obj1 t lo hi w B ys ∧ ∀ a b, A = some a → B = some b → a.block ≠ b.block
theorem ObjD.fst (h : ObjD t lo hi w A xs B ys) : Rd w A xs := h.1.rd
theorem ObjD.snd (h : ObjD t lo hi w A xs B ys) : Rd w B ys := h.2.1.rd
theorem ObjD.later (h : ObjD t lo hi w A xs B ys) (hb : Below w.heap.size w w') : ObjD t lo hi w' A xs B ys := ⟨h.1.later hb, h.2.1.later hb, h.2.2⟩
theorem ObjD.mono {lo' hi' : Nat} (h : ObjD t lo hi w A xs B ys) (h1 : lo' ≤ lo) (h2 : hi ≤ hi') : ObjD t lo' hi' w A xs B ys := ⟨h.1.mono h1 h2, h.2.1.mono h1 h2, h.2.2⟩
theorem ObjD.far {lo2 hi2 : Nat} (h : ObjD t lo hi w A xs B ys) (ht : Touch lo2 hi2 w w') (hd : hi ≤ lo2 ∨ hi2 ≤ lo) : ObjD t lo hi w' A xs B ys := ⟨h.1.far ht hd, h.2.1.far ht hd, h.2.2⟩
theorem ObjD.nil (t : TypeId) (lo hi : Nat) (w : World) : ObjD t lo hi w none [] none [] := ⟨.inl ⟨rfl, rfl⟩, .inl ⟨rfl, rfl⟩, fun a b h => by cases h⟩
theorem Obj1.only {X : Option Addr} (h : Obj1 t lo hi w A xs) (ho : Only X w w') (hne : ∀ a x, A = some a → X = some x → a.block ≠ x.block) : Obj1 t lo hi w' A xs := by
  rcases h with h | ⟨g, e, h1, h2, h3⟩
  · exact .inl h
  · exact .inr ⟨g, e, h1, h2, h3.only ho (fun x hx => hne ⟨g, 0, none⟩ x e hx)⟩
theorem Row2.objD {B0 n1 n2 : Nat} {v1 v2 : Value} (h : Row2 t B0 w v1 v2 n1 n2 xs ys) : ∃ A c B d, v1 = .slice A n1 c ∧ v2 = .slice B n2 d ∧ ObjD t B0 w.heap.size w A xs B ys := by
  obtain ⟨A, c, e1, r1⟩ := own_shape h.o1
  obtain ⟨B, d, e2, r2⟩ := own_shape h.o2
  refine ⟨A, c, B, d, e1, e2, r1.obj, r2.obj, fun a b ha hb e => ?_⟩
  refine h.ne a.block ?_ ?_
  · rw [e1, ha]; rfl
  · rw [e2, hb, e]; rfl
end
/-- Two slices of numbers in new memory, and a code. -/
def DPost (t : TypeId) (n m : Nat) (xs ys : List Int) (code : Int) (w : World) (e : Ending) (w' : World) : Prop :=
  ∃ A c B d, e = .returned (.tuple #[.slice A n c, .slice B m d, .int .i64 code]) ∧ Below w.heap.size w w' ∧ ObjD t w.heap.size w'.heap.size w' A xs B ys
theorem markD1 (t : TypeId) (lo hi : Nat) (A : Option Addr) (n c : Nat) (k : Int) (xs : List Int) (B : Option Addr) (ys : List Int) (w : World) (hn : xs.length = n) (hb : n ≤ 4194304) (hk : 0 ≤ k) (hk2 : k ≤ 4611686018427387904) (hr : ObjD t lo hi w A xs B ys) :
    Calls Try.prog 37 #[.slice A n c, .int .i64 k] w fun e w' => e = .returned (.int .i64 (k + n)) ∧ Touch lo hi w w' ∧ ObjD t lo hi w' A (marks k n) B ys :=
  (mark_any t lo A n c k xs w hn hb hk hk2 (hr.1.res (Nat.le_refl _))).mono fun _ w' ⟨he, ho, hr'⟩ => ⟨he, .of_only ho hr.1.bounds, by
    refine ⟨?_, hr.2.1.only ho (fun a x ha hx e => hr.2.2 x a hx ha e.symm), hr.2.2⟩
    rcases hr' with h | ⟨g, h1, h2, h3⟩
    · exact .inl h
    · exact .inr ⟨g, h1, h2, (hr.1.bounds _ h1).2, h3⟩⟩
theorem markD2 (t : TypeId) (lo hi : Nat) (A : Option Addr) (n c : Nat) (k : Int) (xs : List Int) (B : Option Addr) (ys : List Int) (w : World) (hn : xs.length = n) (hb : n ≤ 4194304) (hk : 0 ≤ k) (hk2 : k ≤ 4611686018427387904) (hr : ObjD t lo hi w B ys A xs) :
    Calls Try.prog 37 #[.slice A n c, .int .i64 k] w fun e w' => e = .returned (.int .i64 (k + n)) ∧ Touch lo hi w w' ∧ ObjD t lo hi w' B ys A (marks k n) :=
  (markD1 t lo hi A n c k xs B ys w hn hb hk hk2 ⟨hr.2.1, hr.1, fun a b ha hb e => hr.2.2 b a hb ha e.symm⟩).mono fun _ _ ⟨he, ht, h⟩ => ⟨he, ht, h.2.1, h.1, fun a b ha hb e => h.2.2 b a hb ha e.symm⟩
end Go.Proofs.Ytaejgmdeiemhcaa
