import Derived.Test.YtiaebilcgmahlaaZaq
import Derived.Test.YtiaebilcgmahlaaZac
namespace Go.Proofs.Ytiaebilcgmahlaa
open Go Go.RowKit
/-- A tuple behind a move. -/
def mvL (h1 h2 : Nat → Nat → Int) (xs : List Int) (k : Nat) : List Int := (xs.set k (h1 (elN xs k) (elN xs (k + 1)))).set (k + 1) (h2 (elN xs k) (elN xs (k + 1)))
theorem mvL_length (h1 h2 : Nat → Nat → Int) (xs : List Int) (k : Nat) : (mvL h1 h2 xs k).length = xs.length := by simp [mvL]
/-- What a move answers. -/
def MvR (n : Nat) (h1 h2 : Nat → Nat → Int) (xs : List Int) (k : Int) (zs : List Int) (code : Int) : Prop :=
  ((Tup n xs ∧ 0 ≤ k ∧ k + 2 ≤ (xs.length : Int)) ∧ zs = mvL h1 h2 xs k.toNat ∧ code = 0) ∨ (¬ (Tup n xs ∧ 0 ≤ k ∧ k + 2 ≤ (xs.length : Int)) ∧ zs = [] ∧ code = 2)
theorem MvR.ex (n : Nat) (h1 h2 : Nat → Nat → Int) (xs : List Int) (k : Int) : ∃ zs code, MvR n h1 h2 xs k zs code ∧ zs.length ≤ 1048576 := by
  by_cases h : Tup n xs ∧ 0 ≤ k ∧ k + 2 ≤ (xs.length : Int)
  · exact ⟨_, _, .inl ⟨h, rfl, rfl⟩, by rw [mvL_length]; have := h.1.1; omega⟩
  · exact ⟨_, _, .inr ⟨h, rfl, rfl⟩, by simp⟩
def GdR (good : Prop) (R : List Int → Int → Prop) (zs : List Int) (code : Int) : Prop := (good ∧ R zs code) ∨ (¬ good ∧ zs = [] ∧ code = 1)
theorem GdR.ex {good : Prop} {R : List Int → Int → Prop} (h : ∃ zs code, R zs code ∧ zs.length ≤ 1048576) : ∃ zs code, GdR good R zs code ∧ zs.length ≤ 1048576 := by
  by_cases hg : good
  · obtain ⟨zs, code, h1, h2⟩ := h
    exact ⟨zs, code, .inl ⟨hg, h1⟩, h2⟩
  · exact ⟨_, _, .inr ⟨hg, rfl, rfl⟩, by simp⟩
def leH (f : List (List Int)) : Nat → Nat → Int := fun x y => ((ap f x y : Nat) : Int)
def caH1 : Nat → Nat → Int := fun _ y => (y : Int)
def caH2 (f : List (List Int)) : Nat → Nat → Int := fun x y => ((ap f y x : Nat) : Int)
def TmRes (f s : List (List Int)) (xs : List Int) (k : Int) : List Int → Int → Prop := GdR (SolF f s) (MvR f.length (leH f) (leH s) xs k)
theorem TmRes.ex (f s : List (List Int)) (xs : List Int) (k : Int) : ∃ zs code, TmRes f s xs k zs code ∧ zs.length ≤ 1048576 := GdR.ex (MvR.ex _ _ _ _ _)
def RmRes (f : List (List Int)) (xs : List Int) (k : Int) : List Int → Int → Prop := GdR (Rck f) (MvR f.length caH1 (caH2 f) xs k)
theorem RmRes.ex (f : List (List Int)) (xs : List Int) (k : Int) : ∃ zs code, RmRes f xs k zs code ∧ zs.length ≤ 1048576 := GdR.ex (MvR.ex _ _ _ _ _)
end Go.Proofs.Ytiaebilcgmahlaa
