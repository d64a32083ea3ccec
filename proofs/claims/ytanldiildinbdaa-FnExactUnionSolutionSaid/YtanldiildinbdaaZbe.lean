import Derived.Test.YtanldiildinbdaaZab
namespace Go.Proofs.Ytanldiildinbdaa
open Go Go.RowKit
/-- A pair of tables made of two pair maps, where they are some and there is room. -/
def PuRes (p1 p2 lim : Prop) (n : Nat) (h1 h2 : Nat → Nat → Int) (zf zg : List (List Int)) (code : Int) : Prop :=
  ((p1 ∧ p2) ∧ lim ∧ zf = grid n h1 ∧ zg = grid n h2 ∧ code = 0) ∨ ((p1 ∧ p2) ∧ ¬ lim ∧ zf = [] ∧ zg = [] ∧ code = 3) ∨ (¬ (p1 ∧ p2) ∧ zf = [] ∧ zg = [] ∧ code = 1)
theorem PuRes.ex (p1 p2 lim : Prop) (n : Nat) (h1 h2 : Nat → Nat → Int) (hn : lim → n ≤ 1048576) : ∃ zf zg code, PuRes p1 p2 lim n h1 h2 zf zg code ∧ ZSz 1048576 zf zf.length zg zg.length := by
  by_cases h : p1 ∧ p2
  · by_cases h3 : lim
    · exact ⟨_, _, _, .inl ⟨h, h3, rfl, rfl, rfl⟩, grid_sz (hn h3) _ _⟩
    · exact ⟨_, _, _, .inr (.inl ⟨h, h3, rfl, rfl, rfl⟩), nil_sz⟩
  · exact ⟨_, _, _, .inr (.inr ⟨h, rfl, rfl, rfl⟩), nil_sz⟩
/-- The product of two tables. -/
def pr1 (f g : List (List Int)) (m : Nat) : Nat → Nat → Int := fun a b => ((ap f (a / m) (b / m) * m + ap g (a % m) (b % m) : Nat) : Int)
def ProdRes (f1 s1 f2 s2 : List (List Int)) : List (List Int) → List (List Int) → Int → Prop :=
  PuRes (PMap f1 s1) (PMap f2 s2) (f1.length * f2.length ≤ 12) (f1.length * f2.length) (pr1 f1 f2 f2.length) (pr1 s1 s2 f2.length)
theorem ProdRes.ex (f1 s1 f2 s2 : List (List Int)) : ∃ zf zg code, ProdRes f1 s1 f2 s2 zf zg code ∧ ZSz 1048576 zf zf.length zg zg.length := PuRes.ex _ _ _ _ _ _ (fun h => by omega)
/-- The union of two tables. -/
def un1 (f g : List (List Int)) (n : Nat) (d : Nat → Nat → Int) : Nat → Nat → Int := fun a b => if a < n ∧ b < n then ((ap f a b : Nat) : Int) else if n ≤ a ∧ n ≤ b then ((ap g (a - n) (b - n) + n : Nat) : Int) else d a b
def UniRes (f1 s1 f2 s2 : List (List Int)) : List (List Int) → List (List Int) → Int → Prop :=
  PuRes (PMap f1 s1) (PMap f2 s2) (f1.length + f2.length ≤ 12) (f1.length + f2.length) (un1 f1 f2 f1.length fun _ b => (b : Int)) (un1 s1 s2 f1.length fun a _ => (a : Int))
theorem UniRes.ex (f1 s1 f2 s2 : List (List Int)) : ∃ zf zg code, UniRes f1 s1 f2 s2 zf zg code ∧ ZSz 1048576 zf zf.length zg zg.length := PuRes.ex _ _ _ _ _ _ (fun h => by omega)
end Go.Proofs.Ytanldiildinbdaa
