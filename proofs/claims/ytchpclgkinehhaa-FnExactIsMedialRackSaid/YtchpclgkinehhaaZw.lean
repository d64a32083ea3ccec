import Derived.Test.YtchpclgkinehhaaZr
import Derived.Test.YtchpclgkinehhaaZl
import Derived.Test.YtchpclgkinehhaaZo
namespace Go.Proofs.Ytchpclgkinehhaa
open Go Go.RowKit
def Md4 (f : List (List Int)) (x y z v : Nat) : Prop := ap f (ap f x y) (ap f z v) = ap f (ap f x z) (ap f y v)
def MdF (f : List (List Int)) : Prop := ∀ x y z v, x < f.length → y < f.length → z < f.length → v < f.length → Md4 f x y z v
def MdRes (f : List (List Int)) : Bool → Int → Prop := BRes (Rck f) (MdF f)
theorem MdRes.ex (f : List (List Int)) : ∃ r code, MdRes f r code := BRes.ex _ _
theorem md_pairs {f : List (List Int)} {n : Nat} (hn : f.length = n) (h : ∀ i, i < n * n → ∀ j, j < n * n → Md4 f (i / n) (i % n) (j / n) (j % n)) : MdF f := by
  intro x y z v hx hy hz hv
  rw [hn] at hx hy hz hv
  have h1 := h _ (pair_lt n x y hx hy) _ (pair_lt n z v hz hv)
  rw [pair_div n x y hy, pair_mod n x y hy, pair_div n z v hv, pair_mod n z v hv] at h1
  exact h1
end Go.Proofs.Ytchpclgkinehhaa
