import Derived.Test.YtkflmhmbkilmpacRkF
import Derived.Test.YtkflmhmbkilmpacFmF
import Derived.Test.YtkflmhmbkilmpacPairF
import Derived.Test.YtkflmhmbkilmpacHas
namespace Go.Proofs.Ytkflmhmbkilmpac
open Go Go.RowKit
def IdF (f : List (List Int)) : Prop := ∀ x, x < f.length → ap f 0 x = x ∧ ap f x 0 = x
def As3 (f : List (List Int)) (x y z : Nat) : Prop := ap f (ap f x y) z = ap f x (ap f y z)
def AsF (f : List (List Int)) : Prop := ∀ x y z, x < f.length → y < f.length → z < f.length → As3 f x y z
def Grp (f : List (List Int)) : Prop := (Tbl f ∧ AllPrm f) ∧ IdF f ∧ AsF f
theorem as_pairs {f : List (List Int)} {n : Nat} (hn : f.length = n) (h : ∀ i, i < n * n → ∀ z, z < n → As3 f (i / n) (i % n) z) : AsF f := by
  intro x y z hx hy hz
  rw [hn] at hx hy hz
  have h1 := h _ (pair_lt n x y hx hy) z hz
  rw [pair_div n x y hy, pair_mod n x y hy] at h1
  exact h1
/-- The inverse. -/
def bk (f : List (List Int)) (x : Nat) : Nat := (f.getD x []).idxOf 0
theorem bk_ok {f : List (List Int)} {n : Nat} (hn : f.length = n) (ht : Tbl f) (hp : AllPrm f) {x : Nat} (hx : x < n) : bk f x < n ∧ ixOf (f.getD x []) 0 = bk f x := by
  have hl : (f.getD x []).length = n := by rw [ht.rows x (by omega), hn]
  have hpx := hp x (by omega)
  have hm : (0 : Int) ∈ f.getD x [] := ((prm_iff _).1 hpx).2.2 0 (by omega) (by rw [hl]; have := ht.1; omega)
  refine ⟨by have := List.idxOf_lt_length_of_mem hm; unfold bk; omega, ?_⟩
  unfold ixOf bk
  rw [if_pos hm]
def coH (f : List (List Int)) : Nat → Nat → Int := fun x y => (ap f (ap f x (bk f y)) x : Nat)
def cjH (f : List (List Int)) : Nat → Nat → Int := fun x y => (ap f (ap f x y) (bk f x) : Nat)
def CoRes (f : List (List Int)) : List (List Int) → Int → Prop := FmRes (Grp f) 1 f.length (coH f)
def CjRes (f : List (List Int)) : List (List Int) → Int → Prop := FmRes (Grp f) 1 f.length (cjH f)
theorem CoRes.ex (f : List (List Int)) : ∃ zs code, CoRes f zs code ∧ zs.length ≤ 1048576 ∧ ∀ i, i < zs.length → (zs.getD i []).length ≤ 1048576 := FmRes.ex _ _ _ _ (fun h => h.1.1.2.1)
theorem CjRes.ex (f : List (List Int)) : ∃ zs code, CjRes f zs code ∧ zs.length ≤ 1048576 ∧ ∀ i, i < zs.length → (zs.getD i []).length ≤ 1048576 := FmRes.ex _ _ _ _ (fun h => h.1.1.2.1)
/-- Products from the left. -/
def tm (f : List (List Int)) (x : Nat) (ys : List Nat) : Nat := ys.foldl (fun a y => ap f a y) x
theorem tm_take (f : List (List Int)) (x : Nat) (ys : List Nat) (k : Nat) (h : k < ys.length) : tm f x (ys.take (k + 1)) = ap f (tm f x (ys.take k)) (ys.getD k 0) := by
  unfold tm
  rw [List.take_succ_eq_append_getElem h, List.foldl_append]
  simp [h]
def natL (ys : List Nat) : List Int := ys.map fun (y : Nat) => (y : Int)
end Go.Proofs.Ytkflmhmbkilmpac
