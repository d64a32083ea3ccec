import Derived.Test.YtljdfanebjhhmaaZg
import Derived.Test.YtljdfanebjhhmaaZn
namespace Go.Proofs.Ytljdfanebjhhmaa
open Go Go.RowKit
def FmRes (good : Prop) (bad : Int) (n : Nat) (h : Nat → Nat → Int) (zs : List (List Int)) (code : Int) : Prop := (good ∧ zs = grid n h ∧ code = 0) ∨ (¬ good ∧ zs = [] ∧ code = bad)
theorem FmRes.ex (good : Prop) (bad : Int) (n : Nat) (h : Nat → Nat → Int) (hn : good → n ≤ 12) : ∃ zs code, FmRes good bad n h zs code ∧ zs.length ≤ 1048576 ∧ ∀ i, i < zs.length → (zs.getD i []).length ≤ 1048576 := by
  by_cases hg : good
  · refine ⟨_, _, .inl ⟨hg, rfl, rfl⟩, ?_, fun i hi => ?_⟩
    · rw [grid_length]; have := hn hg; omega
    · rw [grid_length] at hi
      rw [grid_row_length _ _ _ hi]; have := hn hg; omega
  · exact ⟨_, _, .inr ⟨hg, rfl, rfl⟩, by simp, fun i hi => by simp at hi⟩
def trH : Nat → Nat → Int := fun _ b => (b : Int)
def dhH (n : Nat) : Nat → Nat → Int := fun a b => (((2 * a + (n - 1) * b) % n : Nat) : Int)
def TrRes (x : Int) : List (List Int) → Int → Prop := FmRes (1 ≤ x ∧ x ≤ 12) 2 x.toNat trH
def DhRes (x : Int) : List (List Int) → Int → Prop := FmRes (1 ≤ x ∧ x ≤ 12) 2 x.toNat (dhH x.toNat)
theorem TrRes.ex (x : Int) : ∃ zs code, TrRes x zs code ∧ zs.length ≤ 1048576 ∧ ∀ i, i < zs.length → (zs.getD i []).length ≤ 1048576 := FmRes.ex (1 ≤ x ∧ x ≤ 12) 2 x.toNat trH (fun h => by omega)
theorem DhRes.ex (x : Int) : ∃ zs code, DhRes x zs code ∧ zs.length ≤ 1048576 ∧ ∀ i, i < zs.length → (zs.getD i []).length ≤ 1048576 := FmRes.ex (1 ≤ x ∧ x ≤ 12) 2 x.toNat (dhH x.toNat) (fun h => by omega)
theorem dh_eq (n x y : Nat) (h1 : 1 ≤ n) : ((2 * (x : Int) - (y : Int)) % (n : Int)) = dhH n x y := by
  unfold dhH
  have e : ((2 * x + (n - 1) * y : Nat) : Int) = (2 * (x : Int) - (y : Int)) + (n : Int) * (y : Int) := by
    obtain ⟨m, rfl⟩ : ∃ m, n = m + 1 := ⟨n - 1, by omega⟩
    have : (m + 1 - 1) = m := by omega
    rw [this]
    push_cast
    rw [Int.add_mul]
    omega
  rw [Int.natCast_emod, e, Int.add_mul_emod_self_left]
theorem alx_mod (n b x q : Nat) : ((b % n) * x + q) % n = (b * x + q) % n := by
  rw [Nat.add_mod, Nat.mod_mul_mod, ← Nat.add_mod]
end Go.Proofs.Ytljdfanebjhhmaa
