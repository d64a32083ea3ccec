import Derived.Test.YtljdfanebjhhmaaZc
import Derived.Test.YtljdfanebjhhmaaZj
namespace Go.Proofs.Ytljdfanebjhhmaa
open Go Go.RowKit

/-- What a system is. -/
def Sys (n : Int) (rows : List (List Int)) : Prop := 1 ≤ n ∧ n ≤ 12 ∧ rows.length ≤ 16 ∧ ∀ i, i < rows.length → ((rows.getD i []).length : Int) = n ∧ Prm (rows.getD i [])
/-- A step of a system from an element to an element. -/
def stp (rows : List (List Int)) (x y : Nat) : Prop := ∃ i, i < rows.length ∧ ((rows.getD i []).getD x 0).toNat = y
inductive Rch (rows : List (List Int)) (x : Nat) : Nat → Prop
  | start : Rch rows x x
  | step {y z : Nat} : Rch rows x y → stp rows y z → Rch rows x z
end Go.Proofs.Ytljdfanebjhhmaa
