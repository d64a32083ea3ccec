import Derived.Test.YthkhkehpmolfaaaZbn
import Derived.Test.YthkhkehpmolfaaaZau
namespace Go.Proofs.Ythkhkehpmolfaaa
open Go Go.RowKit
/-- The solution of a cycle set. -/
def csH1 (f : List (List Int)) : Nat → Nat → Int := fun x y => ((sol f x y : Nat) : Int)
def csH2 (f : List (List Int)) : Nat → Nat → Int := fun x y => ((ap f (sol f x y) x : Nat) : Int)
def CsoRes (f : List (List Int)) : List (List Int) → List (List Int) → Int → Prop := GRes (Cyc f) f.length (csH1 f) (csH2 f) 1
theorem CsoRes.ex (f : List (List Int)) : ∃ zf zg code, CsoRes f zf zg code ∧ ZSz 1048576 zf zf.length zg zg.length := GRes.ex _ _ _ _ _ (fun h => by have := h.le; omega)
end Go.Proofs.Ythkhkehpmolfaaa
