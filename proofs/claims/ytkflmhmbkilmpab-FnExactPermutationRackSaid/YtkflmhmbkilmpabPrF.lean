import Derived.Test.YtkflmhmbkilmpabFmF
import Derived.Test.YtkflmhmbkilmpabPig
import Derived.Test.YtkflmhmbkilmpabNe
namespace Go.Proofs.Ytkflmhmbkilmpab
open Go Go.RowKit
def prH (xs : List Int) : Nat → Nat → Int := fun _ b => xs.getD b 0
theorem prH_row {n : Nat} (xs : List Int) (hn : xs.length = n) (x : Nat) : frow n (prH xs) x = xs := by
  apply List.ext_getElem (by rw [frow_length, hn])
  intro i h1 h2
  simp [frow, prH, h2]
def PrRes (xs : List Int) : List (List Int) → Int → Prop := FmRes (Prm xs) 1 xs.length (prH xs)
theorem PrRes.ex (xs : List Int) : ∃ zs code, PrRes xs zs code ∧ zs.length ≤ 1048576 ∧ ∀ i, i < zs.length → (zs.getD i []).length ≤ 1048576 := FmRes.ex _ _ _ _ (fun h => h.2.1)
end Go.Proofs.Ytkflmhmbkilmpab
