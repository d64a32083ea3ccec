import Derived.Test.YtngfdkmiifpbgaaZh
namespace Go.Proofs.Ytngfdkmiifpbgaa
open Go Go.RowKit
def gcyH (n : Nat) : Nat → Nat → Int := fun a b => (((a + b) % n : Nat) : Int)
def GcyRes (x : Int) : List (List Int) → Int → Prop := FmRes (1 ≤ x ∧ x ≤ 12) 2 x.toNat (gcyH x.toNat)
theorem GcyRes.ex (x : Int) : ∃ zs code, GcyRes x zs code ∧ zs.length ≤ 1048576 ∧ ∀ i, i < zs.length → (zs.getD i []).length ≤ 1048576 := FmRes.ex (1 ≤ x ∧ x ≤ 12) 2 x.toNat (gcyH x.toNat) (fun h => by omega)
end Go.Proofs.Ytngfdkmiifpbgaa
