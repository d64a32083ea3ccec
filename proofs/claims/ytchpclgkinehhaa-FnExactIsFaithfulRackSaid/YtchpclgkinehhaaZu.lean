import Derived.Test.YtchpclgkinehhaaZr
import Derived.Test.YtchpclgkinehhaaZl
namespace Go.Proofs.Ytchpclgkinehhaa
open Go Go.RowKit
def FaF (f : List (List Int)) : Prop := ∀ x y, x < f.length → y < x → f.getD x [] ≠ f.getD y []
def FaRes (f : List (List Int)) : Bool → Int → Prop := BRes (Rck f) (FaF f)
theorem FaRes.ex (f : List (List Int)) : ∃ r code, FaRes f r code := BRes.ex _ _
end Go.Proofs.Ytchpclgkinehhaa
