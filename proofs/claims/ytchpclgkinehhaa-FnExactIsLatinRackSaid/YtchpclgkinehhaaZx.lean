import Derived.Test.YtchpclgkinehhaaZr
import Derived.Test.YtchpclgkinehhaaZl
namespace Go.Proofs.Ytchpclgkinehhaa
open Go Go.RowKit
def LtF (f : List (List Int)) : Prop := AllPrm (turnL f)
def LtRes (f : List (List Int)) : Bool → Int → Prop := BRes (Rck f) (LtF f)
theorem LtRes.ex (f : List (List Int)) : ∃ r code, LtRes f r code := BRes.ex _ _
end Go.Proofs.Ytchpclgkinehhaa
