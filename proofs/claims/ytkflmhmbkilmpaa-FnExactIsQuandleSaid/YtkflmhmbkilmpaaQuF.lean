import Derived.Test.YtkflmhmbkilmpaaRkF
import Derived.Test.YtkflmhmbkilmpaaKiF
import Derived.Test.YtkflmhmbkilmpaaIdentI
import Derived.Test.YtkflmhmbkilmpaaPMapF
namespace Go.Proofs.Ytkflmhmbkilmpaa
open Go Go.RowKit
def QuF (f : List (List Int)) : Prop := ∀ x, x < f.length → ap f x x = x
def QuRes (f : List (List Int)) : Bool → Int → Prop := BRes (Rck f) (QuF f)
theorem QuRes.ex (f : List (List Int)) : ∃ r code, QuRes f r code := BRes.ex _ _
theorem kink_unit (f : List (List Int)) : kinkL f = unitL f.length ↔ QuF f := by
  constructor
  · intro h x hx
    have h1 := kinkL_getD f x hx
    rw [h, unitL_getD _ _ hx] at h1
    omega
  · intro h
    unfold kinkL unitL
    apply List.map_congr_left
    intro x hx
    have hx := List.mem_range.1 hx
    rw [h x hx]
    rfl
end Go.Proofs.Ytkflmhmbkilmpaa
