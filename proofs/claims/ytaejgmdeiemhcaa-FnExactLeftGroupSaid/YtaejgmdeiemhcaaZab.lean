import Derived.Test.YtaejgmdeiemhcaaZz
namespace Go.Proofs.Ytaejgmdeiemhcaa
open Go Go.RowKit
set_option maxHeartbeats 1000000

theorem text_any (A : Option Addr) (n c : Nat) (xs : List Int) (w : World) (hn : xs.length = n) (hb : n ≤ 1048576) (hx : Rd w A xs) (hin : ∀ x ∈ xs, 0 ≤ x ∧ x < 12) :
    Calls Try.prog 119 #[.slice A n c] w fun e w' => e = .returned (.string (lineS xs)) ∧ Below w.heap.size w w' := by
  have HN := hide hn
  have HIN := hide hin
  clear hn hin
  go_enter Try.func119, Try.ntmps119
  go_wp2_with fail
  refine (digitsOf_any _ _ _ xs _ HN.out hb hx HIN.out).mono ?_
  rintro e w3 ⟨rfl, hq3⟩
  have HQ3 := hide hq3
  clear hq3
  go_wp2_with fail
  go_ret
  exact ⟨rfl, HQ3.out⟩
end Go.Proofs.Ytaejgmdeiemhcaa
