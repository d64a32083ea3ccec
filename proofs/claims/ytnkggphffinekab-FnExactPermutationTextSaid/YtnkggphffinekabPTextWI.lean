import Derived.Test.YtnkggphffinekabPrm
import Derived.Test.YtnkggphffinekabTextI
namespace Go.Proofs.Ytnkggphffinekab
open Go Go.RowKit
set_option maxHeartbeats 1000000

theorem ptextWI_any (A : Option Addr) (n c : Nat) (xs : List Int) (s : ByteArray) (code : Int) (w : World) (hn : xs.length = n) (hb : n ≤ 1048576) (hx : Rd w A xs) (hr : PTextRes xs s code) :
    Calls Try.prog 33 #[.slice A n c] w fun e w' => e = .returned (.tuple #[.string s, .int .i64 code]) ∧ Below w.heap.size w w' := by
  have HN := hide hn
  clear hn
  rcases hr with ⟨hp, rfl, rfl⟩ | ⟨hp, rfl, rfl⟩
  · have HP := hide hp
    clear hp
    go_enter Try.func33, Try.ntmps33
    go_wp2_with fail
    refine (isPerm_any _ _ _ xs true _ HN.out (by omega) hx (by simp [HP.out])).mono ?_
    rintro e w1 ⟨rfl, hq1⟩
    have HQ1 := hide hq1
    clear hq1
    go_wp2_with fail
    refine (text_any _ _ _ xs _ HN.out hb (hx.later HQ1.out) HP.out.dig).mono ?_
    rintro e w3 ⟨rfl, hq3⟩
    have HQ3 := hide hq3
    clear hq3
    go_wp2_with fail
    go_ret2
    exact ⟨rfl, HQ1.out.trans (HQ3.out.mono HQ1.out.size)⟩
  · have HP := hide hp
    clear hp
    go_enter Try.func33, Try.ntmps33
    go_wp2_with fail
    refine (isPerm_any _ _ _ xs false _ HN.out (by omega) hx (by simp [HP.out])).mono ?_
    rintro e w1 ⟨rfl, hq1⟩
    have HQ1 := hide hq1
    clear hq1
    go_wp2_with fail
    go_ret2
    exact ⟨rfl, HQ1.out⟩
end Go.Proofs.Ytnkggphffinekab
