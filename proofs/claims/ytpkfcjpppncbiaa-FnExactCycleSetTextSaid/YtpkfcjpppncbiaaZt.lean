import Derived.Test.YtpkfcjpppncbiaaZp
import Derived.Test.YtpkfcjpppncbiaaZd
namespace Go.Proofs.Ytpkfcjpppncbiaa
open Go Go.RowKit
set_option maxHeartbeats 1000000

theorem ttextWS_any (A : Option Addr) (n c : Nat) (rows : List (List Int)) (s : ByteArray) (code : Int) (w : World) (hn : rows.length = n) (_hb : n ≤ 1048576) (hbs : ∀ i, i < rows.length → (rows.getD i []).length ≤ 1048576) (hx : Rd2 w A rows) (hr : TTextRes rows s code) :
    Calls Try.prog 28 #[.slice A n c] w fun e w' => e = .returned (.tuple #[.string s, .int .i64 code]) ∧ Below w.heap.size w w' := by
  have HN := hide hn
  clear hn
  rcases hr with ⟨hp, rfl, rfl⟩ | ⟨hp, rfl, rfl⟩
  · have HP := hide hp
    clear hp
    go_enter Try.func28, Try.ntmps28
    go_wp2_with fail
    refine (l01Table_any _ _ _ rows true _ HN.out (by omega) (fun i hi => by have := hbs i hi; omega) hx (by simp [HP.out])).mono ?_
    rintro e w1 ⟨rfl, hq1⟩
    have HQ1 := hide (hq1.below w.heap.size)
    clear hq1
    go_wp2_with fail
    refine (l01Text_any _ _ _ rows _ HN.out HP.out (hx.later HQ1.out)).mono ?_
    rintro e w2 ⟨rfl, hq2⟩
    have HQ2 := hide hq2
    clear hq2
    go_wp2_with fail
    go_ret2
    exact ⟨rfl, HQ1.out.trans (HQ2.out.mono HQ1.out.size)⟩
  · have HP := hide hp
    clear hp
    go_enter Try.func28, Try.ntmps28
    go_wp2_with fail
    refine (l01Table_any _ _ _ rows false _ HN.out (by omega) (fun i hi => by have := hbs i hi; omega) hx (by simp [HP.out])).mono ?_
    rintro e w1 ⟨rfl, hq1⟩
    have HQ1 := hide (hq1.below w.heap.size)
    clear hq1
    go_wp2_with fail
    go_ret2
    exact ⟨rfl, HQ1.out⟩
end Go.Proofs.Ytpkfcjpppncbiaa
