import Derived.Test.YtkagfjofjbpfeaaZr
import Derived.Test.YtkagfjofjbpfeaaZf
import Derived.Test.YtkagfjofjbpfeaaZm
import Derived.Test.YtkagfjofjbpfeaaZo
namespace Go.Proofs.Ytkagfjofjbpfeaa
open Go Go.RowKit
set_option maxHeartbeats 1000000

theorem hasRowsWI_any (A : Option Addr) (n c : Nat) (rows : List (List Int)) (r : Bool) (code : Int) (w : World) (hn : rows.length = n) (hb : n ≤ 1048576) (hbs : ∀ i, i < rows.length → (rows.getD i []).length ≤ 1048576) (hx : Rd2 w A rows) (hr : RowsRes rows r code) :
    Calls Try.prog 21 #[.slice A n c] w fun e w' => e = .returned (.tuple #[.bool r, .int .i64 code]) ∧ Below w.heap.size w w' := by
  have HN := hide hn
  clear hn
  rcases hr with ⟨hp, hrr, rfl⟩ | ⟨hp, rfl, rfl⟩
  · have HP := hide hp
    have HR := hide hrr
    clear hp hrr
    go_enter Try.func21, Try.ntmps21
    go_wp2_with fail
    refine (isTable_any _ _ _ rows true _ HN.out (by omega) (fun i hi => by have := hbs i hi; omega) hx (by simp [HP.out])).mono ?_
    rintro e w1 ⟨rfl, hq1⟩
    have HQ1 := hide (hq1.below w.heap.size)
    clear hq1
    go_wp2_with fail
    refine (rowsI_any _ _ _ rows r _ HN.out hb hbs (hx.later HQ1.out) HR.out).mono ?_
    rintro e w2 ⟨rfl, hq2⟩
    have HQ2 := hide hq2
    clear hq2
    go_wp2_with fail
    go_ret2
    exact ⟨rfl, HQ1.out.trans (HQ2.out.mono HQ1.out.size)⟩
  · have HP := hide hp
    clear hp
    go_enter Try.func21, Try.ntmps21
    go_wp2_with fail
    refine (isTable_any _ _ _ rows false _ HN.out (by omega) (fun i hi => by have := hbs i hi; omega) hx (by simp [HP.out])).mono ?_
    rintro e w1 ⟨rfl, hq1⟩
    have HQ1 := hide (hq1.below w.heap.size)
    clear hq1
    go_wp2_with fail
    go_ret2
    exact ⟨rfl, HQ1.out⟩
end Go.Proofs.Ytkagfjofjbpfeaa
namespace Go.Proofs.Ytkagfjofjbpfeaa
open Go Go.RowKit
set_option maxHeartbeats 1000000

theorem hasRowsWS_any (A : Option Addr) (n c : Nat) (rows : List (List Int)) (r : Bool) (code : Int) (w : World) (hn : rows.length = n) (hb : n ≤ 1048576) (hbs : ∀ i, i < rows.length → (rows.getD i []).length ≤ 1048576) (hx : Rd2 w A rows) (hr : RowsRes rows r code) :
    Calls Try.prog 20 #[.slice A n c] w fun e w' => e = .returned (.tuple #[.bool r, .int .i64 code]) ∧ Below w.heap.size w w' := by
  have HN := hide hn
  clear hn
  rcases hr with ⟨hp, hrr, rfl⟩ | ⟨hp, rfl, rfl⟩
  · have HP := hide hp
    have HR := hide hrr
    clear hp hrr
    go_enter Try.func20, Try.ntmps20
    go_wp2_with fail
    refine (l01Table_any _ _ _ rows true _ HN.out (by omega) (fun i hi => by have := hbs i hi; omega) hx (by simp [HP.out])).mono ?_
    rintro e w1 ⟨rfl, hq1⟩
    have HQ1 := hide (hq1.below w.heap.size)
    clear hq1
    go_wp2_with fail
    refine (rowsS_any _ _ _ rows r _ HN.out hb hbs (hx.later HQ1.out) HR.out).mono ?_
    rintro e w2 ⟨rfl, hq2⟩
    have HQ2 := hide hq2
    clear hq2
    go_wp2_with fail
    go_ret2
    exact ⟨rfl, HQ1.out.trans (HQ2.out.mono HQ1.out.size)⟩
  · have HP := hide hp
    clear hp
    go_enter Try.func20, Try.ntmps20
    go_wp2_with fail
    refine (l01Table_any _ _ _ rows false _ HN.out (by omega) (fun i hi => by have := hbs i hi; omega) hx (by simp [HP.out])).mono ?_
    rintro e w1 ⟨rfl, hq1⟩
    have HQ1 := hide (hq1.below w.heap.size)
    clear hq1
    go_wp2_with fail
    go_ret2
    exact ⟨rfl, HQ1.out⟩
end Go.Proofs.Ytkagfjofjbpfeaa
