import Derived.Test.YtkagfjofjbpfeaaZr
import Derived.Test.YtkagfjofjbpfeaaZf
import Derived.Test.YtkagfjofjbpfeaaZm
import Derived.Test.YtkagfjofjbpfeaaZz
import Derived.Test.YtkagfjofjbpfeaaZo
namespace Go.Proofs.Ytkagfjofjbpfeaa
open Go Go.RowKit
set_option maxHeartbeats 1000000

theorem latinWI_any (A : Option Addr) (n c : Nat) (rows : List (List Int)) (r : Bool) (code : Int) (w : World) (hn : rows.length = n) (hb : n ≤ 1048576) (hbs : ∀ i, i < rows.length → (rows.getD i []).length ≤ 1048576) (hx : Rd2 w A rows) (hr : LatinRes rows r code) :
    Calls Try.prog 23 #[.slice A n c] w fun e w' => e = .returned (.tuple #[.bool r, .int .i64 code]) ∧ Below w.heap.size w w' := by
  have HN := hide hn
  clear hn
  rcases hr with ⟨hp, hrr, rfl⟩ | ⟨hp, rfl, rfl⟩
  · have HP := hide hp
    have HR := hide hrr
    clear hp hrr
    by_cases h1 : AllPrm rows
    · have H1 := hide h1
      have hr2 : r = true ↔ AllPrm (turnL rows) := by rw [HR.out]; simp [h1]
      have HR2 := hide hr2
      clear h1 hr2
      have hrl : ∀ i, i < rows.length → (rows.getD i []).length = n := fun i hi => by rw [HP.out.rows i hi]; exact HN.out
      have HRL := hide hrl
      have HTL : Hid ((turnL rows).length = n) := hide ((turnL_length rows).trans HN.out)
      clear hrl
      go_enter Try.func23, Try.ntmps23
      go_wp2_with fail
      refine (isTable_any _ _ _ rows true _ HN.out (by omega) (fun i hi => by have := hbs i hi; omega) hx (by simp [HP.out])).mono ?_
      rintro e w1 ⟨rfl, hq1⟩
      have HQ1 := hide (hq1.below w.heap.size)
      clear hq1
      go_wp2_with fail
      refine (rowsI_any _ _ _ rows true _ HN.out hb hbs (hx.later HQ1.out) ⟨fun _ => H1.out, fun _ => rfl⟩).mono ?_
      rintro e w2 ⟨rfl, hq2⟩
      have HQ2 := hide (HQ1.out.trans (hq2.mono HQ1.out.size))
      clear hq2
      go_wp2_with fail
      refine (turnI_any _ _ _ rows _ HN.out hb HRL.out (hx.later HQ2.out)).mono ?_
      rintro e w3 ⟨A3, c3, rfl, hq3, hobj⟩
      have HQ3 := hide (HQ2.out.trans (hq3.mono HQ2.out.size))
      have HOBJ := hide hobj
      clear hq3 hobj
      go_wp2_with fail
      refine (rowsI_any _ _ _ (turnL rows) r _ HTL.out hb (fun i hi => by rw [turnL_length] at hi; unfold turnL; rw [grid_row_length _ _ _ hi, HN.out]; exact hb) HOBJ.out.rd HR2.out).mono ?_
      rintro e w4 ⟨rfl, hq4⟩
      have HQ4 := hide (HQ3.out.trans (hq4.mono HQ3.out.size))
      clear hq4
      go_wp2_with fail
      go_ret2
      exact ⟨rfl, HQ4.out⟩
    · have H1 := hide h1
      have hrf : r = false := by
        cases r
        · rfl
        · exact absurd (HR.out.1 rfl).1 h1
      subst hrf
      clear h1
      go_enter Try.func23, Try.ntmps23
      go_wp2_with fail
      refine (isTable_any _ _ _ rows true _ HN.out (by omega) (fun i hi => by have := hbs i hi; omega) hx (by simp [HP.out])).mono ?_
      rintro e w1 ⟨rfl, hq1⟩
      have HQ1 := hide (hq1.below w.heap.size)
      clear hq1
      go_wp2_with fail
      refine (rowsI_any _ _ _ rows false _ HN.out hb hbs (hx.later HQ1.out) ⟨fun h => (by cases h), fun h => absurd h H1.out⟩).mono ?_
      rintro e w2 ⟨rfl, hq2⟩
      have HQ2 := hide (HQ1.out.trans (hq2.mono HQ1.out.size))
      clear hq2
      go_wp2_with fail
      go_ret2
      exact ⟨rfl, HQ2.out⟩
  · have HP := hide hp
    clear hp
    go_enter Try.func23, Try.ntmps23
    go_wp2_with fail
    refine (isTable_any _ _ _ rows false _ HN.out (by omega) (fun i hi => by have := hbs i hi; omega) hx (by simp [HP.out])).mono ?_
    rintro e w1 ⟨rfl, hq1⟩
    have HQ1 := hide (hq1.below w.heap.size)
    clear hq1
    go_wp2_with fail
    go_ret2
    exact ⟨rfl, HQ1.out⟩
end Go.Proofs.Ytkagfjofjbpfeaa
namespace Go.Proofs.Ytkagfjofjbpfeaa
open Go Go.RowKit
set_option maxHeartbeats 1000000

theorem latinWS_any (A : Option Addr) (n c : Nat) (rows : List (List Int)) (r : Bool) (code : Int) (w : World) (hn : rows.length = n) (hb : n ≤ 1048576) (hbs : ∀ i, i < rows.length → (rows.getD i []).length ≤ 1048576) (hx : Rd2 w A rows) (hr : LatinRes rows r code) :
    Calls Try.prog 22 #[.slice A n c] w fun e w' => e = .returned (.tuple #[.bool r, .int .i64 code]) ∧ Below w.heap.size w w' := by
  have HN := hide hn
  clear hn
  rcases hr with ⟨hp, hrr, rfl⟩ | ⟨hp, rfl, rfl⟩
  · have HP := hide hp
    have HR := hide hrr
    clear hp hrr
    by_cases h1 : AllPrm rows
    · have H1 := hide h1
      have hr2 : r = true ↔ AllPrm (turnL rows) := by rw [HR.out]; simp [h1]
      have HR2 := hide hr2
      clear h1 hr2
      have hrl : ∀ i, i < rows.length → (rows.getD i []).length = n := fun i hi => by rw [HP.out.rows i hi]; exact HN.out
      have HRL := hide hrl
      have HTL : Hid ((turnL rows).length = n) := hide ((turnL_length rows).trans HN.out)
      clear hrl
      go_enter Try.func22, Try.ntmps22
      go_wp2_with fail
      refine (l01Table_any _ _ _ rows true _ HN.out (by omega) (fun i hi => by have := hbs i hi; omega) hx (by simp [HP.out])).mono ?_
      rintro e w1 ⟨rfl, hq1⟩
      have HQ1 := hide (hq1.below w.heap.size)
      clear hq1
      go_wp2_with fail
      refine (rowsS_any _ _ _ rows true _ HN.out hb hbs (hx.later HQ1.out) ⟨fun _ => H1.out, fun _ => rfl⟩).mono ?_
      rintro e w2 ⟨rfl, hq2⟩
      have HQ2 := hide (HQ1.out.trans (hq2.mono HQ1.out.size))
      clear hq2
      go_wp2_with fail
      refine (l01Turn_any _ _ _ rows _ HN.out hb HRL.out (hx.later HQ2.out)).mono ?_
      rintro e w3 ⟨A3, c3, rfl, hq3, hobj⟩
      have HQ3 := hide (HQ2.out.trans (hq3.mono HQ2.out.size))
      have HOBJ := hide hobj
      clear hq3 hobj
      go_wp2_with fail
      refine (rowsS_any _ _ _ (turnL rows) r _ HTL.out hb (fun i hi => by rw [turnL_length] at hi; unfold turnL; rw [grid_row_length _ _ _ hi, HN.out]; exact hb) HOBJ.out.rd HR2.out).mono ?_
      rintro e w4 ⟨rfl, hq4⟩
      have HQ4 := hide (HQ3.out.trans (hq4.mono HQ3.out.size))
      clear hq4
      go_wp2_with fail
      go_ret2
      exact ⟨rfl, HQ4.out⟩
    · have H1 := hide h1
      have hrf : r = false := by
        cases r
        · rfl
        · exact absurd (HR.out.1 rfl).1 h1
      subst hrf
      clear h1
      go_enter Try.func22, Try.ntmps22
      go_wp2_with fail
      refine (l01Table_any _ _ _ rows true _ HN.out (by omega) (fun i hi => by have := hbs i hi; omega) hx (by simp [HP.out])).mono ?_
      rintro e w1 ⟨rfl, hq1⟩
      have HQ1 := hide (hq1.below w.heap.size)
      clear hq1
      go_wp2_with fail
      refine (rowsS_any _ _ _ rows false _ HN.out hb hbs (hx.later HQ1.out) ⟨fun h => (by cases h), fun h => absurd h H1.out⟩).mono ?_
      rintro e w2 ⟨rfl, hq2⟩
      have HQ2 := hide (HQ1.out.trans (hq2.mono HQ1.out.size))
      clear hq2
      go_wp2_with fail
      go_ret2
      exact ⟨rfl, HQ2.out⟩
  · have HP := hide hp
    clear hp
    go_enter Try.func22, Try.ntmps22
    go_wp2_with fail
    refine (l01Table_any _ _ _ rows false _ HN.out (by omega) (fun i hi => by have := hbs i hi; omega) hx (by simp [HP.out])).mono ?_
    rintro e w1 ⟨rfl, hq1⟩
    have HQ1 := hide (hq1.below w.heap.size)
    clear hq1
    go_wp2_with fail
    go_ret2
    exact ⟨rfl, HQ1.out⟩
end Go.Proofs.Ytkagfjofjbpfeaa
