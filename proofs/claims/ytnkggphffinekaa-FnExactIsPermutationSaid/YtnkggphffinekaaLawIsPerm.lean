import Derived.Test.YtnkggphffinekaaToI
import Derived.Test.YtnkggphffinekaaEqI
import Derived.Test.YtnkggphffinekaaPrm
import Derived.Test.YtnkggphffinekaaPrmS
namespace Go.Proofs.Ytnkggphffinekaa
open Go Go.RowKit
set_option maxHeartbeats 400000

theorem specIsPerm_any (A : Option Addr) (n c : Nat) (xs : List Int) (r : Bool) (w : World) (hn : xs.length = n) (hb : n ≤ 9223372036854775807) (hr : Rd w A xs) (hrr : r = true ↔ Prm xs) :
    Calls Try.prog 20 #[.slice A n c] w fun e w' => e = .returned (.bool r) ∧ Quiet w w' := by
  have HN := hide hn
  have HR := hide hrr
  clear hn hrr
  go_enter Try.func20, Try.ntmps20
  go_wp2_with fail
  refine (prmS_any _ _ _ xs r _ HN.out hb hr HR.out).mono ?_
  rintro e w1 ⟨rfl, hq⟩
  go_wp2_with fail
  go_ret
  exact ⟨rfl, hq⟩

theorem law_isPerm (A : Option Addr) (n c : Nat) (xs : List Int) (w : World) (hn : xs.length = n) (hb : n ≤ 9223372036854775807) (hr : Rd w A xs) :
    Calls Try.prog 7 #[.slice A n c] w fun e w' => e = .returned (.bool true) ∧ Below w.heap.size w w' := by
  have HN := hide hn
  clear hn
  obtain ⟨t, ht⟩ : ∃ t : Bool, t = true ↔ Prm xs := by
    by_cases h : Prm xs
    · exact ⟨true, by simp [h]⟩
    · exact ⟨false, by simp [h]⟩
  have HT := hide ht
  clear ht
  by_cases n1 : n ≤ 1048576
  · go_enter Try.func7, Try.ntmps7
    go_wp2_with fail
    refine (toInt64S_any _ _ _ xs _ HN.out n1 hr).mono ?_
    rintro e w1 ⟨rfl, hb1, ht1, _⟩
    have HB1 := hide hb1
    have HT1 := hide ht1
    clear hb1 ht1
    go_wp2_with fail
    refine (specIsPerm_any _ _ _ xs t _ HN.out hb HT1.out.rd HT.out).mono ?_
    rintro e w2 ⟨rfl, hq2⟩
    have HB2 : Hid (Below w.heap.size w w2) := hide (HB1.out.trans (hq2.below _))
    clear hq2
    go_wp2_with fail
    refine (toInt64S_any _ _ _ xs _ HN.out n1 (hr.later HB2.out)).mono ?_
    rintro e w3 ⟨rfl, hb3, ht3, _⟩
    have HB3 : Hid (Below w.heap.size w w3) := hide (HB2.out.trans (hb3.mono HB2.out.size))
    have HT3 := hide ht3
    clear hb3 ht3
    go_wp2_with fail
    refine (isPerm_any _ _ _ xs t _ HN.out hb HT3.out.rd HT.out).mono ?_
    rintro e w4 ⟨rfl, hq4⟩
    have HB4 : Hid (Below w.heap.size w w4) := hide (HB3.out.trans (hq4.mono HB3.out.size))
    have HR4 : Hid (Rd w4 (some ⟨w2.heap.size, 0, none⟩) xs) := hide (HT3.out.rd.later hq4)
    clear hq4
    have htt : (t != t) = false := by simp
    go_wp2_with fail
    refine (toInt64S_any _ _ _ xs _ HN.out n1 (hr.later HB4.out)).mono ?_
    rintro e w5 ⟨rfl, hb5, ht5, _⟩
    have HB5 : Hid (Below w.heap.size w w5) := hide (HB4.out.trans (hb5.mono HB4.out.size))
    have HR5 : Hid (Rd w5 (some ⟨w2.heap.size, 0, none⟩) xs) := hide (HR4.out.later hb5)
    have HT5 := hide ht5
    clear hb5 ht5
    go_wp2_with fail
    refine (eq_any _ _ _ _ _ _ xs xs true _ HN.out HN.out hb hb HR5.out HT5.out.rd (by simp)).mono ?_
    rintro e w6 ⟨rfl, hq6⟩
    go_wp2_with fail
    go_ret
    exact ⟨rfl, HB5.out.trans (hq6.below _)⟩
  · go_enter Try.func7, Try.ntmps7
    go_wp2_with fail
    go_ret
    exact ⟨rfl, Below.refl _ _⟩
end Go.Proofs.Ytnkggphffinekaa
