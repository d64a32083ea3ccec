import Derived.Test.YtkagfjofjbpfeaaZf
namespace Go.Proofs.Ytkagfjofjbpfeaa
open Go Go.RowKit
set_option maxHeartbeats 400000
theorem specIsTable_any (A : Option Addr) (n c : Nat) (rows : List (List Int)) (r : Bool) (w : World) (hn : rows.length = n) (hb : n ≤ 9223372036854775807) (hbs : ∀ i, i < rows.length → (rows.getD i []).length ≤ 9223372036854775807) (hr : Rd2 w A rows) (hrr : r = true ↔ Tbl rows) :
    Calls Try.prog 16 #[.slice A n c] w fun e w' => e = .returned (.bool r) ∧ Quiet w w' := by
  have HN := hide hn
  have HR := hide hrr
  clear hn hrr
  go_enter Try.func16, Try.ntmps16
  go_wp2_with fail
  refine (l01Table_any _ _ _ rows r _ HN.out hb hbs hr HR.out).mono ?_
  rintro e w1 ⟨rfl, hq⟩
  go_wp2_with fail
  go_ret
  exact ⟨rfl, hq⟩
theorem law_isTable (A : Option Addr) (n c : Nat) (rows : List (List Int)) (w : World) (hn : rows.length = n) (hb : n ≤ 9223372036854775807) (hbs : ∀ i, i < rows.length → (rows.getD i []).length ≤ 9223372036854775807) (hr : Rd2 w A rows) :
    Calls Try.prog 3 #[.slice A n c] w fun e w' => e = .returned (.bool true) ∧ Below w.heap.size w w' := by
  have HN := hide hn
  clear hn
  obtain ⟨t, ht⟩ : ∃ t : Bool, t = true ↔ Tbl rows := by
    by_cases h : Tbl rows
    · exact ⟨true, by simp [h]⟩
    · exact ⟨false, by simp [h]⟩
  have HT := hide ht
  clear ht
  go_enter Try.func3, Try.ntmps3
  go_wp2_with fail
  refine (szz_any _ _ _ rows 1048576 _ HN.out hb hbs (by omega) (by omega) hr).mono ?_
  rintro e w1 ⟨r, hs, rfl, rfl⟩
  rcases hs with rfl | ⟨h0, h1, h2, h3⟩
  · go_wp2_with fail
    go_ret
    exact ⟨rfl, Below.refl _ _⟩
  · have H2 := hide h2
    have H3 := hide h3
    clear h2 h3 hbs
    have n1 : n ≤ 1048576 := by have := H2.out; have := HN.out; omega
    go_wp2_with fail
    refine (toInt64SS_any _ _ _ rows _ HN.out n1 (fun i hi => by have := H3.out i hi; omega) hr).mono ?_
    rintro e w1 ⟨rfl, hb1, ht1, _⟩
    have HB1 := hide hb1
    have HT1 := hide ht1
    clear hb1 ht1
    go_wp2_with fail
    refine (specIsTable_any _ _ _ rows t _ HN.out hb (fun i hi => by have := H3.out i hi; omega) HT1.out.rd HT.out).mono ?_
    rintro e w2 ⟨rfl, hq2⟩
    have HB2 : Hid (Below w.heap.size w w2) := hide (HB1.out.trans (hq2.below _))
    clear hq2
    go_wp2_with fail
    refine (toInt64SS_any _ _ _ rows _ HN.out n1 (fun i hi => by have := H3.out i hi; omega) (hr.later HB2.out)).mono ?_
    rintro e w3 ⟨rfl, hb3, ht3, _⟩
    have HB3 : Hid (Below w.heap.size w w3) := hide (HB2.out.trans (hb3.mono HB2.out.size))
    have HT3 := hide ht3
    clear hb3 ht3
    go_wp2_with fail
    refine (isTable_any _ _ _ rows t _ HN.out hb (fun i hi => by have := H3.out i hi; omega) HT3.out.rd HT.out).mono ?_
    rintro e w4 ⟨rfl, hq4⟩
    have HB4 : Hid (Below w.heap.size w w4) := hide (HB3.out.trans (hq4.below _))
    have HR4 : Hid (Rd2 w4 (some ⟨w2.heap.size, 0, none⟩) rows) := hide (hq4.rd2 HT3.out.rd)
    clear hq4
    have htt : (t != t) = false := by simp
    go_wp2_with fail
    refine (toInt64SS_any _ _ _ rows _ HN.out n1 (fun i hi => by have := H3.out i hi; omega) (hr.later HB4.out)).mono ?_
    rintro e w5 ⟨rfl, hb5, ht5, _⟩
    have HB5 : Hid (Below w.heap.size w w5) := hide (HB4.out.trans (hb5.mono HB4.out.size))
    have HR5 : Hid (Rd2 w5 (some ⟨w2.heap.size, 0, none⟩) rows) := hide (HR4.out.later hb5)
    have HT5 := hide ht5
    clear hb5 ht5
    go_wp2_with fail
    refine (eqq_any _ _ _ _ _ _ rows rows true _ HN.out HN.out hb hb (fun i hi => by have := H3.out i hi; omega) (fun i hi => by have := H3.out i hi; omega) HR5.out HT5.out.rd (by simp)).mono ?_
    rintro e w6 ⟨rfl, hq6⟩
    go_wp2_with fail
    go_ret
    exact ⟨rfl, HB5.out.trans (hq6.below _)⟩
end Go.Proofs.Ytkagfjofjbpfeaa
