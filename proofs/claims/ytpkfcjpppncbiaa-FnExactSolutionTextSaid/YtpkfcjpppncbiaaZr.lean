import Derived.Test.YtpkfcjpppncbiaaZm
import Derived.Test.YtpkfcjpppncbiaaZl
import Derived.Test.YtpkfcjpppncbiaaZh
import Derived.Test.YtpkfcjpppncbiaaZf
import Derived.Test.YtpkfcjpppncbiaaZd
import Derived.Test.YtpkfcjpppncbiaaZk

namespace Go.Proofs.Ytpkfcjpppncbiaa
open Go Go.RowKit
set_option maxHeartbeats 1000000

theorem mapI_any (A : Option Addr) (n c : Nat) (f : List (List Int)) (B : Option Addr) (m d : Nat) (s : List (List Int)) (r : Bool) (w : World) (hz : ZArg 1048576 w A n f B m s) (hr : r = true ↔ PMap f s) :
    Calls Try.prog 31 #[.agg #[.slice A n c, .slice B m d]] w fun e w' => e = .returned (.bool r) ∧ Below w.heap.size w w' := by
  have HZ := hide hz
  have HR := hide hr
  clear hz hr
  have HB0 := hide ((Below.refl _ w).alloc (Nat.le_refl _) (Obj.cells #[Value.slice A n c, Value.slice B m d] 43))
  have HK0 := hide (Blk.new w 43 [.slice A n c, .slice B m d])
  by_cases h1 : Tbl f
  · have H1 := hide h1
    clear h1
    by_cases h2 : Tbl s
    · have H2 := hide h2
      clear h2
      have HEQ : Hid (r = true ↔ n = m) := hide (by rw [HR.out, ← HZ.out.sz.fl, ← HZ.out.sz.sl]; exact ⟨fun h => h.2.2, fun h => ⟨H1.out, H2.out, h⟩⟩)
      have hfin : r = decide (n = m) := by
        have h := HEQ.out
        cases r <;> simp at h ⊢ <;> exact h
      by_cases hnm : n = m
      · subst hnm
        simp at hfin
        subst hfin
        go_enter Try.func31, Try.ntmps31
        go_wp2_with fail
        refine (isTable_any _ _ _ f true _ HZ.out.sz.fl (by have := HZ.out.sz.nb; omega) (fun i hi => by have := HZ.out.sz.nr i hi; omega) (HZ.out.fst.later HB0.out) (by simp [H1.out])).mono ?_
        rintro e w1 ⟨rfl, hq1⟩
        have HB1 := hide (HB0.out.trans (hq1.below _))
        have HK1 := hide (HK0.out.later (hq1.below _))
        have k0 := HK1.out.cell 0 _ rfl
        have k1 := HK1.out.cell 1 _ rfl
        clear hq1
        go_wp2_with fail
        clear k0 k1
        refine (isTable_any _ _ _ s true _ HZ.out.sz.sl (by have := HZ.out.sz.mb; omega) (fun i hi => by have := HZ.out.sz.mr i hi; omega) (HZ.out.snd.later HB1.out) (by simp [H2.out])).mono ?_
        rintro e w2 ⟨rfl, hq2⟩
        have HB2 := hide (HB1.out.trans (hq2.below _))
        have HK2 := hide (HK1.out.later (hq2.below _))
        have k0 := HK2.out.cell 0 _ rfl
        have k1 := HK2.out.cell 1 _ rfl
        have hnb := HZ.out.sz.nb
        clear hq2
        go_wp2_with fail
        go_ret
        exact ⟨rfl, HB2.out⟩
      · have hne : decide ((n : Int) = (m : Int)) = false := by simp; omega
        have hne2 : ((n : Int) == (m : Int)) = false := by simp; omega
        simp [hnm] at hfin
        subst hfin
        clear hnm
        go_enter Try.func31, Try.ntmps31
        go_wp2_with fail
        refine (isTable_any _ _ _ f true _ HZ.out.sz.fl (by have := HZ.out.sz.nb; omega) (fun i hi => by have := HZ.out.sz.nr i hi; omega) (HZ.out.fst.later HB0.out) (by simp [H1.out])).mono ?_
        rintro e w1 ⟨rfl, hq1⟩
        have HB1 := hide (HB0.out.trans (hq1.below _))
        have HK1 := hide (HK0.out.later (hq1.below _))
        have k0 := HK1.out.cell 0 _ rfl
        have k1 := HK1.out.cell 1 _ rfl
        clear hq1
        go_wp2_with fail
        clear k0 k1
        refine (isTable_any _ _ _ s true _ HZ.out.sz.sl (by have := HZ.out.sz.mb; omega) (fun i hi => by have := HZ.out.sz.mr i hi; omega) (HZ.out.snd.later HB1.out) (by simp [H2.out])).mono ?_
        rintro e w2 ⟨rfl, hq2⟩
        have HB2 := hide (HB1.out.trans (hq2.below _))
        have HK2 := hide (HK1.out.later (hq2.below _))
        have k0 := HK2.out.cell 0 _ rfl
        have k1 := HK2.out.cell 1 _ rfl
        have hnb := HZ.out.sz.nb
        have hmb := HZ.out.sz.mb
        clear hq2
        go_wp2_with fail
        go_ret
        exact ⟨rfl, HB2.out⟩
    · have hrt : r = false := by
        cases r
        · rfl
        · exact absurd (HR.out.1 rfl).2.1 h2
      have H2 := hide h2
      subst hrt
      clear h2
      go_enter Try.func31, Try.ntmps31
      go_wp2_with fail
      refine (isTable_any _ _ _ f true _ HZ.out.sz.fl (by have := HZ.out.sz.nb; omega) (fun i hi => by have := HZ.out.sz.nr i hi; omega) (HZ.out.fst.later HB0.out) (by simp [H1.out])).mono ?_
      rintro e w1 ⟨rfl, hq1⟩
      have HB1 := hide (HB0.out.trans (hq1.below _))
      have HK1 := hide (HK0.out.later (hq1.below _))
      have k0 := HK1.out.cell 0 _ rfl
      have k1 := HK1.out.cell 1 _ rfl
      clear hq1
      go_wp2_with fail
      refine (isTable_any _ _ _ s false _ HZ.out.sz.sl (by have := HZ.out.sz.mb; omega) (fun i hi => by have := HZ.out.sz.mr i hi; omega) (HZ.out.snd.later HB1.out) (by simp [H2.out])).mono ?_
      rintro e w2 ⟨rfl, hq2⟩
      have HB2 := hide (HB1.out.trans (hq2.below _))
      clear hq2
      go_wp2_with fail
      go_ret
      exact ⟨rfl, HB2.out⟩
  · have hrt : r = false := by
      cases r
      · rfl
      · exact absurd (HR.out.1 rfl).1 h1
    have H1 := hide h1
    subst hrt
    clear h1
    go_enter Try.func31, Try.ntmps31
    go_wp2_with fail
    refine (isTable_any _ _ _ f false _ HZ.out.sz.fl (by have := HZ.out.sz.nb; omega) (fun i hi => by have := HZ.out.sz.nr i hi; omega) (HZ.out.fst.later HB0.out) (by simp [H1.out])).mono ?_
    rintro e w1 ⟨rfl, hq1⟩
    have HB1 := hide (HB0.out.trans (hq1.below _))
    clear hq1
    go_wp2_with fail
    go_ret
    exact ⟨rfl, HB1.out⟩
end Go.Proofs.Ytpkfcjpppncbiaa
namespace Go.Proofs.Ytpkfcjpppncbiaa
open Go Go.RowKit
/-- The text of a pair map. -/
def solS (f s : List (List Int)) : ByteArray := (tabS f ++ ⟨#[124]⟩) ++ tabS s
def StRes (f s : List (List Int)) (v : ByteArray) (code : Int) : Prop := (PMap f s ∧ v = solS f s ∧ code = 0) ∨ (¬ PMap f s ∧ v = ⟨#[]⟩ ∧ code = 1)
theorem StRes.ex (f s : List (List Int)) : ∃ v code, StRes f s v code := by
  by_cases h : PMap f s
  · exact ⟨_, _, .inl ⟨h, rfl, rfl⟩⟩
  · exact ⟨_, _, .inr ⟨h, rfl, rfl⟩⟩
theorem tabS_small {f : List (List Int)} (h : Tbl f) : (tabS f).size ≤ 156 := by
  have h1 := tabS_size f 12 (fun i hi => by rw [h.rows i hi]; exact h.2.1) f.length (Nat.le_refl _)
  rw [List.take_of_length_le (Nat.le_refl _)] at h1
  have h2 := h.2.1
  have h3 : f.length * 13 ≤ 12 * 13 := Nat.mul_le_mul_right 13 h2
  omega
end Go.Proofs.Ytpkfcjpppncbiaa
namespace Go.Proofs.Ytpkfcjpppncbiaa
open Go Go.RowKit
set_option maxHeartbeats 1000000

theorem mapS_any (A : Option Addr) (n c : Nat) (f : List (List Int)) (B : Option Addr) (m d : Nat) (s : List (List Int)) (r : Bool) (w : World) (hz : ZArg 1048576 w A n f B m s) (hr : r = true ↔ PMap f s) :
    Calls Try.prog 29 #[.agg #[.slice A n c, .slice B m d]] w fun e w' => e = .returned (.bool r) ∧ Below w.heap.size w w' := by
  have HZ := hide hz
  have HR := hide hr
  clear hz hr
  have HB0 := hide ((Below.refl _ w).alloc (Nat.le_refl _) (Obj.cells #[Value.slice A n c, Value.slice B m d] 43))
  have HK0 := hide (Blk.new w 43 [.slice A n c, .slice B m d])
  by_cases h1 : Tbl f
  · have H1 := hide h1
    clear h1
    by_cases h2 : Tbl s
    · have H2 := hide h2
      clear h2
      have HEQ : Hid (r = true ↔ n = m) := hide (by rw [HR.out, ← HZ.out.sz.fl, ← HZ.out.sz.sl]; exact ⟨fun h => h.2.2, fun h => ⟨H1.out, H2.out, h⟩⟩)
      have hfin : r = decide (n = m) := by
        have h := HEQ.out
        cases r <;> simp at h ⊢ <;> exact h
      by_cases hnm : n = m
      · subst hnm
        simp at hfin
        subst hfin
        go_enter Try.func29, Try.ntmps29
        go_wp2_with fail
        refine (l01Table_any _ _ _ f true _ HZ.out.sz.fl (by have := HZ.out.sz.nb; omega) (fun i hi => by have := HZ.out.sz.nr i hi; omega) (HZ.out.fst.later HB0.out) (by simp [H1.out])).mono ?_
        rintro e w1 ⟨rfl, hq1⟩
        have HB1 := hide (HB0.out.trans (hq1.below _))
        have HK1 := hide (HK0.out.later (hq1.below _))
        have k0 := HK1.out.cell 0 _ rfl
        have k1 := HK1.out.cell 1 _ rfl
        clear hq1
        go_wp2_with fail
        clear k0 k1
        refine (l01Table_any _ _ _ s true _ HZ.out.sz.sl (by have := HZ.out.sz.mb; omega) (fun i hi => by have := HZ.out.sz.mr i hi; omega) (HZ.out.snd.later HB1.out) (by simp [H2.out])).mono ?_
        rintro e w2 ⟨rfl, hq2⟩
        have HB2 := hide (HB1.out.trans (hq2.below _))
        have HK2 := hide (HK1.out.later (hq2.below _))
        have k0 := HK2.out.cell 0 _ rfl
        have k1 := HK2.out.cell 1 _ rfl
        have hnb := HZ.out.sz.nb
        clear hq2
        go_wp2_with fail
        go_ret
        exact ⟨rfl, HB2.out⟩
      · have hne : decide ((n : Int) = (m : Int)) = false := by simp; omega
        have hne2 : ((n : Int) == (m : Int)) = false := by simp; omega
        simp [hnm] at hfin
        subst hfin
        clear hnm
        go_enter Try.func29, Try.ntmps29
        go_wp2_with fail
        refine (l01Table_any _ _ _ f true _ HZ.out.sz.fl (by have := HZ.out.sz.nb; omega) (fun i hi => by have := HZ.out.sz.nr i hi; omega) (HZ.out.fst.later HB0.out) (by simp [H1.out])).mono ?_
        rintro e w1 ⟨rfl, hq1⟩
        have HB1 := hide (HB0.out.trans (hq1.below _))
        have HK1 := hide (HK0.out.later (hq1.below _))
        have k0 := HK1.out.cell 0 _ rfl
        have k1 := HK1.out.cell 1 _ rfl
        clear hq1
        go_wp2_with fail
        clear k0 k1
        refine (l01Table_any _ _ _ s true _ HZ.out.sz.sl (by have := HZ.out.sz.mb; omega) (fun i hi => by have := HZ.out.sz.mr i hi; omega) (HZ.out.snd.later HB1.out) (by simp [H2.out])).mono ?_
        rintro e w2 ⟨rfl, hq2⟩
        have HB2 := hide (HB1.out.trans (hq2.below _))
        have HK2 := hide (HK1.out.later (hq2.below _))
        have k0 := HK2.out.cell 0 _ rfl
        have k1 := HK2.out.cell 1 _ rfl
        have hnb := HZ.out.sz.nb
        have hmb := HZ.out.sz.mb
        clear hq2
        go_wp2_with fail
        go_ret
        exact ⟨rfl, HB2.out⟩
    · have hrt : r = false := by
        cases r
        · rfl
        · exact absurd (HR.out.1 rfl).2.1 h2
      have H2 := hide h2
      subst hrt
      clear h2
      go_enter Try.func29, Try.ntmps29
      go_wp2_with fail
      refine (l01Table_any _ _ _ f true _ HZ.out.sz.fl (by have := HZ.out.sz.nb; omega) (fun i hi => by have := HZ.out.sz.nr i hi; omega) (HZ.out.fst.later HB0.out) (by simp [H1.out])).mono ?_
      rintro e w1 ⟨rfl, hq1⟩
      have HB1 := hide (HB0.out.trans (hq1.below _))
      have HK1 := hide (HK0.out.later (hq1.below _))
      have k0 := HK1.out.cell 0 _ rfl
      have k1 := HK1.out.cell 1 _ rfl
      clear hq1
      go_wp2_with fail
      refine (l01Table_any _ _ _ s false _ HZ.out.sz.sl (by have := HZ.out.sz.mb; omega) (fun i hi => by have := HZ.out.sz.mr i hi; omega) (HZ.out.snd.later HB1.out) (by simp [H2.out])).mono ?_
      rintro e w2 ⟨rfl, hq2⟩
      have HB2 := hide (HB1.out.trans (hq2.below _))
      clear hq2
      go_wp2_with fail
      go_ret
      exact ⟨rfl, HB2.out⟩
  · have hrt : r = false := by
      cases r
      · rfl
      · exact absurd (HR.out.1 rfl).1 h1
    have H1 := hide h1
    subst hrt
    clear h1
    go_enter Try.func29, Try.ntmps29
    go_wp2_with fail
    refine (l01Table_any _ _ _ f false _ HZ.out.sz.fl (by have := HZ.out.sz.nb; omega) (fun i hi => by have := HZ.out.sz.nr i hi; omega) (HZ.out.fst.later HB0.out) (by simp [H1.out])).mono ?_
    rintro e w1 ⟨rfl, hq1⟩
    have HB1 := hide (HB0.out.trans (hq1.below _))
    clear hq1
    go_wp2_with fail
    go_ret
    exact ⟨rfl, HB1.out⟩
end Go.Proofs.Ytpkfcjpppncbiaa
