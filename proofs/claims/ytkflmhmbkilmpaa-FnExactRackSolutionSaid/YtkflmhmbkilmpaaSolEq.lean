import Derived.Test.YtkflmhmbkilmpaaZArg
import Derived.Test.YtkflmhmbkilmpaaBlk
import Derived.Test.YtkflmhmbkilmpaaEqII
namespace Go.Proofs.Ytkflmhmbkilmpaa
open Go Go.RowKit
set_option maxHeartbeats 1000000

theorem eqZ_any (A : Option Addr) (n c : Nat) (f : List (List Int)) (B : Option Addr) (m d : Nat) (s : List (List Int)) (A2 : Option Addr) (n2 c2 : Nat) (f2 : List (List Int)) (B2 : Option Addr) (m2 d2 : Nat) (s2 : List (List Int)) (r : Bool) (w : World)
    (hz : ZArg 1048576 w A n f B m s) (hz2 : ZArg 1048576 w A2 n2 f2 B2 m2 s2) (hr : r = true ↔ f = f2 ∧ s = s2) :
    Calls Try.prog 28 #[.agg #[.slice A n c, .slice B m d], .agg #[.slice A2 n2 c2, .slice B2 m2 d2]] w fun e w' => e = .returned (.bool r) ∧ Below w.heap.size w w' := by
  have HZ := hide hz
  have HZ2 := hide hz2
  have HR := hide hr
  clear hz hz2 hr
  have HB0 := hide (((Below.refl _ w).alloc (Nat.le_refl _) (Obj.cells #[Value.slice A n c, Value.slice B m d] 40)).alloc (by simp) (Obj.cells #[Value.slice A2 n2 c2, Value.slice B2 m2 d2] 40))
  have HK0 := hide ((Blk.new w 40 [.slice A n c, .slice B m d]).alloc (Obj.cells #[Value.slice A2 n2 c2, Value.slice B2 m2 d2] 40))
  have HL0 := hide (Blk.new (w.alloc (Obj.cells #[Value.slice A n c, Value.slice B m d] 40)) 40 [.slice A2 n2 c2, .slice B2 m2 d2])
  simp at HL0
  by_cases h1 : f = f2
  · have H1 := hide h1
    clear h1
    by_cases h2 : s = s2
    · have H2 := hide h2
      have hrt : r = true := HR.out.2 ⟨H1.out, h2⟩
      subst hrt
      clear h2
      go_enter Try.func28, Try.ntmps28
      go_wp2_with fail
      refine (eqq_any _ _ _ _ _ _ f f2 true _ HZ.out.sz.fl HZ2.out.sz.fl (by have := HZ.out.sz.nb; omega) (by have := HZ2.out.sz.nb; omega) (fun i hi => by have := HZ.out.sz.nr i hi; omega) (fun i hi => by have := HZ2.out.sz.nr i hi; omega) (HZ.out.fst.later HB0.out) (HZ2.out.fst.later HB0.out) (by simp [H1.out])).mono ?_
      rintro e w1 ⟨rfl, hq1⟩
      have HB1 := hide (HB0.out.trans (hq1.below _))
      have k1 := (HK0.out.later (hq1.below _)).cell 1 _ rfl
      have k2 := (HL0.out.later (hq1.below _)).cell 1 _ rfl
      clear hq1
      go_wp2_with fail
      refine (eqq_any _ _ _ _ _ _ s s2 true _ HZ.out.sz.sl HZ2.out.sz.sl (by have := HZ.out.sz.mb; omega) (by have := HZ2.out.sz.mb; omega) (fun i hi => by have := HZ.out.sz.mr i hi; omega) (fun i hi => by have := HZ2.out.sz.mr i hi; omega) (HZ.out.snd.later HB1.out) (HZ2.out.snd.later HB1.out) (by simp [H2.out])).mono ?_
      rintro e w2 ⟨rfl, hq2⟩
      have HB2 := hide (HB1.out.trans (hq2.below _))
      clear hq2
      go_wp2_with fail
      go_ret
      exact ⟨rfl, HB2.out⟩
    · have H2 := hide h2
      have hrt : r = false := by
        cases r
        · rfl
        · exact absurd (HR.out.1 rfl).2 h2
      subst hrt
      clear h2
      go_enter Try.func28, Try.ntmps28
      go_wp2_with fail
      refine (eqq_any _ _ _ _ _ _ f f2 true _ HZ.out.sz.fl HZ2.out.sz.fl (by have := HZ.out.sz.nb; omega) (by have := HZ2.out.sz.nb; omega) (fun i hi => by have := HZ.out.sz.nr i hi; omega) (fun i hi => by have := HZ2.out.sz.nr i hi; omega) (HZ.out.fst.later HB0.out) (HZ2.out.fst.later HB0.out) (by simp [H1.out])).mono ?_
      rintro e w1 ⟨rfl, hq1⟩
      have HB1 := hide (HB0.out.trans (hq1.below _))
      have k1 := (HK0.out.later (hq1.below _)).cell 1 _ rfl
      have k2 := (HL0.out.later (hq1.below _)).cell 1 _ rfl
      clear hq1
      go_wp2_with fail
      refine (eqq_any _ _ _ _ _ _ s s2 false _ HZ.out.sz.sl HZ2.out.sz.sl (by have := HZ.out.sz.mb; omega) (by have := HZ2.out.sz.mb; omega) (fun i hi => by have := HZ.out.sz.mr i hi; omega) (fun i hi => by have := HZ2.out.sz.mr i hi; omega) (HZ.out.snd.later HB1.out) (HZ2.out.snd.later HB1.out) (by simp [H2.out])).mono ?_
      rintro e w2 ⟨rfl, hq2⟩
      have HB2 := hide (HB1.out.trans (hq2.below _))
      clear hq2
      go_wp2_with fail
      go_ret
      exact ⟨rfl, HB2.out⟩
  · have H1 := hide h1
    have hrt : r = false := by
      cases r
      · rfl
      · exact absurd (HR.out.1 rfl).1 h1
    subst hrt
    clear h1
    go_enter Try.func28, Try.ntmps28
    go_wp2_with fail
    refine (eqq_any _ _ _ _ _ _ f f2 false _ HZ.out.sz.fl HZ2.out.sz.fl (by have := HZ.out.sz.nb; omega) (by have := HZ2.out.sz.nb; omega) (fun i hi => by have := HZ.out.sz.nr i hi; omega) (fun i hi => by have := HZ2.out.sz.nr i hi; omega) (HZ.out.fst.later HB0.out) (HZ2.out.fst.later HB0.out) (by simp [H1.out])).mono ?_
    rintro e w1 ⟨rfl, hq1⟩
    have HB1 := hide (HB0.out.trans (hq1.below _))
    clear hq1
    go_wp2_with fail
    go_ret
    exact ⟨rfl, HB1.out⟩
end Go.Proofs.Ytkflmhmbkilmpaa
