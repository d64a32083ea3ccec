import Derived.Test.YtocdcibfbecdgabTwF
import Derived.Test.YtocdcibfbecdgabTwS
import Derived.Test.YtocdcibfbecdgabZEnd
import Derived.Test.YtocdcibfbecdgabPrmS
import Derived.Test.YtocdcibfbecdgabThenS
import Derived.Test.YtocdcibfbecdgabLessS
namespace Go.Proofs.Ytocdcibfbecdgab
open Go Go.RowKit
set_option maxHeartbeats 4000000

theorem twWS_any (A : Option Addr) (n c : Nat) (p : List Int) (B : Option Addr) (m d : Nat) (q : List Int) (zf zg : List (List Int)) (code : Int) (kz kw : Nat) (w : World) (hn : p.length = n) (hb : n ≤ 1048576) (hp : Rd w A p) (hm : q.length = m) (hb2 : m ≤ 1048576) (hq : Rd w B q) (hr : TwRes p q zf zg code) (hk : ZSz 1048576 zf kz zg kw) :
    Calls Try.prog 23 #[.slice A n c, .slice B m d] w (WPost 35 2 kz kw zf zg code w) := by
  have HN := hide hn
  have HM := hide hm
  by_cases h1 : Prm p
  · have HPP := hide h1
    by_cases h2 : Prm q
    · have HPQ := hide h2
      by_cases h3 : n = m
      · subst h3
        have h12 : n ≤ 12 := by have := h1.2.1; omega
        have h1n : 1 ≤ n := by have := h1.1; omega
        have HPI : Hid (∀ x ∈ p, 0 ≤ x ∧ x < (n : Int)) := hide (by have := h1.2.2.1; rw [hn] at this; exact this)
        have HQI : Hid (∀ x ∈ q, 0 ≤ x ∧ x < (n : Int)) := hide (by have := h2.2.2.1; rw [hm] at this; exact this)
        have hgood : Perms2 p q := ⟨h1, h2, by omega⟩
        have hne : ((n : Int) != (n : Int)) = false := by simp
        by_cases h4 : thenL p q = thenL q p
        · rcases hr with ⟨_, _, rfl, rfl, rfl⟩ | ⟨_, h, _⟩ | ⟨h, _⟩
          · obtain rfl : kz = n := by rw [← hk.fl, grid_length, hn]
            obtain rfl : kw = kz := by rw [← hk.sl, grid_length, hn]
            have H4 := hide h4
            clear hk hn hm h1 h2 h4 hgood
            go_enter Try.func23, Try.ntmps23
            go_wp2_with fail
            refine calls_gen fun w0 hw0 => ?_
            have HB : Hid (Below w.heap.size w w0) := hide (by rw [hw0]; exact (Below.refl _ _).alloc (Nat.le_refl _) _)
            have HR : Hid (Blk w0 w.heap.size 26 [.slice none 0 0, .slice none 0 0]) := hide (by rw [hw0]; exact Blk.new _ _ _)
            clear hw0
            refine (prmS_below _ _ _ p true _ HN.out (by omega) (hp.later HB.out) (by simp [HPP.out])).mono ?_
            rintro e wd ⟨rfl, hbd⟩
            replace HR := hide (HR.out.later hbd)
            have HB' := hide (HB.out.trans (hbd.mono HB.out.size))
            replace HB := HB'
            clear HB' hbd
            go_wp2_with fail
            refine (prmS_below _ _ _ q true _ HM.out (by omega) (hq.later HB.out) (by simp [HPQ.out])).mono ?_
            rintro e wd ⟨rfl, hbd⟩
            replace HR := hide (HR.out.later hbd)
            have HB' := hide (HB.out.trans (hbd.mono HB.out.size))
            replace HB := HB'
            clear HB' hbd
            go_wp2_with fail
            refine (l01Then_any _ _ _ _ _ _ p q _ HN.out HM.out hb hb2 (hp.later HB.out) (hq.later HB.out) HPI.out).mono ?_
            rintro e wd ⟨A1, c1, rfl, hbd, hres⟩
            replace HR := hide (HR.out.later hbd)
            have HB' := hide (HB.out.trans (hbd.mono HB.out.size))
            replace HB := HB'
            clear HB' hbd
            have HR1 := hide hres
            clear hres
            go_wp2_with fail
            refine (l01Then_any _ _ _ _ _ _ q p _ HM.out HN.out hb2 hb (hq.later HB.out) (hp.later HB.out) HQI.out).mono ?_
            rintro e wd ⟨A2, c2, rfl, hbd, hres⟩
            replace HR := hide (HR.out.later hbd)
            replace HR1 := hide (HR1.out.later hbd)
            have HB' := hide (HB.out.trans (hbd.mono HB.out.size))
            replace HB := HB'
            clear HB' hbd
            have HR2 := hide hres
            clear hres
            go_wp2_with fail
            refine (same_any _ _ _ _ _ _ (thenL p q) (thenL q p) true _ (by rw [thenL_length]; exact HN.out) (by rw [thenL_length]; exact HM.out) (by omega) (by omega) HR1.out.rd HR2.out.rd (by simp [H4.out])).mono ?_
            rintro e we ⟨rfl, hqd⟩
            have hbd := hqd.below wd.heap.size
            clear hqd
            replace HR := hide (HR.out.later hbd)
            have HB' := hide (HB.out.trans (hbd.mono HB.out.size))
            replace HB := HB'
            clear HB' hbd
            go_wp2_with fail
            refine (twS_any _ _ _ p _ _ q _ HN.out HM.out h1n h12 (hp.later HB.out) (hq.later HB.out)).mono ?_
            rintro e w3 ⟨A3, c3, B3, d3, rfl, hb3, ho3⟩
            have HB3 := hide (HB.out.trans (hb3.mono HB.out.size))
            have HR3 := hide (HR.out.later hb3)
            have HO3 := hide ho3
            have k2 := HR3.out.cell 0 _ rfl
            have k3 := HR3.out.cell 1 _ rfl
            have k4 := HR3.out.frozen 0
            have k5 := HR3.out.frozen 1
            clear hb3 ho3
            go_wp2_with fail
            refine bp_gen fun wf hwf => ?_
            obtain ⟨q0, q1, hbf, hof⟩ := wend hwf HR3.out (by omega) HR.out.lt HB3.out HB.out.size HO3.out
            clear hwf k2 k3 k4 k5
            rw [HN.out]
            exact bodyPost_ret (v := .tuple #[.agg #[.slice A3 kw c3, .slice B3 kw d3], .int .i64 0]) (by simp [results, Try.results23, go_sem, q0, q1]) rfl ⟨_, _, _, _, rfl, hbf, hof⟩
          · exact absurd h4 h
          · exact absurd hgood h
        · rcases hr with ⟨_, h, _⟩ | ⟨_, _, rfl, rfl, rfl⟩ | ⟨h, _⟩
          · exact absurd h h4
          · have H4 := hide h4
            clear hn hm h1 h2 h4 hgood
            obtain rfl : kz = 0 := by simpa using hk.fl.symm
            obtain rfl : kw = 0 := by simpa using hk.sl.symm
            clear hk
            go_enter Try.func23, Try.ntmps23
            go_wp2_with fail
            refine calls_gen fun w0 hw0 => ?_
            have HB : Hid (Below w.heap.size w w0) := hide (by rw [hw0]; exact (Below.refl _ _).alloc (Nat.le_refl _) _)
            have HR : Hid (Blk w0 w.heap.size 26 [.slice none 0 0, .slice none 0 0]) := hide (by rw [hw0]; exact Blk.new _ _ _)
            clear hw0
            refine (prmS_below _ _ _ p true _ HN.out (by omega) (hp.later HB.out) (by simp [HPP.out])).mono ?_
            rintro e wd ⟨rfl, hbd⟩
            replace HR := hide (HR.out.later hbd)
            have HB' := hide (HB.out.trans (hbd.mono HB.out.size))
            replace HB := HB'
            clear HB' hbd
            go_wp2_with fail
            refine (prmS_below _ _ _ q true _ HM.out (by omega) (hq.later HB.out) (by simp [HPQ.out])).mono ?_
            rintro e wd ⟨rfl, hbd⟩
            replace HR := hide (HR.out.later hbd)
            have HB' := hide (HB.out.trans (hbd.mono HB.out.size))
            replace HB := HB'
            clear HB' hbd
            go_wp2_with fail
            refine (l01Then_any _ _ _ _ _ _ p q _ HN.out HM.out hb hb2 (hp.later HB.out) (hq.later HB.out) HPI.out).mono ?_
            rintro e wd ⟨A1, c1, rfl, hbd, hres⟩
            replace HR := hide (HR.out.later hbd)
            have HB' := hide (HB.out.trans (hbd.mono HB.out.size))
            replace HB := HB'
            clear HB' hbd
            have HR1 := hide hres
            clear hres
            go_wp2_with fail
            refine (l01Then_any _ _ _ _ _ _ q p _ HM.out HN.out hb2 hb (hq.later HB.out) (hp.later HB.out) HQI.out).mono ?_
            rintro e wd ⟨A2, c2, rfl, hbd, hres⟩
            replace HR := hide (HR.out.later hbd)
            replace HR1 := hide (HR1.out.later hbd)
            have HB' := hide (HB.out.trans (hbd.mono HB.out.size))
            replace HB := HB'
            clear HB' hbd
            have HR2 := hide hres
            clear hres
            go_wp2_with fail
            refine (same_any _ _ _ _ _ _ (thenL p q) (thenL q p) false _ (by rw [thenL_length]; exact HN.out) (by rw [thenL_length]; exact HM.out) (by omega) (by omega) HR1.out.rd HR2.out.rd (by simp [H4.out])).mono ?_
            rintro e we ⟨rfl, hqd⟩
            have hbd := hqd.below wd.heap.size
            clear hqd
            replace HR := hide (HR.out.later hbd)
            have HB' := hide (HB.out.trans (hbd.mono HB.out.size))
            replace HB := HB'
            clear HB' hbd
            have k2 := HR.out.cell 0 _ rfl
            have k3 := HR.out.cell 1 _ rfl
            have k4 := HR.out.frozen 0
            have k5 := HR.out.frozen 1
            go_wp2_with fail
            refine bp_gen fun wf hwf => ?_
            obtain ⟨q0, q1, hbf, hof⟩ := wend (ts := 35) (t := 2) (w2 := we) hwf HR.out (by omega) HR.out.lt HB.out HB.out.size ObjW.empty
            clear hwf k2 k3 k4 k5
            exact bodyPost_ret (v := .tuple #[.agg #[.slice none 0 0, .slice none 0 0], .int .i64 5]) (by simp [results, Try.results23, go_sem, q0, q1]) rfl ⟨_, _, _, _, rfl, hbf, hof⟩
          · exact absurd hgood h
      · rcases hr with ⟨h, _⟩ | ⟨h, _⟩ | ⟨_, rfl, rfl, rfl⟩
        · exact absurd (by have := h.2.2; omega) h3
        · exact absurd (by have := h.2.2; omega) h3
        · have hne : ((n : Int) != (m : Int)) = true := by simp; omega
          clear hn hm h1 h2 h3
          obtain rfl : kz = 0 := by simpa using hk.fl.symm
          obtain rfl : kw = 0 := by simpa using hk.sl.symm
          clear hk
          go_enter Try.func23, Try.ntmps23
          go_wp2_with fail
          refine calls_gen fun w0 hw0 => ?_
          have HB : Hid (Below w.heap.size w w0) := hide (by rw [hw0]; exact (Below.refl _ _).alloc (Nat.le_refl _) _)
          have HR : Hid (Blk w0 w.heap.size 26 [.slice none 0 0, .slice none 0 0]) := hide (by rw [hw0]; exact Blk.new _ _ _)
          clear hw0
          refine (prmS_below _ _ _ p true _ HN.out (by omega) (hp.later HB.out) (by simp [HPP.out])).mono ?_
          rintro e wd ⟨rfl, hbd⟩
          replace HR := hide (HR.out.later hbd)
          have HB' := hide (HB.out.trans (hbd.mono HB.out.size))
          replace HB := HB'
          clear HB' hbd
          go_wp2_with fail
          refine (prmS_below _ _ _ q true _ HM.out (by omega) (hq.later HB.out) (by simp [HPQ.out])).mono ?_
          rintro e wd ⟨rfl, hbd⟩
          replace HR := hide (HR.out.later hbd)
          have HB' := hide (HB.out.trans (hbd.mono HB.out.size))
          replace HB := HB'
          clear HB' hbd
          have k2 := HR.out.cell 0 _ rfl
          have k3 := HR.out.cell 1 _ rfl
          have k4 := HR.out.frozen 0
          have k5 := HR.out.frozen 1
          go_wp2_with fail
          refine bp_gen fun wf hwf => ?_
          obtain ⟨q0, q1, hbf, hof⟩ := wend (ts := 35) (t := 2) (w2 := wd) hwf HR.out (by omega) HR.out.lt HB.out HB.out.size ObjW.empty
          clear hwf k2 k3 k4 k5
          exact bodyPost_ret (v := .tuple #[.agg #[.slice none 0 0, .slice none 0 0], .int .i64 2]) (by simp [results, Try.results23, go_sem, q0, q1]) rfl ⟨_, _, _, _, rfl, hbf, hof⟩
    · rcases hr with ⟨h, _⟩ | ⟨h, _⟩ | ⟨_, rfl, rfl, rfl⟩
      · exact absurd h.2.1 h2
      · exact absurd h.2.1 h2
      · have HPQ := hide h2
        clear hn hm h1 h2
        obtain rfl : kz = 0 := by simpa using hk.fl.symm
        obtain rfl : kw = 0 := by simpa using hk.sl.symm
        clear hk
        go_enter Try.func23, Try.ntmps23
        go_wp2_with fail
        refine calls_gen fun w0 hw0 => ?_
        have HB : Hid (Below w.heap.size w w0) := hide (by rw [hw0]; exact (Below.refl _ _).alloc (Nat.le_refl _) _)
        have HR : Hid (Blk w0 w.heap.size 26 [.slice none 0 0, .slice none 0 0]) := hide (by rw [hw0]; exact Blk.new _ _ _)
        clear hw0
        refine (prmS_below _ _ _ p true _ HN.out (by omega) (hp.later HB.out) (by simp [HPP.out])).mono ?_
        rintro e wd ⟨rfl, hbd⟩
        replace HR := hide (HR.out.later hbd)
        have HB' := hide (HB.out.trans (hbd.mono HB.out.size))
        replace HB := HB'
        clear HB' hbd
        go_wp2_with fail
        refine (prmS_below _ _ _ q false _ HM.out (by omega) (hq.later HB.out) (by simp [HPQ.out])).mono ?_
        rintro e wd ⟨rfl, hbd⟩
        replace HR := hide (HR.out.later hbd)
        have HB' := hide (HB.out.trans (hbd.mono HB.out.size))
        replace HB := HB'
        clear HB' hbd
        have k2 := HR.out.cell 0 _ rfl
        have k3 := HR.out.cell 1 _ rfl
        have k4 := HR.out.frozen 0
        have k5 := HR.out.frozen 1
        go_wp2_with fail
        refine bp_gen fun wf hwf => ?_
        obtain ⟨q0, q1, hbf, hof⟩ := wend (ts := 35) (t := 2) (w2 := wd) hwf HR.out (by omega) HR.out.lt HB.out HB.out.size ObjW.empty
        clear hwf k2 k3 k4 k5
        exact bodyPost_ret (v := .tuple #[.agg #[.slice none 0 0, .slice none 0 0], .int .i64 2]) (by simp [results, Try.results23, go_sem, q0, q1]) rfl ⟨_, _, _, _, rfl, hbf, hof⟩
  · rcases hr with ⟨h, _⟩ | ⟨h, _⟩ | ⟨_, rfl, rfl, rfl⟩
    · exact absurd h.1 h1
    · exact absurd h.1 h1
    · have HPP := hide h1
      clear hn hm h1
      obtain rfl : kz = 0 := by simpa using hk.fl.symm
      obtain rfl : kw = 0 := by simpa using hk.sl.symm
      clear hk
      go_enter Try.func23, Try.ntmps23
      go_wp2_with fail
      refine calls_gen fun w0 hw0 => ?_
      have HB : Hid (Below w.heap.size w w0) := hide (by rw [hw0]; exact (Below.refl _ _).alloc (Nat.le_refl _) _)
      have HR : Hid (Blk w0 w.heap.size 26 [.slice none 0 0, .slice none 0 0]) := hide (by rw [hw0]; exact Blk.new _ _ _)
      clear hw0
      refine (prmS_below _ _ _ p false _ HN.out (by omega) (hp.later HB.out) (by simp [HPP.out])).mono ?_
      rintro e wd ⟨rfl, hbd⟩
      replace HR := hide (HR.out.later hbd)
      have HB' := hide (HB.out.trans (hbd.mono HB.out.size))
      replace HB := HB'
      clear HB' hbd
      have k2 := HR.out.cell 0 _ rfl
      have k3 := HR.out.cell 1 _ rfl
      have k4 := HR.out.frozen 0
      have k5 := HR.out.frozen 1
      go_wp2_with fail
      refine bp_gen fun wf hwf => ?_
      obtain ⟨q0, q1, hbf, hof⟩ := wend (ts := 35) (t := 2) (w2 := wd) hwf HR.out (by omega) HR.out.lt HB.out HB.out.size ObjW.empty
      clear hwf k2 k3 k4 k5
      exact bodyPost_ret (v := .tuple #[.agg #[.slice none 0 0, .slice none 0 0], .int .i64 2]) (by simp [results, Try.results23, go_sem, q0, q1]) rfl ⟨_, _, _, _, rfl, hbf, hof⟩
end Go.Proofs.Ytocdcibfbecdgab
