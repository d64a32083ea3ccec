import Derived.Test.YtnkggphffinekaaPrm
import Derived.Test.YtnkggphffinekaaThenI
namespace Go.Proofs.Ytnkggphffinekaa
open Go Go.RowKit
set_option maxHeartbeats 1000000

theorem thenWI_any (A : Option Addr) (n c : Nat) (xs : List Int) (C : Option Addr) (m d : Nat) (ys : List Int) (zs : List Int) (code : Int) (k : Nat) (w : World) (hn : xs.length = n) (hb : n ≤ 1048576) (hx : Rd w A xs) (hm : ys.length = m) (hb2 : m ≤ 1048576) (hy : Rd w C ys) (hr : ThenRes xs ys zs code) (hk : zs.length = k) :
    Calls Try.prog 16 #[.slice A n c, .slice C m d] w (RPost 2 k zs code w) := by
  have HN := hide hn
  have HM := hide hm
  by_cases hp : Prm xs
  · by_cases hq : Prm ys
    · by_cases hnm : n = m
      · rcases hr with ⟨_, _, _, rfl, rfl⟩ | ⟨h, _⟩
        · rw [thenL_length, hn] at hk
          subst hk
          subst hnm
          clear hn hm
          go_enter Try.func16, Try.ntmps16
          go_wp2_with fail
          refine (isPerm_any _ _ _ xs true _ HN.out (by omega) hx (by simp [hp])).mono ?_
          rintro e w1 ⟨rfl, hq1⟩
          have HQ1 := hide hq1
          clear hq1
          go_wp2_with fail
          refine (isPerm_any _ _ _ ys true _ HM.out (by omega) (hy.later HQ1.out) (by simp [hq])).mono ?_
          rintro e w2 ⟨rfl, hq2⟩
          have HQ2 : Hid (Below w.heap.size w w2) := hide (HQ1.out.trans (hq2.mono HQ1.out.size))
          clear hq2
          have hne : ((n : Int) != (n : Int)) = false := by simp
          go_wp2_with fail
          refine (then_any' _ _ _ _ _ _ xs ys _ HN.out HM.out hb hb2 (hx.later HQ2.out) (hy.later HQ2.out) (by have := hp.2.2.1; rw [HN.out] at this; exact this)).mono ?_
          rintro e w3 ⟨A', c', rfl, hq3, hres⟩
          have HQ3 := hide hq3
          have HRES := hide hres
          clear hq3 hres
          go_wp2_with fail
          go_ret2
          exact ⟨_, _, rfl, HQ2.out.trans (HQ3.out.mono HQ2.out.size), HRES.out.mono HQ2.out.size⟩
        · exact absurd ⟨hp, hq, by omega⟩ h
      · rcases hr with ⟨_, _, h, _⟩ | ⟨_, rfl, rfl⟩
        · exact absurd (by omega) hnm
        · obtain rfl : k = 0 := by simpa using hk.symm
          clear hn hm hk
          have hne : ((n : Int) != (m : Int)) = true := by simp; omega
          clear hnm
          go_enter Try.func16, Try.ntmps16
          go_wp2_with fail
          refine (isPerm_any _ _ _ xs true _ HN.out (by omega) hx (by simp [hp])).mono ?_
          rintro e w1 ⟨rfl, hq1⟩
          have HQ1 := hide hq1
          clear hq1
          go_wp2_with fail
          refine (isPerm_any _ _ _ ys true _ HM.out (by omega) (hy.later HQ1.out) (by simp [hq])).mono ?_
          rintro e w2 ⟨rfl, hq2⟩
          have HQ2 : Hid (Below w.heap.size w w2) := hide (HQ1.out.trans (hq2.mono HQ1.out.size))
          clear hq2
          go_wp2_with fail
          go_ret2
          exact ⟨_, _, rfl, HQ2.out, .inl ⟨rfl, rfl⟩⟩
    · rcases hr with ⟨_, h, _⟩ | ⟨_, rfl, rfl⟩
      · exact absurd h hq
      · obtain rfl : k = 0 := by simpa using hk.symm
        clear hn hm hk
        go_enter Try.func16, Try.ntmps16
        go_wp2_with fail
        refine (isPerm_any _ _ _ xs true _ HN.out (by omega) hx (by simp [hp])).mono ?_
        rintro e w1 ⟨rfl, hq1⟩
        have HQ1 := hide hq1
        clear hq1
        go_wp2_with fail
        refine (isPerm_any _ _ _ ys false _ HM.out (by omega) (hy.later HQ1.out) (by simp [hq])).mono ?_
        rintro e w2 ⟨rfl, hq2⟩
        have HQ2 : Hid (Below w.heap.size w w2) := hide (HQ1.out.trans (hq2.mono HQ1.out.size))
        clear hq2
        go_wp2_with fail
        go_ret2
        exact ⟨_, _, rfl, HQ2.out, .inl ⟨rfl, rfl⟩⟩
  · rcases hr with ⟨h, _⟩ | ⟨_, rfl, rfl⟩
    · exact absurd h hp
    · obtain rfl : k = 0 := by simpa using hk.symm
      clear hn hm hk
      go_enter Try.func16, Try.ntmps16
      go_wp2_with fail
      refine (isPerm_any _ _ _ xs false _ HN.out (by omega) hx (by simp [hp])).mono ?_
      rintro e w1 ⟨rfl, hq1⟩
      have HQ1 := hide hq1
      clear hq1
      go_wp2_with fail
      go_ret2
      exact ⟨_, _, rfl, HQ1.out, .inl ⟨rfl, rfl⟩⟩
end Go.Proofs.Ytnkggphffinekaa
