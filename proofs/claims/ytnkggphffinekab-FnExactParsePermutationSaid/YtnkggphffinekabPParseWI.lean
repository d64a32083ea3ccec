import Derived.Test.YtnkggphffinekabReadI
import Derived.Test.YtnkggphffinekabPrm
namespace Go.Proofs.Ytnkggphffinekab
open Go Go.RowKit
set_option maxHeartbeats 1000000

theorem pparseWI_any (s : ByteArray) (zs : List Int) (code : Int) (k : Nat) (w : World) (hb : s.size ≤ 1048576) (hr : PParseRes s zs code) (hk : zs.length = k) :
    Calls Try.prog 35 #[.string s] w (RPost 2 k zs code w) := by
  have HZ : Hid ((readL s).length = s.size) := hide (readL_length s)
  have HK := hide hk
  rcases Nat.lt_or_ge 12 s.size with h12 | h12
  · rcases hr with ⟨_, h, _⟩ | ⟨_, rfl, rfl⟩
    · have := h.2.1
      have := HZ.out
      omega
    · obtain rfl : k = 0 := by simpa using hk.symm
      clear hk
      go_enter Try.func35, Try.ntmps35
      go_wp2_with fail
      go_ret2
      exact ⟨_, _, rfl, Below.refl _ _, .inl ⟨rfl, rfl⟩⟩
  by_cases hd : AllDig s
  · have HD := hide hd
    by_cases hp : Prm (readL s)
    · have HP := hide hp
      rcases hr with ⟨_, _, rfl, rfl⟩ | ⟨h, _⟩
      · clear hd hp
        go_enter Try.func35, Try.ntmps35
        go_wp2_with fail
        refine (elementsOf_any s (readL s) true k _ hb (.inl ⟨HD.out, rfl, rfl⟩) hk).mono ?_
        rintro e w1 ⟨A1, c1, rfl, hb1, hres⟩
        have HB1 := hide hb1
        have HRES := hide hres
        clear hb1 hres
        go_wp2_with fail
        refine (isPerm_any _ _ _ (readL s) true _ hk (by have := HZ.out; omega) HRES.out.rd (by simp [HP.out])).mono ?_
        rintro e w2 ⟨rfl, hb2⟩
        have HB2 : Hid (Below w.heap.size w w2) := hide (HB1.out.trans (hb2.mono HB1.out.size))
        have HR2 := hide (HRES.out.later hb2)
        clear hb2
        go_wp2_with fail
        go_ret2
        exact ⟨_, _, rfl, HB2.out, HR2.out⟩
      · exact absurd ⟨hd, hp⟩ h
    · have HP := hide hp
      rcases hr with ⟨_, h, _⟩ | ⟨_, rfl, rfl⟩
      · exact absurd h hp
      · obtain rfl : k = 0 := by simpa using hk.symm
        obtain ⟨m, hm⟩ : ∃ m, (readL s).length = m := ⟨_, rfl⟩
        have hmb : m ≤ 1048576 := by have := HZ.out; omega
        have HM := hide hm
        clear hd hp hk hm
        go_enter Try.func35, Try.ntmps35
        go_wp2_with fail
        refine (elementsOf_any s (readL s) true m _ hb (.inl ⟨HD.out, rfl, rfl⟩) HM.out).mono ?_
        rintro e w1 ⟨A1, c1, rfl, hb1, hres⟩
        have HB1 := hide hb1
        have HRES := hide hres
        clear hb1 hres
        go_wp2_with fail
        refine (isPerm_any _ _ _ (readL s) false _ HM.out (by omega) HRES.out.rd (by simp [HP.out])).mono ?_
        rintro e w2 ⟨rfl, hb2⟩
        have HB2 : Hid (Below w.heap.size w w2) := hide (HB1.out.trans (hb2.mono HB1.out.size))
        clear hb2
        go_wp2_with fail
        go_ret2
        exact ⟨_, _, rfl, HB2.out, .inl ⟨rfl, rfl⟩⟩
  · have HD := hide hd
    rcases hr with ⟨h, _⟩ | ⟨_, rfl, rfl⟩
    · exact absurd h hd
    · obtain rfl : k = 0 := by simpa using hk.symm
      clear hd hk
      go_enter Try.func35, Try.ntmps35
      go_wp2_with fail
      refine (elementsOf_any s [] false 0 _ hb (.inr ⟨HD.out, rfl, rfl⟩) rfl).mono ?_
      rintro e w1 ⟨A1, c1, rfl, hb1, hres⟩
      have HB1 := hide hb1
      clear hb1 hres
      go_wp2_with fail
      go_ret2
      exact ⟨_, _, rfl, HB1.out, .inl ⟨rfl, rfl⟩⟩
end Go.Proofs.Ytnkggphffinekab
