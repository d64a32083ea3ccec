import Derived.Test.YtljdfanebjhhmaaZar
import Derived.Test.YtljdfanebjhhmaaZan
import Derived.Test.YtljdfanebjhhmaaZak
namespace Go.Proofs.Ytljdfanebjhhmaa
open Go Go.RowKit
set_option maxHeartbeats 2000000

set_option maxRecDepth 100000 in
theorem l04Code_any (A : Option Addr) (n c : Nat) (f : List (List Int)) (B : Option Addr) (m d : Nat) (xs : List Int) (code : Int) (w : World) (hn : f.length = n) (hb : n ≤ 1048576) (hbs : ∀ i, i < f.length → (f.getD i []).length ≤ 1048576) (hr : Rd2 w A f) (hm : xs.length = m) (hbm : m ≤ 1048576) (hx : Rd w B xs) (hres : CdRes f xs code) :
    Calls Try.prog 50 #[.agg #[.slice A n c], .slice B m d] w fun e w' => e = .returned (.int .i64 code) ∧ Below w.heap.size w w' := by
  have HN := hide hn
  have HBS := hide hbs
  have HRD := hide hr
  have HM := hide hm
  have HX := hide hx
  have HB0 := hide ((Below.refl _ w).alloc (Nat.le_refl _) (Obj.cells #[Value.slice A n c] 26))
  have HK0 := hide (Blk.new w 26 [.slice A n c])
  by_cases h1 : Rck f
  · skip
    have HRK : Hid (RkRes f true) := hide (by unfold RkRes; simp [h1])
    by_cases h2 : Part f xs
    · obtain rfl : code = 0 := by
        rcases hres with h | h
        · exact h.2.2
        · exact absurd ⟨h1, h2⟩ h.1
      have HP : Hid (m = n ∧ Canon xs) := hide ⟨by rw [← hm, ← hn]; exact h2.1, h2.2⟩
      clear hres hn hbs hr hm hx h1 h2
      go_enter Try.func50, Try.ntmps50
      go_wp2_with fail
      refine (isRackS _ _ _ f true _ HN.out hb HBS.out (HRD.out.later HB0.out) HRK.out).mono ?_
      rintro e w1 ⟨rfl, hb1⟩
      have HB1 := hide (HB0.out.trans (hb1.mono HB0.out.size))
      have HK1 := hide (HK0.out.later hb1)
      clear hb1
      have k0 := HK1.out.cell 0 _ rfl
      go_wp2_with fail
      clear k0
      refine (l04Partition_any n _ _ _ xs true _ HM.out hbm hb (HX.out.later HB1.out) (by simp [HP.out.2]; exact HP.out.1)).mono ?_
      rintro e w2 ⟨rfl, hb2⟩
      have HB2 := hide (HB1.out.trans (hb2.mono HB1.out.size))
      have HK2 := hide (HK1.out.later hb2)
      clear hb2
      go_wp2_with fail
      go_ret
      exact ⟨rfl, HB2.out⟩
    · obtain rfl : code = 1 := by
        rcases hres with h | h
        · exact absurd h.2.1 h2
        · exact h.2
      have HP : Hid (¬ (m = n ∧ Canon xs)) := hide (fun h => h2 ⟨by rw [hm, hn]; exact h.1, h.2⟩)
      clear hres hn hbs hr hm hx h1 h2
      go_enter Try.func50, Try.ntmps50
      go_wp2_with fail
      refine (isRackS _ _ _ f true _ HN.out hb HBS.out (HRD.out.later HB0.out) HRK.out).mono ?_
      rintro e w1 ⟨rfl, hb1⟩
      have HB1 := hide (HB0.out.trans (hb1.mono HB0.out.size))
      have HK1 := hide (HK0.out.later hb1)
      clear hb1
      have k0 := HK1.out.cell 0 _ rfl
      go_wp2_with fail
      clear k0
      refine (l04Partition_any n _ _ _ xs false _ HM.out hbm hb (HX.out.later HB1.out) (by simpa using HP.out)).mono ?_
      rintro e w2 ⟨rfl, hb2⟩
      have HB2 := hide (HB1.out.trans (hb2.mono HB1.out.size))
      have HK2 := hide (HK1.out.later hb2)
      clear hb2
      go_wp2_with fail
      go_ret
      exact ⟨rfl, HB2.out⟩
  · obtain rfl : code = 1 := by
      rcases hres with h | h
      · exact absurd h.1 h1
      · exact h.2
    have HRK : Hid (RkRes f false) := hide (by unfold RkRes; simp [h1])
    clear hres hn hbs hr hm hx h1
    go_enter Try.func50, Try.ntmps50
    go_wp2_with fail
    refine (isRackS _ _ _ f false _ HN.out hb HBS.out (HRD.out.later HB0.out) HRK.out).mono ?_
    rintro e w1 ⟨rfl, hb1⟩
    have HB1 := hide (HB0.out.trans (hb1.mono HB0.out.size))
    have HK1 := hide (HK0.out.later hb1)
    clear hb1
    go_wp2_with fail
    go_ret
    exact ⟨rfl, HB1.out⟩

set_option maxRecDepth 100000 in
theorem cgS_any (A : Option Addr) (n c : Nat) (f : List (List Int)) (B : Option Addr) (m d : Nat) (xs : List Int) (r : Bool) (code : Int) (w : World) (hn : f.length = n) (hb : n ≤ 1048576) (hbs : ∀ i, i < f.length → (f.getD i []).length ≤ 1048576) (hr : Rd2 w A f) (hm : xs.length = m) (hbm : m ≤ 1048576) (hx : Rd w B xs) (hres : CgRes f xs r code) :
    Calls Try.prog 19 #[.agg #[.slice A n c], .slice B m d] w fun e w' => e = .returned (.tuple #[.bool r, .int .i64 code]) ∧ Below w.heap.size w w' := by
  have HN := hide hn
  have HBS := hide hbs
  have HRD := hide hr
  have HM := hide hm
  have HX := hide hx
  have HB0 := hide ((Below.refl _ w).alloc (Nat.le_refl _) (Obj.cells #[Value.slice A n c] 26))
  have HK0 := hide (Blk.new w 26 [.slice A n c])
  rcases hres with ⟨⟨h1, h2⟩, hrc, rfl⟩ | ⟨h1, rfl, rfl⟩
  · have HTB := hide h1.tbl
    have HP := hide h2
    have HRC := hide hrc
    have HCD : Hid (CdRes f xs 0) := hide (.inl ⟨h1, h2, rfl⟩)
    clear hn hbs hr hm hx h1 h2 hrc
    go_enter Try.func19, Try.ntmps19
    go_wp2_with fail
    refine (l04Code_any _ _ _ f _ _ _ xs 0 _ HN.out hb HBS.out (HRD.out.later HB0.out) HM.out hbm (HX.out.later HB0.out) HCD.out).mono ?_
    rintro e w1 ⟨rfl, hb1⟩
    have HB1 := hide (HB0.out.trans (hb1.mono HB0.out.size))
    have HK1 := hide (HK0.out.later hb1)
    clear hb1
    have k0 := HK1.out.cell 0 _ rfl
    go_wp2_with fail
    clear k0
    refine (l04Cg_any _ _ _ f _ _ _ xs r _ HN.out HTB.out (HRD.out.later HB1.out) HM.out (HX.out.later HB1.out) HP.out HRC.out).mono ?_
    rintro e w2 ⟨rfl, hb2⟩
    have HB2 := hide (HB1.out.trans (hb2.mono HB1.out.size))
    have HK2 := hide (HK1.out.later hb2)
    clear hb2
    go_wp2_with fail
    go_ret2
    exact ⟨rfl, HB2.out⟩
  · have HCD : Hid (CdRes f xs 1) := hide (.inr ⟨h1, rfl⟩)
    clear hn hbs hr hm hx h1
    go_enter Try.func19, Try.ntmps19
    go_wp2_with fail
    refine (l04Code_any _ _ _ f _ _ _ xs 1 _ HN.out hb HBS.out (HRD.out.later HB0.out) HM.out hbm (HX.out.later HB0.out) HCD.out).mono ?_
    rintro e w1 ⟨rfl, hb1⟩
    have HB1 := hide (HB0.out.trans (hb1.mono HB0.out.size))
    have HK1 := hide (HK0.out.later hb1)
    clear hb1
    go_wp2_with fail
    go_ret2
    exact ⟨rfl, HB1.out⟩
end Go.Proofs.Ytljdfanebjhhmaa
