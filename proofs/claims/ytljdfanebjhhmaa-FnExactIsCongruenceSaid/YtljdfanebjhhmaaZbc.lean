import Derived.Test.YtljdfanebjhhmaaZam
import Derived.Test.YtljdfanebjhhmaaZaq
namespace Go.Proofs.Ytljdfanebjhhmaa
open Go Go.RowKit
set_option maxHeartbeats 2000000

set_option maxRecDepth 100000 in
theorem cgI_any (A : Option Addr) (n c : Nat) (f : List (List Int)) (B : Option Addr) (m d : Nat) (xs : List Int) (r : Bool) (code : Int) (w : World) (hn : f.length = n) (hb : n ≤ 1048576) (hbs : ∀ i, i < f.length → (f.getD i []).length ≤ 1048576) (hr : Rd2 w A f) (hm : xs.length = m) (hbm : m ≤ 1048576) (hx : Rd w B xs) (hres : CgRes f xs r code) :
    Calls Try.prog 21 #[.agg #[.slice A n c], .slice B m d] w fun e w' => e = .returned (.tuple #[.bool r, .int .i64 code]) ∧ Below w.heap.size w w' := by
  have HN := hide hn
  have HBS := hide hbs
  have HRD := hide hr
  have HM := hide hm
  have HX := hide hx
  have HB0 := hide ((Below.refl _ w).alloc (Nat.le_refl _) (Obj.cells #[Value.slice A n c] 26))
  have HK0 := hide (Blk.new w 26 [.slice A n c])
  rcases hres with ⟨⟨h1, h2⟩, hrc, rfl⟩ | ⟨hno, rfl, rfl⟩
  · have HTB := hide h1.tbl
    have HP := hide h2
    have HRC := hide hrc
    have HRK : Hid (RkRes f true) := hide (by unfold RkRes; simp [h1])
    have HPP : Hid (m = n ∧ Canon xs) := hide ⟨by rw [← hm, ← hn]; exact h2.1, h2.2⟩
    clear hn hbs hr hm hx h1 h2 hrc
    go_enter Try.func21, Try.ntmps21
    go_wp2_with fail
    refine (isRackI _ _ _ f true _ HN.out hb HBS.out (HRD.out.later HB0.out) HRK.out).mono ?_
    rintro e w1 ⟨rfl, hb1⟩
    have HB1 := hide (HB0.out.trans (hb1.mono HB0.out.size))
    have HK1 := hide (HK0.out.later hb1)
    clear hb1
    have k0 := HK1.out.cell 0 _ rfl
    go_wp2_with fail
    clear k0
    refine (isPart_any _ n _ _ _ _ xs true _ hb HM.out hbm (HX.out.later HB1.out) (by simp [HPP.out.2]; exact HPP.out.1)).mono ?_
    rintro e w2 ⟨rfl, hb2⟩
    have HB2 := hide (HB1.out.trans (hb2.mono HB1.out.size))
    have HK2 := hide (HK1.out.later hb2)
    clear hb2
    have k0 := HK2.out.cell 0 _ rfl
    go_wp2_with fail
    clear k0
    refine (hasCg_any _ _ _ f _ _ _ xs r _ HN.out HTB.out (HRD.out.later HB2.out) HM.out (HX.out.later HB2.out) HP.out HRC.out).mono ?_
    rintro e w3 ⟨rfl, hb3⟩
    have HB3 := hide (HB2.out.trans (hb3.mono HB2.out.size))
    have HK3 := hide (HK2.out.later hb3)
    clear hb3
    go_wp2_with fail
    go_ret2
    exact ⟨rfl, HB3.out⟩
  · by_cases h1 : Rck f
    · have HPP : Hid (¬ (m = n ∧ Canon xs)) := hide (fun h => hno ⟨h1, by rw [hm, hn]; exact h.1, h.2⟩)
      have HRK : Hid (RkRes f true) := hide (by unfold RkRes; simp [h1])
      clear hn hbs hr hm hx h1 hno
      go_enter Try.func21, Try.ntmps21
      go_wp2_with fail
      refine (isRackI _ _ _ f true _ HN.out hb HBS.out (HRD.out.later HB0.out) HRK.out).mono ?_
      rintro e w1 ⟨rfl, hb1⟩
      have HB1 := hide (HB0.out.trans (hb1.mono HB0.out.size))
      have HK1 := hide (HK0.out.later hb1)
      clear hb1
      have k0 := HK1.out.cell 0 _ rfl
      go_wp2_with fail
      clear k0
      refine (isPart_any _ n _ _ _ _ xs false _ hb HM.out hbm (HX.out.later HB1.out) (by simpa using HPP.out)).mono ?_
      rintro e w2 ⟨rfl, hb2⟩
      have HB2 := hide (HB1.out.trans (hb2.mono HB1.out.size))
      have HK2 := hide (HK1.out.later hb2)
      clear hb2
      go_wp2_with fail
      go_ret2
      exact ⟨rfl, HB2.out⟩
    · skip
      have HRK : Hid (RkRes f false) := hide (by unfold RkRes; simp [h1])
      clear hn hbs hr hm hx h1 hno
      go_enter Try.func21, Try.ntmps21
      go_wp2_with fail
      refine (isRackI _ _ _ f false _ HN.out hb HBS.out (HRD.out.later HB0.out) HRK.out).mono ?_
      rintro e w1 ⟨rfl, hb1⟩
      have HB1 := hide (HB0.out.trans (hb1.mono HB0.out.size))
      have HK1 := hide (HK0.out.later hb1)
      clear hb1
      go_wp2_with fail
      go_ret2
      exact ⟨rfl, HB1.out⟩
end Go.Proofs.Ytljdfanebjhhmaa
