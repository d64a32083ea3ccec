import Derived.Test.YtpkfcjpppncbiaaZy
import Derived.Test.YtpkfcjpppncbiaaZp
import Derived.Test.YtpkfcjpppncbiaaZaa
import Derived.Test.YtpkfcjpppncbiaaZz
namespace Go.Proofs.Ytpkfcjpppncbiaa
open Go Go.RowKit
set_option maxHeartbeats 2000000

set_option maxRecDepth 100000 in
theorem rkTxI (A : Option Addr) (n c : Nat) (f : List (List Int)) (s : ByteArray) (code : Int) (w : World) (hn : f.length = n) (hb : n ≤ 1048576) (hbs : ∀ i, i < f.length → (f.getD i []).length ≤ 1048576) (hr : Rd2 w A f) (hres : RkTx f s code) :
    Calls Try.prog 9 #[.agg #[.slice A n c]] w fun e w' => e = .returned (.tuple #[.string s, .int .i64 code]) ∧ Below w.heap.size w w' := by
  have HN := hide hn
  have HBS := hide hbs
  have HRD := hide hr
  have HB0 := hide ((Below.refl _ w).alloc (Nat.le_refl _) (Obj.cells #[Value.slice A n c] 28))
  have HK0 := hide (Blk.new w 28 [.slice A n c])
  rcases hres with ⟨hp, rfl, rfl⟩ | ⟨hp, rfl, rfl⟩
  · have HTB := hide hp.tbl
    have HRK : Hid (RkRes f true) := hide (by unfold RkRes; simp [hp])
    have HP := hide hp
    clear hn hbs hr hp
    go_enter Try.func9, Try.ntmps9
    go_wp2_with fail
    refine (isRackI _ _ _ f true _ HN.out hb HBS.out (HRD.out.later HB0.out) HRK.out).mono ?_
    rintro e w1 ⟨rfl, hb1⟩
    have HB1 := hide (HB0.out.trans (hb1.mono HB0.out.size))
    have HK1 := hide (HK0.out.later hb1)
    clear hb1
    have k0 := HK1.out.cell 0 _ rfl
    go_wp2_with fail
    clear k0
    refine (ttextWI_any _ _ _ f (tabS f) 0 _ HN.out hb HBS.out (HRD.out.later HB1.out) (.inl ⟨HTB.out, rfl, rfl⟩)).mono ?_
    rintro e w2 ⟨rfl, hb2⟩
    have HB2 := hide (HB1.out.trans (hb2.mono HB1.out.size))
    clear hb2
    go_wp2_with fail
    go_ret2
    exact ⟨rfl, HB2.out⟩
  · skip
    have HRK : Hid (RkRes f false) := hide (by unfold RkRes; simp [hp])
    have HP := hide hp
    clear hn hbs hr hp
    go_enter Try.func9, Try.ntmps9
    go_wp2_with fail
    refine (isRackI _ _ _ f false _ HN.out hb HBS.out (HRD.out.later HB0.out) HRK.out).mono ?_
    rintro e w1 ⟨rfl, hb1⟩
    have HB1 := hide (HB0.out.trans (hb1.mono HB0.out.size))
    have HK1 := hide (HK0.out.later hb1)
    clear hb1
    go_wp2_with fail
    go_ret2
    exact ⟨rfl, HB1.out⟩

set_option maxRecDepth 100000 in
theorem rkTxS (A : Option Addr) (n c : Nat) (f : List (List Int)) (s : ByteArray) (code : Int) (w : World) (hn : f.length = n) (hb : n ≤ 1048576) (hbs : ∀ i, i < f.length → (f.getD i []).length ≤ 1048576) (hr : Rd2 w A f) (hres : RkTx f s code) :
    Calls Try.prog 7 #[.agg #[.slice A n c]] w fun e w' => e = .returned (.tuple #[.string s, .int .i64 code]) ∧ Below w.heap.size w w' := by
  have HN := hide hn
  have HBS := hide hbs
  have HRD := hide hr
  have HB0 := hide ((Below.refl _ w).alloc (Nat.le_refl _) (Obj.cells #[Value.slice A n c] 28))
  have HK0 := hide (Blk.new w 28 [.slice A n c])
  rcases hres with ⟨hp, rfl, rfl⟩ | ⟨hp, rfl, rfl⟩
  · have HTB := hide hp.tbl
    have HRK : Hid (RkRes f true) := hide (by unfold RkRes; simp [hp])
    have HP := hide hp
    clear hn hbs hr hp
    go_enter Try.func7, Try.ntmps7
    go_wp2_with fail
    refine (isRackS _ _ _ f true _ HN.out hb HBS.out (HRD.out.later HB0.out) HRK.out).mono ?_
    rintro e w1 ⟨rfl, hb1⟩
    have HB1 := hide (HB0.out.trans (hb1.mono HB0.out.size))
    have HK1 := hide (HK0.out.later hb1)
    clear hb1
    have k0 := HK1.out.cell 0 _ rfl
    go_wp2_with fail
    clear k0
    refine (l01Text_any _ _ _ f _ HN.out HTB.out (HRD.out.later HB1.out)).mono ?_
    rintro e w2 ⟨rfl, hb2⟩
    have HB2 := hide (HB1.out.trans (hb2.mono HB1.out.size))
    clear hb2
    go_wp2_with fail
    go_ret2
    exact ⟨rfl, HB2.out⟩
  · skip
    have HRK : Hid (RkRes f false) := hide (by unfold RkRes; simp [hp])
    have HP := hide hp
    clear hn hbs hr hp
    go_enter Try.func7, Try.ntmps7
    go_wp2_with fail
    refine (isRackS _ _ _ f false _ HN.out hb HBS.out (HRD.out.later HB0.out) HRK.out).mono ?_
    rintro e w1 ⟨rfl, hb1⟩
    have HB1 := hide (HB0.out.trans (hb1.mono HB0.out.size))
    have HK1 := hide (HK0.out.later hb1)
    clear hb1
    go_wp2_with fail
    go_ret2
    exact ⟨rfl, HB1.out⟩

end Go.Proofs.Ytpkfcjpppncbiaa
