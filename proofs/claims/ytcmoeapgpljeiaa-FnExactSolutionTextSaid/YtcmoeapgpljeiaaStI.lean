import Derived.Test.YtcmoeapgpljeiaaMapI
import Derived.Test.YtcmoeapgpljeiaaTabTextI
import Derived.Test.YtcmoeapgpljeiaaStF
import Derived.Test.YtcmoeapgpljeiaaReads
namespace Go.Proofs.Ytcmoeapgpljeiaa
open Go Go.RowKit
set_option maxHeartbeats 1000000
theorem stI_any (A : Option Addr) (n c : Nat) (f : List (List Int)) (B : Option Addr) (m d : Nat) (s : List (List Int)) (v : ByteArray) (code : Int) (w : World) (hz : ZArg 1048576 w A n f B m s) (hr : StRes f s v code) :
    Calls Try.prog 37 #[.agg #[.slice A n c, .slice B m d]] w fun e w' => e = .returned (.tuple #[.string v, .int .i64 code]) ∧ Below w.heap.size w w' := by
  have HZ := hide hz
  have HB0 := hide ((Below.refl _ w).alloc (Nat.le_refl _) (Obj.cells #[Value.slice A n c, Value.slice B m d] 29))
  have HK0 := hide (Blk.new w 29 [.slice A n c, .slice B m d])
  rcases hr with ⟨hp, rfl, rfl⟩ | ⟨hp, rfl, rfl⟩
  · have HP := hide hp
    unfold solS
    have hs1 := tabS_small hp.1
    have hs2 := tabS_small hp.2.1
    obtain ⟨t1, ht1⟩ : ∃ t, tabS f = t := ⟨_, rfl⟩
    obtain ⟨t2, ht2⟩ : ∃ t, tabS s = t := ⟨_, rfl⟩
    rw [ht1] at hs1 ⊢
    rw [ht2] at hs2 ⊢
    have R1 : Hid (TTextRes f t1 0) := hide (.inl ⟨hp.1, ht1.symm, rfl⟩)
    have R2 : Hid (TTextRes s t2 0) := hide (.inl ⟨hp.2.1, ht2.symm, rfl⟩)
    have hnb := hz.sz.nb
    have hmb := hz.sz.mb
    clear hz hp ht1 ht2
    go_enter Try.func37, Try.ntmps37
    go_wp2_with fail
    refine (mapI_any _ _ _ f _ _ _ s true _ (HZ.out.later HB0.out) (by simp [HP.out])).mono ?_
    rintro e w1 ⟨rfl, hb1⟩
    have HB1 := hide (HB0.out.trans (hb1.mono HB0.out.size))
    have HK1 := hide (HK0.out.later hb1)
    have k0 := HK1.out.cell 0 _ rfl
    have k1 := HK1.out.cell 1 _ rfl
    clear hb1
    go_wp2_with fail
    refine (ttextWI_any _ _ _ f t1 0 _ HZ.out.sz.fl hnb HZ.out.sz.nr (HZ.out.fst.later HB1.out) R1.out).mono ?_
    rintro e w2 ⟨rfl, hb2⟩
    have HB2 := hide (HB1.out.trans (hb2.mono HB1.out.size))
    have HK2 := hide (HK1.out.later hb2)
    clear hb2 k0 k1
    have k0 := HK2.out.cell 0 _ rfl
    have k1 := HK2.out.cell 1 _ rfl
    go_wp2_with fail
    refine (ttextWI_any _ _ _ s t2 0 _ HZ.out.sz.sl hmb HZ.out.sz.mr (HZ.out.snd.later HB2.out) R2.out).mono ?_
    rintro e w3 ⟨rfl, hb3⟩
    have HB3 := hide (HB2.out.trans (hb3.mono HB2.out.size))
    clear hb3 k0 k1
    have hsz : (t1 ++ (⟨#[124]⟩ : ByteArray)).size = t1.size + 1 := by rw [ByteArray.size_append]; rfl
    go_wp2_with fail
    go_ret2
    exact ⟨rfl, HB3.out⟩
  · have HP := hide hp
    clear hp hz
    go_enter Try.func37, Try.ntmps37
    go_wp2_with fail
    refine (mapI_any _ _ _ f _ _ _ s false _ (HZ.out.later HB0.out) (by simp [HP.out])).mono ?_
    rintro e w1 ⟨rfl, hb1⟩
    have HB1 := hide (HB0.out.trans (hb1.mono HB0.out.size))
    clear hb1
    go_wp2_with fail
    go_ret2
    exact ⟨rfl, HB1.out⟩
end Go.Proofs.Ytcmoeapgpljeiaa
