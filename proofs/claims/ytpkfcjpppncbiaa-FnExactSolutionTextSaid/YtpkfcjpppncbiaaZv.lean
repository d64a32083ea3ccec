import Derived.Test.YtpkfcjpppncbiaaZr
import Derived.Test.YtpkfcjpppncbiaaZp
import Derived.Test.YtpkfcjpppncbiaaZq
import Derived.Test.YtpkfcjpppncbiaaZa
namespace Go.Proofs.Ytpkfcjpppncbiaa
open Go Go.RowKit
set_option maxHeartbeats 1000000
theorem stI_any (A : Option Addr) (n c : Nat) (f : List (List Int)) (B : Option Addr) (m d : Nat) (s : List (List Int)) (v : ByteArray) (code : Int) (w : World) (hz : ZArg 1048576 w A n f B m s) (hr : StRes f s v code) :
    Calls Try.prog 19 #[.agg #[.slice A n c, .slice B m d]] w fun e w' => e = .returned (.tuple #[.string v, .int .i64 code]) ∧ Below w.heap.size w w' := by
  have HZ := hide hz
  have HB0 := hide ((Below.refl _ w).alloc (Nat.le_refl _) (Obj.cells #[Value.slice A n c, Value.slice B m d] 43))
  have HK0 := hide (Blk.new w 43 [.slice A n c, .slice B m d])
  rcases hr with ⟨hp, rfl, rfl⟩ | ⟨hp, rfl, rfl⟩
  · have HP := hide hp
    unfold solS
    have hs1 := tabS_small hp.1
    have hs2 := tabS_small hp.2.1
    obtain ⟨t1, ht1⟩ : ∃ t, tabS f = t := ⟨_, rfl⟩
    obtain ⟨t2, ht2⟩ : ∃ t, tabS s = t := ⟨_, rfl⟩
    rw [ht1] at hs1 ⊢
    rw [ht2] at hs2 ⊢
    have R1 : Hid (TTextRes f t1 0) := hide (.inl ⟨hp.1, ht1.symm, rfl⟩)
    have R2 : Hid (TTextRes s t2 0) := hide (.inl ⟨hp.2.1, ht2.symm, rfl⟩)
    have hnb := hz.sz.nb
    have hmb := hz.sz.mb
    clear hz hp ht1 ht2
    go_enter Try.func19, Try.ntmps19
    go_wp2_with fail
    refine (mapI_any _ _ _ f _ _ _ s true _ (HZ.out.later HB0.out) (by simp [HP.out])).mono ?_
    rintro e w1 ⟨rfl, hb1⟩
    have HB1 := hide (HB0.out.trans (hb1.mono HB0.out.size))
    have HK1 := hide (HK0.out.later hb1)
    have k0 := HK1.out.cell 0 _ rfl
    have k1 := HK1.out.cell 1 _ rfl
    clear hb1
    go_wp2_with fail
    refine (ttextWI_any _ _ _ f t1 0 _ HZ.out.sz.fl hnb HZ.out.sz.nr (HZ.out.fst.later HB1.out) R1.out).mono ?_
    rintro e w2 ⟨rfl, hb2⟩
    have HB2 := hide (HB1.out.trans (hb2.mono HB1.out.size))
    have HK2 := hide (HK1.out.later hb2)
    clear hb2 k0 k1
    have k0 := HK2.out.cell 0 _ rfl
    have k1 := HK2.out.cell 1 _ rfl
    go_wp2_with fail
    refine (ttextWI_any _ _ _ s t2 0 _ HZ.out.sz.sl hmb HZ.out.sz.mr (HZ.out.snd.later HB2.out) R2.out).mono ?_
    rintro e w3 ⟨rfl, hb3⟩
    have HB3 := hide (HB2.out.trans (hb3.mono HB2.out.size))
    clear hb3 k0 k1
    have hsz : (t1 ++ (⟨#[124]⟩ : ByteArray)).size = t1.size + 1 := by rw [ByteArray.size_append]; rfl
    go_wp2_with fail
    go_ret2
    exact ⟨rfl, HB3.out⟩
  · have HP := hide hp
    clear hp hz
    go_enter Try.func19, Try.ntmps19
    go_wp2_with fail
    refine (mapI_any _ _ _ f _ _ _ s false _ (HZ.out.later HB0.out) (by simp [HP.out])).mono ?_
    rintro e w1 ⟨rfl, hb1⟩
    have HB1 := hide (HB0.out.trans (hb1.mono HB0.out.size))
    clear hb1
    go_wp2_with fail
    go_ret2
    exact ⟨rfl, HB1.out⟩
end Go.Proofs.Ytpkfcjpppncbiaa
namespace Go.Proofs.Ytpkfcjpppncbiaa
open Go Go.RowKit
set_option maxHeartbeats 1000000
theorem l02Text_any (A : Option Addr) (n c : Nat) (f : List (List Int)) (B : Option Addr) (m d : Nat) (s : List (List Int)) (w : World) (hz : ZArg 1048576 w A n f B m s) (hp : PMap f s) :
    Calls Try.prog 30 #[.agg #[.slice A n c, .slice B m d]] w fun e w' => e = .returned (.string (solS f s)) ∧ Below w.heap.size w w' := by
  have HZ := hide hz
  have HP := hide hp
  have HB0 := hide ((Below.refl _ w).alloc (Nat.le_refl _) (Obj.cells #[Value.slice A n c, Value.slice B m d] 43))
  have HK0 := hide (Blk.new w 43 [.slice A n c, .slice B m d])
  unfold solS
  have hs1 := tabS_small hp.1
  have hs2 := tabS_small hp.2.1
  obtain ⟨t1, ht1⟩ : ∃ t, tabS f = t := ⟨_, rfl⟩
  obtain ⟨t2, ht2⟩ : ∃ t, tabS s = t := ⟨_, rfl⟩
  rw [ht1] at hs1 ⊢
  rw [ht2] at hs2 ⊢
  have E1 := hide ht1
  have E2 := hide ht2
  have hsz : (t1 ++ (⟨#[124]⟩ : ByteArray)).size = t1.size + 1 := by rw [ByteArray.size_append]; rfl
  have hl1 : ¬ 9223372036854775807 < t1.size + 1 := by omega
  have hl2 : ¬ 9223372036854775807 < t1.size + 1 + t2.size := by omega
  clear hz hp ht1 ht2
  go_enter Try.func30, Try.ntmps30
  go_wp2_with fail
  have HBc := HB0
  have HKc := HK0
  have tok1 : True := trivial
  have k0 := HKc.out.cell 0 _ rfl
  have k1 := HKc.out.cell 1 _ rfl
  go_region_held3 (fun w' => w'.cell? ⟨w.heap.size, 0, none⟩ = some (.slice A n c) ∧ w'.cell? ⟨w.heap.size, 1, none⟩ = some (.slice B m d)) (first | exact ⟨k0, k1⟩ | go_keep) (first | (go_at_call 23; have _t := tok1; clear _t tok1; go_must (refine calls_gen fun wc hwc => ?_; (first | have hbx := drew_below hwc | have hbx := eq_below hwc); replace HBc := hide (HBc.out.trans (hbx.mono HBc.out.size)); replace HKc := hide (HKc.out.later hbx); clear hwc hbx; refine (l01Text_any _ _ _ f _ HZ.out.sz.fl HP.out.1 (HZ.out.fst.later HBc.out)).mono ?_; rintro e wd ⟨rfl, hbd⟩; replace HBc := hide (HBc.out.trans (hbd.mono HBc.out.size)); replace HKc := hide (HKc.out.later hbd); clear hbd; have k0 := HKc.out.cell 0 _ rfl; have k1 := HKc.out.cell 1 _ rfl; rw [E1.out])) | (go_at_call 23; go_must (refine calls_gen fun wc hwc => ?_; (first | have hbx := drew_below hwc | have hbx := eq_below hwc); replace HBc := hide (HBc.out.trans (hbx.mono HBc.out.size)); replace HKc := hide (HKc.out.later hbx); clear hwc hbx; refine (l01Text_any _ _ _ s _ HZ.out.sz.sl HP.out.2.1 (HZ.out.snd.later HBc.out)).mono ?_; rintro e wd ⟨rfl, hbd⟩; replace HBc := hide (HBc.out.trans (hbd.mono HBc.out.size)); replace HKc := hide (HKc.out.later hbd); clear hbd; have k0 := HKc.out.cell 0 _ rfl; have k1 := HKc.out.cell 1 _ rfl; rw [E2.out])))
  clear k0 k1
  go_wp2_with fail
  go_ret
  exact ⟨rfl, HBc.out⟩

theorem stS_any (A : Option Addr) (n c : Nat) (f : List (List Int)) (B : Option Addr) (m d : Nat) (s : List (List Int)) (v : ByteArray) (code : Int) (w : World) (hz : ZArg 1048576 w A n f B m s) (hr : StRes f s v code) :
    Calls Try.prog 17 #[.agg #[.slice A n c, .slice B m d]] w fun e w' => e = .returned (.tuple #[.string v, .int .i64 code]) ∧ Below w.heap.size w w' := by
  have HZ := hide hz
  have HB0 := hide ((Below.refl _ w).alloc (Nat.le_refl _) (Obj.cells #[Value.slice A n c, Value.slice B m d] 43))
  have HK0 := hide (Blk.new w 43 [.slice A n c, .slice B m d])
  rcases hr with ⟨hp, rfl, rfl⟩ | ⟨hp, rfl, rfl⟩
  · have HP := hide hp
    obtain ⟨t, ht⟩ : ∃ t, solS f s = t := ⟨_, rfl⟩
    rw [ht]
    have HT := hide ht
    clear hz hp ht
    go_enter Try.func17, Try.ntmps17
    go_wp2_with fail
    refine (mapS_any _ _ _ f _ _ _ s true _ (HZ.out.later HB0.out) (by simp [HP.out])).mono ?_
    rintro e w1 ⟨rfl, hb1⟩
    have HB1 := hide (HB0.out.trans (hb1.mono HB0.out.size))
    have HK1 := hide (HK0.out.later hb1)
    have k0 := HK1.out.cell 0 _ rfl
    have k1 := HK1.out.cell 1 _ rfl
    clear hb1
    go_wp2_with fail
    refine (l02Text_any _ _ _ f _ _ _ s _ (HZ.out.later HB1.out) HP.out).mono ?_
    rintro e w2 ⟨rfl, hb2⟩
    have HB2 := hide (HB1.out.trans (hb2.mono HB1.out.size))
    clear hb2 k0 k1
    rw [HT.out]
    go_wp2_with fail
    go_ret2
    exact ⟨rfl, HB2.out⟩
  · have HP := hide hp
    clear hp hz
    go_enter Try.func17, Try.ntmps17
    go_wp2_with fail
    refine (mapS_any _ _ _ f _ _ _ s false _ (HZ.out.later HB0.out) (by simp [HP.out])).mono ?_
    rintro e w1 ⟨rfl, hb1⟩
    have HB1 := hide (HB0.out.trans (hb1.mono HB0.out.size))
    clear hb1
    go_wp2_with fail
    go_ret2
    exact ⟨rfl, HB1.out⟩
end Go.Proofs.Ytpkfcjpppncbiaa
