import Derived.Test.YtpnlmmilnglmkaaZat
import Derived.Test.YtpnlmmilnglmkaaZaw
import Derived.Test.YtpnlmmilnglmkaaZab
import Derived.Test.YtpnlmmilnglmkaaZw
import Derived.Test.YtpnlmmilnglmkaaZe
import Derived.Test.YtpnlmmilnglmkaaZb
import Derived.Deep.Cut
import Derived.StillTailTactics
namespace Go.Proofs.Ytpnlmmilnglmkaa
open Go Go.RowKit
set_option maxHeartbeats 4000000

set_option maxRecDepth 100000 in
theorem tmS_any (A : Option Addr) (n c : Nat) (f : List (List Int)) (B : Option Addr) (k d : Nat) (s : List (List Int)) (C : Option Addr) (m e : Nat) (xs : List Int) (kk : Int) (zs : List Int) (code : Int) (kz : Nat) (w : World) (hz : ZArg 1048576 w A n f B k s) (hm : xs.length = m) (hb : m ≤ 1048576) (hr : Rd w C xs) (hk0 : -9223372036854775808 ≤ kk) (hk1 : kk ≤ 9223372036854775807) (hres : TmRes f s xs kk zs code) (hkz : zs.length = kz) :
    Calls Try.prog 23 #[.agg #[.slice A n c, .slice B k d], .slice C m e, .int .i64 kk] w fun e w' => ∃ A' c', e = .returned (.tuple #[.slice A' kz c', .int .i64 code]) ∧ Below w.heap.size w w' ∧ Res 2 w.heap.size w' A' zs := by
  have HZ := hide hz
  have HM := hide hm
  have HR := hide hr
  have HKZ := hide hkz
  have HB0 := hide ((Below.refl _ w).alloc (Nat.le_refl _) (Obj.cells #[Value.slice A n c, Value.slice B k d] 30))
  have HK0 := hide (Blk.new w 30 [Value.slice A n c, Value.slice B k d])
  have HSZ0 := hide (Blk.new w 30 [Value.slice A n c, Value.slice B k d]).lt
  rcases hres with ⟨hg, hmv⟩ | ⟨hg, rfl, rfl⟩
  · have HMV := hide hmv
    have HG := hide hg
    have HP : Hid (PMap f s) := hide hg.1
    obtain rfl := (hz.same hg.1).symm
    have HN := hide hz.sz.fl
    have h12 := (hz.small hg.1).2
    replace HMV : Hid (MvR n (leH f) (leH s) xs kk zs code) := hide (by have h := hmv; rw [hz.sz.fl] at h; exact h)
    have HTF : Hid (IsRes f s true) := hide ⟨fun _ => HG.out, fun _ => rfl⟩
    obtain ⟨r1, hr1⟩ : ∃ r : Bool, r = true ↔ Tup n xs := bool_of _
    obtain ⟨r2, hr2⟩ : ∃ r : Bool, r = true ↔ (0 ≤ kk ∧ kk ≤ (m : Int) - 2) := bool_of _
    have HT := hide hr1
    have H2 := hide hr2
    have wz : IntKind.i64.wrap ((m : Int) - 2) = (m : Int) - 2 := IntWalk.i64_in _ (by omega)
    have BAD : Hid (¬ (Tup n xs ∧ 0 ≤ kk ∧ kk + 2 ≤ (xs.length : Int)) → zs = [] ∧ code = 2) := hide (fun h => by
      rcases HMV.out with ⟨h1, _⟩ | ⟨_, h2⟩
      · exact absurd h1 h
      · exact h2)
    have GOOD : Hid (Tup n xs ∧ 0 ≤ kk ∧ kk + 2 ≤ (xs.length : Int) → zs = mvL (leH f) (leH s) xs kk.toNat ∧ code = 0) := hide (fun h => by
      rcases HMV.out with ⟨_, h2⟩ | ⟨h1, _⟩
      · exact h2
      · exact absurd h h1)
    clear hm hr hkz hg hmv hr1 hr2 hz
    go_enter Try.func23, Try.ntmps23
    have k0 := HK0.out.cell 0 _ rfl
    have k1 := HK0.out.cell 1 _ rfl
    go_wp2_with fail
    clear k0 k1
    refine (isS_any _ _ _ f _ _ _ s true _ (HZ.out.later HB0.out) HTF.out).mono ?_
    rintro e w1 ⟨rfl, hb1⟩
    have HB1 := hide (HB0.out.trans (hb1.mono HB0.out.size))
    have HK1 := hide (HK0.out.later hb1)
    clear hb1
    have k0 := HK1.out.cell 0 _ rfl
    have k1 := HK1.out.cell 1 _ rfl
    go_wp2_with fail
    clear k0 k1
    refine (tupS_any n C m _ xs r1 _ (by omega) HM.out hb (HR.out.later HB1.out) HT.out).mono ?_
    rintro e w2 ⟨rfl, hb2⟩
    have HB2 := hide (HB1.out.trans (hb2.mono HB1.out.size))
    have HK2 := hide (HK1.out.later hb2)
    clear hb2
    rcases r1 with _ | _
    · obtain ⟨rfl, rfl⟩ := BAD.out (fun h => absurd (HT.out.2 h.1) (by simp))
      obtain rfl : kz = 0 := by rw [← HKZ.out]; rfl
      go_wp2_with fail
      go_ret2
      exact ⟨_, _, rfl, HB2.out, .inl ⟨rfl, rfl⟩⟩
    have htp : Tup n xs := HT.out.1 (by simp)
    have hm12 : m ≤ 12 := by rw [← HM.out]; exact htp.1
    have HTP := hide htp
    clear htp
    go_wp2_with fail
    refine (in_any kk 0 ((m : Int) - 2) r2 _ (by rw [H2.out])).mono ?_
    rintro e w3 ⟨rfl, hq3⟩
    have HB3 := hide (HB2.out.trans ((hq3.below _).mono HB2.out.size))
    have HK3 := hide (HK2.out.later (hq3.below _))
    clear hq3
    rcases r2 with _ | _
    · obtain ⟨rfl, rfl⟩ := BAD.out (fun h => absurd (H2.out.2 ⟨h.2.1, by have := HM.out; omega⟩) (by simp))
      obtain rfl : kz = 0 := by rw [← HKZ.out]; rfl
      go_wp2_with fail
      go_ret2
      exact ⟨_, _, rfl, HB3.out, .inl ⟨rfl, rfl⟩⟩
    have h2t : 0 ≤ kk ∧ kk ≤ (m : Int) - 2 := H2.out.1 (by simp)
    obtain ⟨rfl, rfl⟩ := GOOD.out ⟨HTP.out, h2t.1, by have := HM.out; omega⟩
    obtain ⟨K, rfl⟩ : ∃ K : Nat, kk = K := ⟨kk.toNat, by omega⟩
    have hKt : ((K : Int)).toNat = K := by simp
    rw [hKt] at HKZ
    have HKT := hide hKt
    have hKm : K + 1 < m := by omega
    obtain rfl : kz = m := by rw [← HKZ.out, mvL_length]; exact HM.out
    clear H2 BAD GOOD h2t hKt
    have k0 := HK3.out.cell 0 _ rfl
    have k1 := HK3.out.cell 1 _ rfl
    go_wp2_with fail
    clear k0 k1
    refine (moveS_any _ n _ f _ _ s C kz _ xs K _ (HZ.out.later HB3.out) HP.out HM.out (HR.out.later HB3.out) HTP.out hKm).mono ?_
    rintro e w4 ⟨A4, c4, rfl, hb4, ho4⟩
    have HB4 := hide (HB3.out.trans (hb4.mono HB3.out.size))
    have HO4 := hide (ho4.mono HB3.out.size)
    clear hb4 ho4
    go_wp2_with fail
    go_ret2
    exact ⟨_, _, rfl, HB4.out, by rw [HKT.out]; exact HO4.out⟩
  · obtain rfl : kz = 0 := by rw [← hkz]; rfl
    have HG := hide hg
    clear hm hr hkz hg hz
    go_enter Try.func23, Try.ntmps23
    have k0 := HK0.out.cell 0 _ rfl
    have k1 := HK0.out.cell 1 _ rfl
    go_wp2_with fail
    clear k0 k1
    refine (isS_any _ _ _ f _ _ _ s false _ (HZ.out.later HB0.out) ⟨fun h => absurd h (by simp), fun h => absurd h HG.out⟩).mono ?_
    rintro e w1 ⟨rfl, hb1⟩
    have HB1 := hide (HB0.out.trans (hb1.mono HB0.out.size))
    clear hb1
    go_wp2_with fail
    go_ret2
    exact ⟨_, _, rfl, HB1.out, .inl ⟨rfl, rfl⟩⟩
end Go.Proofs.Ytpnlmmilnglmkaa
