import Derived.Test.YtclgjkmoeeklkaaCllS
namespace Go.Proofs.Ytclgjkmoeeklkaa
open Go Go.RowKit
set_option maxHeartbeats 1000000
theorem coWS_any (A : Option Addr) (n c : Nat) (f : List (List Int)) (B : Option Addr) (m d : Nat) (s : List (List Int)) (zs : List Int) (code : Int) (k : Nat) (w : World) (hz : ZArg 1048576 w A n f B m s) (hr : CoRes f s zs code) (hk : zs.length = k) :
    Calls Try.prog 28 #[.agg #[.slice A n c, .slice B m d]] w (RPost 2 k zs code w) := by
  have HZ := hide hz
  have hfl := hz.sz.fl
  have HB0 := hide ((Below.refl _ w).alloc (Nat.le_refl _) (Obj.cells #[Value.slice A n c, Value.slice B m d] 43))
  have HK0 := hide (Blk.new w 43 [.slice A n c, .slice B m d])
  unfold CoRes at hr
  rw [hfl] at hr
  have HKE := hide hk
  clear hk
  rcases hr with ⟨a, b, hp, hf, rfl, rfl⟩ | ⟨hp, hf, rfl, rfl⟩ | ⟨hp, rfl, rfl⟩
  · have HF := hide hf
    have k9 : k = 4 := HKE.out.symm
    subst k9
    clear hf
    have HP := hide hp
    clear hp hz hfl
    go_enter Try.func28, Try.ntmps28
    go_wp2_with fail
    refine (mapS_any _ _ _ f _ _ _ s true _ (HZ.out.later HB0.out) (by simp [HP.out])).mono ?_
    rintro e w1 ⟨rfl, hb1⟩
    have HB1 := hide (HB0.out.trans (hb1.mono HB0.out.size))
    have HK1 := hide (HK0.out.later hb1)
    have k0 := HK1.out.cell 0 _ rfl
    have k1 := HK1.out.cell 1 _ rfl
    clear hb1
    go_wp2_with fail
    refine (collS_any _ _ _ f _ _ _ s _ (HZ.out.later HB1.out) HP.out).mono ?_
    rintro e w2 ⟨g, q, ys, rfl, hb2, hlo, hown, hres⟩
    have HB2 := hide (HB1.out.trans (hb2.mono HB1.out.size))
    have HRES := hide hres
    have HOWN := hide hown
    have hlo2 : w.heap.size ≤ g := by have := HB1.out.size; omega
    clear hb2 hres k0 k1 hown hlo
    rcases HRES.out with ⟨hno, _, _⟩ | ⟨a', b', hf2, hzs, rfl⟩
    · exact absurd hno HF.out.not
    · obtain ⟨e1, e2⟩ := HF.out.uniq hf2
      subst e1
      subst e2
      subst hzs
      clear HRES hf2
      go_wp2_with fail
      go_ret2
      exact ⟨_, _, rfl, HB2.out, .inr ⟨g, rfl, hlo2, HOWN.out⟩⟩
  · have HF := hide hf
    have k9 : k = 0 := HKE.out.symm
    subst k9
    clear hf
    have HP := hide hp
    clear hp hz hfl
    go_enter Try.func28, Try.ntmps28
    go_wp2_with fail
    refine (mapS_any _ _ _ f _ _ _ s true _ (HZ.out.later HB0.out) (by simp [HP.out])).mono ?_
    rintro e w1 ⟨rfl, hb1⟩
    have HB1 := hide (HB0.out.trans (hb1.mono HB0.out.size))
    have HK1 := hide (HK0.out.later hb1)
    have k0 := HK1.out.cell 0 _ rfl
    have k1 := HK1.out.cell 1 _ rfl
    clear hb1
    go_wp2_with fail
    refine (collS_any _ _ _ f _ _ _ s _ (HZ.out.later HB1.out) HP.out).mono ?_
    rintro e w2 ⟨g, q, ys, rfl, hb2, hlo, hown, hres⟩
    have HB2 := hide (HB1.out.trans (hb2.mono HB1.out.size))
    have HRES := hide hres
    have HOWN := hide hown
    have hlo2 : w.heap.size ≤ g := by have := HB1.out.size; omega
    clear hb2 hres k0 k1 hown hlo
    rcases HRES.out with ⟨_, hzs, rfl⟩ | ⟨a', b', hf2, _, _⟩
    · subst hzs
      clear HRES
      go_wp2_with fail
      go_ret2
      exact ⟨_, _, rfl, HB2.out, .inl ⟨rfl, rfl⟩⟩
    · exact absurd HF.out hf2.not
  · have k9 : k = 0 := HKE.out.symm
    subst k9
    have HP := hide hp
    clear hp hz hfl
    go_enter Try.func28, Try.ntmps28
    go_wp2_with fail
    refine (mapS_any _ _ _ f _ _ _ s false _ (HZ.out.later HB0.out) (by simp [HP.out])).mono ?_
    rintro e w1 ⟨rfl, hb1⟩
    have HB1 := hide (HB0.out.trans (hb1.mono HB0.out.size))
    have HK1 := hide (HK0.out.later hb1)
    have k0 := HK1.out.cell 0 _ rfl
    have k1 := HK1.out.cell 1 _ rfl
    clear hb1
    go_wp2_with fail
    clear k0 k1
    go_ret2
    exact ⟨_, _, rfl, HB1.out, .inl ⟨rfl, rfl⟩⟩
end Go.Proofs.Ytclgjkmoeeklkaa
