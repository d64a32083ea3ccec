import Derived.Test.YtanldiildinbdaaZau
import Derived.Test.YtanldiildinbdaaZb
import Derived.Test.YtanldiildinbdaaZy
import Derived.Test.YtanldiildinbdaaZj
namespace Go.Proofs.Ytanldiildinbdaa
open Go Go.RowKit
set_option maxHeartbeats 1000000
theorem coWI_any (A : Option Addr) (n c : Nat) (f : List (List Int)) (B : Option Addr) (m d : Nat) (s : List (List Int)) (zs : List Int) (code : Int) (k : Nat) (w : World) (hz : ZArg 1048576 w A n f B m s) (hr : CoRes f s zs code) (hk : zs.length = k) :
    Calls Try.prog 27 #[.agg #[.slice A n c, .slice B m d]] w (RPost 2 k zs code w) := by
  have HZ := hide hz
  have hfl := hz.sz.fl
  have HB0 := hide ((Below.refl _ w).alloc (Nat.le_refl _) (Obj.cells #[Value.slice A n c, Value.slice B m d] 27))
  have HK0 := hide (Blk.new w 27 [.slice A n c, .slice B m d])
  unfold CoRes at hr
  rw [hfl] at hr
  have HKE := hide hk
  clear hk
  rcases hr with ⟨a, b, hp, hf, rfl, rfl⟩ | ⟨hp, hf, rfl, rfl⟩ | ⟨hp, rfl, rfl⟩
  · have HF := hide hf
    have k9 : k = 4 := HKE.out.symm
    subst k9
    clear hf HKE
    obtain ⟨x, hx⟩ : ∃ x, a / n = x := ⟨_, rfl⟩
    obtain ⟨y, hy⟩ : ∃ y, a % n = y := ⟨_, rfl⟩
    obtain ⟨u, hu⟩ : ∃ u, b / n = u := ⟨_, rfl⟩
    obtain ⟨v, hv⟩ : ∃ v, b % n = v := ⟨_, rfl⟩
    rw [hx, hy, hu, hv]
    have HX := hide hx
    have HY := hide hy
    have HU := hide hu
    have HV := hide hv
    clear hx hy hu hv
    have HP := hide hp
    clear hp hz hfl
    go_enter Try.func27, Try.ntmps27
    go_wp2_with fail
    refine (mapI_any _ _ _ f _ _ _ s true _ (HZ.out.later HB0.out) (by simp [HP.out])).mono ?_
    rintro e w1 ⟨rfl, hb1⟩
    have HB1 := hide (HB0.out.trans (hb1.mono HB0.out.size))
    have HK1 := hide (HK0.out.later hb1)
    have k0 := HK1.out.cell 0 _ rfl
    have k1 := HK1.out.cell 1 _ rfl
    clear hb1
    go_wp2_with fail
    refine (coll_any _ _ _ f _ _ _ s _ (HZ.out.later HB1.out) HP.out).mono ?_
    rintro e w2 ⟨hb2, hres⟩
    have HB2 := hide (HB1.out.trans (hb2.mono HB1.out.size))
    clear hb2 k0 k1
    rcases hres with ⟨hno, _⟩ | ⟨a', b', hf2, rfl⟩
    · exact absurd hno HF.out.not
    · obtain ⟨e1, e2⟩ := HF.out.uniq hf2
      subst e1
      subst e2
      clear hf2
      rw [HX.out, HY.out, HU.out, HV.out]
      clear HX HY HU HV HF
      go_wp2_with fail
      refine bp_gen fun wf hwf => ?_
      obtain ⟨w3, hw3⟩ : ∃ w3, w3 = (w2.alloc (Obj.cells #[Value.int IntKind.i64 (x : Int), Value.int IntKind.i64 (y : Int)] 53)).alloc (Obj.cells #[Value.int IntKind.i64 (u : Int), Value.int IntKind.i64 (v : Int)] 53) := ⟨_, rfl⟩
      have hs3 : w3.heap.size = w2.heap.size + 1 + 1 := by rw [hw3]; simp
      have hB3 : Below w.heap.size w w3 := by rw [hw3]; exact (HB2.out.alloc HB2.out.size _).alloc (by have := HB2.out.size; simp; omega) _
      rw [← hw3] at hwf
      have HBF : Below w.heap.size w wf := by rw [hwf]; exact hB3.alloc hB3.size _
      have HOF : OwnB 2 wf (w2.heap.size + 1 + 1) [(x : Int), (y : Int), (u : Int), (v : Int)] := by
        rw [hwf, ← hs3]
        refine ⟨_, heap_alloc_new _ _, fun i hi => ?_⟩
        simp at hi
        rcases i with _ | _ | _ | _ | i
        · rfl
        · rfl
        · rfl
        · rfl
        · omega
      have hlo : w.heap.size ≤ w2.heap.size + 1 + 1 := by have := HB2.out.size; omega
      clear hwf hw3 hs3 hB3
      go_ret2
      exact ⟨_, _, rfl, HBF, .inr ⟨w2.heap.size + 1 + 1, rfl, hlo, HOF⟩⟩
  · have HF := hide hf
    have k9 : k = 0 := HKE.out.symm
    subst k9
    clear hf
    have HP := hide hp
    clear hp hz hfl
    go_enter Try.func27, Try.ntmps27
    go_wp2_with fail
    refine (mapI_any _ _ _ f _ _ _ s true _ (HZ.out.later HB0.out) (by simp [HP.out])).mono ?_
    rintro e w1 ⟨rfl, hb1⟩
    have HB1 := hide (HB0.out.trans (hb1.mono HB0.out.size))
    have HK1 := hide (HK0.out.later hb1)
    have k0 := HK1.out.cell 0 _ rfl
    have k1 := HK1.out.cell 1 _ rfl
    clear hb1
    go_wp2_with fail
    refine (coll_any _ _ _ f _ _ _ s _ (HZ.out.later HB1.out) HP.out).mono ?_
    rintro e w2 ⟨hb2, hres⟩
    have HB2 := hide (HB1.out.trans (hb2.mono HB1.out.size))
    clear hb2 k0 k1
    rcases hres with ⟨_, rfl⟩ | ⟨a', b', hf2, rfl⟩
    · go_wp2_with fail
      refine bp_gen fun wf hwf => ?_
      have HBF : Below w.heap.size w wf := by rw [hwf]; exact (HB2.out.alloc HB2.out.size _).alloc (by have := HB2.out.size; simp; omega) _
      clear hwf
      go_ret2
      exact ⟨_, _, rfl, HBF, .inl ⟨rfl, rfl⟩⟩
    · exact absurd HF.out hf2.not
  · have k9 : k = 0 := HKE.out.symm
    subst k9
    have HP := hide hp
    clear hp hz hfl
    go_enter Try.func27, Try.ntmps27
    go_wp2_with fail
    refine (mapI_any _ _ _ f _ _ _ s false _ (HZ.out.later HB0.out) (by simp [HP.out])).mono ?_
    rintro e w1 ⟨rfl, hb1⟩
    have HB1 := hide (HB0.out.trans (hb1.mono HB0.out.size))
    have HK1 := hide (HK0.out.later hb1)
    have k0 := HK1.out.cell 0 _ rfl
    have k1 := HK1.out.cell 1 _ rfl
    clear hb1
    go_wp2_with fail
    clear k0 k1
    go_ret2
    exact ⟨_, _, rfl, HB1.out, .inl ⟨rfl, rfl⟩⟩
end Go.Proofs.Ytanldiildinbdaa
