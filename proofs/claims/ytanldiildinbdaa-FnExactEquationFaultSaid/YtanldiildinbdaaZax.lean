import Derived.Test.YtanldiildinbdaaZav
import Derived.Test.YtanldiildinbdaaZb
namespace Go.Proofs.Ytanldiildinbdaa
open Go Go.RowKit
set_option maxHeartbeats 1000000
theorem eqI_any (A : Option Addr) (n c : Nat) (f : List (List Int)) (B : Option Addr) (m d : Nat) (s : List (List Int)) (zs : List Int) (code : Int) (k : Nat) (w : World) (hz : ZArg 1048576 w A n f B m s) (hr : EqRes f s zs code) (hk : zs.length = k) :
    Calls Try.prog 21 #[.agg #[.slice A n c, .slice B m d]] w (RPost 49 k zs code w) := by
  have HZ := hide hz
  have hfl := hz.sz.fl
  have HB0 := hide ((Below.refl _ w).alloc (Nat.le_refl _) (Obj.cells #[Value.slice A n c, Value.slice B m d] 27))
  have HK0 := hide (Blk.new w 27 [.slice A n c, .slice B m d])
  rcases hr with ⟨hp, T, hT, hc⟩ | ⟨hp, rfl, rfl⟩
  · have HP := hide hp
    rw [hfl] at hT hc
    have HT := hide hT
    have HC := hide hc
    have HKE := hide hk
    clear hz hp hT hc hk hfl
    go_enter Try.func21, Try.ntmps21
    go_wp2_with fail
    refine (mapI_any _ _ _ f _ _ _ s true _ (HZ.out.later HB0.out) (by simp [HP.out])).mono ?_
    rintro e w1 ⟨rfl, hb1⟩
    have HB1 := hide (HB0.out.trans (hb1.mono HB0.out.size))
    have HK1 := hide (HK0.out.later hb1)
    have k0 := HK1.out.cell 0 _ rfl
    have k1 := HK1.out.cell 1 _ rfl
    clear hb1
    go_wp2_with fail
    refine (fault_any _ _ _ f _ _ _ s T _ (HZ.out.later HB1.out) HP.out HT.out).mono ?_
    rintro e w2 ⟨t, ok, rfl, hb2, hres⟩
    have HB2 := hide (HB1.out.trans (hb2.mono HB1.out.size))
    have HRES := hide hres
    clear hb2 hres k0 k1
    unfold tv
    obtain ⟨x, y, z⟩ := t
    rcases HRES.out with ⟨rfl, hlt, htt⟩ | ⟨rfl, htt⟩
    · rcases HC.out with ⟨_, hzs, rfl⟩ | ⟨h, _⟩
      · rw [← htt] at hzs
        subst hzs
        obtain rfl : k = 3 := HKE.out.symm
        clear hlt htt HRES HC
        go_wp2_with fail
        refine bp_gen fun wf hwf => ?_
        have HRF : Blk wf w2.heap.size 49 [.int .i64 x, .int .i64 y, .int .i64 z] := by rw [hwf]; exact Blk.new _ _ _
        have HBF : Below w.heap.size w wf := by rw [hwf]; exact HB2.out.alloc HB2.out.size _
        clear hwf
        go_ret2
        refine ⟨_, _, rfl, HBF, .inr ⟨w2.heap.size, rfl, HB2.out.size, _, HRF, fun i hi => ?_⟩⟩
        simp [lst3] at hi
        rcases i with _ | _ | _ | i
        · rfl
        · rfl
        · rfl
        · omega
      · omega
    · rcases HC.out with ⟨h, _⟩ | ⟨_, rfl, rfl⟩
      · omega
      · obtain rfl : k = 0 := HKE.out.symm
        clear htt HRES HC
        go_wp2_with fail
        refine bp_gen fun wf hwf => ?_
        have HBF : Below w.heap.size w wf := by rw [hwf]; exact HB2.out.alloc HB2.out.size _
        clear hwf
        go_ret2
        exact ⟨_, _, rfl, HBF, .inl ⟨rfl, rfl⟩⟩
  · obtain rfl : k = 0 := by simpa using hk.symm
    have HP := hide hp
    clear hp hz hk
    go_enter Try.func21, Try.ntmps21
    go_wp2_with fail
    refine (mapI_any _ _ _ f _ _ _ s false _ (HZ.out.later HB0.out) (by simp [HP.out])).mono ?_
    rintro e w1 ⟨rfl, hb1⟩
    have HB1 := hide (HB0.out.trans (hb1.mono HB0.out.size))
    clear hb1
    go_wp2_with fail
    go_ret2
    exact ⟨_, _, rfl, HB1.out, .inl ⟨rfl, rfl⟩⟩
end Go.Proofs.Ytanldiildinbdaa
namespace Go.Proofs.Ytanldiildinbdaa
open Go Go.RowKit
set_option maxHeartbeats 1000000
theorem eqS_any (A : Option Addr) (n c : Nat) (f : List (List Int)) (B : Option Addr) (m d : Nat) (s : List (List Int)) (zs : List Int) (code : Int) (k : Nat) (w : World) (hz : ZArg 1048576 w A n f B m s) (hr : EqRes f s zs code) (hk : zs.length = k) :
    Calls Try.prog 20 #[.agg #[.slice A n c, .slice B m d]] w (RPost 2 k zs code w) := by
  have HZ := hide hz
  have hfl := hz.sz.fl
  have HB0 := hide ((Below.refl _ w).alloc (Nat.le_refl _) (Obj.cells #[Value.slice A n c, Value.slice B m d] 27))
  have HK0 := hide (Blk.new w 27 [.slice A n c, .slice B m d])
  rcases hr with ⟨hp, T, hT, hc⟩ | ⟨hp, rfl, rfl⟩
  · have HP := hide hp
    rw [hfl] at hT hc
    have HT := hide hT
    have HC := hide hc
    have HKE := hide hk
    clear hz hp hT hc hk hfl
    go_enter Try.func20, Try.ntmps20
    go_wp2_with fail
    refine (mapS_any _ _ _ f _ _ _ s true _ (HZ.out.later HB0.out) (by simp [HP.out])).mono ?_
    rintro e w1 ⟨rfl, hb1⟩
    have HB1 := hide (HB0.out.trans (hb1.mono HB0.out.size))
    have HK1 := hide (HK0.out.later hb1)
    have k0 := HK1.out.cell 0 _ rfl
    have k1 := HK1.out.cell 1 _ rfl
    clear hb1
    go_wp2_with fail
    refine (faultS_any _ _ _ f _ _ _ s T _ (HZ.out.later HB1.out) HP.out HT.out).mono ?_
    rintro e w2 ⟨g, q, ys, rfl, hb2, hlo, hown, hres⟩
    have HB2 := hide (HB1.out.trans (hb2.mono HB1.out.size))
    have HRES := hide hres
    have HOWN := hide hown
    have hlo2 : w.heap.size ≤ g := by have := HB1.out.size; omega
    clear hb2 hres k0 k1 hown hlo
    rcases HRES.out with ⟨hlt, hzs, rfl⟩ | ⟨htt, hzs, rfl⟩
    · rcases HC.out with ⟨_, hzs2, rfl⟩ | ⟨h, _⟩
      · rw [← hzs2] at hzs
        subst hzs
        obtain rfl : k = 3 := by rw [← HKE.out, hzs2]; rfl
        clear hlt HRES HC hzs2
        go_wp2_with fail
        go_ret2
        exact ⟨_, _, rfl, HB2.out, .inr ⟨g, rfl, hlo2, HOWN.out⟩⟩
      · omega
    · rcases HC.out with ⟨h, _⟩ | ⟨_, hzs2, rfl⟩
      · omega
      · subst hzs2
        obtain rfl : k = 0 := HKE.out.symm
        clear htt HRES HC
        go_wp2_with fail
        go_ret2
        exact ⟨_, _, rfl, HB2.out, .inl ⟨rfl, rfl⟩⟩
  · obtain rfl : k = 0 := by simpa using hk.symm
    have HP := hide hp
    clear hp hz hk
    go_enter Try.func20, Try.ntmps20
    go_wp2_with fail
    refine (mapS_any _ _ _ f _ _ _ s false _ (HZ.out.later HB0.out) (by simp [HP.out])).mono ?_
    rintro e w1 ⟨rfl, hb1⟩
    have HB1 := hide (HB0.out.trans (hb1.mono HB0.out.size))
    clear hb1
    go_wp2_with fail
    go_ret2
    exact ⟨_, _, rfl, HB1.out, .inl ⟨rfl, rfl⟩⟩
end Go.Proofs.Ytanldiildinbdaa
