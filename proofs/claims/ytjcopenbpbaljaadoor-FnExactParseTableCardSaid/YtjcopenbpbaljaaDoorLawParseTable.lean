import Derived.Test.YtjcopenbpbaljaaDoorEqII
import Derived.Test.YtjcopenbpbaljaaDoorMarkII
import Derived.Test.YtjcopenbpbaljaaDoorPtbI
import Derived.Test.YtjcopenbpbaljaaDoorPtbW
namespace Go.Proofs.YtjcopenbpbaljaaDoor
open Go Go.RowKit
set_option maxHeartbeats 4000000

theorem law_ParseTable (x0 : ByteArray) (w : World) (hmx : MaxL w) (hs0 : x0.size ≤ 9223372036854775807) :
    Calls Tryd.prog 3 #[.string x0] w fun e w' => e = .returned (.bool true) ∧ Below w.heap.size w w' := by
  have HMX := hide hmx
  clear hmx
  obtain ⟨zs, code, hres, hzb, hzr⟩ := PtRes.ex x0
  have HRES := hide hres
  clear hres
  obtain ⟨kz, hkz⟩ : ∃ kz, zs.length = kz := ⟨_, rfl⟩
  rw [hkz] at hzb
  have HK := hide hkz
  clear hkz
  have HZR := hide hzr
  clear hzr
  by_cases m0 : x0.size ≤ 1048576
  · have M0 := hide m0
    clear M0
    go_enter Tryd.func3, Tryd.ntmps3
    go_wp2_with fail
    have HB0 : Hid (Below w.heap.size w w) := hide (Below.refl _ _)
    have hcc : (code != code) = false := by simp
    have TZ := hide (tot_bound zs (by rw [HK.out]; omega) (fun i hi => by have := HZR.out i hi; omega))
    refine (parseTableS x0 zs code kz _ m0 HRES.out HK.out).mono ?_
    rintro e w1 ⟨A_W, c_W, rfl, hbb, hobj⟩
    have HB1 := hide (HB0.out.trans (hbb.mono HB0.out.size))
    have Z1 := hide (hbb).size
    clear hbb
    have O_W := hide hobj
    clear hobj
    go_wp2_with fail
    refine (parseTableI x0 zs code kz _ m0 (HMX.out.later HB1.out) HRES.out HK.out).mono ?_
    rintro e w2 ⟨A_G, c_G, rfl, hbb, hobj⟩
    have HB2 := hide (HB1.out.trans (hbb.mono HB1.out.size))
    have Z2 := hide (hbb).size
    replace O_W := hide (O_W.out.later hbb)
    clear hbb
    have O_G := hide hobj
    clear hobj
    go_wp2_with fail
    refine (eqq_any _ _ _ _ _ _ zs zs true _ HK.out HK.out (by omega) (by omega) (fun i hi => by have := HZR.out i hi; omega) (fun i hi => by have := HZR.out i hi; omega) O_G.out.rd O_W.out.rd (by simp)).mono ?_
    rintro e w3 ⟨rfl, hqq⟩
    have HB3 := hide (HB2.out.trans (hqq.below _))
    have Z3 := hide (hqq.below 0).size
    replace O_W := hide (O_W.out.later (hqq.below _))
    replace O_G := hide (O_G.out.later (hqq.below _))
    clear hqq
    go_wp2_with fail
    refine (markT 44 2 (by decide) _ _ _ _ _ _ zs _ HK.out (by omega) (fun i hi => by have := HZR.out i hi; omega) (by have tx := TZ.out; omega) (by omega) (by omega) O_G.out).mono ?_
    rintro e w4 ⟨rfl, ht, hobj⟩
    have HB4 := hide (ht.below HB3.out HB3.out.size (HB1.out.size))
    have Z4 := hide ht.size
    replace O_W := hide (O_W.out.far ht (.inl (by omega)))
    replace O_G := hide hobj
    clear ht hobj
    go_wp2_with fail
    refine (heldT _ _ _ _ zs _ HK.out (by omega) (fun i hi => by have := HZR.out i hi; omega) (by have tx := TZ.out; omega) (by omega) (by omega) O_G.out.rd).mono ?_
    rintro e w5 ⟨rfl, hqq⟩
    have HB5 := hide (HB4.out.trans (hqq.below _))
    have Z5 := hide (hqq.below 0).size
    replace O_W := hide (O_W.out.later (hqq.below _))
    replace O_G := hide (O_G.out.later (hqq.below _))
    clear hqq
    go_wp2_with fail
    refine (parseTableI x0 zs code kz _ m0 (HMX.out.later HB5.out) HRES.out HK.out).mono ?_
    rintro e w6 ⟨A_H, c_H, rfl, hbb, hobj⟩
    have HB6 := hide (HB5.out.trans (hbb.mono HB5.out.size))
    have Z6 := hide (hbb).size
    replace O_W := hide (O_W.out.later hbb)
    replace O_G := hide (O_G.out.later hbb)
    clear hbb
    have O_H := hide hobj
    clear hobj
    go_wp2_with fail
    refine (eqq_any _ _ _ _ _ _ zs zs true _ HK.out HK.out (by omega) (by omega) (fun i hi => by have := HZR.out i hi; omega) (fun i hi => by have := HZR.out i hi; omega) O_H.out.rd O_W.out.rd (by simp)).mono ?_
    rintro e w7 ⟨rfl, hqq⟩
    have HB7 := hide (HB6.out.trans (hqq.below _))
    have Z7 := hide (hqq.below 0).size
    replace O_W := hide (O_W.out.later (hqq.below _))
    replace O_G := hide (O_G.out.later (hqq.below _))
    replace O_H := hide (O_H.out.later (hqq.below _))
    clear hqq
    go_wp2_with fail
    refine (heldT _ _ _ _ zs _ HK.out (by omega) (fun i hi => by have := HZR.out i hi; omega) (by have tx := TZ.out; omega) (by omega) (by omega) O_G.out.rd).mono ?_
    rintro e w8 ⟨rfl, hqq⟩
    have HB8 := hide (HB7.out.trans (hqq.below _))
    have Z8 := hide (hqq.below 0).size
    replace O_W := hide (O_W.out.later (hqq.below _))
    replace O_G := hide (O_G.out.later (hqq.below _))
    replace O_H := hide (O_H.out.later (hqq.below _))
    clear hqq
    go_wp2_with fail
    go_ret
    exact ⟨rfl, HB8.out⟩
  · go_enter Tryd.func3, Tryd.ntmps3
    go_wp2_with fail
    go_ret
    exact ⟨rfl, by first | exact Below.refl _ _ | exact (Below.refl _ _).alloc (Nat.le_refl _) _ | exact ((Below.refl _ _).alloc (Nat.le_refl _) _).alloc (by simp) _⟩
end Go.Proofs.YtjcopenbpbaljaaDoor
