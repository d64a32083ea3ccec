import Derived.Test.YthknnpkalhachaaZas
import Derived.Test.YthknnpkalhachaaZax
import Derived.Test.YthknnpkalhachaaZa
import Derived.Test.YthknnpkalhachaaZf
import Derived.Test.YthknnpkalhachaaZc
import Derived.Deep.Cut
import Derived.Deep.RegionHeld3
import Derived.Deep.DeepCutAuto
namespace Go.Proofs.Ythknnpkalhachaa
open Go Go.RowKit
open Classical
set_option maxHeartbeats 4000000
theorem gm_ac (f : List (List Int)) (xs : List Int) (k x : Nat) (hk : k ≤ xs.length) : ∀ t, t ≤ k → acIn f (xs.take k) x t = gmIn f xs k x t
  | 0, _ => rfl
  | t + 1, ht => by
    have hl : (xs.take k).length = k := by simp; omega
    have e : elN (xs.take k) (k - 1 - t) = elN xs (k - 1 - t) := by
      unfold elN
      simp only [List.getD_eq_getElem?_getD]
      rw [List.getElem?_take, if_pos (by omega)]
    simp only [acIn, gmIn]
    rw [hl, e, gm_ac f xs k x hk t (by omega)]
theorem gm_put (f : List (List Int)) (xs : List Int) (k m : Nat) (h : k < m) : (gmL f xs k ++ List.replicate (m - k) 0).set k ((gmIn f xs k (elN xs k) k : Nat) : Int) = gmL f xs (k + 1) ++ List.replicate (m - (k + 1)) 0 := by
  have hl : (gmL f xs k).length = k := gmL_length f xs k
  obtain ⟨q, hq⟩ : ∃ q, m - k = q + 1 := ⟨m - k - 1, by omega⟩
  rw [List.set_append_right _ _ (by omega), hl, Nat.sub_self, hq, List.replicate_succ, gmL_succ, show m - (k + 1) = q by omega]
  simp
set_option maxRecDepth 100000 in
theorem gmI_any (A : Option Addr) (n c : Nat) (f : List (List Int)) (B : Option Addr) (k d : Nat) (s : List (List Int)) (C : Option Addr) (m : Nat) (xs : List Int) (zs : List Int) (code : Int) (kz : Nat) (w : World) (hz : ZArg 1048576 w A n f B k s) (hm : xs.length = m) (hb : m ≤ 1048576) (hr : Rd w C xs) (hres : GmRes f s xs zs code) (hkz : zs.length = kz) :
    Calls Try.prog 39 #[.agg #[.slice A n c, .slice B k d], .slice C m m] w fun e w' => ∃ A' c', e = .returned (.tuple #[.slice A' kz c', .int .i64 code]) ∧ Below w.heap.size w w' ∧ Res 2 w.heap.size w' A' zs := by
  have HZ := hide hz
  have HM := hide hm
  have HR := hide hr
  have HB0 := hide ((Below.refl _ w).alloc (Nat.le_refl _) (Obj.cells #[Value.slice A n c, Value.slice B k d] 27))
  have HK0 := hide (Blk.new w 27 [.slice A n c, .slice B k d])
  obtain ⟨hgc, hcase⟩ := hres
  have HGC := hide hgc
  rcases hcase with ⟨rfl, rfl⟩ | ⟨hc0, rfl⟩
  · obtain ⟨hs, htp, hnon⟩ : SolF f s ∧ Tup f.length xs ∧ NonF f s := by
      rcases hgc with ⟨h1, h2, h3, _⟩ | ⟨_, _, _, h⟩ | ⟨_, _, h⟩ | ⟨_, h⟩
      · exact ⟨h1, h2, h3⟩
      · omega
      · omega
      · omega
    have HP : Hid (PMap f s) := hide hs.1
    obtain rfl := (hz.same hs.1).symm
    have HN := hide hz.sz.fl
    have h12 := (hz.small hs.1).2
    rw [hz.sz.fl] at htp
    have HTP := hide htp
    have hm12 : m ≤ 12 := by rw [← hm]; exact htp.1
    obtain rfl : m = kz := by rw [← hkz]; unfold gmA; rw [gmL_length, hm]
    clear hz hm hr hgc hs htp hnon hkz
    go_enter Try.func39, Try.ntmps39
    have k0 := HK0.out.cell 0 _ rfl
    have k1 := HK0.out.cell 1 _ rfl
    go_wp2_with fail
    clear k0 k1
    refine (guFault_any A B C n c n d m m f s xs 0 _ (HZ.out.later HB0.out) HM.out hb (HR.out.later HB0.out) HGC.out).mono ?_
    rintro e w1 ⟨rfl, hb1⟩
    have HB1 := hide (HB0.out.trans (hb1.mono HB0.out.size))
    have HK1 := hide (HK0.out.later hb1)
    have hg1 : w.heap.size < w1.heap.size := HK1.out.lt
    clear hb1
    have hmk := run_make_row' (P := Try.prog) 43 2 (.int .i64 0) 8 Try.underlying43 clInfo rfl .i64 .i64 m (by omega) (by omega)
    go_upto_region 5 with fail
    clear hmk
    refine wp_gen fun w3 hw3 => ?_
    have hb3 : Below w1.heap.size w1 w3 := by rw [hw3]; exact (Below.refl _ _).alloc (Nat.le_refl _) _
    have HO3 : Hid (OwnB 2 w3 w1.heap.size (List.replicate m 0)) := hide (by rw [hw3]; exact (Row.made 2 w1 m).own)
    have HB3 := hide (HB1.out.trans (hb3.mono HB1.out.size))
    have HK3 := hide (HK1.out.later hb3)
    obtain ⟨g, hg⟩ : ∃ g, w1.heap.size = g := ⟨_, rfl⟩
    rw [hg] at HO3 hg1 ⊢
    clear hw3 hb3 hg HK1 HB1
    go_wp2_with fail
    go_loopw [8, 9, 21] (fun a b i wr => ∃ k, k ≤ m ∧ i = .int .i64 (k : Int) ∧ Below w.heap.size w wr ∧ Blk wr w.heap.size 27 [.slice A n c, .slice B n d] ∧ OwnB 2 wr g (gmL f xs k ++ List.replicate (m - k) 0)) (fun _ _ i _ => m - (intOf i).toNat)
    case atStart => exact ⟨0, Nat.zero_le _, rfl, HB3.out, HK3.out, by simpa [gmL] using HO3.out⟩
    case round =>
      obtain ⟨k, hk, rfl, hbe, hkk, how⟩ := hrel
      have HB := hide hbe
      have HK := hide hkk
      have HOW := hide how
      clear hbe hkk how HB3 HK3 HO3
      by_cases hlt : k < m
      · have hkz : (k : Int) < m := by omega
        obtain ⟨bC, oC, rfl, hbC, hcC⟩ := HR.out (by have := HM.out; omega)
        have hck := (HB.out.cell (p := ⟨bC, oC + k, none⟩) hbC).trans (hcC k (by rw [HM.out]; exact hlt))
        have hel := HTP.out.el (j := k) (by rw [HM.out]; exact hlt)
        rw [hel.1] at hck
        have hxn := hel.2
        have hll : (gmL f xs k ++ List.replicate (m - k) 0).length = m := by simp [gmL_length]; omega
        have hkl : k < (gmL f xs k ++ List.replicate (m - k) 0).length := by rw [hll]; exact hlt
        have HKL := hide hkl
        have HTL : Hid ((xs.take k).length = k) := hide (by have := HM.out; simp; omega)
        have HTT : Hid (Tup n (xs.take k)) := hide ⟨by have := HTL.out; omega, fun j hj => by
          have hjk : j < k := by have := HTL.out; omega
          have h := HTP.out.2 j (by have := HM.out; omega)
          simp only [List.getD_eq_getElem?_getD] at h ⊢
          rw [List.getElem?_take, if_pos hjk]
          exact h⟩
        have HRT : Hid (Rd w (some ⟨bC, oC, none⟩) (xs.take k)) := hide (fun _ => ⟨bC, oC, rfl, hbC, fun i hi => by
          have hik : i < k := by have := HTL.out; omega
          have h := hcC i (by have := HM.out; omega)
          rw [h]
          simp only [List.getD_eq_getElem?_getD]
          rw [List.getElem?_take, if_pos hik]⟩)
        have hac := gm_ac f xs k (elN xs k) (by have := HM.out; omega) k (Nat.le_refl _)
        have HPUT := hide (gm_put f xs k m hlt)
        have HAC := hide hac
        obtain ⟨x, hx⟩ : ∃ x, elN xs k = x := ⟨_, rfl⟩
        rw [hx] at hck hxn HAC HPUT
        obtain ⟨v, hv⟩ : ∃ v, gmIn f xs k x k = v := ⟨_, rfl⟩
        rw [hv] at HAC HPUT
        have hs9 := HB.out.size
        have HBc := hide (Below.refl wr.heap.size wr)
        have HKc := hide HK.out
        have k0 := HK.out.cell 0 _ rfl
        have k1 := HK.out.cell 1 _ rfl
        have HHS := hide hs9
        clear hac hx hv hel hll hcC hbC hs9
        go_wp2_with fail
        have gn1 : g ≠ w.heap.size := by omega
        have gn2 : w.heap.size ≠ g := by omega
        go_region_held3 (fun w' => w'.cell? ⟨w.heap.size, 0, none⟩ = some (.slice A n c) ∧ w'.cell? ⟨w.heap.size, 1, none⟩ = some (.slice B n d)) (first | exact ⟨k0, k1⟩ | go_keep) (first | (go_at_call 74; go_must (refine calls_gen fun wc hwc => ?_; (first | have hbx := drew_below hwc | have hbx := eq_below hwc); replace HBc := hide (HBc.out.trans (hbx.mono HBc.out.size)); replace HKc := hide (HKc.out.later hbx); clear hwc hbx; refine (actBy_any A n c f B d s (some ⟨bC, oC, none⟩) k m (xs.take k) x _ (HZ.out.later (HB.out.trans (HBc.out.mono HHS.out))) HP.out HTL.out HTT.out (HRT.out.later (HB.out.trans (HBc.out.mono HHS.out))) hxn).mono ?_; rintro e wd ⟨rfl, hbd⟩; replace HBc := hide (HBc.out.trans (hbd.mono HBc.out.size)); replace HKc := hide (HKc.out.later hbd); clear hbd; have k0 := HKc.out.cell 0 _ rfl; have k1 := HKc.out.cell 1 _ rfl; rw [HAC.out]; have kr := (HOW.out.later HBc.out HOW.out.lt).cell (i := k) HKL.out; have rf := (HOW.out.later HBc.out HOW.out.lt).frozen k)))
        all_goals clear k0 k1
        all_goals go_wp2_with fail
        all_goals go_roundw
        all_goals first
          | (simp [intOf]; omega)
          | (have hB := (HB.out.trans (HBc.out.mono HHS.out)).setCell (p := ⟨g, k, none⟩) (Nat.le_of_lt hg1) (.int .i64 (v : Int))
             have hK := HKc.out.far (p := ⟨g, k, none⟩) gn2 (.int .i64 (v : Int))
             have hO := (HOW.out.later HBc.out HOW.out.lt).set k (v : Int) HKL.out
             rw [HPUT.out] at hO
             first
               | exact ⟨k + 1, by omega, by go_num, hB, hK, hO⟩
               | exact ⟨k + 1, by omega, by go_num, hB.drew, hK.later ((Below.refl _ _).drew), hO.later ((Below.refl _ _).drew) hO.lt⟩)
      · have hkm : k = m := by omega
        subst hkm
        go_wp2_with fail
        go_ret2
        have ho := HOW.out
        rw [Nat.sub_self, List.replicate_zero, List.append_nil] at ho
        exact ⟨_, _, rfl, HB.out, .inr ⟨g, rfl, by omega, by unfold gmA; rw [HM.out]; exact ho⟩⟩
  · obtain rfl : kz = 0 := by rw [← hkz]; rfl
    clear hz hm hr hgc hkz
    have hcz : (code != (0 : Int)) = true := by simp [hc0]
    go_enter Try.func39, Try.ntmps39
    have k0 := HK0.out.cell 0 _ rfl
    have k1 := HK0.out.cell 1 _ rfl
    go_wp2_with fail
    clear k0 k1
    refine (guFault_any A B C n c k d m m f s xs code _ (HZ.out.later HB0.out) HM.out hb (HR.out.later HB0.out) HGC.out).mono ?_
    rintro e w1 ⟨rfl, hb1⟩
    have HB1 := hide (HB0.out.trans (hb1.mono HB0.out.size))
    clear hb1
    go_wp2_with fail
    go_ret2
    exact ⟨_, _, rfl, HB1.out, .inl ⟨rfl, rfl⟩⟩
end Go.Proofs.Ythknnpkalhachaa
