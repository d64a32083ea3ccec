import Derived.Test.YtkflmhmbkilmpabPrF
import Derived.Test.YtkflmhmbkilmpabPrmS
import Derived.Test.YtkflmhmbkilmpabOwnS
import Derived.Test.YtkflmhmbkilmpabLst1
import Derived.Test.YtkflmhmbkilmpabNe
import Derived.Deep.AppendLies
import Derived.Deep.RegionLaw
namespace Go.Proofs.Ytkflmhmbkilmpab
open Go Go.RowKit
set_option maxHeartbeats 4000000
set_option maxRecDepth 100000 in
theorem prwS (A : Option Addr) (n c : Nat) (xs : List Int) (zs : List (List Int)) (code : Int) (k : Nat) (w : World) (hn : xs.length = n) (hb : n ≤ 1048576) (hr : Rd w A xs) (hres : PrRes xs zs code) (hk : zs.length = k) :
    Calls Try.prog 32 #[.slice A n c] w (fun e w' => ∃ A' c', e = .returned (.tuple #[.agg #[.slice A' k c'], .int .i64 code]) ∧ Below w.heap.size w w' ∧ Obj2 33 2 w.heap.size w'.heap.size w' A' zs) := by
  have HN := hide hn
  rcases hres with ⟨hg, rfl, rfl⟩ | ⟨hg, rfl, rfl⟩
  · have h1 : 1 ≤ n := by rw [← hn]; exact hg.1
    have h12 : n ≤ 12 := by rw [← hn]; exact hg.2.1
    have hkn : k = n := by rw [← hk, grid_length, hn]
    subst hkn
    clear hk hn
    obtain ⟨i2, hj, hy0, hy1, hy2⟩ := info_parts neInfo2
    rw [HN.out]
    have HB0 := hide ((Below.refl _ w).alloc (Nat.le_refl _) (Obj.cells #[.slice none 0 0] 26))
    have HK0 := hide (Blk.new w 26 [.slice none 0 0])
    have HRD := hide hr
    have HP := hide hg
    clear hr hg
    go_enter Try.func32, Try.ntmps32
    go_wp2_with fail
    refine (prmS_below _ _ _ xs true _ HN.out (by omega) (HRD.out.later HB0.out) (by simp [HP.out])).mono ?_
    rintro e w1 ⟨rfl, hq1⟩
    have HB1 := hide (HB0.out.trans (hq1.mono HB0.out.size))
    have HK1 := hide (HK0.out.later hq1)
    clear hq1 HB0 HK0
    obtain ⟨b, o, hA, hbw, hc⟩ := HRD.out (by have := HN.out; omega)
    subst hA
    have HC := hide hc
    clear hc
    have HFR : Hid (∀ x, frow k (prH xs) x = xs) := hide (fun x => prH_row xs HN.out x)
    go_wp2_with fail
    refine wp_gen fun w2 hw2 => ?_
    obtain ⟨ob, hob⟩ : ∃ ob, w1.heap.size = ob := ⟨_, rfl⟩
    have hob1 : w.heap.size < ob := by rw [← hob]; exact HK1.out.lt
    have HB2 : Hid (Below w.heap.size w w2) := hide (by rw [hw2]; exact HB1.out.alloc HB1.out.size _)
    have HK2 : Hid (Blk w2 w.heap.size 26 [.slice none 0 0]) := hide (by rw [hw2]; exact HK1.out.alloc _)
    have HO2 : Hid (Blk w2 ob 26 [.slice none 0 0]) := hide (by rw [hw2, ← hob]; exact Blk.new _ _ _)
    have HT2 : Hid (One 33 2 26 (ob + 1) w2 ob 0 [.slice none 0 0] (.slice none 0 0) [] []) := hide (One.start w2 _ _ _ HO2.out (Nat.lt_succ_self _) HO2.out.lt)
    rw [hob]
    clear hw2 hob
    go_loopw [5] (fun i wr => ∃ (x : Nat) (v : Value) (vals : List Value), x ≤ k ∧ i = .int .i64 x ∧ Below w.heap.size w wr ∧ Blk wr w.heap.size 26 [.slice none 0 0] ∧ One 33 2 26 (ob + 1) wr ob 0 [.slice none 0 0] v ((grid k (prH xs)).take x) vals) (fun i _ => k - (intOf i).toNat)
    case atStart => exact ⟨0, _, _, Nat.zero_le _, rfl, HB2.out, HK2.out, by simpa using HT2.out⟩
    case round =>
      obtain ⟨x, v, vals, hx, rfl, hbe, hkk, htw⟩ := hrel
      clear HB2 HK2 HT2 HO2
      have HB2 := hide hbe
      have HK2 := hide hkk
      have HT2 := hide htw
      clear hbe hkk htw
      by_cases hlt : x < k
      · have hxz : (x : Int) < k := by omega
        have HTL : Hid (((grid k (prH xs)).take x).length = x) := hide (by rw [List.length_take, grid_length]; omega)
        go_wp2_with fail
        have k0 := HT2.out.box.cell 0 _ rfl
        have k2 := HT2.out.box.frozen 0
        go_region_law (first | (go_simp; go_at_call 63; go_must (refine calls_gen fun wc hwc => ?_; (first | have hbx := drew_below hwc | have hbx := eq_below hwc); replace HB2 := hide (HB2.out.trans (hbx.mono HB2.out.size)); replace HT2 := hide (HT2.out.later hbx); replace HK2 := hide (HK2.out.later hbx); clear hwc hbx; refine (own_any b o _ c xs _ HN.out (by omega) (Nat.lt_of_lt_of_le hbw HB2.out.size) (fun i hi => (HB2.out.cell (p := ⟨b, o + i, none⟩) hbw).trans (HC.out i hi))).mono ?_; rintro e wd ⟨v5, rfl, hbd, hown⟩; obtain ⟨A5, c5, hv5, hr5⟩ := own_shape hown; subst hv5; have HLW := hide HT2.out; replace HB2 := hide (HB2.out.trans (hbd.mono HB2.out.size)); replace HT2 := hide (HT2.out.later hbd); replace HK2 := hide (HK2.out.later hbd); have HR5 := hide hr5; have HOW1 : Hid (wd.ownsRow (ob + 1) 33 1 v x vals) := hide (by have h := HT2.out.l.own; rw [HTL.out] at h; exact h); have hobl := HT2.out.box.lt; clear hbd hr5 hown; have k0 := HT2.out.box.cell 0 _ rfl; have k2 := HT2.out.box.frozen 0)) | (refine step_append_lies _ (by rfl) _ _ _ (by rfl) (ob + 1) 33 i2 _ 1 24 Try.underlying22 hj hy0 hy1 hy2 rfl (by omega) v x vals (by rfl) (HOW1.out.alloc _) ⟨wd.heap.size, 0, none⟩ 1 1 [.slice A5 k c5] (by rfl) (by rfl) ne_new (by simp [Value.oneCell']) (by omega) (by unfold maxLen; omega) (by omega) (by simp; omega) (wd.heap.size + 1) (by simp) ?_; intro gg cap w5 hown5 hgrow5 hat5 hlt5; have hbk := HT2.out.kept hgrow5; have k0 := hbk.cell 0 _ rfl; have k2 := hbk.frozen 0))
        all_goals
          have HT3 := hide (One.add (by decide) HLW.out HT2.out (Nat.le_refl _) HR5.out.obj HTL.out HN.out hown5 hgrow5)
          have HB3 := hide (HT2.out.below hgrow5 (.slice (some ⟨gg, 0, none⟩) (x + 1) cap) HB2.out (by omega))
          have HK3 := hide ((HT2.out.frame hgrow5 (.slice (some ⟨gg, 0, none⟩) (x + 1) cap) (by omega) (by omega) HK2.out.lt).trans HK2.out)
          clear hown5 hat5 hlt5 hgrow5 hbk k0 k2
          go_wp2_with fail
          go_roundw
          case rel =>
            refine ⟨x + 1, .slice (some ⟨gg, 0, none⟩) (x + 1) cap, vals ++ [.slice A5 k c5], by omega, by go_num, HB3.out, HK3.out, ?_⟩
            rw [grid_take _ _ _ hlt, HFR.out]
            exact HT3.out
          case measure => simp [intOf]; omega
      · have hxn : x = k := by omega
        subst hxn
        obtain ⟨A1, c1, hv1, ho1⟩ := HT2.out.l.shape
        rw [List.take_of_length_le (by rw [grid_length]; exact Nat.le_refl _)] at hv1 ho1
        rw [grid_length] at hv1
        subst hv1
        have HA1 := hide ho1
        clear ho1
        have k0 := HT2.out.box.cell 0 _ rfl
        have k2 := HK2.out.cell 0 _ rfl
        have k3 := HK2.out.frozen 0
        go_wp2_with fail
        refine bp_gen fun wf hwf => ?_
        obtain ⟨q0, hbf, hof⟩ := kend hwf HK2.out (Nat.le_refl _) HB2.out HA1.out (by omega) (by omega) (Nat.le_refl _)
        clear hwf k0 k2 k3
        exact bodyPost_ret (v := .tuple #[.agg #[.slice A1 x c1], .int .i64 0]) (by simp [results, Try.results32, go_sem, q0]) rfl ⟨_, _, rfl, hbf, hof⟩
  · have hk0 : k = 0 := by rw [← hk]; rfl
    subst hk0
    clear hk
    have HB0 := hide ((Below.refl _ w).alloc (Nat.le_refl _) (Obj.cells #[.slice none 0 0] 26))
    have HK0 := hide (Blk.new w 26 [.slice none 0 0])
    have HRD := hide hr
    have HP := hide hg
    clear hr hg
    go_enter Try.func32, Try.ntmps32
    go_wp2_with fail
    refine (prmS_below _ _ _ xs false _ HN.out (by omega) (HRD.out.later HB0.out) (by simp [HP.out])).mono ?_
    rintro e w1 ⟨rfl, hq1⟩
    have HB1 := hide (HB0.out.trans (hq1.mono HB0.out.size))
    have HK1 := hide (HK0.out.later hq1)
    clear hq1 HB0 HK0
    have k2 := HK1.out.cell 0 _ rfl
    have k3 := HK1.out.frozen 0
    go_wp2_with fail
    refine bp_gen fun wf hwf => ?_
    have HRF : Blk wf w.heap.size 26 [.slice none 0 0] := by rw [hwf]; first | exact HK1.out | exact HK1.out.set 0 _
    have hbf : Below w.heap.size w wf := by rw [hwf]; first | exact HB1.out | exact HB1.out.setCell (p := ⟨w.heap.size, 0, none⟩) (Nat.le_refl _) _
    have q0 := HRF.cell 0 _ rfl
    clear hwf k2 k3
    exact bodyPost_ret (v := .tuple #[.agg #[.slice none 0 0], .int .i64 1]) (by simp [results, Try.results32, go_sem, q0]) rfl ⟨_, _, rfl, hbf, .inl ⟨rfl, rfl⟩⟩

end Go.Proofs.Ytkflmhmbkilmpab
