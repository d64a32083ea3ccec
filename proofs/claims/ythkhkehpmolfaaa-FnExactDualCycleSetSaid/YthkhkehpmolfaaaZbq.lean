import Derived.Test.YthkhkehpmolfaaaZbl
import Derived.Test.YthkhkehpmolfaaaZn
import Derived.Test.YthkhkehpmolfaaaZap
import Derived.Test.YthkhkehpmolfaaaZa
import Derived.Deep.AppendLies
import Derived.Deep.RegionLaw
import Derived.Test.YthkhkehpmolfaaaZaa
import Derived.Test.YthkhkehpmolfaaaZr
import Derived.Deep.Cut
namespace Go.Proofs.Ythkhkehpmolfaaa
open Go Go.RowKit
set_option maxHeartbeats 2000000
theorem zcsInfo2 : (Try.prog.info? 31).map (fun i => (i.zero, i.size, i.bytes)) = some (some (.slice none 0 0), 1, 24) := by kernel_rfl
theorem rowsC_take (f : List (List Int)) (h : Nat → List Int) (x : Nat) (hx : x < f.length) : (rowsL f h).take (x + 1) = (rowsL f h).take x ++ [h x] := by
  unfold rowsL
  rw [← List.map_take, ← List.map_take, List.take_range, List.take_range, Nat.min_eq_left (by omega), Nat.min_eq_left (by omega), List.range_succ, List.map_append]
  rfl

set_option maxRecDepth 100000 in
theorem cycleS_any (A B : Option Addr) (n c m d : Nat) (f : List (List Int)) (w : World) (hn : f.length = n) (ht : Tbl f) (hp : AllPrm f) (hr : Rd2 w A f) :
    Calls Try.prog 67 #[.agg #[.slice A n c, .slice B m d]] w fun e w' => ∃ A' c', e = .returned (.agg #[.slice A' n c']) ∧ Below w.heap.size w w' ∧ Obj2 31 2 w.heap.size w'.heap.size w' A' (dualL f) := by
  have HN := hide hn
  have HTB := hide ht
  have HPM := hide hp
  have HRD := hide hr
  have h1 : 1 ≤ n := by rw [← hn]; exact ht.1
  have h12 : n ≤ 12 := by rw [← hn]; exact ht.2.1
  have HB0 := hide (((Below.refl _ w).alloc (Nat.le_refl _) (Obj.cells #[Value.slice A n c, Value.slice B m d] 41)).alloc (by simp) (Obj.cells #[.slice none 0 0] 27))
  have HK0 := hide ((Blk.new w 41 [.slice A n c, .slice B m d]).alloc (Obj.cells #[.slice none 0 0] 27))
  have HR0 : Hid (Blk ((w.alloc (Obj.cells #[Value.slice A n c, Value.slice B m d] 41)).alloc (Obj.cells #[.slice none 0 0] 27)) (w.heap.size + 1) 27 [.slice none 0 0]) := hide (by have h := Blk.new (w.alloc (Obj.cells #[Value.slice A n c, Value.slice B m d] 41)) 27 [.slice none 0 0]; simpa using h)

  obtain ⟨i2, hj, hy0, hy1, hy2⟩ := info_parts zcsInfo2
  clear hn ht hp hr
  obtain ⟨b, o, hA, hbw, hc⟩ := rd_rows HTB.out HRD.out HN.out
  subst hA
  have HC := hide hc
  clear hc
  go_enter Try.func67, Try.ntmps67
  go_upto_region 1 with fail
  refine wp_gen fun w1 hw1 => ?_
  have HB1 : Hid (Below w.heap.size w w1) := hide (by rw [hw1]; exact HB0.out)
  have HK1 : Hid (Blk w1 w.heap.size 41 [.slice (some ⟨b, o, none⟩) n c, .slice B m d]) := hide (by rw [hw1]; exact HK0.out)
  have HR1 : Hid (Blk w1 (w.heap.size + 1) 27 [.slice none 0 0]) := hide (by rw [hw1]; exact HR0.out)
  clear hw1
  go_wp2_with fail
  refine wp_gen fun w2 hw2 => ?_
  obtain ⟨ob, hob⟩ : ∃ ob, w1.heap.size = ob := ⟨_, rfl⟩
  have hob1 : w.heap.size + 1 < ob := by rw [← hob]; exact HR1.out.lt
  have HB2 : Hid (Below w.heap.size w w2) := hide (by rw [hw2]; exact HB1.out.alloc HB1.out.size _)
  have HK2 : Hid (Blk w2 w.heap.size 41 [.slice (some ⟨b, o, none⟩) n c, .slice B m d]) := hide (by rw [hw2]; exact HK1.out.alloc _)
  have HR2 : Hid (Blk w2 (w.heap.size + 1) 27 [.slice none 0 0]) := hide (by rw [hw2]; exact HR1.out.alloc _)
  have HO2 : Hid (Blk w2 ob 27 [.slice none 0 0]) := hide (by rw [hw2, ← hob]; exact Blk.new _ _ _)
  have HT2 : Hid (One 31 2 27 (ob + 1) w2 ob 0 [.slice none 0 0] (.slice none 0 0) [] []) := hide (One.start w2 _ _ _ HO2.out (Nat.lt_succ_self _) HO2.out.lt)
  rw [hob]
  clear hw2 hob
  go_loopw [4] (fun i wr => ∃ (x : Nat) (v : Value) (vals : List Value), x ≤ n ∧ i = .int .i64 x ∧ Below w.heap.size w wr ∧ Blk wr w.heap.size 41 [.slice (some ⟨b, o, none⟩) n c, .slice B m d] ∧ Blk wr (w.heap.size + 1) 27 [.slice none 0 0] ∧ One 31 2 27 (ob + 1) wr ob 0 [.slice none 0 0] v ((dualL f).take x) vals) (fun i _ => n - (intOf i).toNat)
  case atStart => exact ⟨0, _, _, Nat.zero_le _, rfl, HB2.out, HK2.out, HR2.out, by simpa using HT2.out⟩
  case round =>
    obtain ⟨x, v, vals, hx, rfl, hbe, hkk, hrr, htw⟩ := hrel
    clear HB2 HK2 HR2 HT2 HO2
    have HB2 := hide hbe
    have HK2 := hide hkk
    have HR2 := hide hrr
    have HT2 := hide htw
    clear hbe hkk hrr htw
    have j0 := HK2.out.cell 0 _ rfl
    by_cases hlt : x < n
    · have hxz : (x : Int) < n := by omega
      obtain ⟨Bx, cx, r1, hrd⟩ := HC.out x hlt
      have R1 := hide r1
      have HRR := hide hrd
      have HRL : Hid ((f.getD x []).length = n) := hide (HTB.out.row_len HN.out hlt)
      have HIN : Hid (∀ y ∈ f.getD x [], 0 ≤ y ∧ y < (n : Int)) := hide (by have h := (HPM.out x (by have := HN.out; omega)).2.2.1; rw [HRL.out] at h; exact h)
      have HBL : Hid ((backTo (f.getD x []) n).length = n) := hide ((backTo_length _ _).trans HRL.out)
      have HTL : Hid (((dualL f).take x).length = x) := hide (by rw [List.length_take, dualL, rowsL_length]; have := HN.out; omega)
      replace r1 := (HB2.out.cell (p := ⟨b, o + x, none⟩) hbw).trans R1.out
      clear hrd
      go_wp2_with fail
      have k0 := HT2.out.box.cell 0 _ rfl
      have k2 := HT2.out.box.frozen 0
      go_region_law (first | (go_simp; go_at_call 98; go_must (refine calls_gen fun wc hwc => ?_; (first | have hbx := drew_below hwc | have hbx := eq_below hwc); replace HB2 := hide (HB2.out.trans (hbx.mono HB2.out.size)); replace HT2 := hide (HT2.out.later hbx); replace HR2 := hide (HR2.out.later hbx); replace HK2 := hide (HK2.out.later hbx); clear hwc hbx; refine (l01Back_any _ n _ (f.getD x []) _ HRL.out (by omega) (HRR.out.later HB2.out) HIN.out).mono ?_; rintro e wd ⟨A5, c5, rfl, hbd, hr5⟩; have HLW := hide HT2.out; replace HB2 := hide (HB2.out.trans (hbd.mono HB2.out.size)); replace HT2 := hide (HT2.out.later hbd); replace HR2 := hide (HR2.out.later hbd); replace HK2 := hide (HK2.out.later hbd); have HR5 := hide hr5; have HOW1 : Hid (wd.ownsRow (ob + 1) 31 1 v x vals) := hide (by have h := HT2.out.l.own; rw [HTL.out] at h; exact h); have hobl := HT2.out.box.lt; clear hbd hr5; have k0 := HT2.out.box.cell 0 _ rfl; have k2 := HT2.out.box.frozen 0; have j0 := HK2.out.cell 0 _ rfl; have r1 := (HB2.out.cell (p := ⟨b, o + x, none⟩) hbw).trans R1.out)) | (refine step_append_lies _ (by rfl) _ _ _ (by rfl) (ob + 1) 31 i2 _ 1 24 Try.underlying22 hj hy0 hy1 hy2 rfl (by omega) v x vals (by rfl) (HOW1.out.alloc _) ⟨wd.heap.size, 0, none⟩ 1 1 [.slice A5 n c5] (by rfl) (by rfl) kq_new (by simp [Value.oneCell']) (by omega) (by unfold maxLen; omega) (by omega) (by simp; omega) (wd.heap.size + 1) (by simp) ?_; intro gg cap w5 hown5 hgrow5 hat5 hlt5; have hbk := HT2.out.kept hgrow5; have k0 := hbk.cell 0 _ rfl; have k2 := hbk.frozen 0))
      all_goals
        have HT3 := hide (One.add (by decide) HLW.out HT2.out (Nat.le_refl _) HR5.out.obj HTL.out HBL.out hown5 hgrow5)
        have HB3 := hide (HT2.out.below hgrow5 (.slice (some ⟨gg, 0, none⟩) (x + 1) cap) HB2.out (by omega))
        have HK3 := hide ((HT2.out.frame hgrow5 (.slice (some ⟨gg, 0, none⟩) (x + 1) cap) (by omega) (by omega) HK2.out.lt).trans HK2.out)
        have HR3 := hide ((HT2.out.frame hgrow5 (.slice (some ⟨gg, 0, none⟩) (x + 1) cap) (by omega) (by omega) HR2.out.lt).trans HR2.out)
        clear hown5 hat5 hlt5 hgrow5 hbk k0 k2 j0 r1
        go_wp2_with fail
        go_roundw
        case rel =>
          refine ⟨x + 1, .slice (some ⟨gg, 0, none⟩) (x + 1) cap, vals ++ [.slice A5 n c5], by omega, by go_num, HB3.out, HK3.out, HR3.out, ?_⟩
          rw [dualL, rowsC_take f _ x (by have := HN.out; omega)]
          have h := HT3.out
          rw [← HN.out] at h
          rw [dualL, HN.out] at h
          rw [HN.out]
          exact h
        case measure => simp [intOf]; omega
    · have hxn : x = n := by omega
      subst hxn
      obtain ⟨A1, c1, hv1, ho1⟩ := HT2.out.l.shape
      have hll : (dualL f).length = x := by rw [dualL, rowsL_length]; exact HN.out
      rw [List.take_of_length_le (by omega)] at hv1 ho1
      rw [hll] at hv1
      subst hv1
      have HA1 := hide ho1
      clear ho1
      have k0 := HT2.out.box.cell 0 _ rfl
      have k2 := HR2.out.cell 0 _ rfl
      have k3 := HR2.out.frozen 0
      go_wp2_with fail
      refine bp_gen fun wf hwf => ?_
      obtain ⟨q0, hbf, hof⟩ := kend hwf HR2.out (by omega) HB2.out HA1.out (by omega) (by omega) (Nat.le_refl _)
      clear hwf k0 k2 k3
      exact bodyPost_ret (v := .agg #[.slice A1 x c1]) (by simp [results, Try.results67, go_sem, q0]) rfl ⟨_, _, rfl, hbf, hof⟩
end Go.Proofs.Ythkhkehpmolfaaa
