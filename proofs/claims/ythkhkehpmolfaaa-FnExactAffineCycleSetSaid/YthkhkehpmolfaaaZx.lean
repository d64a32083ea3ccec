import Derived.Test.YthkhkehpmolfaaaZv
import Derived.Test.YthkhkehpmolfaaaZu
import Derived.Test.YthkhkehpmolfaaaZl
import Derived.Test.YthkhkehpmolfaaaZn
import Derived.Test.YthkhkehpmolfaaaZb
import Derived.Deep.AppendLies
namespace Go.Proofs.Ythkhkehpmolfaaa
open Go Go.RowKit
set_option maxHeartbeats 2000000

set_option maxRecDepth 100000 in
theorem affS_any (n a b c : Nat) (w : World) (h1 : 1 ≤ n) (h12 : n ≤ 12) (ha12 : a ≤ 12) (hb12 : b ≤ 12) (hc12 : c ≤ 12) :
    Calls Try.prog 75 #[.int .i64 n, .int .i64 a, .int .i64 b, .int .i64 c] w fun e w' => ∃ A' c', e = .returned (.agg #[.slice A' n c']) ∧ Below w.heap.size w w' ∧ Obj2 31 2 w.heap.size w'.heap.size w' A' (grid n (afH n a b c)) := by
  obtain ⟨H, hH⟩ : ∃ H, afH n a b c = H := ⟨_, rfl⟩
  rw [hH]
  have HH := hide hH
  clear hH
  have hn0 : ¬ (n : Int) = 0 := by omega
  obtain ⟨i0, hi, hz0, hz1, hz2⟩ := info_parts neInfo
  obtain ⟨i2, hj, hy0, hy1, hy2⟩ := info_parts neInfo2
  go_enter Try.func75, Try.ntmps75
  go_wp2_with fail
  refine wp_gen fun wd hw0 => ?_
  obtain ⟨ob, hob⟩ : ∃ ob, w.heap.size + 1 = ob := ⟨_, rfl⟩
  have HB : Hid (Below w.heap.size w wd) := hide (by rw [hw0]; exact ((Below.refl _ _).alloc (Nat.le_refl _) _).alloc (by simp) _)
  have HR : Hid (Blk wd w.heap.size 27 [.slice none 0 0]) := hide (by rw [hw0]; exact (Blk.new _ _ _).alloc _)
  have HO : Hid (Blk wd ob 27 [.slice none 0 0]) := hide (by rw [hw0, ← hob]; have h := Blk.new (w.alloc (Obj.cells #[.slice none 0 0] 27)) 27 [.slice none 0 0]; simpa using h)
  have HT : Hid (One 31 2 27 (ob + 1) wd ob 0 [.slice none 0 0] (.slice none 0 0) [] []) := hide (One.start wd _ _ _ HO.out (Nat.lt_succ_self _) HO.out.lt)
  rw [hob]
  have hobw : w.heap.size < ob := by omega
  clear hw0 hob HO
  go_loopw [10] (fun i wr => ∃ (x : Nat) (v : Value) (vals : List Value), x ≤ n ∧ i = .int .i64 x ∧ Below w.heap.size w wr ∧ One 31 2 27 (ob + 1) wr ob 0 [.slice none 0 0] v ((grid n H).take x) vals ∧ Blk wr (w.heap.size) 27 [.slice none 0 0]) (fun i _ => n - (intOf i).toNat)
  case atStart => exact ⟨0, _, _, Nat.zero_le _, rfl, HB.out, by simpa using HT.out, HR.out⟩
  case round =>
    obtain ⟨x, v, vals, hx, rfl, hbe, htw, qHR⟩ := hrel
    clear HB HT HR
    have HB := hide hbe
    have HT := hide htw
    have HR := hide qHR
    clear hbe htw qHR
    by_cases hlt : x < n
    · have hxz : (x : Int) < n := by omega
      go_wp2_with fail
      obtain ⟨wo, rfl⟩ : ∃ wo : World, wo = wr := ⟨_, rfl⟩
      go_loopw [11, 12] (fun v i wi => ∃ y : Nat, y ≤ n ∧ i = .int .i64 y ∧ Below wo.heap.size wo wi ∧ wo.heap.size < wi.heap.size ∧ wi.ownsRow wo.heap.size 2 1 v y (ints ((frow n H x).take y))) (fun _ i _ => n - (intOf i).toNat)
      case atStart => exact ⟨0, Nat.zero_le _, rfl, (Below.refl _ _).alloc (Nat.le_refl _) _, by simp, by simpa [ints] using ne_empty wo _⟩
      case round =>
        obtain ⟨y, hy, rfl, hbi, hsi2, hoi⟩ := hrel
        have HBI := hide hbi
        have HOI := hide hoi
        clear hbi hoi
        by_cases hlty : y < n
        · have hyz : (y : Int) < n := by omega
          have HBW := hide (HB.out.trans (HBI.out.mono HB.out.size))
          obtain ⟨p, hp⟩ : ∃ p, a * x = p := ⟨_, rfl⟩
          obtain ⟨q, hq⟩ : ∃ q, b * y = q := ⟨_, rfl⟩
          have hp1 : p ≤ 144 := by rw [← hp]; exact Nat.le_trans (Nat.mul_le_mul ha12 (by omega : x ≤ 12)) (Nat.le_refl _)
          have hq1 : q ≤ 144 := by rw [← hq]; exact Nat.le_trans (Nat.mul_le_mul hb12 (by omega : y ≤ 12)) (Nat.le_refl _)
          have t1 : (a : Int) * (x : Int) = (p : Int) := by rw [← hp]; simp
          have t2 : (b : Int) * (y : Int) = (q : Int) := by rw [← hq]; simp
          have t3 : ((p : Int) + (q : Int) + (c : Int)).tmod (n : Int) = (((p + q + c) % n : Nat) : Int) := by rw [show ((p : Int) + (q : Int) + (c : Int)) = ((p + q + c : Nat) : Int) by simp, Int.ofNat_tmod]
          have hmm : (p + q + c) % n < n := Nat.mod_lt _ (by omega)
          obtain ⟨u, hu⟩ : ∃ u, (p + q + c) % n = u := ⟨_, rfl⟩
          rw [hu] at t3 hmm
          have HCELL : Hid (H x y = (u : Int)) := hide (by rw [← HH.out]; show (((a * x + b * y + c) % n : Nat) : Int) = _; rw [hp, hq, hu])
          clear hp hq hu
          go_wp2_with (at_builtin; refine wpList_append_own _ rfl _ _ 31 rfl wo.heap.size 2 i0 (.int .i64 0) 1 8 Try.underlying31 hi hz0 hz1 hz2 rfl (by decide) _ _ _ rfl (HOI.out.alloc _) ⟨wr.heap.size, 0, none⟩ 1 1 [.int .i64 ((u : Int))] rfl rfl ?a1 ?a2 ?a3 ?a4 ?a5 ?_)
          try (case a1 => exact ne_new)
          try (case a2 => first | rfl | (intro u hu; simp at hu; subst hu; rfl))
          try (case a3 => first | omega | (unfold maxLen; omega))
          try (case a4 => omega)
          try (case a5 => first | omega | (simp; omega))
          intro v' w3 hown' hgrow _
          have HO3 := hide hown'
          have HB3 : Hid (Below wo.heap.size wo w3) := hide ((HBI.out.alloc HBI.out.size _).grown hgrow (by have := HBI.out.size; simp; omega) (fun g hg => ((HOI.out.alloc (.cells #[.int .i64 ((u : Int))] 2)).lt g hg).1))
          have hs3 : wo.heap.size < w3.heap.size := by have := hgrow.size; simp at this; omega
          clear hown' hgrow
          go_wp2_with fail
          go_roundw
          case rel => exact ⟨y + 1, by omega, by go_num, HB3.out, hs3, by have h := HO3.out; rw [← HCELL.out, frow_take _ _ _ _ hlty] at h; exact h⟩
          case measure => simp [intOf]; omega
        · have hyn : y = n := by omega
          subst hyn
          have HTM : Hid (((grid y H).take x).length = x) := hide (by rw [List.length_take, grid_length]; omega)
          obtain ⟨A2, c2', hv2, hres2⟩ := own_shape HOI.out
          subst hv2
          have HRL : Hid ((frow y H x).length = y) := hide (frow_length _ _ _)
          have HTK : Hid ((frow y H x).take y = frow y H x) := hide (List.take_of_length_le (by rw [HRL.out]; exact Nat.le_refl _))
          have HRO := hide hres2.obj
          have HT3 := hide (HT.out.later HBI.out)
          have HR3 := hide (HR.out.later HBI.out)
          have HB3 := hide (HB.out.trans (HBI.out.mono HB.out.size))
          clear hres2
          have j0 := HT3.out.box.cell 0 _ rfl
          have j2 := HT3.out.box.frozen 0
          have j4 := fun o => (HT3.out.box.alloc o).cell 0 _ rfl
          have HOW2 : Hid (wr.ownsRow (ob + 1) 31 1 v x vals) := hide (by have h := HT3.out.l.own; rw [HTM.out] at h; exact h)
          have hobl := HT3.out.box.lt
          have hbsz := HT3.out.bsz
          go_wp2_with (at_builtin; refine wpList_append_own_at _ rfl _ _ 22 rfl (ob + 1) 31 i2 (.slice none 0 0) 1 24 Try.underlying22 hj hy0 hy1 hy2 rfl (by decide) _ _ _ rfl (HOW2.out.alloc _) ⟨wr.heap.size, 0, none⟩ 1 1 [.slice A2 y c2'] rfl rfl ?p1 ?p2 ?p3 ?p4 ?p5 ?_)
          try (case p1 => exact ne_new)
          try (case p2 => first | rfl | (intro u hu; simp at hu; subst hu; rfl))
          try (case p3 => first | omega | (unfold maxLen; omega))
          try (case p4 => omega)
          try (case p5 => first | omega | (simp; omega))
          intro v' w7 hown7 hgrow7 _ hat7
          obtain ⟨gg2, cap2, hv7⟩ := own_form hown7
          subst hv7
          have hbk := HT3.out.kept hgrow7
          have HT4 := hide (One.add (by decide) HT.out HT3.out (Nat.le_refl _) (by have h := HRO.out; rw [HTK.out] at h; exact h) HTM.out HRL.out hown7 hgrow7)
          have HB4 := hide (HT3.out.below hgrow7 (.slice (some ⟨gg2, 0, none⟩) (x + 1) cap2) HB3.out (by omega))
          have HR4 := hide ((HT3.out.frame hgrow7 (.slice (some ⟨gg2, 0, none⟩) (x + 1) cap2) (by omega) (by omega) HR3.out.lt).trans HR3.out)
          clear j0 j2 j4 hown7 hgrow7 hat7
          have j0 := hbk.cell 0 _ rfl
          have j2 := hbk.frozen 0
          clear hbk
          go_wp2_with fail
          go_roundw
          case rel =>
            refine ⟨x + 1, .slice (some ⟨gg2, 0, none⟩) (x + 1) cap2, vals ++ [.slice A2 y c2'], by omega, by go_num, HB4.out, ?_, HR4.out⟩
            rw [grid_take _ _ _ hlt]
            exact HT4.out
          case measure => simp [intOf]; omega
    · have hxn : x = n := by omega
      subst hxn
      obtain ⟨A1, c1, hv1, ho1⟩ := HT.out.l.shape
      rw [List.take_of_length_le (by rw [grid_length]; exact Nat.le_refl _)] at hv1 ho1
      rw [grid_length] at hv1
      subst hv1
      have HA1 := hide ho1
      clear ho1
      have k0 := HT.out.box.cell 0 _ rfl
      have k2 := HR.out.cell 0 _ rfl
      have k3 := HR.out.frozen 0
      have hobl := HT.out.box.lt
      go_wp2_with fail
      refine bp_gen fun wf hwf => ?_
      obtain ⟨q0, hbf, hof⟩ := kend hwf HR.out (by omega) HB.out HA1.out (by omega) (by omega) (Nat.le_refl _)
      clear hwf k0 k2 k3
      exact bodyPost_ret (v := .agg #[.slice A1 x c1]) (by simp [results, Try.results75, go_sem, q0]) rfl ⟨_, _, rfl, hbf, hof⟩
set_option maxRecDepth 100000 in
theorem afS_any (n a b c : Int) (zs : List (List Int)) (code : Int) (k : Nat) (w : World) (hn0 : -9223372036854775808 ≤ n) (hn1 : n ≤ 9223372036854775807) (ha0 : -9223372036854775808 ≤ a) (ha1 : a ≤ 9223372036854775807) (hb0 : -9223372036854775808 ≤ b) (hb1 : b ≤ 9223372036854775807) (hc0 : -9223372036854775808 ≤ c) (hc1 : c ≤ 9223372036854775807) (hres : AfRes n a b c zs code) (hk : zs.length = k) :
    Calls Try.prog 39 #[.int .i64 n, .int .i64 a, .int .i64 b, .int .i64 c] w (fun e w' => ∃ A' c', e = .returned (.tuple #[.agg #[.slice A' k c'], .int .i64 code]) ∧ Below w.heap.size w w' ∧ Obj2 31 2 w.heap.size w'.heap.size w' A' zs) := by
  have HRES := hide hres
  have HKZ := hide hk
  clear hres hk
  have HB0 := hide ((Below.refl _ w).alloc (Nat.le_refl _) (Obj.cells #[.slice none 0 0] 27))
  have HK0 := hide (Blk.new w 27 [.slice none 0 0])
  go_enter Try.func39, Try.ntmps39
  go_wp2_with fail
  by_cases rn : 1 ≤ n ∧ n ≤ 12
  rotate_left
  · refine (in_any _ _ _ false _ (by simp; omega)).mono ?_
    rintro e w1 ⟨rfl, hq⟩
    have HB1 := hide (HB0.out.trans ((hq.below _).mono HB0.out.size))
    have HK1 := hide (HK0.out.later (hq.below _))
    clear hq
    obtain ⟨rfl, rfl⟩ : zs = [] ∧ code = 2 := by
      rcases HRES.out with ⟨h, _⟩ | ⟨h, _⟩ | ⟨_, h⟩
      · obtain ⟨g1, g2, g3, g4⟩ := h; omega
      · obtain ⟨g1, g2, g3, g4⟩ := h; omega
      · exact h
    obtain rfl : k = 0 := by rw [← HKZ.out]; rfl
    have k2 := HK1.out.cell 0 _ rfl
    have k3 := HK1.out.frozen 0
    go_wp2_with fail
    refine bp_gen fun wf hwf => ?_
    have HRF : Blk wf (w.heap.size) 27 [.slice none 0 0] := by rw [hwf]; first | exact HK1.out | exact HK1.out.set 0 _
    have hbf : Below w.heap.size w wf := by rw [hwf]; first | exact HB1.out | exact HB1.out.setCell (p := ⟨w.heap.size, 0, none⟩) (Nat.le_refl _) _
    have q0 := HRF.cell 0 _ rfl
    clear hwf k2 k3
    exact bodyPost_ret (v := .tuple #[.agg #[.slice none 0 0], .int .i64 2]) (by simp [results, Try.results39, go_sem, q0]) rfl (by first | exact ⟨_, _, rfl, hbf, .inl ⟨rfl, rfl⟩⟩ | exact ⟨_, ⟨_, rfl⟩, hbf, .inl ⟨rfl, rfl⟩⟩ | exact ⟨_, hbf, .inl ⟨rfl, rfl⟩⟩)

  refine (in_any _ _ _ true _ (by simp; omega)).mono ?_
  rintro e w1 ⟨rfl, hq⟩
  have HB1 := hide (HB0.out.trans ((hq.below _).mono HB0.out.size))
  have HK1 := hide (HK0.out.later (hq.below _))
  clear hq
  go_wp2_with fail
  by_cases ra : 0 ≤ a ∧ a ≤ n - 1
  rotate_left
  · refine (in_any _ _ _ false _ (by simp; omega)).mono ?_
    rintro e w2 ⟨rfl, hq⟩
    have HB2 := hide (HB1.out.trans ((hq.below _).mono HB1.out.size))
    have HK2 := hide (HK1.out.later (hq.below _))
    clear hq
    obtain ⟨rfl, rfl⟩ : zs = [] ∧ code = 2 := by
      rcases HRES.out with ⟨h, _⟩ | ⟨h, _⟩ | ⟨_, h⟩
      · obtain ⟨g1, g2, g3, g4⟩ := h; omega
      · obtain ⟨g1, g2, g3, g4⟩ := h; omega
      · exact h
    obtain rfl : k = 0 := by rw [← HKZ.out]; rfl
    have k2 := HK2.out.cell 0 _ rfl
    have k3 := HK2.out.frozen 0
    go_wp2_with fail
    refine bp_gen fun wf hwf => ?_
    have HRF : Blk wf (w.heap.size) 27 [.slice none 0 0] := by rw [hwf]; first | exact HK2.out | exact HK2.out.set 0 _
    have hbf : Below w.heap.size w wf := by rw [hwf]; first | exact HB2.out | exact HB2.out.setCell (p := ⟨w.heap.size, 0, none⟩) (Nat.le_refl _) _
    have q0 := HRF.cell 0 _ rfl
    clear hwf k2 k3
    exact bodyPost_ret (v := .tuple #[.agg #[.slice none 0 0], .int .i64 2]) (by simp [results, Try.results39, go_sem, q0]) rfl (by first | exact ⟨_, _, rfl, hbf, .inl ⟨rfl, rfl⟩⟩ | exact ⟨_, ⟨_, rfl⟩, hbf, .inl ⟨rfl, rfl⟩⟩ | exact ⟨_, hbf, .inl ⟨rfl, rfl⟩⟩)

  refine (in_any _ _ _ true _ (by simp; omega)).mono ?_
  rintro e w2 ⟨rfl, hq⟩
  have HB2 := hide (HB1.out.trans ((hq.below _).mono HB1.out.size))
  have HK2 := hide (HK1.out.later (hq.below _))
  clear hq
  go_wp2_with fail
  by_cases rb : 0 ≤ b ∧ b ≤ n - 1
  rotate_left
  · refine (in_any _ _ _ false _ (by simp; omega)).mono ?_
    rintro e w3 ⟨rfl, hq⟩
    have HB3 := hide (HB2.out.trans ((hq.below _).mono HB2.out.size))
    have HK3 := hide (HK2.out.later (hq.below _))
    clear hq
    obtain ⟨rfl, rfl⟩ : zs = [] ∧ code = 2 := by
      rcases HRES.out with ⟨h, _⟩ | ⟨h, _⟩ | ⟨_, h⟩
      · obtain ⟨g1, g2, g3, g4⟩ := h; omega
      · obtain ⟨g1, g2, g3, g4⟩ := h; omega
      · exact h
    obtain rfl : k = 0 := by rw [← HKZ.out]; rfl
    have k2 := HK3.out.cell 0 _ rfl
    have k3 := HK3.out.frozen 0
    go_wp2_with fail
    refine bp_gen fun wf hwf => ?_
    have HRF : Blk wf (w.heap.size) 27 [.slice none 0 0] := by rw [hwf]; first | exact HK3.out | exact HK3.out.set 0 _
    have hbf : Below w.heap.size w wf := by rw [hwf]; first | exact HB3.out | exact HB3.out.setCell (p := ⟨w.heap.size, 0, none⟩) (Nat.le_refl _) _
    have q0 := HRF.cell 0 _ rfl
    clear hwf k2 k3
    exact bodyPost_ret (v := .tuple #[.agg #[.slice none 0 0], .int .i64 2]) (by simp [results, Try.results39, go_sem, q0]) rfl (by first | exact ⟨_, _, rfl, hbf, .inl ⟨rfl, rfl⟩⟩ | exact ⟨_, ⟨_, rfl⟩, hbf, .inl ⟨rfl, rfl⟩⟩ | exact ⟨_, hbf, .inl ⟨rfl, rfl⟩⟩)

  refine (in_any _ _ _ true _ (by simp; omega)).mono ?_
  rintro e w3 ⟨rfl, hq⟩
  have HB3 := hide (HB2.out.trans ((hq.below _).mono HB2.out.size))
  have HK3 := hide (HK2.out.later (hq.below _))
  clear hq
  go_wp2_with fail
  by_cases rc : 0 ≤ c ∧ c ≤ n - 1
  rotate_left
  · refine (in_any _ _ _ false _ (by simp; omega)).mono ?_
    rintro e w4 ⟨rfl, hq⟩
    have HB4 := hide (HB3.out.trans ((hq.below _).mono HB3.out.size))
    have HK4 := hide (HK3.out.later (hq.below _))
    clear hq
    obtain ⟨rfl, rfl⟩ : zs = [] ∧ code = 2 := by
      rcases HRES.out with ⟨h, _⟩ | ⟨h, _⟩ | ⟨_, h⟩
      · obtain ⟨g1, g2, g3, g4⟩ := h; omega
      · obtain ⟨g1, g2, g3, g4⟩ := h; omega
      · exact h
    obtain rfl : k = 0 := by rw [← HKZ.out]; rfl
    have k2 := HK4.out.cell 0 _ rfl
    have k3 := HK4.out.frozen 0
    go_wp2_with fail
    refine bp_gen fun wf hwf => ?_
    have HRF : Blk wf (w.heap.size) 27 [.slice none 0 0] := by rw [hwf]; first | exact HK4.out | exact HK4.out.set 0 _
    have hbf : Below w.heap.size w wf := by rw [hwf]; first | exact HB4.out | exact HB4.out.setCell (p := ⟨w.heap.size, 0, none⟩) (Nat.le_refl _) _
    have q0 := HRF.cell 0 _ rfl
    clear hwf k2 k3
    exact bodyPost_ret (v := .tuple #[.agg #[.slice none 0 0], .int .i64 2]) (by simp [results, Try.results39, go_sem, q0]) rfl (by first | exact ⟨_, _, rfl, hbf, .inl ⟨rfl, rfl⟩⟩ | exact ⟨_, ⟨_, rfl⟩, hbf, .inl ⟨rfl, rfl⟩⟩ | exact ⟨_, hbf, .inl ⟨rfl, rfl⟩⟩)

  refine (in_any _ _ _ true _ (by simp; omega)).mono ?_
  rintro e w4 ⟨rfl, hq⟩
  have HB4 := hide (HB3.out.trans ((hq.below _).mono HB3.out.size))
  have HK4 := hide (HK3.out.later (hq.below _))
  clear hq
  go_wp2_with fail
  obtain ⟨n, rfl⟩ : ∃ m : Nat, n = (m : Int) := ⟨n.toNat, by omega⟩
  obtain ⟨a, rfl⟩ : ∃ m : Nat, a = (m : Int) := ⟨a.toNat, by omega⟩
  obtain ⟨b, rfl⟩ : ∃ m : Nat, b = (m : Int) := ⟨b.toNat, by omega⟩
  obtain ⟨c, rfl⟩ : ∃ m : Nat, c = (m : Int) := ⟨c.toNat, by omega⟩
  have h1 : 1 ≤ n := by omega
  have h12 : n ≤ 12 := by omega
  have HAR : Hid (AfR n a b c) := hide ⟨by omega, by omega, by omega, by omega⟩
  obtain ⟨F, hF⟩ : ∃ F, grid n (afH n a b c) = F := ⟨_, rfl⟩
  have HFL : Hid (F.length = n) := hide (by rw [← hF]; exact grid_length _ _)
  have HFB : Hid (∀ i, i < F.length → (F.getD i []).length ≤ 1048576) := hide (by rw [← hF]; exact grid_rows_le _ _ (by omega))
  have HFT : Hid (afT n a b c = F) := hide (by unfold afT; rw [← hF]; simp)
  refine (affS_any n a b c _ h1 h12 (by omega) (by omega) (by omega)).mono ?_
  rw [hF]
  clear hF
  rintro e w5 ⟨A3, c3, rfl, hb5, ho5⟩
  have HB5 := hide (HB4.out.trans (hb5.mono HB4.out.size))
  have HK5 := hide (HK4.out.later hb5)
  have HO5 := hide ho5
  have HLO : Hid (w.heap.size < w4.heap.size) := hide HK4.out.lt
  clear hb5 ho5
  go_wp2_with fail
  refine calls_gen fun w6 hw6 => ?_
  obtain ⟨Q, hQ⟩ : ∃ Q, w5.heap.size = Q := ⟨_, rfl⟩
  have hq6 : Below w5.heap.size w5 w6 := by rw [hw6]; exact (Below.refl _ _).alloc (Nat.le_refl _) _
  have HB6 := hide (HB5.out.trans (hq6.mono HB5.out.size))
  have HK6 := hide (HK5.out.later hq6)
  have HO6 := hide (HO5.out.later hq6)
  have HQ6 : Hid (Blk w6 Q 27 [.slice A3 n c3]) := hide (by rw [hw6, ← hQ]; exact Blk.new _ _ _)
  have hQk := HK5.out.lt
  have hQl := HLO.out
  have hq5 : w5.heap.size ≤ w6.heap.size := hq6.size
  rw [hQ]
  clear hw6 hq6
  obtain ⟨r, hr⟩ : ∃ r : Bool, r = true ↔ Cyc F := bool_of _
  have HCR : Hid (CyRes F r) := hide hr
  clear hr
  refine (isCycS _ _ _ F r _ HFL.out (by omega) HFB.out HO6.out.rd HCR.out).mono ?_
  rintro e w7 ⟨rfl, hb7⟩
  have HB7 := hide (HB6.out.trans (hb7.mono HB6.out.size))
  have HK7 := hide (HK6.out.later hb7)
  have HO7 := hide (HO6.out.later hb7)
  have HQ7 := hide (HQ6.out.later hb7)
  have hs7 := hb7.size
  clear hb7
  cases r with
  | false =>
    obtain ⟨rfl, rfl⟩ : zs = [] ∧ code = 5 := by
      rcases HRES.out with ⟨_, h, _⟩ | ⟨_, _, h⟩ | ⟨h, _⟩
      · rw [HFT.out] at h; exact absurd (HCR.out.2 h) (by simp)
      · exact h
      · exact absurd HAR.out h
    obtain rfl : k = 0 := by rw [← HKZ.out]; rfl
    have k2 := HK7.out.cell 0 _ rfl
    have k3 := HK7.out.frozen 0
    go_wp2_with fail
    refine bp_gen fun wf hwf => ?_
    have HRF : Blk wf (w.heap.size) 27 [.slice none 0 0] := by rw [hwf]; first | exact HK7.out | exact HK7.out.set 0 _
    have hbf : Below w.heap.size w wf := by rw [hwf]; first | exact HB7.out | exact HB7.out.setCell (p := ⟨w.heap.size, 0, none⟩) (by show w.heap.size ≤ w.heap.size; omega) _
    have q0 := HRF.cell 0 _ rfl
    clear hwf k2 k3
    exact bodyPost_ret (v := .tuple #[.agg #[.slice none 0 0], .int .i64 5]) (by simp [results, Try.results39, go_sem, q0]) rfl (by first | exact ⟨_, _, rfl, hbf, .inl ⟨rfl, rfl⟩⟩ | exact ⟨_, ⟨_, rfl⟩, hbf, .inl ⟨rfl, rfl⟩⟩ | exact ⟨_, hbf, .inl ⟨rfl, rfl⟩⟩)

  | true =>
    obtain ⟨rfl, rfl⟩ : zs = F ∧ code = 0 := by
      rcases HRES.out with ⟨_, _, h1, h2⟩ | ⟨_, h, _⟩ | ⟨h, _⟩
      · rw [HFT.out] at h1; exact ⟨h1, h2⟩
      · rw [HFT.out] at h; exact absurd (HCR.out.1 rfl) h
      · exact absurd HAR.out h
    obtain rfl : k = n := by rw [← HKZ.out]; exact HFL.out
    have k0 := HQ7.out.cell 0 _ rfl
    have k2 := HK7.out.cell 0 _ rfl
    have k3 := HK7.out.frozen 0
    go_wp2_with fail
    refine bp_gen fun wf hwf => ?_
    obtain ⟨q0, hbf, hof⟩ := kend hwf HK7.out (Nat.le_refl _) HB7.out HO7.out (by omega) (by omega) (by omega)
    clear hwf k0 k2 k3
    exact bodyPost_ret (v := .tuple #[.agg #[.slice A3 k c3], .int .i64 0]) (by simp [results, Try.results39, go_sem, q0]) rfl (by first | exact ⟨_, _, rfl, hbf, hof⟩ | exact ⟨_, ⟨_, rfl⟩, hbf, hof⟩)
end Go.Proofs.Ythkhkehpmolfaaa
