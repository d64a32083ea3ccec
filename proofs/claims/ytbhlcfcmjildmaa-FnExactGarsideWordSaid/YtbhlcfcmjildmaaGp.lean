import Derived.Test.YtbhlcfcmjildmaaGn
import Derived.Test.YtbhlcfcmjildmaaGm
import Derived.Test.YtbhlcfcmjildmaaGg
import Derived.Test.YtbhlcfcmjildmaaGl
import Derived.Deep.Cut
import Derived.Deep.RegionHeld3
import Derived.Deep.DeepCutAuto
import Derived.Test.YtbhlcfcmjildmaaGf
import Derived.Test.YtbhlcfcmjildmaaGe
import Derived.Maps.RangeWalk
import Derived.Test.YtbhlcfcmjildmaaGo
namespace Go.Proofs.Ytbhlcfcmjildmaa
open Go Go.RowKit
open Classical
set_option maxHeartbeats 8000000
theorem tq_ap_grid {n : Nat} (h : Nat → Nat → Int) {a b : Nat} (ha : a < n) (hb : b < n) : ap (grid n h) a b = (h a b).toNat := by
  unfold ap
  rw [grid_at n h a b ha hb]
theorem tq_grid_tbl {n : Nat} (h : Nat → Nat → Int) (h1 : 1 ≤ n) (h12 : n ≤ 12) (hh : ∀ a b, a < n → b < n → 0 ≤ h a b ∧ h a b < (n : Int)) : Tbl (grid n h) := by
  refine ⟨by rw [grid_length]; exact h1, by rw [grid_length]; exact h12, fun a ha => ?_⟩
  rw [grid_length] at ha ⊢
  refine ⟨grid_row_length n h a ha, fun b hb => ?_⟩
  rw [grid_at n h a b ha hb]
  exact hh a b ha hb
theorem tq_mv_grid {n : Nat} {h1 h2 b1 b2 : Nat → Nat → Int} (hp : PB n h1 h2 b1 b2) {xs : List Int} (ht : Tup n xs) {k : Nat} (hk : k + 1 < xs.length) : mvL (leH (grid n h1)) (leH (grid n h2)) xs k = mvL h1 h2 xs k := by
  have hx := (ht.el (j := k) (by omega)).2
  have hy := (ht.el (j := k + 1) hk).2
  have e1 := hp.h1r _ _ hx hy
  have e2 := hp.h2r _ _ hx hy
  unfold mvL leH
  rw [tq_ap_grid h1 hx hy, tq_ap_grid h2 hx hy]
  congr 2
  · congr 1; omega
  · omega
/-- A world has at least p blocks. -/
def SzGe (p : Nat) (w : World) : Prop := p ≤ w.heap.size
theorem SzGe.later {p : Nat} {w w' : World} (h : SzGe p w) (hb : Below w.heap.size w w') : SzGe p w' := Nat.le_trans h hb.size
theorem LstV.monoB {ts t : TypeId} {B B' : Nat} {w : World} {v : Value} {rows : List (List Int)} {vals : List Value} (h : LstV ts t B w v rows vals) (hB : B' ≤ B) : LstV ts t B' w v rows vals := by
  refine ⟨⟨h.own.1, ?_⟩, fun i hi => ?_, h.ne⟩
  · rcases h.own.2 with h2 | ⟨g, cap, cur, hv, hg, r⟩
    · exact .inl h2
    · exact .inr ⟨g, cap, cur, hv, Nat.le_trans hB hg, r⟩
  · obtain ⟨A, c, e1, e2⟩ := h.row i hi
    exact ⟨A, c, e1, e2.mono hB (Nat.le_refl _)⟩
set_option maxRecDepth 100000 in
theorem class1c_any (A : Option Addr) (n c : Nat) (f : List (List Int)) (B : Option Addr) (d : Nat) (s0 : List (List Int)) (C : Option Addr) (m e : Nat) (x : List Int) (most : Nat) (w : World) (hz : ZArg 1048576 w A n f B n s0) (hs : SolF f s0) (ht : Tup n x) (hm : x.length = m) (h1m : 1 ≤ m) (hr : Rd w C x) (hl1 : 1 ≤ most) (hl : most ≤ 5000) :
    Calls Try.prog 31 #[.agg #[.slice A n c, .slice B n d], .slice C m e, .int .i64 most] w fun e w' => (∃ L v vals, Cls (leH f) (leH s0) x L ∧ Asc L ∧ L.length ≤ most ∧ e = .returned (.tuple #[v, .bool true]) ∧ Below w.heap.size w w' ∧ LstV 26 2 w.heap.size w' v L vals ∧ CapsV vals) ∨ (¬ FewT (leH f) (leH s0) x most ∧ e = .returned (.tuple #[.slice none 0 0, .bool false]) ∧ Below w.heap.size w w') := by
  have HZ := hide hz
  have HP : Hid (PMap f s0) := hide hs.1
  have HPB := hide (hs.pb hz.sz.fl)
  have h12 := hz.small hs.1
  have HNC : Hid (NoCol f s0 n) := hide (by have h := hs.2.1; rw [hz.sz.fl] at h; exact h)
  have HT := hide ht
  have HM := hide hm
  have hm12 : m ≤ 12 := by rw [← hm]; exact ht.1
  obtain ⟨i2, hj, hy0, hy1, hy2⟩ := info_parts neInfo2
  obtain ⟨zf, hzf⟩ : ∃ zf, grid n (bk1 f s0 n) = zf := ⟨_, rfl⟩
  obtain ⟨zg, hzg⟩ : ∃ zg, grid n (bk2 f s0 n) = zg := ⟨_, rfl⟩
  have HPZ : Hid (PMap zf zg) := hide (by rw [← hzf, ← hzg]; exact ⟨tq_grid_tbl _ h12.1 h12.2 HPB.out.b1r, tq_grid_tbl _ h12.1 h12.2 HPB.out.b2r, by rw [grid_length, grid_length]⟩)
  have HMZ : Hid (∀ (xs : List Int) (k : Nat), Tup n xs → k + 1 < xs.length → mvL (leH zf) (leH zg) xs k = mvL (bk1 f s0 n) (bk2 f s0 n) xs k) := hide (fun xs k h1 h2 => by rw [← hzf, ← hzg]; exact tq_mv_grid HPB.out.swap h1 h2)
  have HZS : Hid (ZSz 1048576 zf n zg n) := hide (by
    have h := grid_sz (n := n) (by omega) (bk1 f s0 n) (bk2 f s0 n)
    rw [grid_length, grid_length] at h
    rw [← hzf, ← hzg]; exact h)
  obtain ⟨bx, ox, rfl, hbx, hcx⟩ := hr (by omega)
  have HCX := hide hcx
  have HB0 := hide ((Below.refl _ w).alloc (Nat.le_refl _) (Obj.cells #[Value.slice A n c, Value.slice B n d] 29))
  have HK0 := hide (Blk.new w 29 [.slice A n c, .slice B n d])
  clear hz hs ht hm hr hcx
  go_enter Try.func31, Try.ntmps31
  have k0 := HK0.out.cell 0 _ rfl
  have k1 := HK0.out.cell 1 _ rfl
  go_wp2_with fail
  clear k0 k1
  refine (bkS_any A n c f B n d s0 _ (HZ.out.later HB0.out) HP.out HNC.out).mono ?_
  rintro e w1 ⟨A1, c1, B1, d1, rfl, hb1, hobj⟩
  rw [hzf, hzg] at hobj
  have HB1 := hide (HB0.out.trans (hb1.mono HB0.out.size))
  have HK1 := hide (HK0.out.later hb1)
  have HZB1 : Hid (ZArg 1048576 w1 A1 n zf B1 n zg) := hide ⟨HZS.out, hobj.1.rd, hobj.2.rd⟩
  have hlt1 := HK1.out.lt
  clear hb1 hobj hzf hzg HNC HZS
  go_upto_region 2 with fail
  refine wp_gen fun w2 hw2 => ?_
  obtain ⟨tb, htb⟩ : ∃ tb, w1.heap.size = tb := ⟨_, rfl⟩
  have hb2 : Below w1.heap.size w1 w2 := by rw [hw2]; exact (Below.refl _ _).alloc (Nat.le_refl _) _
  have HTB : Hid (Blk w2 tb 29 [.slice A1 n c1, .slice B1 n d1]) := hide (by rw [hw2, ← htb]; exact Blk.new _ _ _)
  have HB2 := hide (HB1.out.trans (hb2.mono HB1.out.size))
  have HK2 := hide (HK1.out.later hb2)
  have HZB2 := hide (HZB1.out.later hb2)
  have hs2 := HB2.out.size
  rw [htb]
  clear hw2 hb2 HB1 HK1 HZB1 htb
  go_wp2_with fail
  refine (own_any bx ox m e x _ HM.out (by omega) (by omega) (fun i hi => (HB2.out.cell (p := ⟨bx, ox + i, none⟩) hbx).trans (HCX.out i hi))).mono ?_
  rintro e w3 ⟨v3, rfl, hb3, ho3⟩
  obtain ⟨A3, c3, hv3, hr3⟩ := own_shape ho3
  subst hv3
  have HB3 := hide hb3
  have HU3 := hide hr3.obj
  clear hb3 ho3 hr3
  go_wp2_with fail
  refine calls_gen fun w4 hw4 => ?_
  have HB4 : Hid (Below w2.heap.size w2 w4) := hide (by rw [hw4]; exact HB3.out.alloc HB3.out.size _)
  have HQ4 : Hid (LstV 26 2 w2.heap.size w4 (.slice (some ⟨w3.heap.size, 0, none⟩) 1 1) [x] [.slice A3 m c3]) := hide (by
    rw [hw4]
    have h := LstV.single (c := c3) (ts := 26) HU3.out HB3.out.size
    rw [HM.out] at h
    exact h)
  have hlt4 : w3.heap.size < w4.heap.size := by rw [hw4]; simp
  clear hw4 HU3 HB3
  refine (own_any bx ox m _ x _ HM.out (by omega) (by have := HB4.out.size; omega) (fun i hi => ((HB2.out.trans (HB4.out.mono hs2)).cell (p := ⟨bx, ox + i, none⟩) hbx).trans (HCX.out i hi))).mono ?_
  rintro e w5 ⟨v5, rfl, hb5, ho5⟩
  obtain ⟨A5, c5, hv5, hr5⟩ := own_shape ho5
  subst hv5
  have HB5 := hide (HB4.out.trans (hb5.mono HB4.out.size))
  have HQ5 := hide (HQ4.out.later hb5)
  have HU5 := hide (hr5.obj.mono (lo' := w2.heap.size) HB4.out.size (Nat.le_refl _))
  have hlt5 : w3.heap.size < w5.heap.size := by have := hb5.size; omega
  clear hb5 ho5 hr5 HB4 HQ4
  go_upto_region 3 with fail
  refine wp_gen fun w6 hw6 => ?_
  have HB6 : Hid (Below w2.heap.size w2 w6) := hide (by rw [hw6]; exact HB5.out.alloc HB5.out.size _)
  have HQ6 : Hid (Qs 26 2 w2.heap.size w6 (.slice (some ⟨w3.heap.size, 0, none⟩) 1 1) (.slice (some ⟨w5.heap.size, 0, none⟩) 1 1) [x] [x] [.slice A3 m c3] [.slice A5 m c5]) := hide (by
    have h := Qs.start2 (g := w5.heap.size) (w := w2) (c := c3) (c2 := c5) (A := A3) (A2 := A5) (r := x) (Nat.le_refl _) HB5.out rfl (by rw [HM.out]; exact HQ5.out) (fun g0 hg0 => by simp [Value.ownBlock] at hg0; omega) HU5.out
    rw [HM.out] at h
    rw [hw6]; exact h)
  clear hw6 HB5 HQ5 HU5
  go_wp2_with fail
  go_loopw [9, 10, 11] (fun v s i wi => ∃ (j : Nat) (q z : List (List Int)) (qv zv : List Value), j ≤ q.length ∧ i = .int .i64 j ∧ Que (leH f) (leH s0) x q j 0 ∧ q.length ≤ most ∧ Asc z ∧ (∀ y, y ∈ z ↔ y ∈ q) ∧ Below w2.heap.size w2 wi ∧ Qs 26 2 w2.heap.size wi v s q z qv zv) (fun _ _ i _ => most + 1 - (intOf i).toNat)
  case atStart => exact ⟨0, _, _, _, _, by simp, rfl, Que.begin x, by simpa using hl1, Asc.one _, fun y => Iff.rfl, HB6.out, HQ6.out⟩
  case round =>
    obtain ⟨j, q, z, qv, zv, hjq, rfl, hwk, hql, hasc, hmem, hbe, hqs⟩ := hrel
    clear HB6 HQ6
    obtain ⟨Ag, cg, hv, hog⟩ := hqs.q.shape
    subst hv
    have HW := hide hwk
    have HAS := hide hasc
    have HME := hide hmem
    have HB := hide hbe
    have HQ := hide hqs
    clear hwk hasc hmem hbe hqs hog
    obtain ⟨fl, hfe⟩ : ∃ fl, q.length = fl := ⟨_, rfl⟩
    have HFE := hide hfe
    rw [hfe] at hjq hql
    rw [hfe]
    clear hfe
    by_cases hjf : j < fl
    · have hjz : (j : Int) < fl := by omega
      obtain ⟨y, hy⟩ : ∃ y, q.getD j [] = y := ⟨_, rfl⟩
      have hyr : Tch (leH f) (leH s0) x y := by rw [← hy]; exact HW.out.at (by rw [HFE.out]; exact hjf)
      have HYR := hide hyr
      have HYT := hide (hyr.tup HPB.out HT.out)
      have HYL : Hid (y.length = m) := hide (by rw [hyr.len]; exact HM.out)
      have HY := hide hy
      clear hyr hy
      go_wp2_with fail
      go_loopw [9, 10, 12] (fun v s i wi => ∃ (k : Nat) (q z : List (List Int)) (qv zv : List Value), k ≤ m - 1 ∧ i = .int .i64 k ∧ j < q.length ∧ q.getD j [] = y ∧ Que (leH f) (leH s0) x q j k ∧ q.length ≤ most + 2 * k ∧ Asc z ∧ (∀ u, u ∈ z ↔ u ∈ q) ∧ Below w2.heap.size w2 wi ∧ Qs 26 2 w2.heap.size wi v s q z qv zv) (fun _ _ i _ => m - (intOf i).toNat)
      case atStart => exact ⟨0, q, z, qv, zv, Nat.zero_le _, rfl, by rw [HFE.out]; exact hjf, HY.out, HW.out, by rw [HFE.out]; omega, HAS.out, HME.out, HB.out, by have h := HQ.out; rw [HFE.out] at h; exact h⟩
      case round =>
        obtain ⟨k, q2, z2, qv2, zv2, hk, rfl, hjf2, hy2e, hwk2, hql2, hasc2, hmem2, hbe2, hqs2⟩ := hrel
        clear HW HAS HME HB HQ HFE hql
        obtain ⟨Ag2, cg2, hv2, hog2⟩ := hqs2.q.shape
        subst hv2
        have HW := hide hwk2
        have HAS := hide hasc2
        have HME := hide hmem2
        have HB := hide hbe2
        have HY2 := hide hy2e
        obtain ⟨fl2, hfe2⟩ : ∃ fl2, q2.length = fl2 := ⟨_, rfl⟩
        have HFE := hide hfe2
        rw [hfe2] at hjf2 hql2 hqs2
        have HQ := hide hqs2
        clear hwk2 hasc2 hmem2 hbe2 hqs2 hy2e
        rw [hfe2]
        by_cases hkm : k + 1 < m
        · have hkz : (k : Int) + 1 < m := by omega
          have hjz2 : (j : Int) < fl2 := by omega
          have hs9 := HB.out.size
          obtain ⟨bX, oX, eX1, eX2, eX3⟩ := hog2.rd (by rw [hfe2]; omega)
          obtain ⟨AX, cX, eX4, eX5⟩ := eX3 j (by rw [hfe2]; exact hjf2)
          rw [HY2.out] at eX4 eX5
          rw [HYL.out] at eX4
          subst eX1
          have HRX := hide eX5
          clear eX3 eX5 hog2 hfe2
          obtain ⟨y0, hy0e⟩ : ∃ y0, mvL (leH f) (leH s0) y k = y0 := ⟨_, rfl⟩
          obtain ⟨y1, hy1e⟩ : ∃ y1, mvL (bk1 f s0 n) (bk2 f s0 n) y k = y1 := ⟨_, rfl⟩
          have hky : k + 1 < y.length := by rw [HYL.out]; exact hkm
          have hkx : k + 1 < x.length := by rw [HM.out]; exact hkm
          have HY0 := hide hy0e
          have HY1 := hide hy1e
          have HYZ : Hid (mvL (leH zf) (leH zg) y k = y1) := hide (by rw [HMZ.out y k HYT.out hky]; exact hy1e)
          have HT0 : Hid (Tch (leH f) (leH s0) x y0) := hide (by rw [← hy0e]; exact .step HYR.out hkx)
          have HT1 : Hid (Tch (leH f) (leH s0) x y1) := hide (by rw [← hy1e]; exact HYR.out.back HPB.out HT.out hkx)
          clear hy0e hy1e hky hkx
          have HKw := hide (HK2.out.later HB.out)
          have HTw := hide (HTB.out.later HB.out)
          have HZw := hide (HZ.out.later (HB2.out.trans (HB.out.mono hs2)))
          have HZBw := hide (HZB2.out.later HB.out)
          have HBc := hide (Below.refl wr.heap.size wr)
          have kk0 := HKw.out.cell 0 _ rfl
          have kk1 := HKw.out.cell 1 _ rfl
          have kt0 := HTw.out.cell 0 _ rfl
          have kt1 := HTw.out.cell 1 _ rfl
          have kx := eX4
          have tok1 : Hid True := hide trivial
          go_upto_region 9 with fail
          go_cut [13] (fun vv wx => ∃ (bb : Nat) (A6 : Option Addr) (c6 : Nat) (A7 : Option Addr) (c7 p1 : Nat), vv = .slice (some ⟨bb, 0, none⟩) 2 2 ∧ Below wr.heap.size wr wx ∧ Blk wx bb 26 [.slice A6 m c6, .slice A7 m c7] ∧ Obj1 2 wr.heap.size p1 wx A6 y0 ∧ Obj1 2 p1 bb wx A7 y1 ∧ p1 ≤ bb ∧ wr.heap.size ≤ bb ∧ wr.heap.size ≤ p1)
          case first =>
            go_region_held3 (fun w' => w'.cell? ⟨w.heap.size, 0, none⟩ = some (.slice A n c) ∧ w'.cell? ⟨w.heap.size, 1, none⟩ = some (.slice B n d) ∧ w'.cell? ⟨tb, 0, none⟩ = some (.slice A1 n c1) ∧ w'.cell? ⟨tb, 1, none⟩ = some (.slice B1 n d1) ∧ w'.cell? ⟨bX, oX + j, none⟩ = some (.slice AX m cX)) (first | exact ⟨kk0, kk1, kt0, kt1, kx⟩ | go_keep) (first | (go_at_call 59; clear tok1; go_must (refine calls_gen fun wc hwc => ?_; (first | have hbx := drew_below hwc | have hbx := eq_below hwc); replace HBc := hide (HBc.out.trans (hbx.mono HBc.out.size)); replace HKw := hide (HKw.out.later hbx); replace HTw := hide (HTw.out.later hbx); clear hwc hbx; have HS1 := hide HBc.out.size; refine (doL_any A n c f B d s0 AX m cX y k _ (HZw.out.later HBc.out) HP.out HYL.out (HRX.out.later HBc.out) HYT.out hkm).mono ?_; rintro e wd ⟨A6, c6, rfl, hbd, hres⟩; replace HBc := hide (HBc.out.trans (hbd.mono HBc.out.size)); replace HKw := hide (HKw.out.later hbd); replace HTw := hide (HTw.out.later hbd); clear hbd; have kk0 := HKw.out.cell 0 _ rfl; have kk1 := HKw.out.cell 1 _ rfl; have kt0 := HTw.out.cell 0 _ rfl; have kt1 := HTw.out.cell 1 _ rfl; have kx := (HBc.out.cell (p := ⟨bX, oX + j, none⟩) eX2).trans eX4; rw [HY0.out] at hres; have HO1 := hide (hres.obj.mono HS1.out (Nat.le_refl _)); clear hres; obtain ⟨p1, hp1⟩ : ∃ p1, wd.heap.size = p1 := ⟨_, rfl⟩; rw [hp1] at HO1; have HPL : Hid (SzGe p1 wd) := hide (by unfold SzGe; omega); have HP1 : Hid (wr.heap.size ≤ p1) := hide (by have h1 := HBc.out.size; omega); clear hp1)) | (go_at_call 59; go_must (refine calls_gen fun wc hwc => ?_; (first | have hbx := drew_below hwc | have hbx := eq_below hwc); replace HBc := hide (HBc.out.trans (hbx.mono HBc.out.size)); replace HKw := hide (HKw.out.later hbx); replace HTw := hide (HTw.out.later hbx); replace HO1 := hide (HO1.out.later hbx); replace HPL := hide (HPL.out.later hbx); clear hwc hbx; have HS2 := hide HPL.out; refine (doL_any A1 n c1 zf B1 d1 zg AX m cX y k _ (HZBw.out.later HBc.out) HPZ.out HYL.out (HRX.out.later HBc.out) HYT.out hkm).mono ?_; rintro e wd ⟨A7, c7, rfl, hbd, hres⟩; replace HBc := hide (HBc.out.trans (hbd.mono HBc.out.size)); replace HKw := hide (HKw.out.later hbd); replace HTw := hide (HTw.out.later hbd); replace HO1 := hide (HO1.out.later hbd); replace HPL := hide (HPL.out.later hbd); clear hbd; have kk0 := HKw.out.cell 0 _ rfl; have kk1 := HKw.out.cell 1 _ rfl; have kt0 := HTw.out.cell 0 _ rfl; have kt1 := HTw.out.cell 1 _ rfl; have kx := (HBc.out.cell (p := ⟨bX, oX + j, none⟩) eX2).trans eX4; rw [HYZ.out] at hres; have HO2 := hide (hres.obj.mono (show p1 ≤ _ from HS2.out) (Nat.le_refl _)); clear hres)))
            all_goals go_wp2_with fail
            all_goals go_meet
            all_goals exact ⟨_, A6, c6, A7, c7, p1, rfl, HBc.out.alloc HBc.out.size _, Blk.new _ _ _, HO1.out.later ((Below.refl _ _).alloc (Nat.le_refl _) _), HO2.out.later ((Below.refl _ _).alloc (Nat.le_refl _) _), HPL.out, HBc.out.size, HP1.out⟩
          case rest =>
            obtain ⟨bb, A6, c6, A7, c7, p1, rfl, hbc, hbb, ho6, ho7, hpb, hwb, hwp⟩ := hcut
            obtain ⟨p0, hp0⟩ : ∃ p0, wr.heap.size = p0 := ⟨_, rfl⟩
            have HQc := hide (HQ.out.later hbc)
            have HBw := hide (HB.out.trans (hbc.mono hs9))
            have HBB := hide hbb
            have HO6 := hide ho6
            have HO7 := hide ho7
            have HLOW : Hid (∀ (i : Nat) (u : Value) (g : Nat), qv2[i]? = some u → u.ownBlock = some g → g < p0) := hide (by rw [← hp0]; exact HQ.out.q.low)
            have HN1 : Hid (∀ g, (Value.slice (some ⟨bX, oX, none⟩) fl2 cg2).ownBlock = some g → g ≠ bb) := hide (fun g hg => by have h := (own_lt HQ.out.q.own hg).2; omega)
            have HN2 : Hid (∀ g, u10.ownBlock = some g → g ≠ bb) := hide (fun g hg => by have h := (own_lt HQ.out.s hg).2; omega)
            rw [hp0] at HO6 hwb hwp hs9
            have hp0b : w2.heap.size ≤ p0 := hs9
            clear hbc hbb ho6 ho7 HKw HTw HZw HZBw HBc kk0 kk1 kt0 kt1 kx tok1 eX4 HRX HQ HB hs9 eX2 hp0
            go_wp2_with fail
            go_loopw [9, 10, 14] (fun v s i wi => ∃ (jj : Nat) (q z : List (List Int)) (qv zv : List Value), jj ≤ 2 ∧ i = .int .i64 jj ∧ j < q.length ∧ q.getD j [] = y ∧ Que (leH f) (leH s0) x q j k ∧ (1 ≤ jj → y0 ∈ q) ∧ q.length ≤ most + 2 * k + jj ∧ Asc z ∧ (∀ u, u ∈ z ↔ u ∈ q) ∧ Below w2.heap.size w2 wi ∧ Qs 26 2 w2.heap.size wi v s q z qv zv ∧ Blk wi bb 26 [.slice A6 m c6, .slice A7 m c7] ∧ Obj1 2 p0 p1 wi A6 y0 ∧ Obj1 2 p1 bb wi A7 y1 ∧ (∀ g, v.ownBlock = some g → g ≠ bb) ∧ (∀ g, s.ownBlock = some g → g ≠ bb) ∧ (∀ (i : Nat) (u : Value) (g : Nat), qv[i]? = some u → u.ownBlock = some g → g < (if jj = 0 then p0 else if jj = 1 then p1 else bb))) (fun _ _ i _ => 2 - (intOf i).toNat)
            case atStart => exact ⟨0, q2, z2, qv2, zv2, by omega, rfl, by rw [HFE.out]; exact hjf2, HY2.out, HW.out, fun h => by omega, by rw [HFE.out]; omega, HAS.out, HME.out, HBw.out, by have h := HQc.out; first | exact h | (rw [HFE.out]; exact h), HBB.out, HO6.out, HO7.out, HN1.out, HN2.out, by simpa using HLOW.out⟩
            case round =>
              obtain ⟨jj, q3, z3, qv3, zv3, hjj, rfl, hjf3, hy3e, hwk3, hin0, hql3, hasc3, hmem3, hbe3, hqs3, hbb3, ho63, ho73, hn13, hn23, hlow3⟩ := hrel
              clear HW HAS HME HBw HQc HBB HO6 HO7 HN1 HN2 HLOW HFE HY2 hql2
              obtain ⟨Ag3, cg3, hv3, hog3⟩ := hqs3.q.shape
              have hz0 : 0 < z3.length := by
                have hx : q3.getD j [] ∈ z3 := (hmem3 _).2 (tgetD_mem _ _ _ hjf3)
                cases z3 with
                | nil => cases hx
                | cons a l => simp
              obtain ⟨gs, cs, hvs, hcs, hcm, hgs, hsc, hsr⟩ := hqs3.look hz0
              subst hv3
              subst hvs
              have HW := hide hwk3
              have HIN0 := hide hin0
              have HAS := hide hasc3
              have HME := hide hmem3
              have HB := hide hbe3
              have HY3 := hide hy3e
              have HBB := hide hbb3
              have HO6 := hide ho63
              have HO7 := hide ho73
              have HLOW := hide hlow3
              obtain ⟨fl3, hfe3⟩ : ∃ fl3, q3.length = fl3 := ⟨_, rfl⟩
              obtain ⟨zl, hze⟩ : ∃ zl, z3.length = zl := ⟨_, rfl⟩
              have HFE := hide hfe3
              have HZE := hide hze
              rw [hfe3] at hjf3 hql3 hqs3 hn13
              rw [hze] at hz0 hcs hqs3 hn23
              have HN1 := hide hn13
              have HN2 := hide hn23
              have HQ := hide hqs3
              have hzf : zl ≤ fl3 := by
                have h := tnodup_le HAS.out.nodup (fun a ha => (HME.out a).1 ha)
                rw [HFE.out, HZE.out] at h
                exact h
              rw [hfe3, hze]
              clear hwk3 hin0 hasc3 hmem3 hbe3 hqs3 hy3e hbb3 ho63 ho73 hn13 hn23 hlow3 hsc hsr hgs hcm hog3 hfe3 hze
              by_cases hj2 : jj < 2
              · have hjz3 : (jj : Int) < 2 := by omega
                obtain ⟨AJ, CJ, YJ, lo, hi, hcellJ, hobJ, hTJ, hylJ, hloJ, hhiJ, hinJ, hlh⟩ : ∃ (AJ : Option Addr) (CJ : Nat) (YJ : List Int) (lo hi : Nat), (∀ W : World, Blk W bb 26 [.slice A6 m c6, .slice A7 m c7] → W.cell? ⟨bb, jj, none⟩ = some (.slice AJ m CJ)) ∧ Obj1 2 lo hi wr AJ YJ ∧ Tch (leH f) (leH s0) x YJ ∧ YJ.length = m ∧ (if jj = 0 then p0 else if jj = 1 then p1 else bb) = lo ∧ (if jj + 1 = 0 then p0 else if jj + 1 = 1 then p1 else bb) = hi ∧ (jj = 0 → YJ = y0) ∧ lo ≤ hi := by
                  rcases jj with _ | _ | jj
                  · exact ⟨A6, c6, y0, p0, p1, fun W h => h.cell 0 _ rfl, HO6.out, HT0.out, by rw [HT0.out.len]; exact HM.out, by simp, by simp, fun _ => rfl, hwp⟩
                  · exact ⟨A7, c7, y1, p1, bb, fun W h => h.cell 1 _ rfl, HO7.out, HT1.out, by rw [HT1.out.len]; exact HM.out, by simp, by simp, fun h => by omega, hpb⟩
                  · omega
                have HCJ := hide hcellJ
                have HOJ := hide hobJ
                have HTJ := hide hTJ
                have HLJ := hide hylJ
                have HLO := hide hloJ
                have HHI := hide hhiJ
                have HIJ := hide hinJ
                have hcJ := hcellJ _ HBB.out
                have hbbl := HBB.out.lt
                have hlob : w2.heap.size ≤ lo := by rw [← hloJ]; split; omega; split; omega; omega
                have hhib : hi ≤ wr.heap.size := by rw [← hhiJ]; split; omega; split; omega; omega
                have HZL : Hid (∀ i, i < z3.length → (z3.getD i []).length = m) := hide (fun i hi => by rw [(HW.out.rch _ ((HME.out _).1 (tgetD_mem _ _ _ hi))).len]; exact HM.out)
                have hsB := HB.out.size
                clear hcellJ hobJ hTJ hylJ hloJ hhiJ hinJ
                go_wp2_with fail
                refine (put_any gs zl cs w2.heap.size m CJ AJ zv3 z3 YJ _ (by have h := HQ.out.s; first | exact h | (rw [HZE.out] at h; exact h)) HQ.out.r HZE.out hz0 (by omega) HZL.out HLJ.out hm12 HAS.out HOJ.out.rd hsB).mono ?_
                rintro e w7 ⟨pos, hplc, (⟨hin, rfl, hq7⟩ | ⟨hnin, g7, cap7, rfl, hb7, hc7, hg7, hown7⟩)⟩
                · have hb7 := hq7.below wr.heap.size
                  have HIN := hide ((HME.out YJ).1 hin)
                  have HB7 := hide (HB.out.trans (hb7.mono hsB))
                  have HQ7 := hide (HQ.out.later hb7)
                  have HBB7 := hide (HBB.out.later hb7)
                  have HO67 := hide (HO6.out.later hb7)
                  have HO77 := hide (HO7.out.later hb7)
                  clear hin hplc hq7 hb7 HQ HB HBB HO6 HO7 HOJ hcJ hbbl hhib
                  go_wp2_with fail
                  go_roundw
                  case rel =>
                    refine ⟨jj + 1, q3, z3, qv3, zv3, by omega, by go_num, by rw [HFE.out]; exact hjf3, HY3.out, HW.out, fun _ => ?_, by rw [HFE.out]; omega, HAS.out, HME.out, HB7.out, ?_, HBB7.out, HO67.out, HO77.out, fun g hg => HN1.out g hg, fun g hg => HN2.out g hg, fun i u g hu hg => ?_⟩
                    · by_cases e : jj = 0
                      · rw [← HIJ.out e]; exact HIN.out
                      · exact HIN0.out (by omega)
                    · have h := HQ7.out
                      first | exact h | (rw [HFE.out, HZE.out]; exact h)
                    · have h := HLOW.out i u g hu hg
                      rw [HLO.out] at h
                      rw [HHI.out]
                      omega
                  case measure => simp [intOf]; omega
                · have HNIN := hide hnin
                  have hpt := hplc.top
                  rw [HZE.out] at hpt
                  have HASC := hide (HAS.out.ins hplc hnin)
                  have HC7 := hide hc7
                  have hbgs : bb ≠ gs := fun e => HN2.out gs rfl e.symm
                  have HKT : Hid (KeepT 2 wr w7) := hide (HC7.out.keepT (by decide) rfl HQ.out.s)
                  have HOJ7 := hide (HKT.out.obj HOJ.out)
                  have HO67 := hide (HKT.out.obj HO6.out)
                  have HO77 := hide (HKT.out.obj HO7.out)
                  have HBB7 : Hid (Blk w7 bb 26 [.slice A6 m c6, .slice A7 m c7]) := hide ((hc7.block bb hbbl hbgs).trans HBB.out)
                  have HB7w : Hid (Below w2.heap.size w2 w7) := hide (HB.out.trans hb7)
                  have HQ7 : Hid (Qs 26 2 w2.heap.size w7 (.slice Ag3 fl3 cg3) (.slice (some ⟨g7, 0, none⟩) (zl + 1) cap7) q3 (insL z3 pos YJ) qv3 (zv3.take pos ++ .slice AJ YJ.length CJ :: zv3.drop pos)) := hide (HQ.out.put (by decide) hc7 (by rw [HZE.out]; exact hpt) (HOJ.out.mono hlob hhib) hg7 (by rw [insL_length, HZE.out]) (by rw [HLJ.out]; exact hown7))
                  have hs77 : wr.heap.size ≤ w7.heap.size := hc7.size
                  have hg7b : g7 ≠ bb := by rcases hg7 with e | e <;> omega
                  have hcJ7 := HCJ.out _ HBB7.out
                  have hs7 := HB7w.out.size
                  have HOWQ : Hid (w7.ownsRow w2.heap.size 26 1 (.slice Ag3 fl3 cg3) fl3 qv3) := hide (by have h := HQ7.out.q.own; rw [HFE.out] at h; exact h)
                  have hbb7 := HBB7.out.lt
                  clear hnin hplc hb7 hc7 hg7 hown7 HQ HB HBB HO6 HO7 HOJ HC7 HKT hcJ
                  go_wp2_with (at_builtin; refine wpList_append_own_at _ rfl _ _ 22 rfl w2.heap.size 26 i2 (.slice none 0 0) 1 24 Try.underlying22 hj hy0 hy1 hy2 rfl (by decide) _ _ _ rfl (HOWQ.out.alloc _) ⟨w7.heap.size, 0, none⟩ 1 1 [.slice AJ m CJ] rfl rfl ?f1 ?f2 ?f3 ?f4 ?f5 ?_)
                  case f1 => exact ne_new
                  case f2 => intro u hu; simp at hu; subst hu; rfl
                  case f3 => unfold maxLen; omega
                  case f4 => omega
                  case f5 => simp; omega
                  intro v8 w8 hown8 hgrow8 _ hat8
                  have hal : Below w7.heap.size w7 (w7.alloc (.cells #[.slice AJ m CJ] 26)) := (Below.refl _ _).alloc (Nat.le_refl _) _
                  have HB8 : Hid (Below w2.heap.size w2 w8) := hide ((HB7w.out.alloc hs7 _).grown hgrow8 (by simp; omega) (fun g hg => (HOWQ.out.alloc (.cells #[.slice AJ m CJ] 26)).lt g hg |>.1))
                  have HQ8 := hide (HQ7.out.queued (tmp := .cells #[.slice AJ m CJ] 26) (A := AJ) (c := CJ) (p := YJ) (w1 := w8) (v' := v8) (by decide) (HOJ7.out.mono hlob (by omega)) (fun i u g hu hg a ha => by have h1 := HLOW.out i u g hu hg; rw [HLO.out] at h1; have h2 := (HOJ7.out.bounds a ha).1; omega) (by rw [HLJ.out, HFE.out]; exact hown8) hgrow8 (by simpa using hat8))
                  have HKT8 : Hid (KeepT 2 w7 w8) := hide ((KeepT.of_below hal).trans (KeepT.of_grown (by decide) (ownsRow_below HOWQ.out hal) hgrow8))
                  have HO68 := hide (HKT8.out.obj HO67.out)
                  have HO78 := hide (HKT8.out.obj HO77.out)
                  have HBB8 : Hid (Blk w8 bb 26 [.slice A6 m c6, .slice A7 m c7]) := hide ((hgrow8.block bb (by simp; omega) (fun e => HN1.out bb e.symm rfl)).trans ((hal.block bb hbb7).trans HBB7.out))
                  have HN18 : Hid (∀ g, v8.ownBlock = some g → g ≠ bb) := hide (by
                    intro g hg e
                    rcases hat8 with e2 | e2
                    · rw [e2] at hg; exact HN1.out g hg e
                    · rw [hg] at e2
                      injection e2 with e2
                      try simp at e2
                      omega)
                  have HN28 : Hid (∀ g, (Value.slice (some ⟨g7, 0, none⟩) (zl + 1) cap7).ownBlock = some g → g ≠ bb) := hide (fun g hg => by
                    simp [Value.ownBlock] at hg
                    omega)
                  have hnq : YJ ∉ q3 := fun h => HNIN.out ((HME.out YJ).2 h)
                  have HLO8 : Hid (∀ (i : Nat) (u : Value) (g : Nat), (qv3 ++ [.slice AJ m CJ])[i]? = some u → u.ownBlock = some g → g < hi) := hide (by
                    intro i u g hu hg
                    rw [List.getElem?_append] at hu
                    split at hu
                    · have h := HLOW.out i u g hu hg
                      rw [HLO.out] at h
                      omega
                    · have hu2 : u = .slice AJ m CJ := by
                        rcases h9 : i - qv3.length with _ | q9
                        · rw [h9] at hu; simpa using hu.symm
                        · rw [h9] at hu; simp at hu
                      subst hu2
                      cases AJ with
                      | none => simp [Value.ownBlock] at hg
                      | some a =>
                        simp [Value.ownBlock] at hg
                        have h2 := (HOJ7.out.bounds a rfl).2
                        omega)
                  have HNQ := hide hnq
                  obtain ⟨g8, c8, hv8, _, _⟩ := own_look hown8 (by omega)
                  subst hv8
                  clear hown8 hgrow8 hat8 hal HQ7 HOWQ HB7w hnq HKT8 HO67 HO77 HBB7 HOJ7 hcJ7
                  go_wp2_with fail
                  go_roundw
                  case rel =>
                    have hadd := HW.out.add (by rw [HFE.out]; exact hjf3) HTJ.out HNQ.out
                    refine ⟨jj + 1, q3 ++ [YJ], insL z3 pos YJ, _, _, by omega, by go_num, by have h := HFE.out; simp; omega, by rw [tgetD_app _ _ _ _ (by rw [HFE.out]; exact hjf3)]; exact HY3.out, hadd, fun _ => ?_, by have h := HFE.out; simp; omega, HASC.out, fun u => by rw [insL_mem, List.mem_append, HME.out u]; simp [or_comm], HB8.out, HQ8.out, HBB8.out, HO68.out, HO78.out, fun g hg => HN18.out g hg, HN28.out, fun i u g hu hg => ?_⟩
                    · by_cases e : jj = 0
                      · rw [← HIJ.out e]; simp
                      · exact List.mem_append.2 (.inl (HIN0.out (by omega)))
                    · have h := HLO8.out i u g (by rw [HLJ.out] at hu; exact hu) hg
                      rw [HHI.out]
                      exact h
                  case measure => simp [intOf]; omega
              · have hj2e : jj = 2 := by omega
                subst hj2e
                have hkz2 : ¬ ((2 : Nat) : Int) < 2 := by omega
                go_wp2_with fail
                go_roundw
                case rel =>
                  refine ⟨k + 1, q3, z3, qv3, zv3, by omega, by go_num, by rw [HFE.out]; exact hjf3, HY3.out, HW.out.keep (by rw [HY3.out, HY0.out]; exact HIN0.out (by omega)), by rw [HFE.out]; omega, HAS.out, HME.out, HB.out, ?_⟩
                  have h := HQ.out
                  first | exact h | (rw [HFE.out, HZE.out]; exact h)
                case measure => simp [intOf]; omega
        · have hkz : ¬ (k : Int) + 1 < m := by omega
          have HWN : Hid (Que (leH f) (leH s0) x q2 (j + 1) 0) := hide (HW.out.next (by rw [HM.out]; omega))
          by_cases hfull : most < fl2
          · have hfz : (most : Int) < fl2 := by omega
            go_wp2_with fail
            go_ret2
            exact .inr ⟨not_few2 HW.out.nd HW.out.rch (by rw [HFE.out]; exact hfull), rfl, HB2.out.trans (HB.out.mono hs2)⟩
          · have hfz : (fl2 : Int) ≤ most := by omega
            go_wp2_with fail
            go_roundw
            case rel =>
              refine ⟨j + 1, q2, z2, qv2, zv2, by rw [HFE.out]; omega, by go_num, HWN.out, by rw [HFE.out]; omega, HAS.out, HME.out, HB.out, ?_⟩
              have h := HQ.out
              first | exact h | (rw [HFE.out]; exact h)
            case measure => simp [intOf]; omega
    · have hje : j = fl := by omega
      subst hje
      have hz0 : 0 < z.length := by
        have hx : x ∈ z := (HME.out _).2 HW.out.start
        cases z with
        | nil => cases hx
        | cons a l => simp
      obtain ⟨gs, cs, hvs, hcs, hcm, hgs, hsc, hsr⟩ := HQ.out.look hz0
      subst hvs
      have HCLS : Hid (Cls (leH f) (leH s0) x z) := hide (by
        have h2 := HW.out
        rw [← HFE.out] at h2
        exact h2.fin.sorted HAS.out HME.out)
      have HZL : Hid (∀ i, i < z.length → (z.getD i []).length = m) := hide (fun i hi => by rw [HCLS.out.row hi]; exact HM.out)
      have hzl : z.length ≤ most := by
        have h := tnodup_le HAS.out.nodup (fun a ha => (HME.out a).1 ha)
        rw [HFE.out] at h
        omega
      obtain ⟨zl, hze⟩ : ∃ zl, z.length = zl := ⟨_, rfl⟩
      have HZE := hide hze
      have HSR := hide hsr
      have HLE := hide hzl
      rw [hze] at hz0 hzl
      rw [hze]
      have hs9 := HB.out.size
      clear hze hsc hsr
      go_wp2_with fail
      refine (own2c_any (some ⟨gs, 0, none⟩) zl cs m z _ HZE.out hz0 (by omega) h1m (by omega) HZL.out HSR.out).mono ?_
      rintro e w9 ⟨v9, vals9, rfl, hb9, ho9, hcv9⟩
      have HB9 := hide ((HB2.out.trans (HB.out.mono hs2)).trans (hb9.mono (by omega)))
      have HO9 := hide (ho9.monoB (B' := w.heap.size) (by omega))
      clear hb9 ho9
      go_wp2_with fail
      go_ret2
      exact .inl ⟨z, _, vals9, HCLS.out, HAS.out, HLE.out, rfl, HB9.out, HO9.out, hcv9⟩
theorem class1_any (A : Option Addr) (n c : Nat) (f : List (List Int)) (B : Option Addr) (d : Nat) (s0 : List (List Int)) (C : Option Addr) (m e : Nat) (x : List Int) (most : Nat) (w : World) (hz : ZArg 1048576 w A n f B n s0) (hs : SolF f s0) (ht : Tup n x) (hm : x.length = m) (h1m : 1 ≤ m) (hr : Rd w C x) (hl1 : 1 ≤ most) (hl : most ≤ 5000) :
    Calls Try.prog 31 #[.agg #[.slice A n c, .slice B n d], .slice C m e, .int .i64 most] w fun e w' => (∃ L v vals, Cls (leH f) (leH s0) x L ∧ Asc L ∧ L.length ≤ most ∧ e = .returned (.tuple #[v, .bool true]) ∧ Below w.heap.size w w' ∧ LstV 26 2 w.heap.size w' v L vals) ∨ (¬ FewT (leH f) (leH s0) x most ∧ e = .returned (.tuple #[.slice none 0 0, .bool false]) ∧ Below w.heap.size w w') := by
  refine (class1c_any A n c f B d s0 C m e x most w hz hs ht hm h1m hr hl1 hl).mono ?_
  rintro e w2 (⟨L, v, vals, h1, h2, h3, h4, h5, h6, _⟩ | h)
  · exact .inl ⟨L, v, vals, h1, h2, h3, h4, h5, h6⟩
  · exact .inr h
end Go.Proofs.Ytbhlcfcmjildmaa
namespace Go.Proofs.Ytbhlcfcmjildmaa
open Go Go.RowKit
open Classical
set_option maxHeartbeats 4000000
/-- What forbids to take all words of some length. -/
def ManyC (f s : List (List Int)) (x code : Int) : Prop :=
  (¬ SolF f s ∧ code = 1) ∨ (SolF f s ∧ ¬ (0 ≤ x ∧ x ≤ 8) ∧ code = 2) ∨ (SolF f s ∧ (0 ≤ x ∧ x ≤ 8) ∧ 5000 < f.length ^ x.toNat ∧ code = 3) ∨ (SolF f s ∧ (0 ≤ x ∧ x ≤ 8) ∧ f.length ^ x.toNat ≤ 5000 ∧ code = 0)
theorem ManyC.ex (f s : List (List Int)) (x : Int) : ∃ code, ManyC f s x code := by
  by_cases h : SolF f s
  · by_cases h2 : 0 ≤ x ∧ x ≤ 8
    · by_cases h3 : f.length ^ x.toNat ≤ 5000
      · exact ⟨0, .inr (.inr (.inr ⟨h, h2, h3, rfl⟩))⟩
      · exact ⟨3, .inr (.inr (.inl ⟨h, h2, by omega, rfl⟩))⟩
    · exact ⟨2, .inr (.inl ⟨h, h2, rfl⟩)⟩
  · exact ⟨1, .inl ⟨h, rfl⟩⟩
theorem ManyC.uniq {f s : List (List Int)} {x c c' : Int} (h : ManyC f s x c) (h' : ManyC f s x c') : c = c' := by
  rcases h with ⟨a, rfl⟩ | ⟨a, b, rfl⟩ | ⟨a, b, d, rfl⟩ | ⟨a, b, d, rfl⟩ <;> rcases h' with ⟨a', rfl⟩ | ⟨a', b', rfl⟩ | ⟨a', b', d', rfl⟩ | ⟨a', b', d', rfl⟩ <;> first | rfl | contradiction | omega
theorem pow_le12 {n j : Nat} (hn : n ≤ 12) (hj : j ≤ 8) : n ^ j ≤ 429981696 := Nat.le_trans (Nat.pow_le_pow_left hn j) (Nat.le_trans (Nat.pow_le_pow_right (by omega) hj) (by decide))
set_option maxRecDepth 100000 in
theorem many_any (A B : Option Addr) (n c k d : Nat) (f s : List (List Int)) (x code : Int) (w : World) (hz : ZArg 1048576 w A n f B k s) (hlo : -9223372036854775808 ≤ x) (hhi : x ≤ 9223372036854775807) (hc : ManyC f s x code) :
    Calls Try.prog 46 #[.agg #[.slice A n c, .slice B k d], .int .i64 x] w fun e w' => e = .returned (.int .i64 code) ∧ Below w.heap.size w w' := by
  have HZ := hide hz
  have HC := hide hc
  have HB0 := hide ((Below.refl _ w).alloc (Nat.le_refl _) (Obj.cells #[Value.slice A n c, Value.slice B k d] 29))
  have HK0 := hide (Blk.new w 29 [.slice A n c, .slice B k d])
  obtain ⟨r, hr⟩ : ∃ r : Bool, r = true ↔ SolF f s := bool_of _
  have HR := hide hr
  clear hz hc hr
  go_enter Try.func46, Try.ntmps46
  have k0 := HK0.out.cell 0 _ rfl
  have k1 := HK0.out.cell 1 _ rfl
  go_wp2_with fail
  clear k0 k1
  refine (isS_any _ _ _ f _ _ _ s r _ (HZ.out.later HB0.out) HR.out).mono ?_
  rintro e w1 ⟨rfl, hb1⟩
  have HB1 := hide (HB0.out.trans (hb1.mono HB0.out.size))
  have HK1 := hide (HK0.out.later hb1)
  clear hb1
  cases r with
  | false =>
    have hns : ¬ SolF f s := fun h => by have := HR.out.2 h; cases this
    obtain rfl : code = 1 := HC.out.uniq (.inl ⟨hns, rfl⟩)
    clear hns
    go_wp2_with fail
    go_ret
    exact ⟨rfl, HB1.out⟩
  | true =>
    have hs := HR.out.1 rfl
    obtain rfl := (HZ.out.same hs.1).symm
    have hn := HZ.out.sz.fl
    have h12 := (HZ.out.small hs.1).2
    have HS := hide hs
    obtain ⟨r2, hr2⟩ : ∃ r : Bool, r = true ↔ (0 ≤ x ∧ x ≤ 8) := bool_of _
    have HR2 := hide hr2
    clear hs hr2
    go_wp2_with fail
    refine (in_any x 0 8 r2 _ HR2.out).mono ?_
    rintro e w2 ⟨rfl, hq2⟩
    have hb2 := hq2.below w1.heap.size
    have HB2 := hide (HB1.out.trans (hb2.mono HB1.out.size))
    have HK2 := hide (HK1.out.later hb2)
    clear hq2 hb2
    cases r2 with
    | false =>
      have hnx : ¬ (0 ≤ x ∧ x ≤ 8) := fun h => by have := HR2.out.2 h; cases this
      obtain rfl : code = 2 := HC.out.uniq (.inr (.inl ⟨HS.out, hnx, rfl⟩))
      clear hnx
      go_wp2_with fail
      go_ret
      exact ⟨rfl, HB2.out⟩
    | true =>
      obtain ⟨hx0, hx8⟩ := HR2.out.1 rfl
      obtain ⟨K, rfl⟩ : ∃ K : Nat, x = K := ⟨x.toNat, by omega⟩
      have hK8 : K ≤ 8 := by omega
      have HN := hide hn
      clear hn hx0 hx8 HR2
      go_wp2_with fail
      go_loopw [5, 6] (fun sv iv wr => ∃ j : Nat, j ≤ K ∧ iv = .int .i64 j ∧ sv = .int .i64 ((n ^ j : Nat) : Int) ∧ wr = w2) (fun _ i _ => K - (intOf i).toNat)
      case atStart => exact ⟨0, Nat.zero_le _, rfl, by simp, rfl⟩
      case round =>
        obtain ⟨j, hj, rfl, rfl, rfl⟩ := hrel
        obtain ⟨p, hp⟩ : ∃ p, n ^ j = p := ⟨_, rfl⟩
        have hpb : p ≤ 429981696 := by rw [← hp]; exact pow_le12 h12 (by omega)
        rw [hp]
        by_cases hlt : j < K
        · have hjz : (j : Int) < K := by omega
          obtain ⟨q, hq⟩ : ∃ q, n ^ (j + 1) = q := ⟨_, rfl⟩
          have hqb : q ≤ 429981696 := by rw [← hq]; exact pow_le12 h12 (by omega)
          have hpq : (p : Int) * (n : Int) = (q : Int) := by rw [← hp, ← hq, Nat.pow_succ]; push_cast; rfl
          have hpq0 : 0 ≤ (p : Int) * (n : Int) := by rw [hpq]; omega
          have hpq1 : (p : Int) * (n : Int) ≤ 429981696 := by rw [hpq]; omega
          have HQ := hide hq
          have HPQ := hide hpq
          clear hp hq hpq
          have k0 := HK2.out.cell 0 _ rfl
          have k1 := HK2.out.cell 1 _ rfl
          go_wp2_with fail
          go_roundw
          case rel => exact ⟨j + 1, by omega, by go_num, by rw [HPQ.out, HQ.out], by first | rfl | trivial⟩
          case measure => simp [intOf]; omega
        · have hjK : j = K := by omega
          subst hjK
          have hjz : ¬ (j : Int) < j := by omega
          by_cases h5 : p ≤ 5000
          · obtain rfl : code = 0 := HC.out.uniq (.inr (.inr (.inr ⟨HS.out, by omega, by rw [HN.out, Int.toNat_natCast, hp]; omega, rfl⟩)))
            have h5z : ¬ (5000 : Int) < p := by omega
            clear hp
            go_wp2_with fail
            go_ret
            exact ⟨rfl, HB2.out⟩
          · obtain rfl : code = 3 := HC.out.uniq (.inr (.inr (.inl ⟨HS.out, by omega, by rw [HN.out, Int.toNat_natCast, hp]; omega, rfl⟩)))
            have h5z : (5000 : Int) < p := by omega
            clear hp
            go_wp2_with fail
            go_ret
            exact ⟨rfl, HB2.out⟩
end Go.Proofs.Ytbhlcfcmjildmaa
namespace Go.Proofs.Ytbhlcfcmjildmaa
open Go Go.RowKit
open Classical
set_option maxHeartbeats 8000000
set_option maxRecDepth 100000 in
theorem divAll_any (A : Option Addr) (n c : Nat) (B : Option Addr) (k d : Nat) (bm m : Nat) (L : List (List Int)) (r0 : Bool) (w : World) (hn1 : 1 ≤ n) (hn12 : n ≤ 12) (hM : MetN w bm L) (hnd : L.Nodup) (hlm : ∀ p, p ∈ L → p.length = m) (hsm : ∀ p, p ∈ L → Sm p) (hm1 : 1 ≤ m) (hm12 : m ≤ 12) (hin : ∀ p, p ∈ L → 0 ≤ p.getD 0 0 ∧ p.getD 0 0 < (n : Int)) (_h0 : 0 < L.length) (_hlb : L.length ≤ 5000) (hr0 : r0 = true ↔ ∀ x : Nat, x < n → ∃ p, p ∈ L ∧ p.getD 0 0 = x) :
    Calls Try.prog 40 #[.agg #[.slice A n c, .slice B k d], .map (some bm)] w fun e w' => e = .returned (.bool r0) ∧ Below w.heap.size w w' := by
  have HM := hide hM
  have HND := hide hnd
  have HLM := hide hlm
  have HSM := hide hsm
  have HIN := hide hin
  have HR0 := hide hr0
  have hbl := MapN.lt hM
  clear hM hnd hlm hsm hin hr0
  go_enter Try.func40, Try.ntmps40
  go_upto_region 2 with fail
  refine wp_gen fun w1 hw1 => ?_
  obtain ⟨b0, hb0⟩ : ∃ b, w.heap.size = b := ⟨_, rfl⟩
  have HBE := hide hb0
  have hs1 : w1.heap.size = b0 + 2 := by rw [hw1, ← hb0]; simp
  have HB1 : Hid (Below b0 w w1) := hide (by rw [hw1, ← hb0]; exact ((Below.refl _ _).alloc (Nat.le_refl _) _).alloc (by simp) _)
  have HK1 : Hid (Blk w1 b0 29 [.slice A n c, .slice B k d]) := hide (by
    rw [hw1, ← hb0]
    exact (Blk.new w 29 [.slice A n c, .slice B k d]).later ((Below.refl _ _).alloc (Nat.le_refl _) _))
  have HF1 : Hid (BoolB 92 w1 (b0 + 1) 12 (fun _ => false)) := hide (by
    rw [hw1, ← hb0]
    refine ⟨_, by have h := heap_alloc_new (w.alloc (Obj.cells #[Value.slice A n c, Value.slice B k d] 29)) (Obj.cells #[Value.bool false, Value.bool false, Value.bool false, Value.bool false, Value.bool false, Value.bool false, Value.bool false, Value.bool false, Value.bool false, Value.bool false, Value.bool false, Value.bool false] 92); simpa using h, rfl, fun i hi => ?_⟩
    have h : i = 0 ∨ i = 1 ∨ i = 2 ∨ i = 3 ∨ i = 4 ∨ i = 5 ∨ i = 6 ∨ i = 7 ∨ i = 8 ∨ i = 9 ∨ i = 10 ∨ i = 11 := by omega
    rcases h with h | h | h | h | h | h | h | h | h | h | h | h <;> subst h <;> rfl)
  have hb1 : Below w.heap.size w w1 := by rw [hb0]; exact HB1.out
  obtain ⟨w2, cnt0, hrun, hR2, hg2, hs2⟩ := MetN.range (show MetN w1 bm L from MapN.later HM.out hb1) Try.underlying62
  have hb2 : Below w1.heap.size w1 w2 := (Below.refl _ w1).grown hg2 (Nat.le_refl _) (fun g hg => by cases hg)
  have HB2 := hide (HB1.out.trans (hb2.mono (by omega)))
  have HK2 := hide (HK1.out.later hb2)
  have HF2 := hide (HF1.out.later hb2)
  obtain ⟨r, hr⟩ : ∃ r, w1.heap.size = r := ⟨_, rfl⟩
  rw [hr] at hrun hR2
  have HR2 := hide hR2
  obtain rfl : r = b0 + 2 := by omega
  rw [hb0] at hbl ⊢
  clear hR2 hg2 hb1 hb2 hs2 hr hw1 hs1 HB1 HK1 HF1
  go_wp2_with fail
  clear hrun
  go_loopw [6] (fun _ wr => ∃ (got : List (List Int)) (F : Nat → Bool) (cnt : Nat), Below b0 w wr ∧ Blk wr b0 29 [.slice A n c, .slice B k d] ∧ BoolB 92 wr (b0 + 1) 12 F ∧ (∀ x, x < 12 → (F x = true ↔ ∃ p, p ∈ got ∧ p.getD 0 0 = (x : Int))) ∧ MetR wr bm (b0 + 2) L got cnt) (fun _ wr => wr.rangeLeft bm (b0 + 2))
  case atStart => exact ⟨[], _, cnt0, HB2.out, HK2.out, HF2.out, fun x _ => by simp, HR2.out⟩
  case round =>
    obtain ⟨got, F, cnt, hbe, hke, hfe, hF, hmr⟩ := hrel
    clear HB2 HK2 HF2 HR2
    have HB := hide hbe
    have HK := hide hke
    have HFB := hide hfe
    have HF := hide hF
    have hleft := hmr.left_eq
    have hgs : ∀ y, y ∈ got → y ∈ L := by obtain ⟨_, _, _, _, _, h, _⟩ := hmr; exact h
    have HGS := hide hgs
    have HN0 := hide hmr.iterN
    have HMR := hide hmr
    rcases hmr.next HLM.out HSM.out 0 with ⟨hall, hnx⟩ | ⟨p, v, w3, cnt3, hp, hpg, hnx, hr3, hlt3, hg3, hs3, hen⟩
    · have HALL := hide hall
      clear hbe hke hfe hF hmr hgs hall
      have c12z : (n : Int) ≤ 12 := by omega
      have k0 := HK.out.cell 0 _ rfl
      have k1 := HK.out.cell 1 _ rfl
      go_wp2_with fail
      refine (size_any A n c B k d _ (by omega)).mono ?_
      rintro e w5 ⟨rfl, hq5⟩
      have HB5 := hide (HB.out.trans (hq5.mono (by have := HB.out.size; have := HK.out.lt; omega)))
      have HF5 := hide (HFB.out.later hq5)
      clear hq5 k0 k1 hnx
      go_wp2_with fail
      refine (containsB_any (b0 + 1) 12 n 12 F (!r0) _ hn12 (by omega) HF5.out ?_).mono ?_
      · constructor
        · intro h
          by_cases hh : ∃ j, j < n ∧ F j = false
          · exact hh
          · exfalso
            have hrt : r0 = true := HR0.out.2 (fun x hx => by
              have hFx : F x = true := by
                cases e : F x
                · exact absurd ⟨x, hx, e⟩ hh
                · rfl
              obtain ⟨p, hp, e⟩ := (HF.out x (by omega)).1 hFx
              exact ⟨p, HGS.out p hp, e⟩)
            rw [hrt] at h
            simp at h
        · rintro ⟨j, hj, e⟩
          cases hr : r0
          · rfl
          · exfalso
            obtain ⟨p, hp, e2⟩ := HR0.out.1 hr j hj
            have h := (HF.out j (by omega)).2 ⟨p, (HALL.out p).1 hp, e2⟩
            rw [e] at h
            cases h
      rintro e w6 ⟨rfl, hq6⟩
      have HB6 := hide (HB5.out.trans (hq6.below _))
      clear hq6
      go_wp2_with fail
      go_ret
      exact ⟨rfl, by first | exact HB6.out | (rw [HBE.out]; exact HB6.out)⟩
    · have hpl := HLM.out p hp
      have hpp := pad12_length (xs := p) (by rw [hpl]; exact hm12)
      obtain ⟨pp, hppe⟩ : ∃ pp, pad12 p = pp := ⟨_, rfl⟩
      rw [hppe] at hpp
      obtain ⟨p0, p1, p2, p3, p4, p5, p6, p7, p8, p9, p10, p11, rfl⟩ := list12 hpp
      have hkp : tkey p = .agg #[.int .i64 p0, .int .i64 p1, .int .i64 p2, .int .i64 p3, .int .i64 p4, .int .i64 p5, .int .i64 p6, .int .i64 p7, .int .i64 p8, .int .i64 p9, .int .i64 p10, .int .i64 p11] := by unfold tkey; rw [hppe]; rfl
      rw [hkp] at hnx hen
      have HPP := hide hppe
      have HPL := hide hpl
      have HP := hide hp
      have HPG := hide hpg
      have hbn : ∀ g, g < wr.heap.size → g ≠ b0 + 2 → w3.heap[g]? = wr.heap[g]? := fun g h1 h2 => hg3.block g h1 (fun e => by injection e with e; omega)
      have hKl := HK.out.lt
      have hFl := HFB.out.lt
      have HK3 : Hid (Blk w3 b0 29 [.slice A n c, .slice B k d]) := hide ((hbn b0 hKl (by omega)).trans HK.out)
      have HF3 : Hid (BoolB 92 w3 (b0 + 1) 12 F) := hide (HFB.out.of_block (hbn _ hFl (by omega)))
      have hb3 : Below b0 w w3 := HB.out.grown hg3 (by have := HB.out.size; omega) (fun g hg => by injection hg with hg; omega)
      have HB3 := hide hb3
      have HR3 := hide hr3
      obtain ⟨hi0, hi1⟩ := HIN.out p hp
      have hp0e : p.getD 0 0 = p0 := by
        have h := pad12_at (xs := p) (i := 0) (by omega)
        rw [hppe] at h
        simpa using h.symm
      rw [hp0e] at hi0 hi1
      have HP0 := hide hp0e
      have hszb : bm < b0 := hbl
      clear hbe hke hfe hmr hgs hpl hpp hppe hkp hp hpg hb3 hr3 hg3 hs3 hbn hp0e HB HK HFB HMR HN0 hF
      go_upto_region 5 with fail
      refine wp_gen fun w4 hw4 => ?_
      obtain ⟨pb, hpb⟩ : ∃ pb, w3.heap.size = pb := ⟨_, rfl⟩
      have hb4 : Below w3.heap.size w3 w4 := by rw [hw4]; exact (Below.refl _ _).alloc (Nat.le_refl _) _
      have HROW : Hid (Row 61 w4 pb [p0, p1, p2, p3, p4, p5, p6, p7, p8, p9, p10, p11]) := hide (by rw [hw4, ← hpb]; exact Blk.new _ _ _)
      rw [hpb]
      have HB4 := hide (HB3.out.trans (hb4.mono (by have := HK3.out.lt; omega)))
      have HK4 := hide (HK3.out.later hb4)
      have HF4 := hide (HF3.out.later hb4)
      have HR4 := hide (HR3.out.later hb4)
      obtain ⟨x, rfl⟩ : ∃ x : Nat, p0 = (x : Int) := ⟨p0.toNat, by omega⟩
      have hx12 : x < 12 := by omega
      have hxz : (x : Int) < 12 := by omega
      have c0 := HROW.out.cell (i := 0) (by simp)
      have cx := HF4.out.cell hx12
      have cf := HF4.out.frozen x
      have hbm : bm ≠ b0 + 1 := by omega
      clear hw4 hb4 hpb hnx hen HB3 HK3 HF3 HR3
      go_wp2_with fail
      go_roundw
      case rel =>
        refine ⟨got ++ [p], _, cnt3, HB4.out.setCell (p := ⟨b0 + 1, x, none⟩) (by show b0 ≤ b0 + 1; omega) _, (Below.heap_setCell _ ⟨b0 + 1, x, none⟩ _ b0 (by show b0 ≠ b0 + 1; omega)).trans HK4.out, HF4.out.set x, fun i hi => ?_, HR4.out.of_blocks (Below.heap_setCell _ ⟨b0 + 1, x, none⟩ _ bm hbm) (Below.heap_setCell _ ⟨b0 + 1, x, none⟩ _ (b0 + 2) (by show b0 + 2 ≠ b0 + 1; omega))⟩
        by_cases e : i = x
        · subst e
          simp only [if_pos]
          exact ⟨fun _ => ⟨p, by simp, HP0.out⟩, fun _ => by first | rfl | trivial⟩
        · rw [if_neg e, HF.out i hi]
          constructor
          · rintro ⟨y, hy, e2⟩
            exact ⟨y, by simp [hy], e2⟩
          · rintro ⟨y, hy, e2⟩
            rcases List.mem_append.1 hy with hy | hy
            · exact ⟨y, hy, e2⟩
            · have : y = p := by simpa using hy
              rw [this, HP0.out] at e2
              omega
      case measure =>
        have h := (HR4.out.of_blocks (w' := w4.setCell ⟨b0 + 1, x, none⟩ (.bool true)) (Below.heap_setCell _ ⟨b0 + 1, x, none⟩ _ bm hbm) (Below.heap_setCell _ ⟨b0 + 1, x, none⟩ _ (b0 + 2) (by show b0 + 2 ≠ b0 + 1; omega))).left_eq
        omega
end Go.Proofs.Ytbhlcfcmjildmaa
namespace Go.Proofs.Ytbhlcfcmjildmaa
open Go Go.RowKit
open Classical
set_option maxHeartbeats 4000000
theorem tupleOf_key (A : Option Addr) (m c : Nat) (xs : List Int) (w : World) (hm : xs.length = m) (hb : m ≤ 12) (hr : Rd w A xs) :
    Calls Try.prog 74 #[.slice A m c] w fun e w' => e = .returned (tkey xs) ∧ Below w.heap.size w w' := tupleOf_any A m c xs w hm hb hr
theorem orbitOf_yes (A : Option Addr) (n c : Nat) (f : List (List Int)) (B : Option Addr) (d : Nat) (s : List (List Int)) (x : List Int) (m limit : Nat) (w : World) (hz : ZArg 1048576 w A n f B n s) (hs : SolF f s) (ht : Tup n x) (hm : x.length = m) (hl1 : 1 ≤ limit) (hl : limit ≤ 5000) (hf : FewT (leH f) (leH s) x limit) :
    Calls Try.prog 70 #[.agg #[.slice A n c, .slice B n d], tkey x, .int .i64 m, .int .i64 limit] w fun e w' => ∃ L bm, Cls (leH f) (leH s) x L ∧ L.length ≤ limit ∧ e = .returned (.tuple #[.map (some bm), .bool true]) ∧ Below w.heap.size w w' ∧ w.heap.size ≤ bm ∧ MetN w' bm L := by
  refine (orbitOf_any A n c f B d s x m limit w hz hs ht hm hl1 hl).mono ?_
  rintro e w2 (h | ⟨h, _⟩)
  · exact h
  · exact absurd hf h
theorem orbitOf_no (A : Option Addr) (n c : Nat) (f : List (List Int)) (B : Option Addr) (d : Nat) (s : List (List Int)) (x : List Int) (m limit : Nat) (w : World) (hz : ZArg 1048576 w A n f B n s) (hs : SolF f s) (ht : Tup n x) (hm : x.length = m) (hl1 : 1 ≤ limit) (hl : limit ≤ 5000) (hf : ¬ FewT (leH f) (leH s) x limit) :
    Calls Try.prog 70 #[.agg #[.slice A n c, .slice B n d], tkey x, .int .i64 m, .int .i64 limit] w fun e w' => e = .returned (.tuple #[.map none, .bool false]) ∧ Below w.heap.size w w' := by
  refine (orbitOf_any A n c f B d s x m limit w hz hs ht hm hl1 hl).mono ?_
  rintro e w2 (⟨L, bm, h, hl, _⟩ | ⟨_, h⟩)
  · exact absurd ⟨L, h, hl⟩ hf
  · exact h
set_option maxRecDepth 100000 in
theorem classOf_yes (A : Option Addr) (n c : Nat) (f : List (List Int)) (B : Option Addr) (d : Nat) (s : List (List Int)) (C : Option Addr) (m e : Nat) (x : List Int) (w : World) (hz : ZArg 1048576 w A n f B n s) (hs : SolF f s) (ht : Wrd n x) (hm : x.length = m) (hr : Rd w C x) (hf : FewT (leH f) (leH s) x 1000) :
    Calls Try.prog 49 #[.agg #[.slice A n c, .slice B n d], .slice C m e] w fun e w' => ∃ L bm, Cls (leH f) (leH s) x L ∧ L.length ≤ 1000 ∧ e = .returned (.tuple #[.map (some bm), .bool true]) ∧ Below w.heap.size w w' ∧ w.heap.size ≤ bm ∧ MetN w' bm L := by
  have HZ := hide hz
  have HS := hide hs
  have HT := hide ht.tup
  have HM := hide hm
  have HR := hide hr
  have HF := hide hf
  have hm12 : m ≤ 12 := by rw [← hm]; exact ht.tup.1
  have HBc := hide ((Below.refl _ w).alloc (Nat.le_refl _) (Obj.cells #[Value.slice A n c, Value.slice B n d] 29))
  have HKc := hide (Blk.new w 29 [.slice A n c, .slice B n d])
  clear hz hs ht hm hr hf
  go_enter Try.func49, Try.ntmps49
  have k0 := HKc.out.cell 0 _ rfl
  have k1 := HKc.out.cell 1 _ rfl
  go_upto_region 1 with fail
  go_region_held3 (fun w' => w'.cell? ⟨w.heap.size, 0, none⟩ = some (.slice A n c) ∧ w'.cell? ⟨w.heap.size, 1, none⟩ = some (.slice B n d)) (first | exact ⟨k0, k1⟩ | go_keep) (first | (go_at_call 74; go_must (refine calls_gen fun wc hwc => ?_; (first | have hbx := drew_below hwc | have hbx := eq_below hwc); replace HBc := hide (HBc.out.trans (hbx.mono HBc.out.size)); replace HKc := hide (HKc.out.later hbx); clear hwc hbx; refine (tupleOf_key C m _ x _ HM.out hm12 (HR.out.later HBc.out)).mono ?_; rintro e wd ⟨rfl, hbd⟩; replace HBc := hide (HBc.out.trans (hbd.mono HBc.out.size)); replace HKc := hide (HKc.out.later hbd); clear hbd; have k0 := HKc.out.cell 0 _ rfl; have k1 := HKc.out.cell 1 _ rfl; skip)) | (go_at_call 70; go_must (refine calls_gen fun wc hwc => ?_; (first | have hbx := drew_below hwc | have hbx := eq_below hwc); replace HBc := hide (HBc.out.trans (hbx.mono HBc.out.size)); replace HKc := hide (HKc.out.later hbx); clear hwc hbx; have HSZ := hide HBc.out.size; refine (orbitOf_yes A n c f B d s x m 1000 _ (HZ.out.later HBc.out) HS.out HT.out HM.out (by omega) (by omega) HF.out).mono ?_; rintro e wd ⟨L, bm, hcl, hll, rfl, hbd, hbmw, hme⟩; replace HBc := hide (HBc.out.trans (hbd.mono HBc.out.size)); replace HKc := hide (HKc.out.later hbd); clear hbd; have k0 := HKc.out.cell 0 _ rfl; have k1 := HKc.out.cell 1 _ rfl; have HCL := hide hcl; have HLL := hide hll; have HME := hide hme; have HBM := hide hbmw; have HLO := hide HSZ.out; clear hcl hll hme hbmw)))
  all_goals
    clear k0 k1
    go_wp2_with fail
    go_ret2
    first | exact ⟨_, _, HCL.out, HLL.out, rfl, HBc.out, Nat.le_trans HLO.out HBM.out, HME.out⟩ | exact ⟨_, _, HCL.out, HLL.out, rfl, HBc.out.drew, Nat.le_trans HLO.out HBM.out, MapN.later HME.out ((Below.refl _ _).drew)⟩
set_option maxRecDepth 100000 in
theorem classOf_no (A : Option Addr) (n c : Nat) (f : List (List Int)) (B : Option Addr) (d : Nat) (s : List (List Int)) (C : Option Addr) (m e : Nat) (x : List Int) (w : World) (hz : ZArg 1048576 w A n f B n s) (hs : SolF f s) (ht : Wrd n x) (hm : x.length = m) (hr : Rd w C x) (hf : ¬ FewT (leH f) (leH s) x 1000) :
    Calls Try.prog 49 #[.agg #[.slice A n c, .slice B n d], .slice C m e] w fun e w' => e = .returned (.tuple #[.map none, .bool false]) ∧ Below w.heap.size w w' := by
  have HZ := hide hz
  have HS := hide hs
  have HT := hide ht.tup
  have HM := hide hm
  have HR := hide hr
  have HF := hide hf
  have hm12 : m ≤ 12 := by rw [← hm]; exact ht.tup.1
  have HBc := hide ((Below.refl _ w).alloc (Nat.le_refl _) (Obj.cells #[Value.slice A n c, Value.slice B n d] 29))
  have HKc := hide (Blk.new w 29 [.slice A n c, .slice B n d])
  clear hz hs ht hm hr hf
  go_enter Try.func49, Try.ntmps49
  have k0 := HKc.out.cell 0 _ rfl
  have k1 := HKc.out.cell 1 _ rfl
  go_upto_region 1 with fail
  go_region_held3 (fun w' => w'.cell? ⟨w.heap.size, 0, none⟩ = some (.slice A n c) ∧ w'.cell? ⟨w.heap.size, 1, none⟩ = some (.slice B n d)) (first | exact ⟨k0, k1⟩ | go_keep) (first | (go_at_call 74; go_must (refine calls_gen fun wc hwc => ?_; (first | have hbx := drew_below hwc | have hbx := eq_below hwc); replace HBc := hide (HBc.out.trans (hbx.mono HBc.out.size)); replace HKc := hide (HKc.out.later hbx); clear hwc hbx; refine (tupleOf_key C m _ x _ HM.out hm12 (HR.out.later HBc.out)).mono ?_; rintro e wd ⟨rfl, hbd⟩; replace HBc := hide (HBc.out.trans (hbd.mono HBc.out.size)); replace HKc := hide (HKc.out.later hbd); clear hbd; have k0 := HKc.out.cell 0 _ rfl; have k1 := HKc.out.cell 1 _ rfl; skip)) | (go_at_call 70; go_must (refine calls_gen fun wc hwc => ?_; (first | have hbx := drew_below hwc | have hbx := eq_below hwc); replace HBc := hide (HBc.out.trans (hbx.mono HBc.out.size)); replace HKc := hide (HKc.out.later hbx); clear hwc hbx; refine (orbitOf_no A n c f B d s x m 1000 _ (HZ.out.later HBc.out) HS.out HT.out HM.out (by omega) (by omega) HF.out).mono ?_; rintro e wd ⟨rfl, hbd⟩; replace HBc := hide (HBc.out.trans (hbd.mono HBc.out.size)); replace HKc := hide (HKc.out.later hbd); clear hbd; have k0 := HKc.out.cell 0 _ rfl; have k1 := HKc.out.cell 1 _ rfl; skip)))
  all_goals
    clear k0 k1
    go_wp2_with fail
    go_ret2
    first | exact ⟨rfl, HBc.out⟩ | exact ⟨rfl, HBc.out.drew⟩
end Go.Proofs.Ytbhlcfcmjildmaa
