import Derived.Test.YthkhkehpmolfaaaZbx
import Derived.Test.YthkhkehpmolfaaaZba
import Derived.Test.YthkhkehpmolfaaaZby
import Derived.Test.YthkhkehpmolfaaaZbw
import Derived.Test.YthkhkehpmolfaaaZbj
import Derived.Test.YthkhkehpmolfaaaZbq
import Derived.Deep.Cut
namespace Go.Proofs.Ythkhkehpmolfaaa
open Go Go.RowKit
set_option maxHeartbeats 2000000
theorem cs_sz {f : List (List Int)} {n : Nat} (hn : f.length = n) (h12 : n ≤ 12) : ZSz 1048576 (cs1 f) n (cs2 f) n := by
  have h := grid_sz (n := n) (by omega) (csH1 f) (csH2 f)
  unfold cs1 cs2
  rw [hn]
  simpa [grid_length] using h

set_option maxRecDepth 100000 in
theorem dcI_any (A : Option Addr) (n c : Nat) (f : List (List Int)) (zs : List (List Int)) (code : Int) (k : Nat) (w : World) (hn : f.length = n) (hb : n ≤ 1048576) (hbs : ∀ i, i < f.length → (f.getD i []).length ≤ 1048576) (hr : Rd2 w A f) (hres : DcRes f zs code) (hk : zs.length = k) :
    Calls Try.prog 35 #[.agg #[.slice A n c]] w (fun e w' => ∃ A' c', e = .returned (.tuple #[.agg #[.slice A' k c'], .int .i64 code]) ∧ Below w.heap.size w w' ∧ Obj2 31 2 w.heap.size w'.heap.size w' A' zs) := by
  have HN := hide hn
  have HBS := hide hbs
  have HRD := hide hr
  have HB0 := hide (((Below.refl _ w).alloc (Nat.le_refl _) (Obj.cells #[Value.slice A n c] 27)).alloc (by simp) (Obj.cells #[.slice none 0 0] 27))
  have HK0 := hide ((Blk.new w 27 [.slice A n c]).alloc (Obj.cells #[.slice none 0 0] 27))
  have HR0 : Hid (Blk ((w.alloc (Obj.cells #[Value.slice A n c] 27)).alloc (Obj.cells #[.slice none 0 0] 27)) (w.heap.size + 1) 27 [.slice none 0 0]) := hide (by have h := Blk.new (w.alloc (Obj.cells #[Value.slice A n c] 27)) 27 [.slice none 0 0]; simpa using h)
  rcases hres with ⟨hcy, rfl, rfl⟩ | ⟨hcy, rfl, rfl⟩
  · have hk2 : k = n := by rw [← hk, dualL_len, dcM_len f hcy, hn]
    subst hk2
    clear hn hbs hr hk
    have HCY := hide hcy
    have HTB := hide hcy.tbl
    have h1 : 1 ≤ k := by rw [← HN.out]; exact HTB.out.1
    have h12 : k ≤ 12 := by rw [← HN.out]; exact HTB.out.2.1
    have HCR : Hid (CyRes f true) := hide ⟨fun _ => HCY.out, fun _ => rfl⟩
    clear hcy
    go_enter Try.func35, Try.ntmps35
    have k0 := HK0.out.cell 0 _ rfl
    go_upto_region 1 with fail
    go_wp2_with fail
    refine (tested_any _ _ _ f true _ HN.out hb HBS.out (HRD.out.later HB0.out) HCR.out).mono ?_
    rintro e w1 (⟨_, B, d, rfl, hb1, hiv⟩ | ⟨h, _⟩)
    rotate_left
    · exact absurd h (by simp)
    have HB1 := hide (HB0.out.trans (hb1.mono HB0.out.size))
    have HIV1 : Hid (Rd2 w1 B (dualL f)) := hide (Obj2.rd hiv)
    replace HR0 := hide (HR0.out.later hb1)
    clear hb1 hiv k0
    go_upto_region 4 with fail
    refine wp_gen fun w2 hw2 => ?_
    obtain ⟨P, hP⟩ : ∃ P, w1.heap.size = P := ⟨_, rfl⟩
    have hq : Below w1.heap.size w1 w2 := by rw [hw2]; exact (Below.refl _ _).alloc (Nat.le_refl _) _
    have HBc := hide (HB1.out.trans (hq.mono HB1.out.size))
    have HKc : Hid (Blk w2 P 65 [.slice A k c, .slice B k d]) := hide (by rw [hw2, ← hP]; exact Blk.new _ _ _)
    have HIV := hide (HIV1.out.later hq)
    replace HR0 := hide (HR0.out.later hq)
    rw [hP]
    clear hw2 hq HB1 HIV1 hP
    have k0 := HKc.out.cell 0 _ rfl
    have k1 := HKc.out.cell 1 _ rfl
    go_wp2_with fail
    refine (csolution_any A B k c d f _ ⟨HN.out, HCY.out, HRD.out.later HBc.out, HIV.out⟩).mono ?_
    rintro e w3 ⟨A3, c3, B3, d3, rfl, hb3, hobj⟩
    have HR3 := hide (HR0.out.later hb3)
    have HO3 : Hid (ZArg 1048576 w3 A3 k (cs1 f) B3 k (cs2 f)) := hide ⟨cs_sz HN.out h12, by have h := hobj.fst; unfold cs1; rw [HN.out]; exact h, by have h := hobj.snd; unfold cs2; rw [HN.out]; exact h⟩
    have HB3 := hide (HBc.out.trans (hb3.mono HBc.out.size))
    clear hb3 hobj k0 k1
    go_wp2_with fail
    obtain ⟨zg, hzg⟩ : ∃ zg, grid (cs1 f).length (mir1 (cs1 f)) = zg := ⟨_, rfl⟩
    have HG1 : Hid (grid (cs1 f).length (mir1 (cs2 f)) = dcM f) := hide (by rw [cs1_len, dcM_grid HCY.out])
    have HMR : Hid (MirRes (cs1 f) (cs2 f) (dcM f) zg 0) := hide (.inl ⟨cs_pmap HCY.out, HG1.out.symm, hzg.symm, rfl⟩)
    have HMZ : Hid (ZSz 1048576 (dcM f) k zg k) := hide (by
      have h := grid_sz (n := k) (by omega) (mir1 (cs2 f)) (mir1 (cs1 f))
      rw [← HG1.out, ← hzg, cs1_len, HN.out]
      simpa [grid_length] using h)
    clear hzg
    refine (mirI_any A3 k c3 (cs1 f) B3 k d3 (cs2 f) (dcM f) zg 0 k k _ HO3.out HMR.out HMZ.out).mono ?_
    unfold ZPost
    rintro e w4 ⟨A4, c4, B4, d4, rfl, hb4, hobj⟩
    have HR4 := hide (HR3.out.later hb4)
    have HB4 := hide (HB3.out.trans (hb4.mono HB3.out.size))
    have HD4 := hide hobj.fst
    clear hb4 hobj
    go_upto_region 5 with fail
    refine wp_gen fun w5 hw5 => ?_
    obtain ⟨M, hM⟩ : ∃ M, w4.heap.size = M := ⟨_, rfl⟩
    have hq : Below w4.heap.size w4 w5 := by rw [hw5]; exact (Below.refl _ _).alloc (Nat.le_refl _) _
    have HM5 : Hid (Blk w5 M 41 [.slice A4 k c4, .slice B4 k d4]) := hide (by rw [hw5, ← hM]; exact Blk.new _ _ _)
    have HB5 := hide (HB4.out.trans (hq.mono HB4.out.size))
    have HR5 := hide (HR4.out.later hq)
    have HD5 := hide (HD4.out.later hq)
    rw [hM]
    clear hw5 hq hM
    have k0 := HM5.out.cell 0 _ rfl
    have k1 := HM5.out.cell 1 _ rfl
    go_wp2_with fail
    clear k0 k1
    refine (zcycle_any A4 B4 k c4 k d4 (dcM f) _ ((dcM_len f HCY.out).trans HN.out) (dcM_tbl HCY.out) (dcM_prm HCY.out) HD5.out).mono ?_
    rintro e w9 ⟨A9, c9, rfl, hb9, ho9⟩
    have HB9 := hide (HB5.out.trans (hb9.mono HB5.out.size))
    have HR9 := hide (HR5.out.later hb9)
    have HO9 := hide ho9
    have HLO := hide HB5.out.size
    have HLT := hide HR5.out.lt
    clear hb9 ho9
    have k2 := HR9.out.cell 0 _ rfl
    have k3 := HR9.out.frozen 0
    go_wp2_with fail
    refine bp_gen fun wf hwf => ?_
    obtain ⟨q0, hbf, hof⟩ := kend hwf HR9.out (by omega) HB9.out HO9.out HLO.out HLT.out (Nat.le_refl _)
    clear hwf k2 k3
    exact bodyPost_ret (v := .tuple #[.agg #[.slice A9 k c9], .int .i64 0]) (by simp [results, Try.results35, go_sem, q0]) rfl ⟨_, _, rfl, hbf, hof⟩
  · have hk0 : k = 0 := by rw [← hk]; rfl
    subst hk0
    clear hn hbs hr hk
    have HCR : Hid (CyRes f false) := hide ⟨fun h => (by cases h), fun h => absurd h hcy⟩
    clear hcy
    go_enter Try.func35, Try.ntmps35
    have k0 := HK0.out.cell 0 _ rfl
    go_upto_region 1 with fail
    go_wp2_with fail
    refine (tested_any _ _ _ f false _ HN.out hb HBS.out (HRD.out.later HB0.out) HCR.out).mono ?_
    rintro e w1 (⟨h, _⟩ | ⟨_, rfl, hb1⟩)
    · exact absurd h (by simp)
    have HB1 := hide (HB0.out.trans (hb1.mono HB0.out.size))
    have HR1 := hide (HR0.out.later hb1)
    clear hb1 k0
    go_upto_region 2 with fail
    refine wp_gen fun w2 hw2 => ?_
    have HB2 : Hid (Below w.heap.size w w2) := hide (by rw [hw2]; exact HB1.out.alloc HB1.out.size _)
    have HR2 : Hid (Blk w2 (w.heap.size + 1) 27 [.slice none 0 0]) := hide (by rw [hw2]; exact HR1.out.alloc _)
    clear hw2 HB1 HR1
    have k2 := HR2.out.cell 0 _ rfl
    have k3 := HR2.out.frozen 0
    go_wp2_with fail
    refine bp_gen fun wf hwf => ?_
    have HRF : Blk wf (w.heap.size + 1) 27 [.slice none 0 0] := by rw [hwf]; first | exact HR2.out | exact HR2.out.set 0 _ | exact (HR2.out.set 0 _).set 1 _
    have hbf : Below w.heap.size w wf := by rw [hwf]; first | exact HB2.out | exact HB2.out.setCell (p := ⟨w.heap.size + 1, 0, none⟩) (by show w.heap.size ≤ w.heap.size + 1; omega) _ | exact (HB2.out.setCell (p := ⟨w.heap.size + 1, 0, none⟩) (by show w.heap.size ≤ w.heap.size + 1; omega) _).setCell (p := ⟨w.heap.size + 1, 1, none⟩) (by show w.heap.size ≤ w.heap.size + 1; omega) _
    have q0 := HRF.cell 0 _ rfl
    clear hwf k2 k3
    exact bodyPost_ret (v := .tuple #[.agg #[.slice none 0 0], .int .i64 1]) (by simp [results, Try.results35, go_sem, q0]) rfl ⟨_, _, rfl, hbf, .inl ⟨rfl, rfl⟩⟩

set_option maxRecDepth 100000 in
theorem dcS_any (A : Option Addr) (n c : Nat) (f : List (List Int)) (zs : List (List Int)) (code : Int) (k : Nat) (w : World) (hn : f.length = n) (hb : n ≤ 1048576) (hbs : ∀ i, i < f.length → (f.getD i []).length ≤ 1048576) (hr : Rd2 w A f) (hres : DcRes f zs code) (hk : zs.length = k) :
    Calls Try.prog 34 #[.agg #[.slice A n c]] w (fun e w' => ∃ A' c', e = .returned (.tuple #[.agg #[.slice A' k c'], .int .i64 code]) ∧ Below w.heap.size w w' ∧ Obj2 31 2 w.heap.size w'.heap.size w' A' zs) := by
  have HN := hide hn
  have HBS := hide hbs
  have HRD := hide hr
  have HB0 := hide (((Below.refl _ w).alloc (Nat.le_refl _) (Obj.cells #[Value.slice A n c] 27)).alloc (by simp) (Obj.cells #[.slice none 0 0] 27))
  have HK0 := hide ((Blk.new w 27 [.slice A n c]).alloc (Obj.cells #[.slice none 0 0] 27))
  have HR0 : Hid (Blk ((w.alloc (Obj.cells #[Value.slice A n c] 27)).alloc (Obj.cells #[.slice none 0 0] 27)) (w.heap.size + 1) 27 [.slice none 0 0]) := hide (by have h := Blk.new (w.alloc (Obj.cells #[Value.slice A n c] 27)) 27 [.slice none 0 0]; simpa using h)
  rcases hres with ⟨hcy, rfl, rfl⟩ | ⟨hcy, rfl, rfl⟩
  · have hk2 : k = n := by rw [← hk, dualL_len, dcM_len f hcy, hn]
    subst hk2
    clear hn hbs hr hk
    have HCY := hide hcy
    have HTB := hide hcy.tbl
    have h1 : 1 ≤ k := by rw [← HN.out]; exact HTB.out.1
    have h12 : k ≤ 12 := by rw [← HN.out]; exact HTB.out.2.1
    have HCR : Hid (CyRes f true) := hide ⟨fun _ => HCY.out, fun _ => rfl⟩
    clear hcy
    go_enter Try.func34, Try.ntmps34
    have k0 := HK0.out.cell 0 _ rfl
    go_wp2_with fail
    refine (isCycS _ _ _ f true _ HN.out hb HBS.out (HRD.out.later HB0.out) HCR.out).mono ?_
    rintro e w1 ⟨rfl, hb1⟩
    have HB1 := hide (HB0.out.trans (hb1.mono HB0.out.size))
    have HK1 := hide (HK0.out.later hb1)
    replace HR0 := hide (HR0.out.later hb1)
    clear hb1 k0
    have k0 := HK1.out.cell 0 _ rfl
    go_wp2_with fail
    refine (solS_any A k c f _ HN.out HCY.out (HRD.out.later HB1.out)).mono ?_
    rintro e w3 ⟨A3, c3, B3, d3, rfl, hb3, hobj⟩
    have HR3 := hide (HR0.out.later hb3)
    have HO3 : Hid (ZArg 1048576 w3 A3 k (cs1 f) B3 k (cs2 f)) := hide ⟨cs_sz HN.out h12, by have h := hobj.fst; unfold cs1; rw [HN.out]; exact h, by have h := hobj.snd; unfold cs2; rw [HN.out]; exact h⟩
    have HB3 := hide (HB1.out.trans (hb3.mono HB1.out.size))
    clear hb3 hobj k0
    go_wp2_with fail
    refine (mirrorS_any A3 B3 k c3 d3 (cs1 f) (cs2 f) _ HO3.out (cs_pmap HCY.out)).mono ?_
    rintro e w5 ⟨A4, c4, B4, d4, rfl, hb4, hobj⟩
    have HR5 := hide (HR3.out.later hb4)
    have HB5 := hide (HB3.out.trans (hb4.mono HB3.out.size))
    have HD5 : Hid (Rd2 w5 A4 (dcM f)) := hide hobj.fst
    clear hb4 hobj
    go_wp2_with fail
    refine (cycleS_any A4 B4 k c4 k d4 (dcM f) _ ((dcM_len f HCY.out).trans HN.out) (dcM_tbl HCY.out) (dcM_prm HCY.out) HD5.out).mono ?_
    rintro e w9 ⟨A9, c9, rfl, hb9, ho9⟩
    have HB9 := hide (HB5.out.trans (hb9.mono HB5.out.size))
    have HR9 := hide (HR5.out.later hb9)
    have HO9 := hide ho9
    have HLO := hide HB5.out.size
    have HLT := hide HR5.out.lt
    clear hb9 ho9
    have k2 := HR9.out.cell 0 _ rfl
    have k3 := HR9.out.frozen 0
    go_wp2_with fail
    refine bp_gen fun wf hwf => ?_
    obtain ⟨q0, hbf, hof⟩ := kend hwf HR9.out (by omega) HB9.out HO9.out HLO.out HLT.out (Nat.le_refl _)
    clear hwf k2 k3
    exact bodyPost_ret (v := .tuple #[.agg #[.slice A9 k c9], .int .i64 0]) (by simp [results, Try.results34, go_sem, q0]) rfl ⟨_, _, rfl, hbf, hof⟩
  · have hk0 : k = 0 := by rw [← hk]; rfl
    subst hk0
    clear hn hbs hr hk
    have HCR : Hid (CyRes f false) := hide ⟨fun h => (by cases h), fun h => absurd h hcy⟩
    clear hcy
    go_enter Try.func34, Try.ntmps34
    have k0 := HK0.out.cell 0 _ rfl
    go_wp2_with fail
    refine (isCycS _ _ _ f false _ HN.out hb HBS.out (HRD.out.later HB0.out) HCR.out).mono ?_
    rintro e w1 ⟨rfl, hb1⟩
    have HB1 := hide (HB0.out.trans (hb1.mono HB0.out.size))
    have HK1 := hide (HK0.out.later hb1)
    replace HR0 := hide (HR0.out.later hb1)
    clear hb1 k0
    have k2 := HR0.out.cell 0 _ rfl
    have k3 := HR0.out.frozen 0
    go_wp2_with fail
    refine bp_gen fun wf hwf => ?_
    have HRF : Blk wf (w.heap.size + 1) 27 [.slice none 0 0] := by rw [hwf]; first | exact HR0.out | exact HR0.out.set 0 _ | exact (HR0.out.set 0 _).set 1 _
    have hbf : Below w.heap.size w wf := by rw [hwf]; first | exact HB1.out | exact HB1.out.setCell (p := ⟨w.heap.size + 1, 0, none⟩) (by show w.heap.size ≤ w.heap.size + 1; omega) _ | exact (HB1.out.setCell (p := ⟨w.heap.size + 1, 0, none⟩) (by show w.heap.size ≤ w.heap.size + 1; omega) _).setCell (p := ⟨w.heap.size + 1, 1, none⟩) (by show w.heap.size ≤ w.heap.size + 1; omega) _
    have q0 := HRF.cell 0 _ rfl
    clear hwf k2 k3
    exact bodyPost_ret (v := .tuple #[.agg #[.slice none 0 0], .int .i64 1]) (by simp [results, Try.results34, go_sem, q0]) rfl ⟨_, _, rfl, hbf, .inl ⟨rfl, rfl⟩⟩

end Go.Proofs.Ythkhkehpmolfaaa
