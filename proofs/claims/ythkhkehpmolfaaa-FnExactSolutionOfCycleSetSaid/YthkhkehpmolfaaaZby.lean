import Derived.Test.YthkhkehpmolfaaaZbv
import Derived.Test.YthkhkehpmolfaaaZbs
import Derived.Test.YthkhkehpmolfaaaZi
import Derived.Deep.Cut
namespace Go.Proofs.Ythkhkehpmolfaaa
open Go Go.RowKit
set_option maxHeartbeats 2000000

set_option maxRecDepth 100000 in
theorem clead_any (A B : Option Addr) (n c d : Nat) (f : List (List Int)) (x y : Nat) (w : World) (h : CyHeld w A B n f) (hx : x < n) (hy : y < n) :
    Calls Try.prog 97 #[.agg #[.slice A n c, .slice B n d], .agg #[.int .i64 x, .int .i64 y]] w fun e w' => e = .returned (.agg #[.int .i64 (csH1 f x y), .int .i64 (csH2 f x y)]) ∧ Below w.heap.size w w' := by
  have HC := hide h
  have hs := sol_lt h.cyc.tbl h.cyc.prm h.len hx hy
  unfold csH1 csH2
  obtain ⟨u, hu⟩ : ∃ u, sol f x y = u := ⟨_, rfl⟩
  rw [hu] at hs ⊢
  obtain ⟨v, hv⟩ : ∃ v, ap f u x = v := ⟨_, rfl⟩
  rw [hv]
  have HU := hide hu
  have HV := hide hv
  clear h hu hv
  go_enter Try.func97, Try.ntmps97
  go_upto_region 1 with fail
  refine wp_gen fun w1 hw1 => ?_
  have HBc : Hid (Below w.heap.size w w1) := hide (by rw [hw1]; exact (((Below.refl _ _).alloc (Nat.le_refl _) _).alloc (by simp) _).alloc (by simp; omega) _)
  have HKc : Hid (Blk w1 w.heap.size 65 [.slice A n c, .slice B n d]) := hide (by rw [hw1]; exact ((Blk.new _ _ _).alloc _).alloc _)
  have HPc : Hid (Blk w1 (w.heap.size + 1) 94 [.int .i64 x, .int .i64 y]) := hide (by rw [hw1]; have h := (Blk.new (w.alloc (Obj.cells #[.slice A n c, .slice B n d] 65)) 94 [.int .i64 x, .int .i64 y]).alloc (Obj.cells #[Value.int IntKind.i64 0, Value.int IntKind.i64 0] 94); simpa using h)
  have HRc : Hid (Blk w1 (w.heap.size + 1 + 1) 94 [.int .i64 0, .int .i64 0]) := hide (by rw [hw1]; have h := (Blk.new ((w.alloc (Obj.cells #[.slice A n c, .slice B n d] 65)).alloc (Obj.cells #[Value.int IntKind.i64 x, Value.int IntKind.i64 y] 94)) 94 [.int .i64 0, .int .i64 0]); simpa using h)
  clear hw1
  have k0 := HKc.out.cell 0 _ rfl
  have k1 := HKc.out.cell 1 _ rfl
  have p0 := HPc.out.cell 0 _ rfl
  have p1 := HPc.out.cell 1 _ rfl
  go_wp2_with fail
  refine (solve_any A B n c d f x y _ (HC.out.later HBc.out) hx hy).mono ?_
  rintro e w2 ⟨rfl, hb2⟩
  rw [HU.out]
  replace HBc := hide (HBc.out.trans (hb2.mono HBc.out.size))
  replace HKc := hide (HKc.out.later hb2)
  replace HPc := hide (HPc.out.later hb2)
  replace HRc := hide (HRc.out.later hb2)
  clear hb2 k0 k1 p0 p1
  have k0 := HKc.out.cell 0 _ rfl
  have p0 := HPc.out.cell 0 _ rfl
  go_wp2_with fail
  refine (dot_any _ _ _ f u x v _ HC.out.len HC.out.cyc.tbl (HC.out.rd.later HBc.out) hs hx HV.out).mono ?_
  rintro e w3 ⟨rfl, hb3⟩
  replace HBc := hide (HBc.out.trans (hb3.mono HBc.out.size))
  replace HRc := hide (HRc.out.later hb3)
  clear hb3 k0 p0
  have r0 := HRc.out.cell 0 _ rfl
  have r1 := HRc.out.cell 1 _ rfl
  have f0 := HRc.out.frozen 0
  have f1 := HRc.out.frozen 1
  go_wp2_with fail
  refine bp_gen fun wf hwf => ?_
  have HRF : Blk wf (w.heap.size + 1 + 1) 94 [.int .i64 u, .int .i64 v] := by rw [hwf]; first | exact ((HRc.out.set 0 _).set 1 _) | exact ((HRc.out.set 0 _).set 1 _).drew
  have HBF : Below w.heap.size w wf := by rw [hwf]; first | exact ((HBc.out.setCell (by show w.heap.size ≤ w.heap.size + 1 + 1; omega) _).setCell (by show w.heap.size ≤ w.heap.size + 1 + 1; omega) _) | exact ((HBc.out.setCell (by show w.heap.size ≤ w.heap.size + 1 + 1; omega) _).setCell (by show w.heap.size ≤ w.heap.size + 1 + 1; omega) _).drew
  have q0 := HRF.cell 0 _ rfl
  have q1 := HRF.cell 1 _ rfl
  clear hwf r0 r1 f0 f1
  exact bodyPost_ret (v := .agg #[.int .i64 u, .int .i64 v]) (by simp [results, Try.results97, go_sem, q0, q1]) rfl ⟨rfl, HBF⟩

set_option maxRecDepth 100000 in
theorem csolution_any (A B : Option Addr) (n c d : Nat) (f : List (List Int)) (w : World) (h : CyHeld w A B n f) :
    Calls Try.prog 65 #[.agg #[.slice A n c, .slice B n d]] w fun e w' => ∃ A' c' B' d', e = .returned (.agg #[.slice A' n c', .slice B' n d']) ∧ Below w.heap.size w w' ∧ ObjZ 31 2 w.heap.size w'.heap.size w' A' (grid n (csH1 f)) B' (grid n (csH2 f)) := by
  have h1 : 1 ≤ n := by rw [← h.len]; exact h.cyc.tbl.1
  have h12 : n ≤ 12 := by rw [← h.len]; exact h.cyc.le
  have HC := hide h
  have HB0 := hide (((Below.refl _ w).alloc (Nat.le_refl _) (Obj.cells #[Value.slice A n c, Value.slice B n d] 65)).alloc (by simp) (Obj.cells #[.slice none 0 0, .slice none 0 0] 41))
  have HK0 := hide ((Blk.new w 65 [.slice A n c, .slice B n d]).alloc (Obj.cells #[.slice none 0 0, .slice none 0 0] 41))
  have HR0 : Hid (Blk ((w.alloc (Obj.cells #[Value.slice A n c, Value.slice B n d] 65)).alloc (Obj.cells #[.slice none 0 0, .slice none 0 0] 41)) (w.heap.size + 1) 41 [.slice none 0 0, .slice none 0 0]) := hide (by have h := Blk.new (w.alloc (Obj.cells #[Value.slice A n c, Value.slice B n d] 65)) 41 [.slice none 0 0, .slice none 0 0]; simpa using h)
  clear h
  go_enter Try.func65, Try.ntmps65
  go_upto_region 1 with fail
  refine wp_gen fun w0 hw0 => ?_
  have HBc : Hid (Below w.heap.size w w0) := hide (by rw [hw0]; exact HB0.out)
  have HKc : Hid (Blk w0 w.heap.size 65 [.slice A n c, .slice B n d]) := hide (by rw [hw0]; exact HK0.out)
  have HRc : Hid (Blk w0 (w.heap.size + 1) 41 [.slice none 0 0, .slice none 0 0]) := hide (by rw [hw0]; exact HR0.out)
  clear hw0
  have k0 := HKc.out.cell 0 _ rfl
  have k1 := HKc.out.cell 1 _ rfl
  have r0 := HRc.out.cell 0 _ rfl
  have r1 := HRc.out.cell 1 _ rfl
  have f0 := HRc.out.frozen 0
  have f1 := HRc.out.frozen 1
  have n0 : w.heap.size + 1 ≠ w.heap.size := by omega
  have n1 := n0.symm
  go_wp2_with fail
  go_region_held3 (fun w' => w'.cell? ⟨w.heap.size, 0, none⟩ = some (.slice A n c) ∧ w'.cell? ⟨w.heap.size, 1, none⟩ = some (.slice B n d)) (first | exact ⟨k0, k1⟩ | go_keep) (first | (go_at_call 62; go_must (refine calls_gen fun wc hwc => ?_; (first | have hbx := drew_below hwc | have hbx := eq_below hwc); replace HBc := hide (HBc.out.trans (hbx.mono HBc.out.size)); replace HKc := hide (HKc.out.later hbx); replace HRc := hide (HRc.out.later hbx); clear hwc hbx; refine (dsize_any _ _ _ _ (by omega)).mono ?_; rintro e wd ⟨rfl, hbd⟩; replace HBc := hide (HBc.out.trans (hbd.mono HBc.out.size)); replace HKc := hide (HKc.out.later hbd); replace HRc := hide (HRc.out.later hbd); clear hbd; have k0 := HKc.out.cell 0 _ rfl; have k1 := HKc.out.cell 1 _ rfl; have r0 := HRc.out.cell 0 _ rfl; have r1 := HRc.out.cell 1 _ rfl; have f0 := HRc.out.frozen 0; have f1 := HRc.out.frozen 1)) | (go_at_call 96; go_must (refine calls_gen fun wc hwc => ?_; (first | have hbx := drew_below hwc | have hbx := eq_below hwc); replace HBc := hide (HBc.out.trans (hbx.mono HBc.out.size)); replace HKc := hide (HKc.out.later hbx); replace HRc := hide (HRc.out.later hbx); clear hwc hbx; refine (pmp_any 97 (.agg #[.slice A n c, .slice B n d]) n (csH1 f) (csH2 f) _ (enters_of Try.func97 (by kernel_rfl) rfl) h1 h12 (fun W x y hx hy hbe => clead_any _ _ _ _ _ f x y W (HC.out.later (HBc.out.trans (hbe.mono HBc.out.size))) hx hy)).mono ?_; rintro e wd ⟨A3, c3, B3, d3, rfl, hbd, hobj⟩; have HSZ := hide HRc.out.lt; have HLO := hide HBc.out.size; have HO := hide (hobj); clear hobj; replace HBc := hide (HBc.out.trans (hbd.mono HBc.out.size)); replace HKc := hide (HKc.out.later hbd); replace HRc := hide (HRc.out.later hbd); clear hbd; have k0 := HKc.out.cell 0 _ rfl; have k1 := HKc.out.cell 1 _ rfl; have r0 := HRc.out.cell 0 _ rfl; have r1 := HRc.out.cell 1 _ rfl; have f0 := HRc.out.frozen 0; have f1 := HRc.out.frozen 1)))
  all_goals
    clear k0 k1 r0 r1 f0 f1
    go_wp2_with fail
    refine bp_gen fun wf hwf => ?_
    obtain ⟨q0, q1, hbf, hof⟩ := zend hwf HRc.out (by omega) HSZ.out HBc.out HLO.out HO.out
    clear hwf
    exact bodyPost_ret (v := .agg #[.slice A3 n c3, .slice B3 n d3]) (by simp [results, Try.results65, go_sem, q0, q1]) rfl ⟨_, _, _, _, rfl, hbf, hof⟩

set_option maxRecDepth 100000 in
theorem csoI_any (A : Option Addr) (n c : Nat) (f : List (List Int)) (zf zg : List (List Int)) (code : Int) (k kw : Nat) (w : World) (hn : f.length = n) (hb : n ≤ 1048576) (hbs : ∀ i, i < f.length → (f.getD i []).length ≤ 1048576) (hr : Rd2 w A f) (hres : CsoRes f zf zg code) (hk : ZSz 1048576 zf k zg kw) :
    Calls Try.prog 30 #[.agg #[.slice A n c]] w (fun e w' => ∃ A' c' B' d', e = .returned (.tuple #[.agg #[.slice A' k c', .slice B' kw d'], .int .i64 code]) ∧ Below w.heap.size w w' ∧ ObjZ 31 2 w.heap.size w'.heap.size w' A' zf B' zg) := by
  have HN := hide hn
  have HBS := hide hbs
  have HRD := hide hr
  have HB0 := hide (((Below.refl _ w).alloc (Nat.le_refl _) (Obj.cells #[Value.slice A n c] 27)).alloc (by simp) (Obj.cells #[.slice none 0 0, .slice none 0 0] 41))
  have HK0 := hide ((Blk.new w 27 [.slice A n c]).alloc (Obj.cells #[.slice none 0 0, .slice none 0 0] 41))
  have HR0 : Hid (Blk ((w.alloc (Obj.cells #[Value.slice A n c] 27)).alloc (Obj.cells #[.slice none 0 0, .slice none 0 0] 41)) (w.heap.size + 1) 41 [.slice none 0 0, .slice none 0 0]) := hide (by have h := Blk.new (w.alloc (Obj.cells #[Value.slice A n c] 27)) 41 [.slice none 0 0, .slice none 0 0]; simpa using h)
  rcases hres with ⟨hcy, rfl, rfl, rfl⟩ | ⟨hcy, rfl, rfl, rfl⟩
  · have hk1 : k = n := by rw [← hk.fl, grid_length, hn]
    have hk2 : kw = n := by rw [← hk.sl, grid_length, hn]
    subst hk1
    subst hk2
    rw [hn]
    clear hn hbs hr hk
    have HCY := hide hcy
    have HTB := hide hcy.tbl
    have h1 : 1 ≤ kw := by rw [← HN.out]; exact HTB.out.1
    have h12 : kw ≤ 12 := by rw [← HN.out]; exact HTB.out.2.1
    have HCR : Hid (CyRes f true) := hide ⟨fun _ => HCY.out, fun _ => rfl⟩
    clear hcy
    go_enter Try.func30, Try.ntmps30
    have k0 := HK0.out.cell 0 _ rfl
    go_upto_region 1 with fail
    go_wp2_with fail
    refine (tested_any _ _ _ f true _ HN.out hb HBS.out (HRD.out.later HB0.out) HCR.out).mono ?_
    rintro e w1 (⟨_, B, d, rfl, hb1, hiv⟩ | ⟨h, _⟩)
    rotate_left
    · exact absurd h (by simp)
    have HB1 := hide (HB0.out.trans (hb1.mono HB0.out.size))
    have HIV1 : Hid (Rd2 w1 B (dualL f)) := hide (Obj2.rd hiv)
    replace HR0 := hide (HR0.out.later hb1)
    clear hb1 hiv k0
    go_upto_region 4 with fail
    refine wp_gen fun w2 hw2 => ?_
    obtain ⟨P, hP⟩ : ∃ P, w1.heap.size = P := ⟨_, rfl⟩
    have hq : Below w1.heap.size w1 w2 := by rw [hw2]; exact (Below.refl _ _).alloc (Nat.le_refl _) _
    have HBc := hide (HB1.out.trans (hq.mono HB1.out.size))
    have HKc : Hid (Blk w2 P 65 [.slice A kw c, .slice B kw d]) := hide (by rw [hw2, ← hP]; exact Blk.new _ _ _)
    have HIV := hide (HIV1.out.later hq)
    replace HR0 := hide (HR0.out.later hq)
    rw [hP]
    clear hw2 hq HB1 HIV1 hP
    have k0 := HKc.out.cell 0 _ rfl
    have k1 := HKc.out.cell 1 _ rfl
    go_wp2_with fail
    refine (csolution_any A B kw c d f _ ⟨HN.out, HCY.out, HRD.out.later HBc.out, HIV.out⟩).mono ?_
    rintro e w3 ⟨A3, c3, B3, d3, rfl, hb3, hobj⟩
    have HR3 := hide (HR0.out.later hb3)
    have HO := hide hobj
    have HLT := hide HR0.out.lt
    have HLO := hide HBc.out.size
    have HB3 := hide (HBc.out.trans (hb3.mono HBc.out.size))
    clear hb3 hobj k0 k1
    have k2 := HR3.out.cell 0 _ rfl
    have k3 := HR3.out.cell 1 _ rfl
    have k4 := HR3.out.frozen 0
    have k5 := HR3.out.frozen 1
    go_wp2_with fail
    refine bp_gen fun wf hwf => ?_
    obtain ⟨q0, q1, hbf, hof⟩ := zend hwf HR3.out (by omega) HLT.out HB3.out HLO.out HO.out
    clear hwf k2 k3 k4 k5
    exact bodyPost_ret (v := .tuple #[.agg #[.slice A3 kw c3, .slice B3 kw d3], .int .i64 0]) (by simp [results, Try.results30, go_sem, q0, q1]) rfl ⟨_, _, _, _, rfl, hbf, hof⟩
  · have hk1 : k = 0 := by rw [← hk.fl]; rfl
    have hk2 : kw = 0 := by rw [← hk.sl]; rfl
    subst hk1
    subst hk2
    clear hn hbs hr hk
    have HCR : Hid (CyRes f false) := hide ⟨fun h => (by cases h), fun h => absurd h hcy⟩
    clear hcy
    go_enter Try.func30, Try.ntmps30
    have k0 := HK0.out.cell 0 _ rfl
    go_upto_region 1 with fail
    go_wp2_with fail
    refine (tested_any _ _ _ f false _ HN.out hb HBS.out (HRD.out.later HB0.out) HCR.out).mono ?_
    rintro e w1 (⟨h, _⟩ | ⟨_, rfl, hb1⟩)
    · exact absurd h (by simp)
    have HB1 := hide (HB0.out.trans (hb1.mono HB0.out.size))
    have HR1 := hide (HR0.out.later hb1)
    clear hb1 k0
    go_upto_region 2 with fail
    refine wp_gen fun w2 hw2 => ?_
    have HB2 : Hid (Below w.heap.size w w2) := hide (by rw [hw2]; exact HB1.out.alloc HB1.out.size _)
    have HR2 : Hid (Blk w2 (w.heap.size + 1) 41 [.slice none 0 0, .slice none 0 0]) := hide (by rw [hw2]; exact HR1.out.alloc _)
    clear hw2 HB1 HR1
    have k2 := HR2.out.cell 0 _ rfl
    have k3 := HR2.out.frozen 0
    have k4 := HR2.out.cell 1 _ rfl
    have k5 := HR2.out.frozen 1
    go_wp2_with fail
    refine bp_gen fun wf hwf => ?_
    have HRF : Blk wf (w.heap.size + 1) 41 [.slice none 0 0, .slice none 0 0] := by rw [hwf]; first | exact HR2.out | exact HR2.out.set 0 _ | exact (HR2.out.set 0 _).set 1 _
    have hbf : Below w.heap.size w wf := by rw [hwf]; first | exact HB2.out | exact HB2.out.setCell (p := ⟨w.heap.size + 1, 0, none⟩) (by show w.heap.size ≤ w.heap.size + 1; omega) _ | exact (HB2.out.setCell (p := ⟨w.heap.size + 1, 0, none⟩) (by show w.heap.size ≤ w.heap.size + 1; omega) _).setCell (p := ⟨w.heap.size + 1, 1, none⟩) (by show w.heap.size ≤ w.heap.size + 1; omega) _
    have q0 := HRF.cell 0 _ rfl
    have q1 := HRF.cell 1 _ rfl
    clear hwf k2 k3
    exact bodyPost_ret (v := .tuple #[.agg #[.slice none 0 0, .slice none 0 0], .int .i64 1]) (by simp [results, Try.results30, go_sem, q0, q1]) rfl ⟨_, _, _, _, rfl, hbf, ObjZ.empty hbf.size⟩
end Go.Proofs.Ythkhkehpmolfaaa
