import Derived.Test.YthkhkehpmolfaaaZax
import Derived.Test.YthkhkehpmolfaaaZar
import Derived.Test.YthkhkehpmolfaaaZm
import Derived.Test.YthkhkehpmolfaaaZbe
import Derived.Test.YthkhkehpmolfaaaZau
import Derived.Test.YthkhkehpmolfaaaZi
namespace Go.Proofs.Ythkhkehpmolfaaa
open Go Go.RowKit
set_option maxHeartbeats 1000000

theorem swapped_any (x y : Int) (w : World) :
    Calls Try.prog 104 #[.agg #[.int .i64 x, .int .i64 y]] w fun e w' => e = .returned (.agg #[.int .i64 y, .int .i64 x]) ∧ Below w.heap.size w w' := by
  go_enter Try.func104, Try.ntmps104
  go_wp2_with fail
  refine bp_gen fun wf hwf => ?_
  have HRF : Blk wf (w.heap.size + 1) 94 [.int .i64 y, .int .i64 x] := by rw [hwf]; have h := Blk.new (w.alloc (Obj.cells #[Value.int IntKind.i64 x, Value.int IntKind.i64 y] 94)) 94 [.int .i64 y, .int .i64 x]; simpa using h
  have HBF : Below w.heap.size w wf := by rw [hwf]; exact ((Below.refl _ _).alloc (Nat.le_refl _) _).alloc (by simp) _
  have q0 := HRF.cell 0 _ rfl
  have q1 := HRF.cell 1 _ rfl
  clear hwf
  exact bodyPost_ret (v := .agg #[.int .i64 y, .int .i64 x]) (by simp [results, Try.results104, go_sem, q0, q1]) rfl ⟨rfl, HBF⟩

set_option maxRecDepth 100000 in
theorem mirC_any (A : Option Addr) (n c : Nat) (f : List (List Int)) (B : Option Addr) (m d : Nat) (s : List (List Int)) (b : Nat) (w : World) (hz : ZArg 1048576 w A n f B m s) (hp : PMap f s) (hk : Blk w b 41 [.slice A n c, .slice B m d]) :
    PairFn Try.prog 102 #[.pointer (some ⟨b, 0, none⟩)] n (mir1 s) (mir1 f) w := by
  intro W x y hx hy hb
  have HZ := hide (hz.later hb)
  have HK := hide (hk.later hb)
  have HP := hide hp
  have hbW : b < W.heap.size := HK.out.lt
  clear hz hp hk hb
  show Calls Try.prog 102 #[.agg #[.int .i64 x, .int .i64 y], .pointer (some ⟨b, 0, none⟩)] W _
  unfold mir1
  go_enter Try.func102, Try.ntmps102
  go_wp2_with fail
  refine wp_gen fun w1 hw1 => ?_
  have hb1 : Below W.heap.size W w1 := by rw [hw1]; exact ((Below.refl _ _).alloc (Nat.le_refl _) _).alloc (by simp) _
  have HQ : Hid (Blk w1 W.heap.size 94 [.int .i64 x, .int .i64 y]) := hide (by rw [hw1]; exact (Blk.new _ _ _).alloc _)
  have HR : Hid (Blk w1 (W.heap.size + 1) 94 [.int .i64 0, .int .i64 0]) := hide (by rw [hw1]; have h := Blk.new (W.alloc (Obj.cells #[Value.int IntKind.i64 x, Value.int IntKind.i64 y] 94)) 94 [.int .i64 0, .int .i64 0]; simpa using h)
  have HBc := hide hb1
  replace HZ := hide (HZ.out.later hb1)
  replace HK := hide (HK.out.later hb1)
  clear hw1 hb1
  have k0 := HK.out.cell 0 _ rfl
  have k1 := HK.out.cell 1 _ rfl
  have k2 := HQ.out.cell 0 _ rfl
  have k3 := HQ.out.cell 1 _ rfl
  have k4 := HR.out.cell 0 _ rfl
  have k5 := HR.out.cell 1 _ rfl
  have k6 := HR.out.frozen 0
  have k7 := HR.out.frozen 1
  have j1 : W.heap.size + 1 ≠ b := by omega
  have j2 := j1.symm
  go_region_held3 (fun w' => w'.cell? ⟨b, 0, none⟩ = some (.slice A n c) ∧ w'.cell? ⟨b, 1, none⟩ = some (.slice B m d) ∧ w'.cell? ⟨W.heap.size, 0, none⟩ = some (.int .i64 x) ∧ w'.cell? ⟨W.heap.size, 1, none⟩ = some (.int .i64 y)) (first | exact ⟨k0, k1, k2, k3⟩ | go_keep) (first | (go_at_call 104; go_must (refine calls_gen fun wc hwc => ?_; (first | have hbx := drew_below hwc | have hbx := eq_below hwc); replace HBc := hide (HBc.out.trans (hbx.mono HBc.out.size)); replace HZ := hide (HZ.out.later hbx); replace HK := hide (HK.out.later hbx); replace HQ := hide (HQ.out.later hbx); replace HR := hide (HR.out.later hbx); clear hwc hbx; refine (swapped_any _ _ _).mono ?_; rintro e wd ⟨rfl, hbd⟩; replace HBc := hide (HBc.out.trans (hbd.mono HBc.out.size)); replace HZ := hide (HZ.out.later hbd); replace HK := hide (HK.out.later hbd); replace HQ := hide (HQ.out.later hbd); replace HR := hide (HR.out.later hbd); clear hbd; have k0 := HK.out.cell 0 _ rfl; have k1 := HK.out.cell 1 _ rfl; have k2 := HQ.out.cell 0 _ rfl; have k3 := HQ.out.cell 1 _ rfl; have k4 := HR.out.cell 0 _ rfl; have k5 := HR.out.cell 1 _ rfl; have k6 := HR.out.frozen 0; have k7 := HR.out.frozen 1)) | (go_at_call 103; go_must (refine calls_gen fun wc hwc => ?_; (first | have hbx := drew_below hwc | have hbx := eq_below hwc); replace HBc := hide (HBc.out.trans (hbx.mono HBc.out.size)); replace HZ := hide (HZ.out.later hbx); replace HK := hide (HK.out.later hbx); replace HQ := hide (HQ.out.later hbx); replace HR := hide (HR.out.later hbx); clear hwc hbx; refine (lead_any _ _ _ f _ _ _ s y x _ HZ.out HP.out hy hx).mono ?_; rintro e wd ⟨rfl, hbd⟩; replace HBc := hide (HBc.out.trans (hbd.mono HBc.out.size)); replace HZ := hide (HZ.out.later hbd); replace HK := hide (HK.out.later hbd); replace HQ := hide (HQ.out.later hbd); replace HR := hide (HR.out.later hbd); clear hbd; have k0 := HK.out.cell 0 _ rfl; have k1 := HK.out.cell 1 _ rfl; have k2 := HQ.out.cell 0 _ rfl; have k3 := HQ.out.cell 1 _ rfl; have k4 := HR.out.cell 0 _ rfl; have k5 := HR.out.cell 1 _ rfl; have k6 := HR.out.frozen 0; have k7 := HR.out.frozen 1)))
  clear j1 j2
  go_wp2_with fail
  refine bp_gen fun wf hwf => ?_
  have HRF : Blk wf (W.heap.size + 1) 94 [.int .i64 (ap s y x : Nat), .int .i64 (ap f y x : Nat)] := by rw [hwf]; exact ((HR.out.set 0 _).set 1 _)
  have HBF : Below W.heap.size W wf := by rw [hwf]; exact (HBc.out.setCell (p := ⟨W.heap.size + 1, 0, none⟩) (by show W.heap.size ≤ W.heap.size + 1; omega) _).setCell (p := ⟨W.heap.size + 1, 1, none⟩) (by show W.heap.size ≤ W.heap.size + 1; omega) _
  have q0 := HRF.cell 0 _ rfl
  have q1 := HRF.cell 1 _ rfl
  clear hwf k0 k1 k2 k3 k4 k5 k6 k7
  exact bodyPost_ret (v := .agg #[.int .i64 (ap s y x : Nat), .int .i64 (ap f y x : Nat)]) (by simp [results, Try.results102, go_sem, q0, q1]) rfl ⟨rfl, HBF⟩

set_option maxRecDepth 100000 in
theorem mirI_any (A : Option Addr) (n c : Nat) (f : List (List Int)) (B : Option Addr) (m d : Nat) (s : List (List Int)) (zf zg : List (List Int)) (code : Int) (kz kw : Nat) (w : World) (hz : ZArg 1048576 w A n f B m s) (hr : MirRes f s zf zg code) (hk : ZSz 1048576 zf kz zg kw) :
    Calls Try.prog 69 #[.agg #[.slice A n c, .slice B m d]] w (ZPost 31 2 kz kw zf zg code w) := by
  have hnb := hz.sz.nb
  have HZ := hide hz
  have HFL := hide hz.sz.fl
  rcases hr with ⟨hp, rfl, rfl, rfl⟩ | ⟨hp, rfl, rfl, rfl⟩
  · have HP := hide hp
    have h12 := hz.small hp
    obtain rfl : kz = n := by rw [← hk.fl, grid_length, HFL.out]
    obtain rfl : kw = kz := by rw [← hk.sl, grid_length, HFL.out]
    clear hp hz hk
    go_enter Try.func69, Try.ntmps69
    go_wp2_with fail
    refine calls_gen fun w0 hw0 => ?_
    have hb0 : Below w.heap.size w w0 := by rw [hw0]; exact ((Below.refl _ _).alloc (Nat.le_refl _) _).alloc (by simp) _
    have HB0 := hide hb0
    have HK0 : Hid (Blk w0 w.heap.size 41 [.slice A kw c, .slice B m d]) := hide (by rw [hw0]; exact (Blk.new _ _ _).alloc _)
    have HR0 : Hid (Blk w0 (w.heap.size + 1) 41 [.slice none 0 0, .slice none 0 0]) := hide (by rw [hw0]; have h := Blk.new (w.alloc (Obj.cells #[Value.slice A kw c, Value.slice B m d] 41)) 41 [.slice none 0 0, .slice none 0 0]; simpa using h)
    clear hw0 hb0
    refine (mapI_any _ _ _ f _ _ _ s true _ (HZ.out.later HB0.out) (by simp [HP.out])).mono ?_
    rintro e w1 ⟨rfl, hb1⟩
    have HB1 := hide (HB0.out.trans (hb1.mono HB0.out.size))
    have HK1 := hide (HK0.out.later hb1)
    have HR1 := hide (HR0.out.later hb1)
    have k0 := HK1.out.cell 0 _ rfl
    have k1 := HK1.out.cell 1 _ rfl
    clear hb1
    go_wp2_with fail
    refine (size_any _ _ _ _ _ _ _ hnb).mono ?_
    rintro e w2 ⟨rfl, hb2⟩
    have HB2 := hide (HB1.out.trans (hb2.mono HB1.out.size))
    have HK2 := hide (HK1.out.later hb2)
    have HR2 := hide (HR1.out.later hb2)
    have k0 := HK2.out.cell 0 _ rfl
    have k1 := HK2.out.cell 1 _ rfl
    clear hb2
    go_wp2_with fail
    refine (pmo_any 102 _ _ (mir1 s) (mir1 f) _ (enters_of Try.func102 (by kernel_rfl) rfl) h12.1 h12.2 (mirC_any _ _ _ f _ _ _ s w.heap.size _ (HZ.out.later HB2.out) HP.out HK2.out)).mono ?_
    rintro e w3 ⟨A3, c3, B3, d3, rfl, hb3, ho3⟩
    have HB3 := hide (HB2.out.trans (hb3.mono HB2.out.size))
    have HR3 := hide (HR2.out.later hb3)
    have HO3 := hide ho3
    have HRL := hide HR2.out.lt
    have k2 := HR3.out.cell 0 _ rfl
    have k3 := HR3.out.cell 1 _ rfl
    have k4 := HR3.out.frozen 0
    have k5 := HR3.out.frozen 1
    clear hb3 ho3
    go_wp2_with fail
    refine bp_gen fun wf hwf => ?_
    obtain ⟨q0, q1, hbf, hof⟩ := zend hwf HR3.out (by omega) HRL.out HB3.out HB2.out.size HO3.out
    clear hwf k0 k1 k2 k3 k4 k5
    rw [HFL.out]
    exact bodyPost_ret (v := .tuple #[.agg #[.slice A3 kw c3, .slice B3 kw d3], .int .i64 0]) (by simp [results, Try.results69, go_sem, q0, q1]) rfl ⟨_, _, _, _, rfl, hbf, hof⟩
  · have HP := hide hp
    obtain rfl : kz = 0 := by simpa using hk.fl.symm
    obtain rfl : kw = 0 := by simpa using hk.sl.symm
    clear hp hz hk
    go_enter Try.func69, Try.ntmps69
    go_wp2_with fail
    refine calls_gen fun w0 hw0 => ?_
    have hb0 : Below w.heap.size w w0 := by rw [hw0]; exact ((Below.refl _ _).alloc (Nat.le_refl _) _).alloc (by simp) _
    have HB0 := hide hb0
    have HR0 : Hid (Blk w0 (w.heap.size + 1) 41 [.slice none 0 0, .slice none 0 0]) := hide (by rw [hw0]; have h := Blk.new (w.alloc (Obj.cells #[Value.slice A n c, Value.slice B m d] 41)) 41 [.slice none 0 0, .slice none 0 0]; simpa using h)
    clear hw0 hb0
    refine (mapI_any _ _ _ f _ _ _ s false _ (HZ.out.later HB0.out) (by simp [HP.out])).mono ?_
    rintro e w1 ⟨rfl, hb1⟩
    have HB1 := hide (HB0.out.trans (hb1.mono HB0.out.size))
    have HR1 := hide (HR0.out.later hb1)
    have k2 := HR1.out.cell 0 _ rfl
    have k3 := HR1.out.cell 1 _ rfl
    have k4 := HR1.out.frozen 0
    have k5 := HR1.out.frozen 1
    clear hb1
    go_wp2_with fail
    refine bp_gen fun wf hwf => ?_
    obtain ⟨q0, q1, hbf, hof⟩ := zend (ts := 31) (t := 2) (w2 := w1) hwf HR1.out (by omega) HR1.out.lt HB1.out HB1.out.size (ObjZ.empty (Nat.le_refl _))
    clear hwf k2 k3 k4 k5
    exact bodyPost_ret (v := .tuple #[.agg #[.slice none 0 0, .slice none 0 0], .int .i64 1]) (by simp [results, Try.results69, go_sem, q0, q1]) rfl ⟨_, _, _, _, rfl, hbf, hof⟩
end Go.Proofs.Ythkhkehpmolfaaa
