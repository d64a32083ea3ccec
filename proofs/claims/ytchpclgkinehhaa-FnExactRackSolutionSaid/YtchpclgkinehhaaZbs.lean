import Derived.Test.YtchpclgkinehhaaZbi
import Derived.Test.YtchpclgkinehhaaZs
import Derived.Test.YtchpclgkinehhaaZbg
import Derived.Test.YtchpclgkinehhaaZab
import Derived.Test.YtchpclgkinehhaaZax
namespace Go.Proofs.Ytchpclgkinehhaa
open Go Go.RowKit
set_option maxHeartbeats 2000000

set_option maxRecDepth 100000 in
theorem klead_any (A : Option Addr) (n c : Nat) (f : List (List Int)) (x y u : Nat) (w : World) (hn : f.length = n) (ht : Tbl f) (hr : Rd2 w A f) (hx : x < n) (hy : y < n) (hu : ap f x y = u) :
    Calls Try.prog 102 #[.agg #[.slice A n c], .agg #[.int .i64 x, .int .i64 y]] w fun e w' => e = .returned (.agg #[.int .i64 u, .int .i64 x]) ∧ Below w.heap.size w w' := by
  have HN := hide hn
  have HTB := hide ht
  have HR := hide hr
  have HU := hide hu
  clear hn ht hr hu
  go_enter Try.func102, Try.ntmps102
  go_wp2_with fail
  refine wp_gen fun w1 hw1 => ?_
  have HBc : Hid (Below w.heap.size w w1) := hide (by rw [hw1]; exact (((Below.refl _ _).alloc (Nat.le_refl _) _).alloc (by simp) _).alloc (by simp; omega) _)
  have HKc : Hid (Blk w1 w.heap.size 27 [.slice A n c]) := hide (by rw [hw1]; exact ((Blk.new _ _ _).alloc _).alloc _)
  have HPc : Hid (Blk w1 (w.heap.size + 1) 87 [.int .i64 x, .int .i64 y]) := hide (by rw [hw1]; have h := (Blk.new (w.alloc (Obj.cells #[.slice A n c] 27)) 87 [.int .i64 x, .int .i64 y]).alloc (Obj.cells #[Value.int IntKind.i64 0, Value.int IntKind.i64 0] 87); simpa using h)
  have HRc : Hid (Blk w1 (w.heap.size + 1 + 1) 87 [.int .i64 0, .int .i64 0]) := hide (by rw [hw1]; have h := (Blk.new ((w.alloc (Obj.cells #[.slice A n c] 27)).alloc (Obj.cells #[Value.int IntKind.i64 x, Value.int IntKind.i64 y] 87)) 87 [.int .i64 0, .int .i64 0]); simpa using h)
  clear hw1
  have k0 := HKc.out.cell 0 _ rfl
  have p0 := HPc.out.cell 0 _ rfl
  have p1 := HPc.out.cell 1 _ rfl
  have r0 := HRc.out.cell 0 _ rfl
  have r1 := HRc.out.cell 1 _ rfl
  have f0 := HRc.out.frozen 0
  have f1 := HRc.out.frozen 1
  have k1 : w.heap.size + 1 + 1 ≠ w.heap.size := by omega
  have k2 : w.heap.size + 1 + 1 ≠ w.heap.size + 1 := by omega
  have j1 := k1.symm
  have j2 := k2.symm
  go_region_held3 (fun w' => w'.cell? ⟨w.heap.size, 0, none⟩ = some (.slice A n c) ∧ w'.cell? ⟨w.heap.size + 1, 0, none⟩ = some (.int .i64 x) ∧ w'.cell? ⟨w.heap.size + 1, 1, none⟩ = some (.int .i64 y)) (first | exact ⟨k0, p0, p1⟩ | go_keep) (first | (go_at_call 95; go_must (refine calls_gen fun wc hwc => ?_; (first | have hbx := drew_below hwc | have hbx := eq_below hwc); replace HBc := hide (HBc.out.trans (hbx.mono HBc.out.size)); replace HKc := hide (HKc.out.later hbx); replace HPc := hide (HPc.out.later hbx); replace HRc := hide (HRc.out.later hbx); clear hwc hbx; refine (act_any _ _ _ f x y u _ HN.out HTB.out (HR.out.later HBc.out) hx hy HU.out).mono ?_; rintro e wd ⟨rfl, hbd⟩; replace HBc := hide (HBc.out.trans (hbd.mono HBc.out.size)); replace HKc := hide (HKc.out.later hbd); replace HPc := hide (HPc.out.later hbd); replace HRc := hide (HRc.out.later hbd); clear hbd; have k0 := HKc.out.cell 0 _ rfl; have p0 := HPc.out.cell 0 _ rfl; have p1 := HPc.out.cell 1 _ rfl; have r0 := HRc.out.cell 0 _ rfl; have r1 := HRc.out.cell 1 _ rfl; have f0 := HRc.out.frozen 0; have f1 := HRc.out.frozen 1)))
  clear k1 k2 j1 j2 k0 p0 p1 r0 r1 f0 f1
  go_wp2_with fail
  refine bp_gen fun wf hwf => ?_
  have HRF : Blk wf (w.heap.size + 1 + 1) 87 [.int .i64 u, .int .i64 x] := by rw [hwf]; first | exact ((HRc.out.set 0 _).set 1 _) | exact ((HRc.out.set 0 _).set 1 _).drew
  have HBF : Below w.heap.size w wf := by rw [hwf]; first | exact ((HBc.out.setCell (by show w.heap.size ≤ w.heap.size + 1 + 1; omega) _).setCell (by show w.heap.size ≤ w.heap.size + 1 + 1; omega) _) | exact ((HBc.out.setCell (by show w.heap.size ≤ w.heap.size + 1 + 1; omega) _).setCell (by show w.heap.size ≤ w.heap.size + 1 + 1; omega) _).drew
  have q0 := HRF.cell 0 _ rfl
  have q1 := HRF.cell 1 _ rfl
  clear hwf
  exact bodyPost_ret (v := .agg #[.int .i64 u, .int .i64 x]) (by simp [results, Try.results102, go_sem, q0, q1]) rfl ⟨rfl, HBF⟩

set_option maxRecDepth 100000 in
theorem ksolution_any (A : Option Addr) (n c : Nat) (f : List (List Int)) (w : World) (hn : f.length = n) (ht : Tbl f) (hr : Rd2 w A f) :
    Calls Try.prog 68 #[.agg #[.slice A n c]] w fun e w' => ∃ A' c' B' d', e = .returned (.agg #[.slice A' n c', .slice B' n d']) ∧ Below w.heap.size w w' ∧ ObjZ 31 2 w.heap.size w'.heap.size w' A' f B' (sndG f) := by
  have h1 : 1 ≤ n := by rw [← hn]; exact ht.1
  have h12 : n ≤ 12 := by rw [← hn]; exact ht.2.1
  have HN := hide hn
  have HTB := hide ht
  have HR := hide hr
  have HG1 : Hid (grid n (fun x y => ((ap f x y : Nat) : Int)) = f) := hide (by have h := fstG_self ht; unfold fstG at h; rw [hn] at h; exact h)
  have HG2 : Hid (grid n (fun x _ => (x : Int)) = sndG f) := hide (by unfold sndG; rw [hn])
  have HB0 := hide (((Below.refl _ w).alloc (Nat.le_refl _) (Obj.cells #[Value.slice A n c] 27)).alloc (by simp) (Obj.cells #[.slice none 0 0, .slice none 0 0] 40))
  have HK0 := hide ((Blk.new w 27 [.slice A n c]).alloc (Obj.cells #[.slice none 0 0, .slice none 0 0] 40))
  have HR0 : Hid (Blk ((w.alloc (Obj.cells #[Value.slice A n c] 27)).alloc (Obj.cells #[.slice none 0 0, .slice none 0 0] 40)) (w.heap.size + 1) 40 [.slice none 0 0, .slice none 0 0]) := hide (by have h := Blk.new (w.alloc (Obj.cells #[Value.slice A n c] 27)) 40 [.slice none 0 0, .slice none 0 0]; simpa using h)
  clear hn ht hr
  go_enter Try.func68, Try.ntmps68
  go_wp2_with fail
  refine wp_gen fun w0 hw0 => ?_
  have HBc : Hid (Below w.heap.size w w0) := hide (by rw [hw0]; exact HB0.out)
  have HKc : Hid (Blk w0 w.heap.size 27 [.slice A n c]) := hide (by rw [hw0]; exact HK0.out)
  have HRc : Hid (Blk w0 (w.heap.size + 1) 40 [.slice none 0 0, .slice none 0 0]) := hide (by rw [hw0]; exact HR0.out)
  clear hw0
  have k0 := HKc.out.cell 0 _ rfl
  have r0 := HRc.out.cell 0 _ rfl
  have r1 := HRc.out.cell 1 _ rfl
  have f0 := HRc.out.frozen 0
  have f1 := HRc.out.frozen 1
  have n0 : w.heap.size + 1 ≠ w.heap.size := by omega
  have n1 := n0.symm
  go_region_held3 (fun w' => w'.cell? ⟨w.heap.size, 0, none⟩ = some (.slice A n c)) (first | exact k0 | go_keep) (first | (go_at_call 93; go_must (refine calls_gen fun wc hwc => ?_; (first | have hbx := drew_below hwc | have hbx := eq_below hwc); replace HBc := hide (HBc.out.trans (hbx.mono HBc.out.size)); replace HKc := hide (HKc.out.later hbx); replace HRc := hide (HRc.out.later hbx); clear hwc hbx; refine (ksize_any _ _ _ _ (by omega)).mono ?_; rintro e wd ⟨rfl, hbd⟩; replace HBc := hide (HBc.out.trans (hbd.mono HBc.out.size)); replace HKc := hide (HKc.out.later hbd); replace HRc := hide (HRc.out.later hbd); clear hbd; have k0 := HKc.out.cell 0 _ rfl; have r0 := HRc.out.cell 0 _ rfl; have r1 := HRc.out.cell 1 _ rfl; have f0 := HRc.out.frozen 0; have f1 := HRc.out.frozen 1)) | (go_at_call 101; go_must (refine calls_gen fun wc hwc => ?_; (first | have hbx := drew_below hwc | have hbx := eq_below hwc); replace HBc := hide (HBc.out.trans (hbx.mono HBc.out.size)); replace HKc := hide (HKc.out.later hbx); replace HRc := hide (HRc.out.later hbx); clear hwc hbx; refine (pmp_any 102 (.agg #[.slice A n c]) n (fun x y => ((ap f x y : Nat) : Int)) (fun x _ => (x : Int)) _ (enters_of Try.func102 (by kernel_rfl) rfl) h1 h12 (fun W x y hx hy hbe => klead_any _ _ _ f x y _ W HN.out HTB.out (HR.out.later (HBc.out.trans (hbe.mono HBc.out.size))) hx hy rfl)).mono ?_; rintro e wd ⟨A3, c3, B3, d3, rfl, hbd, hobj⟩; have HSZ := hide HRc.out.lt; have HLO := hide HBc.out.size; have HO := hide (by have h := hobj; rw [HG1.out, HG2.out] at h; exact h); clear hobj; replace HBc := hide (HBc.out.trans (hbd.mono HBc.out.size)); replace HKc := hide (HKc.out.later hbd); replace HRc := hide (HRc.out.later hbd); clear hbd; have k0 := HKc.out.cell 0 _ rfl; have r0 := HRc.out.cell 0 _ rfl; have r1 := HRc.out.cell 1 _ rfl; have f0 := HRc.out.frozen 0; have f1 := HRc.out.frozen 1)))
  all_goals
    clear k0 r0 r1 f0 f1
    go_wp2_with fail
    refine bp_gen fun wf hwf => ?_
    obtain ⟨q0, q1, hbf, hof⟩ := zend hwf HRc.out (by omega) HSZ.out HBc.out HLO.out HO.out
    clear hwf
    exact bodyPost_ret (v := .agg #[.slice A3 n c3, .slice B3 n d3]) (by simp [results, Try.results68, go_sem, q0, q1]) rfl ⟨_, _, _, _, rfl, hbf, hof⟩

set_option maxRecDepth 100000 in
theorem rsoI_any (A : Option Addr) (n c : Nat) (f : List (List Int)) (zf zg : List (List Int)) (code : Int) (k kw : Nat) (w : World) (hn : f.length = n) (hb : n ≤ 1048576) (hbs : ∀ i, i < f.length → (f.getD i []).length ≤ 1048576) (hr : Rd2 w A f) (hres : RsoRes f zf zg code) (hk : ZSz 1048576 zf k zg kw) :
    Calls Try.prog 29 #[.agg #[.slice A n c]] w (fun e w' => ∃ A' c' B' d', e = .returned (.tuple #[.agg #[.slice A' k c', .slice B' kw d'], .int .i64 code]) ∧ Below w.heap.size w w' ∧ ObjZ 31 2 w.heap.size w'.heap.size w' A' zf B' zg) := by
  have HN := hide hn
  have HBS := hide hbs
  have HRD := hide hr
  have HB0 := hide (((Below.refl _ w).alloc (Nat.le_refl _) (Obj.cells #[Value.slice A n c] 27)).alloc (by simp) (Obj.cells #[.slice none 0 0, .slice none 0 0] 40))
  have HK0 := hide ((Blk.new w 27 [.slice A n c]).alloc (Obj.cells #[.slice none 0 0, .slice none 0 0] 40))
  have HR0 : Hid (Blk ((w.alloc (Obj.cells #[Value.slice A n c] 27)).alloc (Obj.cells #[.slice none 0 0, .slice none 0 0] 40)) (w.heap.size + 1) 40 [.slice none 0 0, .slice none 0 0]) := hide (by have h := Blk.new (w.alloc (Obj.cells #[Value.slice A n c] 27)) 40 [.slice none 0 0, .slice none 0 0]; simpa using h)
  rcases hres with ⟨hp, rfl, rfl, rfl⟩ | ⟨hp, rfl, rfl, rfl⟩
  · have hk1 : k = n := by rw [← hk.fl, hn]
    have hk2 : kw = n := by rw [← hk.sl, sndG, grid_length, hn]
    subst hk1
    subst hk2
    have HTB := hide hp.tbl
    clear hk
    have HRK : Hid (RkRes f true) := hide (by unfold RkRes; simp [hp])
    have HP := hide hp
    clear hn hbs hr hp
    go_enter Try.func29, Try.ntmps29
    go_wp2_with fail
    refine (isRackI _ _ _ f true _ HN.out hb HBS.out (HRD.out.later HB0.out) HRK.out).mono ?_
    rintro e w1 ⟨rfl, hb1⟩
    have HB1 := hide (HB0.out.trans (hb1.mono HB0.out.size))
    have HK1 := hide (HK0.out.later hb1)
    have HR1 := hide (HR0.out.later hb1)
    clear hb1
    have k0 := HK1.out.cell 0 _ rfl
    go_wp2_with fail
    clear k0
    refine (ksolution_any _ _ _ _ _ HN.out HTB.out (HRD.out.later HB1.out)).mono ?_
    rintro e w2 ⟨A3, c3, B3, d3, rfl, hb2, hobj⟩
    have HB2 := hide (HB1.out.trans (hb2.mono HB1.out.size))
    have HR2 := hide (HR1.out.later hb2)
    have HO := hide hobj
    have hlt1 := HR1.out.lt
    clear hb2 hobj
    have k2 := HR2.out.cell 0 _ rfl
    have k3 := HR2.out.cell 1 _ rfl
    have k4 := HR2.out.frozen 0
    have k5 := HR2.out.frozen 1
    go_wp2_with fail
    refine bp_gen fun wf hwf => ?_
    obtain ⟨q0, q1, hbf, hof⟩ := zend hwf HR2.out (by omega) hlt1 HB2.out HB1.out.size HO.out
    clear hwf k2 k3 k4 k5
    exact bodyPost_ret (v := .tuple #[.agg #[.slice A3 kw c3, .slice B3 kw d3], .int .i64 0]) (by simp [results, Try.results29, go_sem, q0, q1]) rfl ⟨_, _, _, _, rfl, hbf, hof⟩
  · have hk1 : k = 0 := by rw [← hk.fl]; rfl
    have hk2 : kw = 0 := by rw [← hk.sl]; rfl
    subst hk1
    subst hk2
    clear hk
    have HRK : Hid (RkRes f false) := hide (by unfold RkRes; simp [hp])
    have HP := hide hp
    clear hn hbs hr hp
    go_enter Try.func29, Try.ntmps29
    go_wp2_with fail
    refine (isRackI _ _ _ f false _ HN.out hb HBS.out (HRD.out.later HB0.out) HRK.out).mono ?_
    rintro e w1 ⟨rfl, hb1⟩
    have HB1 := hide (HB0.out.trans (hb1.mono HB0.out.size))
    have HK1 := hide (HK0.out.later hb1)
    have HR1 := hide (HR0.out.later hb1)
    clear hb1
    have k2 := HR1.out.cell 0 _ rfl
    have k3 := HR1.out.frozen 0
    have k4 := HR1.out.cell 1 _ rfl
    have k5 := HR1.out.frozen 1
    go_wp2_with fail
    refine bp_gen fun wf hwf => ?_
    have HRF : Blk wf (w.heap.size + 1) 40 [.slice none 0 0, .slice none 0 0] := by rw [hwf]; first | exact HR1.out | exact HR1.out.set 0 _ | exact (HR1.out.set 0 _).set 1 _
    have hbf : Below w.heap.size w wf := by rw [hwf]; first | exact HB1.out | exact HB1.out.setCell (p := ⟨w.heap.size + 1, 0, none⟩) (by show w.heap.size ≤ w.heap.size + 1; omega) _ | exact (HB1.out.setCell (p := ⟨w.heap.size + 1, 0, none⟩) (by show w.heap.size ≤ w.heap.size + 1; omega) _).setCell (p := ⟨w.heap.size + 1, 1, none⟩) (by show w.heap.size ≤ w.heap.size + 1; omega) _
    have q0 := HRF.cell 0 _ rfl
    have q1 := HRF.cell 1 _ rfl
    clear hwf k2 k3
    exact bodyPost_ret (v := .tuple #[.agg #[.slice none 0 0, .slice none 0 0], .int .i64 1]) (by simp [results, Try.results29, go_sem, q0, q1]) rfl ⟨_, _, _, _, rfl, hbf, ObjZ.empty hbf.size⟩

end Go.Proofs.Ytchpclgkinehhaa
