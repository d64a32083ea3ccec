import Derived.Test.YtpnlmmilnglmkaaZam
import Derived.Test.YtpnlmmilnglmkaaZh
import Derived.Shelf.Abstract
import Derived.Shelf.Lay
import Derived.Test.YtpnlmmilnglmkaaProg
import Derived.Test.YtpnlmmilnglmkaaZai
import Derived.Test.YtpnlmmilnglmkaaZj
import Derived.Test.YtpnlmmilnglmkaaZag
import Derived.Test.YtpnlmmilnglmkaaZal
import Derived.Test.YtpnlmmilnglmkaaZd
import Derived.Test.YtpnlmmilnglmkaaZg
import Derived.Test.YtpnlmmilnglmkaaZa
import Derived.Deep.AppendLies
import Derived.Deep.RegionHeld3
import Derived.Deep.Cut
namespace Go.Proofs.Ytpnlmmilnglmkaa
open Go Go.RowKit
set_option maxHeartbeats 2000000

/-- What is asked of the property. -/
def HasFn (F : FuncId) (v : Value) (r : Bool) (w : World) : Prop :=
  ∀ (W : World), Below w.heap.size w W → Calls Try.prog F #[v] W fun e w' => e = .returned (.bool r) ∧ Below W.heap.size W w'

set_option maxRecDepth 100000 in
theorem judged_any (F : FuncId) (A : Option Addr) (n c : Nat) (f : List (List Int)) (cond : Prop) (r : Bool) (code : Int) (w : World) (eg : ∀ args w, (callFunc F args).run Try.prog w = .ok (.enter F args) w) (hn : f.length = n) (hb : n ≤ 1048576) (hbs : ∀ i, i < f.length → (f.getD i []).length ≤ 1048576) (hr : Rd2 w A f) (hres : BRes (Rck f) cond r code) (hfn : Rck f → (r = true ↔ cond) → HasFn F (.agg #[.slice A n c]) r w) :
    Calls Try.prog 105 #[.agg #[.slice A n c], .func (.func F) #[.agg #[.slice A n c]] #[]] w fun e w' => e = .returned (.tuple #[.bool r, .int .i64 code]) ∧ Below w.heap.size w w' := by
  have HN := hide hn
  have HBS := hide hbs
  have HRD := hide hr
  have HB0 := hide ((Below.refl _ w).alloc (Nat.le_refl _) (Obj.cells #[Value.slice A n c] 27))
  have HK0 := hide (Blk.new w 27 [.slice A n c])
  rcases hres with ⟨hp, hrc, rfl⟩ | ⟨hp, rfl, rfl⟩
  · have HF := hide (hfn hp hrc)
    clear hfn hrc
    have HRK : Hid (RkRes f true) := hide (by unfold RkRes; simp [hp])
    have HP := hide hp
    clear hn hbs hr hp
    go_enter Try.func105, Try.ntmps105
    go_wp2_with fail
    refine (isRackI _ _ _ f true _ HN.out hb HBS.out (HRD.out.later HB0.out) HRK.out).mono ?_
    rintro e w1 ⟨rfl, hb1⟩
    have HB1 := hide (HB0.out.trans (hb1.mono HB0.out.size))
    have HK1 := hide (HK0.out.later hb1)
    clear hb1
    have k0 := HK1.out.cell 0 _ rfl
    have heg := fun args => eg args
    go_wp2_with (go_at_fn F; go_must (refine calls_gen fun wc hwc => ?_; (first | have hbx := drew_below hwc | have hbx := eq_below hwc); have HBc := hide (HB1.out.trans (hbx.mono HB1.out.size)); clear hwc hbx; refine (HF.out _ HBc.out).mono ?_; rintro e wd ⟨rfl, hbd⟩; have HBd := hide (HBc.out.trans (hbd.mono HBc.out.size)); clear hbd))
    go_outline
    go_ret2
    exact ⟨rfl, HBd.out⟩
  · skip
    have HRK : Hid (RkRes f false) := hide (by unfold RkRes; simp [hp])
    have HP := hide hp
    clear hn hbs hr hp
    go_enter Try.func105, Try.ntmps105
    go_wp2_with fail
    refine (isRackI _ _ _ f false _ HN.out hb HBS.out (HRD.out.later HB0.out) HRK.out).mono ?_
    rintro e w1 ⟨rfl, hb1⟩
    have HB1 := hide (HB0.out.trans (hb1.mono HB0.out.size))
    have HK1 := hide (HK0.out.later hb1)
    clear hb1
    go_wp2_with fail
    go_ret2
    exact ⟨rfl, HB1.out⟩

end Go.Proofs.Ytpnlmmilnglmkaa
namespace Go.Proofs.Ytpnlmmilnglmkaa
open Go Go.RowKit
set_option maxHeartbeats 4000000

theorem tdS_i1 : (Try.prog.info? 2).map (fun i => (i.zero, i.size, i.bytes)) = some (some (.int .i64 0), 1, 8) := by kernel_rfl
theorem tdS_i2 : (Try.prog.info? 37).map (fun i => (i.zero, i.size, i.bytes)) = some (some (.slice none 0 0), 1, 24) := by kernel_rfl

set_option maxRecDepth 100000 in
theorem tdS_any (A : Option Addr) (n c : Nat) (f : List (List Int)) (D : Option Addr) (m d : Nat) (p : List Int) (zf zg : List (List Int)) (code : Int) (k kw : Nat) (w : World) (hn : f.length = n) (hb : n ≤ 1048576) (hbs : ∀ i, i < f.length → (f.getD i []).length ≤ 1048576) (hr : Rd2 w A f) (hm : p.length = m) (hbm : m ≤ 1048576) (hrp : Rd w D p) (hres : TdRes f p zf zg code) (hk : ZSz 1048576 zf k zg kw) :
    Calls Try.prog 37 #[.agg #[.slice A n c], .slice D m d] w fun e w' => ∃ A' c' B' d', e = .returned (.tuple #[.agg #[.slice A' k c', .slice B' kw d'], .int .i64 code]) ∧ Below w.heap.size w w' ∧ ObjW 37 2 w.heap.size w'.heap.size w' A' zf B' zg := by
  have HN := hide hn
  have HBS := hide hbs
  have HRD := hide hr
  have HM := hide hm
  have HRP := hide hrp
  have HRES := hide hres
  have HKZ := hide hk
  have HB0 := hide (((Below.refl _ w).alloc (Nat.le_refl _) (Obj.cells #[Value.slice A n c] 27)).alloc (by simp) (Obj.cells #[.slice none 0 0, .slice none 0 0] 30))
  have HK0 := hide ((Blk.new w 27 [.slice A n c]).alloc (Obj.cells #[.slice none 0 0, .slice none 0 0] 30))
  have HR0 : Hid (Blk ((w.alloc (Obj.cells #[Value.slice A n c] 27)).alloc (Obj.cells #[.slice none 0 0, .slice none 0 0] 30)) (w.heap.size + 1) 30 [.slice none 0 0, .slice none 0 0]) := hide (by have h := Blk.new (w.alloc (Obj.cells #[Value.slice A n c] 27)) 30 [.slice none 0 0, .slice none 0 0]; simpa using h)
  clear hn hbs hr hm hrp hres hk
  obtain ⟨r1, hr1⟩ : ∃ r : Bool, r = true ↔ Rck f := bool_of _
  have HR1_ := hide hr1
  have HRK : Hid (RkRes f r1) := hide hr1
  clear hr1
  go_enter Try.func37, Try.ntmps37
  have k0 := HK0.out.cell 0 _ rfl
  go_wp2_with fail
  clear k0
  refine (isRackS _ _ _ f r1 _ HN.out hb HBS.out (HRD.out.later HB0.out) HRK.out).mono ?_
  rintro e w1 ⟨rfl, hb1⟩
  have HB1 := hide (HB0.out.trans (hb1.mono HB0.out.size))
  have HK1 := hide (HK0.out.later hb1)
  have HR1 := hide (HR0.out.later hb1)
  clear hb1
  rcases r1 with _ | _
  · obtain ⟨rfl, rfl, rfl⟩ := HRES.out.at1 (fun h => absurd (HR1_.out.2 h) (by simp))
    have hk1 : k = 0 := by rw [← HKZ.out.fl]; rfl
    have hk2 : kw = 0 := by rw [← HKZ.out.sl]; rfl
    subst hk1
    subst hk2
    have k2 := HR1.out.cell 0 _ rfl
    have k3 := HR1.out.cell 1 _ rfl
    have k4 := HR1.out.frozen 0
    have k5 := HR1.out.frozen 1
    go_wp2_with fail
    refine bp_gen fun wf hwf => ?_
    have HRF : Blk wf (w.heap.size + 1) 30 [.slice none 0 0, .slice none 0 0] := by rw [hwf]; first | exact HR1.out | exact (HR1.out.set 0 _).set 1 _
    have hbf : Below w.heap.size w wf := by rw [hwf]; first | exact HB1.out | exact (HB1.out.setCell (p := ⟨w.heap.size + 1, 0, none⟩) (by show w.heap.size ≤ w.heap.size + 1; omega) _).setCell (p := ⟨w.heap.size + 1, 1, none⟩) (by show w.heap.size ≤ w.heap.size + 1; omega) _
    have q0 := HRF.cell 0 _ rfl
    have q1 := HRF.cell 1 _ rfl
    clear hwf k2 k3 k4 k5
    exact bodyPost_ret (v := .tuple #[.agg #[.slice none 0 0, .slice none 0 0], .int .i64 1]) (by simp [results, Try.results37, go_sem, q0, q1]) rfl ⟨_, _, _, _, rfl, hbf, ObjW.empty⟩
  have hrk : Rck f := HR1_.out.1 (by simp)
  have HRCK := hide hrk
  have HTB := hide hrk.tbl
  have h12 : n ≤ 12 := by rw [← HN.out]; exact hrk.tbl.2.1
  have h1 : 1 ≤ n := by rw [← HN.out]; exact hrk.tbl.1
  clear hrk
  obtain ⟨r2, hr2⟩ : ∃ r : Bool, r = true ↔ Prm p := bool_of _
  have HR2_ := hide hr2
  clear hr2
  go_wp2_with fail
  refine (prmS_below D m d p r2 _ HM.out (by omega) (HRP.out.later HB1.out) HR2_.out).mono ?_
  rintro e w2 ⟨rfl, hb2⟩
  have HB2 := hide (HB1.out.trans (hb2.mono HB1.out.size))
  have HK2 := hide (HK1.out.later hb2)
  have HR2 := hide (HR1.out.later hb2)
  clear hb2
  rcases r2 with _ | _
  · obtain ⟨rfl, rfl, rfl⟩ := HRES.out.at2 HRCK.out (fun h => absurd (HR2_.out.2 h.1) (by simp))
    have hk1 : k = 0 := by rw [← HKZ.out.fl]; rfl
    have hk2 : kw = 0 := by rw [← HKZ.out.sl]; rfl
    subst hk1
    subst hk2
    have k2 := HR2.out.cell 0 _ rfl
    have k3 := HR2.out.cell 1 _ rfl
    have k4 := HR2.out.frozen 0
    have k5 := HR2.out.frozen 1
    go_wp2_with fail
    refine bp_gen fun wf hwf => ?_
    have HRF : Blk wf (w.heap.size + 1) 30 [.slice none 0 0, .slice none 0 0] := by rw [hwf]; first | exact HR2.out | exact (HR2.out.set 0 _).set 1 _
    have hbf : Below w.heap.size w wf := by rw [hwf]; first | exact HB2.out | exact (HB2.out.setCell (p := ⟨w.heap.size + 1, 0, none⟩) (by show w.heap.size ≤ w.heap.size + 1; omega) _).setCell (p := ⟨w.heap.size + 1, 1, none⟩) (by show w.heap.size ≤ w.heap.size + 1; omega) _
    have q0 := HRF.cell 0 _ rfl
    have q1 := HRF.cell 1 _ rfl
    clear hwf k2 k3 k4 k5
    exact bodyPost_ret (v := .tuple #[.agg #[.slice none 0 0, .slice none 0 0], .int .i64 2]) (by simp [results, Try.results37, go_sem, q0, q1]) rfl ⟨_, _, _, _, rfl, hbf, ObjW.empty⟩
  by_cases hmn : m = n
  rotate_left
  · have hmz : ((m : Int) != (n : Int)) = true := by rw [bne_iff_ne]; omega
    obtain ⟨rfl, rfl, rfl⟩ := HRES.out.at2 HRCK.out (fun h => hmn (by rw [← HM.out, ← HN.out]; exact h.2))
    have k0 := HK2.out.cell 0 _ rfl
    have hk1 : k = 0 := by rw [← HKZ.out.fl]; rfl
    have hk2 : kw = 0 := by rw [← HKZ.out.sl]; rfl
    subst hk1
    subst hk2
    have k2 := HR2.out.cell 0 _ rfl
    have k3 := HR2.out.cell 1 _ rfl
    have k4 := HR2.out.frozen 0
    have k5 := HR2.out.frozen 1
    go_wp2_with fail
    refine bp_gen fun wf hwf => ?_
    have HRF : Blk wf (w.heap.size + 1) 30 [.slice none 0 0, .slice none 0 0] := by rw [hwf]; first | exact HR2.out | exact (HR2.out.set 0 _).set 1 _
    have hbf : Below w.heap.size w wf := by rw [hwf]; first | exact HB2.out | exact (HB2.out.setCell (p := ⟨w.heap.size + 1, 0, none⟩) (by show w.heap.size ≤ w.heap.size + 1; omega) _).setCell (p := ⟨w.heap.size + 1, 1, none⟩) (by show w.heap.size ≤ w.heap.size + 1; omega) _
    have q0 := HRF.cell 0 _ rfl
    have q1 := HRF.cell 1 _ rfl
    clear hwf k2 k3 k4 k5
    exact bodyPost_ret (v := .tuple #[.agg #[.slice none 0 0, .slice none 0 0], .int .i64 2]) (by simp [results, Try.results37, go_sem, q0, q1]) rfl ⟨_, _, _, _, rfl, hbf, ObjW.empty⟩
  have hmz : ((m : Int) != (n : Int)) = false := by rw [hmn]; simp
  have HPRM : Hid (Prm p) := hide (HR2_.out.1 (by simp))
  obtain ⟨r3, hr3⟩ : ∃ r : Bool, r = true ↔ AutF f p := bool_of _
  have HR3_ := hide hr3
  clear hr3
  subst hmn
  obtain ⟨b1, o1, hA, hb1w, hc1⟩ := HTB.out.cells HRD.out HN.out
  subst hA
  have HC1 := hide hc1
  have HIN : Hid (∀ i j, i < m → j < m → 0 ≤ (f.getD i []).getD j 0 ∧ (f.getD i []).getD j 0 < (m : Int)) := hide (fun i j hi hj => by have h := (HTB.out.2.2 i (by have := HN.out; omega)).2 j (by have := HN.out; omega); rw [HN.out] at h; exact h)
  have HPIN : Hid (∀ x ∈ p, 0 ≤ x ∧ x < (m : Int)) := hide (by have h := HPRM.out.2.2.1; rw [HM.out] at h; exact h)
  clear hc1
  have k0 := HK2.out.cell 0 _ rfl
  go_wp2_with fail
  clear k0
  have HBc := HB2
  have HKc := HK2
  have HRc := HR2
  have k0 := HKc.out.cell 0 _ rfl
  go_region_held3 (fun w' => w'.cell? ⟨w.heap.size, 0, none⟩ = some (.slice (some ⟨b1, o1, none⟩) m c)) (first | exact k0 | go_keep) (first | (go_at_call 83; go_must (refine calls_gen fun wc hwc => ?_; (first | have hbx := drew_below hwc | have hbx := eq_below hwc); replace HBc := hide (HBc.out.trans (hbx.mono HBc.out.size)); replace HKc := hide (HKc.out.later hbx); replace HRc := hide (HRc.out.later hbx); clear hwc hbx; refine (imageS_any _ m _ f _ _ p _ HN.out HM.out h1 (by omega) (fun i hi => HTB.out.row_len HN.out (by have := HN.out; omega)) HIN.out HPIN.out (HRD.out.later HBc.out) (HRP.out.later HBc.out)).mono ?_; rintro e wd ⟨A5, c5, rfl, hbd, ho5⟩; have HO5 := hide ho5.rd; clear ho5; replace HBc := hide (HBc.out.trans (hbd.mono HBc.out.size)); replace HKc := hide (HKc.out.later hbd); replace HRc := hide (HRc.out.later hbd); clear hbd; have k0 := HKc.out.cell 0 _ rfl)) | (go_at_call 82; go_must (refine calls_gen fun wc hwc => ?_; (first | have hbx := drew_below hwc | have hbx := eq_below hwc); replace HBc := hide (HBc.out.trans (hbx.mono HBc.out.size)); replace HKc := hide (HKc.out.later hbx); replace HRc := hide (HRc.out.later hbx); replace HO5 := hide (HO5.out.later hbx); clear hwc hbx; refine (gq_low (same2_any _ _ m _ _ (grid m (renTo f p m m (tabF f))) f r3 _ (grid_length _ _) HN.out (by omega) (fun i hi => grid_row_length _ _ _ (by rw [grid_length] at hi; exact hi)) (fun i hi => HTB.out.row_len HN.out (by have := HN.out; omega)) HO5.out (HRD.out.later HBc.out) (by rw [HR3_.out, aut_iff HTB.out HPRM.out HN.out HM.out]))).mono ?_; rintro e wd ⟨rfl, hbd⟩; replace HBc := hide (HBc.out.trans (hbd.mono HBc.out.size)); replace HKc := hide (HKc.out.later hbd); replace HRc := hide (HRc.out.later hbd); clear hbd; have k0 := HKc.out.cell 0 _ rfl)))
  clear k0
  rcases r3 with _ | _
  · obtain ⟨rfl, rfl, rfl⟩ := HRES.out.at5 HRCK.out HPRM.out (HM.out.trans HN.out.symm) (fun h => absurd (HR3_.out.2 h) (by simp))
    have hk1 : k = 0 := by rw [← HKZ.out.fl]; rfl
    have hk2 : kw = 0 := by rw [← HKZ.out.sl]; rfl
    subst hk1
    subst hk2
    have k2 := HRc.out.cell 0 _ rfl
    have k3 := HRc.out.cell 1 _ rfl
    have k4 := HRc.out.frozen 0
    have k5 := HRc.out.frozen 1
    go_wp2_with fail
    refine bp_gen fun wf hwf => ?_
    have HRF : Blk wf (w.heap.size + 1) 30 [.slice none 0 0, .slice none 0 0] := by rw [hwf]; first | exact HRc.out | exact (HRc.out.set 0 _).set 1 _
    have hbf : Below w.heap.size w wf := by rw [hwf]; first | exact HBc.out | exact (HBc.out.setCell (p := ⟨w.heap.size + 1, 0, none⟩) (by show w.heap.size ≤ w.heap.size + 1; omega) _).setCell (p := ⟨w.heap.size + 1, 1, none⟩) (by show w.heap.size ≤ w.heap.size + 1; omega) _
    have q0 := HRF.cell 0 _ rfl
    have q1 := HRF.cell 1 _ rfl
    clear hwf k2 k3 k4 k5
    exact bodyPost_ret (v := .tuple #[.agg #[.slice none 0 0, .slice none 0 0], .int .i64 5]) (by simp [results, Try.results37, go_sem, q0, q1]) rfl ⟨_, _, _, _, rfl, hbf, ObjW.empty⟩
  obtain ⟨rfl, rfl, rfl⟩ := HRES.out.at0 HRCK.out HPRM.out (HM.out.trans HN.out.symm) (HR3_.out.1 (by simp))
  have hk1 : k = m := by rw [← HKZ.out.fl, grid_length]; exact HN.out
  have hk2 : kw = m := by rw [← HKZ.out.sl, grid_length]; exact HN.out
  subst hk1
  subst hk2
  go_wp2_with fail
  refine (l01Back_any D kw d p _ HM.out (by omega) (HRP.out.later HBc.out) HPIN.out).mono ?_
  rintro e w4 ⟨E_, e4, rfl, hb4, ho4⟩
  have HB4 := hide (HBc.out.trans (hb4.mono HBc.out.size))
  have HK4 := hide (HKc.out.later hb4)
  have HR4 := hide (HRc.out.later hb4)
  obtain ⟨bb, obb, hE, hbb, hcb⟩ := ho4.rd (by rw [backTo_length, HM.out]; omega)
  subst hE
  have HCB := hide hcb
  obtain ⟨bp, op_, hD, hbp, hcp⟩ := HRP.out (by have := HM.out; omega)
  subst hD
  have HCP := hide hcp
  clear hb4 ho4 hcb hcp
  obtain ⟨i0, hi0, hz0, hz1, hz2⟩ := info_parts tdS_i1
  obtain ⟨i2, hj, hy0, hy1, hy2⟩ := info_parts tdS_i2
  go_upto_region 8 with fail
  refine wp_gen fun w0 hw0 => ?_
  obtain ⟨ob, hob⟩ : ∃ ob, w4.heap.size = ob := ⟨_, rfl⟩
  have hob1 : w.heap.size + 1 < ob := by rw [← hob]; exact HR4.out.lt
  have hq0 : Below w4.heap.size w4 w0 := by rw [hw0]; exact (Below.refl _ _).alloc (Nat.le_refl _) _
  have hb0 : Below w.heap.size w w0 := HB4.out.trans (hq0.mono HB4.out.size)
  have HW4 := hide hq0
  have a1 := HK4.out.later hq0
  obtain ⟨KC, hKC⟩ : ∃ KC : List Value, [Value.slice (some ⟨b1, o1, none⟩) kw c] = KC := ⟨_, rfl⟩
  rw [hKC] at a1
  have HKC := hide hKC
  clear hKC
  have a2 := HR4.out.later hq0
  have a4 : Blk w0 ob 30 [.slice none 0 0, .slice none 0 0] := by rw [hw0, ← hob]; exact Blk.new _ _ _
  have HBX0 : Hid (Bxs w0 (ob) [(w.heap.size, 27, KC), (w.heap.size + 1, 30, [.slice none 0 0, .slice none 0 0])]) := hide (by
    intro p hp'
    simp only [List.mem_cons, List.not_mem_nil, or_false] at hp'
    rcases hp' with rfl | rfl
    · exact ⟨a1, by show w.heap.size < _; omega⟩
    · exact ⟨a2, by show w.heap.size + 1 < _; omega⟩)
  have h40 : w4.heap.size ≤ w0.heap.size := hq0.size
  rw [hob]
  clear a1 a2 hq0
  go_wp2_with fail
  have HB0 := hide hb0
  have HTW0 := hide (Two.start w0 37 2 30 a4)
  clear hw0 hb0 a4
  go_loopw [8] (fun i wr => ∃ (x : Nat) (v1 v2 : Value) (vals1 vals2 : List Value), x ≤ kw ∧ i = .int .i64 x ∧ Below w.heap.size w wr ∧ Below w4.heap.size w4 wr ∧ Bxs wr (ob) [(w.heap.size, 27, KC), (w.heap.size + 1, 30, [.slice none 0 0, .slice none 0 0])] ∧ Two 37 2 30 (ob + 1) wr (ob) v1 v2 ((grid kw (tdH1 p)).take x) ((grid kw (tdH2 f p)).take x) vals1 vals2) (fun i _ => kw - (intOf i).toNat)
  case atStart => exact ⟨0, _, _, _, _, Nat.zero_le _, rfl, HB0.out, HW4.out, HBX0.out, by simpa using HTW0.out⟩
  case round =>
    obtain ⟨x, v1, v2, vals1, vals2, hx, rfl, hbe, hwe, hbx, htw⟩ := hrel
    have HB := hide hbe
    have HBX := hide hbx
    have HWO := hide hwe
    have HTW := hide htw
    clear hbe hwe hbx htw
    by_cases hlt : x < kw
    · have hxz : (x : Int) < kw := by omega
      go_wp2_with fail
      obtain ⟨wo, rfl⟩ : ∃ wo : World, wo = wr := ⟨_, rfl⟩
      go_loopw [9, 10, 11] (fun u1 u2 i wi => ∃ y : Nat, y ≤ kw ∧ i = .int .i64 y ∧ Below wo.heap.size wo wi ∧ wo.heap.size < wi.heap.size ∧ Row2 2 wo.heap.size wi u1 u2 y y (rowTo (tdH1 p) x y) (rowTo (tdH2 f p) x y)) (fun _ _ i _ => kw - (intOf i).toNat)
      case atStart => exact ⟨0, Nat.zero_le _, rfl, ((Below.refl _ _).alloc (Nat.le_refl _) _).alloc (by simp) _, by simp; omega, row2_start wo _⟩
      case round =>
        obtain ⟨y, hy, rfl, hbi, hsi, hri⟩ := hrel
        have HBI := hide hbi
        have HRI := hide hri
        clear hbi hri
        by_cases hlty : y < kw
        · have hyz : (y : Int) < kw := by omega
          have HB2 := hide (HB.out.trans (HBI.out.mono HB.out.size))
          have HBX2 := hide (HBX.out.later HBI.out)
          have hpy := pq_eq HPRM.out (x := y) (by have := HM.out; omega)
          have c2_ := HCP.out y (by have := HM.out; omega)
          rw [hpy.1] at c2_
          have hun := hpy.2
          rw [HM.out] at hun
          have hpr1 : tdH1 p x y = ((pq p y : Nat) : Int) := rfl
          have hpr2 : tdH2 f p x y = ((pq (backTo p p.length) (ap f (pq p y) x) : Nat) : Int) := rfl
          obtain ⟨u, hu⟩ : ∃ u, pq p y = u := ⟨_, rfl⟩
          rw [hu] at c2_ hun hpr1 hpr2
          have hzn := HTB.out.ap_lt HN.out hun hlt
          obtain ⟨z, hz⟩ : ∃ z, ap f u x = z := ⟨_, rfl⟩
          rw [hz] at hzn hpr2
          have hbq := backTo_pq HPRM.out (a := z) (by have := HM.out; omega)
          have c3_ := HCB.out z (by rw [backTo_length, HM.out]; omega)
          rw [HM.out] at hbq hpr2
          rw [hbq.1] at c3_
          obtain ⟨v, hv⟩ : ∃ v, pq (backTo p kw) z = v := ⟨_, rfl⟩
          rw [hv] at c3_ hpr2
          obtain ⟨bx, ox, cx, q1, q2, q3⟩ := HC1.out u hun
          have q4 := q3 x hlt
          rw [hz] at q4
          have HPR1 := hide hpr1
          have HPR2 := hide hpr2
          have huz : (u : Int) < kw := by omega
          have hzz : (z : Int) < kw := by omega
          have hww := HB.out.size
          have hobw := HTW.out.box.lt
          have hszw : wo.heap.size ≤ wr.heap.size := HBI.out.size
          have HW0 := hide (HW4.out)
          have E1 := hide q1
          have E2 := hide q4
          have E3 := hide c2_
          have E4 := hide c3_
          clear hpy hbq hu hz hv hpr1 hpr2 q1 q3 q4 c2_ c3_
          have f1 := (HB2.out.cell (p := ⟨bp, op_ + y, none⟩) hbp).trans E3.out
          go_wp2_with (at_builtin; refine wpList_append_own_at _ rfl _ _ 37 rfl wo.heap.size 2 i0 (.int .i64 0) 1 8 Try.underlying37 hi0 hz0 hz1 hz2 rfl (by decide) _ _ _ rfl (HRI.out.o1.alloc _) ⟨wr.heap.size, 0, none⟩ 1 1 [.int .i64 u] rfl rfl ?c1 ?c2 ?c3 ?c4 ?c5 ?_)
          try (case c1 => exact l2_new)
          case c2 => first | rfl | (intro u hu; simp at hu; subst hu; rfl)
          case c3 => first | omega | (unfold maxLen; omega)
          case c4 => omega
          case c5 => first | omega | (simp; omega)
          intro v' wa1 hown hgrow _ hat
          obtain ⟨gg1, cap1, hv5⟩ := own_form hown
          have hat1 := at_of hv5 hat
          rw [hv5] at hown ⊢
          obtain ⟨hrow, hbi, hsz1, hcl⟩ := row2_ap1 HRI.out HBI.out hown hgrow (by simpa using hat1)
          have HROW1 := hide hrow
          have HBI1 := hide hbi
          clear hown hgrow hat hat1 hv5 hrow hbi f1
          have HB5 := hide (HB.out.trans (HBI1.out.mono HB.out.size))
          have HBX5 := hide (HBX.out.later HBI1.out)
          have hszw1 : wo.heap.size ≤ wa1.heap.size := HBI1.out.size
          go_upto_region 16 with fail
          have k0 := (HBX5.out.blk (b := w.heap.size) (t := 27) (cs := KC) (by simp)).cell 0 _ (by rw [← HKC.out]; rfl)
          have hw4l : w4.heap.size ≤ wo.heap.size := by omega
          have hwo : w.heap.size ≤ wo.heap.size := HB.out.size
          have ff0 := (HB5.out.cell (p := ⟨bp, op_ + y, none⟩) hbp).trans E3.out
          have ff1 := (HB5.out.cell (p := ⟨b1, o1 + u, none⟩) hb1w).trans E1.out
          have ff2 := (HB5.out.cell (p := ⟨bx, ox + x, none⟩) q2).trans E2.out
          have ff3 := ((HWO.out.trans (HBI1.out.mono hw4l)).cell (p := ⟨bb, obb + z, none⟩) hbb).trans E4.out
          go_region_held3 (fun w' => w'.cell? ⟨w.heap.size, 0, none⟩ = some (.slice (some ⟨b1, o1, none⟩) kw c) ∧ w'.cell? ⟨bp, op_ + y, none⟩ = some (.int .i64 u) ∧ w'.cell? ⟨b1, o1 + u, none⟩ = some (.slice (some ⟨bx, ox, none⟩) kw cx) ∧ w'.cell? ⟨bx, ox + x, none⟩ = some (.int .i64 z) ∧ w'.cell? ⟨bb, obb + z, none⟩ = some (.int .i64 v)) (first | exact ⟨k0, ff0, ff1, ff2, ff3⟩ | go_keep) (first | (refine step_append_lies _ (by rfl) _ _ _ (by rfl) wo.heap.size 2 i0 _ 1 8 Try.underlying37 hi0 hz0 hz1 hz2 rfl (by omega) u10 y (ints (rowTo (tdH2 f p) x y)) (by rfl) (HROW1.out.o2.alloc _) ⟨wa1.heap.size, 0, none⟩ 1 1 [.int .i64 v] (by rfl) (by rfl) l2_new (by simp [Value.oneCell']) (by omega) (by unfold maxLen; omega) (by omega) (by simp; omega) (wa1.heap.size + 1) (by simp) ?_; go_must (intro gg2 cap2 wa2 hown hgrow hat _; obtain ⟨hrow, hbi, hsz2, hcl⟩ := row2_app2 HROW1.out HBI1.out hown hgrow hat; have HROW2 := hide hrow; have HBI2 := hide hbi; clear hown hgrow hat hrow hbi; have k0 := (hcl _ _ (by omega)).trans k0; have ff0 := (hcl _ _ (by omega)).trans ff0; have ff1 := (hcl _ _ (by omega)).trans ff1; have ff2 := (hcl _ _ (by omega)).trans ff2; have ff3 := (hcl _ _ (by omega)).trans ff3)))
          clear k0 ff0 ff1 ff2 ff3
          go_wp2_with fail
          have hszw2 : wo.heap.size ≤ wa2.heap.size := HBI2.out.size
          go_roundw
          case rel => exact ⟨y + 1, by omega, by go_num, HBI2.out, by omega, by rw [rowTo_succ, rowTo_succ, HPR1.out, HPR2.out]; exact HROW2.out⟩
          case measure => simp [intOf]; omega
        · have hyn : y = kw := by omega
          subst hyn
          have HTL : Hid (((grid y (tdH1 p)).take x).length = x) := hide (by rw [List.length_take, grid_length]; omega)
          have HTM : Hid (((grid y (tdH2 f p)).take x).length = x) := hide (by rw [List.length_take, grid_length]; omega)
          obtain ⟨A1, c1, hv1, hres1⟩ := own_shape HRI.out.o1
          subst hv1
          obtain ⟨A2, c2', hv2, hres2⟩ := own_shape HRI.out.o2
          subst hv2
          have HRO1 := hide hres1.obj
          have HRO := hide hres2.obj
          have HT2 := hide (HTW.out.later HBI.out)
          have HBX2 := hide (HBX.out.later HBI.out)
          have HB2 := hide (HB.out.trans (HBI.out.mono HB.out.size))
          clear hres1 hres2
          have k0 := HT2.out.box.cell 0 _ rfl
          have k1 := HT2.out.box.cell 1 _ rfl
          have k2 := HT2.out.box.frozen 0
          have k3 := HT2.out.box.frozen 1
          have k4 := fun o => (HT2.out.box.alloc o).cell 0 _ rfl
          have HOW1 : Hid (wr.ownsRow (ob + 1) 37 1 v1 x vals1) := hide (by have h := HT2.out.l1.own; rw [HTL.out] at h; exact h)
          have hobl := HT2.out.box.lt
          go_wp2_with (at_builtin; refine wpList_append_own_at _ rfl _ _ 22 rfl (ob + 1) 37 i2 (.slice none 0 0) 1 24 Try.underlying22 hj hy0 hy1 hy2 rfl (by decide) _ _ _ rfl (HOW1.out.alloc _) ⟨wr.heap.size, 0, none⟩ 1 1 [.slice A1 y c1] rfl rfl ?c1 ?c2 ?c3 ?c4 ?c5 ?_)
          try (case c1 => exact l2_new)
          case c2 => first | rfl | (intro u hu; simp at hu; subst hu; rfl)
          case c3 => first | omega | (unfold maxLen; omega)
          case c4 => omega
          case c5 => first | omega | (simp; omega)
          intro v' w5 hown5 hgrow5 _ hat5
          obtain ⟨gg, cap, hv5⟩ := own_form hown5
          have hat6 := at_of hv5 hat5
          rw [hv5] at hown5 ⊢
          clear hat5 hv5
          have hat6' : v1.ownBlock = some gg ∨ gg = wr.heap.size + 1 := by rcases hat6 with e | e; exact .inl e; exact .inr (by simpa using e)
          have hbk := HT2.out.kept1 hgrow5
          have HT3 := hide (HT2.out.add1 (by decide) (.inl HTW.out) (Nat.le_refl _) HRO1.out HTL.out (rowTo_len _ _ _) hown5 hgrow5 hat6')
          have HB3 := hide (HT2.out.below1 hgrow5 (.slice (some ⟨gg, 0, none⟩) (x + 1) cap) HB2.out (by omega))
          have HT2W0 := hide (HT2.out.below1 hgrow5 (.slice (some ⟨gg, 0, none⟩) (x + 1) cap) (HWO.out.trans (HBI.out.mono HWO.out.size)) (by omega))
          have HBX3 : Hid (Bxs (w5.setCell ⟨ob, 0, none⟩ (.slice (some ⟨gg, 0, none⟩) (x + 1) cap)) (ob) [(w.heap.size, 27, KC), (w.heap.size + 1, 30, [.slice none 0 0, .slice none 0 0])]) := hide (HBX2.out.frame (fun k hk hkw => HT2.out.frame1 hgrow5 _ (by omega) (by omega) hkw))
          have HRO3 := hide (row_kept (k := 0) (ob := ob) (by decide) HT2.out.l1.own hgrow5 HRO.out HTW.out.bsz (.slice (some ⟨gg, 0, none⟩) (x + 1) cap))
          have hsz6 : wr.heap.size ≤ (w5.setCell ⟨ob, 0, none⟩ (.slice (some ⟨gg, 0, none⟩) (x + 1) cap)).heap.size := by have h1 := hgrow5.size; simp at h1; simp [World.setCell]; omega
          clear k0 k1 k2 k3 k4 hown5 hat6 hat6' hgrow5
          have k0 := hbk.cell 0 _ rfl
          have k1 := hbk.cell 1 _ rfl
          have k2 := hbk.frozen 0
          have k3 := hbk.frozen 1
          clear hbk
          go_upto_region 18 with fail
          generalize hw6 : w5.setCell ⟨ob, 0, none⟩ (.slice (some ⟨gg, 0, none⟩) (x + 1) cap) = w6 at HT3 HB3 HT2W0 HBX3 HRO3 hsz6 ⊢
          have HRO4 := hide (HRO3.out.mono (Nat.le_refl _) hsz6)
          have HT2W := HT2W0
          clear hw6 hsz6 k0 k1 k2 k3
          have k0 := HT3.out.box.cell 0 _ rfl
          have k1 := HT3.out.box.cell 1 _ rfl
          have k2 := HT3.out.box.frozen 0
          have k3 := HT3.out.box.frozen 1
          have k4 := fun o => (HT3.out.box.alloc o).cell 1 _ rfl
          have HOW2 : Hid (w6.ownsRow (ob + 1) 37 1 v2 x vals2) := hide (by have h := HT3.out.l2.own; rw [HTM.out] at h; exact h)
          have hobl := HT3.out.box.lt
          go_wp2_with (at_builtin; refine wpList_append_own_at _ rfl _ _ 22 rfl (ob + 1) 37 i2 (.slice none 0 0) 1 24 Try.underlying22 hj hy0 hy1 hy2 rfl (by decide) _ _ _ rfl (HOW2.out.alloc _) ⟨w6.heap.size, 0, none⟩ 1 1 [.slice A2 y c2'] rfl rfl ?c1 ?c2 ?c3 ?c4 ?c5 ?_)
          try (case c1 => exact l2_new)
          case c2 => first | rfl | (intro u hu; simp at hu; subst hu; rfl)
          case c3 => first | omega | (unfold maxLen; omega)
          case c4 => omega
          case c5 => first | omega | (simp; omega)
          intro v' w7 hown7 hgrow7 _ hat7
          obtain ⟨gg2, cap2, hv7⟩ := own_form hown7
          have hat8 := at_of hv7 hat7
          rw [hv7] at hown7 ⊢
          clear hat7 hv7
          have hat8' : v2.ownBlock = some gg2 ∨ gg2 = w6.heap.size + 1 := by rcases hat8 with e | e; exact .inl e; exact .inr (by simpa using e)
          have hbk := HT3.out.kept2 hgrow7
          have HT4 := hide (HT3.out.add2 (by decide) (.inr ⟨_, _, _, _, _, _, HTW.out, rfl, rfl, rfl⟩) (Nat.le_refl _) HRO4.out HTM.out (rowTo_len _ _ _) hown7 hgrow7 hat8')
          have HB4 := hide (HT3.out.below2 hgrow7 (.slice (some ⟨gg2, 0, none⟩) (x + 1) cap2) HB3.out (by omega))
          have HW5 := hide (HT3.out.below2 hgrow7 (.slice (some ⟨gg2, 0, none⟩) (x + 1) cap2) (HT2W.out) (by omega))
          have HBX4 : Hid (Bxs (w7.setCell ⟨ob, 1, none⟩ (.slice (some ⟨gg2, 0, none⟩) (x + 1) cap2)) (ob) [(w.heap.size, 27, KC), (w.heap.size + 1, 30, [.slice none 0 0, .slice none 0 0])]) := hide (HBX3.out.frame (fun k hk hkw => HT3.out.frame2 hgrow7 _ (by omega) (by omega) hkw))
          clear k0 k1 k2 k3 k4 hown7 hgrow7 hat8 hat8'
          have k0 := hbk.cell 0 _ rfl
          have k1 := hbk.cell 1 _ rfl
          have k2 := hbk.frozen 0
          have k3 := hbk.frozen 1
          clear hbk
          go_wp2_with fail
          go_roundw
          case rel =>
            refine ⟨x + 1, .slice (some ⟨gg, 0, none⟩) (x + 1) cap, .slice (some ⟨gg2, 0, none⟩) (x + 1) cap2, vals1 ++ [.slice A1 y c1], vals2 ++ [.slice A2 y c2'], by omega, by go_num, HB4.out, HW5.out, HBX4.out, ?_⟩
            rw [grid_take_row _ _ _ hlt, grid_take_row _ _ _ hlt]
            exact HT4.out
          case measure => simp [intOf]; omega
    · have hxn : x = kw := by omega
      subst hxn
      obtain ⟨A1, c1, hv1, ho1⟩ := HTW.out.l1.shape
      obtain ⟨A2, c2', hv2, ho2⟩ := HTW.out.l2.shape
      rw [List.take_of_length_le (by rw [grid_length]; omega)] at hv1 ho1 hv2 ho2
      rw [grid_length] at hv1 hv2
      subst hv1
      subst hv2
      have HA1 := hide ho1
      have HA2 := hide ho2
      clear ho1 ho2
      have HR := hide (HBX.out.blk (b := w.heap.size + 1) (t := 30) (cs := [.slice none 0 0, .slice none 0 0]) (by simp))
      have k0 := HTW.out.box.cell 0 _ rfl
      have k1 := HTW.out.box.cell 1 _ rfl
      have k2 := HR.out.cell 0 _ rfl
      have k3 := HR.out.cell 1 _ rfl
      have k4 := HR.out.frozen 0
      have k5 := HR.out.frozen 1
      go_wp2_with fail
      refine bp_gen fun wf hwf => ?_
      obtain ⟨q0, q1, hbf, hof⟩ := wend2 (ts := 37) (t := 2) hwf HR.out (by omega) HB.out (ObjT.of HA1.out (by omega) (Nat.le_refl _)) (ObjT.of HA2.out (by omega) (Nat.le_refl _))
      clear hwf k0 k1 k2 k3 k4 k5
      exact bodyPost_ret (v := .tuple #[.agg #[.slice A1 x c1, .slice A2 x c2'], .int .i64 0]) (by simp [results, Try.results37, go_sem, q0, q1]) rfl ⟨_, _, _, _, rfl, hbf, by rw [HN.out]; exact hof⟩
end Go.Proofs.Ytpnlmmilnglmkaa
