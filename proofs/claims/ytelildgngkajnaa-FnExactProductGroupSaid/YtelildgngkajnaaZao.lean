import Derived.Test.YtelildgngkajnaaZan
import Derived.Test.YtelildgngkajnaaZv
import Derived.Deep.Cut
import Derived.Deep.RegionHeld3
namespace Go.Proofs.Ytelildgngkajnaa
open Go Go.RowKit
set_option maxHeartbeats 4000000
set_option maxRecDepth 100000 in
theorem pgMul_any (A : Option Addr) (n c : Nat) (f : List (List Int)) (C : Option Addr) (q c2 : Nat) (g : List (List Int)) (bm bs : Nat) (w : World) (hn : f.length = n) (ht : Tbl f) (hr : Rd2 w A f) (hq : g.length = q) (ht2 : Tbl g) (hr2 : Rd2 w C g) (hk1 : Blk w bm 24 [.slice A n c]) (hk2 : Blk w bs 24 [.slice C q c2]) :
    MulFn Try.prog 108 #[.pointer (some ⟨bm, 0, none⟩), .pointer (some ⟨bs, 0, none⟩)] (n * q) (fun i => .int .i64 (i / q : Nat)) (fun i => .int .i64 (i % q : Nat)) (pgN f g q) w := by
  intro W i k hi hk hb
  have HM := hide (hk1.later hb)
  have HS := hide (hk2.later hb)
  have HR1 := hide (hr.later hb)
  have HR2 := hide (hr2.later hb)
  have HN := hide hn
  have HQ := hide hq
  have HT := hide ht
  have HT2 := hide ht2
  have hpl := pg_lt hn ht hq ht2 hi hk
  show Calls Try.prog 108 #[.agg #[.int .i64 (i / q : Nat), .int .i64 (i % q : Nat)], .agg #[.int .i64 (k / q : Nat), .int .i64 (k % q : Nat)], .pointer (some ⟨bm, 0, none⟩), .pointer (some ⟨bs, 0, none⟩)] W fun e w' => e = .returned (.agg #[.int .i64 (pgN f g q i k / q : Nat), .int .i64 (pgN f g q i k % q : Nat)]) ∧ _
  rw [hpl.2.1, hpl.2.2]
  have hq1 : 1 ≤ q := by rw [← hq]; exact ht2.1
  have e1 := div_lt2 hi
  have e2 := div_lt2 hk
  have e3 := Nat.mod_lt i (show q > 0 by omega)
  have e4 := Nat.mod_lt k (show q > 0 by omega)
  have hn12 : n ≤ 12 := by rw [← hn]; exact ht.2.1
  have hq12 : q ≤ 12 := by rw [← hq]; exact ht2.2.1
  clear hk1 hk2 hb hr hr2 hn hq ht ht2 hpl hi hk
  obtain ⟨a, ha⟩ : ∃ x, i / q = x := ⟨_, rfl⟩
  obtain ⟨b, hb⟩ : ∃ x, i % q = x := ⟨_, rfl⟩
  obtain ⟨a', ha'⟩ : ∃ x, k / q = x := ⟨_, rfl⟩
  obtain ⟨b', hb'⟩ : ∃ x, k % q = x := ⟨_, rfl⟩
  rw [ha, hb, ha', hb']
  rw [ha] at e1
  rw [ha'] at e2
  rw [hb] at e3
  rw [hb'] at e4
  clear ha hb ha' hb'
  obtain ⟨u, hu⟩ : ∃ u, ap f a a' = u := ⟨_, rfl⟩
  obtain ⟨v, hv⟩ : ∃ v, ap g b b' = v := ⟨_, rfl⟩
  rw [hu, hv]
  have HU := hide hu
  have HV := hide hv
  clear hu hv
  have HB0 := hide ((((Below.refl _ W).alloc (Nat.le_refl _) (Obj.cells #[Value.int IntKind.i64 (a : Nat), .int .i64 (b : Nat)] 117)).alloc (by simp) (Obj.cells #[Value.int IntKind.i64 (a' : Nat), .int .i64 (b' : Nat)] 117)).alloc (by simp; omega) (Obj.cells #[Value.int IntKind.i64 0, .int .i64 0] 117))
  have HX0 := hide (((Blk.new W 117 [.int .i64 (a : Nat), .int .i64 (b : Nat)]).alloc (Obj.cells #[Value.int IntKind.i64 (a' : Nat), .int .i64 (b' : Nat)] 117)).alloc (Obj.cells #[Value.int IntKind.i64 0, .int .i64 0] 117))
  have HY0 : Hid (Blk (((W.alloc (Obj.cells #[Value.int IntKind.i64 (a : Nat), .int .i64 (b : Nat)] 117)).alloc (Obj.cells #[Value.int IntKind.i64 (a' : Nat), .int .i64 (b' : Nat)] 117)).alloc (Obj.cells #[Value.int IntKind.i64 0, .int .i64 0] 117)) (W.heap.size + 1) 117 [.int .i64 (a' : Nat), .int .i64 (b' : Nat)]) := hide (by have h := (Blk.new (W.alloc (Obj.cells #[Value.int IntKind.i64 (a : Nat), .int .i64 (b : Nat)] 117)) 117 [.int .i64 (a' : Nat), .int .i64 (b' : Nat)]).alloc (Obj.cells #[Value.int IntKind.i64 0, .int .i64 0] 117); simpa using h)
  have HR0 : Hid (Blk (((W.alloc (Obj.cells #[Value.int IntKind.i64 (a : Nat), .int .i64 (b : Nat)] 117)).alloc (Obj.cells #[Value.int IntKind.i64 (a' : Nat), .int .i64 (b' : Nat)] 117)).alloc (Obj.cells #[Value.int IntKind.i64 0, .int .i64 0] 117)) (W.heap.size + 1 + 1) 117 [.int .i64 0, .int .i64 0]) := hide (by have h := Blk.new ((W.alloc (Obj.cells #[Value.int IntKind.i64 (a : Nat), .int .i64 (b : Nat)] 117)).alloc (Obj.cells #[Value.int IntKind.i64 (a' : Nat), .int .i64 (b' : Nat)] 117)) 117 [.int .i64 0, .int .i64 0]; simpa using h)
  go_enter Try.func108, Try.ntmps108
  go_upto_region 1 with fail
  refine wp_gen fun w8 hw8 => ?_
  have HBc : Hid (Below W.heap.size W w8) := hide (by rw [hw8]; exact HB0.out)
  have HXc : Hid (Blk w8 W.heap.size 117 [.int .i64 (a : Nat), .int .i64 (b : Nat)]) := hide (by rw [hw8]; exact HX0.out)
  have HYc : Hid (Blk w8 (W.heap.size + 1) 117 [.int .i64 (a' : Nat), .int .i64 (b' : Nat)]) := hide (by rw [hw8]; exact HY0.out)
  have HRc : Hid (Blk w8 (W.heap.size + 1 + 1) 117 [.int .i64 0, .int .i64 0]) := hide (by rw [hw8]; exact HR0.out)
  clear hw8 HB0 HX0 HY0 HR0
  have hbml := HM.out.lt
  have hbsl := HS.out.lt
  have ne1 : W.heap.size ≠ W.heap.size + 1 + 1 := by omega
  have ne2 : W.heap.size + 1 ≠ W.heap.size + 1 + 1 := by omega
  have ne3 : bm ≠ W.heap.size + 1 + 1 := by omega
  have ne7 : bs ≠ W.heap.size + 1 + 1 := by omega
  have ne4 := ne1.symm
  have ne5 := ne2.symm
  have ne6 := ne3.symm
  have ne8 := ne7.symm
  have tok0 : True := trivial
  have x0 := HXc.out.cell 0 _ rfl; have x1 := HXc.out.cell 1 _ rfl; have y0 := HYc.out.cell 0 _ rfl; have y1 := HYc.out.cell 1 _ rfl; have m0 := (HM.out.later HBc.out).cell 0 _ rfl; have s0 := (HS.out.later HBc.out).cell 0 _ rfl; have r0 := HRc.out.cell 0 _ rfl; have r1 := HRc.out.cell 1 _ rfl; have r2 := HRc.out.frozen 0; have r3 := HRc.out.frozen 1
  clear r0 r1 r2 r3
  go_region_held3 (fun w' => w'.cell? ⟨W.heap.size, 0, none⟩ = some (.int .i64 (a : Nat)) ∧ w'.cell? ⟨W.heap.size, 1, none⟩ = some (.int .i64 (b : Nat)) ∧ w'.cell? ⟨W.heap.size + 1, 0, none⟩ = some (.int .i64 (a' : Nat)) ∧ w'.cell? ⟨W.heap.size + 1, 1, none⟩ = some (.int .i64 (b' : Nat)) ∧ w'.cell? ⟨bm, 0, none⟩ = some (.slice A n c) ∧ w'.cell? ⟨bs, 0, none⟩ = some (.slice C q c2)) (first | exact ⟨x0, x1, y0, y1, m0, s0⟩ | go_keep) (first | (go_at_call 109; have _t := tok0; clear _t tok0; go_must (refine calls_gen fun wc hwc => ?_; (first | have hbx := drew_below hwc | have hbx := eq_below hwc); replace HBc := hide (HBc.out.trans (hbx.mono HBc.out.size)); replace HXc := hide (HXc.out.later hbx); replace HYc := hide (HYc.out.later hbx); replace HRc := hide (HRc.out.later hbx); clear hwc hbx; refine (gprod_any _ n _ f a a' u _ HN.out HT.out (HR1.out.later HBc.out) e1 e2 HU.out).mono ?_; rintro e wd ⟨rfl, hbd⟩; replace HBc := hide (HBc.out.trans (hbd.mono HBc.out.size)); replace HXc := hide (HXc.out.later hbd); replace HYc := hide (HYc.out.later hbd); replace HRc := hide (HRc.out.later hbd); clear hbd; have x0 := HXc.out.cell 0 _ rfl; have x1 := HXc.out.cell 1 _ rfl; have y0 := HYc.out.cell 0 _ rfl; have y1 := HYc.out.cell 1 _ rfl; have m0 := (HM.out.later HBc.out).cell 0 _ rfl; have s0 := (HS.out.later HBc.out).cell 0 _ rfl; have r0 := HRc.out.cell 0 _ rfl; have r1 := HRc.out.cell 1 _ rfl; have r2 := HRc.out.frozen 0; have r3 := HRc.out.frozen 1)) | (go_at_call 109; go_must (refine calls_gen fun wc hwc => ?_; (first | have hbx := drew_below hwc | have hbx := eq_below hwc); replace HBc := hide (HBc.out.trans (hbx.mono HBc.out.size)); replace HXc := hide (HXc.out.later hbx); replace HYc := hide (HYc.out.later hbx); replace HRc := hide (HRc.out.later hbx); clear hwc hbx; refine (gprod_any _ q _ g b b' v _ HQ.out HT2.out (HR2.out.later HBc.out) e3 e4 HV.out).mono ?_; rintro e wd ⟨rfl, hbd⟩; replace HBc := hide (HBc.out.trans (hbd.mono HBc.out.size)); replace HXc := hide (HXc.out.later hbd); replace HYc := hide (HYc.out.later hbd); replace HRc := hide (HRc.out.later hbd); clear hbd; have x0 := HXc.out.cell 0 _ rfl; have x1 := HXc.out.cell 1 _ rfl; have y0 := HYc.out.cell 0 _ rfl; have y1 := HYc.out.cell 1 _ rfl; have m0 := (HM.out.later HBc.out).cell 0 _ rfl; have s0 := (HS.out.later HBc.out).cell 0 _ rfl; have r0 := HRc.out.cell 0 _ rfl; have r1 := HRc.out.cell 1 _ rfl; have r2 := HRc.out.frozen 0; have r3 := HRc.out.frozen 1)))
  all_goals
    clear x0 x1 y0 y1 m0 s0
    go_wp2_with fail
    refine bp_gen fun wf hwf => ?_
    have HRF : Blk wf (W.heap.size + 1 + 1) 117 [.int .i64 (u : Nat), .int .i64 (v : Nat)] := by rw [hwf]; exact (HRc.out.set 0 _).set 1 _
    have hbf : Below W.heap.size W wf := by rw [hwf]; exact (HBc.out.setCell (p := ⟨W.heap.size + 1 + 1, 0, none⟩) (by show W.heap.size ≤ W.heap.size + 1 + 1; omega) _).setCell (p := ⟨W.heap.size + 1 + 1, 1, none⟩) (by show W.heap.size ≤ W.heap.size + 1 + 1; omega) _
    have q0 := HRF.cell 0 _ rfl
    have q1 := HRF.cell 1 _ rfl
    clear hwf
    exact bodyPost_ret (v := .agg #[.int .i64 (u : Nat), .int .i64 (v : Nat)]) (by simp [results, Try.results108, go_sem, q0, q1]) rfl ⟨rfl, hbf⟩
end Go.Proofs.Ytelildgngkajnaa
