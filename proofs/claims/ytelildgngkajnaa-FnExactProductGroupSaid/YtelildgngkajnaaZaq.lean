import Derived.Test.YtelildgngkajnaaZap
import Derived.Test.YtelildgngkajnaaZan
import Derived.Test.YtelildgngkajnaaZv
import Derived.Test.YtelildgngkajnaaZad
namespace Go.Proofs.Ytelildgngkajnaa
open Go Go.RowKit
set_option maxHeartbeats 4000000
set_option maxRecDepth 100000 in
theorem pgwI (A : Option Addr) (n c : Nat) (f : List (List Int)) (C : Option Addr) (q c2 : Nat) (g : List (List Int)) (zs : List (List Int)) (code : Int) (k : Nat) (w : World) (hn : f.length = n) (hbn : n ≤ 1048576) (hbs : ∀ i, i < f.length → (f.getD i []).length ≤ 1048576) (hr : Rd2 w A f) (hq : g.length = q) (hbq : q ≤ 1048576) (hbs2 : ∀ i, i < g.length → (g.getD i []).length ≤ 1048576) (hr2 : Rd2 w C g) (hres : PgRes f g zs code) (hk : zs.length = k) :
    Calls Try.prog 23 #[.agg #[.slice A n c], .agg #[.slice C q c2]] w (fun e w' => ∃ A' c', e = .returned (.tuple #[.agg #[.slice A' k c'], .int .i64 code]) ∧ Below w.heap.size w w' ∧ Obj2 48 2 w.heap.size w'.heap.size w' A' zs) := by
  have HN := hide hn
  have HQ := hide hq
  have HBSF := hide hbs
  have HBSG := hide hbs2
  have HF := hide hr
  have HF2 := hide hr2
  have HB0 := hide ((((Below.refl _ w).alloc (Nat.le_refl _) (Obj.cells #[Value.slice A n c] 24)).alloc (by simp) (Obj.cells #[Value.slice C q c2] 24)).alloc (by simp; omega) (Obj.cells #[.slice none 0 0] 24))
  have HG0 := hide (((Blk.new w 24 [.slice A n c]).alloc (Obj.cells #[Value.slice C q c2] 24)).alloc (Obj.cells #[.slice none 0 0] 24))
  have HH0 : Hid (Blk (((w.alloc (Obj.cells #[Value.slice A n c] 24)).alloc (Obj.cells #[Value.slice C q c2] 24)).alloc (Obj.cells #[.slice none 0 0] 24)) (w.heap.size + 1) 24 [.slice C q c2]) := hide (by have h := (Blk.new (w.alloc (Obj.cells #[Value.slice A n c] 24)) 24 [.slice C q c2]).alloc (Obj.cells #[.slice none 0 0] 24); simpa using h)
  have HR0 : Hid (Blk (((w.alloc (Obj.cells #[Value.slice A n c] 24)).alloc (Obj.cells #[Value.slice C q c2] 24)).alloc (Obj.cells #[.slice none 0 0] 24)) (w.heap.size + 1 + 1) 24 [.slice none 0 0]) := hide (by have h := Blk.new ((w.alloc (Obj.cells #[Value.slice A n c] 24)).alloc (Obj.cells #[Value.slice C q c2] 24)) 24 [.slice none 0 0]; simpa using h)
  rcases hres with ⟨⟨hg1, hg2⟩, hle, rfl, rfl⟩ | ⟨⟨hg1, hg2⟩, hle, rfl, rfl⟩ | ⟨hno, rfl, rfl⟩
  · have h1n := (hg1.pos hn).1
    have h12n := (hg1.pos hn).2
    have h1q := (hg2.pos hq).1
    have h12q := (hg2.pos hq).2
    have HGF := hide hg1
    have HGG := hide hg2
    rw [hn, hq] at hle
    obtain ⟨sz, hsz⟩ : ∃ sz, n * q = sz := ⟨_, rfl⟩
    rw [hsz] at hle
    have hsz144 : sz ≤ 144 := by rw [← hsz]; exact Nat.mul_le_mul h12n h12q
    have hszi : (n : Int) * (q : Int) = (sz : Int) := by rw [← hsz]; simp
    have hszw : IntKind.i64.wrap (sz : Int) = (sz : Int) := IntWalk.i64_in _ (by omega)
    have HSZ := hide hsz
    have hkk : sz = k := by rw [← hk, grid_length, hn, hq, hsz]
    subst hkk
    have HZS : Hid (grid (f.length * g.length) (pdH f g g.length) = grid sz (pdH f g q)) := hide (by rw [hn, hq, hsz])
    rw [HZS.out]
    clear hn hq hbs hbs2 hr hr2 hg1 hg2 hsz hk
    go_enter Try.func23, Try.ntmps23
    have k0 := HG0.out.cell 0 _ rfl
    have k1 := HH0.out.cell 0 _ rfl
    go_wp2_with fail
    clear k0 k1
    refine (isGrp_any _ _ _ f true _ HN.out hbn HBSF.out (HF.out.later HB0.out) ⟨fun _ => HGF.out, fun _ => rfl⟩).mono ?_
    rintro e w1 ⟨rfl, hb1⟩
    have HB1 := hide (HB0.out.trans (hb1.mono HB0.out.size))
    have HG1 := hide (HG0.out.later hb1)
    have HH1 := hide (HH0.out.later hb1)
    have HR1 := hide (HR0.out.later hb1)
    clear hb1
    have k0 := HG1.out.cell 0 _ rfl
    have k1 := HH1.out.cell 0 _ rfl
    go_wp2_with fail
    clear k0 k1
    refine (isGrp_any _ _ _ g true _ HQ.out hbq HBSG.out (HF2.out.later HB1.out) ⟨fun _ => HGG.out, fun _ => rfl⟩).mono ?_
    rintro e w2 ⟨rfl, hb1⟩
    have HB2 := hide (HB1.out.trans (hb1.mono HB1.out.size))
    have HG2 := hide (HG1.out.later hb1)
    have HH2 := hide (HH1.out.later hb1)
    have HR2 := hide (HR1.out.later hb1)
    clear hb1
    have HBc := HB2
    have HGc := HG2
    have HHc := HH2
    have HRc := HR2
    have k0 := HGc.out.cell 0 _ rfl
    have k1 := HHc.out.cell 0 _ rfl
    have tok0 : True := trivial
    go_wp2_with fail
    go_region_held3 (fun w' => w'.cell? ⟨w.heap.size, 0, none⟩ = some (.slice A n c) ∧ w'.cell? ⟨w.heap.size + 1, 0, none⟩ = some (.slice C q c2)) (first | exact ⟨k0, k1⟩ | go_keep) (first | (go_at_call 62; have _t := tok0; clear _t tok0; go_must (refine calls_gen fun wc hwc => ?_; (first | have hbx := drew_below hwc | have hbx := eq_below hwc); replace HBc := hide (HBc.out.trans (hbx.mono HBc.out.size)); replace HGc := hide (HGc.out.later hbx); replace HHc := hide (HHc.out.later hbx); replace HRc := hide (HRc.out.later hbx); clear hwc hbx; refine (gsize_any _ n _ _ (by omega)).mono ?_; rintro e wd ⟨rfl, hbd⟩; replace HBc := hide (HBc.out.trans (hbd.mono HBc.out.size)); replace HGc := hide (HGc.out.later hbd); replace HHc := hide (HHc.out.later hbd); replace HRc := hide (HRc.out.later hbd); clear hbd; have k0 := HGc.out.cell 0 _ rfl; have k1 := HHc.out.cell 0 _ rfl)) | (go_at_call 62; go_must (refine calls_gen fun wc hwc => ?_; (first | have hbx := drew_below hwc | have hbx := eq_below hwc); replace HBc := hide (HBc.out.trans (hbx.mono HBc.out.size)); replace HGc := hide (HGc.out.later hbx); replace HHc := hide (HHc.out.later hbx); replace HRc := hide (HRc.out.later hbx); clear hwc hbx; refine (gsize_any _ q _ _ (by omega)).mono ?_; rintro e wd ⟨rfl, hbd⟩; replace HBc := hide (HBc.out.trans (hbd.mono HBc.out.size)); replace HGc := hide (HGc.out.later hbd); replace HHc := hide (HHc.out.later hbd); replace HRc := hide (HRc.out.later hbd); clear hbd; have k0 := HGc.out.cell 0 _ rfl; have k1 := HHc.out.cell 0 _ rfl)))
    all_goals
      clear k0 k1
      have k0 := HGc.out.cell 0 _ rfl
      have k1 := HHc.out.cell 0 _ rfl
      go_wp2_with fail
      clear k0 k1
      refine (pgI_any A n c f C q c2 g sz _ HN.out HGF.out.tbl (HF.out.later HBc.out) HQ.out HGG.out.tbl (HF2.out.later HBc.out) HSZ.out hle).mono ?_
      rintro e w3 ⟨A3, c3, rfl, hb3, ho3⟩
      have HB3 := hide (HBc.out.trans (hb3.mono HBc.out.size))
      have HR3 := hide (HRc.out.later hb3)
      have HO3 := hide ho3
      have hlow := HRc.out.lt
      clear hb3 ho3
      have k2 := HR3.out.cell 0 _ rfl
      have k3 := HR3.out.frozen 0
      go_wp2_with fail
      refine bp_gen fun wf hwf => ?_
      obtain ⟨q0, hbf, hof⟩ := kend hwf HR3.out (by omega) HB3.out HO3.out (by omega) hlow (Nat.le_refl _)
      clear hwf k2 k3
      exact bodyPost_ret (v := .tuple #[.agg #[.slice A3 sz c3], .int .i64 0]) (by simp [results, Try.results23, go_sem, q0]) rfl ⟨_, _, rfl, hbf, hof⟩
  · have h1n := (hg1.pos hn).1
    have h12n := (hg1.pos hn).2
    have h1q := (hg2.pos hq).1
    have h12q := (hg2.pos hq).2
    have HGF := hide hg1
    have HGG := hide hg2
    rw [hn, hq] at hle
    obtain ⟨sz, hsz⟩ : ∃ sz, n * q = sz := ⟨_, rfl⟩
    rw [hsz] at hle
    have hsz144 : sz ≤ 144 := by rw [← hsz]; exact Nat.mul_le_mul h12n h12q
    have hszi : (n : Int) * (q : Int) = (sz : Int) := by rw [← hsz]; simp
    have hszw : IntKind.i64.wrap (sz : Int) = (sz : Int) := IntWalk.i64_in _ (by omega)
    have HSZ := hide hsz
    have hk0 : k = 0 := by rw [← hk]; rfl
    subst hk0
    have hgt : (12 : Int) < sz := by omega
    clear hn hq hbs hbs2 hr hr2 hg1 hg2 hsz hk hle
    go_enter Try.func23, Try.ntmps23
    have k0 := HG0.out.cell 0 _ rfl
    have k1 := HH0.out.cell 0 _ rfl
    go_wp2_with fail
    clear k0 k1
    refine (isGrp_any _ _ _ f true _ HN.out hbn HBSF.out (HF.out.later HB0.out) ⟨fun _ => HGF.out, fun _ => rfl⟩).mono ?_
    rintro e w1 ⟨rfl, hb1⟩
    have HB1 := hide (HB0.out.trans (hb1.mono HB0.out.size))
    have HG1 := hide (HG0.out.later hb1)
    have HH1 := hide (HH0.out.later hb1)
    have HR1 := hide (HR0.out.later hb1)
    clear hb1
    have k0 := HG1.out.cell 0 _ rfl
    have k1 := HH1.out.cell 0 _ rfl
    go_wp2_with fail
    clear k0 k1
    refine (isGrp_any _ _ _ g true _ HQ.out hbq HBSG.out (HF2.out.later HB1.out) ⟨fun _ => HGG.out, fun _ => rfl⟩).mono ?_
    rintro e w2 ⟨rfl, hb1⟩
    have HB2 := hide (HB1.out.trans (hb1.mono HB1.out.size))
    have HG2 := hide (HG1.out.later hb1)
    have HH2 := hide (HH1.out.later hb1)
    have HR2 := hide (HR1.out.later hb1)
    clear hb1
    have HBc := HB2
    have HGc := HG2
    have HHc := HH2
    have HRc := HR2
    have k0 := HGc.out.cell 0 _ rfl
    have k1 := HHc.out.cell 0 _ rfl
    have tok0 : True := trivial
    go_wp2_with fail
    go_region_held3 (fun w' => w'.cell? ⟨w.heap.size, 0, none⟩ = some (.slice A n c) ∧ w'.cell? ⟨w.heap.size + 1, 0, none⟩ = some (.slice C q c2)) (first | exact ⟨k0, k1⟩ | go_keep) (first | (go_at_call 62; have _t := tok0; clear _t tok0; go_must (refine calls_gen fun wc hwc => ?_; (first | have hbx := drew_below hwc | have hbx := eq_below hwc); replace HBc := hide (HBc.out.trans (hbx.mono HBc.out.size)); replace HGc := hide (HGc.out.later hbx); replace HHc := hide (HHc.out.later hbx); replace HRc := hide (HRc.out.later hbx); clear hwc hbx; refine (gsize_any _ n _ _ (by omega)).mono ?_; rintro e wd ⟨rfl, hbd⟩; replace HBc := hide (HBc.out.trans (hbd.mono HBc.out.size)); replace HGc := hide (HGc.out.later hbd); replace HHc := hide (HHc.out.later hbd); replace HRc := hide (HRc.out.later hbd); clear hbd; have k0 := HGc.out.cell 0 _ rfl; have k1 := HHc.out.cell 0 _ rfl)) | (go_at_call 62; go_must (refine calls_gen fun wc hwc => ?_; (first | have hbx := drew_below hwc | have hbx := eq_below hwc); replace HBc := hide (HBc.out.trans (hbx.mono HBc.out.size)); replace HGc := hide (HGc.out.later hbx); replace HHc := hide (HHc.out.later hbx); replace HRc := hide (HRc.out.later hbx); clear hwc hbx; refine (gsize_any _ q _ _ (by omega)).mono ?_; rintro e wd ⟨rfl, hbd⟩; replace HBc := hide (HBc.out.trans (hbd.mono HBc.out.size)); replace HGc := hide (HGc.out.later hbd); replace HHc := hide (HHc.out.later hbd); replace HRc := hide (HRc.out.later hbd); clear hbd; have k0 := HGc.out.cell 0 _ rfl; have k1 := HHc.out.cell 0 _ rfl)))
    all_goals
      clear k0 k1
      have k2 := HRc.out.cell 0 _ rfl
      have k3 := HRc.out.frozen 0
      go_wp2_with fail
      refine bp_gen fun wf hwf => ?_
      have HRF : Blk wf (w.heap.size + 1 + 1) 24 [.slice none 0 0] := by rw [hwf]; first | exact HRc.out | exact HRc.out.set 0 _
      have hbf : Below w.heap.size w wf := by rw [hwf]; first | exact HBc.out | exact HBc.out.setCell (p := ⟨w.heap.size + 1 + 1, 0, none⟩) (by show w.heap.size ≤ w.heap.size + 1 + 1; omega) _
      have q0 := HRF.cell 0 _ rfl
      clear hwf k2 k3
      first
        | exact bodyPost_ret (v := .tuple #[.agg #[.slice none 0 0], .int .i64 3]) (by simp [results, Try.results23, go_sem, q0]) rfl ⟨_, _, rfl, hbf, .inl ⟨rfl, rfl⟩⟩
        | exact bodyPost_ret (v := .tuple #[.agg #[.slice none 0 0], .int .i64 3]) (by simp [results, Try.results23, go_sem, q0]) rfl ⟨_, ⟨_, rfl⟩, hbf, .inl ⟨rfl, rfl⟩⟩
  · have hk0 : k = 0 := by rw [← hk]; rfl
    subst hk0
    clear hk
    by_cases hg1 : Grp f
    · have HGF := hide hg1
      have HGG : Hid (¬ Grp g) := hide fun h => hno ⟨hg1, h⟩
      clear hn hq hbs hbs2 hr hr2 hg1 hno
      go_enter Try.func23, Try.ntmps23
      have k0 := HG0.out.cell 0 _ rfl
      have k1 := HH0.out.cell 0 _ rfl
      go_wp2_with fail
      clear k0 k1
      refine (isGrp_any _ _ _ f true _ HN.out hbn HBSF.out (HF.out.later HB0.out) ⟨fun _ => HGF.out, fun _ => rfl⟩).mono ?_
      rintro e w1 ⟨rfl, hb1⟩
      have HB1 := hide (HB0.out.trans (hb1.mono HB0.out.size))
      have HG1 := hide (HG0.out.later hb1)
      have HH1 := hide (HH0.out.later hb1)
      have HR1 := hide (HR0.out.later hb1)
      clear hb1
      have k0 := HG1.out.cell 0 _ rfl
      have k1 := HH1.out.cell 0 _ rfl
      go_wp2_with fail
      clear k0 k1
      refine (isGrp_any _ _ _ g false _ HQ.out hbq HBSG.out (HF2.out.later HB1.out) ⟨fun h => (by cases h), fun h => absurd h HGG.out⟩).mono ?_
      rintro e w2 ⟨rfl, hb1⟩
      have HB2 := hide (HB1.out.trans (hb1.mono HB1.out.size))
      have HG2 := hide (HG1.out.later hb1)
      have HH2 := hide (HH1.out.later hb1)
      have HR2 := hide (HR1.out.later hb1)
      clear hb1
      have k2 := HR2.out.cell 0 _ rfl
      have k3 := HR2.out.frozen 0
      go_wp2_with fail
      refine bp_gen fun wf hwf => ?_
      have HRF : Blk wf (w.heap.size + 1 + 1) 24 [.slice none 0 0] := by rw [hwf]; first | exact HR2.out | exact HR2.out.set 0 _
      have hbf : Below w.heap.size w wf := by rw [hwf]; first | exact HB2.out | exact HB2.out.setCell (p := ⟨w.heap.size + 1 + 1, 0, none⟩) (by show w.heap.size ≤ w.heap.size + 1 + 1; omega) _
      have q0 := HRF.cell 0 _ rfl
      clear hwf k2 k3
      first
        | exact bodyPost_ret (v := .tuple #[.agg #[.slice none 0 0], .int .i64 1]) (by simp [results, Try.results23, go_sem, q0]) rfl ⟨_, _, rfl, hbf, .inl ⟨rfl, rfl⟩⟩
        | exact bodyPost_ret (v := .tuple #[.agg #[.slice none 0 0], .int .i64 1]) (by simp [results, Try.results23, go_sem, q0]) rfl ⟨_, ⟨_, rfl⟩, hbf, .inl ⟨rfl, rfl⟩⟩
    · have HGF := hide hg1
      clear hn hq hbs hbs2 hr hr2 hg1 hno
      go_enter Try.func23, Try.ntmps23
      have k0 := HG0.out.cell 0 _ rfl
      have k1 := HH0.out.cell 0 _ rfl
      go_wp2_with fail
      clear k0 k1
      refine (isGrp_any _ _ _ f false _ HN.out hbn HBSF.out (HF.out.later HB0.out) ⟨fun h => (by cases h), fun h => absurd h HGF.out⟩).mono ?_
      rintro e w1 ⟨rfl, hb1⟩
      have HB1 := hide (HB0.out.trans (hb1.mono HB0.out.size))
      have HG1 := hide (HG0.out.later hb1)
      have HH1 := hide (HH0.out.later hb1)
      have HR1 := hide (HR0.out.later hb1)
      clear hb1
      have k2 := HR1.out.cell 0 _ rfl
      have k3 := HR1.out.frozen 0
      go_wp2_with fail
      refine bp_gen fun wf hwf => ?_
      have HRF : Blk wf (w.heap.size + 1 + 1) 24 [.slice none 0 0] := by rw [hwf]; first | exact HR1.out | exact HR1.out.set 0 _
      have hbf : Below w.heap.size w wf := by rw [hwf]; first | exact HB1.out | exact HB1.out.setCell (p := ⟨w.heap.size + 1 + 1, 0, none⟩) (by show w.heap.size ≤ w.heap.size + 1 + 1; omega) _
      have q0 := HRF.cell 0 _ rfl
      clear hwf k2 k3
      first
        | exact bodyPost_ret (v := .tuple #[.agg #[.slice none 0 0], .int .i64 1]) (by simp [results, Try.results23, go_sem, q0]) rfl ⟨_, _, rfl, hbf, .inl ⟨rfl, rfl⟩⟩
        | exact bodyPost_ret (v := .tuple #[.agg #[.slice none 0 0], .int .i64 1]) (by simp [results, Try.results23, go_sem, q0]) rfl ⟨_, ⟨_, rfl⟩, hbf, .inl ⟨rfl, rfl⟩⟩
set_option maxRecDepth 100000 in
theorem pgwS (A : Option Addr) (n c : Nat) (f : List (List Int)) (C : Option Addr) (q c2 : Nat) (g : List (List Int)) (zs : List (List Int)) (code : Int) (k : Nat) (w : World) (hn : f.length = n) (hbn : n ≤ 1048576) (hbs : ∀ i, i < f.length → (f.getD i []).length ≤ 1048576) (hr : Rd2 w A f) (hq : g.length = q) (hbq : q ≤ 1048576) (hbs2 : ∀ i, i < g.length → (g.getD i []).length ≤ 1048576) (hr2 : Rd2 w C g) (hres : PgRes f g zs code) (hk : zs.length = k) :
    Calls Try.prog 21 #[.agg #[.slice A n c], .agg #[.slice C q c2]] w (fun e w' => ∃ A' c', e = .returned (.tuple #[.agg #[.slice A' k c'], .int .i64 code]) ∧ Below w.heap.size w w' ∧ Obj2 48 2 w.heap.size w'.heap.size w' A' zs) := by
  have HN := hide hn
  have HQ := hide hq
  have HBSF := hide hbs
  have HBSG := hide hbs2
  have HF := hide hr
  have HF2 := hide hr2
  have HB0 := hide ((((Below.refl _ w).alloc (Nat.le_refl _) (Obj.cells #[Value.slice A n c] 24)).alloc (by simp) (Obj.cells #[Value.slice C q c2] 24)).alloc (by simp; omega) (Obj.cells #[.slice none 0 0] 24))
  have HG0 := hide (((Blk.new w 24 [.slice A n c]).alloc (Obj.cells #[Value.slice C q c2] 24)).alloc (Obj.cells #[.slice none 0 0] 24))
  have HH0 : Hid (Blk (((w.alloc (Obj.cells #[Value.slice A n c] 24)).alloc (Obj.cells #[Value.slice C q c2] 24)).alloc (Obj.cells #[.slice none 0 0] 24)) (w.heap.size + 1) 24 [.slice C q c2]) := hide (by have h := (Blk.new (w.alloc (Obj.cells #[Value.slice A n c] 24)) 24 [.slice C q c2]).alloc (Obj.cells #[.slice none 0 0] 24); simpa using h)
  have HR0 : Hid (Blk (((w.alloc (Obj.cells #[Value.slice A n c] 24)).alloc (Obj.cells #[Value.slice C q c2] 24)).alloc (Obj.cells #[.slice none 0 0] 24)) (w.heap.size + 1 + 1) 24 [.slice none 0 0]) := hide (by have h := Blk.new ((w.alloc (Obj.cells #[Value.slice A n c] 24)).alloc (Obj.cells #[Value.slice C q c2] 24)) 24 [.slice none 0 0]; simpa using h)
  rcases hres with ⟨⟨hg1, hg2⟩, hle, rfl, rfl⟩ | ⟨⟨hg1, hg2⟩, hle, rfl, rfl⟩ | ⟨hno, rfl, rfl⟩
  · have h1n := (hg1.pos hn).1
    have h12n := (hg1.pos hn).2
    have h1q := (hg2.pos hq).1
    have h12q := (hg2.pos hq).2
    have HGF := hide hg1
    have HGG := hide hg2
    rw [hn, hq] at hle
    obtain ⟨sz, hsz⟩ : ∃ sz, n * q = sz := ⟨_, rfl⟩
    rw [hsz] at hle
    have hsz144 : sz ≤ 144 := by rw [← hsz]; exact Nat.mul_le_mul h12n h12q
    have hszi : (n : Int) * (q : Int) = (sz : Int) := by rw [← hsz]; simp
    have hszw : IntKind.i64.wrap (sz : Int) = (sz : Int) := IntWalk.i64_in _ (by omega)
    have HSZ := hide hsz
    have hkk : sz = k := by rw [← hk, grid_length, hn, hq, hsz]
    subst hkk
    have HZS : Hid (grid (f.length * g.length) (pdH f g g.length) = grid sz (pdH f g q)) := hide (by rw [hn, hq, hsz])
    rw [HZS.out]
    clear hn hq hbs hbs2 hr hr2 hg1 hg2 hsz hk
    go_enter Try.func21, Try.ntmps21
    have k0 := HG0.out.cell 0 _ rfl
    have k1 := HH0.out.cell 0 _ rfl
    go_wp2_with fail
    clear k0 k1
    refine (gq_below (isGrpS_any _ _ _ f true _ HN.out hbn HBSF.out (HF.out.later HB0.out) ⟨fun _ => HGF.out, fun _ => rfl⟩)).mono ?_
    rintro e w1 ⟨rfl, hb1⟩
    have HB1 := hide (HB0.out.trans (hb1.mono HB0.out.size))
    have HG1 := hide (HG0.out.later hb1)
    have HH1 := hide (HH0.out.later hb1)
    have HR1 := hide (HR0.out.later hb1)
    clear hb1
    have k0 := HG1.out.cell 0 _ rfl
    have k1 := HH1.out.cell 0 _ rfl
    go_wp2_with fail
    clear k0 k1
    refine (gq_below (isGrpS_any _ _ _ g true _ HQ.out hbq HBSG.out (HF2.out.later HB1.out) ⟨fun _ => HGG.out, fun _ => rfl⟩)).mono ?_
    rintro e w2 ⟨rfl, hb1⟩
    have HB2 := hide (HB1.out.trans (hb1.mono HB1.out.size))
    have HG2 := hide (HG1.out.later hb1)
    have HH2 := hide (HH1.out.later hb1)
    have HR2 := hide (HR1.out.later hb1)
    clear hb1
    have HBc := HB2
    have HGc := HG2
    have HHc := HH2
    have HRc := HR2
    have k0 := HGc.out.cell 0 _ rfl
    have k1 := HHc.out.cell 0 _ rfl
    skip
    all_goals
      clear k0 k1
      have k0 := HGc.out.cell 0 _ rfl
      have k1 := HHc.out.cell 0 _ rfl
      go_wp2_with fail
      clear k0 k1
      refine (l04Product_any A n c f C q c2 g sz _ HN.out HGF.out.tbl (HF.out.later HBc.out) HQ.out HGG.out.tbl (HF2.out.later HBc.out) HSZ.out hle).mono ?_
      rintro e w3 ⟨A3, c3, rfl, hb3, ho3⟩
      have HB3 := hide (HBc.out.trans (hb3.mono HBc.out.size))
      have HR3 := hide (HRc.out.later hb3)
      have HO3 := hide ho3
      have hlow := HRc.out.lt
      clear hb3 ho3
      have k2 := HR3.out.cell 0 _ rfl
      have k3 := HR3.out.frozen 0
      go_wp2_with fail
      refine bp_gen fun wf hwf => ?_
      obtain ⟨q0, hbf, hof⟩ := kend hwf HR3.out (by omega) HB3.out HO3.out (by omega) hlow (Nat.le_refl _)
      clear hwf k2 k3
      exact bodyPost_ret (v := .tuple #[.agg #[.slice A3 sz c3], .int .i64 0]) (by simp [results, Try.results21, go_sem, q0]) rfl ⟨_, _, rfl, hbf, hof⟩
  · have h1n := (hg1.pos hn).1
    have h12n := (hg1.pos hn).2
    have h1q := (hg2.pos hq).1
    have h12q := (hg2.pos hq).2
    have HGF := hide hg1
    have HGG := hide hg2
    rw [hn, hq] at hle
    obtain ⟨sz, hsz⟩ : ∃ sz, n * q = sz := ⟨_, rfl⟩
    rw [hsz] at hle
    have hsz144 : sz ≤ 144 := by rw [← hsz]; exact Nat.mul_le_mul h12n h12q
    have hszi : (n : Int) * (q : Int) = (sz : Int) := by rw [← hsz]; simp
    have hszw : IntKind.i64.wrap (sz : Int) = (sz : Int) := IntWalk.i64_in _ (by omega)
    have HSZ := hide hsz
    have hk0 : k = 0 := by rw [← hk]; rfl
    subst hk0
    have hgt : (12 : Int) < sz := by omega
    clear hn hq hbs hbs2 hr hr2 hg1 hg2 hsz hk hle
    go_enter Try.func21, Try.ntmps21
    have k0 := HG0.out.cell 0 _ rfl
    have k1 := HH0.out.cell 0 _ rfl
    go_wp2_with fail
    clear k0 k1
    refine (gq_below (isGrpS_any _ _ _ f true _ HN.out hbn HBSF.out (HF.out.later HB0.out) ⟨fun _ => HGF.out, fun _ => rfl⟩)).mono ?_
    rintro e w1 ⟨rfl, hb1⟩
    have HB1 := hide (HB0.out.trans (hb1.mono HB0.out.size))
    have HG1 := hide (HG0.out.later hb1)
    have HH1 := hide (HH0.out.later hb1)
    have HR1 := hide (HR0.out.later hb1)
    clear hb1
    have k0 := HG1.out.cell 0 _ rfl
    have k1 := HH1.out.cell 0 _ rfl
    go_wp2_with fail
    clear k0 k1
    refine (gq_below (isGrpS_any _ _ _ g true _ HQ.out hbq HBSG.out (HF2.out.later HB1.out) ⟨fun _ => HGG.out, fun _ => rfl⟩)).mono ?_
    rintro e w2 ⟨rfl, hb1⟩
    have HB2 := hide (HB1.out.trans (hb1.mono HB1.out.size))
    have HG2 := hide (HG1.out.later hb1)
    have HH2 := hide (HH1.out.later hb1)
    have HR2 := hide (HR1.out.later hb1)
    clear hb1
    have HBc := HB2
    have HGc := HG2
    have HHc := HH2
    have HRc := HR2
    have k0 := HGc.out.cell 0 _ rfl
    have k1 := HHc.out.cell 0 _ rfl
    skip
    all_goals
      have k2 := HRc.out.cell 0 _ rfl
      have k3 := HRc.out.frozen 0
      go_wp2_with fail
      refine bp_gen fun wf hwf => ?_
      have HRF : Blk wf (w.heap.size + 1 + 1) 24 [.slice none 0 0] := by rw [hwf]; first | exact HRc.out | exact HRc.out.set 0 _
      have hbf : Below w.heap.size w wf := by rw [hwf]; first | exact HBc.out | exact HBc.out.setCell (p := ⟨w.heap.size + 1 + 1, 0, none⟩) (by show w.heap.size ≤ w.heap.size + 1 + 1; omega) _
      have q0 := HRF.cell 0 _ rfl
      clear hwf k2 k3
      first
        | exact bodyPost_ret (v := .tuple #[.agg #[.slice none 0 0], .int .i64 3]) (by simp [results, Try.results21, go_sem, q0]) rfl ⟨_, _, rfl, hbf, .inl ⟨rfl, rfl⟩⟩
        | exact bodyPost_ret (v := .tuple #[.agg #[.slice none 0 0], .int .i64 3]) (by simp [results, Try.results21, go_sem, q0]) rfl ⟨_, ⟨_, rfl⟩, hbf, .inl ⟨rfl, rfl⟩⟩
  · have hk0 : k = 0 := by rw [← hk]; rfl
    subst hk0
    clear hk
    by_cases hg1 : Grp f
    · have HGF := hide hg1
      have HGG : Hid (¬ Grp g) := hide fun h => hno ⟨hg1, h⟩
      clear hn hq hbs hbs2 hr hr2 hg1 hno
      go_enter Try.func21, Try.ntmps21
      have k0 := HG0.out.cell 0 _ rfl
      have k1 := HH0.out.cell 0 _ rfl
      go_wp2_with fail
      clear k0 k1
      refine (gq_below (isGrpS_any _ _ _ f true _ HN.out hbn HBSF.out (HF.out.later HB0.out) ⟨fun _ => HGF.out, fun _ => rfl⟩)).mono ?_
      rintro e w1 ⟨rfl, hb1⟩
      have HB1 := hide (HB0.out.trans (hb1.mono HB0.out.size))
      have HG1 := hide (HG0.out.later hb1)
      have HH1 := hide (HH0.out.later hb1)
      have HR1 := hide (HR0.out.later hb1)
      clear hb1
      have k0 := HG1.out.cell 0 _ rfl
      have k1 := HH1.out.cell 0 _ rfl
      go_wp2_with fail
      clear k0 k1
      refine (gq_below (isGrpS_any _ _ _ g false _ HQ.out hbq HBSG.out (HF2.out.later HB1.out) ⟨fun h => (by cases h), fun h => absurd h HGG.out⟩)).mono ?_
      rintro e w2 ⟨rfl, hb1⟩
      have HB2 := hide (HB1.out.trans (hb1.mono HB1.out.size))
      have HG2 := hide (HG1.out.later hb1)
      have HH2 := hide (HH1.out.later hb1)
      have HR2 := hide (HR1.out.later hb1)
      clear hb1
      have k2 := HR2.out.cell 0 _ rfl
      have k3 := HR2.out.frozen 0
      go_wp2_with fail
      refine bp_gen fun wf hwf => ?_
      have HRF : Blk wf (w.heap.size + 1 + 1) 24 [.slice none 0 0] := by rw [hwf]; first | exact HR2.out | exact HR2.out.set 0 _
      have hbf : Below w.heap.size w wf := by rw [hwf]; first | exact HB2.out | exact HB2.out.setCell (p := ⟨w.heap.size + 1 + 1, 0, none⟩) (by show w.heap.size ≤ w.heap.size + 1 + 1; omega) _
      have q0 := HRF.cell 0 _ rfl
      clear hwf k2 k3
      first
        | exact bodyPost_ret (v := .tuple #[.agg #[.slice none 0 0], .int .i64 1]) (by simp [results, Try.results21, go_sem, q0]) rfl ⟨_, _, rfl, hbf, .inl ⟨rfl, rfl⟩⟩
        | exact bodyPost_ret (v := .tuple #[.agg #[.slice none 0 0], .int .i64 1]) (by simp [results, Try.results21, go_sem, q0]) rfl ⟨_, ⟨_, rfl⟩, hbf, .inl ⟨rfl, rfl⟩⟩
    · have HGF := hide hg1
      clear hn hq hbs hbs2 hr hr2 hg1 hno
      go_enter Try.func21, Try.ntmps21
      have k0 := HG0.out.cell 0 _ rfl
      have k1 := HH0.out.cell 0 _ rfl
      go_wp2_with fail
      clear k0 k1
      refine (gq_below (isGrpS_any _ _ _ f false _ HN.out hbn HBSF.out (HF.out.later HB0.out) ⟨fun h => (by cases h), fun h => absurd h HGF.out⟩)).mono ?_
      rintro e w1 ⟨rfl, hb1⟩
      have HB1 := hide (HB0.out.trans (hb1.mono HB0.out.size))
      have HG1 := hide (HG0.out.later hb1)
      have HH1 := hide (HH0.out.later hb1)
      have HR1 := hide (HR0.out.later hb1)
      clear hb1
      have k2 := HR1.out.cell 0 _ rfl
      have k3 := HR1.out.frozen 0
      go_wp2_with fail
      refine bp_gen fun wf hwf => ?_
      have HRF : Blk wf (w.heap.size + 1 + 1) 24 [.slice none 0 0] := by rw [hwf]; first | exact HR1.out | exact HR1.out.set 0 _
      have hbf : Below w.heap.size w wf := by rw [hwf]; first | exact HB1.out | exact HB1.out.setCell (p := ⟨w.heap.size + 1 + 1, 0, none⟩) (by show w.heap.size ≤ w.heap.size + 1 + 1; omega) _
      have q0 := HRF.cell 0 _ rfl
      clear hwf k2 k3
      first
        | exact bodyPost_ret (v := .tuple #[.agg #[.slice none 0 0], .int .i64 1]) (by simp [results, Try.results21, go_sem, q0]) rfl ⟨_, _, rfl, hbf, .inl ⟨rfl, rfl⟩⟩
        | exact bodyPost_ret (v := .tuple #[.agg #[.slice none 0 0], .int .i64 1]) (by simp [results, Try.results21, go_sem, q0]) rfl ⟨_, ⟨_, rfl⟩, hbf, .inl ⟨rfl, rfl⟩⟩
end Go.Proofs.Ytelildgngkajnaa
