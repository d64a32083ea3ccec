import Derived.Test.YtjgjnekpdeffaaaGaI
import Derived.Test.YtjgjnekpdeffaaaByI
namespace Go.Proofs.Ytjgjnekpdeffaaa
open Go Go.RowKit
set_option maxHeartbeats 4000000

set_option maxRecDepth 100000 in
theorem co_form (n : Nat) (a : Int) (A B : Option Addr) (n1 c1 c2 : Nat) (f : List (List Int)) (w : World) (hn : f.length = n) (hg : Grp f) (hr : Rd2 w B f) : FormFn 83 (.agg #[.int .i64 n, .int .i64 a, .slice A n1 c1, .slice B n c2]) n (coH f) w := by
  have ht := hg.1.1
  have hp := hg.1.2
  have h1 : 1 ≤ n := by rw [← hn]; exact ht.1
  have h12 : n ≤ 12 := by rw [← hn]; exact ht.2.1
  intro W x y hx hy hb
  have HN := hide hn
  have HTB := hide ht
  have HP := hide hp
  have HR := hide (hr.later hb)
  have HBc := hide ((Below.refl _ W).alloc (Nat.le_refl _) (Obj.cells #[.int .i64 n, .int .i64 a, .slice A n1 c1, .slice B n c2] 59))
  have HKc := hide (Blk.new W 59 [.int .i64 n, .int .i64 a, .slice A n1 c1, .slice B n c2])
  obtain ⟨v, hv⟩ : ∃ v, bk f y = v := ⟨_, rfl⟩
  have hvn : v < n := by rw [← hv]; exact (bk_ok hn ht hp hy).1
  obtain ⟨u, hu⟩ : ∃ u, tm f x [v, x] = u := ⟨_, rfl⟩
  have HV := hide hv
  have HU := hide hu
  have hre : coH f x y = (u : Int) := by rw [← hu]; unfold coH; rw [hv]; rfl
  rw [hre]
  clear hn hg hr ht hp hb hv hu hre
  go_enter Try.func83, Try.ntmps83
  go_wp2_with fail
  refine wp_gen fun w8 hw8 => ?_
  replace HBc : Hid (Below W.heap.size W w8) := hide (by rw [hw8]; exact HBc.out)
  replace HKc : Hid (Blk w8 W.heap.size 59 [.int .i64 n, .int .i64 a, .slice A n1 c1, .slice B n c2]) := hide (by rw [hw8]; exact HKc.out)
  clear hw8
  have k0 := HKc.out.cell 3 _ rfl
  go_region_held3 (fun w' => w'.cell? ⟨W.heap.size, 3, none⟩ = some (.slice B n c2)) (first | exact k0 | go_keep) (first | (go_at_call 85; go_must (refine calls_gen fun wc hwc => ?_; (first | have hbx := drew_below hwc | have hbx := eq_below hwc); replace HBc := hide (HBc.out.trans (hbx.mono HBc.out.size)); replace HKc := hide (HKc.out.later hbx); clear hwc hbx; refine (ginv_any _ n _ f y _ HN.out HTB.out HP.out (HR.out.later HBc.out) hy).mono ?_; rintro e wd ⟨rfl, hbd⟩; rw [HV.out]; replace HBc := hide (HBc.out.trans (hbd.mono HBc.out.size)); replace HKc := hide (HKc.out.later hbd); clear hbd; have k0 := HKc.out.cell 3 _ rfl; have k9 := fun o => (HKc.out.alloc o).cell 3 _ rfl)) | (go_at_call 84; go_must (refine calls_gen fun wc hwc => ?_; have hbx : Below wd.heap.size wd wc := (by rw [hwc]; first | exact (Below.refl _ _).alloc (Nat.le_refl _) _ | exact ((Below.refl _ _).alloc (Nat.le_refl _) _).drew); have HSx : Hid (Blk wc wd.heap.size 2 [.int .i64 v, .int .i64 x]) := hide (by rw [hwc]; first | exact Blk.new _ _ _ | exact (Blk.new _ _ _).drew); replace HBc := hide (HBc.out.trans (hbx.mono HBc.out.size)); replace HKc := hide (HKc.out.later hbx); clear hwc hbx; refine (times_any _ n _ f x _ 2 [v, x] _ HN.out HTB.out (HR.out.later HBc.out) hx rfl (by intro q hq; simp at hq; rcases hq with rfl | rfl <;> omega) HSx.out (by decide)).mono ?_; rintro e wf ⟨rfl, hbd⟩; rw [HU.out]; replace HBc := hide (HBc.out.trans (hbd.mono HBc.out.size)); replace HKc := hide (HKc.out.later hbd); clear hbd; have k0 := HKc.out.cell 3 _ rfl)))
  all_goals
    clear k0
    go_wp2_with fail
    go_ret
    exact ⟨rfl, HBc.out⟩

set_option maxRecDepth 100000 in
theorem cj_form (n : Nat) (a : Int) (A B : Option Addr) (n1 c1 c2 : Nat) (f : List (List Int)) (w : World) (hn : f.length = n) (hg : Grp f) (hr : Rd2 w B f) : FormFn 86 (.agg #[.int .i64 n, .int .i64 a, .slice A n1 c1, .slice B n c2]) n (cjH f) w := by
  have ht := hg.1.1
  have hp := hg.1.2
  have h1 : 1 ≤ n := by rw [← hn]; exact ht.1
  have h12 : n ≤ 12 := by rw [← hn]; exact ht.2.1
  intro W x y hx hy hb
  have HN := hide hn
  have HTB := hide ht
  have HP := hide hp
  have HR := hide (hr.later hb)
  have HBc := hide ((Below.refl _ W).alloc (Nat.le_refl _) (Obj.cells #[.int .i64 n, .int .i64 a, .slice A n1 c1, .slice B n c2] 59))
  have HKc := hide (Blk.new W 59 [.int .i64 n, .int .i64 a, .slice A n1 c1, .slice B n c2])
  obtain ⟨v, hv⟩ : ∃ v, bk f x = v := ⟨_, rfl⟩
  have hvn : v < n := by rw [← hv]; exact (bk_ok hn ht hp hx).1
  obtain ⟨u, hu⟩ : ∃ u, tm f x [y, v] = u := ⟨_, rfl⟩
  have HV := hide hv
  have HU := hide hu
  have hre : cjH f x y = (u : Int) := by rw [← hu]; unfold cjH; rw [hv]; rfl
  rw [hre]
  clear hn hg hr ht hp hb hv hu hre
  go_enter Try.func86, Try.ntmps86
  go_wp2_with fail
  refine wp_gen fun w8 hw8 => ?_
  replace HBc : Hid (Below W.heap.size W w8) := hide (by rw [hw8]; exact HBc.out)
  replace HKc : Hid (Blk w8 W.heap.size 59 [.int .i64 n, .int .i64 a, .slice A n1 c1, .slice B n c2]) := hide (by rw [hw8]; exact HKc.out)
  clear hw8
  have k0 := HKc.out.cell 3 _ rfl
  go_region_held3 (fun w' => w'.cell? ⟨W.heap.size, 3, none⟩ = some (.slice B n c2)) (first | exact k0 | go_keep) (first | (go_at_call 85; go_must (refine calls_gen fun wc hwc => ?_; (first | have hbx := drew_below hwc | have hbx := eq_below hwc); replace HBc := hide (HBc.out.trans (hbx.mono HBc.out.size)); replace HKc := hide (HKc.out.later hbx); clear hwc hbx; refine (ginv_any _ n _ f x _ HN.out HTB.out HP.out (HR.out.later HBc.out) hx).mono ?_; rintro e wd ⟨rfl, hbd⟩; rw [HV.out]; replace HBc := hide (HBc.out.trans (hbd.mono HBc.out.size)); replace HKc := hide (HKc.out.later hbd); clear hbd; have k0 := HKc.out.cell 3 _ rfl; have k9 := fun o => (HKc.out.alloc o).cell 3 _ rfl)) | (go_at_call 84; go_must (refine calls_gen fun wc hwc => ?_; have hbx : Below wd.heap.size wd wc := (by rw [hwc]; first | exact (Below.refl _ _).alloc (Nat.le_refl _) _ | exact ((Below.refl _ _).alloc (Nat.le_refl _) _).drew); have HSx : Hid (Blk wc wd.heap.size 2 [.int .i64 y, .int .i64 v]) := hide (by rw [hwc]; first | exact Blk.new _ _ _ | exact (Blk.new _ _ _).drew); replace HBc := hide (HBc.out.trans (hbx.mono HBc.out.size)); replace HKc := hide (HKc.out.later hbx); clear hwc hbx; refine (times_any _ n _ f x _ 2 [y, v] _ HN.out HTB.out (HR.out.later HBc.out) hx rfl (by intro q hq; simp at hq; rcases hq with rfl | rfl <;> omega) HSx.out (by decide)).mono ?_; rintro e wf ⟨rfl, hbd⟩; rw [HU.out]; replace HBc := hide (HBc.out.trans (hbd.mono HBc.out.size)); replace HKc := hide (HKc.out.later hbd); clear hbd; have k0 := HKc.out.cell 3 _ rfl)))
  all_goals
    clear k0
    go_wp2_with fail
    go_ret
    exact ⟨rfl, HBc.out⟩

set_option maxRecDepth 100000 in
theorem fromG_any (kind : Int) (F : FuncId) (H : List (List Int) → Nat → Nat → Int) (A : Option Addr) (n c : Nat) (f : List (List Int)) (zs : List (List Int)) (code : Int) (k : Nat) (w : World) (hn : f.length = n) (hb : n ≤ 1048576) (hbs : ∀ i, i < f.length → (f.getD i []).length ≤ 1048576) (hr : Rd2 w A f) (eg : ∀ args w, (callFunc F args).run Try.prog w = .ok (.enter F args) w)
    (hkd : ∀ W : World, Calls Try.prog 55 #[.int .i64 kind] W fun e w' => e = .returned (.func (.func F) #[] #[]) ∧ Below W.heap.size W w')
    (hf : ∀ W : World, Grp f → Rd2 W A f → FormFn F (.agg #[.int .i64 n, .int .i64 0, .slice none 0 0, .slice A n c]) n (H f) W) (hres : FmRes (Grp f) 1 f.length (H f) zs code) (hk : zs.length = k) :
    Calls Try.prog 43 #[.int .i64 kind, .agg #[.slice A n c]] w (fun e w' => ∃ A' c', e = .returned (.tuple #[.agg #[.slice A' k c'], .int .i64 code]) ∧ Below w.heap.size w w' ∧ Obj2 38 2 w.heap.size w'.heap.size w' A' zs) := by
  have HN := hide hn
  have HBS := hide hbs
  have HRD := hide hr
  have HKD := hide hkd
  have HF := hide hf
  have HB0 := hide (((Below.refl _ w).alloc (Nat.le_refl _) (Obj.cells #[Value.slice A n c] 33)).alloc (by simp) (Obj.cells #[.slice none 0 0] 24))
  have HK0 := hide ((Blk.new w 33 [.slice A n c]).alloc (Obj.cells #[.slice none 0 0] 24))
  have HR0 : Hid (Blk ((w.alloc (Obj.cells #[Value.slice A n c] 33)).alloc (Obj.cells #[.slice none 0 0] 24)) (w.heap.size + 1) 24 [.slice none 0 0]) := hide (by have h := Blk.new (w.alloc (Obj.cells #[Value.slice A n c] 33)) 24 [.slice none 0 0]; simpa using h)
  rcases hres with ⟨hg, rfl, rfl⟩ | ⟨hg, rfl, rfl⟩
  · have hkn : k = n := by rw [← hk, grid_length, hn]
    subst hkn
    have h1 : 1 ≤ k := by rw [← hn]; exact hg.1.1.1
    have h12 : k ≤ 12 := by rw [← hn]; exact hg.1.1.2.1
    have HG := hide hg
    rw [hn]
    clear hn hbs hr hkd hf hg hk
    go_enter Try.func43, Try.ntmps43
    have k0 := HK0.out.cell 0 _ rfl
    go_wp2_with fail
    clear k0
    refine (isGrp_any _ _ _ f true _ HN.out hb HBS.out (HRD.out.later HB0.out) ⟨fun _ => HG.out, fun _ => rfl⟩).mono ?_
    rintro e w1 ⟨rfl, hb1⟩
    have HB1 := hide (HB0.out.trans (hb1.mono HB0.out.size))
    have HK1 := hide (HK0.out.later hb1)
    have HR1 := hide (HR0.out.later hb1)
    clear hb1
    go_wp2_with fail
    refine wp_gen fun w8 hw8 => ?_
    have HBc : Hid (Below w.heap.size w w8) := hide (by rw [hw8]; exact HB1.out)
    have HKc : Hid (Blk w8 w.heap.size 33 [.slice A k c]) := hide (by rw [hw8]; exact HK1.out)
    have HRc : Hid (Blk w8 (w.heap.size + 1) 24 [.slice none 0 0]) := hide (by rw [hw8]; exact HR1.out)
    clear hw8 HB1 HK1 HR1
    have k0 := HKc.out.cell 0 _ rfl
    go_region_held3 (fun w' => w'.cell? ⟨w.heap.size, 0, none⟩ = some (.slice A k c)) (first | exact k0 | go_keep) (first | (go_at_call 64; go_must (refine calls_gen fun wc hwc => ?_; (first | have hbx := drew_below hwc | have hbx := eq_below hwc); replace HBc := hide (HBc.out.trans (hbx.mono HBc.out.size)); replace HKc := hide (HKc.out.later hbx); replace HRc := hide (HRc.out.later hbx); clear hwc hbx; refine (gsize_any _ k _ _ (by omega)).mono ?_; rintro e wd ⟨rfl, hbd⟩; replace HBc := hide (HBc.out.trans (hbd.mono HBc.out.size)); replace HKc := hide (HKc.out.later hbd); replace HRc := hide (HRc.out.later hbd); clear hbd; have k0 := HKc.out.cell 0 _ rfl)) | (go_at_call 35; go_must (refine calls_gen fun wc hwc => ?_; (first | have hbx := drew_below hwc | have hbx := eq_below hwc); replace HBc := hide (HBc.out.trans (hbx.mono HBc.out.size)); replace HKc := hide (HKc.out.later hbx); replace HRc := hide (HRc.out.later hbx); clear hwc hbx; have HRP := HRc; refine (byFormula_any kind F k 0 none A 0 0 k c (H f) _ eg h1 h12 HKD.out (HF.out _ HG.out (HRD.out.later HBc.out))).mono ?_; rintro e wd ⟨A3, c3, rfl, hbd, ho3⟩; have HO := hide ho3; replace HBc := hide (HBc.out.trans (hbd.mono HBc.out.size)); replace HKc := hide (HKc.out.later hbd); replace HRc := hide (HRc.out.later hbd); clear hbd ho3; have k0 := HKc.out.cell 0 _ rfl; have k2 := HRc.out.cell 0 _ rfl; have k3 := HRc.out.frozen 0)))
    all_goals
      clear k0
      have hlow : w.heap.size + 1 < wc.heap.size := HRP.out.lt
      go_wp2_with fail
      refine bp_gen fun wf hwf => ?_
      obtain ⟨q0, hbf, hof⟩ := kend hwf HRc.out (by omega) HBc.out HO.out (by omega) hlow (Nat.le_refl _)
      clear hwf k2 k3
      exact bodyPost_ret (v := .tuple #[.agg #[.slice A3 k c3], .int .i64 0]) (by simp [results, Try.results43, go_sem, q0]) rfl ⟨_, _, rfl, hbf, hof⟩
  · have HG := hide hg
    have hk0 : k = 0 := by rw [← hk]; rfl
    subst hk0
    clear hn hbs hr hkd hf hg hk
    go_enter Try.func43, Try.ntmps43
    have k0 := HK0.out.cell 0 _ rfl
    go_wp2_with fail
    clear k0
    refine (isGrp_any _ _ _ f false _ HN.out hb HBS.out (HRD.out.later HB0.out) ⟨fun h => (by cases h), fun h => absurd h HG.out⟩).mono ?_
    rintro e w1 ⟨rfl, hb1⟩
    have HB1 := hide (HB0.out.trans (hb1.mono HB0.out.size))
    have HK1 := hide (HK0.out.later hb1)
    have HR1 := hide (HR0.out.later hb1)
    clear hb1
    have k2 := HR1.out.cell 0 _ rfl
    have k3 := HR1.out.frozen 0
    go_wp2_with fail
    refine bp_gen fun wf hwf => ?_
    have HRF : Blk wf (w.heap.size + 1) 24 [.slice none 0 0] := by rw [hwf]; first | exact HR1.out | exact HR1.out.set 0 _
    have hbf : Below w.heap.size w wf := by rw [hwf]; first | exact HB1.out | exact HB1.out.setCell (p := ⟨w.heap.size + 1, 0, none⟩) (Nat.le_succ _) _
    have q0 := HRF.cell 0 _ rfl
    clear hwf k2 k3
    exact bodyPost_ret (v := .tuple #[.agg #[.slice none 0 0], .int .i64 1]) (by simp [results, Try.results43, go_sem, q0]) rfl ⟨_, _, rfl, hbf, .inl ⟨rfl, rfl⟩⟩

set_option maxRecDepth 100000 in
theorem nwCoI (A : Option Addr) (n c : Nat) (f : List (List Int)) (zs : List (List Int)) (code : Int) (k : Nat) (w : World) (hn : f.length = n) (hb : n ≤ 1048576) (hbs : ∀ i, i < f.length → (f.getD i []).length ≤ 1048576) (hr : Rd2 w A f) (hres : CoRes f zs code) (hk : zs.length = k) :
    Calls Try.prog 16 #[.agg #[.slice A n c]] w (fun e w' => ∃ A' c', e = .returned (.tuple #[.agg #[.slice A' k c'], .int .i64 code]) ∧ Below w.heap.size w w' ∧ Obj2 38 2 w.heap.size w'.heap.size w' A' zs) := by
  have HN := hide hn
  have HBS := hide hbs
  have HRD := hide hr
  have HRES := hide hres
  have HKZ := hide hk
  have HB0 := hide (((Below.refl _ w).alloc (Nat.le_refl _) (Obj.cells #[Value.slice A n c] 33)).alloc (by simp) (Obj.cells #[.slice none 0 0] 24))
  have HK0 := hide ((Blk.new w 33 [.slice A n c]).alloc (Obj.cells #[.slice none 0 0] 24))
  have HR0 : Hid (Blk ((w.alloc (Obj.cells #[Value.slice A n c] 33)).alloc (Obj.cells #[.slice none 0 0] 24)) (w.heap.size + 1) 24 [.slice none 0 0]) := hide (by have h := Blk.new (w.alloc (Obj.cells #[Value.slice A n c] 33)) 24 [.slice none 0 0]; simpa using h)
  clear hn hbs hr hres hk
  go_enter Try.func16, Try.ntmps16
  have k0 := HK0.out.cell 0 _ rfl
  go_wp2_with fail
  clear k0
  refine calls_gen fun wp hwp => ?_
  replace HB0 : Hid (Below w.heap.size w wp) := hide (by rw [hwp]; exact HB0.out)
  replace HK0 : Hid (Blk wp w.heap.size 33 [.slice A n c]) := hide (by rw [hwp]; exact HK0.out)
  replace HR0 : Hid (Blk wp (w.heap.size + 1) 24 [.slice none 0 0]) := hide (by rw [hwp]; exact HR0.out)
  clear hwp
  have HRP := HR0
  refine (fromG_any 4 83 coH _ n c f zs code k _ HN.out hb HBS.out (HRD.out.later HB0.out) (enters_of Try.func83 (by kernel_rfl) rfl) (fun W => formulaOf4_any W) (fun W hg hr => co_form n 0 none A 0 0 c f W HN.out hg hr) HRES.out HKZ.out).mono ?_
  rintro e w1 ⟨A3, c3, rfl, hb1, ho3⟩
  have HO := hide ho3
  clear ho3
  have HB1 := hide (HB0.out.trans (hb1.mono HB0.out.size))
  have HK1 := hide (HK0.out.later hb1)
  have HR1 := hide (HR0.out.later hb1)
  clear hb1
  have hlow : w.heap.size + 1 < wp.heap.size := HRP.out.lt
  have k2 := HR1.out.cell 0 _ rfl
  have k3 := HR1.out.frozen 0
  go_wp2_with fail
  refine bp_gen fun wf hwf => ?_
  obtain ⟨q0, hbf, hof⟩ := kend hwf HR1.out (by omega) HB1.out HO.out (by omega) hlow (Nat.le_refl _)
  clear hwf k2 k3
  exact bodyPost_ret (v := .tuple #[.agg #[.slice A3 k c3], .int .i64 code]) (by simp [results, Try.results16, go_sem, q0]) rfl ⟨_, _, rfl, hbf, hof⟩

set_option maxRecDepth 100000 in
theorem nwCjI (A : Option Addr) (n c : Nat) (f : List (List Int)) (zs : List (List Int)) (code : Int) (k : Nat) (w : World) (hn : f.length = n) (hb : n ≤ 1048576) (hbs : ∀ i, i < f.length → (f.getD i []).length ≤ 1048576) (hr : Rd2 w A f) (hres : CjRes f zs code) (hk : zs.length = k) :
    Calls Try.prog 20 #[.agg #[.slice A n c]] w (fun e w' => ∃ A' c', e = .returned (.tuple #[.agg #[.slice A' k c'], .int .i64 code]) ∧ Below w.heap.size w w' ∧ Obj2 38 2 w.heap.size w'.heap.size w' A' zs) := by
  have HN := hide hn
  have HBS := hide hbs
  have HRD := hide hr
  have HRES := hide hres
  have HKZ := hide hk
  have HB0 := hide (((Below.refl _ w).alloc (Nat.le_refl _) (Obj.cells #[Value.slice A n c] 33)).alloc (by simp) (Obj.cells #[.slice none 0 0] 24))
  have HK0 := hide ((Blk.new w 33 [.slice A n c]).alloc (Obj.cells #[.slice none 0 0] 24))
  have HR0 : Hid (Blk ((w.alloc (Obj.cells #[Value.slice A n c] 33)).alloc (Obj.cells #[.slice none 0 0] 24)) (w.heap.size + 1) 24 [.slice none 0 0]) := hide (by have h := Blk.new (w.alloc (Obj.cells #[Value.slice A n c] 33)) 24 [.slice none 0 0]; simpa using h)
  clear hn hbs hr hres hk
  go_enter Try.func20, Try.ntmps20
  have k0 := HK0.out.cell 0 _ rfl
  go_wp2_with fail
  clear k0
  refine calls_gen fun wp hwp => ?_
  replace HB0 : Hid (Below w.heap.size w wp) := hide (by rw [hwp]; exact HB0.out)
  replace HK0 : Hid (Blk wp w.heap.size 33 [.slice A n c]) := hide (by rw [hwp]; exact HK0.out)
  replace HR0 : Hid (Blk wp (w.heap.size + 1) 24 [.slice none 0 0]) := hide (by rw [hwp]; exact HR0.out)
  clear hwp
  have HRP := HR0
  refine (fromG_any 5 86 cjH _ n c f zs code k _ HN.out hb HBS.out (HRD.out.later HB0.out) (enters_of Try.func86 (by kernel_rfl) rfl) (fun W => formulaOf5_any W) (fun W hg hr => cj_form n 0 none A 0 0 c f W HN.out hg hr) HRES.out HKZ.out).mono ?_
  rintro e w1 ⟨A3, c3, rfl, hb1, ho3⟩
  have HO := hide ho3
  clear ho3
  have HB1 := hide (HB0.out.trans (hb1.mono HB0.out.size))
  have HK1 := hide (HK0.out.later hb1)
  have HR1 := hide (HR0.out.later hb1)
  clear hb1
  have hlow : w.heap.size + 1 < wp.heap.size := HRP.out.lt
  have k2 := HR1.out.cell 0 _ rfl
  have k3 := HR1.out.frozen 0
  go_wp2_with fail
  refine bp_gen fun wf hwf => ?_
  obtain ⟨q0, hbf, hof⟩ := kend hwf HR1.out (by omega) HB1.out HO.out (by omega) hlow (Nat.le_refl _)
  clear hwf k2 k3
  exact bodyPost_ret (v := .tuple #[.agg #[.slice A3 k c3], .int .i64 code]) (by simp [results, Try.results20, go_sem, q0]) rfl ⟨_, _, rfl, hbf, hof⟩

end Go.Proofs.Ytjgjnekpdeffaaa
