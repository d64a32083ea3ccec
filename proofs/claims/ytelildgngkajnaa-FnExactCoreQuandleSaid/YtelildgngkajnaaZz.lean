import Derived.Test.YtelildgngkajnaaZw
import Derived.Test.YtelildgngkajnaaZn
import Derived.Test.YtelildgngkajnaaZj
import Derived.Test.YtelildgngkajnaaZb
import Derived.Deep.AppendLies
namespace Go.Proofs.Ytelildgngkajnaa
open Go Go.RowKit
set_option maxHeartbeats 4000000

set_option maxRecDepth 100000 in
theorem co_form (n : Nat) (a : Int) (A B : Option Addr) (n1 c1 c2 : Nat) (f : List (List Int)) (w : World) (hn : f.length = n) (hg : Grp f) (hr : Rd2 w B f) : FormFn 184 (.agg #[.int .i64 n, .int .i64 a, .slice A n1 c1, .slice B n c2]) n (coH f) w := by
  have ht := hg.1.1
  have hp := hg.1.2
  have h1 : 1 ≤ n := by rw [← hn]; exact ht.1
  have h12 : n ≤ 12 := by rw [← hn]; exact ht.2.1
  intro W x y hx hy hb
  have HN := hide hn
  have HTB := hide ht
  have HP := hide hp
  have HR := hide (hr.later hb)
  have HBc := hide ((Below.refl _ W).alloc (Nat.le_refl _) (Obj.cells #[.int .i64 n, .int .i64 a, .slice A n1 c1, .slice B n c2] 145))
  have HKc := hide (Blk.new W 145 [.int .i64 n, .int .i64 a, .slice A n1 c1, .slice B n c2])
  obtain ⟨v, hv⟩ : ∃ v, bk f y = v := ⟨_, rfl⟩
  have hvn : v < n := by rw [← hv]; exact (bk_ok hn ht hp hy).1
  obtain ⟨u, hu⟩ : ∃ u, tm f x [v, x] = u := ⟨_, rfl⟩
  have HV := hide hv
  have HU := hide hu
  have hre : coH f x y = (u : Int) := by rw [← hu]; unfold coH; rw [hv]; rfl
  rw [hre]
  clear hn hg hr ht hp hb hv hu hre
  go_enter Try.func184, Try.ntmps184
  go_wp2_with fail
  refine wp_gen fun w8 hw8 => ?_
  replace HBc : Hid (Below W.heap.size W w8) := hide (by rw [hw8]; exact HBc.out)
  replace HKc : Hid (Blk w8 W.heap.size 145 [.int .i64 n, .int .i64 a, .slice A n1 c1, .slice B n c2]) := hide (by rw [hw8]; exact HKc.out)
  clear hw8
  have k0 := HKc.out.cell 3 _ rfl
  go_region_held3 (fun w' => w'.cell? ⟨W.heap.size, 3, none⟩ = some (.slice B n c2)) (first | exact k0 | go_keep) (first | (go_at_call 185; go_must (refine calls_gen fun wc hwc => ?_; (first | have hbx := drew_below hwc | have hbx := eq_below hwc); replace HBc := hide (HBc.out.trans (hbx.mono HBc.out.size)); replace HKc := hide (HKc.out.later hbx); clear hwc hbx; refine (ginv_any _ n _ f y _ HN.out HTB.out HP.out (HR.out.later HBc.out) hy).mono ?_; rintro e wd ⟨rfl, hbd⟩; rw [HV.out]; replace HBc := hide (HBc.out.trans (hbd.mono HBc.out.size)); replace HKc := hide (HKc.out.later hbd); clear hbd; have k0 := HKc.out.cell 3 _ rfl; have k9 := fun o => (HKc.out.alloc o).cell 3 _ rfl)) | (go_at_call 141; go_must (refine calls_gen fun wc hwc => ?_; have hbx : Below wd.heap.size wd wc := (by rw [hwc]; first | exact (Below.refl _ _).alloc (Nat.le_refl _) _ | exact ((Below.refl _ _).alloc (Nat.le_refl _) _).drew); have HSx : Hid (Blk wc wd.heap.size 2 [.int .i64 v, .int .i64 x]) := hide (by rw [hwc]; first | exact Blk.new _ _ _ | exact (Blk.new _ _ _).drew); replace HBc := hide (HBc.out.trans (hbx.mono HBc.out.size)); replace HKc := hide (HKc.out.later hbx); clear hwc hbx; refine (times_any _ n _ f x _ 2 [v, x] _ HN.out HTB.out (HR.out.later HBc.out) hx rfl (by intro q hq; simp at hq; rcases hq with rfl | rfl <;> omega) HSx.out (by decide)).mono ?_; rintro e wf ⟨rfl, hbd⟩; rw [HU.out]; replace HBc := hide (HBc.out.trans (hbd.mono HBc.out.size)); replace HKc := hide (HKc.out.later hbd); clear hbd; have k0 := HKc.out.cell 3 _ rfl)))
  all_goals
    clear k0
    go_wp2_with fail
    go_ret
    exact ⟨rfl, HBc.out⟩

set_option maxRecDepth 100000 in
theorem cj_form (n : Nat) (a : Int) (A B : Option Addr) (n1 c1 c2 : Nat) (f : List (List Int)) (w : World) (hn : f.length = n) (hg : Grp f) (hr : Rd2 w B f) : FormFn 186 (.agg #[.int .i64 n, .int .i64 a, .slice A n1 c1, .slice B n c2]) n (cjH f) w := by
  have ht := hg.1.1
  have hp := hg.1.2
  have h1 : 1 ≤ n := by rw [← hn]; exact ht.1
  have h12 : n ≤ 12 := by rw [← hn]; exact ht.2.1
  intro W x y hx hy hb
  have HN := hide hn
  have HTB := hide ht
  have HP := hide hp
  have HR := hide (hr.later hb)
  have HBc := hide ((Below.refl _ W).alloc (Nat.le_refl _) (Obj.cells #[.int .i64 n, .int .i64 a, .slice A n1 c1, .slice B n c2] 145))
  have HKc := hide (Blk.new W 145 [.int .i64 n, .int .i64 a, .slice A n1 c1, .slice B n c2])
  obtain ⟨v, hv⟩ : ∃ v, bk f x = v := ⟨_, rfl⟩
  have hvn : v < n := by rw [← hv]; exact (bk_ok hn ht hp hx).1
  obtain ⟨u, hu⟩ : ∃ u, tm f x [y, v] = u := ⟨_, rfl⟩
  have HV := hide hv
  have HU := hide hu
  have hre : cjH f x y = (u : Int) := by rw [← hu]; unfold cjH; rw [hv]; rfl
  rw [hre]
  clear hn hg hr ht hp hb hv hu hre
  go_enter Try.func186, Try.ntmps186
  go_wp2_with fail
  refine wp_gen fun w8 hw8 => ?_
  replace HBc : Hid (Below W.heap.size W w8) := hide (by rw [hw8]; exact HBc.out)
  replace HKc : Hid (Blk w8 W.heap.size 145 [.int .i64 n, .int .i64 a, .slice A n1 c1, .slice B n c2]) := hide (by rw [hw8]; exact HKc.out)
  clear hw8
  have k0 := HKc.out.cell 3 _ rfl
  go_region_held3 (fun w' => w'.cell? ⟨W.heap.size, 3, none⟩ = some (.slice B n c2)) (first | exact k0 | go_keep) (first | (go_at_call 185; go_must (refine calls_gen fun wc hwc => ?_; (first | have hbx := drew_below hwc | have hbx := eq_below hwc); replace HBc := hide (HBc.out.trans (hbx.mono HBc.out.size)); replace HKc := hide (HKc.out.later hbx); clear hwc hbx; refine (ginv_any _ n _ f x _ HN.out HTB.out HP.out (HR.out.later HBc.out) hx).mono ?_; rintro e wd ⟨rfl, hbd⟩; rw [HV.out]; replace HBc := hide (HBc.out.trans (hbd.mono HBc.out.size)); replace HKc := hide (HKc.out.later hbd); clear hbd; have k0 := HKc.out.cell 3 _ rfl; have k9 := fun o => (HKc.out.alloc o).cell 3 _ rfl)) | (go_at_call 141; go_must (refine calls_gen fun wc hwc => ?_; have hbx : Below wd.heap.size wd wc := (by rw [hwc]; first | exact (Below.refl _ _).alloc (Nat.le_refl _) _ | exact ((Below.refl _ _).alloc (Nat.le_refl _) _).drew); have HSx : Hid (Blk wc wd.heap.size 2 [.int .i64 y, .int .i64 v]) := hide (by rw [hwc]; first | exact Blk.new _ _ _ | exact (Blk.new _ _ _).drew); replace HBc := hide (HBc.out.trans (hbx.mono HBc.out.size)); replace HKc := hide (HKc.out.later hbx); clear hwc hbx; refine (times_any _ n _ f x _ 2 [y, v] _ HN.out HTB.out (HR.out.later HBc.out) hx rfl (by intro q hq; simp at hq; rcases hq with rfl | rfl <;> omega) HSx.out (by decide)).mono ?_; rintro e wf ⟨rfl, hbd⟩; rw [HU.out]; replace HBc := hide (HBc.out.trans (hbd.mono HBc.out.size)); replace HKc := hide (HKc.out.later hbd); clear hbd; have k0 := HKc.out.cell 3 _ rfl)))
  all_goals
    clear k0
    go_wp2_with fail
    go_ret
    exact ⟨rfl, HBc.out⟩

set_option maxRecDepth 100000 in
theorem fromG_any (kind : Int) (F : FuncId) (H : List (List Int) → Nat → Nat → Int) (A : Option Addr) (n c : Nat) (f : List (List Int)) (zs : List (List Int)) (code : Int) (k : Nat) (w : World) (hn : f.length = n) (hb : n ≤ 1048576) (hbs : ∀ i, i < f.length → (f.getD i []).length ≤ 1048576) (hr : Rd2 w A f) (eg : ∀ args w, (callFunc F args).run Try.prog w = .ok (.enter F args) w)
    (hkd : ∀ W : World, Calls Try.prog 159 #[.int .i64 kind] W fun e w' => e = .returned (.func (.func F) #[] #[]) ∧ Below W.heap.size W w')
    (hf : ∀ W : World, Grp f → Rd2 W A f → FormFn F (.agg #[.int .i64 n, .int .i64 0, .slice none 0 0, .slice A n c]) n (H f) W) (hres : FmRes (Grp f) 1 f.length (H f) zs code) (hk : zs.length = k) :
    Calls Try.prog 82 #[.int .i64 kind, .agg #[.slice A n c]] w (fun e w' => ∃ A' c', e = .returned (.tuple #[.agg #[.slice A' k c'], .int .i64 code]) ∧ Below w.heap.size w w' ∧ Obj2 48 2 w.heap.size w'.heap.size w' A' zs) := by
  have HN := hide hn
  have HBS := hide hbs
  have HRD := hide hr
  have HKD := hide hkd
  have HF := hide hf
  have HB0 := hide (((Below.refl _ w).alloc (Nat.le_refl _) (Obj.cells #[Value.slice A n c] 24)).alloc (by simp) (Obj.cells #[.slice none 0 0] 53))
  have HK0 := hide ((Blk.new w 24 [.slice A n c]).alloc (Obj.cells #[.slice none 0 0] 53))
  have HR0 : Hid (Blk ((w.alloc (Obj.cells #[Value.slice A n c] 24)).alloc (Obj.cells #[.slice none 0 0] 53)) (w.heap.size + 1) 53 [.slice none 0 0]) := hide (by have h := Blk.new (w.alloc (Obj.cells #[Value.slice A n c] 24)) 53 [.slice none 0 0]; simpa using h)
  rcases hres with ⟨hg, rfl, rfl⟩ | ⟨hg, rfl, rfl⟩
  · have hkn : k = n := by rw [← hk, grid_length, hn]
    subst hkn
    have h1 : 1 ≤ k := by rw [← hn]; exact hg.1.1.1
    have h12 : k ≤ 12 := by rw [← hn]; exact hg.1.1.2.1
    have HG := hide hg
    rw [hn]
    clear hn hbs hr hkd hf hg hk
    go_enter Try.func82, Try.ntmps82
    have k0 := HK0.out.cell 0 _ rfl
    go_wp2_with fail
    clear k0
    refine (isGrp_any _ _ _ f true _ HN.out hb HBS.out (HRD.out.later HB0.out) ⟨fun _ => HG.out, fun _ => rfl⟩).mono ?_
    rintro e w1 ⟨rfl, hb1⟩
    have HB1 := hide (HB0.out.trans (hb1.mono HB0.out.size))
    have HK1 := hide (HK0.out.later hb1)
    have HR1 := hide (HR0.out.later hb1)
    clear hb1
    go_wp2_with fail
    refine wp_gen fun w8 hw8 => ?_
    have HBc : Hid (Below w.heap.size w w8) := hide (by rw [hw8]; exact HB1.out)
    have HKc : Hid (Blk w8 w.heap.size 24 [.slice A k c]) := hide (by rw [hw8]; exact HK1.out)
    have HRc : Hid (Blk w8 (w.heap.size + 1) 53 [.slice none 0 0]) := hide (by rw [hw8]; exact HR1.out)
    clear hw8 HB1 HK1 HR1
    have k0 := HKc.out.cell 0 _ rfl
    go_region_held3 (fun w' => w'.cell? ⟨w.heap.size, 0, none⟩ = some (.slice A k c)) (first | exact k0 | go_keep) (first | (go_at_call 62; go_must (refine calls_gen fun wc hwc => ?_; (first | have hbx := drew_below hwc | have hbx := eq_below hwc); replace HBc := hide (HBc.out.trans (hbx.mono HBc.out.size)); replace HKc := hide (HKc.out.later hbx); replace HRc := hide (HRc.out.later hbx); clear hwc hbx; refine (gsize_any _ k _ _ (by omega)).mono ?_; rintro e wd ⟨rfl, hbd⟩; replace HBc := hide (HBc.out.trans (hbd.mono HBc.out.size)); replace HKc := hide (HKc.out.later hbd); replace HRc := hide (HRc.out.later hbd); clear hbd; have k0 := HKc.out.cell 0 _ rfl)) | (go_at_call 129; go_must (refine calls_gen fun wc hwc => ?_; (first | have hbx := drew_below hwc | have hbx := eq_below hwc); replace HBc := hide (HBc.out.trans (hbx.mono HBc.out.size)); replace HKc := hide (HKc.out.later hbx); replace HRc := hide (HRc.out.later hbx); clear hwc hbx; have HRP := HRc; refine (byFormula_any kind F k 0 none A 0 0 k c (H f) _ eg h1 h12 HKD.out (HF.out _ HG.out (HRD.out.later HBc.out))).mono ?_; rintro e wd ⟨A3, c3, rfl, hbd, ho3⟩; have HO := hide ho3; replace HBc := hide (HBc.out.trans (hbd.mono HBc.out.size)); replace HKc := hide (HKc.out.later hbd); replace HRc := hide (HRc.out.later hbd); clear hbd ho3; have k0 := HKc.out.cell 0 _ rfl; have k2 := HRc.out.cell 0 _ rfl; have k3 := HRc.out.frozen 0)))
    all_goals
      clear k0
      have hlow : w.heap.size + 1 < wc.heap.size := HRP.out.lt
      go_wp2_with fail
      refine bp_gen fun wf hwf => ?_
      obtain ⟨q0, hbf, hof⟩ := kend hwf HRc.out (by omega) HBc.out HO.out (by omega) hlow (Nat.le_refl _)
      clear hwf k2 k3
      exact bodyPost_ret (v := .tuple #[.agg #[.slice A3 k c3], .int .i64 0]) (by simp [results, Try.results82, go_sem, q0]) rfl ⟨_, _, rfl, hbf, hof⟩
  · have HG := hide hg
    have hk0 : k = 0 := by rw [← hk]; rfl
    subst hk0
    clear hn hbs hr hkd hf hg hk
    go_enter Try.func82, Try.ntmps82
    have k0 := HK0.out.cell 0 _ rfl
    go_wp2_with fail
    clear k0
    refine (isGrp_any _ _ _ f false _ HN.out hb HBS.out (HRD.out.later HB0.out) ⟨fun h => (by cases h), fun h => absurd h HG.out⟩).mono ?_
    rintro e w1 ⟨rfl, hb1⟩
    have HB1 := hide (HB0.out.trans (hb1.mono HB0.out.size))
    have HK1 := hide (HK0.out.later hb1)
    have HR1 := hide (HR0.out.later hb1)
    clear hb1
    have k2 := HR1.out.cell 0 _ rfl
    have k3 := HR1.out.frozen 0
    go_wp2_with fail
    refine bp_gen fun wf hwf => ?_
    have HRF : Blk wf (w.heap.size + 1) 53 [.slice none 0 0] := by rw [hwf]; first | exact HR1.out | exact HR1.out.set 0 _
    have hbf : Below w.heap.size w wf := by rw [hwf]; first | exact HB1.out | exact HB1.out.setCell (p := ⟨w.heap.size + 1, 0, none⟩) (Nat.le_succ _) _
    have q0 := HRF.cell 0 _ rfl
    clear hwf k2 k3
    exact bodyPost_ret (v := .tuple #[.agg #[.slice none 0 0], .int .i64 1]) (by simp [results, Try.results82, go_sem, q0]) rfl ⟨_, _, rfl, hbf, .inl ⟨rfl, rfl⟩⟩

set_option maxRecDepth 100000 in
theorem nwCoI (A : Option Addr) (n c : Nat) (f : List (List Int)) (zs : List (List Int)) (code : Int) (k : Nat) (w : World) (hn : f.length = n) (hb : n ≤ 1048576) (hbs : ∀ i, i < f.length → (f.getD i []).length ≤ 1048576) (hr : Rd2 w A f) (hres : CoRes f zs code) (hk : zs.length = k) :
    Calls Try.prog 44 #[.agg #[.slice A n c]] w (fun e w' => ∃ A' c', e = .returned (.tuple #[.agg #[.slice A' k c'], .int .i64 code]) ∧ Below w.heap.size w w' ∧ Obj2 48 2 w.heap.size w'.heap.size w' A' zs) := by
  have HN := hide hn
  have HBS := hide hbs
  have HRD := hide hr
  have HRES := hide hres
  have HKZ := hide hk
  have HB0 := hide (((Below.refl _ w).alloc (Nat.le_refl _) (Obj.cells #[Value.slice A n c] 24)).alloc (by simp) (Obj.cells #[.slice none 0 0] 53))
  have HK0 := hide ((Blk.new w 24 [.slice A n c]).alloc (Obj.cells #[.slice none 0 0] 53))
  have HR0 : Hid (Blk ((w.alloc (Obj.cells #[Value.slice A n c] 24)).alloc (Obj.cells #[.slice none 0 0] 53)) (w.heap.size + 1) 53 [.slice none 0 0]) := hide (by have h := Blk.new (w.alloc (Obj.cells #[Value.slice A n c] 24)) 53 [.slice none 0 0]; simpa using h)
  clear hn hbs hr hres hk
  go_enter Try.func44, Try.ntmps44
  have k0 := HK0.out.cell 0 _ rfl
  go_wp2_with fail
  clear k0
  refine calls_gen fun wp hwp => ?_
  replace HB0 : Hid (Below w.heap.size w wp) := hide (by rw [hwp]; exact HB0.out)
  replace HK0 : Hid (Blk wp w.heap.size 24 [.slice A n c]) := hide (by rw [hwp]; exact HK0.out)
  replace HR0 : Hid (Blk wp (w.heap.size + 1) 53 [.slice none 0 0]) := hide (by rw [hwp]; exact HR0.out)
  clear hwp
  have HRP := HR0
  refine (fromG_any 4 184 coH _ n c f zs code k _ HN.out hb HBS.out (HRD.out.later HB0.out) (enters_of Try.func184 (by kernel_rfl) rfl) (fun W => formulaOf4_any W) (fun W hg hr => co_form n 0 none A 0 0 c f W HN.out hg hr) HRES.out HKZ.out).mono ?_
  rintro e w1 ⟨A3, c3, rfl, hb1, ho3⟩
  have HO := hide ho3
  clear ho3
  have HB1 := hide (HB0.out.trans (hb1.mono HB0.out.size))
  have HK1 := hide (HK0.out.later hb1)
  have HR1 := hide (HR0.out.later hb1)
  clear hb1
  have hlow : w.heap.size + 1 < wp.heap.size := HRP.out.lt
  have k2 := HR1.out.cell 0 _ rfl
  have k3 := HR1.out.frozen 0
  go_wp2_with fail
  refine bp_gen fun wf hwf => ?_
  obtain ⟨q0, hbf, hof⟩ := kend hwf HR1.out (by omega) HB1.out HO.out (by omega) hlow (Nat.le_refl _)
  clear hwf k2 k3
  exact bodyPost_ret (v := .tuple #[.agg #[.slice A3 k c3], .int .i64 code]) (by simp [results, Try.results44, go_sem, q0]) rfl ⟨_, _, rfl, hbf, hof⟩

end Go.Proofs.Ytelildgngkajnaa
namespace Go.Proofs.Ytelildgngkajnaa
open Go Go.RowKit
set_option maxHeartbeats 4000000

set_option maxRecDepth 100000 in
theorem nwCoS (A : Option Addr) (n c : Nat) (f : List (List Int)) (zs : List (List Int)) (code : Int) (k : Nat) (w : World) (hn : f.length = n) (hb : n ≤ 1048576) (hbs : ∀ i, i < f.length → (f.getD i []).length ≤ 1048576) (hr : Rd2 w A f) (hres : CoRes f zs code) (hk : zs.length = k) :
    Calls Try.prog 43 #[.agg #[.slice A n c]] w (fun e w' => ∃ A' c', e = .returned (.tuple #[.agg #[.slice A' k c'], .int .i64 code]) ∧ Below w.heap.size w w' ∧ Obj2 48 2 w.heap.size w'.heap.size w' A' zs) := by
  have HN := hide hn
  have HBS := hide hbs
  have HRD := hide hr
  rcases hres with ⟨hg, rfl, rfl⟩ | ⟨hg, rfl, rfl⟩
  · have hkn : n = k := by rw [← hk, grid_length, hn]
    subst hkn
    have HG := hide hg
    have HTB := hide hg.1.1
    have HPP := hide hg.1.2
    have h1 : 1 ≤ n := by rw [← hn]; exact hg.1.1.1
    have h12 : n ≤ 12 := by rw [← hn]; exact hg.1.1.2.1
    rw [hn]
    clear hn hbs hr hg hk
    obtain ⟨b1, o1, hA, hb1w, hc1⟩ := HTB.out.cells HRD.out HN.out
    subst hA
    have HC1 := hide hc1
    clear hc1
    obtain ⟨H, hH⟩ : ∃ H, coH f = H := ⟨_, rfl⟩
    rw [hH]
    have HH := hide hH
    clear hH
    obtain ⟨i0, hi, hz0, hz1, hz2⟩ := info_parts neInfo
    obtain ⟨i2, hj, hy0, hy1, hy2⟩ := info_parts neInfo2
    go_enter Try.func43, Try.ntmps43
    have k0 := ((Blk.new w 24 [.slice (some ⟨b1, o1, none⟩) n c]).alloc (Obj.cells #[.slice none 0 0] 53)).cell 0 _ rfl
    go_wp2_with fail
    clear k0
    refine calls_gen fun wd hw0 => ?_
    have HB : Hid (Below w.heap.size w wd) := hide (by rw [hw0]; exact ((Below.refl _ _).alloc (Nat.le_refl _) _).alloc (by simp) _)
    have HK : Hid (Blk wd w.heap.size 24 [.slice (some ⟨b1, o1, none⟩) n c]) := hide (by rw [hw0]; exact (Blk.new _ _ _).alloc _)
    have HR : Hid (Blk wd (w.heap.size + 1) 53 [.slice none 0 0]) := hide (by rw [hw0]; have h := Blk.new (w.alloc (Obj.cells #[.slice (some ⟨b1, o1, none⟩) n c] 24)) 53 [.slice none 0 0]; simpa using h)
    clear hw0
    refine (gq_below (isGrpS_any _ n _ f true _ HN.out hb HBS.out (HRD.out.later HB.out) ⟨fun _ => HG.out, fun _ => rfl⟩)).mono ?_
    rintro e wd ⟨rfl, hbd⟩
    replace HB := hide (HB.out.trans (hbd.mono HB.out.size))
    replace HK := hide (HK.out.later hbd)
    replace HR := hide (HR.out.later hbd)
    clear hbd
    go_wp2_with fail
    refine wp_gen fun w2 hw2 => ?_
    obtain ⟨ob, hob⟩ : ∃ ob, wd.heap.size = ob := ⟨_, rfl⟩
    have hob1 : w.heap.size + 1 < ob := by rw [← hob]; exact HR.out.lt
    replace HB : Hid (Below w.heap.size w w2) := hide (by rw [hw2]; exact HB.out.alloc HB.out.size _)
    replace HK : Hid (Blk w2 w.heap.size 24 [.slice (some ⟨b1, o1, none⟩) n c]) := hide (by rw [hw2]; exact HK.out.alloc _)
    replace HR : Hid (Blk w2 (w.heap.size + 1) 53 [.slice none 0 0]) := hide (by rw [hw2]; exact HR.out.alloc _)
    have HO2 : Hid (Blk w2 ob 53 [.slice none 0 0]) := hide (by rw [hw2, ← hob]; exact Blk.new _ _ _)
    have HT : Hid (One 48 2 53 (ob + 1) w2 ob 0 [.slice none 0 0] (.slice none 0 0) [] []) := hide (One.start w2 _ _ _ HO2.out (Nat.lt_succ_self _) HO2.out.lt)
    rw [hob]
    clear hw2 hob HO2
    go_loopw [5] (fun i wr => ∃ (x : Nat) (v : Value) (vals : List Value), x ≤ n ∧ i = .int .i64 x ∧ Below w.heap.size w wr ∧ One 48 2 53 (ob + 1) wr ob 0 [.slice none 0 0] v ((grid n H).take x) vals ∧ Blk wr (w.heap.size) 24 [.slice (some ⟨b1, o1, none⟩) n c] ∧ Blk wr (w.heap.size + 1) 53 [.slice none 0 0]) (fun i _ => n - (intOf i).toNat)
    case atStart => exact ⟨0, _, _, Nat.zero_le _, rfl, HB.out, by simpa using HT.out, HK.out, HR.out⟩
    case round =>
      obtain ⟨x, v, vals, hx, rfl, hbe, htw, qHK, qHR⟩ := hrel
      clear HB HT HK HR
      have HB := hide hbe
      have HT := hide htw
      have HK := hide qHK
      have HR := hide qHR
      clear hbe htw qHK qHR
      have k0 := HK.out.cell 0 _ rfl
      by_cases hlt : x < n
      · have hxz : (x : Int) < n := by omega
        go_wp2_with fail
        clear k0
        obtain ⟨wo, rfl⟩ : ∃ wo : World, wo = wr := ⟨_, rfl⟩
        go_loopw [6, 7] (fun v i wi => ∃ y : Nat, y ≤ n ∧ i = .int .i64 y ∧ Below wo.heap.size wo wi ∧ wo.heap.size < wi.heap.size ∧ wi.ownsRow wo.heap.size 2 1 v y (ints ((frow n H x).take y))) (fun _ i _ => n - (intOf i).toNat)
        case atStart => exact ⟨0, Nat.zero_le _, rfl, (Below.refl _ _).alloc (Nat.le_refl _) _, by simp, by simpa [ints] using ne_empty wo _⟩
        case round =>
          obtain ⟨y, hy, rfl, hbi, hsi2, hoi⟩ := hrel
          have HBI := hide hbi
          have HOI := hide hoi
          clear hbi hoi
          have k0 := (HK.out.later HBI.out).cell 0 _ rfl
          by_cases hlty : y < n
          · have hyz : (y : Int) < n := by omega
            have HBW := hide (HB.out.trans (HBI.out.mono HB.out.size))
            have hok := bk_ok HN.out HTB.out HPP.out (x := y) (by omega)
            obtain ⟨v, hv⟩ : ∃ v, bk f y = v := ⟨_, rfl⟩
            have hvn : v < n := by rw [← hv]; exact hok.1
            have hun := HTB.out.ap_lt HN.out (a := x) (b := v) (by omega) (by omega)
            obtain ⟨u, hu⟩ : ∃ u, ap f x v = u := ⟨_, rfl⟩
            rw [hu] at hun
            obtain ⟨r, hr0⟩ : ∃ r, ap f u x = r := ⟨_, rfl⟩
            have hpr : H x y = (r : Int) := by rw [← HH.out]; unfold coH; rw [hv, hu, hr0]
            obtain ⟨bx, ox, cx, r1, lx, g1⟩ := HC1.out x (by omega)
            obtain ⟨bu, ou, cu, r3, lu, g3⟩ := HC1.out u hun
            have r2 := g1 v (by omega)
            have r4 := g3 x (by omega)
            rw [hu] at r2
            rw [hr0] at r4
            have hvz : (v : Int) < n := by omega
            have huz : (u : Int) < n := by omega
            have R1 := hide r1
            have R2 := hide r2
            have R3 := hide r3
            have R4 := hide r4
            have HV := hide hv
            have HCELL := hide hpr
            clear hok hu hr0 hpr g1 g3 hv r1 r2 r3 r4
            have ff0 : wr.cell? ⟨b1, o1 + x, none⟩ = some (.slice (some ⟨bx, ox, none⟩) n cx) := (HBW.out.cell (p := ⟨b1, o1 + x, none⟩) hb1w).trans R1.out
            have ff1 : wr.cell? ⟨bx, ox + v, none⟩ = some (.int .i64 u) := (HBW.out.cell (p := ⟨bx, ox + v, none⟩) lx).trans R2.out
            have ff2 : wr.cell? ⟨b1, o1 + u, none⟩ = some (.slice (some ⟨bu, ou, none⟩) n cu) := (HBW.out.cell (p := ⟨b1, o1 + u, none⟩) hb1w).trans R3.out
            have ff3 : wr.cell? ⟨bu, ou + x, none⟩ = some (.int .i64 r) := (HBW.out.cell (p := ⟨bu, ou + x, none⟩) lu).trans R4.out
            have ff4 : wr.cell? ⟨w.heap.size, 0, none⟩ = some (.slice (some ⟨b1, o1, none⟩) n c) := (HK.out.later HBI.out).cell 0 _ rfl
            go_wp2_with fail
            go_region_held3 (fun w' => w'.cell? ⟨b1, o1 + x, none⟩ = some (.slice (some ⟨bx, ox, none⟩) n cx) ∧ w'.cell? ⟨bx, ox + v, none⟩ = some (.int .i64 u) ∧ w'.cell? ⟨b1, o1 + u, none⟩ = some (.slice (some ⟨bu, ou, none⟩) n cu) ∧ w'.cell? ⟨bu, ou + x, none⟩ = some (.int .i64 r) ∧ w'.cell? ⟨w.heap.size, 0, none⟩ = some (.slice (some ⟨b1, o1, none⟩) n c)) (first | exact ⟨ff0, ff1, ff2, ff3, ff4⟩ | go_keep) (first | (go_at_call 81; go_must (refine calls_gen fun wc hwc => ?_; (first | have hbx := drew_below hwc | have hbx := eq_below hwc); have HBJ0 := hide (HBI.out.trans (hbx.mono HBI.out.size)); have HOJ0 := hide (ownsRow_below HOI.out hbx); have hsj0 : wo.heap.size < wc.heap.size := (by have := hbx.size; omega); clear hwc hbx; refine (gq_below (backS_any _ n _ f y _ HN.out HTB.out HPP.out (HRD.out.later (HB.out.trans (HBJ0.out.mono HB.out.size))) (by omega))).mono ?_; rintro e wd ⟨rfl, hbd⟩; rw [HV.out]; have HBJ := hide (HBJ0.out.trans (hbd.mono HBJ0.out.size)); have HOJ := hide (ownsRow_below HOJ0.out hbd); have hsj : wo.heap.size < wd.heap.size := (by have := hbd.size; omega); clear hbd; have HBV := hide (HB.out.trans (HBJ.out.mono HB.out.size)); have ff0 : wd.cell? ⟨b1, o1 + x, none⟩ = some (.slice (some ⟨bx, ox, none⟩) n cx) := (HBV.out.cell (p := ⟨b1, o1 + x, none⟩) hb1w).trans R1.out; have ff1 : wd.cell? ⟨bx, ox + v, none⟩ = some (.int .i64 u) := (HBV.out.cell (p := ⟨bx, ox + v, none⟩) lx).trans R2.out; have ff2 : wd.cell? ⟨b1, o1 + u, none⟩ = some (.slice (some ⟨bu, ou, none⟩) n cu) := (HBV.out.cell (p := ⟨b1, o1 + u, none⟩) hb1w).trans R3.out; have ff3 : wd.cell? ⟨bu, ou + x, none⟩ = some (.int .i64 r) := (HBV.out.cell (p := ⟨bu, ou + x, none⟩) lu).trans R4.out; have ff4 : wd.cell? ⟨w.heap.size, 0, none⟩ = some (.slice (some ⟨b1, o1, none⟩) n c) := (HK.out.later HBJ.out).cell 0 _ rfl)) | (refine step_append_lies _ (by rfl) _ _ _ (by rfl) wo.heap.size 2 i0 _ 1 8 Try.underlying48 hi hz0 hz1 hz2 rfl (by omega) u6 y (ints ((frow n H x).take y)) (by rfl) (HOJ.out.alloc _) ⟨wd.heap.size, 0, none⟩ 1 1 [.int .i64 r] (by rfl) (by rfl) ne_new (by simp [Value.oneCell']) (by omega) (by unfold maxLen; omega) (by omega) (by simp; omega) (wd.heap.size + 1) (by simp) ?_; go_must (intro gg cap w3 hown' hgrow _ _; have HO3 := hide hown'; have HB3 : Hid (Below wo.heap.size wo w3) := (by first | exact hide ((HBJ.out.alloc HBJ.out.size _).drew.grown hgrow (by have := HBJ.out.size; simp; omega) (fun g hg => ((HOJ.out.alloc (.cells #[.int .i64 r] 2)).lt g hg).1)) | exact hide ((HBJ.out.alloc HBJ.out.size _).grown hgrow (by have := HBJ.out.size; simp; omega) (fun g hg => ((HOJ.out.alloc (.cells #[.int .i64 r] 2)).lt g hg).1))); have hs3 : wo.heap.size < w3.heap.size := (by have := hgrow.size; simp at this; omega); have HBV3 := hide (HB.out.trans (HB3.out.mono HB.out.size)); clear hown' hgrow; have ff0 : w3.cell? ⟨b1, o1 + x, none⟩ = some (.slice (some ⟨bx, ox, none⟩) n cx) := (HBV3.out.cell (p := ⟨b1, o1 + x, none⟩) hb1w).trans R1.out; have ff1 : w3.cell? ⟨bx, ox + v, none⟩ = some (.int .i64 u) := (HBV3.out.cell (p := ⟨bx, ox + v, none⟩) lx).trans R2.out; have ff2 : w3.cell? ⟨b1, o1 + u, none⟩ = some (.slice (some ⟨bu, ou, none⟩) n cu) := (HBV3.out.cell (p := ⟨b1, o1 + u, none⟩) hb1w).trans R3.out; have ff3 : w3.cell? ⟨bu, ou + x, none⟩ = some (.int .i64 r) := (HBV3.out.cell (p := ⟨bu, ou + x, none⟩) lu).trans R4.out; have ff4 : w3.cell? ⟨w.heap.size, 0, none⟩ = some (.slice (some ⟨b1, o1, none⟩) n c) := (HK.out.later HB3.out).cell 0 _ rfl)))
            all_goals
              clear ff0 ff1 ff2 ff3 ff4
              go_wp2_with fail
              go_roundw
              case rel => exact ⟨y + 1, by omega, by go_num, HB3.out, hs3, by have h := HO3.out; rw [← HCELL.out, frow_take _ _ _ _ hlty] at h; exact h⟩
              case measure => simp [intOf]; omega
          · have hyn : y = n := by omega
            subst hyn
            have HTM : Hid (((grid y H).take x).length = x) := hide (by rw [List.length_take, grid_length]; omega)
            obtain ⟨A2, c2', hv2, hres2⟩ := own_shape HOI.out
            subst hv2
            have HRL : Hid ((frow y H x).length = y) := hide (frow_length _ _ _)
            have HTK : Hid ((frow y H x).take y = frow y H x) := hide (List.take_of_length_le (by rw [HRL.out]; exact Nat.le_refl _))
            have HRO := hide hres2.obj
            have HT3 := hide (HT.out.later HBI.out)
            have HK3 := hide (HK.out.later HBI.out)
            have HR3 := hide (HR.out.later HBI.out)
            have HB3 := hide (HB.out.trans (HBI.out.mono HB.out.size))
            clear hres2
            have j0 := HT3.out.box.cell 0 _ rfl
            have j2 := HT3.out.box.frozen 0
            have j4 := fun o => (HT3.out.box.alloc o).cell 0 _ rfl
            have HOW2 : Hid (wr.ownsRow (ob + 1) 48 1 v x vals) := hide (by have h := HT3.out.l.own; rw [HTM.out] at h; exact h)
            have hobl := HT3.out.box.lt
            have hbsz := HT3.out.bsz
            go_wp2_with (at_builtin; refine wpList_append_own_at _ rfl _ _ 22 rfl (ob + 1) 48 i2 (.slice none 0 0) 1 24 Try.underlying22 hj hy0 hy1 hy2 rfl (by decide) _ _ _ rfl (HOW2.out.alloc _) ⟨wr.heap.size, 0, none⟩ 1 1 [.slice A2 y c2'] rfl rfl ?p1 ?p2 ?p3 ?p4 ?p5 ?_)
            try (case p1 => exact ne_new)
            try (case p2 => first | rfl | (intro u hu; simp at hu; subst hu; rfl))
            try (case p3 => first | omega | (unfold maxLen; omega))
            try (case p4 => omega)
            try (case p5 => first | omega | (simp; omega))
            intro v' w7 hown7 hgrow7 _ hat7
            obtain ⟨gg2, cap2, hv7⟩ := own_form hown7
            subst hv7
            have hbk := HT3.out.kept hgrow7
            have HT4 := hide (One.add (by decide) HT.out HT3.out (Nat.le_refl _) (by have h := HRO.out; rw [HTK.out] at h; exact h) HTM.out HRL.out hown7 hgrow7)
            have HB4 := hide (HT3.out.below hgrow7 (.slice (some ⟨gg2, 0, none⟩) (x + 1) cap2) HB3.out (by omega))
            have HK4 := hide ((HT3.out.frame hgrow7 (.slice (some ⟨gg2, 0, none⟩) (x + 1) cap2) (by omega) (by omega) HK3.out.lt).trans HK3.out)
            have HR4 := hide ((HT3.out.frame hgrow7 (.slice (some ⟨gg2, 0, none⟩) (x + 1) cap2) (by omega) (by omega) HR3.out.lt).trans HR3.out)
            clear j0 j2 j4 hown7 hgrow7 hat7
            have j0 := hbk.cell 0 _ rfl
            have j2 := hbk.frozen 0
            clear hbk
            go_wp2_with fail
            go_roundw
            case rel =>
              refine ⟨x + 1, .slice (some ⟨gg2, 0, none⟩) (x + 1) cap2, vals ++ [.slice A2 y c2'], by omega, by go_num, HB4.out, ?_, HK4.out, HR4.out⟩
              rw [grid_take _ _ _ hlt]
              exact HT4.out
            case measure => simp [intOf]; omega
      · have hxn : x = n := by omega
        subst hxn
        obtain ⟨A1, c1, hv1, ho1⟩ := HT.out.l.shape
        rw [List.take_of_length_le (by rw [grid_length]; exact Nat.le_refl _)] at hv1 ho1
        rw [grid_length] at hv1
        subst hv1
        have HA1 := hide ho1
        clear ho1
        have k0 := HT.out.box.cell 0 _ rfl
        have k2 := HR.out.cell 0 _ rfl
        have k3 := HR.out.frozen 0
        have hobl := HT.out.box.lt
        go_wp2_with fail
        refine bp_gen fun wf hwf => ?_
        obtain ⟨q0, hbf, hof⟩ := kend hwf HR.out (by omega) HB.out HA1.out (by omega) (by omega) (Nat.le_refl _)
        clear hwf k0 k2 k3
        exact bodyPost_ret (v := .tuple #[.agg #[.slice A1 x c1], .int .i64 0]) (by simp [results, Try.results43, go_sem, q0]) rfl ⟨_, _, rfl, hbf, hof⟩
  · have HG := hide hg
    have hk0 : k = 0 := by rw [← hk]; rfl
    subst hk0
    clear hn hbs hr hg hk
    go_enter Try.func43, Try.ntmps43
    have k0 := ((Blk.new w 24 [.slice A n c]).alloc (Obj.cells #[.slice none 0 0] 53)).cell 0 _ rfl
    go_wp2_with fail
    clear k0
    refine calls_gen fun wd hw0 => ?_
    have HB : Hid (Below w.heap.size w wd) := hide (by rw [hw0]; exact ((Below.refl _ _).alloc (Nat.le_refl _) _).alloc (by simp) _)
    have HK : Hid (Blk wd w.heap.size 24 [.slice A n c]) := hide (by rw [hw0]; exact (Blk.new _ _ _).alloc _)
    have HR : Hid (Blk wd (w.heap.size + 1) 53 [.slice none 0 0]) := hide (by rw [hw0]; have h := Blk.new (w.alloc (Obj.cells #[.slice A n c] 24)) 53 [.slice none 0 0]; simpa using h)
    clear hw0
    refine (gq_below (isGrpS_any _ n _ f false _ HN.out hb HBS.out (HRD.out.later HB.out) ⟨fun h => (by cases h), fun h => absurd h HG.out⟩)).mono ?_
    rintro e wd ⟨rfl, hbd⟩
    replace HB := hide (HB.out.trans (hbd.mono HB.out.size))
    replace HK := hide (HK.out.later hbd)
    replace HR := hide (HR.out.later hbd)
    clear hbd
    have k2 := HR.out.cell 0 _ rfl
    have k3 := HR.out.frozen 0
    go_wp2_with fail
    refine bp_gen fun wf hwf => ?_
    have HRF : Blk wf (w.heap.size + 1) 53 [.slice none 0 0] := by rw [hwf]; first | exact HR.out | exact HR.out.set 0 _
    have hbf : Below w.heap.size w wf := by rw [hwf]; first | exact HB.out | exact HB.out.setCell (p := ⟨w.heap.size + 1, 0, none⟩) (Nat.le_succ _) _
    have q0 := HRF.cell 0 _ rfl
    clear hwf k2 k3
    exact bodyPost_ret (v := .tuple #[.agg #[.slice none 0 0], .int .i64 1]) (by simp [results, Try.results43, go_sem, q0]) rfl ⟨_, _, rfl, hbf, .inl ⟨rfl, rfl⟩⟩

end Go.Proofs.Ytelildgngkajnaa
