import Derived.Test.YtelildgngkajnaaZas
namespace Go.Proofs.Ytelildgngkajnaa
open Go Go.RowKit
set_option maxHeartbeats 2000000

set_option maxRecDepth 100000 in
theorem rtI_any (A : Option Addr) (n c : Nat) (f : List (List Int)) (B : Option Addr) (m d : Nat) (xs : List Int) (zs : List (List Int)) (code : Int) (k : Nat) (w : World) (hn : f.length = n) (hb : n ≤ 1048576) (hbs : ∀ i, i < f.length → (f.getD i []).length ≤ 1048576) (hr : Rd2 w A f) (hm : xs.length = m) (hbm : m ≤ 1048576) (hx : Rd w B xs) (hres : RtRes f xs zs code) (hk : zs.length = k) :
    Calls Try.prog 54 #[.agg #[.slice A n c], .slice B m d] w (fun e w' => ∃ A' c', e = .returned (.tuple #[.agg #[.slice A' k c'], .int .i64 code]) ∧ Below w.heap.size w w' ∧ Obj2 48 2 w.heap.size w'.heap.size w' A' zs) := by
  have HN := hide hn
  have HBS := hide hbs
  have HRD := hide hr
  have HM := hide hm
  have HX := hide hx
  clear hbs hr hx
  rcases hres with ⟨⟨h1, h2, h3⟩, h4, rfl, rfl⟩ | ⟨⟨h1, h2, h3⟩, h4, rfl, rfl⟩ | ⟨h1, h2, rfl, rfl⟩ | ⟨h1, h2, h3, rfl, rfl⟩ | ⟨h1, rfl, rfl⟩
  · have HTB := hide h1.tbl
    have h1n : 1 ≤ n := by rw [← hn]; exact h1.tbl.1
    have h12 : n ≤ 12 := by rw [← hn]; exact h1.tbl.2.1
    have HE : Hid (Els n xs) := hide (by rw [← hn]; exact h2)
    have HI := hide h3
    have hm12 : m ≤ 12 := by have := h3.len h2; omega
    have HRK : Hid (RkRes f true) := hide (by unfold RkRes; simp [h1])
    have HS : Hid (SubF f (sN xs m)) := hide (by rw [← hm]; exact h4)
    have hkm : m = k := by rw [← hk, grid_length, hm]
    subst hkm
    rw [hm]
    have hm1 : 1 ≤ m := by
      by_cases e : m = 0
      · exact absurd (by rw [hm, e]; rfl) h4.1
      · omega
    clear hn hm hk h1 h2 h3 h4
    go_enter Try.func54, Try.ntmps54
    go_wp2_with fail
    refine calls_gen fun wd hw0 => ?_
    have HB : Hid (Below w.heap.size w wd) := hide (by rw [hw0]; exact (((Below.refl _ _).alloc (Nat.le_refl _) _).alloc (by simp) _).alloc (by simp; omega) _)
    have HK : Hid (Blk wd w.heap.size 53 [.slice A n c]) := hide (by rw [hw0]; exact ((Blk.new _ _ _).alloc _).alloc _)
    have HL : Hid (Blk wd (w.heap.size + 1) 48 [.slice B m d]) := hide (by rw [hw0]; have h := (Blk.new (w.alloc (Obj.cells #[.slice A n c] 53)) 48 [.slice B m d]).alloc (Obj.cells #[.slice none 0 0] 53); simpa using h)
    have HR : Hid (Blk wd (w.heap.size + 1 + 1) 53 [.slice none 0 0]) := hide (by rw [hw0]; have h := Blk.new ((w.alloc (Obj.cells #[.slice A n c] 53)).alloc (Obj.cells #[.slice B m d] 48)) 53 [.slice none 0 0]; simpa using h)
    clear hw0
    refine (isRackI _ _ _ f true _ HN.out hb HBS.out (HRD.out.later HB.out) HRK.out).mono ?_
    rintro e wd ⟨rfl, hbd⟩
    replace HB := hide (HB.out.trans (hbd.mono HB.out.size))
    replace HK := hide (HK.out.later hbd)
    replace HL := hide (HL.out.later hbd)
    replace HR := hide (HR.out.later hbd)
    clear hbd
    have k0 := HK.out.cell 0 _ rfl
    have k1 := HL.out.cell 0 _ rfl
    go_wp2_with fail
    go_region_held3 (fun w' => w'.cell? ⟨w.heap.size, 0, none⟩ = some (.slice A n c) ∧ w'.cell? ⟨w.heap.size + 1, 0, none⟩ = some (.slice B m d)) (first | exact ⟨k0, k1⟩ | go_keep) (first | (go_at_call 89; go_must (refine calls_gen fun wc hwc => ?_; (first | have hbx := drew_below hwc | have hbx := eq_below hwc); replace HB := hide (HB.out.trans (hbx.mono HB.out.size)); replace HK := hide (HK.out.later hbx); replace HL := hide (HL.out.later hbx); replace HR := hide (HR.out.later hbx); clear hwc hbx; refine (ksize_any _ n _ _ hb).mono ?_; rintro e wd ⟨rfl, hbd⟩; replace HB := hide (HB.out.trans (hbd.mono HB.out.size)); replace HK := hide (HK.out.later hbd); replace HL := hide (HL.out.later hbd); replace HR := hide (HR.out.later hbd); clear hbd; have k0 := HK.out.cell 0 _ rfl; have k1 := HL.out.cell 0 _ rfl)) | (go_at_call 88; go_must (refine calls_gen fun wc hwc => ?_; (first | have hbx := drew_below hwc | have hbx := eq_below hwc); replace HB := hide (HB.out.trans (hbx.mono HB.out.size)); replace HK := hide (HK.out.later hbx); replace HL := hide (HL.out.later hbx); replace HR := hide (HR.out.later hbx); clear hwc hbx; refine (areEls_any n _ _ _ xs true _ HM.out hbm (HX.out.later HB.out) (by simp [HE.out])).mono ?_; rintro e wd ⟨rfl, hbd⟩; replace HB := hide (HB.out.trans (hbd.mono HB.out.size)); replace HK := hide (HK.out.later hbd); replace HL := hide (HL.out.later hbd); replace HR := hide (HR.out.later hbd); clear hbd; have k0 := HK.out.cell 0 _ rfl; have k1 := HL.out.cell 0 _ rfl)) | (go_at_call 97; go_must (refine calls_gen fun wc hwc => ?_; (first | have hbx := drew_below hwc | have hbx := eq_below hwc); replace HB := hide (HB.out.trans (hbx.mono HB.out.size)); replace HK := hide (HK.out.later hbx); replace HL := hide (HL.out.later hbx); replace HR := hide (HR.out.later hbx); clear hwc hbx; refine (quiet_below (isIncr_any _ m _ xs true _ HM.out hbm (HX.out.later HB.out) (by simp [HI.out]))).mono ?_; rintro e wd ⟨rfl, hbd⟩; replace HB := hide (HB.out.trans (hbd.mono HB.out.size)); replace HK := hide (HK.out.later hbd); replace HL := hide (HL.out.later hbd); replace HR := hide (HR.out.later hbd); clear hbd; have k0 := HK.out.cell 0 _ rfl; have k1 := HL.out.cell 0 _ rfl)))
    all_goals
      clear k0 k1
      have k0 := HK.out.cell 0 _ rfl
      have k1 := HL.out.cell 0 _ rfl
      go_wp2_with fail
      go_region_held3 (fun w' => w'.cell? ⟨w.heap.size, 0, none⟩ = some (.slice A n c) ∧ w'.cell? ⟨w.heap.size + 1, 0, none⟩ = some (.slice B m d)) (first | exact ⟨k0, k1⟩ | go_keep) (first | (go_at_call 90; go_must (refine calls_gen fun wc hwc => ?_; (first | have hbx := drew_below hwc | have hbx := eq_below hwc); replace HB := hide (HB.out.trans (hbx.mono HB.out.size)); replace HK := hide (HK.out.later hbx); replace HL := hide (HL.out.later hbx); replace HR := hide (HR.out.later hbx); clear hwc hbx; refine (setOf_any n _ m _ xs _ h12 HM.out hbm (HX.out.later HB.out) HE.out).mono ?_; rintro e wd ⟨rfl, hbd⟩; replace HB := hide (HB.out.trans (hbd.mono HB.out.size)); replace HK := hide (HK.out.later hbd); replace HL := hide (HL.out.later hbd); replace HR := hide (HR.out.later hbd); clear hbd; have k0 := HK.out.cell 0 _ rfl; have k1 := HL.out.cell 0 _ rfl)) | (go_at_call 91; go_must (refine calls_gen fun wc hwc => ?_; (first | have hbx := drew_below hwc | have hbx := eq_below hwc); replace HB := hide (HB.out.trans (hbx.mono HB.out.size)); replace HK := hide (HK.out.later hbx); replace HL := hide (HL.out.later hbx); replace HR := hide (HR.out.later hbx); clear hwc hbx; refine (isSubrack_any _ n _ f (sN xs m) true _ HN.out HTB.out (HRD.out.later HB.out) (sN_lt HE.out (by have := HM.out; omega)) (by simp [HS.out])).mono ?_; rintro e wd ⟨rfl, hbd⟩; replace HB := hide (HB.out.trans (hbd.mono HB.out.size)); replace HK := hide (HK.out.later hbd); replace HL := hide (HL.out.later hbd); replace HR := hide (HR.out.later hbd); clear hbd; have k0 := HK.out.cell 0 _ rfl; have k1 := HL.out.cell 0 _ rfl)))
      all_goals
        clear k0 k1
        have k1 := HL.out.cell 0 _ rfl
        go_wp2_with fail
        clear k1
        refine (rackOf_any 99 _ m (rtH f xs) _ (enters_of Try.func99 (by kernel_rfl) rfl) hm1 hm12 (rtC_any _ n _ f _ m _ xs w.heap.size (w.heap.size + 1) _ HN.out HTB.out (HRD.out.later HB.out) HM.out hm12 (HX.out.later HB.out) HE.out HK.out HL.out)).mono ?_
        rintro e we ⟨A3, c3, rfl, hbd, ho3⟩
        have HO3 := hide ho3
        have hlow : w.heap.size + 1 + 1 < wd.heap.size := HR.out.lt
        replace HB := hide (HB.out.trans (hbd.mono HB.out.size))
        replace HR := hide (HR.out.later hbd)
        clear hbd ho3
        have k2 := fun o => (HR.out.alloc o).cell 0 _ rfl
        have k3 := fun o => (HR.out.alloc o).frozen 0
        go_wp2_with fail
        refine bp_gen fun wf hwf => ?_
        obtain ⟨q0, hbf, hof⟩ := kend hwf (HR.out.alloc _) (by omega) (HB.out.alloc HB.out.size _) (HO3.out.later ((Below.refl _ _).alloc (Nat.le_refl _) _)) (by omega) hlow (by simp)
        clear hwf k2 k3
        exact bodyPost_ret (v := .tuple #[.agg #[.slice A3 m c3], .int .i64 0]) (by simp [results, Try.results54, go_sem, q0]) rfl ⟨_, _, rfl, hbf, hof⟩
  · have HTB := hide h1.tbl
    have h1n : 1 ≤ n := by rw [← hn]; exact h1.tbl.1
    have h12 : n ≤ 12 := by rw [← hn]; exact h1.tbl.2.1
    have HE : Hid (Els n xs) := hide (by rw [← hn]; exact h2)
    have HI := hide h3
    have hm12 : m ≤ 12 := by have := h3.len h2; omega
    have HRK : Hid (RkRes f true) := hide (by unfold RkRes; simp [h1])
    have hk0 : k = 0 := by rw [← hk]; rfl
    subst hk0
    have HS : Hid (¬ SubF f (sN xs m)) := hide (by rw [← hm]; exact h4)
    clear hn hm hk h1 h2 h3 h4
    go_enter Try.func54, Try.ntmps54
    go_wp2_with fail
    refine calls_gen fun wd hw0 => ?_
    have HB : Hid (Below w.heap.size w wd) := hide (by rw [hw0]; exact (((Below.refl _ _).alloc (Nat.le_refl _) _).alloc (by simp) _).alloc (by simp; omega) _)
    have HK : Hid (Blk wd w.heap.size 53 [.slice A n c]) := hide (by rw [hw0]; exact ((Blk.new _ _ _).alloc _).alloc _)
    have HL : Hid (Blk wd (w.heap.size + 1) 48 [.slice B m d]) := hide (by rw [hw0]; have h := (Blk.new (w.alloc (Obj.cells #[.slice A n c] 53)) 48 [.slice B m d]).alloc (Obj.cells #[.slice none 0 0] 53); simpa using h)
    have HR : Hid (Blk wd (w.heap.size + 1 + 1) 53 [.slice none 0 0]) := hide (by rw [hw0]; have h := Blk.new ((w.alloc (Obj.cells #[.slice A n c] 53)).alloc (Obj.cells #[.slice B m d] 48)) 53 [.slice none 0 0]; simpa using h)
    clear hw0
    refine (isRackI _ _ _ f true _ HN.out hb HBS.out (HRD.out.later HB.out) HRK.out).mono ?_
    rintro e wd ⟨rfl, hbd⟩
    replace HB := hide (HB.out.trans (hbd.mono HB.out.size))
    replace HK := hide (HK.out.later hbd)
    replace HL := hide (HL.out.later hbd)
    replace HR := hide (HR.out.later hbd)
    clear hbd
    have k0 := HK.out.cell 0 _ rfl
    have k1 := HL.out.cell 0 _ rfl
    go_wp2_with fail
    go_region_held3 (fun w' => w'.cell? ⟨w.heap.size, 0, none⟩ = some (.slice A n c) ∧ w'.cell? ⟨w.heap.size + 1, 0, none⟩ = some (.slice B m d)) (first | exact ⟨k0, k1⟩ | go_keep) (first | (go_at_call 89; go_must (refine calls_gen fun wc hwc => ?_; (first | have hbx := drew_below hwc | have hbx := eq_below hwc); replace HB := hide (HB.out.trans (hbx.mono HB.out.size)); replace HK := hide (HK.out.later hbx); replace HL := hide (HL.out.later hbx); replace HR := hide (HR.out.later hbx); clear hwc hbx; refine (ksize_any _ n _ _ hb).mono ?_; rintro e wd ⟨rfl, hbd⟩; replace HB := hide (HB.out.trans (hbd.mono HB.out.size)); replace HK := hide (HK.out.later hbd); replace HL := hide (HL.out.later hbd); replace HR := hide (HR.out.later hbd); clear hbd; have k0 := HK.out.cell 0 _ rfl; have k1 := HL.out.cell 0 _ rfl)) | (go_at_call 88; go_must (refine calls_gen fun wc hwc => ?_; (first | have hbx := drew_below hwc | have hbx := eq_below hwc); replace HB := hide (HB.out.trans (hbx.mono HB.out.size)); replace HK := hide (HK.out.later hbx); replace HL := hide (HL.out.later hbx); replace HR := hide (HR.out.later hbx); clear hwc hbx; refine (areEls_any n _ _ _ xs true _ HM.out hbm (HX.out.later HB.out) (by simp [HE.out])).mono ?_; rintro e wd ⟨rfl, hbd⟩; replace HB := hide (HB.out.trans (hbd.mono HB.out.size)); replace HK := hide (HK.out.later hbd); replace HL := hide (HL.out.later hbd); replace HR := hide (HR.out.later hbd); clear hbd; have k0 := HK.out.cell 0 _ rfl; have k1 := HL.out.cell 0 _ rfl)) | (go_at_call 97; go_must (refine calls_gen fun wc hwc => ?_; (first | have hbx := drew_below hwc | have hbx := eq_below hwc); replace HB := hide (HB.out.trans (hbx.mono HB.out.size)); replace HK := hide (HK.out.later hbx); replace HL := hide (HL.out.later hbx); replace HR := hide (HR.out.later hbx); clear hwc hbx; refine (quiet_below (isIncr_any _ m _ xs true _ HM.out hbm (HX.out.later HB.out) (by simp [HI.out]))).mono ?_; rintro e wd ⟨rfl, hbd⟩; replace HB := hide (HB.out.trans (hbd.mono HB.out.size)); replace HK := hide (HK.out.later hbd); replace HL := hide (HL.out.later hbd); replace HR := hide (HR.out.later hbd); clear hbd; have k0 := HK.out.cell 0 _ rfl; have k1 := HL.out.cell 0 _ rfl)))
    all_goals
      clear k0 k1
      have k0 := HK.out.cell 0 _ rfl
      have k1 := HL.out.cell 0 _ rfl
      go_wp2_with fail
      go_region_held3 (fun w' => w'.cell? ⟨w.heap.size, 0, none⟩ = some (.slice A n c) ∧ w'.cell? ⟨w.heap.size + 1, 0, none⟩ = some (.slice B m d)) (first | exact ⟨k0, k1⟩ | go_keep) (first | (go_at_call 90; go_must (refine calls_gen fun wc hwc => ?_; (first | have hbx := drew_below hwc | have hbx := eq_below hwc); replace HB := hide (HB.out.trans (hbx.mono HB.out.size)); replace HK := hide (HK.out.later hbx); replace HL := hide (HL.out.later hbx); replace HR := hide (HR.out.later hbx); clear hwc hbx; refine (setOf_any n _ m _ xs _ h12 HM.out hbm (HX.out.later HB.out) HE.out).mono ?_; rintro e wd ⟨rfl, hbd⟩; replace HB := hide (HB.out.trans (hbd.mono HB.out.size)); replace HK := hide (HK.out.later hbd); replace HL := hide (HL.out.later hbd); replace HR := hide (HR.out.later hbd); clear hbd; have k0 := HK.out.cell 0 _ rfl; have k1 := HL.out.cell 0 _ rfl)) | (go_at_call 91; go_must (refine calls_gen fun wc hwc => ?_; (first | have hbx := drew_below hwc | have hbx := eq_below hwc); replace HB := hide (HB.out.trans (hbx.mono HB.out.size)); replace HK := hide (HK.out.later hbx); replace HL := hide (HL.out.later hbx); replace HR := hide (HR.out.later hbx); clear hwc hbx; refine (isSubrack_any _ n _ f (sN xs m) false _ HN.out HTB.out (HRD.out.later HB.out) (sN_lt HE.out (by have := HM.out; omega)) (by simp [HS.out])).mono ?_; rintro e wd ⟨rfl, hbd⟩; replace HB := hide (HB.out.trans (hbd.mono HB.out.size)); replace HK := hide (HK.out.later hbd); replace HL := hide (HL.out.later hbd); replace HR := hide (HR.out.later hbd); clear hbd; have k0 := HK.out.cell 0 _ rfl; have k1 := HL.out.cell 0 _ rfl)))
      all_goals
        clear k0 k1
        have k2 := HR.out.cell 0 _ rfl
        have k3 := HR.out.frozen 0
        go_wp2_with fail
        refine bp_gen fun wf hwf => ?_
        have HRF : Blk wf (w.heap.size + 1 + 1) 53 [.slice none 0 0] := by rw [hwf]; first | exact HR.out | exact HR.out.set 0 _
        have hbf : Below w.heap.size w wf := by rw [hwf]; first | exact HB.out | exact HB.out.setCell (p := ⟨w.heap.size + 1 + 1, 0, none⟩) (by show w.heap.size ≤ w.heap.size + 1 + 1; omega) _
        have q0 := HRF.cell 0 _ rfl
        clear hwf k2 k3
        exact bodyPost_ret (v := .tuple #[.agg #[.slice none 0 0], .int .i64 5]) (by simp [results, Try.results54, go_sem, q0]) rfl ⟨_, _, rfl, hbf, .inl ⟨rfl, rfl⟩⟩
  · have hk0 : k = 0 := by rw [← hk]; rfl
    subst hk0
    have HE : Hid (¬ Els n xs) := hide (by rw [← hn]; exact h2)
    have HRK : Hid (RkRes f true) := hide (by unfold RkRes; simp [h1])
    clear hn hm hk h1 h2
    go_enter Try.func54, Try.ntmps54
    go_wp2_with fail
    refine calls_gen fun wd hw0 => ?_
    have HB : Hid (Below w.heap.size w wd) := hide (by rw [hw0]; exact (((Below.refl _ _).alloc (Nat.le_refl _) _).alloc (by simp) _).alloc (by simp; omega) _)
    have HK : Hid (Blk wd w.heap.size 53 [.slice A n c]) := hide (by rw [hw0]; exact ((Blk.new _ _ _).alloc _).alloc _)
    have HL : Hid (Blk wd (w.heap.size + 1) 48 [.slice B m d]) := hide (by rw [hw0]; have h := (Blk.new (w.alloc (Obj.cells #[.slice A n c] 53)) 48 [.slice B m d]).alloc (Obj.cells #[.slice none 0 0] 53); simpa using h)
    have HR : Hid (Blk wd (w.heap.size + 1 + 1) 53 [.slice none 0 0]) := hide (by rw [hw0]; have h := Blk.new ((w.alloc (Obj.cells #[.slice A n c] 53)).alloc (Obj.cells #[.slice B m d] 48)) 53 [.slice none 0 0]; simpa using h)
    clear hw0
    refine (isRackI _ _ _ f true _ HN.out hb HBS.out (HRD.out.later HB.out) HRK.out).mono ?_
    rintro e wd ⟨rfl, hbd⟩
    replace HB := hide (HB.out.trans (hbd.mono HB.out.size))
    replace HK := hide (HK.out.later hbd)
    replace HL := hide (HL.out.later hbd)
    replace HR := hide (HR.out.later hbd)
    clear hbd
    have k0 := HK.out.cell 0 _ rfl
    have k1 := HL.out.cell 0 _ rfl
    go_wp2_with fail
    go_region_with (first | (go_at_call 89; go_must (refine calls_gen fun wc hwc => ?_; (first | have hbx := drew_below hwc | have hbx := eq_below hwc); replace HB := hide (HB.out.trans (hbx.mono HB.out.size)); replace HK := hide (HK.out.later hbx); replace HL := hide (HL.out.later hbx); replace HR := hide (HR.out.later hbx); clear hwc hbx; refine (ksize_any _ n _ _ hb).mono ?_; rintro e wd ⟨rfl, hbd⟩; replace HB := hide (HB.out.trans (hbd.mono HB.out.size)); replace HK := hide (HK.out.later hbd); replace HL := hide (HL.out.later hbd); replace HR := hide (HR.out.later hbd); clear hbd; have k0 := HK.out.cell 0 _ rfl; have k1 := HL.out.cell 0 _ rfl)) | (go_at_call 88; go_must (refine calls_gen fun wc hwc => ?_; (first | have hbx := drew_below hwc | have hbx := eq_below hwc); replace HB := hide (HB.out.trans (hbx.mono HB.out.size)); replace HK := hide (HK.out.later hbx); replace HL := hide (HL.out.later hbx); replace HR := hide (HR.out.later hbx); clear hwc hbx; refine (areEls_any n _ _ _ xs false _ HM.out hbm (HX.out.later HB.out) (by simp [HE.out])).mono ?_; rintro e wd ⟨rfl, hbd⟩; replace HB := hide (HB.out.trans (hbd.mono HB.out.size)); replace HK := hide (HK.out.later hbd); replace HL := hide (HL.out.later hbd); replace HR := hide (HR.out.later hbd); clear hbd; have k0 := HK.out.cell 0 _ rfl; have k1 := HL.out.cell 0 _ rfl)))
    all_goals
      clear k0 k1
      have k2 := HR.out.cell 0 _ rfl
      have k3 := HR.out.frozen 0
      go_wp2_with fail
      refine bp_gen fun wf hwf => ?_
      have HRF : Blk wf (w.heap.size + 1 + 1) 53 [.slice none 0 0] := by rw [hwf]; first | exact HR.out | exact HR.out.set 0 _
      have hbf : Below w.heap.size w wf := by rw [hwf]; first | exact HB.out | exact HB.out.setCell (p := ⟨w.heap.size + 1 + 1, 0, none⟩) (by show w.heap.size ≤ w.heap.size + 1 + 1; omega) _
      have q0 := HRF.cell 0 _ rfl
      clear hwf k2 k3
      exact bodyPost_ret (v := .tuple #[.agg #[.slice none 0 0], .int .i64 2]) (by simp [results, Try.results54, go_sem, q0]) rfl ⟨_, _, rfl, hbf, .inl ⟨rfl, rfl⟩⟩
  · have hk0 : k = 0 := by rw [← hk]; rfl
    subst hk0
    have HE : Hid (Els n xs) := hide (by rw [← hn]; exact h2)
    have HI := hide h3
    have HRK : Hid (RkRes f true) := hide (by unfold RkRes; simp [h1])
    clear hn hm hk h1 h2 h3
    go_enter Try.func54, Try.ntmps54
    go_wp2_with fail
    refine calls_gen fun wd hw0 => ?_
    have HB : Hid (Below w.heap.size w wd) := hide (by rw [hw0]; exact (((Below.refl _ _).alloc (Nat.le_refl _) _).alloc (by simp) _).alloc (by simp; omega) _)
    have HK : Hid (Blk wd w.heap.size 53 [.slice A n c]) := hide (by rw [hw0]; exact ((Blk.new _ _ _).alloc _).alloc _)
    have HL : Hid (Blk wd (w.heap.size + 1) 48 [.slice B m d]) := hide (by rw [hw0]; have h := (Blk.new (w.alloc (Obj.cells #[.slice A n c] 53)) 48 [.slice B m d]).alloc (Obj.cells #[.slice none 0 0] 53); simpa using h)
    have HR : Hid (Blk wd (w.heap.size + 1 + 1) 53 [.slice none 0 0]) := hide (by rw [hw0]; have h := Blk.new ((w.alloc (Obj.cells #[.slice A n c] 53)).alloc (Obj.cells #[.slice B m d] 48)) 53 [.slice none 0 0]; simpa using h)
    clear hw0
    refine (isRackI _ _ _ f true _ HN.out hb HBS.out (HRD.out.later HB.out) HRK.out).mono ?_
    rintro e wd ⟨rfl, hbd⟩
    replace HB := hide (HB.out.trans (hbd.mono HB.out.size))
    replace HK := hide (HK.out.later hbd)
    replace HL := hide (HL.out.later hbd)
    replace HR := hide (HR.out.later hbd)
    clear hbd
    have k0 := HK.out.cell 0 _ rfl
    have k1 := HL.out.cell 0 _ rfl
    go_wp2_with fail
    go_region_held3 (fun w' => w'.cell? ⟨w.heap.size, 0, none⟩ = some (.slice A n c) ∧ w'.cell? ⟨w.heap.size + 1, 0, none⟩ = some (.slice B m d)) (first | exact ⟨k0, k1⟩ | go_keep) (first | (go_at_call 89; go_must (refine calls_gen fun wc hwc => ?_; (first | have hbx := drew_below hwc | have hbx := eq_below hwc); replace HB := hide (HB.out.trans (hbx.mono HB.out.size)); replace HK := hide (HK.out.later hbx); replace HL := hide (HL.out.later hbx); replace HR := hide (HR.out.later hbx); clear hwc hbx; refine (ksize_any _ n _ _ hb).mono ?_; rintro e wd ⟨rfl, hbd⟩; replace HB := hide (HB.out.trans (hbd.mono HB.out.size)); replace HK := hide (HK.out.later hbd); replace HL := hide (HL.out.later hbd); replace HR := hide (HR.out.later hbd); clear hbd; have k0 := HK.out.cell 0 _ rfl; have k1 := HL.out.cell 0 _ rfl)) | (go_at_call 88; go_must (refine calls_gen fun wc hwc => ?_; (first | have hbx := drew_below hwc | have hbx := eq_below hwc); replace HB := hide (HB.out.trans (hbx.mono HB.out.size)); replace HK := hide (HK.out.later hbx); replace HL := hide (HL.out.later hbx); replace HR := hide (HR.out.later hbx); clear hwc hbx; refine (areEls_any n _ _ _ xs true _ HM.out hbm (HX.out.later HB.out) (by simp [HE.out])).mono ?_; rintro e wd ⟨rfl, hbd⟩; replace HB := hide (HB.out.trans (hbd.mono HB.out.size)); replace HK := hide (HK.out.later hbd); replace HL := hide (HL.out.later hbd); replace HR := hide (HR.out.later hbd); clear hbd; have k0 := HK.out.cell 0 _ rfl; have k1 := HL.out.cell 0 _ rfl)) | (go_at_call 97; go_must (refine calls_gen fun wc hwc => ?_; (first | have hbx := drew_below hwc | have hbx := eq_below hwc); replace HB := hide (HB.out.trans (hbx.mono HB.out.size)); replace HK := hide (HK.out.later hbx); replace HL := hide (HL.out.later hbx); replace HR := hide (HR.out.later hbx); clear hwc hbx; refine (quiet_below (isIncr_any _ m _ xs false _ HM.out hbm (HX.out.later HB.out) (by simp [HI.out]))).mono ?_; rintro e wd ⟨rfl, hbd⟩; replace HB := hide (HB.out.trans (hbd.mono HB.out.size)); replace HK := hide (HK.out.later hbd); replace HL := hide (HL.out.later hbd); replace HR := hide (HR.out.later hbd); clear hbd; have k0 := HK.out.cell 0 _ rfl; have k1 := HL.out.cell 0 _ rfl)))
    all_goals
      clear k0 k1
      have k2 := HR.out.cell 0 _ rfl
      have k3 := HR.out.frozen 0
      go_wp2_with fail
      refine bp_gen fun wf hwf => ?_
      have HRF : Blk wf (w.heap.size + 1 + 1) 53 [.slice none 0 0] := by rw [hwf]; first | exact HR.out | exact HR.out.set 0 _
      have hbf : Below w.heap.size w wf := by rw [hwf]; first | exact HB.out | exact HB.out.setCell (p := ⟨w.heap.size + 1 + 1, 0, none⟩) (by show w.heap.size ≤ w.heap.size + 1 + 1; omega) _
      have q0 := HRF.cell 0 _ rfl
      clear hwf k2 k3
      exact bodyPost_ret (v := .tuple #[.agg #[.slice none 0 0], .int .i64 2]) (by simp [results, Try.results54, go_sem, q0]) rfl ⟨_, _, rfl, hbf, .inl ⟨rfl, rfl⟩⟩
  · have hk0 : k = 0 := by rw [← hk]; rfl
    subst hk0
    have HRK : Hid (RkRes f false) := hide (by unfold RkRes; simp [h1])
    clear hn hm hk h1
    go_enter Try.func54, Try.ntmps54
    go_wp2_with fail
    refine calls_gen fun wd hw0 => ?_
    have HB : Hid (Below w.heap.size w wd) := hide (by rw [hw0]; exact (((Below.refl _ _).alloc (Nat.le_refl _) _).alloc (by simp) _).alloc (by simp; omega) _)
    have HK : Hid (Blk wd w.heap.size 53 [.slice A n c]) := hide (by rw [hw0]; exact ((Blk.new _ _ _).alloc _).alloc _)
    have HL : Hid (Blk wd (w.heap.size + 1) 48 [.slice B m d]) := hide (by rw [hw0]; have h := (Blk.new (w.alloc (Obj.cells #[.slice A n c] 53)) 48 [.slice B m d]).alloc (Obj.cells #[.slice none 0 0] 53); simpa using h)
    have HR : Hid (Blk wd (w.heap.size + 1 + 1) 53 [.slice none 0 0]) := hide (by rw [hw0]; have h := Blk.new ((w.alloc (Obj.cells #[.slice A n c] 53)).alloc (Obj.cells #[.slice B m d] 48)) 53 [.slice none 0 0]; simpa using h)
    clear hw0
    refine (isRackI _ _ _ f false _ HN.out hb HBS.out (HRD.out.later HB.out) HRK.out).mono ?_
    rintro e wd ⟨rfl, hbd⟩
    replace HB := hide (HB.out.trans (hbd.mono HB.out.size))
    replace HK := hide (HK.out.later hbd)
    replace HL := hide (HL.out.later hbd)
    replace HR := hide (HR.out.later hbd)
    clear hbd
    have k2 := HR.out.cell 0 _ rfl
    have k3 := HR.out.frozen 0
    go_wp2_with fail
    refine bp_gen fun wf hwf => ?_
    have HRF : Blk wf (w.heap.size + 1 + 1) 53 [.slice none 0 0] := by rw [hwf]; first | exact HR.out | exact HR.out.set 0 _
    have hbf : Below w.heap.size w wf := by rw [hwf]; first | exact HB.out | exact HB.out.setCell (p := ⟨w.heap.size + 1 + 1, 0, none⟩) (by show w.heap.size ≤ w.heap.size + 1 + 1; omega) _
    have q0 := HRF.cell 0 _ rfl
    clear hwf k2 k3
    exact bodyPost_ret (v := .tuple #[.agg #[.slice none 0 0], .int .i64 1]) (by simp [results, Try.results54, go_sem, q0]) rfl ⟨_, _, rfl, hbf, .inl ⟨rfl, rfl⟩⟩

end Go.Proofs.Ytelildgngkajnaa
