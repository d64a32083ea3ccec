import Derived.Test.YtngfdkmiifpbgaaDoorZn
import Derived.Test.YtngfdkmiifpbgaaDoorZp
import Derived.Test.YtngfdkmiifpbgaaDoorZj
namespace Go.Proofs.YtngfdkmiifpbgaaDoor
open Go Go.RowKit
set_option maxHeartbeats 4000000
set_option maxRecDepth 100000 in
theorem kcS (A : Option Addr) (n c : Nat) (f : List (List Int)) (zs : List Int) (code : Int) (k : Nat) (w : World) (hn : f.length = n) (hb : n ≤ 1048576) (hbs : ∀ i, i < f.length → (f.getD i []).length ≤ 1048576) (hr : Rd2 w A f) (hres : KcRes f zs code) (hk : zs.length = k) :
    Calls Tryd.prog 5 #[.agg #[.slice A n c]] w (RPost 2 k zs code w) := by
  have HN := hide hn
  have HRD := hide hr
  have HB0 := hide ((Below.refl _ w).alloc (Nat.le_refl _) (Obj.cells #[Value.slice A n c] 29))
  have HK0 := hide (Blk.new w 29 [.slice A n c])
  have HBS := hide hbs

  rcases hres with ⟨hg, rfl, rfl⟩ | ⟨hg, rfl, rfl⟩
  · have HKL : Hid (k = n) := hide (by rw [← hk, kcC_length, hn])
    clear hk
    have HG := hide hg
    have HTB := hide hg.tbl
    have h1 : 1 ≤ n := (hg.pos HN.out).1
    have h12 : n ≤ 12 := (hg.pos HN.out).2
    clear hg hn hr hbs
    go_enter Tryd.func5, Tryd.ntmps5
    have k0 := HK0.out.cell 0 _ rfl
    go_wp2_with fail
    clear k0
    refine (gq_below (isGrpS_any _ _ _ f true _ HN.out hb HBS.out (HRD.out.later HB0.out) ⟨fun _ => HG.out, fun _ => rfl⟩)).mono ?_
    rintro e w1 ⟨rfl, hb1⟩
    have HB1 := hide (HB0.out.trans (hb1.mono HB0.out.size))
    have HK1 := hide (HK0.out.later hb1)
    clear hb1
    have HGE := hide (cjL_gens HN.out HG.out)
    have HJL : Hid ((cjL f n).length = n) := hide (grid_length _ _)
    have HLN := hide (kc_lab HN.out HG.out)
    have HBc := HB1
    have HKc := HK1
    have k0 := HKc.out.cell 0 _ rfl
    go_wp2_with fail
    go_region_held3 (fun w' => w'.cell? ⟨w.heap.size, 0, none⟩ = some (.slice A n c)) (first | exact k0 | go_keep) (first | (go_at_call 16; go_must (refine calls_gen fun wc hwc => ?_; (first | have hbx := drew_below hwc | have hbx := eq_below hwc); replace HBc := hide (HBc.out.trans (hbx.mono HBc.out.size)); replace HKc := hide (HKc.out.later hbx); clear hwc hbx; refine (innerS_any _ n _ f _ HN.out HG.out (HRD.out.later HBc.out)).mono ?_; rintro e wd ⟨A1, c1, rfl, hbd, ho1⟩; have HO := hide ho1.rd; replace HBc := hide (HBc.out.trans (hbd.mono HBc.out.size)); replace HKc := hide (HKc.out.later hbd); clear hbd ho1; have k0 := HKc.out.cell 0 _ rfl)) | (go_at_call 15; go_must (refine calls_gen fun wc hwc => ?_; (first | have hbx := drew_below hwc | have hbx := eq_below hwc); replace HBc := hide (HBc.out.trans (hbx.mono HBc.out.size)); replace HKc := hide (HKc.out.later hbx); replace HO := hide (HO.out.later hbx); clear hwc hbx; refine (l01Orbits_any _ n _ n (cjL f n) _ HJL.out (by omega) h1 h12 HGE.out HO.out).mono ?_; rintro e wd ⟨A2, c2, rfl, hbd, ho2⟩; have HO2 := hide (ho2.mono HBc.out.size); replace HBc := hide (HBc.out.trans (hbd.mono HBc.out.size)); replace HKc := hide (HKc.out.later hbd); clear hbd ho2; have k0 := HKc.out.cell 0 _ rfl)))
    all_goals
      clear k0
      go_wp2_with fail
      go_ret2
      refine ⟨A2, c2, by rw [HKL.out]; rfl, HBc.out, ?_⟩
      rw [← HLN.out]
      exact HO2.out
  · have hk0 : k = 0 := by rw [← hk]; rfl
    subst hk0
    clear hk
    have HG := hide hg
    clear hg hn hr hbs
    go_enter Tryd.func5, Tryd.ntmps5
    have k0 := HK0.out.cell 0 _ rfl
    go_wp2_with fail
    clear k0
    refine (gq_below (isGrpS_any _ _ _ f false _ HN.out hb HBS.out (HRD.out.later HB0.out) ⟨fun h => (by cases h), fun h => absurd h HG.out⟩)).mono ?_
    rintro e w1 ⟨rfl, hb1⟩
    have HB1 := hide (HB0.out.trans (hb1.mono HB0.out.size))
    have HK1 := hide (HK0.out.later hb1)
    clear hb1
    go_wp2_with fail
    go_ret2
    exact ⟨_, _, rfl, HB1.out, .inl ⟨rfl, rfl⟩⟩
end Go.Proofs.YtngfdkmiifpbgaaDoor
