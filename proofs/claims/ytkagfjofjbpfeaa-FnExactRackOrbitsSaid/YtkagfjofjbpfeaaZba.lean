import Derived.Test.YtkagfjofjbpfeaaZau
import Derived.Test.YtkagfjofjbpfeaaZaz
import Derived.Test.YtkagfjofjbpfeaaZax
import Derived.Test.YtkagfjofjbpfeaaZay
import Derived.Test.YtkagfjofjbpfeaaZas
namespace Go.Proofs.Ytkagfjofjbpfeaa
open Go Go.RowKit
set_option maxHeartbeats 2000000

set_option maxRecDepth 100000 in
theorem rkOrbI (A : Option Addr) (n c : Nat) (f : List (List Int)) (zs : List Int) (code : Int) (k : Nat) (w : World) (hn : f.length = n) (hb : n ≤ 1048576) (hbs : ∀ i, i < f.length → (f.getD i []).length ≤ 1048576) (hr : Rd2 w A f) (hres : RkOrb f zs code) (hk : zs.length = k) :
    Calls Try.prog 47 #[.agg #[.slice A n c]] w (RPost 2 k zs code w) := by
  have HN := hide hn
  have HBS := hide hbs
  have HRD := hide hr
  have HB0 := hide ((Below.refl _ w).alloc (Nat.le_refl _) (Obj.cells #[Value.slice A n c] 53))
  have HK0 := hide (Blk.new w 53 [.slice A n c])
  rcases hres with ⟨hp, rfl, rfl⟩ | ⟨hp, rfl, rfl⟩
  · have hk2 : k = n := by rw [← hk, labL_length, hn]
    subst hk2
    rw [hn]
    have h1 : 1 ≤ k := by have := hp.tbl.1; omega
    have h12 : k ≤ 12 := by have := hp.tbl.2.1; omega
    have HG := hide (hp.sys hn).gens
    have HS := hide (hp.sys hn)
    clear hk
    have HRK : Hid (RkRes f true) := hide (by unfold RkRes; simp [hp])
    have HP := hide hp
    clear hn hbs hr hp
    go_enter Try.func47, Try.ntmps47
    go_wp2_with fail
    refine (isRackI _ _ _ f true _ HN.out hb HBS.out (HRD.out.later HB0.out) HRK.out).mono ?_
    rintro e w1 ⟨rfl, hb1⟩
    have HB1 := hide (HB0.out.trans (hb1.mono HB0.out.size))
    have HK1 := hide (HK0.out.later hb1)
    clear hb1
    have k0 := HK1.out.cell 0 _ rfl
    go_wp2_with fail
    have HBc := HB1
    have HKc := HK1
    clear HB1 HK1 HB0 HK0
    go_region_held3 (fun w' => w'.cell? ⟨w.heap.size, 0, none⟩ = some (.slice A k c)) (first | exact k0 | go_keep) (first | (go_at_call 85; go_must (refine calls_gen fun wc hwc => ?_; (first | have hbx := drew_below hwc | have hbx := eq_below hwc); replace HBc := hide (HBc.out.trans (hbx.mono HBc.out.size)); replace HKc := hide (HKc.out.later hbx); clear hwc hbx; refine (ksize_any _ _ _ _ (by omega)).mono ?_; rintro e wd ⟨rfl, hbd⟩; replace HBc := hide (HBc.out.trans (hbd.mono HBc.out.size)); replace HKc := hide (HKc.out.later hbd); clear hbd; have k0 := HKc.out.cell 0 _ rfl)) | (go_at_call 84; go_must (refine calls_gen fun wc hwc => ?_; (first | have hbx := drew_below hwc | have hbx := eq_below hwc); replace HBc := hide (HBc.out.trans (hbx.mono HBc.out.size)); replace HKc := hide (HKc.out.later hbx); clear hwc hbx; refine (orbWI_any _ _ _ _ f (labL f k k) 0 k _ (by omega) (by omega) HN.out (by omega) HBS.out (HRD.out.later HBc.out) (.inl ⟨HS.out, by rw [Int.toNat_natCast], rfl⟩) (labL_length _ _ _)).mono ?_; rintro e wd ⟨A3, c3, rfl, hbd, hobj⟩; have HR3 := hide (hobj.obj.mono (lo' := w.heap.size) HBc.out.size (Nat.le_refl _)); clear hobj; replace HBc := hide (HBc.out.trans (hbd.mono HBc.out.size)); replace HKc := hide (HKc.out.later hbd); clear hbd; have k0 := HKc.out.cell 0 _ rfl)))
    clear k0
    go_wp2_with fail
    go_ret2
    exact ⟨_, _, rfl, HBc.out, HR3.out.res (Nat.le_refl _)⟩
  · have hk0 : k = 0 := by rw [← hk]; rfl
    subst hk0
    clear hk
    have HRK : Hid (RkRes f false) := hide (by unfold RkRes; simp [hp])
    have HP := hide hp
    clear hn hbs hr hp
    go_enter Try.func47, Try.ntmps47
    go_wp2_with fail
    refine (isRackI _ _ _ f false _ HN.out hb HBS.out (HRD.out.later HB0.out) HRK.out).mono ?_
    rintro e w1 ⟨rfl, hb1⟩
    have HB1 := hide (HB0.out.trans (hb1.mono HB0.out.size))
    have HK1 := hide (HK0.out.later hb1)
    clear hb1
    go_wp2_with fail
    go_ret2
    exact ⟨_, _, rfl, HB1.out, .inl ⟨rfl, rfl⟩⟩

set_option maxRecDepth 100000 in
theorem rkOrbS (A : Option Addr) (n c : Nat) (f : List (List Int)) (zs : List Int) (code : Int) (k : Nat) (w : World) (hn : f.length = n) (hb : n ≤ 1048576) (hbs : ∀ i, i < f.length → (f.getD i []).length ≤ 1048576) (hr : Rd2 w A f) (hres : RkOrb f zs code) (hk : zs.length = k) :
    Calls Try.prog 45 #[.agg #[.slice A n c]] w (RPost 2 k zs code w) := by
  have HN := hide hn
  have HBS := hide hbs
  have HRD := hide hr
  have HB0 := hide ((Below.refl _ w).alloc (Nat.le_refl _) (Obj.cells #[Value.slice A n c] 53))
  have HK0 := hide (Blk.new w 53 [.slice A n c])
  rcases hres with ⟨hp, rfl, rfl⟩ | ⟨hp, rfl, rfl⟩
  · have hk2 : k = n := by rw [← hk, labL_length, hn]
    subst hk2
    rw [hn]
    have h1 : 1 ≤ k := by have := hp.tbl.1; omega
    have h12 : k ≤ 12 := by have := hp.tbl.2.1; omega
    have HG := hide (hp.sys hn).gens
    have HS := hide (hp.sys hn)
    clear hk
    have HRK : Hid (RkRes f true) := hide (by unfold RkRes; simp [hp])
    have HP := hide hp
    clear hn hbs hr hp
    go_enter Try.func45, Try.ntmps45
    go_wp2_with fail
    refine (isRackS _ _ _ f true _ HN.out hb HBS.out (HRD.out.later HB0.out) HRK.out).mono ?_
    rintro e w1 ⟨rfl, hb1⟩
    have HB1 := hide (HB0.out.trans (hb1.mono HB0.out.size))
    have HK1 := hide (HK0.out.later hb1)
    clear hb1
    have k0 := HK1.out.cell 0 _ rfl
    go_wp2_with fail
    clear k0
    refine (l01Orbits_any _ k _ k f _ HN.out (by omega) h1 h12 HG.out (HRD.out.later HB1.out)).mono ?_
    rintro e w2 ⟨A2, c2, rfl, hb2, hres2⟩
    have HB2 := hide (HB1.out.trans (hb2.mono HB1.out.size))
    have HR2 := hide (hres2.obj.mono (lo' := w.heap.size) HB1.out.size (Nat.le_refl _))
    clear hb2 hres2
    go_wp2_with fail
    go_ret2
    exact ⟨_, _, rfl, HB2.out, HR2.out.res (Nat.le_refl _)⟩
  · have hk0 : k = 0 := by rw [← hk]; rfl
    subst hk0
    clear hk
    have HRK : Hid (RkRes f false) := hide (by unfold RkRes; simp [hp])
    have HP := hide hp
    clear hn hbs hr hp
    go_enter Try.func45, Try.ntmps45
    go_wp2_with fail
    refine (isRackS _ _ _ f false _ HN.out hb HBS.out (HRD.out.later HB0.out) HRK.out).mono ?_
    rintro e w1 ⟨rfl, hb1⟩
    have HB1 := hide (HB0.out.trans (hb1.mono HB0.out.size))
    have HK1 := hide (HK0.out.later hb1)
    clear hb1
    go_wp2_with fail
    go_ret2
    exact ⟨_, _, rfl, HB1.out, .inl ⟨rfl, rfl⟩⟩

end Go.Proofs.Ytkagfjofjbpfeaa
