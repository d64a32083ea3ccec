import Derived.Test.YtgmloaemnbnbgaaZq
import Derived.Test.YtgmloaemnbnbgaaZbv
import Derived.Test.YtgmloaemnbnbgaaZbu
namespace Go.Proofs.Ytgmloaemnbnbgaa
open Go Go.RowKit
open Classical
set_option maxHeartbeats 2000000
def InnR (f : List (List Int)) (v code : Int) : Prop := (Rck f ∧ OrdR f.length f 5000 3 v code) ∨ (¬ Rck f ∧ v = 0 ∧ code = 1)
theorem InnR.ex (f : List (List Int)) : ∃ v code, InnR f v code := by
  by_cases h : Rck f
  · obtain ⟨v, code, h2⟩ := OrdR.ex f.length f 5000 3
    exact ⟨v, code, .inl ⟨h, h2⟩⟩
  · exact ⟨0, 1, .inr ⟨h, rfl, rfl⟩⟩

set_option maxRecDepth 100000 in
theorem ioI (A : Option Addr) (n c : Nat) (f : List (List Int)) (v code : Int) (w : World) (hn : f.length = n) (hb : n ≤ 1048576) (hbs : ∀ i, i < f.length → (f.getD i []).length ≤ 1048576) (hr : Rd2 w A f) (hres : InnR f v code) :
    Calls Try.prog 42 #[.agg #[.slice A n c]] w fun e w' => e = .returned (.tuple #[.int .i64 v, .int .i64 code]) ∧ Below w.heap.size w w' := by
  have HN := hide hn
  have HBS := hide hbs
  have HRD := hide hr
  have HB0 := hide ((Below.refl _ w).alloc (Nat.le_refl _) (Obj.cells #[Value.slice A n c] 49))
  have HK0 := hide (Blk.new w 49 [.slice A n c])
  rcases hres with ⟨hp, hord⟩ | ⟨hp, rfl, rfl⟩
  · have h1 : 1 ≤ n := by have := hp.tbl.1; omega
    have h12 : n ≤ 12 := by have := hp.tbl.2.1; omega
    have HG := hide (hp.sys hn).gens
    rw [hn] at hord
    have HORD := hide hord
    clear hord
    have HRK : Hid (RkRes f true) := hide (by unfold RkRes; simp [hp])
    have HP := hide hp
    clear hn hbs hr hp
    go_enter Try.func42, Try.ntmps42
    go_wp2_with fail
    refine (isRackI _ _ _ f true _ HN.out hb HBS.out (HRD.out.later HB0.out) HRK.out).mono ?_
    rintro e w1 ⟨rfl, hb1⟩
    have HB1 := hide (HB0.out.trans (hb1.mono HB0.out.size))
    have HK1 := hide (HK0.out.later hb1)
    clear hb1
    have k0 := HK1.out.cell 0 _ rfl
    go_wp2_with fail
    have HBc := HB1
    have HKc := HK1
    clear HB1 HK1 HB0 HK0
    go_region_held3 (fun w' => w'.cell? ⟨w.heap.size, 0, none⟩ = some (.slice A n c)) (first | exact k0 | go_keep) (first | (go_at_call 74; go_must (refine calls_gen fun wc hwc => ?_; (first | have hbx := drew_below hwc | have hbx := eq_below hwc); replace HBc := hide (HBc.out.trans (hbx.mono HBc.out.size)); replace HKc := hide (HKc.out.later hbx); clear hwc hbx; refine (ksize_any _ _ _ _ (by omega)).mono ?_; rintro e wd ⟨rfl, hbd⟩; replace HBc := hide (HBc.out.trans (hbd.mono HBc.out.size)); replace HKc := hide (HKc.out.later hbd); clear hbd; have k0 := HKc.out.cell 0 _ rfl)) | (go_at_call 73; go_must (refine calls_gen fun wc hwc => ?_; (first | have hbx := drew_below hwc | have hbx := eq_below hwc); replace HBc := hide (HBc.out.trans (hbx.mono HBc.out.size)); replace HKc := hide (HKc.out.later hbx); clear hwc hbx; refine (groupOrder_any n 5000 A n c f v code _ h1 h12 (by omega) (by omega) HN.out (by omega) HG.out (HRD.out.later HBc.out) HORD.out).mono ?_; rintro e wd ⟨rfl, hbd⟩; replace HBc := hide (HBc.out.trans (hbd.mono HBc.out.size)); replace HKc := hide (HKc.out.later hbd); clear hbd; have k0 := HKc.out.cell 0 _ rfl)))
    clear k0
    go_wp2_with fail
    go_ret2
    exact ⟨rfl, HBc.out⟩
  · skip
    have HRK : Hid (RkRes f false) := hide (by unfold RkRes; simp [hp])
    have HP := hide hp
    clear hn hbs hr hp
    go_enter Try.func42, Try.ntmps42
    go_wp2_with fail
    refine (isRackI _ _ _ f false _ HN.out hb HBS.out (HRD.out.later HB0.out) HRK.out).mono ?_
    rintro e w1 ⟨rfl, hb1⟩
    have HB1 := hide (HB0.out.trans (hb1.mono HB0.out.size))
    have HK1 := hide (HK0.out.later hb1)
    clear hb1
    go_wp2_with fail
    go_ret2
    exact ⟨rfl, HB1.out⟩

set_option maxRecDepth 100000 in
theorem ioS (A : Option Addr) (n c : Nat) (f : List (List Int)) (v code : Int) (w : World) (hn : f.length = n) (hb : n ≤ 1048576) (hbs : ∀ i, i < f.length → (f.getD i []).length ≤ 1048576) (hr : Rd2 w A f) (hres : InnR f v code) :
    Calls Try.prog 40 #[.agg #[.slice A n c]] w fun e w' => e = .returned (.tuple #[.int .i64 v, .int .i64 code]) ∧ Below w.heap.size w w' := by
  have HN := hide hn
  have HBS := hide hbs
  have HRD := hide hr
  have HB0 := hide ((Below.refl _ w).alloc (Nat.le_refl _) (Obj.cells #[Value.slice A n c] 49))
  have HK0 := hide (Blk.new w 49 [.slice A n c])
  rcases hres with ⟨hp, hord⟩ | ⟨hp, rfl, rfl⟩
  · have h1 : 1 ≤ n := by have := hp.tbl.1; omega
    have h12 : n ≤ 12 := by have := hp.tbl.2.1; omega
    have HG := hide (hp.sys hn).gens
    rw [hn] at hord
    have HORD := hide hord
    clear hord
    have HRK : Hid (RkRes f true) := hide (by unfold RkRes; simp [hp])
    have HP := hide hp
    clear hn hbs hr hp
    go_enter Try.func40, Try.ntmps40
    go_wp2_with fail
    refine (isRackS _ _ _ f true _ HN.out hb HBS.out (HRD.out.later HB0.out) HRK.out).mono ?_
    rintro e w1 ⟨rfl, hb1⟩
    have HB1 := hide (HB0.out.trans (hb1.mono HB0.out.size))
    have HK1 := hide (HK0.out.later hb1)
    clear hb1
    have k0 := HK1.out.cell 0 _ rfl
    go_wp2_with fail
    clear k0
    refine (grpS_any n 5000 A n c f _ h1 h12 (by omega) HN.out (by omega) HG.out (HRD.out.later HB1.out)).mono ?_
    rintro e w2 ⟨L, A2, c2, rfl, hb2, hll, hL⟩
    have HB2 := hide (HB1.out.trans (hb2.mono HB1.out.size))
    obtain ⟨fl, hfl⟩ : ∃ fl, L.length = fl := ⟨_, rfl⟩
    have HL := hide hL
    have HFL := hide hfl
    clear hb2 hL
    rw [hfl] at hll
    rw [hfl]
    clear hfl
    by_cases hgt : 5000 < fl
    · have hgz : (5000 : Int) < fl := by omega
      have hres : v = 0 ∧ code = 3 := by
        rcases HL.out with ⟨hE, h5⟩ | ⟨hn2, _⟩
        · rw [HFL.out] at h5; omega
        · rcases HORD.out with ⟨L', hE', hl', hv, hc⟩ | ⟨_, hv, hc⟩
          · exact absurd ⟨L', hE', hl'⟩ hn2
          · exact ⟨hv, hc⟩
      obtain ⟨rfl, rfl⟩ := hres
      go_wp2_with fail
      go_ret2
      exact ⟨rfl, HB2.out⟩
    · have hgz : (fl : Int) ≤ 5000 := by omega
      have hres : v = (fl : Int) ∧ code = 0 := by
        rcases HL.out with ⟨hE, h5⟩ | ⟨_, h5⟩
        · rcases HORD.out with ⟨L', hE', hl', hv, hc⟩ | ⟨hn2, _, _⟩
          · rw [← HFL.out, hE.len hE']; exact ⟨hv, hc⟩
          · exact absurd ⟨L, hE, h5⟩ hn2
        · rw [HFL.out] at h5; omega
      obtain ⟨rfl, rfl⟩ := hres
      go_wp2_with fail
      go_ret2
      exact ⟨rfl, HB2.out⟩
  · skip
    have HRK : Hid (RkRes f false) := hide (by unfold RkRes; simp [hp])
    have HP := hide hp
    clear hn hbs hr hp
    go_enter Try.func40, Try.ntmps40
    go_wp2_with fail
    refine (isRackS _ _ _ f false _ HN.out hb HBS.out (HRD.out.later HB0.out) HRK.out).mono ?_
    rintro e w1 ⟨rfl, hb1⟩
    have HB1 := hide (HB0.out.trans (hb1.mono HB0.out.size))
    have HK1 := hide (HK0.out.later hb1)
    clear hb1
    go_wp2_with fail
    go_ret2
    exact ⟨rfl, HB1.out⟩

end Go.Proofs.Ytgmloaemnbnbgaa
