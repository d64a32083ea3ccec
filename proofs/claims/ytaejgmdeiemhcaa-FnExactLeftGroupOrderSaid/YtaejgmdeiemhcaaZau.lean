import Derived.Test.YtaejgmdeiemhcaaZai
import Derived.Test.YtaejgmdeiemhcaaZat
import Derived.Test.YtaejgmdeiemhcaaZs
import Derived.Deep.Cut
import Derived.Deep.RegionHeld3
namespace Go.Proofs.Ytaejgmdeiemhcaa
open Go Go.RowKit
open Classical
set_option maxHeartbeats 2000000
set_option maxRecDepth 100000 in
theorem ord7S (A : Option Addr) (n c : Nat) (B : Option Addr) (m d : Nat) (C : Option Addr) (k e : Nat) (rows : List (List Int)) (v code : Int) (w : World) (h1 : 1 ≤ n) (h12 : n ≤ 12) (hk : rows.length = k) (hkb : k ≤ 64) (hg : Gens rows n) (hr : Rd2 w C rows) (hord : OrdR n rows 1000 3 v code) :
    Calls Try.prog 63 #[.agg #[.slice A n c, .slice B m d], .slice C k e] w fun e w' => e = .returned (.tuple #[.int .i64 v, .int .i64 code]) ∧ Below w.heap.size w w' := by
  have HORD := hide hord
  have HKK := hide hk
  have HG := hide hg
  have HB0 := hide ((Below.refl _ w).alloc (Nat.le_refl _) (Obj.cells #[Value.slice A n c, Value.slice B m d] 28))
  have HK0 := hide (Blk.new w 28 [.slice A n c, .slice B m d])
  have HR := hide (hr.later HB0.out)
  have k0 := HK0.out.cell 0 _ rfl
  clear hord hk hg hr
  go_enter Try.func63, Try.ntmps63
  go_wp2_with fail
  refine (grpO_any n 1000 _ k _ rows _ h1 h12 (by omega) (by omega) HKK.out (by omega) HG.out HR.out).mono ?_
  rintro e w1 hcase
  have hc2 : ∃ (g : Nat) (b : Bool) (B' : Option Addr) (d' : Nat), e = .returned (.tuple #[.slice B' g d', .bool b]) ∧ Below (w.alloc (Obj.cells #[Value.slice A n c, Value.slice B m d] 28)).heap.size (w.alloc (Obj.cells #[Value.slice A n c, Value.slice B m d] 28)) w1 ∧ ((b = true ∧ v = (g : Int) ∧ code = 0) ∨ (b = false ∧ v = 0 ∧ code = 3)) := by
    rcases hcase with ⟨L, A', c', hE, _, hL, he, hb, _⟩ | ⟨hn, he, hb⟩
    · refine ⟨L.length, true, A', c', he, hb, .inl ⟨rfl, ?_⟩⟩
      rcases HORD.out with ⟨L', hE', hl', hv, hc⟩ | ⟨hn2, _, _⟩
      · rw [hE.len hE']; exact ⟨hv, hc⟩
      · exact absurd ⟨L, hE, hL⟩ hn2
    · refine ⟨0, false, none, 0, he, hb, .inr ⟨rfl, ?_⟩⟩
      rcases HORD.out with ⟨L', hE', hl', hv, hc⟩ | ⟨_, hv, hc⟩
      · exact absurd ⟨L', hE', hl'⟩ hn
      · exact ⟨hv, hc⟩
  clear hcase
  obtain ⟨g, b, B', d', rfl, hb1, hres⟩ := hc2
  have HB1 := hide (HB0.out.trans (hb1.mono HB0.out.size))
  clear hb1 k0
  rcases hres with ⟨rfl, rfl, rfl⟩ | ⟨rfl, rfl, rfl⟩
  · go_wp2_with fail
    go_ret2
    exact ⟨rfl, HB1.out⟩
  · go_wp2_with fail
    go_ret2
    exact ⟨rfl, HB1.out⟩
theorem lgoS (A : Option Addr) (n c : Nat) (f : List (List Int)) (B : Option Addr) (m d : Nat) (s : List (List Int)) (v code : Int) (w : World) (hz : ZArg 1048576 w A n f B m s) (hr : LgoRes f s v code) :
    Calls Try.prog 28 #[.agg #[.slice A n c, .slice B m d]] w fun e w' => e = .returned (.tuple #[.int .i64 v, .int .i64 code]) ∧ Below w.heap.size w w' := by
  have HZ := hide hz
  have HB0 := hide ((Below.refl _ w).alloc (Nat.le_refl _) (Obj.cells #[Value.slice A n c, Value.slice B m d] 28))
  have HK0 := hide (Blk.new w 28 [.slice A n c, .slice B m d])
  rcases hr with ⟨hg, hord⟩ | ⟨hg, rfl, rfl⟩
  · obtain rfl := hz.same hg.map
    have h1 := (hg.sizes hz.sz.fl).1
    have h12 := (hg.sizes hz.sz.fl).2.1
    have HG := hide hg
    rw [hz.sz.fl] at hord
    have HORD := hide hord
    clear hord
    clear hg hz
    go_enter Try.func28, Try.ntmps28
    go_wp2_with fail
    refine (nd7S _ _ _ f _ _ _ s true _ (HZ.out.later HB0.out) (by simp [HG.out])).mono ?_
    rintro e w1 ⟨rfl, hb1⟩
    have HB1 := hide (HB0.out.trans (hb1.mono HB0.out.size))
    have HK1 := hide (HK0.out.later hb1)
    have k0 := HK1.out.cell 0 _ rfl
    have k1 := HK1.out.cell 1 _ rfl
    clear hb1
    go_wp2_with fail
    refine (ord7S _ _ _ _ _ _ _ m _ f v code _ h1 h12 HZ.out.sz.fl (by omega) (HG.out.lam HZ.out.sz.fl) (HZ.out.later HB1.out).fst HORD.out).mono ?_
    rintro e w3 ⟨rfl, hb3⟩
    have HBc := hide (HB1.out.trans (hb3.mono HB1.out.size))
    clear hb3
    go_wp2_with fail
    go_ret2
    exact ⟨rfl, HBc.out⟩
  · skip
    have HG := hide hg
    clear hg hz
    go_enter Try.func28, Try.ntmps28
    go_wp2_with fail
    refine (nd7S _ _ _ f _ _ _ s false _ (HZ.out.later HB0.out) (by simp [HG.out])).mono ?_
    rintro e w1 ⟨rfl, hb1⟩
    have HB1 := hide (HB0.out.trans (hb1.mono HB0.out.size))
    clear hb1
    go_wp2_with fail
    go_ret2
    exact ⟨rfl, HB1.out⟩
theorem rgoS (A : Option Addr) (n c : Nat) (f : List (List Int)) (B : Option Addr) (m d : Nat) (s : List (List Int)) (v code : Int) (w : World) (hz : ZArg 1048576 w A n f B m s) (hr : RgoRes f s v code) :
    Calls Try.prog 30 #[.agg #[.slice A n c, .slice B m d]] w fun e w' => e = .returned (.tuple #[.int .i64 v, .int .i64 code]) ∧ Below w.heap.size w w' := by
  have HZ := hide hz
  have HB0 := hide ((Below.refl _ w).alloc (Nat.le_refl _) (Obj.cells #[Value.slice A n c, Value.slice B m d] 28))
  have HK0 := hide (Blk.new w 28 [.slice A n c, .slice B m d])
  rcases hr with ⟨hg, hord⟩ | ⟨hg, rfl, rfl⟩
  · obtain rfl := hz.same hg.map
    have h1 := (hg.sizes hz.sz.fl).1
    have h12 := (hg.sizes hz.sz.fl).2.1
    have HG := hide hg
    rw [hz.sz.fl] at hord
    have HORD := hide hord
    clear hord
    clear hg hz
    go_enter Try.func30, Try.ntmps30
    go_wp2_with fail
    refine (nd7S _ _ _ f _ _ _ s true _ (HZ.out.later HB0.out) (by simp [HG.out])).mono ?_
    rintro e w1 ⟨rfl, hb1⟩
    have HB1 := hide (HB0.out.trans (hb1.mono HB0.out.size))
    have HK1 := hide (HK0.out.later hb1)
    have k0 := HK1.out.cell 0 _ rfl
    have k1 := HK1.out.cell 1 _ rfl
    clear hb1
    have HBc := HB1
    have HKc := HK1
    clear HB1 HK1
    go_upto_region 3 with fail
    go_region_held3 (fun w' => w'.cell? ⟨w.heap.size, 0, none⟩ = some (.slice A m c) ∧ w'.cell? ⟨w.heap.size, 1, none⟩ = some (.slice B m d)) (first | exact ⟨k0, k1⟩ | go_keep) (first | (go_at_call 58; go_must (refine calls_gen fun wc hwc => ?_; (first | have hbx := drew_below hwc | have hbx := eq_below hwc); replace HBc := hide (HBc.out.trans (hbx.mono HBc.out.size)); replace HKc := hide (HKc.out.later hbx); clear hwc hbx; refine (l01Turn_any _ _ _ s _ HZ.out.sz.sl HZ.out.sz.nb (fun i hi => by rw [HG.out.map.2.1.rows i hi]; exact HZ.out.sz.sl) (HZ.out.later HBc.out).snd).mono ?_; rintro e wd ⟨A2, c2, rfl, hbd, hobj⟩; replace HBc := hide (HBc.out.trans (hbd.mono HBc.out.size)); replace HKc := hide (HKc.out.later hbd); clear hbd; have k0 := HKc.out.cell 0 _ rfl; have k1 := HKc.out.cell 1 _ rfl; have HRD := hide hobj.rd; clear hobj)) | (go_at_call 63; go_must (refine calls_gen fun wc hwc => ?_; (first | have hbx := drew_below hwc | have hbx := eq_below hwc); replace HBc := hide (HBc.out.trans (hbx.mono HBc.out.size)); replace HKc := hide (HKc.out.later hbx); replace HRD := hide (HRD.out.later hbx); clear hwc hbx; refine (ord7S _ _ _ _ _ _ _ m _ (turnL s) v code _ h1 h12 (by rw [turnL_length]; exact HZ.out.sz.sl) (by omega) (HG.out.rho HZ.out.sz.fl) HRD.out HORD.out).mono ?_; rintro e wd ⟨rfl, hbd⟩; replace HBc := hide (HBc.out.trans (hbd.mono HBc.out.size)); replace HKc := hide (HKc.out.later hbd); clear hbd; have k0 := HKc.out.cell 0 _ rfl; have k1 := HKc.out.cell 1 _ rfl; skip)))
    clear k0 k1
    go_wp2_with fail
    go_ret2
    exact ⟨rfl, HBc.out⟩
  · skip
    have HG := hide hg
    clear hg hz
    go_enter Try.func30, Try.ntmps30
    go_wp2_with fail
    refine (nd7S _ _ _ f _ _ _ s false _ (HZ.out.later HB0.out) (by simp [HG.out])).mono ?_
    rintro e w1 ⟨rfl, hb1⟩
    have HB1 := hide (HB0.out.trans (hb1.mono HB0.out.size))
    clear hb1
    go_wp2_with fail
    go_ret2
    exact ⟨rfl, HB1.out⟩
theorem wgoS (A : Option Addr) (n c : Nat) (f : List (List Int)) (B : Option Addr) (m d : Nat) (s : List (List Int)) (v code : Int) (w : World) (hz : ZArg 1048576 w A n f B m s) (hr : WgoRes f s v code) :
    Calls Try.prog 32 #[.agg #[.slice A n c, .slice B m d]] w fun e w' => e = .returned (.tuple #[.int .i64 v, .int .i64 code]) ∧ Below w.heap.size w w' := by
  have HZ := hide hz
  have HB0 := hide ((Below.refl _ w).alloc (Nat.le_refl _) (Obj.cells #[Value.slice A n c, Value.slice B m d] 28))
  have HK0 := hide (Blk.new w 28 [.slice A n c, .slice B m d])
  rcases hr with ⟨hg, hord⟩ | ⟨hg, rfl, rfl⟩
  · obtain rfl := hz.same hg.map
    have h1 := (hg.sizes hz.sz.fl).1
    have h12 := (hg.sizes hz.sz.fl).2.1
    have HG := hide hg
    rw [hz.sz.fl] at hord
    have HORD := hide hord
    clear hord
    clear hg hz
    go_enter Try.func32, Try.ntmps32
    go_wp2_with fail
    refine (nd7S _ _ _ f _ _ _ s true _ (HZ.out.later HB0.out) (by simp [HG.out])).mono ?_
    rintro e w1 ⟨rfl, hb1⟩
    have HB1 := hide (HB0.out.trans (hb1.mono HB0.out.size))
    have HK1 := hide (HK0.out.later hb1)
    have k0 := HK1.out.cell 0 _ rfl
    have k1 := HK1.out.cell 1 _ rfl
    clear hb1
    have HBc := HB1
    have HKc := HK1
    clear HB1 HK1
    go_upto_region 3 with fail
    go_region_held3 (fun w' => w'.cell? ⟨w.heap.size, 0, none⟩ = some (.slice A m c) ∧ w'.cell? ⟨w.heap.size, 1, none⟩ = some (.slice B m d)) (first | exact ⟨k0, k1⟩ | go_keep) (first | (go_at_call 65; go_must (refine calls_gen fun wc hwc => ?_; (first | have hbx := drew_below hwc | have hbx := eq_below hwc); replace HBc := hide (HBc.out.trans (hbx.mono HBc.out.size)); replace HKc := hide (HKc.out.later hbx); clear hwc hbx; refine (bothS_any _ m _ f _ _ s _ (HZ.out.later HBc.out) HG.out.map).mono ?_; rintro e wd ⟨A2, c2, rfl, hbd, hrd⟩; replace HBc := hide (HBc.out.trans (hbd.mono HBc.out.size)); replace HKc := hide (HKc.out.later hbd); clear hbd; have k0 := HKc.out.cell 0 _ rfl; have k1 := HKc.out.cell 1 _ rfl; have HRD := hide hrd; clear hrd)) | (go_at_call 63; go_must (refine calls_gen fun wc hwc => ?_; (first | have hbx := drew_below hwc | have hbx := eq_below hwc); replace HBc := hide (HBc.out.trans (hbx.mono HBc.out.size)); replace HKc := hide (HKc.out.later hbx); replace HRD := hide (HRD.out.later hbx); clear hwc hbx; refine (ord7S _ _ _ _ _ _ _ (m + m) _ (bothL f s) v code _ h1 h12 (bothL_length HZ.out.sz.fl HZ.out.sz.sl) (by omega) (HG.out.both HZ.out.sz.fl) HRD.out HORD.out).mono ?_; rintro e wd ⟨rfl, hbd⟩; replace HBc := hide (HBc.out.trans (hbd.mono HBc.out.size)); replace HKc := hide (HKc.out.later hbd); clear hbd; have k0 := HKc.out.cell 0 _ rfl; have k1 := HKc.out.cell 1 _ rfl; skip)))
    clear k0 k1
    go_wp2_with fail
    go_ret2
    exact ⟨rfl, HBc.out⟩
  · skip
    have HG := hide hg
    clear hg hz
    go_enter Try.func32, Try.ntmps32
    go_wp2_with fail
    refine (nd7S _ _ _ f _ _ _ s false _ (HZ.out.later HB0.out) (by simp [HG.out])).mono ?_
    rintro e w1 ⟨rfl, hb1⟩
    have HB1 := hide (HB0.out.trans (hb1.mono HB0.out.size))
    clear hb1
    go_wp2_with fail
    go_ret2
    exact ⟨rfl, HB1.out⟩
end Go.Proofs.Ytaejgmdeiemhcaa
