import Derived.Test.YtgmloaemnbnbgaaZj
import Derived.Test.YtgmloaemnbnbgaaZag
import Derived.Test.YtgmloaemnbnbgaaZaf
import Derived.Test.YtgmloaemnbnbgaaZab
import Derived.Test.YtgmloaemnbnbgaaZa
import Derived.Deep.DeepCutAuto
namespace Go.Proofs.Ytgmloaemnbnbgaa
open Go Go.RowKit
set_option maxHeartbeats 1000000

set_option maxRecDepth 100000 in
theorem sbC_any (A : Option Addr) (n c : Nat) (f : List (List Int)) (B : Option Addr) (m d : Nat) (s : List (List Int)) (C : Option Addr) (k e : Nat) (set : List Int) (b1 b2 : Nat) (w : World) (hz : ZArg 1048576 w A n f B m s) (hp : PMap f s) (hkl : set.length = k) (hi : IncSet n set) (hcl : ClF f s set) (hs : Rd w C set)
    (hk1 : Blk w b1 29 [.slice A n c, .slice B m d]) (hk2 : Blk w b2 26 [.slice C k e]) :
    PairFn Try.prog 101 #[.pointer (some ⟨b1, 0, none⟩), .pointer (some ⟨b2, 0, none⟩)] k (sb1 f set) (sb1 s set) w := by
  intro W x y hx hy hb
  have HZ := hide (hz.later hb)
  have HK1 := hide (hk1.later hb)
  have HP := hide hp
  have HKL := hide hkl
  have HFL := hide hz.sz.fl
  have hsm := hz.small hp
  have hle := hi.le
  obtain ⟨bs, os, rfl, hbs, hcs⟩ := hs (by omega)
  have HK2 := hide (hk2.later hb)
  obtain ⟨a, ha, han⟩ := hi.at (i := x) (by omega)
  obtain ⟨g, hg, hgn⟩ := hi.at (i := y) (by omega)
  have hcx := hcs x (by omega)
  have hcy := hcs y (by omega)
  rw [ha] at hcx
  rw [hg] at hcy
  have HRS := hide (hs.later hb)
  have HCX : Hid (W.cell? ⟨bs, os + x, none⟩ = some (.int .i64 a)) := hide ((hb.cell (p := ⟨bs, os + x, none⟩) hbs).trans hcx)
  have HCY : Hid (W.cell? ⟨bs, os + y, none⟩ = some (.int .i64 g)) := hide ((hb.cell (p := ⟨bs, os + y, none⟩) hbs).trans hcy)
  have hbsW : bs < W.heap.size := Nat.lt_of_lt_of_le hbs hb.size
  have hc2 := hcl x y (by omega) (by omega)
  rw [ha, hg, Int.toNat_natCast, Int.toNat_natCast] at hc2
  have e1 : sb1 f set x y = ixOf set ((ap f a g : Nat) : Int) := by unfold sb1; rw [ha, hg, Int.toNat_natCast, Int.toNat_natCast]
  have e2 : sb1 s set x y = ixOf set ((ap s a g : Nat) : Int) := by unfold sb1; rw [ha, hg, Int.toNat_natCast, Int.toNat_natCast]
  show Calls Try.prog 101 #[.agg #[.int .i64 x, .int .i64 y], .pointer (some ⟨b1, 0, none⟩), .pointer (some ⟨b2, 0, none⟩)] W _
  rw [e1, e2]
  obtain ⟨u, hu⟩ : ∃ u, ap f a g = u := ⟨_, rfl⟩
  obtain ⟨v, hv⟩ : ∃ v, ap s a g = v := ⟨_, rfl⟩
  rw [hu] at hc2 ⊢
  rw [hv] at hc2 ⊢
  have HU := hide hu
  have HV := hide hv
  have i1 := ixOf_in hc2.1
  have i2 := ixOf_in hc2.2
  obtain ⟨r1, hr1⟩ : ∃ r, ixOf set (u : Int) = r := ⟨_, rfl⟩
  obtain ⟨r2, hr2⟩ : ∃ r, ixOf set (v : Int) = r := ⟨_, rfl⟩
  rw [hr1] at i1 ⊢
  rw [hr2] at i2 ⊢
  have HR1 := hide hr1
  have HR2 := hide hr2
  have hk12 : k ≤ 12 := by omega
  have hxz : (x : Int) < k := by omega
  have hyz : (y : Int) < k := by omega
  have hxz0 : (0 : Int) ≤ x := by omega
  have hyz0 : (0 : Int) ≤ y := by omega
  have HA := hide (And.intro han hgn)
  clear hz hp hi hcl hs hk1 hk2 hb hcs ha hg hcx hcy hc2 e1 e2 hu hv hr1 hr2 hx hy hle hbs hkl han hgn hsm i1 i2
  go_enter Try.func101, Try.ntmps101
  go_wp2_with fail
  refine wp_gen fun w1 hw1 => ?_
  have hb1' : Below W.heap.size W w1 := by rw [hw1]; exact ((Below.refl _ _).alloc (Nat.le_refl _) _).alloc (by simp) _
  have hq1 : Blk w1 W.heap.size 89 [.int .i64 x, .int .i64 y] := by rw [hw1]; exact (Blk.new _ _ _).alloc _
  have hr1 : Blk w1 (W.heap.size + 1) 89 [.int .i64 0, .int .i64 0] := by rw [hw1]; have h := Blk.new (W.alloc (Obj.cells #[Value.int IntKind.i64 x, Value.int IntKind.i64 y] 89)) 89 [.int .i64 0, .int .i64 0]; simpa using h
  have HF : Hid (FB W w1 (w1.heap.size - 1) [(W.heap.size + 1, 89, [.int .i64 0, .int .i64 0]), (W.heap.size, 89, [.int .i64 x, .int .i64 y]), (b1, 29, [.slice A n c, .slice B m d]), (b2, 26, [.slice (some ⟨bs, os, none⟩) k e])]) := hide (FB.of hb1' hq1.lt (by
    have a1 := HK1.out.later hb1'
    have a2 := HK2.out.later hb1'
    simp only [List.forall_mem_cons]
    exact ⟨hr1, hq1, a1, a2, fun q hq => absurd hq (List.not_mem_nil)⟩))
  clear hw1 hb1' hq1 hr1
  have s0 : w1.cell? ⟨bs, os + x, none⟩ = some (.int .i64 a) := (HF.out.below.cell (p := ⟨bs, os + x, none⟩) hbsW).trans HCX.out
  have s1 : w1.cell? ⟨bs, os + y, none⟩ = some (.int .i64 g) := (HF.out.below.cell (p := ⟨bs, os + y, none⟩) hbsW).trans HCY.out
  have nb1 : w1.heap.size ≠ bs := by have := HF.out.below.size; omega
  have nb2 := nb1.symm
  go_cut [5] (fun vv wx => ∃ L, vv = .pointer (some ⟨L, 0, none⟩) ∧ W.heap.size + 1 < L ∧ FB W wx L ((L, 89, [.int .i64 u, .int .i64 v]) :: [(W.heap.size + 1, 89, [.int .i64 0, .int .i64 0]), (W.heap.size, 89, [.int .i64 x, .int .i64 y]), (b1, 29, [.slice A n c, .slice B m d]), (b2, 26, [.slice (some ⟨bs, os, none⟩) k e])]))
  case first =>
    have HPB : Hid True := hide trivial
    have k0 := (HF.out.blk (b := b1) (t := 29) (cs := [.slice A n c, .slice B m d]) (by simp)).cell 0 _ rfl
    have k1 := (HF.out.blk (b := b1) (t := 29) (cs := [.slice A n c, .slice B m d]) (by simp)).cell 1 _ rfl
    have k2 := (HF.out.blk (b := W.heap.size) (t := 89) (cs := [.int .i64 x, .int .i64 y]) (by simp)).cell 0 _ rfl
    have k3 := (HF.out.blk (b := W.heap.size) (t := 89) (cs := [.int .i64 x, .int .i64 y]) (by simp)).cell 1 _ rfl
    have k4 := (HF.out.blk (b := b2) (t := 26) (cs := [.slice (some ⟨bs, os, none⟩) k e]) (by simp)).cell 0 _ rfl
    have gn0 : w1.heap.size ≠ b1 := (by have h1 := HF.out.sz; have h2 := HF.out.le (b := b1) (t := 29) (cs := [.slice A n c, .slice B m d]) (by simp); omega)
    have gm0 := gn0.symm
    have gn1 : w1.heap.size ≠ W.heap.size := (by have h1 := HF.out.sz; have h2 := HF.out.le (b := W.heap.size) (t := 89) (cs := [.int .i64 x, .int .i64 y]) (by simp); omega)
    have gm1 := gn1.symm
    have gn2 : w1.heap.size ≠ b2 := (by have h1 := HF.out.sz; have h2 := HF.out.le (b := b2) (t := 26) (cs := [.slice (some ⟨bs, os, none⟩) k e]) (by simp); omega)
    have gm2 := gn2.symm
    go_region_held3 (fun w' => w'.cell? ⟨b1, 0, none⟩ = some (.slice A n c) ∧ w'.cell? ⟨b1, 1, none⟩ = some (.slice B m d) ∧ w'.cell? ⟨W.heap.size, 0, none⟩ = some (.int .i64 x) ∧ w'.cell? ⟨W.heap.size, 1, none⟩ = some (.int .i64 y) ∧ w'.cell? ⟨b2, 0, none⟩ = some (.slice (some ⟨bs, os, none⟩) k e) ∧ w'.cell? ⟨bs, os + x, none⟩ = some (.int .i64 a) ∧ w'.cell? ⟨bs, os + y, none⟩ = some (.int .i64 g)) (first | exact ⟨k0, k1, k2, k3, k4, s0, s1⟩ | go_keep) (first | (go_at_call 61; go_must (refine calls_gen fun wc hwc => ?_; (first | (have hbx := al_drew_below hwc; have HPB := hide (And.intro (blk_al_drew hwc) HF.out.sz)) | (have hbx := al_below hwc; have HPB := hide (And.intro (blk_al hwc) HF.out.sz)) | (have hbx := drew_below hwc; (first | replace HPB := hide (And.intro (HPB.out.1.later hbx) HPB.out.2) | skip)) | (have hbx := eq_below hwc; (first | replace HPB := hide (And.intro (HPB.out.1.later hbx) HPB.out.2) | skip))); replace HF := hide (HF.out.later hbx); clear hwc hbx; refine (lead_any _ _ _ f _ _ _ s a g _ (HZ.out.later HF.out.below) HP.out HA.out.1 HA.out.2).mono ?_; rintro e wd ⟨rfl, hbd⟩; replace HF := hide (HF.out.later hbd); (first | replace HPB := hide (And.intro (HPB.out.1.later hbd) HPB.out.2) | skip); clear hbd; have gn0 : wd.heap.size ≠ b1 := (by have h1 := HF.out.sz; have h2 := HF.out.le (b := b1) (t := 29) (cs := [.slice A n c, .slice B m d]) (by simp); omega); have gm0 := gn0.symm; have gn1 : wd.heap.size ≠ W.heap.size := (by have h1 := HF.out.sz; have h2 := HF.out.le (b := W.heap.size) (t := 89) (cs := [.int .i64 x, .int .i64 y]) (by simp); omega); have gm1 := gn1.symm; have gn2 : wd.heap.size ≠ b2 := (by have h1 := HF.out.sz; have h2 := HF.out.le (b := b2) (t := 26) (cs := [.slice (some ⟨bs, os, none⟩) k e]) (by simp); omega); have gm2 := gn2.symm; have k0 := (HF.out.blk (b := b1) (t := 29) (cs := [.slice A n c, .slice B m d]) (by simp)).cell 0 _ rfl; have k1 := (HF.out.blk (b := b1) (t := 29) (cs := [.slice A n c, .slice B m d]) (by simp)).cell 1 _ rfl; have k2 := (HF.out.blk (b := W.heap.size) (t := 89) (cs := [.int .i64 x, .int .i64 y]) (by simp)).cell 0 _ rfl; have k3 := (HF.out.blk (b := W.heap.size) (t := 89) (cs := [.int .i64 x, .int .i64 y]) (by simp)).cell 1 _ rfl; have k4 := (HF.out.blk (b := b2) (t := 26) (cs := [.slice (some ⟨bs, os, none⟩) k e]) (by simp)).cell 0 _ rfl; (first | (have b0 := HPB.out.1.cell 0 _ rfl; have b1 := HPB.out.1.cell 1 _ rfl; have bf0 := HPB.out.1.frozen 0; have bf1 := HPB.out.1.frozen 1) | skip); rw [HU.out, HV.out]; have s0 : wd.cell? ⟨bs, os + x, none⟩ = some (.int .i64 a) := (HF.out.below.cell (p := ⟨bs, os + x, none⟩) hbsW).trans HCX.out; have s1 : wd.cell? ⟨bs, os + y, none⟩ = some (.int .i64 g) := (HF.out.below.cell (p := ⟨bs, os + y, none⟩) hbsW).trans HCY.out; have nb1 : wd.heap.size ≠ bs := (by have := HF.out.below.size; omega); have nb2 := nb1.symm)))
    all_goals go_wp2_with fail
    all_goals go_meet
    all_goals refine ⟨_, rfl, ?_, ?_⟩
    any_goals (have h1 := HF.out.le (b := W.heap.size + 1) (t := 89) (cs := [.int .i64 0, .int .i64 0]) (by simp); first | (have h2 := HF.out.sz; show W.heap.size + 1 < wd.heap.size; omega) | (have h2 := HPB.out.2; omega))
    all_goals first | exact HF.out.new _ _ | exact ((HF.out.set (p := ⟨_, 0, none⟩) HPB.out.2 _).set (p := ⟨_, 1, none⟩) HPB.out.2 _).push ((HPB.out.1.set 0 _).set 1 _) HPB.out.2
  case rest =>
    obtain ⟨L1, rfl, hL1, hfk⟩ := hcut
    replace HF := hide hfk
    have HL := hide hL1
    clear hfk hL1
    go_wp2_with fail
    have tok1 : True := trivial
    have k0 := (HF.out.blk (b := b2) (t := 26) (cs := [.slice (some ⟨bs, os, none⟩) k e]) (by simp)).cell 0 _ rfl
    have k1 := (HF.out.blk (b := L1) (t := 89) (cs := [.int .i64 u, .int .i64 v]) (by simp)).cell 0 _ rfl
    have k2 := (HF.out.blk (b := L1) (t := 89) (cs := [.int .i64 u, .int .i64 v]) (by simp)).cell 1 _ rfl
    have r0 := (HF.out.blk (b := W.heap.size + 1) (t := 89) (cs := [.int .i64 0, .int .i64 0]) (by simp)).cell 0 _ rfl
    have r1' := (HF.out.blk (b := W.heap.size + 1) (t := 89) (cs := [.int .i64 0, .int .i64 0]) (by simp)).cell 1 _ rfl
    have r2' := (HF.out.blk (b := W.heap.size + 1) (t := 89) (cs := [.int .i64 0, .int .i64 0]) (by simp)).frozen 0
    have r3 := (HF.out.blk (b := W.heap.size + 1) (t := 89) (cs := [.int .i64 0, .int .i64 0]) (by simp)).frozen 1
    have m1 : W.heap.size + 1 ≠ L1 := by have h1 := HF.out.blks (W.heap.size + 1, 89, [.int .i64 0, .int .i64 0]) (by simp); have h2 := HL.out; omega
    have m2 : W.heap.size + 1 ≠ b2 := by have h1 := HK2.out.lt; omega
    have m3 := m1.symm
    have m4 := m2.symm
    go_region_held3 (fun w' => w'.cell? ⟨b2, 0, none⟩ = some (.slice (some ⟨bs, os, none⟩) k e) ∧ w'.cell? ⟨L1, 0, none⟩ = some (.int .i64 u) ∧ w'.cell? ⟨L1, 1, none⟩ = some (.int .i64 v)) (first | exact ⟨k0, k1, k2⟩ | go_keep) (first | (go_at_call 90; have _t := tok1; clear _t tok1; go_must (refine calls_gen fun wc hwc => ?_; (first | have hbx := drew_below hwc | have hbx := eq_below hwc); replace HF := hide (HF.out.later hbx); clear hwc hbx; refine (indexI_any _ k e set u _ HKL.out (by omega) (HRS.out.later HF.out.below)).mono ?_; rintro e wd ⟨rfl, hqd⟩; have hbd := hqd.below wc.heap.size; replace HF := hide (HF.out.later hbd); clear hqd hbd; rw [HR1.out]; have k0 := (HF.out.blk (b := b2) (t := 26) (cs := [.slice (some ⟨bs, os, none⟩) k e]) (by simp)).cell 0 _ rfl; have k1 := (HF.out.blk (b := L1) (t := 89) (cs := [.int .i64 u, .int .i64 v]) (by simp)).cell 0 _ rfl; have k2 := (HF.out.blk (b := L1) (t := 89) (cs := [.int .i64 u, .int .i64 v]) (by simp)).cell 1 _ rfl; have r0 := (HF.out.blk (b := W.heap.size + 1) (t := 89) (cs := [.int .i64 0, .int .i64 0]) (by simp)).cell 0 _ rfl; have r1' := (HF.out.blk (b := W.heap.size + 1) (t := 89) (cs := [.int .i64 0, .int .i64 0]) (by simp)).cell 1 _ rfl; have r2' := (HF.out.blk (b := W.heap.size + 1) (t := 89) (cs := [.int .i64 0, .int .i64 0]) (by simp)).frozen 0; have r3 := (HF.out.blk (b := W.heap.size + 1) (t := 89) (cs := [.int .i64 0, .int .i64 0]) (by simp)).frozen 1)) | (go_at_call 90; go_must (refine calls_gen fun wc hwc => ?_; (first | have hbx := drew_below hwc | have hbx := eq_below hwc); replace HF := hide (HF.out.later hbx); clear hwc hbx; refine (indexI_any _ k e set v _ HKL.out (by omega) (HRS.out.later HF.out.below)).mono ?_; rintro e wd ⟨rfl, hqd⟩; have hbd := hqd.below wc.heap.size; replace HF := hide (HF.out.later hbd); clear hqd hbd; rw [HR2.out]; have k0 := (HF.out.blk (b := b2) (t := 26) (cs := [.slice (some ⟨bs, os, none⟩) k e]) (by simp)).cell 0 _ rfl; have k1 := (HF.out.blk (b := L1) (t := 89) (cs := [.int .i64 u, .int .i64 v]) (by simp)).cell 0 _ rfl; have k2 := (HF.out.blk (b := L1) (t := 89) (cs := [.int .i64 u, .int .i64 v]) (by simp)).cell 1 _ rfl; have r0 := (HF.out.blk (b := W.heap.size + 1) (t := 89) (cs := [.int .i64 0, .int .i64 0]) (by simp)).cell 0 _ rfl; have r1' := (HF.out.blk (b := W.heap.size + 1) (t := 89) (cs := [.int .i64 0, .int .i64 0]) (by simp)).cell 1 _ rfl; have r2' := (HF.out.blk (b := W.heap.size + 1) (t := 89) (cs := [.int .i64 0, .int .i64 0]) (by simp)).frozen 0; have r3 := (HF.out.blk (b := W.heap.size + 1) (t := 89) (cs := [.int .i64 0, .int .i64 0]) (by simp)).frozen 1)))
    clear k0 k1 k2
    go_wp2_with fail
    clear r0 r1' r2' r3
    refine bp_gen fun wf hwf => ?_
    have HRF : Blk wf (W.heap.size + 1) 89 [.int .i64 r1, .int .i64 r2] := by rw [hwf]; first | exact ((HF.out.blk (b := W.heap.size + 1) (t := 89) (cs := [.int .i64 0, .int .i64 0]) (by simp)).set 0 _).set 1 _ | exact (((HF.out.blk (b := W.heap.size + 1) (t := 89) (cs := [.int .i64 0, .int .i64 0]) (by simp)).set 0 _).set 1 _).drew
    have HBF : Below W.heap.size W wf := by rw [hwf]; first | exact (HF.out.below.setCell (p := ⟨W.heap.size + 1, 0, none⟩) (by show W.heap.size ≤ W.heap.size + 1; omega) _).setCell (p := ⟨W.heap.size + 1, 1, none⟩) (by show W.heap.size ≤ W.heap.size + 1; omega) _ | exact ((HF.out.below.setCell (p := ⟨W.heap.size + 1, 0, none⟩) (by show W.heap.size ≤ W.heap.size + 1; omega) _).setCell (p := ⟨W.heap.size + 1, 1, none⟩) (by show W.heap.size ≤ W.heap.size + 1; omega) _).drew
    have q0 := HRF.cell 0 _ rfl
    have q1 := HRF.cell 1 _ rfl
    clear hwf
    exact bodyPost_ret (v := .agg #[.int .i64 r1, .int .i64 r2]) (by simp [results, Try.results101, go_sem, q0, q1]) rfl ⟨rfl, HBF⟩
end Go.Proofs.Ytgmloaemnbnbgaa
