import Derived.Test.YtanldiildinbdaaZz
import Derived.Test.YtanldiildinbdaaZy
import Derived.Test.YtanldiildinbdaaZan
import Derived.Test.YtanldiildinbdaaZbg
import Derived.Test.YtanldiildinbdaaZaa
import Derived.Test.YtanldiildinbdaaZba
import Derived.Test.YtanldiildinbdaaZa
import Derived.Deep.DeepCutAuto
import Derived.Test.YtanldiildinbdaaZal
import Derived.Test.YtanldiildinbdaaZbk
import Derived.Test.YtanldiildinbdaaZq
namespace Go.Proofs.Ytanldiildinbdaa
open Go Go.RowKit
set_option maxHeartbeats 1000000

set_option maxRecDepth 100000 in
theorem sbC_any (A : Option Addr) (n c : Nat) (f : List (List Int)) (B : Option Addr) (m d : Nat) (s : List (List Int)) (C : Option Addr) (k e : Nat) (set : List Int) (b1 b2 : Nat) (w : World) (hz : ZArg 1048576 w A n f B m s) (hp : PMap f s) (hkl : set.length = k) (hi : IncSet n set) (hcl : ClF f s set) (hs : Rd w C set)
    (hk1 : Blk w b1 27 [.slice A n c, .slice B m d]) (hk2 : Blk w b2 31 [.slice C k e]) :
    PairFn Try.prog 81 #[.pointer (some ⟨b1, 0, none⟩), .pointer (some ⟨b2, 0, none⟩)] k (sb1 f set) (sb1 s set) w := by
  intro W x y hx hy hb
  have HZ := hide (hz.later hb)
  have HK1 := hide (hk1.later hb)
  have HP := hide hp
  have HKL := hide hkl
  have HFL := hide hz.sz.fl
  have hsm := hz.small hp
  have hle := hi.le
  obtain ⟨bs, os, rfl, hbs, hcs⟩ := hs (by omega)
  have HK2 := hide (hk2.later hb)
  obtain ⟨a, ha, han⟩ := hi.at (i := x) (by omega)
  obtain ⟨g, hg, hgn⟩ := hi.at (i := y) (by omega)
  have hcx := hcs x (by omega)
  have hcy := hcs y (by omega)
  rw [ha] at hcx
  rw [hg] at hcy
  have HRS := hide (hs.later hb)
  have HCX : Hid (W.cell? ⟨bs, os + x, none⟩ = some (.int .i64 a)) := hide ((hb.cell (p := ⟨bs, os + x, none⟩) hbs).trans hcx)
  have HCY : Hid (W.cell? ⟨bs, os + y, none⟩ = some (.int .i64 g)) := hide ((hb.cell (p := ⟨bs, os + y, none⟩) hbs).trans hcy)
  have hbsW : bs < W.heap.size := Nat.lt_of_lt_of_le hbs hb.size
  have hc2 := hcl x y (by omega) (by omega)
  rw [ha, hg, Int.toNat_natCast, Int.toNat_natCast] at hc2
  have e1 : sb1 f set x y = ixOf set ((ap f a g : Nat) : Int) := by unfold sb1; rw [ha, hg, Int.toNat_natCast, Int.toNat_natCast]
  have e2 : sb1 s set x y = ixOf set ((ap s a g : Nat) : Int) := by unfold sb1; rw [ha, hg, Int.toNat_natCast, Int.toNat_natCast]
  show Calls Try.prog 81 #[.agg #[.int .i64 x, .int .i64 y], .pointer (some ⟨b1, 0, none⟩), .pointer (some ⟨b2, 0, none⟩)] W _
  rw [e1, e2]
  obtain ⟨u, hu⟩ : ∃ u, ap f a g = u := ⟨_, rfl⟩
  obtain ⟨v, hv⟩ : ∃ v, ap s a g = v := ⟨_, rfl⟩
  rw [hu] at hc2 ⊢
  rw [hv] at hc2 ⊢
  have HU := hide hu
  have HV := hide hv
  have i1 := ixOf_in hc2.1
  have i2 := ixOf_in hc2.2
  obtain ⟨r1, hr1⟩ : ∃ r, ixOf set (u : Int) = r := ⟨_, rfl⟩
  obtain ⟨r2, hr2⟩ : ∃ r, ixOf set (v : Int) = r := ⟨_, rfl⟩
  rw [hr1] at i1 ⊢
  rw [hr2] at i2 ⊢
  have HR1 := hide hr1
  have HR2 := hide hr2
  have hk12 : k ≤ 12 := by omega
  have hxz : (x : Int) < k := by omega
  have hyz : (y : Int) < k := by omega
  have hxz0 : (0 : Int) ≤ x := by omega
  have hyz0 : (0 : Int) ≤ y := by omega
  have HA := hide (And.intro han hgn)
  clear hz hp hi hcl hs hk1 hk2 hb hcs ha hg hcx hcy hc2 e1 e2 hu hv hr1 hr2 hx hy hle hbs hkl han hgn hsm i1 i2
  go_enter Try.func81, Try.ntmps81
  go_wp2_with fail
  refine wp_gen fun w1 hw1 => ?_
  have hb1' : Below W.heap.size W w1 := by rw [hw1]; exact ((Below.refl _ _).alloc (Nat.le_refl _) _).alloc (by simp) _
  have hq1 : Blk w1 W.heap.size 53 [.int .i64 x, .int .i64 y] := by rw [hw1]; exact (Blk.new _ _ _).alloc _
  have hr1 : Blk w1 (W.heap.size + 1) 53 [.int .i64 0, .int .i64 0] := by rw [hw1]; have h := Blk.new (W.alloc (Obj.cells #[Value.int IntKind.i64 x, Value.int IntKind.i64 y] 53)) 53 [.int .i64 0, .int .i64 0]; simpa using h
  have HF : Hid (FB W w1 (w1.heap.size - 1) [(W.heap.size + 1, 53, [.int .i64 0, .int .i64 0]), (W.heap.size, 53, [.int .i64 x, .int .i64 y]), (b1, 27, [.slice A n c, .slice B m d]), (b2, 31, [.slice (some ⟨bs, os, none⟩) k e])]) := hide (FB.of hb1' hq1.lt (by
    have a1 := HK1.out.later hb1'
    have a2 := HK2.out.later hb1'
    simp only [List.forall_mem_cons]
    exact ⟨hr1, hq1, a1, a2, fun q hq => absurd hq (List.not_mem_nil)⟩))
  clear hw1 hb1' hq1 hr1
  have s0 : w1.cell? ⟨bs, os + x, none⟩ = some (.int .i64 a) := (HF.out.below.cell (p := ⟨bs, os + x, none⟩) hbsW).trans HCX.out
  have s1 : w1.cell? ⟨bs, os + y, none⟩ = some (.int .i64 g) := (HF.out.below.cell (p := ⟨bs, os + y, none⟩) hbsW).trans HCY.out
  have nb1 : w1.heap.size ≠ bs := by have := HF.out.below.size; omega
  have nb2 := nb1.symm
  go_cut [5] (fun vv wx => ∃ L, vv = .pointer (some ⟨L, 0, none⟩) ∧ W.heap.size + 1 < L ∧ FB W wx L ((L, 53, [.int .i64 u, .int .i64 v]) :: [(W.heap.size + 1, 53, [.int .i64 0, .int .i64 0]), (W.heap.size, 53, [.int .i64 x, .int .i64 y]), (b1, 27, [.slice A n c, .slice B m d]), (b2, 31, [.slice (some ⟨bs, os, none⟩) k e])]))
  case first =>
    have HPB : Hid True := hide trivial
    have k0 := (HF.out.blk (b := b1) (t := 27) (cs := [.slice A n c, .slice B m d]) (by simp)).cell 0 _ rfl
    have k1 := (HF.out.blk (b := b1) (t := 27) (cs := [.slice A n c, .slice B m d]) (by simp)).cell 1 _ rfl
    have k2 := (HF.out.blk (b := W.heap.size) (t := 53) (cs := [.int .i64 x, .int .i64 y]) (by simp)).cell 0 _ rfl
    have k3 := (HF.out.blk (b := W.heap.size) (t := 53) (cs := [.int .i64 x, .int .i64 y]) (by simp)).cell 1 _ rfl
    have k4 := (HF.out.blk (b := b2) (t := 31) (cs := [.slice (some ⟨bs, os, none⟩) k e]) (by simp)).cell 0 _ rfl
    have gn0 : w1.heap.size ≠ b1 := (by have h1 := HF.out.sz; have h2 := HF.out.le (b := b1) (t := 27) (cs := [.slice A n c, .slice B m d]) (by simp); omega)
    have gm0 := gn0.symm
    have gn1 : w1.heap.size ≠ W.heap.size := (by have h1 := HF.out.sz; have h2 := HF.out.le (b := W.heap.size) (t := 53) (cs := [.int .i64 x, .int .i64 y]) (by simp); omega)
    have gm1 := gn1.symm
    have gn2 : w1.heap.size ≠ b2 := (by have h1 := HF.out.sz; have h2 := HF.out.le (b := b2) (t := 31) (cs := [.slice (some ⟨bs, os, none⟩) k e]) (by simp); omega)
    have gm2 := gn2.symm
    go_region_held3 (fun w' => w'.cell? ⟨b1, 0, none⟩ = some (.slice A n c) ∧ w'.cell? ⟨b1, 1, none⟩ = some (.slice B m d) ∧ w'.cell? ⟨W.heap.size, 0, none⟩ = some (.int .i64 x) ∧ w'.cell? ⟨W.heap.size, 1, none⟩ = some (.int .i64 y) ∧ w'.cell? ⟨b2, 0, none⟩ = some (.slice (some ⟨bs, os, none⟩) k e) ∧ w'.cell? ⟨bs, os + x, none⟩ = some (.int .i64 a) ∧ w'.cell? ⟨bs, os + y, none⟩ = some (.int .i64 g)) (first | exact ⟨k0, k1, k2, k3, k4, s0, s1⟩ | go_keep) (first | (go_at_call 64; go_must (refine calls_gen fun wc hwc => ?_; (first | (have hbx := al_drew_below hwc; have HPB := hide (And.intro (blk_al_drew hwc) HF.out.sz)) | (have hbx := al_below hwc; have HPB := hide (And.intro (blk_al hwc) HF.out.sz)) | (have hbx := drew_below hwc; (first | replace HPB := hide (And.intro (HPB.out.1.later hbx) HPB.out.2) | skip)) | (have hbx := eq_below hwc; (first | replace HPB := hide (And.intro (HPB.out.1.later hbx) HPB.out.2) | skip))); replace HF := hide (HF.out.later hbx); clear hwc hbx; refine (lead_any _ _ _ f _ _ _ s a g _ (HZ.out.later HF.out.below) HP.out HA.out.1 HA.out.2).mono ?_; rintro e wd ⟨rfl, hbd⟩; replace HF := hide (HF.out.later hbd); (first | replace HPB := hide (And.intro (HPB.out.1.later hbd) HPB.out.2) | skip); clear hbd; have gn0 : wd.heap.size ≠ b1 := (by have h1 := HF.out.sz; have h2 := HF.out.le (b := b1) (t := 27) (cs := [.slice A n c, .slice B m d]) (by simp); omega); have gm0 := gn0.symm; have gn1 : wd.heap.size ≠ W.heap.size := (by have h1 := HF.out.sz; have h2 := HF.out.le (b := W.heap.size) (t := 53) (cs := [.int .i64 x, .int .i64 y]) (by simp); omega); have gm1 := gn1.symm; have gn2 : wd.heap.size ≠ b2 := (by have h1 := HF.out.sz; have h2 := HF.out.le (b := b2) (t := 31) (cs := [.slice (some ⟨bs, os, none⟩) k e]) (by simp); omega); have gm2 := gn2.symm; have k0 := (HF.out.blk (b := b1) (t := 27) (cs := [.slice A n c, .slice B m d]) (by simp)).cell 0 _ rfl; have k1 := (HF.out.blk (b := b1) (t := 27) (cs := [.slice A n c, .slice B m d]) (by simp)).cell 1 _ rfl; have k2 := (HF.out.blk (b := W.heap.size) (t := 53) (cs := [.int .i64 x, .int .i64 y]) (by simp)).cell 0 _ rfl; have k3 := (HF.out.blk (b := W.heap.size) (t := 53) (cs := [.int .i64 x, .int .i64 y]) (by simp)).cell 1 _ rfl; have k4 := (HF.out.blk (b := b2) (t := 31) (cs := [.slice (some ⟨bs, os, none⟩) k e]) (by simp)).cell 0 _ rfl; (first | (have b0 := HPB.out.1.cell 0 _ rfl; have b1 := HPB.out.1.cell 1 _ rfl; have bf0 := HPB.out.1.frozen 0; have bf1 := HPB.out.1.frozen 1) | skip); rw [HU.out, HV.out]; have s0 : wd.cell? ⟨bs, os + x, none⟩ = some (.int .i64 a) := (HF.out.below.cell (p := ⟨bs, os + x, none⟩) hbsW).trans HCX.out; have s1 : wd.cell? ⟨bs, os + y, none⟩ = some (.int .i64 g) := (HF.out.below.cell (p := ⟨bs, os + y, none⟩) hbsW).trans HCY.out; have nb1 : wd.heap.size ≠ bs := (by have := HF.out.below.size; omega); have nb2 := nb1.symm)))
    all_goals go_wp2_with fail
    all_goals go_meet
    all_goals refine ⟨_, rfl, ?_, ?_⟩
    any_goals (have h1 := HF.out.le (b := W.heap.size + 1) (t := 53) (cs := [.int .i64 0, .int .i64 0]) (by simp); first | (have h2 := HF.out.sz; show W.heap.size + 1 < wd.heap.size; omega) | (have h2 := HPB.out.2; omega))
    all_goals first | exact HF.out.new _ _ | exact ((HF.out.set (p := ⟨_, 0, none⟩) HPB.out.2 _).set (p := ⟨_, 1, none⟩) HPB.out.2 _).push ((HPB.out.1.set 0 _).set 1 _) HPB.out.2
  case rest =>
    obtain ⟨L1, rfl, hL1, hfk⟩ := hcut
    replace HF := hide hfk
    have HL := hide hL1
    clear hfk hL1
    go_wp2_with fail
    have tok1 : True := trivial
    have k0 := (HF.out.blk (b := b2) (t := 31) (cs := [.slice (some ⟨bs, os, none⟩) k e]) (by simp)).cell 0 _ rfl
    have k1 := (HF.out.blk (b := L1) (t := 53) (cs := [.int .i64 u, .int .i64 v]) (by simp)).cell 0 _ rfl
    have k2 := (HF.out.blk (b := L1) (t := 53) (cs := [.int .i64 u, .int .i64 v]) (by simp)).cell 1 _ rfl
    have r0 := (HF.out.blk (b := W.heap.size + 1) (t := 53) (cs := [.int .i64 0, .int .i64 0]) (by simp)).cell 0 _ rfl
    have r1' := (HF.out.blk (b := W.heap.size + 1) (t := 53) (cs := [.int .i64 0, .int .i64 0]) (by simp)).cell 1 _ rfl
    have r2' := (HF.out.blk (b := W.heap.size + 1) (t := 53) (cs := [.int .i64 0, .int .i64 0]) (by simp)).frozen 0
    have r3 := (HF.out.blk (b := W.heap.size + 1) (t := 53) (cs := [.int .i64 0, .int .i64 0]) (by simp)).frozen 1
    have m1 : W.heap.size + 1 ≠ L1 := by have h1 := HF.out.blks (W.heap.size + 1, 53, [.int .i64 0, .int .i64 0]) (by simp); have h2 := HL.out; omega
    have m2 : W.heap.size + 1 ≠ b2 := by have h1 := HK2.out.lt; omega
    have m3 := m1.symm
    have m4 := m2.symm
    go_region_held3 (fun w' => w'.cell? ⟨b2, 0, none⟩ = some (.slice (some ⟨bs, os, none⟩) k e) ∧ w'.cell? ⟨L1, 0, none⟩ = some (.int .i64 u) ∧ w'.cell? ⟨L1, 1, none⟩ = some (.int .i64 v)) (first | exact ⟨k0, k1, k2⟩ | go_keep) (first | (go_at_call 82; have _t := tok1; clear _t tok1; go_must (refine calls_gen fun wc hwc => ?_; (first | have hbx := drew_below hwc | have hbx := eq_below hwc); replace HF := hide (HF.out.later hbx); clear hwc hbx; refine (indexI_any _ k e set u _ HKL.out (by omega) (HRS.out.later HF.out.below)).mono ?_; rintro e wd ⟨rfl, hqd⟩; have hbd := hqd.below wc.heap.size; replace HF := hide (HF.out.later hbd); clear hqd hbd; rw [HR1.out]; have k0 := (HF.out.blk (b := b2) (t := 31) (cs := [.slice (some ⟨bs, os, none⟩) k e]) (by simp)).cell 0 _ rfl; have k1 := (HF.out.blk (b := L1) (t := 53) (cs := [.int .i64 u, .int .i64 v]) (by simp)).cell 0 _ rfl; have k2 := (HF.out.blk (b := L1) (t := 53) (cs := [.int .i64 u, .int .i64 v]) (by simp)).cell 1 _ rfl; have r0 := (HF.out.blk (b := W.heap.size + 1) (t := 53) (cs := [.int .i64 0, .int .i64 0]) (by simp)).cell 0 _ rfl; have r1' := (HF.out.blk (b := W.heap.size + 1) (t := 53) (cs := [.int .i64 0, .int .i64 0]) (by simp)).cell 1 _ rfl; have r2' := (HF.out.blk (b := W.heap.size + 1) (t := 53) (cs := [.int .i64 0, .int .i64 0]) (by simp)).frozen 0; have r3 := (HF.out.blk (b := W.heap.size + 1) (t := 53) (cs := [.int .i64 0, .int .i64 0]) (by simp)).frozen 1)) | (go_at_call 82; go_must (refine calls_gen fun wc hwc => ?_; (first | have hbx := drew_below hwc | have hbx := eq_below hwc); replace HF := hide (HF.out.later hbx); clear hwc hbx; refine (indexI_any _ k e set v _ HKL.out (by omega) (HRS.out.later HF.out.below)).mono ?_; rintro e wd ⟨rfl, hqd⟩; have hbd := hqd.below wc.heap.size; replace HF := hide (HF.out.later hbd); clear hqd hbd; rw [HR2.out]; have k0 := (HF.out.blk (b := b2) (t := 31) (cs := [.slice (some ⟨bs, os, none⟩) k e]) (by simp)).cell 0 _ rfl; have k1 := (HF.out.blk (b := L1) (t := 53) (cs := [.int .i64 u, .int .i64 v]) (by simp)).cell 0 _ rfl; have k2 := (HF.out.blk (b := L1) (t := 53) (cs := [.int .i64 u, .int .i64 v]) (by simp)).cell 1 _ rfl; have r0 := (HF.out.blk (b := W.heap.size + 1) (t := 53) (cs := [.int .i64 0, .int .i64 0]) (by simp)).cell 0 _ rfl; have r1' := (HF.out.blk (b := W.heap.size + 1) (t := 53) (cs := [.int .i64 0, .int .i64 0]) (by simp)).cell 1 _ rfl; have r2' := (HF.out.blk (b := W.heap.size + 1) (t := 53) (cs := [.int .i64 0, .int .i64 0]) (by simp)).frozen 0; have r3 := (HF.out.blk (b := W.heap.size + 1) (t := 53) (cs := [.int .i64 0, .int .i64 0]) (by simp)).frozen 1)))
    clear k0 k1 k2
    go_wp2_with fail
    clear r0 r1' r2' r3
    refine bp_gen fun wf hwf => ?_
    have HRF : Blk wf (W.heap.size + 1) 53 [.int .i64 r1, .int .i64 r2] := by rw [hwf]; first | exact ((HF.out.blk (b := W.heap.size + 1) (t := 53) (cs := [.int .i64 0, .int .i64 0]) (by simp)).set 0 _).set 1 _ | exact (((HF.out.blk (b := W.heap.size + 1) (t := 53) (cs := [.int .i64 0, .int .i64 0]) (by simp)).set 0 _).set 1 _).drew
    have HBF : Below W.heap.size W wf := by rw [hwf]; first | exact (HF.out.below.setCell (p := ⟨W.heap.size + 1, 0, none⟩) (by show W.heap.size ≤ W.heap.size + 1; omega) _).setCell (p := ⟨W.heap.size + 1, 1, none⟩) (by show W.heap.size ≤ W.heap.size + 1; omega) _ | exact ((HF.out.below.setCell (p := ⟨W.heap.size + 1, 0, none⟩) (by show W.heap.size ≤ W.heap.size + 1; omega) _).setCell (p := ⟨W.heap.size + 1, 1, none⟩) (by show W.heap.size ≤ W.heap.size + 1; omega) _).drew
    have q0 := HRF.cell 0 _ rfl
    have q1 := HRF.cell 1 _ rfl
    clear hwf
    exact bodyPost_ret (v := .agg #[.int .i64 r1, .int .i64 r2]) (by simp [results, Try.results81, go_sem, q0, q1]) rfl ⟨rfl, HBF⟩
end Go.Proofs.Ytanldiildinbdaa
namespace Go.Proofs.Ytanldiildinbdaa
open Go Go.RowKit
set_option maxHeartbeats 1000000

set_option maxRecDepth 100000 in
theorem sbS_any (A : Option Addr) (n c : Nat) (f : List (List Int)) (B : Option Addr) (m d : Nat) (s : List (List Int)) (C : Option Addr) (k e : Nat) (set : List Int) (zf zg : List (List Int)) (code : Int) (kz kw : Nat) (w : World) (hz : ZArg 1048576 w A n f B m s) (hkl : set.length = k) (hkb : k ≤ 1048576) (hs : Rd w C set) (hr : SubRes f s set zf zg code) (hk : ZSz 1048576 zf kz zg kw) :
    Calls Try.prog 46 #[.agg #[.slice A n c, .slice B m d], .slice C k e] w (WPost 31 2 kz kw zf zg code w) := by
  have hnb := hz.sz.nb
  have HZ := hide hz
  have HFL := hide hz.sz.fl
  have HK := hide hkl
  have HS := hide hs
  rcases hr with ⟨hp, hi, hcl, rfl, rfl, rfl⟩ | ⟨hp, hi, hcl, rfl, rfl, rfl⟩ | ⟨hp, hi, rfl, rfl, rfl⟩ | ⟨hp, rfl, rfl, rfl⟩
  · have HP := hide hp
    have HI : Hid (IncSet n set) := hide (by rw [← hz.sz.fl]; exact hi)
    have HIF := hide hi
    have HCL := hide hcl
    have h12 := hz.small hp
    have hle := hi.le
    have hk12 : k ≤ 12 := by rw [hz.sz.fl] at hle; omega
    have h1k : 1 ≤ k := by have := hi.2; omega
    obtain rfl : k = kz := by rw [← hk.fl, grid_length, hkl]
    obtain rfl : k = kw := by rw [← hk.sl, grid_length, hkl]
    clear hz hk hkl hs hp hi hcl hle
    go_enter Try.func46, Try.ntmps46
    go_wp2_with fail
    refine calls_gen fun w0 hw0 => ?_
    have HF : Hid (FB w w0 (w0.heap.size - 1) [(w.heap.size + 1, 27, [.slice none 0 0, .slice none 0 0]), (w.heap.size, 27, [.slice A n c, .slice B m d])]) := hide (by
      have hb0 : Below w.heap.size w w0 := by rw [hw0]; exact ((Below.refl _ _).alloc (Nat.le_refl _) _).alloc (by simp) _
      have a1 : Blk w0 w.heap.size 27 [.slice A n c, .slice B m d] := by rw [hw0]; exact (Blk.new _ _ _).alloc _
      have a3 : Blk w0 (w.heap.size + 1) 27 [.slice none 0 0, .slice none 0 0] := by rw [hw0]; have h := Blk.new (w.alloc (Obj.cells #[Value.slice A n c, Value.slice B m d] 27)) 27 [.slice none 0 0, .slice none 0 0]; simpa using h
      refine FB.of hb0 a1.lt ?_
      simp only [List.forall_mem_cons]
      exact ⟨a3, a1, fun q hq => absurd hq (List.not_mem_nil)⟩)
    clear hw0
    refine (setCode_any _ _ _ f _ _ _ s _ _ _ set 0 _ (HZ.out.later HF.out.below) HK.out hkb (HS.out.later HF.out.below) (.inl ⟨HP.out, HIF.out, rfl⟩)).mono ?_
    rintro e' wd ⟨rfl, hbd⟩
    replace HF := hide (HF.out.later hbd)
    clear hbd
    have k0 := (HF.out.blk (b := w.heap.size) (t := 27) (cs := [.slice A n c, .slice B m d]) (by simp)).cell 0 _ rfl
    have k1 := (HF.out.blk (b := w.heap.size) (t := 27) (cs := [.slice A n c, .slice B m d]) (by simp)).cell 1 _ rfl
    go_wp2_with fail
    refine (l02Closed_any _ _ _ f _ _ _ s _ _ _ set true _ (HZ.out.later HF.out.below) HP.out HK.out HI.out (HS.out.later HF.out.below) ⟨fun _ => HCL.out, fun _ => rfl⟩).mono ?_
    rintro e' wd ⟨rfl, hbd⟩
    replace HF := hide (HF.out.later hbd)
    clear hbd
    clear k0 k1
    have k0 := (HF.out.blk (b := w.heap.size) (t := 27) (cs := [.slice A n c, .slice B m d]) (by simp)).cell 0 _ rfl
    have k1 := (HF.out.blk (b := w.heap.size) (t := 27) (cs := [.slice A n c, .slice B m d]) (by simp)).cell 1 _ rfl
    go_wp2_with fail
    refine (subS_any _ _ _ f _ _ _ s _ _ _ set _ (HZ.out.later HF.out.below) HP.out HK.out HI.out HCL.out (HS.out.later HF.out.below)).mono ?_
    rintro e' wd2 ⟨A3, c3, B3, d3, rfl, hbd, ho⟩
    have hRl := (HF.out.blk (b := w.heap.size + 1) (t := 27) (cs := [.slice none 0 0, .slice none 0 0]) (by simp)).lt
    have hws := HF.out.below.size
    replace HF := hide (HF.out.later hbd)
    have HO := hide ho
    clear hbd ho k0 k1
    have HR := hide (HF.out.blk (b := w.heap.size + 1) (t := 27) (cs := [.slice none 0 0, .slice none 0 0]) (by simp))
    have r0 := HR.out.cell 0 _ rfl
    have r1 := HR.out.cell 1 _ rfl
    have r2 := HR.out.frozen 0
    have r3 := HR.out.frozen 1
    go_wp2_with fail
    refine bp_gen fun wf hwf => ?_
    obtain ⟨q0, q1, hbf, hof⟩ := wend hwf HR.out (by omega) hRl HF.out.below hws HO.out
    clear hwf r0 r1 r2 r3
    rw [HK.out]
    exact bodyPost_ret (v := .tuple #[.agg #[.slice A3 k c3, .slice B3 k d3], .int .i64 0]) (by simp [results, Try.results46, go_sem, q0, q1]) rfl ⟨_, _, _, _, rfl, hbf, hof⟩
  · have HP := hide hp
    have HI : Hid (IncSet n set) := hide (by rw [← hz.sz.fl]; exact hi)
    have HIF := hide hi
    have HCL := hide hcl
    obtain rfl : kz = 0 := by simpa using hk.fl.symm
    obtain rfl : kw = 0 := by simpa using hk.sl.symm
    clear hk
    clear hz hkl hs hp hi hcl
    go_enter Try.func46, Try.ntmps46
    go_wp2_with fail
    refine calls_gen fun w0 hw0 => ?_
    have HF : Hid (FB w w0 (w0.heap.size - 1) [(w.heap.size + 1, 27, [.slice none 0 0, .slice none 0 0]), (w.heap.size, 27, [.slice A n c, .slice B m d])]) := hide (by
      have hb0 : Below w.heap.size w w0 := by rw [hw0]; exact ((Below.refl _ _).alloc (Nat.le_refl _) _).alloc (by simp) _
      have a1 : Blk w0 w.heap.size 27 [.slice A n c, .slice B m d] := by rw [hw0]; exact (Blk.new _ _ _).alloc _
      have a3 : Blk w0 (w.heap.size + 1) 27 [.slice none 0 0, .slice none 0 0] := by rw [hw0]; have h := Blk.new (w.alloc (Obj.cells #[Value.slice A n c, Value.slice B m d] 27)) 27 [.slice none 0 0, .slice none 0 0]; simpa using h
      refine FB.of hb0 a1.lt ?_
      simp only [List.forall_mem_cons]
      exact ⟨a3, a1, fun q hq => absurd hq (List.not_mem_nil)⟩)
    clear hw0
    refine (setCode_any _ _ _ f _ _ _ s _ _ _ set 0 _ (HZ.out.later HF.out.below) HK.out hkb (HS.out.later HF.out.below) (.inl ⟨HP.out, HIF.out, rfl⟩)).mono ?_
    rintro e' wd ⟨rfl, hbd⟩
    replace HF := hide (HF.out.later hbd)
    clear hbd
    have k0 := (HF.out.blk (b := w.heap.size) (t := 27) (cs := [.slice A n c, .slice B m d]) (by simp)).cell 0 _ rfl
    have k1 := (HF.out.blk (b := w.heap.size) (t := 27) (cs := [.slice A n c, .slice B m d]) (by simp)).cell 1 _ rfl
    go_wp2_with fail
    refine (l02Closed_any _ _ _ f _ _ _ s _ _ _ set false _ (HZ.out.later HF.out.below) HP.out HK.out HI.out (HS.out.later HF.out.below) ⟨fun h => (by cases h), fun h => absurd h HCL.out⟩).mono ?_
    rintro e' wd ⟨rfl, hbd⟩
    replace HF := hide (HF.out.later hbd)
    clear hbd
    clear k0 k1
    have HR := hide (HF.out.blk (b := w.heap.size + 1) (t := 27) (cs := [.slice none 0 0, .slice none 0 0]) (by simp))
    have r0 := HR.out.cell 0 _ rfl
    have r1 := HR.out.cell 1 _ rfl
    have r2 := HR.out.frozen 0
    have r3 := HR.out.frozen 1
    go_wp2_with fail
    refine bp_gen fun wf hwf => ?_
    obtain ⟨q0, q1, hbf, hof⟩ := wend (ts := 31) (t := 2) (w2 := wd) hwf HR.out (by omega) HR.out.lt HF.out.below HF.out.below.size ObjW.empty
    clear hwf r0 r1 r2 r3
    exact bodyPost_ret (v := .tuple #[.agg #[.slice none 0 0, .slice none 0 0], .int .i64 5]) (by simp [results, Try.results46, go_sem, q0, q1]) rfl ⟨_, _, _, _, rfl, hbf, hof⟩
  · have HP := hide hp
    have HI := hide hi
    obtain rfl : kz = 0 := by simpa using hk.fl.symm
    obtain rfl : kw = 0 := by simpa using hk.sl.symm
    clear hk
    clear hz hkl hs hp hi
    go_enter Try.func46, Try.ntmps46
    go_wp2_with fail
    refine calls_gen fun w0 hw0 => ?_
    have HF : Hid (FB w w0 (w0.heap.size - 1) [(w.heap.size + 1, 27, [.slice none 0 0, .slice none 0 0]), (w.heap.size, 27, [.slice A n c, .slice B m d])]) := hide (by
      have hb0 : Below w.heap.size w w0 := by rw [hw0]; exact ((Below.refl _ _).alloc (Nat.le_refl _) _).alloc (by simp) _
      have a1 : Blk w0 w.heap.size 27 [.slice A n c, .slice B m d] := by rw [hw0]; exact (Blk.new _ _ _).alloc _
      have a3 : Blk w0 (w.heap.size + 1) 27 [.slice none 0 0, .slice none 0 0] := by rw [hw0]; have h := Blk.new (w.alloc (Obj.cells #[Value.slice A n c, Value.slice B m d] 27)) 27 [.slice none 0 0, .slice none 0 0]; simpa using h
      refine FB.of hb0 a1.lt ?_
      simp only [List.forall_mem_cons]
      exact ⟨a3, a1, fun q hq => absurd hq (List.not_mem_nil)⟩)
    clear hw0
    refine (setCode_any _ _ _ f _ _ _ s _ _ _ set 2 _ (HZ.out.later HF.out.below) HK.out hkb (HS.out.later HF.out.below) (.inr (.inl ⟨HP.out, HI.out, rfl⟩))).mono ?_
    rintro e' wd ⟨rfl, hbd⟩
    replace HF := hide (HF.out.later hbd)
    clear hbd
    have HR := hide (HF.out.blk (b := w.heap.size + 1) (t := 27) (cs := [.slice none 0 0, .slice none 0 0]) (by simp))
    have r0 := HR.out.cell 0 _ rfl
    have r1 := HR.out.cell 1 _ rfl
    have r2 := HR.out.frozen 0
    have r3 := HR.out.frozen 1
    go_wp2_with fail
    refine bp_gen fun wf hwf => ?_
    obtain ⟨q0, q1, hbf, hof⟩ := wend (ts := 31) (t := 2) (w2 := wd) hwf HR.out (by omega) HR.out.lt HF.out.below HF.out.below.size ObjW.empty
    clear hwf r0 r1 r2 r3
    exact bodyPost_ret (v := .tuple #[.agg #[.slice none 0 0, .slice none 0 0], .int .i64 2]) (by simp [results, Try.results46, go_sem, q0, q1]) rfl ⟨_, _, _, _, rfl, hbf, hof⟩
  · have HP := hide hp
    obtain rfl : kz = 0 := by simpa using hk.fl.symm
    obtain rfl : kw = 0 := by simpa using hk.sl.symm
    clear hk
    clear hz hkl hs hp
    go_enter Try.func46, Try.ntmps46
    go_wp2_with fail
    refine calls_gen fun w0 hw0 => ?_
    have HF : Hid (FB w w0 (w0.heap.size - 1) [(w.heap.size + 1, 27, [.slice none 0 0, .slice none 0 0]), (w.heap.size, 27, [.slice A n c, .slice B m d])]) := hide (by
      have hb0 : Below w.heap.size w w0 := by rw [hw0]; exact ((Below.refl _ _).alloc (Nat.le_refl _) _).alloc (by simp) _
      have a1 : Blk w0 w.heap.size 27 [.slice A n c, .slice B m d] := by rw [hw0]; exact (Blk.new _ _ _).alloc _
      have a3 : Blk w0 (w.heap.size + 1) 27 [.slice none 0 0, .slice none 0 0] := by rw [hw0]; have h := Blk.new (w.alloc (Obj.cells #[Value.slice A n c, Value.slice B m d] 27)) 27 [.slice none 0 0, .slice none 0 0]; simpa using h
      refine FB.of hb0 a1.lt ?_
      simp only [List.forall_mem_cons]
      exact ⟨a3, a1, fun q hq => absurd hq (List.not_mem_nil)⟩)
    clear hw0
    refine (setCode_any _ _ _ f _ _ _ s _ _ _ set 1 _ (HZ.out.later HF.out.below) HK.out hkb (HS.out.later HF.out.below) (.inr (.inr ⟨HP.out, rfl⟩))).mono ?_
    rintro e' wd ⟨rfl, hbd⟩
    replace HF := hide (HF.out.later hbd)
    clear hbd
    have HR := hide (HF.out.blk (b := w.heap.size + 1) (t := 27) (cs := [.slice none 0 0, .slice none 0 0]) (by simp))
    have r0 := HR.out.cell 0 _ rfl
    have r1 := HR.out.cell 1 _ rfl
    have r2 := HR.out.frozen 0
    have r3 := HR.out.frozen 1
    go_wp2_with fail
    refine bp_gen fun wf hwf => ?_
    obtain ⟨q0, q1, hbf, hof⟩ := wend (ts := 31) (t := 2) (w2 := wd) hwf HR.out (by omega) HR.out.lt HF.out.below HF.out.below.size ObjW.empty
    clear hwf r0 r1 r2 r3
    exact bodyPost_ret (v := .tuple #[.agg #[.slice none 0 0, .slice none 0 0], .int .i64 1]) (by simp [results, Try.results46, go_sem, q0, q1]) rfl ⟨_, _, _, _, rfl, hbf, hof⟩
end Go.Proofs.Ytanldiildinbdaa
