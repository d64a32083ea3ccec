import Derived.Test.YtgmloaemnbnbgaaZj
import Derived.Test.YtgmloaemnbnbgaaZag
import Derived.Test.YtgmloaemnbnbgaaZv
import Derived.Test.YtgmloaemnbnbgaaZz
import Derived.Test.YtgmloaemnbnbgaaZab
import Derived.Test.YtgmloaemnbnbgaaZa
import Derived.Deep.DeepCutAuto
namespace Go.Proofs.Ytgmloaemnbnbgaa
open Go Go.RowKit
set_option maxHeartbeats 2000000

theorem least8_any (A : Option Addr) (n c : Nat) (xs : List Int) (v : Int) (pk : Nat) (w : World) (hn : xs.length = n) (hb : n ≤ 1048576) (hr : Rd w A xs) (hk : Blk w pk 26 [.slice A n c]) :
    Calls Try.prog 89 #[.int .i64 v, .pointer (some ⟨pk, 0, none⟩)] w fun e w' => e = .returned (.int .i64 (ixOf xs v)) ∧ Below w.heap.size w w' := by
  have HN := hide hn
  have HR := hide hr
  have k0 := hk.cell 0 _ rfl
  clear hn hr hk
  go_enter Try.func89, Try.ntmps89
  go_wp2_with fail
  refine (indexI_any _ _ _ xs v _ HN.out (by omega) HR.out).mono ?_
  rintro e w1 ⟨rfl, hq⟩
  have HB := hide (hq.below w.heap.size)
  obtain ⟨r, hr⟩ : ∃ r, ixOf xs v = r := ⟨_, rfl⟩
  rw [hr]
  have HRR := hide hr
  clear hq hr k0
  go_wp2_with fail
  go_ret
  exact ⟨by rw [HRR.out]; rfl, HB.out⟩
set_option maxRecDepth 100000 in
theorem rtC_any (A : Option Addr) (n c : Nat) (f : List (List Int)) (B : Option Addr) (d : Nat) (s : List (List Int)) (C : Option Addr) (e : Nat) (pz pc pk : Nat) (w : World) (hz : ZArg 1048576 w A n f B n s) (hg : NdS f s) (hs : Rd w C (alC f s))
    (hk1 : Blk w pz 29 [.slice A n c, .slice B n d]) (hk5 : Blk w pc 87 [.func (.func 89) #[] #[.pointer (some ⟨pk, 0, none⟩)]]) (hk3 : Blk w pk 26 [.slice C n e]) :
    PairFn Try.prog 91 #[.pointer (some ⟨pz, 0, none⟩), .pointer (some ⟨pc, 0, none⟩), .pointer (some ⟨pk, 0, none⟩)] (alN f s) (fun x y => ((rtA f s x y : Nat) : Int)) (fun x y => ((rtB f s x y : Nat) : Int)) w := by
  intro W x y hx hy hb
  have h1 := (hg.sizes hz.sz.fl).1
  have h12 := (hg.sizes hz.sz.fl).2.1
  have HZ := hide (hz.later hb)
  have HK1 := hide (hk1.later hb)
  have HK5 := hide (hk5.later hb)
  have HP := hide hg.map
  have hfl := hz.sz.fl
  have HKL : Hid ((alC f s).length = n) := hide (by rw [alC_length]; exact hfl)
  obtain ⟨bs, os, rfl, hbs, hcs⟩ := hs (by have := HKL.out; omega)
  have HK3 := hide (hk3.later hb)
  have r1 := rep8_ok (s := s) hfl hx
  have r2 := rep8_ok (s := s) hfl hy
  have hul := hg.lt1 hfl r1.2.1 r2.2.1
  have hvl := hg.lt2 hfl r1.2.1 r2.2.1
  have hcu := hcs _ (by rw [HKL.out]; exact hul)
  have hcv := hcs _ (by rw [HKL.out]; exact hvl)
  rw [alC_at hfl hul] at hcu
  rw [alC_at hfl hvl] at hcv
  have HRS := hide (hs.later hb)
  have hbsW : bs < W.heap.size := Nat.lt_of_lt_of_le hbs hb.size
  show Calls Try.prog 91 #[.agg #[.int .i64 x, .int .i64 y], .pointer (some ⟨pz, 0, none⟩), .pointer (some ⟨pc, 0, none⟩), .pointer (some ⟨pk, 0, none⟩)] W fun e w' => e = .returned (.agg #[.int .i64 ((cl8 f s (ap f (rep8 f s x) (rep8 f s y)) : Nat) : Int), .int .i64 ((cl8 f s (ap s (rep8 f s x) (rep8 f s y)) : Nat) : Int)]) ∧ Below W.heap.size W w'
  obtain ⟨a, ha⟩ : ∃ a, rep8 f s x = a := ⟨_, rfl⟩
  obtain ⟨g, hgg⟩ : ∃ g, rep8 f s y = g := ⟨_, rfl⟩
  rw [ha] at r1 hul hvl hcu hcv ⊢
  rw [hgg] at r2 hul hvl hcu hcv ⊢
  obtain ⟨u, hu⟩ : ∃ u, ap f a g = u := ⟨_, rfl⟩
  obtain ⟨v, hv⟩ : ∃ v, ap s a g = v := ⟨_, rfl⟩
  rw [hu] at hul hcu ⊢
  rw [hv] at hvl hcv ⊢
  obtain ⟨p, hp⟩ : ∃ p, cl8 f s u = p := ⟨_, rfl⟩
  obtain ⟨q, hq⟩ : ∃ q, cl8 f s v = q := ⟨_, rfl⟩
  rw [hp] at hcu ⊢
  rw [hq] at hcv ⊢
  have HU := hide hu
  have HV := hide hv
  have HR1 := hide r1.1
  have HR2 := hide r2.1
  have HA := hide (And.intro r1.2.1 r2.2.1)
  have HCU : Hid (W.cell? ⟨bs, os + u, none⟩ = some (.int .i64 p)) := hide ((hb.cell (p := ⟨bs, os + u, none⟩) hbs).trans hcu)
  have HCV : Hid (W.cell? ⟨bs, os + v, none⟩ = some (.int .i64 q)) := hide ((hb.cell (p := ⟨bs, os + v, none⟩) hbs).trans hcv)
  have huz : (u : Int) < n := by omega
  have hvz : (v : Int) < n := by omega
  have huz0 : (0 : Int) ≤ u := by omega
  have hvz0 : (0 : Int) ≤ v := by omega
  clear hz hg hs hk1 hk5 hk3 hb hcs ha hgg r1 r2 hcu hcv hu hv hp hq hx hy hul hvl hbs hfl
  go_enter Try.func91, Try.ntmps91
  go_wp2_with fail
  refine wp_gen fun w1 hw1 => ?_
  have hb1' : Below W.heap.size W w1 := by rw [hw1]; exact ((Below.refl _ _).alloc (Nat.le_refl _) _).alloc (by simp) _
  have hq1 : Blk w1 W.heap.size 89 [.int .i64 x, .int .i64 y] := by rw [hw1]; exact (Blk.new _ _ _).alloc _
  have hr1 : Blk w1 (W.heap.size + 1) 89 [.int .i64 0, .int .i64 0] := by rw [hw1]; have h := Blk.new (W.alloc (Obj.cells #[Value.int IntKind.i64 x, Value.int IntKind.i64 y] 89)) 89 [.int .i64 0, .int .i64 0]; simpa using h
  have HF : Hid (FB W w1 (w1.heap.size - 1) [(W.heap.size + 1, 89, [.int .i64 0, .int .i64 0]), (W.heap.size, 89, [.int .i64 x, .int .i64 y]), (pz, 29, [.slice A n c, .slice B n d]), (pc, 87, [.func (.func 89) #[] #[.pointer (some ⟨pk, 0, none⟩)]]), (pk, 26, [.slice (some ⟨bs, os, none⟩) n e])]) := hide (FB.of hb1' hq1.lt (by
    have a1 := HK1.out.later hb1'
    have a2 := HK5.out.later hb1'
    have a3 := HK3.out.later hb1'
    simp only [List.forall_mem_cons]
    exact ⟨hr1, hq1, a1, a2, a3, fun q hq => absurd hq (List.not_mem_nil)⟩))
  have Z1 : Hid (w1.heap.size = W.heap.size + 1 + 1) := hide (by rw [hw1]; simp)
  clear hw1 hb1' hq1 hr1
  have tok0 : True := trivial
  go_cut [6] (fun vv wx => ∃ L, vv = .pointer (some ⟨L, 0, none⟩) ∧ W.heap.size + 1 < L ∧ FB W wx L ((L, 89, [.int .i64 u, .int .i64 v]) :: [(W.heap.size + 1, 89, [.int .i64 0, .int .i64 0]), (W.heap.size, 89, [.int .i64 x, .int .i64 y]), (pz, 29, [.slice A n c, .slice B n d]), (pc, 87, [.func (.func 89) #[] #[.pointer (some ⟨pk, 0, none⟩)]]), (pk, 26, [.slice (some ⟨bs, os, none⟩) n e])]))
  case first =>
    have HPB : Hid True := hide trivial
    have k0 := (HF.out.blk (b := pz) (t := 29) (cs := [.slice A n c, .slice B n d]) (by simp)).cell 0 _ rfl
    have k1 := (HF.out.blk (b := pz) (t := 29) (cs := [.slice A n c, .slice B n d]) (by simp)).cell 1 _ rfl
    have k2 := (HF.out.blk (b := W.heap.size) (t := 89) (cs := [.int .i64 x, .int .i64 y]) (by simp)).cell 0 _ rfl
    have k3 := (HF.out.blk (b := W.heap.size) (t := 89) (cs := [.int .i64 x, .int .i64 y]) (by simp)).cell 1 _ rfl
    have k4 := (HF.out.blk (b := pc) (t := 87) (cs := [.func (.func 89) #[] #[.pointer (some ⟨pk, 0, none⟩)]]) (by simp)).cell 0 _ rfl
    have gn0 : w1.heap.size ≠ pz := (by have h1 := HF.out.sz; have h2 := HF.out.le (b := pz) (t := 29) (cs := [.slice A n c, .slice B n d]) (by simp); omega)
    have gm0 := gn0.symm
    have gn1 : w1.heap.size ≠ W.heap.size := (by have h1 := HF.out.sz; have h2 := HF.out.le (b := W.heap.size) (t := 89) (cs := [.int .i64 x, .int .i64 y]) (by simp); omega)
    have gm1 := gn1.symm
    have gn2 : w1.heap.size ≠ pc := (by have h1 := HF.out.sz; have h2 := HF.out.le (b := pc) (t := 87) (cs := [.func (.func 89) #[] #[.pointer (some ⟨pk, 0, none⟩)]]) (by simp); omega)
    have gm2 := gn2.symm
    go_region_held3 (fun w' => w'.cell? ⟨pz, 0, none⟩ = some (.slice A n c) ∧ w'.cell? ⟨pz, 1, none⟩ = some (.slice B n d) ∧ w'.cell? ⟨W.heap.size, 0, none⟩ = some (.int .i64 x) ∧ w'.cell? ⟨W.heap.size, 1, none⟩ = some (.int .i64 y) ∧ w'.cell? ⟨pc, 0, none⟩ = some (.func (.func 89) #[] #[.pointer (some ⟨pk, 0, none⟩)])) (first | exact ⟨k0, k1, k2, k3, k4⟩ | go_keep) (first | (go_at_call 89; have _t := tok0; clear _t tok0; go_must (refine calls_gen fun wc hwc => ?_; (first | (have hbx := al_drew_below hwc; have HPB := hide (And.intro (blk_al_drew hwc) HF.out.sz)) | (have hbx := al_below hwc; have HPB := hide (And.intro (blk_al hwc) HF.out.sz)) | (have hbx := drew_below hwc; (first | replace HPB := hide (And.intro (HPB.out.1.later hbx) HPB.out.2) | skip)) | (have hbx := eq_below hwc; (first | replace HPB := hide (And.intro (HPB.out.1.later hbx) HPB.out.2) | skip))); replace HF := hide (HF.out.later hbx); clear hwc hbx; refine (least8_any _ n e (alC f s) (x : Int) pk _ HKL.out (by omega) (HRS.out.later HF.out.below) (HF.out.blk (b := pk) (t := 26) (cs := [.slice (some ⟨bs, os, none⟩) n e]) (by simp))).mono ?_; rintro e wd ⟨rfl, hbd⟩; replace HF := hide (HF.out.later hbd); (first | replace HPB := hide (And.intro (HPB.out.1.later hbd) HPB.out.2) | skip); clear hbd; have gn0 : wd.heap.size ≠ pz := (by have h1 := HF.out.sz; have h2 := HF.out.le (b := pz) (t := 29) (cs := [.slice A n c, .slice B n d]) (by simp); omega); have gm0 := gn0.symm; have gn1 : wd.heap.size ≠ W.heap.size := (by have h1 := HF.out.sz; have h2 := HF.out.le (b := W.heap.size) (t := 89) (cs := [.int .i64 x, .int .i64 y]) (by simp); omega); have gm1 := gn1.symm; have gn2 : wd.heap.size ≠ pc := (by have h1 := HF.out.sz; have h2 := HF.out.le (b := pc) (t := 87) (cs := [.func (.func 89) #[] #[.pointer (some ⟨pk, 0, none⟩)]]) (by simp); omega); have gm2 := gn2.symm; have k0 := (HF.out.blk (b := pz) (t := 29) (cs := [.slice A n c, .slice B n d]) (by simp)).cell 0 _ rfl; have k1 := (HF.out.blk (b := pz) (t := 29) (cs := [.slice A n c, .slice B n d]) (by simp)).cell 1 _ rfl; have k2 := (HF.out.blk (b := W.heap.size) (t := 89) (cs := [.int .i64 x, .int .i64 y]) (by simp)).cell 0 _ rfl; have k3 := (HF.out.blk (b := W.heap.size) (t := 89) (cs := [.int .i64 x, .int .i64 y]) (by simp)).cell 1 _ rfl; have k4 := (HF.out.blk (b := pc) (t := 87) (cs := [.func (.func 89) #[] #[.pointer (some ⟨pk, 0, none⟩)]]) (by simp)).cell 0 _ rfl; (first | (have b0 := HPB.out.1.cell 0 _ rfl; have b1 := HPB.out.1.cell 1 _ rfl; have bf0 := HPB.out.1.frozen 0; have bf1 := HPB.out.1.frozen 1) | skip); rw [HR1.out])) | (go_at_call 89; go_must (refine calls_gen fun wc hwc => ?_; (first | (have hbx := al_drew_below hwc; have HPB := hide (And.intro (blk_al_drew hwc) HF.out.sz)) | (have hbx := al_below hwc; have HPB := hide (And.intro (blk_al hwc) HF.out.sz)) | (have hbx := drew_below hwc; (first | replace HPB := hide (And.intro (HPB.out.1.later hbx) HPB.out.2) | skip)) | (have hbx := eq_below hwc; (first | replace HPB := hide (And.intro (HPB.out.1.later hbx) HPB.out.2) | skip))); replace HF := hide (HF.out.later hbx); clear hwc hbx; refine (least8_any _ n e (alC f s) (y : Int) pk _ HKL.out (by omega) (HRS.out.later HF.out.below) (HF.out.blk (b := pk) (t := 26) (cs := [.slice (some ⟨bs, os, none⟩) n e]) (by simp))).mono ?_; rintro e wd ⟨rfl, hbd⟩; replace HF := hide (HF.out.later hbd); (first | replace HPB := hide (And.intro (HPB.out.1.later hbd) HPB.out.2) | skip); clear hbd; have gn0 : wd.heap.size ≠ pz := (by have h1 := HF.out.sz; have h2 := HF.out.le (b := pz) (t := 29) (cs := [.slice A n c, .slice B n d]) (by simp); omega); have gm0 := gn0.symm; have gn1 : wd.heap.size ≠ W.heap.size := (by have h1 := HF.out.sz; have h2 := HF.out.le (b := W.heap.size) (t := 89) (cs := [.int .i64 x, .int .i64 y]) (by simp); omega); have gm1 := gn1.symm; have gn2 : wd.heap.size ≠ pc := (by have h1 := HF.out.sz; have h2 := HF.out.le (b := pc) (t := 87) (cs := [.func (.func 89) #[] #[.pointer (some ⟨pk, 0, none⟩)]]) (by simp); omega); have gm2 := gn2.symm; have k0 := (HF.out.blk (b := pz) (t := 29) (cs := [.slice A n c, .slice B n d]) (by simp)).cell 0 _ rfl; have k1 := (HF.out.blk (b := pz) (t := 29) (cs := [.slice A n c, .slice B n d]) (by simp)).cell 1 _ rfl; have k2 := (HF.out.blk (b := W.heap.size) (t := 89) (cs := [.int .i64 x, .int .i64 y]) (by simp)).cell 0 _ rfl; have k3 := (HF.out.blk (b := W.heap.size) (t := 89) (cs := [.int .i64 x, .int .i64 y]) (by simp)).cell 1 _ rfl; have k4 := (HF.out.blk (b := pc) (t := 87) (cs := [.func (.func 89) #[] #[.pointer (some ⟨pk, 0, none⟩)]]) (by simp)).cell 0 _ rfl; (first | (have b0 := HPB.out.1.cell 0 _ rfl; have b1 := HPB.out.1.cell 1 _ rfl; have bf0 := HPB.out.1.frozen 0; have bf1 := HPB.out.1.frozen 1) | skip); rw [HR2.out])) | (go_at_call 61; go_must (refine calls_gen fun wc hwc => ?_; (first | (have hbx := al_drew_below hwc; have HPB := hide (And.intro (blk_al_drew hwc) HF.out.sz)) | (have hbx := al_below hwc; have HPB := hide (And.intro (blk_al hwc) HF.out.sz)) | (have hbx := drew_below hwc; (first | replace HPB := hide (And.intro (HPB.out.1.later hbx) HPB.out.2) | skip)) | (have hbx := eq_below hwc; (first | replace HPB := hide (And.intro (HPB.out.1.later hbx) HPB.out.2) | skip))); replace HF := hide (HF.out.later hbx); clear hwc hbx; refine (lead_any _ _ _ f _ _ _ s a g _ (HZ.out.later HF.out.below) HP.out HA.out.1 HA.out.2).mono ?_; rintro e wd ⟨rfl, hbd⟩; replace HF := hide (HF.out.later hbd); (first | replace HPB := hide (And.intro (HPB.out.1.later hbd) HPB.out.2) | skip); clear hbd; have gn0 : wd.heap.size ≠ pz := (by have h1 := HF.out.sz; have h2 := HF.out.le (b := pz) (t := 29) (cs := [.slice A n c, .slice B n d]) (by simp); omega); have gm0 := gn0.symm; have gn1 : wd.heap.size ≠ W.heap.size := (by have h1 := HF.out.sz; have h2 := HF.out.le (b := W.heap.size) (t := 89) (cs := [.int .i64 x, .int .i64 y]) (by simp); omega); have gm1 := gn1.symm; have gn2 : wd.heap.size ≠ pc := (by have h1 := HF.out.sz; have h2 := HF.out.le (b := pc) (t := 87) (cs := [.func (.func 89) #[] #[.pointer (some ⟨pk, 0, none⟩)]]) (by simp); omega); have gm2 := gn2.symm; have k0 := (HF.out.blk (b := pz) (t := 29) (cs := [.slice A n c, .slice B n d]) (by simp)).cell 0 _ rfl; have k1 := (HF.out.blk (b := pz) (t := 29) (cs := [.slice A n c, .slice B n d]) (by simp)).cell 1 _ rfl; have k2 := (HF.out.blk (b := W.heap.size) (t := 89) (cs := [.int .i64 x, .int .i64 y]) (by simp)).cell 0 _ rfl; have k3 := (HF.out.blk (b := W.heap.size) (t := 89) (cs := [.int .i64 x, .int .i64 y]) (by simp)).cell 1 _ rfl; have k4 := (HF.out.blk (b := pc) (t := 87) (cs := [.func (.func 89) #[] #[.pointer (some ⟨pk, 0, none⟩)]]) (by simp)).cell 0 _ rfl; (first | (have b0 := HPB.out.1.cell 0 _ rfl; have b1 := HPB.out.1.cell 1 _ rfl; have bf0 := HPB.out.1.frozen 0; have bf1 := HPB.out.1.frozen 1) | skip); rw [HU.out, HV.out])))
    all_goals go_wp2_with fail
    all_goals go_meet
    all_goals refine ⟨_, rfl, ?_, ?_⟩
    any_goals (have h1 := HF.out.le (b := W.heap.size + 1) (t := 89) (cs := [.int .i64 0, .int .i64 0]) (by simp); first | (have h2 := HF.out.sz; show W.heap.size + 1 < wd.heap.size; omega) | (have h2 := HPB.out.2; omega))
    all_goals first | exact HF.out.new _ _ | exact ((HF.out.set (p := ⟨_, 0, none⟩) HPB.out.2 _).set (p := ⟨_, 1, none⟩) HPB.out.2 _).push ((HPB.out.1.set 0 _).set 1 _) HPB.out.2
  case rest =>
    obtain ⟨L1, rfl, hL1, hfk⟩ := hcut
    replace HF := hide hfk
    have HL := hide hL1
    clear hfk hL1
    go_wp2_with fail
    have k0 := (HF.out.blk (b := pk) (t := 26) (cs := [.slice (some ⟨bs, os, none⟩) n e]) (by simp)).cell 0 _ rfl
    have k1 := (HF.out.blk (b := L1) (t := 89) (cs := [.int .i64 u, .int .i64 v]) (by simp)).cell 0 _ rfl
    have k2 := (HF.out.blk (b := L1) (t := 89) (cs := [.int .i64 u, .int .i64 v]) (by simp)).cell 1 _ rfl
    have k3 := (HF.out.below.cell (p := ⟨bs, os + u, none⟩) hbsW).trans HCU.out
    have k4 := (HF.out.below.cell (p := ⟨bs, os + v, none⟩) hbsW).trans HCV.out
    have r0 := (HF.out.blk (b := W.heap.size + 1) (t := 89) (cs := [.int .i64 0, .int .i64 0]) (by simp)).cell 0 _ rfl
    have r1' := (HF.out.blk (b := W.heap.size + 1) (t := 89) (cs := [.int .i64 0, .int .i64 0]) (by simp)).cell 1 _ rfl
    have r2' := (HF.out.blk (b := W.heap.size + 1) (t := 89) (cs := [.int .i64 0, .int .i64 0]) (by simp)).frozen 0
    have r3 := (HF.out.blk (b := W.heap.size + 1) (t := 89) (cs := [.int .i64 0, .int .i64 0]) (by simp)).frozen 1
    have m1 : W.heap.size + 1 ≠ L1 := by have h2 := HL.out; omega
    have m2 : W.heap.size + 1 ≠ pk := by have h1 := HK3.out.lt; omega
    have m5 : W.heap.size + 1 ≠ bs := by omega
    have m3 := m1.symm
    have m4 := m2.symm
    have m6 := m5.symm
    go_region_held3 (fun w' => w'.cell? ⟨pk, 0, none⟩ = some (.slice (some ⟨bs, os, none⟩) n e) ∧ w'.cell? ⟨L1, 0, none⟩ = some (.int .i64 u) ∧ w'.cell? ⟨L1, 1, none⟩ = some (.int .i64 v) ∧ w'.cell? ⟨bs, os + u, none⟩ = some (.int .i64 p) ∧ w'.cell? ⟨bs, os + v, none⟩ = some (.int .i64 q)) (first | exact ⟨k0, k1, k2, k3, k4⟩ | go_keep) (first | fail)
    clear k0 k1 k2 k3 k4
    go_wp2_with fail
    clear r0 r1' r2' r3
    refine bp_gen fun wf hwf => ?_
    have HRF : Blk wf (W.heap.size + 1) 89 [.int .i64 p, .int .i64 q] := by rw [hwf]; first | exact ((HF.out.blk (b := W.heap.size + 1) (t := 89) (cs := [.int .i64 0, .int .i64 0]) (by simp)).set 0 _).set 1 _ | exact (((HF.out.blk (b := W.heap.size + 1) (t := 89) (cs := [.int .i64 0, .int .i64 0]) (by simp)).set 0 _).set 1 _).drew
    have HBF : Below W.heap.size W wf := by rw [hwf]; first | exact (HF.out.below.setCell (p := ⟨W.heap.size + 1, 0, none⟩) (by show W.heap.size ≤ W.heap.size + 1; omega) _).setCell (p := ⟨W.heap.size + 1, 1, none⟩) (by show W.heap.size ≤ W.heap.size + 1; omega) _ | exact ((HF.out.below.setCell (p := ⟨W.heap.size + 1, 0, none⟩) (by show W.heap.size ≤ W.heap.size + 1; omega) _).setCell (p := ⟨W.heap.size + 1, 1, none⟩) (by show W.heap.size ≤ W.heap.size + 1; omega) _).drew
    have q0 := HRF.cell 0 _ rfl
    have q1 := HRF.cell 1 _ rfl
    clear hwf
    exact bodyPost_ret (v := .agg #[.int .i64 p, .int .i64 q]) (by simp [results, Try.results91, go_sem, q0, q1]) rfl ⟨rfl, HBF⟩
end Go.Proofs.Ytgmloaemnbnbgaa
namespace Go.Proofs.Ytgmloaemnbnbgaa
open Go Go.RowKit
set_option maxHeartbeats 2000000
def RtRes (f s : List (List Int)) : List (List Int) → List (List Int) → Int → Prop := GRes (NdS f s) (alN f s) (fun a b => ((rtA f s a b : Nat) : Int)) (fun a b => ((rtB f s a b : Nat) : Int)) 1
theorem RtRes.ex (f s : List (List Int)) : ∃ zf zg code, RtRes f s zf zg code ∧ ZSz 1048576 zf zf.length zg zg.length := GRes.ex _ _ _ _ _ (fun h => by have h1 := (h.sizes rfl).2.1; have h2 := alN_le (s := s) (f := f) rfl; omega)
end Go.Proofs.Ytgmloaemnbnbgaa
