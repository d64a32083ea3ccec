import Derived.Test.YtanldiildinbdaaZz
import Derived.Test.YtanldiildinbdaaZy
import Derived.Test.YtanldiildinbdaaZan
import Derived.Test.YtanldiildinbdaaZbe
import Derived.Test.YtanldiildinbdaaZaa
import Derived.Test.YtanldiildinbdaaZba
import Derived.Test.YtanldiildinbdaaZa
import Derived.Deep.DeepCutAuto
import Derived.Test.YtanldiildinbdaaZbj
import Derived.Test.YtanldiildinbdaaZq
namespace Go.Proofs.Ytanldiildinbdaa
open Go Go.RowKit
set_option maxHeartbeats 1000000

set_option maxRecDepth 100000 in
theorem prC_any (A : Option Addr) (n c : Nat) (f : List (List Int)) (B : Option Addr) (m d : Nat) (s : List (List Int)) (C : Option Addr) (q c2 : Nat) (f2 : List (List Int)) (D : Option Addr) (q2 d2 : Nat) (s2 : List (List Int)) (b1 b2 b3 : Nat) (w : World) (hz : ZArg 1048576 w A n f B m s) (hp : PMap f s) (hz2 : ZArg 1048576 w C q f2 D q2 s2) (hp2 : PMap f2 s2)
    (hk1 : Blk w b1 27 [.slice A n c, .slice B m d]) (hk2 : Blk w b2 2 [.int .i64 q]) (hk3 : Blk w b3 27 [.slice C q c2, .slice D q2 d2]) (hle : n * q ≤ 12) :
    PairFn Try.prog 73 #[.pointer (some ⟨b1, 0, none⟩), .pointer (some ⟨b2, 0, none⟩), .pointer (some ⟨b3, 0, none⟩)] (n * q) (pr1 f f2 q) (pr1 s s2 q) w := by
  intro W x y hx hy hb
  have HZ := hide (hz.later hb)
  have HZ2 := hide (hz2.later hb)
  have HK1 := hide (hk1.later hb)
  have HK2 := hide (hk2.later hb)
  have HK3 := hide (hk3.later hb)
  have HP := hide hp
  have HP2 := hide hp2
  have hsm := hz.small hp
  have hsm2 := hz2.small hp2
  have HFL := hide hz.sz.fl
  have HFL2 := hide hz2.sz.fl
  have hxd : x / q < n := Nat.div_lt_of_lt_mul (by rw [Nat.mul_comm]; exact hx)
  have hyd : y / q < n := Nat.div_lt_of_lt_mul (by rw [Nat.mul_comm]; exact hy)
  have hxm : x % q < q := Nat.mod_lt _ (by omega)
  have hym : y % q < q := Nat.mod_lt _ (by omega)
  have t1 : ((x : Int)).tdiv (q : Int) = ((x / q : Nat) : Int) := by rw [Int.ofNat_tdiv]
  have t2 : ((y : Int)).tdiv (q : Int) = ((y / q : Nat) : Int) := by rw [Int.ofNat_tdiv]
  have t3 : ((x : Int)).tmod (q : Int) = ((x % q : Nat) : Int) := by rw [Int.ofNat_tmod]
  have t4 : ((y : Int)).tmod (q : Int) = ((y % q : Nat) : Int) := by rw [Int.ofNat_tmod]
  clear hz hz2 hp hp2 hk1 hk2 hk3 hb
  show Calls Try.prog 73 #[.agg #[.int .i64 x, .int .i64 y], .pointer (some ⟨b1, 0, none⟩), .pointer (some ⟨b2, 0, none⟩), .pointer (some ⟨b3, 0, none⟩)] W _
  unfold pr1
  have hu := HP.out.lt1 HFL.out hxd hyd
  have hv := HP.out.lt2 HFL.out hxd hyd
  have hu2 := HP2.out.lt1 HFL2.out hxm hym
  have hv2 := HP2.out.lt2 HFL2.out hxm hym
  obtain ⟨xa, hxa⟩ : ∃ a, x / q = a := ⟨_, rfl⟩
  obtain ⟨ya, hya⟩ : ∃ a, y / q = a := ⟨_, rfl⟩
  obtain ⟨xb, hxb⟩ : ∃ a, x % q = a := ⟨_, rfl⟩
  obtain ⟨yb, hyb⟩ : ∃ a, y % q = a := ⟨_, rfl⟩
  rw [hxa] at hxd t1 hu hv ⊢
  rw [hya] at hyd t2 hu hv ⊢
  rw [hxb] at hxm t3 hu2 hv2 ⊢
  rw [hyb] at hym t4 hu2 hv2 ⊢
  obtain ⟨u, hue⟩ : ∃ a, ap f xa ya = a := ⟨_, rfl⟩
  obtain ⟨v, hve⟩ : ∃ a, ap s xa ya = a := ⟨_, rfl⟩
  obtain ⟨u2, hue2⟩ : ∃ a, ap f2 xb yb = a := ⟨_, rfl⟩
  obtain ⟨v2, hve2⟩ : ∃ a, ap s2 xb yb = a := ⟨_, rfl⟩
  rw [hue] at hu ⊢
  rw [hve] at hv ⊢
  rw [hue2] at hu2 ⊢
  rw [hve2] at hv2 ⊢
  have HU := hide hue
  have HV := hide hve
  have HU2 := hide hue2
  have HV2 := hide hve2
  have hb1 : u * q + u2 < 12 := by
    have h : (u + 1) * q ≤ n * q := Nat.mul_le_mul_right q hu
    rw [Nat.add_mul, Nat.one_mul] at h
    omega
  have hb2 : v * q + v2 < 12 := by
    have h : (v + 1) * q ≤ n * q := Nat.mul_le_mul_right q hv
    rw [Nat.add_mul, Nat.one_mul] at h
    omega
  obtain ⟨uq, huq⟩ : ∃ a, u * q = a := ⟨_, rfl⟩
  obtain ⟨vq, hvq⟩ : ∃ a, v * q = a := ⟨_, rfl⟩
  rw [huq] at hb1 ⊢
  rw [hvq] at hb2 ⊢
  have t5 : (u : Int) * (q : Int) = (uq : Int) := by rw [← huq]; simp
  have t6 : (v : Int) * (q : Int) = (vq : Int) := by rw [← hvq]; simp
  have t7 : (uq : Int) + (u2 : Int) = ((uq + u2 : Nat) : Int) := by simp
  have t8 : (vq : Int) + (v2 : Int) = ((vq + v2 : Nat) : Int) := by simp
  obtain ⟨r1, hr1⟩ : ∃ a, uq + u2 = a := ⟨_, rfl⟩
  obtain ⟨r2, hr2⟩ : ∃ a, vq + v2 = a := ⟨_, rfl⟩
  rw [hr1] at hb1 t7 ⊢
  rw [hr2] at hb2 t8 ⊢
  have hq0 : ¬ (q : Int) = 0 := by omega
  have hq0n : ¬ q = 0 := by omega
  have e1 : IntKind.i64.wrap (xa : Int) = (xa : Int) := IntWalk.i64_in _ (by omega)
  have e2 : IntKind.i64.wrap (ya : Int) = (ya : Int) := IntWalk.i64_in _ (by omega)
  have e3 : IntKind.i64.wrap (xb : Int) = (xb : Int) := IntWalk.i64_in _ (by omega)
  have e4 : IntKind.i64.wrap (yb : Int) = (yb : Int) := IntWalk.i64_in _ (by omega)
  have hn12 : n ≤ 12 := hsm.2
  have hq12 : q ≤ 12 := hsm2.2
  have hq1 : 1 ≤ q := hsm2.1
  clear hsm hsm2 hxa hya hxb hyb hue hve hue2 hve2 huq hvq hr1 hr2 hx hy hle
  go_enter Try.func73, Try.ntmps73
  go_wp2_with fail
  refine wp_gen fun w1 hw1 => ?_
  have hb1' : Below W.heap.size W w1 := by rw [hw1]; exact ((Below.refl _ _).alloc (Nat.le_refl _) _).alloc (by simp) _
  have hq1 : Blk w1 W.heap.size 53 [.int .i64 x, .int .i64 y] := by rw [hw1]; exact (Blk.new _ _ _).alloc _
  have hr1 : Blk w1 (W.heap.size + 1) 53 [.int .i64 0, .int .i64 0] := by rw [hw1]; have h := Blk.new (W.alloc (Obj.cells #[Value.int IntKind.i64 x, Value.int IntKind.i64 y] 53)) 53 [.int .i64 0, .int .i64 0]; simpa using h
  have HF : Hid (FB W w1 (w1.heap.size - 1) [(W.heap.size + 1, 53, [.int .i64 0, .int .i64 0]), (W.heap.size, 53, [.int .i64 x, .int .i64 y]), (b1, 27, [.slice A n c, .slice B m d]), (b2, 2, [.int .i64 q]), (b3, 27, [.slice C q c2, .slice D q2 d2])]) := hide (FB.of hb1' hq1.lt (by
    have a1 := HK1.out.later hb1'
    have a2 := HK2.out.later hb1'
    have a3 := HK3.out.later hb1'
    simp only [List.forall_mem_cons]
    exact ⟨hr1, hq1, a1, a2, a3, fun q hq => absurd hq (List.not_mem_nil)⟩))
  clear hw1 hb1' hq1 hr1
  go_cut [6] (fun vv wx => ∃ L, vv = .pointer (some ⟨L, 0, none⟩) ∧ FB W wx L ((L, 53, [.int .i64 u, .int .i64 v]) :: [(W.heap.size + 1, 53, [.int .i64 0, .int .i64 0]), (W.heap.size, 53, [.int .i64 x, .int .i64 y]), (b1, 27, [.slice A n c, .slice B m d]), (b2, 2, [.int .i64 q]), (b3, 27, [.slice C q c2, .slice D q2 d2])]))
  case first =>
    have HPB : Hid True := hide trivial
    have k0 := (HF.out.blk (b := b1) (t := 27) (cs := [.slice A n c, .slice B m d]) (by simp)).cell 0 _ rfl
    have k1 := (HF.out.blk (b := b1) (t := 27) (cs := [.slice A n c, .slice B m d]) (by simp)).cell 1 _ rfl
    have k2 := (HF.out.blk (b := W.heap.size) (t := 53) (cs := [.int .i64 x, .int .i64 y]) (by simp)).cell 0 _ rfl
    have k3 := (HF.out.blk (b := W.heap.size) (t := 53) (cs := [.int .i64 x, .int .i64 y]) (by simp)).cell 1 _ rfl
    have k4 := (HF.out.blk (b := b2) (t := 2) (cs := [.int .i64 q]) (by simp)).cell 0 _ rfl
    have gn0 : w1.heap.size ≠ b1 := (by have h1 := HF.out.sz; have h2 := HF.out.le (b := b1) (t := 27) (cs := [.slice A n c, .slice B m d]) (by simp); omega)
    have gm0 := gn0.symm
    have gn1 : w1.heap.size ≠ W.heap.size := (by have h1 := HF.out.sz; have h2 := HF.out.le (b := W.heap.size) (t := 53) (cs := [.int .i64 x, .int .i64 y]) (by simp); omega)
    have gm1 := gn1.symm
    have gn2 : w1.heap.size ≠ b2 := (by have h1 := HF.out.sz; have h2 := HF.out.le (b := b2) (t := 2) (cs := [.int .i64 q]) (by simp); omega)
    have gm2 := gn2.symm
    go_region_held3 (fun w' => w'.cell? ⟨b1, 0, none⟩ = some (.slice A n c) ∧ w'.cell? ⟨b1, 1, none⟩ = some (.slice B m d) ∧ w'.cell? ⟨W.heap.size, 0, none⟩ = some (.int .i64 x) ∧ w'.cell? ⟨W.heap.size, 1, none⟩ = some (.int .i64 y) ∧ w'.cell? ⟨b2, 0, none⟩ = some (.int .i64 q)) (first | exact ⟨k0, k1, k2, k3, k4⟩ | go_keep) (first | (go_at_call 64; go_must (refine calls_gen fun wc hwc => ?_; (first | (have hbx := al_drew_below hwc; have HPB := hide (And.intro (blk_al_drew hwc) HF.out.sz)) | (have hbx := al_below hwc; have HPB := hide (And.intro (blk_al hwc) HF.out.sz)) | (have hbx := drew_below hwc; (first | replace HPB := hide (And.intro (HPB.out.1.later hbx) HPB.out.2) | skip)) | (have hbx := eq_below hwc; (first | replace HPB := hide (And.intro (HPB.out.1.later hbx) HPB.out.2) | skip))); replace HF := hide (HF.out.later hbx); clear hwc hbx; refine (lead_any _ _ _ f _ _ _ s xa ya _ (HZ.out.later HF.out.below) HP.out hxd hyd).mono ?_; rintro e wd ⟨rfl, hbd⟩; replace HF := hide (HF.out.later hbd); (first | replace HPB := hide (And.intro (HPB.out.1.later hbd) HPB.out.2) | skip); clear hbd; have gn0 : wd.heap.size ≠ b1 := (by have h1 := HF.out.sz; have h2 := HF.out.le (b := b1) (t := 27) (cs := [.slice A n c, .slice B m d]) (by simp); omega); have gm0 := gn0.symm; have gn1 : wd.heap.size ≠ W.heap.size := (by have h1 := HF.out.sz; have h2 := HF.out.le (b := W.heap.size) (t := 53) (cs := [.int .i64 x, .int .i64 y]) (by simp); omega); have gm1 := gn1.symm; have gn2 : wd.heap.size ≠ b2 := (by have h1 := HF.out.sz; have h2 := HF.out.le (b := b2) (t := 2) (cs := [.int .i64 q]) (by simp); omega); have gm2 := gn2.symm; have k0 := (HF.out.blk (b := b1) (t := 27) (cs := [.slice A n c, .slice B m d]) (by simp)).cell 0 _ rfl; have k1 := (HF.out.blk (b := b1) (t := 27) (cs := [.slice A n c, .slice B m d]) (by simp)).cell 1 _ rfl; have k2 := (HF.out.blk (b := W.heap.size) (t := 53) (cs := [.int .i64 x, .int .i64 y]) (by simp)).cell 0 _ rfl; have k3 := (HF.out.blk (b := W.heap.size) (t := 53) (cs := [.int .i64 x, .int .i64 y]) (by simp)).cell 1 _ rfl; have k4 := (HF.out.blk (b := b2) (t := 2) (cs := [.int .i64 q]) (by simp)).cell 0 _ rfl; (first | (have b0 := HPB.out.1.cell 0 _ rfl; have b1 := HPB.out.1.cell 1 _ rfl; have bf0 := HPB.out.1.frozen 0; have bf1 := HPB.out.1.frozen 1) | skip); rw [HU.out, HV.out])))
    all_goals go_wp2_with fail
    all_goals go_meet
    all_goals refine ⟨_, rfl, ?_⟩
    all_goals first | exact HF.out.new _ _ | exact ((HF.out.set (p := ⟨_, 0, none⟩) HPB.out.2 _).set (p := ⟨_, 1, none⟩) HPB.out.2 _).push ((HPB.out.1.set 0 _).set 1 _) HPB.out.2
  case rest =>
    obtain ⟨L1, rfl, hfk⟩ := hcut
    replace HF := hide hfk
    clear hfk
    go_wp2_with fail
    go_cut [7] (fun vv wx => ∃ L, vv = .pointer (some ⟨L, 0, none⟩) ∧ FB W wx L ((L, 53, [.int .i64 u2, .int .i64 v2]) :: (L1, 53, [.int .i64 u, .int .i64 v]) :: [(W.heap.size + 1, 53, [.int .i64 0, .int .i64 0]), (W.heap.size, 53, [.int .i64 x, .int .i64 y]), (b1, 27, [.slice A n c, .slice B m d]), (b2, 2, [.int .i64 q]), (b3, 27, [.slice C q c2, .slice D q2 d2])]))
    case first =>
      have HPB : Hid True := hide trivial
      have k0 := (HF.out.blk (b := b3) (t := 27) (cs := [.slice C q c2, .slice D q2 d2]) (by simp)).cell 0 _ rfl
      have k1 := (HF.out.blk (b := b3) (t := 27) (cs := [.slice C q c2, .slice D q2 d2]) (by simp)).cell 1 _ rfl
      have k2 := (HF.out.blk (b := W.heap.size) (t := 53) (cs := [.int .i64 x, .int .i64 y]) (by simp)).cell 0 _ rfl
      have k3 := (HF.out.blk (b := W.heap.size) (t := 53) (cs := [.int .i64 x, .int .i64 y]) (by simp)).cell 1 _ rfl
      have k4 := (HF.out.blk (b := b2) (t := 2) (cs := [.int .i64 q]) (by simp)).cell 0 _ rfl
      have gn0 : wc.heap.size ≠ b3 := (by have h1 := HF.out.sz; have h2 := HF.out.le (b := b3) (t := 27) (cs := [.slice C q c2, .slice D q2 d2]) (by simp); omega)
      have gm0 := gn0.symm
      have gn1 : wc.heap.size ≠ W.heap.size := (by have h1 := HF.out.sz; have h2 := HF.out.le (b := W.heap.size) (t := 53) (cs := [.int .i64 x, .int .i64 y]) (by simp); omega)
      have gm1 := gn1.symm
      have gn2 : wc.heap.size ≠ b2 := (by have h1 := HF.out.sz; have h2 := HF.out.le (b := b2) (t := 2) (cs := [.int .i64 q]) (by simp); omega)
      have gm2 := gn2.symm
      go_region_held3 (fun w' => w'.cell? ⟨b3, 0, none⟩ = some (.slice C q c2) ∧ w'.cell? ⟨b3, 1, none⟩ = some (.slice D q2 d2) ∧ w'.cell? ⟨W.heap.size, 0, none⟩ = some (.int .i64 x) ∧ w'.cell? ⟨W.heap.size, 1, none⟩ = some (.int .i64 y) ∧ w'.cell? ⟨b2, 0, none⟩ = some (.int .i64 q)) (first | exact ⟨k0, k1, k2, k3, k4⟩ | go_keep) (first | (go_at_call 64; go_must (refine calls_gen fun wc hwc => ?_; (first | (have hbx := al_drew_below hwc; have HPB := hide (And.intro (blk_al_drew hwc) HF.out.sz)) | (have hbx := al_below hwc; have HPB := hide (And.intro (blk_al hwc) HF.out.sz)) | (have hbx := drew_below hwc; (first | replace HPB := hide (And.intro (HPB.out.1.later hbx) HPB.out.2) | skip)) | (have hbx := eq_below hwc; (first | replace HPB := hide (And.intro (HPB.out.1.later hbx) HPB.out.2) | skip))); replace HF := hide (HF.out.later hbx); clear hwc hbx; refine (lead_any _ _ _ f2 _ _ _ s2 xb yb _ (HZ2.out.later HF.out.below) HP2.out hxm hym).mono ?_; rintro e wd ⟨rfl, hbd⟩; replace HF := hide (HF.out.later hbd); (first | replace HPB := hide (And.intro (HPB.out.1.later hbd) HPB.out.2) | skip); clear hbd; have gn0 : wd.heap.size ≠ b3 := (by have h1 := HF.out.sz; have h2 := HF.out.le (b := b3) (t := 27) (cs := [.slice C q c2, .slice D q2 d2]) (by simp); omega); have gm0 := gn0.symm; have gn1 : wd.heap.size ≠ W.heap.size := (by have h1 := HF.out.sz; have h2 := HF.out.le (b := W.heap.size) (t := 53) (cs := [.int .i64 x, .int .i64 y]) (by simp); omega); have gm1 := gn1.symm; have gn2 : wd.heap.size ≠ b2 := (by have h1 := HF.out.sz; have h2 := HF.out.le (b := b2) (t := 2) (cs := [.int .i64 q]) (by simp); omega); have gm2 := gn2.symm; have k0 := (HF.out.blk (b := b3) (t := 27) (cs := [.slice C q c2, .slice D q2 d2]) (by simp)).cell 0 _ rfl; have k1 := (HF.out.blk (b := b3) (t := 27) (cs := [.slice C q c2, .slice D q2 d2]) (by simp)).cell 1 _ rfl; have k2 := (HF.out.blk (b := W.heap.size) (t := 53) (cs := [.int .i64 x, .int .i64 y]) (by simp)).cell 0 _ rfl; have k3 := (HF.out.blk (b := W.heap.size) (t := 53) (cs := [.int .i64 x, .int .i64 y]) (by simp)).cell 1 _ rfl; have k4 := (HF.out.blk (b := b2) (t := 2) (cs := [.int .i64 q]) (by simp)).cell 0 _ rfl; (first | (have b0 := HPB.out.1.cell 0 _ rfl; have b1 := HPB.out.1.cell 1 _ rfl; have bf0 := HPB.out.1.frozen 0; have bf1 := HPB.out.1.frozen 1) | skip); rw [HU2.out, HV2.out])))
      all_goals go_wp2_with fail
      all_goals go_meet
      all_goals refine ⟨_, rfl, ?_⟩
      all_goals first | exact HF.out.new _ _ | exact ((HF.out.set (p := ⟨_, 0, none⟩) HPB.out.2 _).set (p := ⟨_, 1, none⟩) HPB.out.2 _).push ((HPB.out.1.set 0 _).set 1 _) HPB.out.2
    case rest =>
      obtain ⟨L2, rfl, hfk⟩ := hcut
      replace HF := hide hfk
      clear hfk
      have k0 := (HF.out.blk (b := L1) (t := 53) (cs := [.int .i64 u, .int .i64 v]) (by simp)).cell 0 _ rfl
      have k1 := (HF.out.blk (b := L1) (t := 53) (cs := [.int .i64 u, .int .i64 v]) (by simp)).cell 1 _ rfl
      have k2 := (HF.out.blk (b := L2) (t := 53) (cs := [.int .i64 u2, .int .i64 v2]) (by simp)).cell 0 _ rfl
      have k3 := (HF.out.blk (b := L2) (t := 53) (cs := [.int .i64 u2, .int .i64 v2]) (by simp)).cell 1 _ rfl
      have k4 := (HF.out.blk (b := b2) (t := 2) (cs := [.int .i64 q]) (by simp)).cell 0 _ rfl
      have k5 := (HF.out.blk (b := W.heap.size + 1) (t := 53) (cs := [.int .i64 0, .int .i64 0]) (by simp)).cell 0 _ rfl
      have k6 := (HF.out.blk (b := W.heap.size + 1) (t := 53) (cs := [.int .i64 0, .int .i64 0]) (by simp)).cell 1 _ rfl
      have HRB := hide (HF.out.blk (b := W.heap.size + 1) (t := 53) (cs := [.int .i64 0, .int .i64 0]) (by simp))
      have k7 := HRB.out.frozen 0
      have k8 := HRB.out.frozen 1
      go_wp2_with fail
      refine bp_gen fun wf hwf => ?_
      have HRF : Blk wf (W.heap.size + 1) 53 [.int .i64 r1, .int .i64 r2] := by rw [hwf]; exact (HRB.out.set 0 _).set 1 _
      have HBF : Below W.heap.size W wf := by rw [hwf]; exact (HF.out.below.setCell (p := ⟨W.heap.size + 1, 0, none⟩) (by show W.heap.size ≤ W.heap.size + 1; omega) _).setCell (p := ⟨W.heap.size + 1, 1, none⟩) (by show W.heap.size ≤ W.heap.size + 1; omega) _
      have q0 := HRF.cell 0 _ rfl
      have q1 := HRF.cell 1 _ rfl
      clear hwf k0 k1 k2 k3 k4 k5 k6 k7 k8
      exact bodyPost_ret (v := .agg #[.int .i64 r1, .int .i64 r2]) (by simp [results, Try.results73, go_sem, q0, q1]) rfl ⟨rfl, HBF⟩
end Go.Proofs.Ytanldiildinbdaa
namespace Go.Proofs.Ytanldiildinbdaa
open Go Go.RowKit
set_option maxHeartbeats 1000000

set_option maxRecDepth 100000 in
theorem prS_any (A : Option Addr) (n c : Nat) (f : List (List Int)) (B : Option Addr) (m d : Nat) (s : List (List Int)) (C : Option Addr) (q c2 : Nat) (f2 : List (List Int)) (D : Option Addr) (q2 d2 : Nat) (s2 : List (List Int)) (zf zg : List (List Int)) (code : Int) (kz kw : Nat) (w : World) (hz : ZArg 1048576 w A n f B m s) (hz2 : ZArg 1048576 w C q f2 D q2 s2) (hr : ProdRes f s f2 s2 zf zg code) (hk : ZSz 1048576 zf kz zg kw) :
    Calls Try.prog 39 #[.agg #[.slice A n c, .slice B m d], .agg #[.slice C q c2, .slice D q2 d2]] w (WPost 31 2 kz kw zf zg code w) := by
  have hnb := hz.sz.nb
  have hnb2 := hz2.sz.nb
  have HZ := hide hz
  have HZ2 := hide hz2
  have HFL := hide hz.sz.fl
  have HFL2 := hide hz2.sz.fl
  have hpp : (PMap f s ∧ PMap f2 s2) ∨ (PMap f s ∧ ¬ PMap f2 s2) ∨ ¬ PMap f s := by
    by_cases h1 : PMap f s
    · by_cases h2 : PMap f2 s2
      · exact .inl ⟨h1, h2⟩
      · exact .inr (.inl ⟨h1, h2⟩)
    · exact .inr (.inr h1)
  rcases hpp with ⟨hp1, hp2⟩ | ⟨hp1, hp2⟩ | hp1
  · rcases hr with ⟨_, hlim, rfl, rfl, rfl⟩ | ⟨_, hlim, rfl, rfl, rfl⟩ | ⟨h, _⟩
    · have HP := hide hp1
      have HP2 := hide hp2
      have h12 := hz.small hp1
      have h12b := hz2.small hp2
      obtain ⟨sz, hsz⟩ : ∃ a, n * q = a := ⟨_, rfl⟩
      have hsq : sz ≤ 144 := by rw [← hsz]; exact Nat.le_trans (Nat.mul_le_mul h12.2 h12b.2) (Nat.le_refl _)
      have hsi : (n : Int) * (q : Int) = (sz : Int) := by rw [← hsz]; simp
      have hwk : IntKind.i64.wrap (sz : Int) = (sz : Int) := IntWalk.i64_in _ (by omega)
      have HSZ := hide hsz
      have hle : sz ≤ 12 := by rw [← hsz, ← hz.sz.fl, ← hz2.sz.fl]; exact hlim
      have h1s : 1 ≤ sz := by rw [← hsz]; exact Nat.mul_pos h12.1 h12b.1
      have hng : ¬ (12 : Int) < (sz : Int) := by omega
      obtain rfl : kz = sz := by rw [← hk.fl, grid_length, HFL.out, HFL2.out, hsz]
      obtain rfl : kw = kz := by rw [← hk.sl, grid_length, HFL.out, HFL2.out, hsz]
      clear hk hsz hlim hp1 hp2
      clear hz hz2
      go_enter Try.func39, Try.ntmps39
      go_wp2_with fail
      refine calls_gen fun w0 hw0 => ?_
      have HF : Hid (FB w w0 (w0.heap.size - 1) [(w.heap.size + 1 + 1, 27, [.slice none 0 0, .slice none 0 0]), (w.heap.size + 1, 27, [.slice C q c2, .slice D q2 d2]), (w.heap.size, 27, [.slice A n c, .slice B m d])]) := hide (by
        have hb0 : Below w.heap.size w w0 := by rw [hw0]; exact (((Below.refl _ _).alloc (Nat.le_refl _) _).alloc (by simp) _).alloc (by simp; omega) _
        have a1 : Blk w0 w.heap.size 27 [.slice A n c, .slice B m d] := by rw [hw0]; exact ((Blk.new _ _ _).alloc _).alloc _
        have a2 : Blk w0 (w.heap.size + 1) 27 [.slice C q c2, .slice D q2 d2] := by rw [hw0]; have h := (Blk.new (w.alloc (Obj.cells #[Value.slice A n c, Value.slice B m d] 27)) 27 [.slice C q c2, .slice D q2 d2]).alloc (Obj.cells #[Value.slice none 0 0, Value.slice none 0 0] 27); simpa using h
        have a3 : Blk w0 (w.heap.size + 1 + 1) 27 [.slice none 0 0, .slice none 0 0] := by rw [hw0]; have h := Blk.new ((w.alloc (Obj.cells #[Value.slice A n c, Value.slice B m d] 27)).alloc (Obj.cells #[Value.slice C q c2, Value.slice D q2 d2] 27)) 27 [.slice none 0 0, .slice none 0 0]; simpa using h
        refine FB.of hb0 a1.lt ?_
        simp only [List.forall_mem_cons]
        exact ⟨a3, a2, a1, fun q hq => absurd hq (List.not_mem_nil)⟩)
      clear hw0
      refine (mapS_any _ _ _ f _ _ _ s true _ (HZ.out.later HF.out.below) (by simp [HP.out])).mono ?_
      rintro e wd ⟨rfl, hbd⟩
      replace HF := hide (HF.out.later hbd)
      clear hbd
      have k0 := (HF.out.blk (b := w.heap.size) (t := 27) (cs := [.slice A n c, .slice B m d]) (by simp)).cell 0 _ rfl
      have k1 := (HF.out.blk (b := w.heap.size) (t := 27) (cs := [.slice A n c, .slice B m d]) (by simp)).cell 1 _ rfl
      have k2 := (HF.out.blk (b := w.heap.size + 1) (t := 27) (cs := [.slice C q c2, .slice D q2 d2]) (by simp)).cell 0 _ rfl
      have k3 := (HF.out.blk (b := w.heap.size + 1) (t := 27) (cs := [.slice C q c2, .slice D q2 d2]) (by simp)).cell 1 _ rfl
      go_wp2_with fail
      clear k0 k1 k2 k3
      refine (mapS_any _ _ _ f2 _ _ _ s2 true _ (HZ2.out.later HF.out.below) (by simp [HP2.out])).mono ?_
      rintro e wd ⟨rfl, hbd⟩
      replace HF := hide (HF.out.later hbd)
      clear hbd
      have k0 := (HF.out.blk (b := w.heap.size) (t := 27) (cs := [.slice A n c, .slice B m d]) (by simp)).cell 0 _ rfl
      have k1 := (HF.out.blk (b := w.heap.size) (t := 27) (cs := [.slice A n c, .slice B m d]) (by simp)).cell 1 _ rfl
      have k2 := (HF.out.blk (b := w.heap.size + 1) (t := 27) (cs := [.slice C q c2, .slice D q2 d2]) (by simp)).cell 0 _ rfl
      have k3 := (HF.out.blk (b := w.heap.size + 1) (t := 27) (cs := [.slice C q c2, .slice D q2 d2]) (by simp)).cell 1 _ rfl
      go_wp2_with fail
      refine (prodS_any _ _ _ f _ _ _ s _ _ _ f2 _ _ _ s2 kw _ (HZ.out.later HF.out.below) HP.out (HZ2.out.later HF.out.below) HP2.out HSZ.out hle).mono ?_
      rintro e wd2 ⟨A3, c3, B3, d3, rfl, hbd, ho⟩
      have hRl := (HF.out.blk (b := w.heap.size + 1 + 1) (t := 27) (cs := [.slice none 0 0, .slice none 0 0]) (by simp)).lt
      have hws := HF.out.below.size
      replace HF := hide (HF.out.later hbd)
      have HO := hide ho
      clear hbd ho k0 k1 k2 k3
      have r0 := (HF.out.blk (b := w.heap.size + 1 + 1) (t := 27) (cs := [.slice none 0 0, .slice none 0 0]) (by simp)).cell 0 _ rfl
      have r1 := (HF.out.blk (b := w.heap.size + 1 + 1) (t := 27) (cs := [.slice none 0 0, .slice none 0 0]) (by simp)).cell 1 _ rfl
      have r2 := (HF.out.blk (b := w.heap.size + 1 + 1) (t := 27) (cs := [.slice none 0 0, .slice none 0 0]) (by simp)).frozen 0
      have r3 := (HF.out.blk (b := w.heap.size + 1 + 1) (t := 27) (cs := [.slice none 0 0, .slice none 0 0]) (by simp)).frozen 1
      go_wp2_with fail
      refine bp_gen fun wf hwf => ?_
      obtain ⟨q0, q1, hbf, hof⟩ := wend hwf (HF.out.blk (b := w.heap.size + 1 + 1) (t := 27) (cs := [.slice none 0 0, .slice none 0 0]) (by simp)) (by omega) hRl HF.out.below hws HO.out
      clear hwf r0 r1 r2 r3
      rw [HFL.out, HFL2.out, HSZ.out]
      exact bodyPost_ret (v := .tuple #[.agg #[.slice A3 kw c3, .slice B3 kw d3], .int .i64 0]) (by simp [results, Try.results39, go_sem, q0, q1]) rfl ⟨_, _, _, _, rfl, hbf, hof⟩
    · have HP := hide hp1
      have HP2 := hide hp2
      have h12 := hz.small hp1
      have h12b := hz2.small hp2
      obtain ⟨sz, hsz⟩ : ∃ a, n * q = a := ⟨_, rfl⟩
      have hsq : sz ≤ 144 := by rw [← hsz]; exact Nat.le_trans (Nat.mul_le_mul h12.2 h12b.2) (Nat.le_refl _)
      have hsi : (n : Int) * (q : Int) = (sz : Int) := by rw [← hsz]; simp
      have hwk : IntKind.i64.wrap (sz : Int) = (sz : Int) := IntWalk.i64_in _ (by omega)
      have HSZ := hide hsz
      have hgt : (12 : Int) < (sz : Int) := by rw [← hz.sz.fl, ← hz2.sz.fl] at hsz; omega
      obtain rfl : kz = 0 := by simpa using hk.fl.symm
      obtain rfl : kw = 0 := by simpa using hk.sl.symm
      clear hk
      clear hsz hlim hp1 hp2
      clear hz hz2
      go_enter Try.func39, Try.ntmps39
      go_wp2_with fail
      refine calls_gen fun w0 hw0 => ?_
      have HF : Hid (FB w w0 (w0.heap.size - 1) [(w.heap.size + 1 + 1, 27, [.slice none 0 0, .slice none 0 0]), (w.heap.size + 1, 27, [.slice C q c2, .slice D q2 d2]), (w.heap.size, 27, [.slice A n c, .slice B m d])]) := hide (by
        have hb0 : Below w.heap.size w w0 := by rw [hw0]; exact (((Below.refl _ _).alloc (Nat.le_refl _) _).alloc (by simp) _).alloc (by simp; omega) _
        have a1 : Blk w0 w.heap.size 27 [.slice A n c, .slice B m d] := by rw [hw0]; exact ((Blk.new _ _ _).alloc _).alloc _
        have a2 : Blk w0 (w.heap.size + 1) 27 [.slice C q c2, .slice D q2 d2] := by rw [hw0]; have h := (Blk.new (w.alloc (Obj.cells #[Value.slice A n c, Value.slice B m d] 27)) 27 [.slice C q c2, .slice D q2 d2]).alloc (Obj.cells #[Value.slice none 0 0, Value.slice none 0 0] 27); simpa using h
        have a3 : Blk w0 (w.heap.size + 1 + 1) 27 [.slice none 0 0, .slice none 0 0] := by rw [hw0]; have h := Blk.new ((w.alloc (Obj.cells #[Value.slice A n c, Value.slice B m d] 27)).alloc (Obj.cells #[Value.slice C q c2, Value.slice D q2 d2] 27)) 27 [.slice none 0 0, .slice none 0 0]; simpa using h
        refine FB.of hb0 a1.lt ?_
        simp only [List.forall_mem_cons]
        exact ⟨a3, a2, a1, fun q hq => absurd hq (List.not_mem_nil)⟩)
      clear hw0
      refine (mapS_any _ _ _ f _ _ _ s true _ (HZ.out.later HF.out.below) (by simp [HP.out])).mono ?_
      rintro e wd ⟨rfl, hbd⟩
      replace HF := hide (HF.out.later hbd)
      clear hbd
      have k0 := (HF.out.blk (b := w.heap.size) (t := 27) (cs := [.slice A n c, .slice B m d]) (by simp)).cell 0 _ rfl
      have k1 := (HF.out.blk (b := w.heap.size) (t := 27) (cs := [.slice A n c, .slice B m d]) (by simp)).cell 1 _ rfl
      have k2 := (HF.out.blk (b := w.heap.size + 1) (t := 27) (cs := [.slice C q c2, .slice D q2 d2]) (by simp)).cell 0 _ rfl
      have k3 := (HF.out.blk (b := w.heap.size + 1) (t := 27) (cs := [.slice C q c2, .slice D q2 d2]) (by simp)).cell 1 _ rfl
      go_wp2_with fail
      clear k0 k1 k2 k3
      refine (mapS_any _ _ _ f2 _ _ _ s2 true _ (HZ2.out.later HF.out.below) (by simp [HP2.out])).mono ?_
      rintro e wd ⟨rfl, hbd⟩
      replace HF := hide (HF.out.later hbd)
      clear hbd
      have k0 := (HF.out.blk (b := w.heap.size) (t := 27) (cs := [.slice A n c, .slice B m d]) (by simp)).cell 0 _ rfl
      have k1 := (HF.out.blk (b := w.heap.size) (t := 27) (cs := [.slice A n c, .slice B m d]) (by simp)).cell 1 _ rfl
      have k2 := (HF.out.blk (b := w.heap.size + 1) (t := 27) (cs := [.slice C q c2, .slice D q2 d2]) (by simp)).cell 0 _ rfl
      have k3 := (HF.out.blk (b := w.heap.size + 1) (t := 27) (cs := [.slice C q c2, .slice D q2 d2]) (by simp)).cell 1 _ rfl
      have HR := hide (HF.out.blk (b := w.heap.size + 1 + 1) (t := 27) (cs := [.slice none 0 0, .slice none 0 0]) (by simp))
      have r0 := HR.out.cell 0 _ rfl
      have r1 := HR.out.cell 1 _ rfl
      have r2 := HR.out.frozen 0
      have r3 := HR.out.frozen 1
      go_wp2_with fail
      refine bp_gen fun wf hwf => ?_
      obtain ⟨q0, q1, hbf, hof⟩ := wend (ts := 31) (t := 2) (w2 := wd) hwf HR.out (by omega) HR.out.lt HF.out.below HF.out.below.size ObjW.empty
      clear hwf r0 r1 r2 r3
      exact bodyPost_ret (v := .tuple #[.agg #[.slice none 0 0, .slice none 0 0], .int .i64 3]) (by simp [results, Try.results39, go_sem, q0, q1]) rfl ⟨_, _, _, _, rfl, hbf, hof⟩
    · exact absurd ⟨hp1, hp2⟩ h
  · rcases hr with ⟨h, _⟩ | ⟨h, _⟩ | ⟨_, rfl, rfl, rfl⟩
    · exact absurd h.2 hp2
    · exact absurd h.2 hp2
    · have HP := hide hp1
      have HP2 := hide hp2
      clear hp1 hp2
      obtain rfl : kz = 0 := by simpa using hk.fl.symm
      obtain rfl : kw = 0 := by simpa using hk.sl.symm
      clear hk
      clear hz hz2
      go_enter Try.func39, Try.ntmps39
      go_wp2_with fail
      refine calls_gen fun w0 hw0 => ?_
      have HF : Hid (FB w w0 (w0.heap.size - 1) [(w.heap.size + 1 + 1, 27, [.slice none 0 0, .slice none 0 0]), (w.heap.size + 1, 27, [.slice C q c2, .slice D q2 d2]), (w.heap.size, 27, [.slice A n c, .slice B m d])]) := hide (by
        have hb0 : Below w.heap.size w w0 := by rw [hw0]; exact (((Below.refl _ _).alloc (Nat.le_refl _) _).alloc (by simp) _).alloc (by simp; omega) _
        have a1 : Blk w0 w.heap.size 27 [.slice A n c, .slice B m d] := by rw [hw0]; exact ((Blk.new _ _ _).alloc _).alloc _
        have a2 : Blk w0 (w.heap.size + 1) 27 [.slice C q c2, .slice D q2 d2] := by rw [hw0]; have h := (Blk.new (w.alloc (Obj.cells #[Value.slice A n c, Value.slice B m d] 27)) 27 [.slice C q c2, .slice D q2 d2]).alloc (Obj.cells #[Value.slice none 0 0, Value.slice none 0 0] 27); simpa using h
        have a3 : Blk w0 (w.heap.size + 1 + 1) 27 [.slice none 0 0, .slice none 0 0] := by rw [hw0]; have h := Blk.new ((w.alloc (Obj.cells #[Value.slice A n c, Value.slice B m d] 27)).alloc (Obj.cells #[Value.slice C q c2, Value.slice D q2 d2] 27)) 27 [.slice none 0 0, .slice none 0 0]; simpa using h
        refine FB.of hb0 a1.lt ?_
        simp only [List.forall_mem_cons]
        exact ⟨a3, a2, a1, fun q hq => absurd hq (List.not_mem_nil)⟩)
      clear hw0
      refine (mapS_any _ _ _ f _ _ _ s true _ (HZ.out.later HF.out.below) (by simp [HP.out])).mono ?_
      rintro e wd ⟨rfl, hbd⟩
      replace HF := hide (HF.out.later hbd)
      clear hbd
      have k0 := (HF.out.blk (b := w.heap.size) (t := 27) (cs := [.slice A n c, .slice B m d]) (by simp)).cell 0 _ rfl
      have k1 := (HF.out.blk (b := w.heap.size) (t := 27) (cs := [.slice A n c, .slice B m d]) (by simp)).cell 1 _ rfl
      have k2 := (HF.out.blk (b := w.heap.size + 1) (t := 27) (cs := [.slice C q c2, .slice D q2 d2]) (by simp)).cell 0 _ rfl
      have k3 := (HF.out.blk (b := w.heap.size + 1) (t := 27) (cs := [.slice C q c2, .slice D q2 d2]) (by simp)).cell 1 _ rfl
      go_wp2_with fail
      clear k0 k1 k2 k3
      refine (mapS_any _ _ _ f2 _ _ _ s2 false _ (HZ2.out.later HF.out.below) (by simp [HP2.out])).mono ?_
      rintro e wd ⟨rfl, hbd⟩
      replace HF := hide (HF.out.later hbd)
      clear hbd
      have HR := hide (HF.out.blk (b := w.heap.size + 1 + 1) (t := 27) (cs := [.slice none 0 0, .slice none 0 0]) (by simp))
      have r0 := HR.out.cell 0 _ rfl
      have r1 := HR.out.cell 1 _ rfl
      have r2 := HR.out.frozen 0
      have r3 := HR.out.frozen 1
      go_wp2_with fail
      refine bp_gen fun wf hwf => ?_
      obtain ⟨q0, q1, hbf, hof⟩ := wend (ts := 31) (t := 2) (w2 := wd) hwf HR.out (by omega) HR.out.lt HF.out.below HF.out.below.size ObjW.empty
      clear hwf r0 r1 r2 r3
      exact bodyPost_ret (v := .tuple #[.agg #[.slice none 0 0, .slice none 0 0], .int .i64 1]) (by simp [results, Try.results39, go_sem, q0, q1]) rfl ⟨_, _, _, _, rfl, hbf, hof⟩
  · rcases hr with ⟨h, _⟩ | ⟨h, _⟩ | ⟨_, rfl, rfl, rfl⟩
    · exact absurd h.1 hp1
    · exact absurd h.1 hp1
    · have HP := hide hp1
      clear hp1
      obtain rfl : kz = 0 := by simpa using hk.fl.symm
      obtain rfl : kw = 0 := by simpa using hk.sl.symm
      clear hk
      clear hz hz2
      go_enter Try.func39, Try.ntmps39
      go_wp2_with fail
      refine calls_gen fun w0 hw0 => ?_
      have HF : Hid (FB w w0 (w0.heap.size - 1) [(w.heap.size + 1 + 1, 27, [.slice none 0 0, .slice none 0 0]), (w.heap.size + 1, 27, [.slice C q c2, .slice D q2 d2]), (w.heap.size, 27, [.slice A n c, .slice B m d])]) := hide (by
        have hb0 : Below w.heap.size w w0 := by rw [hw0]; exact (((Below.refl _ _).alloc (Nat.le_refl _) _).alloc (by simp) _).alloc (by simp; omega) _
        have a1 : Blk w0 w.heap.size 27 [.slice A n c, .slice B m d] := by rw [hw0]; exact ((Blk.new _ _ _).alloc _).alloc _
        have a2 : Blk w0 (w.heap.size + 1) 27 [.slice C q c2, .slice D q2 d2] := by rw [hw0]; have h := (Blk.new (w.alloc (Obj.cells #[Value.slice A n c, Value.slice B m d] 27)) 27 [.slice C q c2, .slice D q2 d2]).alloc (Obj.cells #[Value.slice none 0 0, Value.slice none 0 0] 27); simpa using h
        have a3 : Blk w0 (w.heap.size + 1 + 1) 27 [.slice none 0 0, .slice none 0 0] := by rw [hw0]; have h := Blk.new ((w.alloc (Obj.cells #[Value.slice A n c, Value.slice B m d] 27)).alloc (Obj.cells #[Value.slice C q c2, Value.slice D q2 d2] 27)) 27 [.slice none 0 0, .slice none 0 0]; simpa using h
        refine FB.of hb0 a1.lt ?_
        simp only [List.forall_mem_cons]
        exact ⟨a3, a2, a1, fun q hq => absurd hq (List.not_mem_nil)⟩)
      clear hw0
      refine (mapS_any _ _ _ f _ _ _ s false _ (HZ.out.later HF.out.below) (by simp [HP.out])).mono ?_
      rintro e wd ⟨rfl, hbd⟩
      replace HF := hide (HF.out.later hbd)
      clear hbd
      have HR := hide (HF.out.blk (b := w.heap.size + 1 + 1) (t := 27) (cs := [.slice none 0 0, .slice none 0 0]) (by simp))
      have r0 := HR.out.cell 0 _ rfl
      have r1 := HR.out.cell 1 _ rfl
      have r2 := HR.out.frozen 0
      have r3 := HR.out.frozen 1
      go_wp2_with fail
      refine bp_gen fun wf hwf => ?_
      obtain ⟨q0, q1, hbf, hof⟩ := wend (ts := 31) (t := 2) (w2 := wd) hwf HR.out (by omega) HR.out.lt HF.out.below HF.out.below.size ObjW.empty
      clear hwf r0 r1 r2 r3
      exact bodyPost_ret (v := .tuple #[.agg #[.slice none 0 0, .slice none 0 0], .int .i64 1]) (by simp [results, Try.results39, go_sem, q0, q1]) rfl ⟨_, _, _, _, rfl, hbf, hof⟩
end Go.Proofs.Ytanldiildinbdaa
