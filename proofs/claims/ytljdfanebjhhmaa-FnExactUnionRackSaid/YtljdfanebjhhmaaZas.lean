import Derived.Test.YtljdfanebjhhmaaZal
import Derived.Test.YtljdfanebjhhmaaZae
import Derived.Test.YtljdfanebjhhmaaZah
import Derived.Deep.Cut
namespace Go.Proofs.Ytljdfanebjhhmaa
open Go Go.RowKit
set_option maxHeartbeats 2000000

set_option maxRecDepth 100000 in
theorem pdC_any (A : Option Addr) (n c : Nat) (f : List (List Int)) (C : Option Addr) (q c2 : Nat) (f2 : List (List Int)) (ba bb bm : Nat) (w : World) (hn : f.length = n) (ht : Tbl f) (hr : Rd2 w A f) (hn2 : f2.length = q) (ht2 : Tbl f2) (hr2 : Rd2 w C f2)
    (hk1 : Blk w ba 26 [.slice A n c]) (hk2 : Blk w bb 26 [.slice C q c2]) (hk3 : Blk w bm 2 [.int .i64 q]) (hle : n * q ≤ 12) :
    CellFn Try.prog 44 #[.pointer (some ⟨ba, 0, none⟩), .pointer (some ⟨bm, 0, none⟩), .pointer (some ⟨bb, 0, none⟩)] (n * q) (pdH f f2 q) w := by
  intro W x y hx hy hb
  have HRA := hide (hr.later hb)
  have HRB := hide (hr2.later hb)
  have HKa := hide (hk1.later hb)
  have HKb := hide (hk2.later hb)
  have HKm := hide (hk3.later hb)
  have HT := hide ht
  have HT2 := hide ht2
  have HN := hide hn
  have HN2 := hide hn2
  have h1n : 1 ≤ n := by rw [← hn]; exact ht.1
  have h1q : 1 ≤ q := by rw [← hn2]; exact ht2.1
  have h12n : n ≤ 12 := by rw [← hn]; exact ht.2.1
  have h12q : q ≤ 12 := by rw [← hn2]; exact ht2.2.1
  clear hr hr2 hk1 hk2 hk3 hb hn hn2 ht ht2
  show Calls Try.prog 44 #[.int .i64 x, .int .i64 y, .pointer (some ⟨ba, 0, none⟩), .pointer (some ⟨bm, 0, none⟩), .pointer (some ⟨bb, 0, none⟩)] W _
  have hxd : x / q < n := Nat.div_lt_of_lt_mul (by rw [Nat.mul_comm]; exact hx)
  have hyd : y / q < n := Nat.div_lt_of_lt_mul (by rw [Nat.mul_comm]; exact hy)
  have hxm : x % q < q := Nat.mod_lt _ (by omega)
  have hym : y % q < q := Nat.mod_lt _ (by omega)
  have t1 : ((x : Int)).tdiv (q : Int) = ((x / q : Nat) : Int) := by rw [Int.ofNat_tdiv]
  have t2 : ((y : Int)).tdiv (q : Int) = ((y / q : Nat) : Int) := by rw [Int.ofNat_tdiv]
  have t3 : ((x : Int)).tmod (q : Int) = ((x % q : Nat) : Int) := by rw [Int.ofNat_tmod]
  have t4 : ((y : Int)).tmod (q : Int) = ((y % q : Nat) : Int) := by rw [Int.ofNat_tmod]
  unfold pdH
  have hu := HT.out.ap_lt HN.out hxd hyd
  have hu2 := HT2.out.ap_lt HN2.out hxm hym
  obtain ⟨xa, hxa⟩ : ∃ a, x / q = a := ⟨_, rfl⟩
  obtain ⟨ya, hya⟩ : ∃ a, y / q = a := ⟨_, rfl⟩
  obtain ⟨xb, hxb⟩ : ∃ a, x % q = a := ⟨_, rfl⟩
  obtain ⟨yb, hyb⟩ : ∃ a, y % q = a := ⟨_, rfl⟩
  rw [hxa] at hxd t1 hu ⊢
  rw [hya] at hyd t2 hu ⊢
  rw [hxb] at hxm t3 hu2 ⊢
  rw [hyb] at hym t4 hu2 ⊢
  obtain ⟨u, hue⟩ : ∃ a, ap f xa ya = a := ⟨_, rfl⟩
  obtain ⟨u2, hue2⟩ : ∃ a, ap f2 xb yb = a := ⟨_, rfl⟩
  rw [hue] at hu ⊢
  rw [hue2] at hu2 ⊢
  have HU := hide hue
  have HU2 := hide hue2
  have hb1 : u * q + u2 < 12 := by
    have h : (u + 1) * q ≤ n * q := Nat.mul_le_mul_right q hu
    rw [Nat.add_mul, Nat.one_mul] at h
    omega
  obtain ⟨uq, huq⟩ : ∃ a, u * q = a := ⟨_, rfl⟩
  rw [huq] at hb1 ⊢
  have t5 : (u : Int) * (q : Int) = (uq : Int) := by rw [← huq]; simp
  have t7 : (uq : Int) + (u2 : Int) = ((uq + u2 : Nat) : Int) := by simp
  have huq12 : uq < 12 := by omega
  obtain ⟨r1, hr1⟩ : ∃ a, uq + u2 = a := ⟨_, rfl⟩
  rw [hr1] at hb1 t7 ⊢
  have hq0 : ¬ (q : Int) = 0 := by omega
  have hq0n : ¬ q = 0 := by omega
  have e1 : IntKind.i64.wrap (xa : Int) = (xa : Int) := IntWalk.i64_in _ (by omega)
  have e2 : IntKind.i64.wrap (ya : Int) = (ya : Int) := IntWalk.i64_in _ (by omega)
  have e3 : IntKind.i64.wrap (xb : Int) = (xb : Int) := IntWalk.i64_in _ (by omega)
  have e4 : IntKind.i64.wrap (yb : Int) = (yb : Int) := IntWalk.i64_in _ (by omega)
  have e5 : IntKind.i64.wrap (uq : Int) = (uq : Int) := IntWalk.i64_in _ (by omega)
  have e6 : IntKind.i64.wrap (r1 : Int) = (r1 : Int) := IntWalk.i64_in _ (by omega)
  clear hxa hya hxb hyb hue hue2 huq hr1 hx hy hle
  go_enter Try.func44, Try.ntmps44
  go_upto_region 1 with fail
  refine wp_gen fun w1 hw1 => ?_
  have HBc : Hid (Below W.heap.size W w1) := hide (by rw [hw1]; exact Below.refl _ _)
  replace HKa : Hid (Blk w1 ba 26 [.slice A n c]) := hide (by rw [hw1]; exact HKa.out)
  replace HKb : Hid (Blk w1 bb 26 [.slice C q c2]) := hide (by rw [hw1]; exact HKb.out)
  replace HKm : Hid (Blk w1 bm 2 [.int .i64 q]) := hide (by rw [hw1]; exact HKm.out)
  clear hw1
  have k0 := HKa.out.cell 0 _ rfl
  have k1 := HKb.out.cell 0 _ rfl
  have k2 := HKm.out.cell 0 _ rfl
  have tok0 : True := trivial
  go_region_held3 (fun w' => w'.cell? ⟨ba, 0, none⟩ = some (.slice A n c) ∧ w'.cell? ⟨bb, 0, none⟩ = some (.slice C q c2) ∧ w'.cell? ⟨bm, 0, none⟩ = some (.int .i64 q)) (first | exact ⟨k0, k1, k2⟩ | go_keep) (first | (go_at_call 45; have _t := tok0; clear _t tok0; go_must (refine calls_gen fun wc hwc => ?_; (first | have hbx := drew_below hwc | have hbx := eq_below hwc); replace HBc := hide (HBc.out.trans (hbx.mono HBc.out.size)); replace HKa := hide (HKa.out.later hbx); replace HKb := hide (HKb.out.later hbx); replace HKm := hide (HKm.out.later hbx); clear hwc hbx; refine (act_any _ _ _ f xa ya u _ HN.out HT.out (HRA.out.later HBc.out) hxd hyd HU.out).mono ?_; rintro e wd ⟨rfl, hbd⟩; replace HBc := hide (HBc.out.trans (hbd.mono HBc.out.size)); replace HKa := hide (HKa.out.later hbd); replace HKb := hide (HKb.out.later hbd); replace HKm := hide (HKm.out.later hbd); clear hbd; have k0 := HKa.out.cell 0 _ rfl; have k1 := HKb.out.cell 0 _ rfl; have k2 := HKm.out.cell 0 _ rfl)) | (go_at_call 45; go_must (refine calls_gen fun wc hwc => ?_; (first | have hbx := drew_below hwc | have hbx := eq_below hwc); replace HBc := hide (HBc.out.trans (hbx.mono HBc.out.size)); replace HKa := hide (HKa.out.later hbx); replace HKb := hide (HKb.out.later hbx); replace HKm := hide (HKm.out.later hbx); clear hwc hbx; refine (act_any _ _ _ f2 xb yb u2 _ HN2.out HT2.out (HRB.out.later HBc.out) hxm hym HU2.out).mono ?_; rintro e wd ⟨rfl, hbd⟩; replace HBc := hide (HBc.out.trans (hbd.mono HBc.out.size)); replace HKa := hide (HKa.out.later hbd); replace HKb := hide (HKb.out.later hbd); replace HKm := hide (HKm.out.later hbd); clear hbd; have k0 := HKa.out.cell 0 _ rfl; have k1 := HKb.out.cell 0 _ rfl; have k2 := HKm.out.cell 0 _ rfl)))
  all_goals go_wp2_with fail
  all_goals go_ret
  all_goals exact ⟨rfl, HBc.out⟩

set_option maxRecDepth 100000 in
theorem udC_any (A : Option Addr) (n c : Nat) (f : List (List Int)) (C : Option Addr) (q c2 : Nat) (f2 : List (List Int)) (ba bb bm : Nat) (w : World) (hn : f.length = n) (ht : Tbl f) (hr : Rd2 w A f) (hn2 : f2.length = q) (ht2 : Tbl f2) (hr2 : Rd2 w C f2)
    (hk1 : Blk w ba 26 [.slice A n c]) (hk2 : Blk w bb 26 [.slice C q c2]) (hk3 : Blk w bm 2 [.int .i64 n]) (hle : n + q ≤ 12) :
    CellFn Try.prog 49 #[.pointer (some ⟨bm, 0, none⟩), .pointer (some ⟨ba, 0, none⟩), .pointer (some ⟨bb, 0, none⟩)] (n + q) (udH f f2 n) w := by
  intro W x y hx hy hb
  have HRA := hide (hr.later hb)
  have HRB := hide (hr2.later hb)
  have HKa := hide (hk1.later hb)
  have HKb := hide (hk2.later hb)
  have HKm := hide (hk3.later hb)
  have HT := hide ht
  have HT2 := hide ht2
  have HN := hide hn
  have HN2 := hide hn2
  have h1n : 1 ≤ n := by rw [← hn]; exact ht.1
  have h1q : 1 ≤ q := by rw [← hn2]; exact ht2.1
  have h12n : n ≤ 12 := by rw [← hn]; exact ht.2.1
  have h12q : q ≤ 12 := by rw [← hn2]; exact ht2.2.1
  clear hr hr2 hk1 hk2 hk3 hb hn hn2 ht ht2
  show Calls Try.prog 49 #[.int .i64 x, .int .i64 y, .pointer (some ⟨bm, 0, none⟩), .pointer (some ⟨ba, 0, none⟩), .pointer (some ⟨bb, 0, none⟩)] W _
  unfold udH
  by_cases h1 : x < n ∧ y < n
  · rw [if_pos h1]
    obtain ⟨u, hue⟩ : ∃ a, ap f x y = a := ⟨_, rfl⟩
    rw [hue]
    have HU := hide hue
    have hxz : (x : Int) < n := by omega
    have hyz : (y : Int) < n := by omega
    have HXY := hide h1
    clear h1 hue hx hy hle
    go_enter Try.func49, Try.ntmps49
    go_upto_region 1 with fail
    refine wp_gen fun w1 hw1 => ?_
    have HBc : Hid (Below W.heap.size W w1) := hide (by rw [hw1]; exact Below.refl _ _)
    replace HKa : Hid (Blk w1 ba 26 [.slice A n c]) := hide (by rw [hw1]; exact HKa.out)
    replace HKb : Hid (Blk w1 bb 26 [.slice C q c2]) := hide (by rw [hw1]; exact HKb.out)
    replace HKm : Hid (Blk w1 bm 2 [.int .i64 n]) := hide (by rw [hw1]; exact HKm.out)
    clear hw1
    have k0 := HKa.out.cell 0 _ rfl
    have k1 := HKb.out.cell 0 _ rfl
    have k2 := HKm.out.cell 0 _ rfl
    go_wp2_with fail
    refine calls_gen fun wc hwc => ?_
    have HBd : Hid (Below W.heap.size W wc) := hide (by rw [hwc]; first | exact HBc.out | exact bdrewN HBc.out _ | exact HBc.out.drew)
    clear hwc
    refine (act_any _ _ _ f x y u _ HN.out HT.out (HRA.out.later HBd.out) HXY.out.1 HXY.out.2 HU.out).mono ?_
    rintro e wd ⟨rfl, hbd⟩
    have HBe := hide (HBd.out.trans (hbd.mono HBd.out.size))
    clear hbd
    go_wp2_with fail
    go_ret
    exact ⟨rfl, HBe.out⟩
  · rw [if_neg h1]
    by_cases h2 : n ≤ x ∧ n ≤ y
    · rw [if_pos h2]
      obtain ⟨xb, hxb⟩ : ∃ a, x - n = a := ⟨_, rfl⟩
      obtain ⟨yb, hyb⟩ : ∃ a, y - n = a := ⟨_, rfl⟩
      rw [hxb, hyb]
      have hxq : xb < q := by omega
      have hyq : yb < q := by omega
      have e1 : (x : Int) - (n : Int) = (xb : Int) := by omega
      have e2 : (y : Int) - (n : Int) = (yb : Int) := by omega
      have hu2 := HT2.out.ap_lt HN2.out hxq hyq
      obtain ⟨u, hue⟩ : ∃ a, ap f2 xb yb = a := ⟨_, rfl⟩
      rw [hue] at hu2 ⊢
      have HU := hide hue
      obtain ⟨u', hu'⟩ : ∃ a, u + n = a := ⟨_, rfl⟩
      rw [hu']
      have e3 : (n : Int) + (u : Int) = (u' : Int) := by omega
      have g1 : ¬ (x : Int) < n := by omega
      have g2 : ¬ (y : Int) < n := by omega
      have g3 : (n : Int) ≤ x := by omega
      have g4 : (n : Int) ≤ y := by omega
      have hx24 : x < 24 := by omega
      have hy24 : y < 24 := by omega
      have hu24 : u' < 24 := by omega
      have e4 : IntKind.i64.wrap (xb : Int) = (xb : Int) := IntWalk.i64_in _ (by omega)
      have e5 : IntKind.i64.wrap (yb : Int) = (yb : Int) := IntWalk.i64_in _ (by omega)
      have e6 : IntKind.i64.wrap (u' : Int) = (u' : Int) := IntWalk.i64_in _ (by omega)
      clear h1 h2 hue hx hy hle hxb hyb hu' hu2
      go_enter Try.func49, Try.ntmps49
      go_upto_region 1 with fail
      refine wp_gen fun w1 hw1 => ?_
      have HBc : Hid (Below W.heap.size W w1) := hide (by rw [hw1]; exact Below.refl _ _)
      replace HKa : Hid (Blk w1 ba 26 [.slice A n c]) := hide (by rw [hw1]; exact HKa.out)
      replace HKb : Hid (Blk w1 bb 26 [.slice C q c2]) := hide (by rw [hw1]; exact HKb.out)
      replace HKm : Hid (Blk w1 bm 2 [.int .i64 n]) := hide (by rw [hw1]; exact HKm.out)
      clear hw1
      have k0 := HKa.out.cell 0 _ rfl
      have k1 := HKb.out.cell 0 _ rfl
      have k2 := HKm.out.cell 0 _ rfl

      go_upto_region 4 with fail
      go_region_held3 (fun w' => w'.cell? ⟨ba, 0, none⟩ = some (.slice A n c) ∧ w'.cell? ⟨bb, 0, none⟩ = some (.slice C q c2) ∧ w'.cell? ⟨bm, 0, none⟩ = some (.int .i64 n)) (first | exact ⟨k0, k1, k2⟩ | go_keep) (first | (go_at_call 45; go_must (refine calls_gen fun wc hwc => ?_; (first | have hbx := drew_below hwc | have hbx := eq_below hwc); replace HBc := hide (HBc.out.trans (hbx.mono HBc.out.size)); replace HKa := hide (HKa.out.later hbx); replace HKb := hide (HKb.out.later hbx); replace HKm := hide (HKm.out.later hbx); clear hwc hbx; refine (act_any _ _ _ f2 xb yb u _ HN2.out HT2.out (HRB.out.later HBc.out) hxq hyq HU.out).mono ?_; rintro e wd ⟨rfl, hbd⟩; replace HBc := hide (HBc.out.trans (hbd.mono HBc.out.size)); replace HKa := hide (HKa.out.later hbd); replace HKb := hide (HKb.out.later hbd); replace HKm := hide (HKm.out.later hbd); clear hbd; have k0 := HKa.out.cell 0 _ rfl; have k1 := HKb.out.cell 0 _ rfl; have k2 := HKm.out.cell 0 _ rfl)))
      all_goals go_wp2_with fail
      all_goals go_ret
      all_goals exact ⟨rfl, HBc.out⟩
    · rw [if_neg h2]
      have hcs : (x < n ∧ n ≤ y) ∨ (y < n ∧ n ≤ x) := by omega
      have hx24 : x < 24 := by omega
      have hy24 : y < 24 := by omega
      clear h1 h2 hx hy hle
      go_enter Try.func49, Try.ntmps49
      go_upto_region 1 with fail
      refine wp_gen fun w1 hw1 => ?_
      have HBc : Hid (Below W.heap.size W w1) := hide (by rw [hw1]; exact Below.refl _ _)
      replace HKa : Hid (Blk w1 ba 26 [.slice A n c]) := hide (by rw [hw1]; exact HKa.out)
      replace HKb : Hid (Blk w1 bb 26 [.slice C q c2]) := hide (by rw [hw1]; exact HKb.out)
      replace HKm : Hid (Blk w1 bm 2 [.int .i64 n]) := hide (by rw [hw1]; exact HKm.out)
      clear hw1
      have k0 := HKa.out.cell 0 _ rfl
      have k1 := HKb.out.cell 0 _ rfl
      have k2 := HKm.out.cell 0 _ rfl
      rcases hcs with ⟨h1, h2⟩ | ⟨h1, h2⟩
      · have g1 : (x : Int) < n := by omega
        have g2 : ¬ (y : Int) < n := by omega
        have g3 : ¬ (n : Int) ≤ x := by omega
        have g4 : (n : Int) ≤ y := by omega
        clear h1 h2
        go_wp2_with fail
        go_ret
        exact ⟨rfl, HBc.out⟩
      · have g1 : ¬ (x : Int) < n := by omega
        have g2 : (y : Int) < n := by omega
        have g3 : (n : Int) ≤ x := by omega
        have g4 : ¬ (n : Int) ≤ y := by omega
        clear h1 h2
        go_wp2_with fail
        go_ret
        exact ⟨rfl, HBc.out⟩
end Go.Proofs.Ytljdfanebjhhmaa
