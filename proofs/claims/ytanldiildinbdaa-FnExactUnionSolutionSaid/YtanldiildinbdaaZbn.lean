import Derived.Test.YtanldiildinbdaaZz
import Derived.Test.YtanldiildinbdaaZy
import Derived.Test.YtanldiildinbdaaZan
import Derived.Test.YtanldiildinbdaaZaz
import Derived.Test.YtanldiildinbdaaZbe
import Derived.Test.YtanldiildinbdaaZaa
import Derived.Test.YtanldiildinbdaaZba
import Derived.Test.YtanldiildinbdaaZa
import Derived.Deep.Cut
import Derived.Test.YtanldiildinbdaaZbi
import Derived.Test.YtanldiildinbdaaZq
namespace Go.Proofs.Ytanldiildinbdaa
open Go Go.RowKit
set_option maxHeartbeats 1000000

set_option maxRecDepth 100000 in
theorem unC_any (A : Option Addr) (n c : Nat) (f : List (List Int)) (B : Option Addr) (m d : Nat) (s : List (List Int)) (C : Option Addr) (q c2 : Nat) (f2 : List (List Int)) (D : Option Addr) (q2 d2 : Nat) (s2 : List (List Int)) (b1 b2 b3 : Nat) (w : World) (hz : ZArg 1048576 w A n f B m s) (hp : PMap f s) (hz2 : ZArg 1048576 w C q f2 D q2 s2) (hp2 : PMap f2 s2)
    (hk1 : Blk w b1 2 [.int .i64 n]) (hk2 : Blk w b2 27 [.slice A n c, .slice B m d]) (hk3 : Blk w b3 27 [.slice C q c2, .slice D q2 d2]) (hle : n + q ≤ 12) :
    PairFn Try.prog 75 #[.pointer (some ⟨b1, 0, none⟩), .pointer (some ⟨b2, 0, none⟩), .pointer (some ⟨b3, 0, none⟩)] (n + q) (un1 f f2 n fun _ b => (b : Int)) (un1 s s2 n fun a _ => (a : Int)) w := by
  intro W x y hx hy hb
  have HZ := hide (hz.later hb)
  have HZ2 := hide (hz2.later hb)
  have HK1 := hide (hk1.later hb)
  have HK2 := hide (hk2.later hb)
  have HK3 := hide (hk3.later hb)
  have HP := hide hp
  have HP2 := hide hp2
  have hsm := hz.small hp
  have hsm2 := hz2.small hp2
  have HFL := hide hz.sz.fl
  have HFL2 := hide hz2.sz.fl
  clear hz hz2 hp hp2 hk1 hk2 hk3 hb
  show Calls Try.prog 75 #[.agg #[.int .i64 x, .int .i64 y], .pointer (some ⟨b1, 0, none⟩), .pointer (some ⟨b2, 0, none⟩), .pointer (some ⟨b3, 0, none⟩)] W _
  unfold un1
  by_cases h1 : x < n ∧ y < n
  · rw [if_pos h1, if_pos h1]
    have HV : Hid (x < n ∧ y < n) := hide h1
    obtain ⟨u, hu⟩ : ∃ u, ap f x y = u := ⟨_, rfl⟩
    obtain ⟨v, hv⟩ : ∃ v, ap s x y = v := ⟨_, rfl⟩
    rw [hu, hv]
    have HU := hide hu
    have HW := hide hv
    clear hu hv hx hy
    obtain ⟨hxn, hyn⟩ := h1
    have hxz : (x : Int) < n := by omega
    have hyz : (y : Int) < n := by omega
    clear hxn hyn
    go_enter Try.func75, Try.ntmps75
    go_upto_region 1 with fail
    refine wp_gen fun w1 hw1 => ?_
    have hb1' : Below W.heap.size W w1 := by rw [hw1]; exact ((Below.refl _ _).alloc (Nat.le_refl _) _).alloc (by simp) _
    have hq1 : Blk w1 W.heap.size 53 [.int .i64 x, .int .i64 y] := by rw [hw1]; exact (Blk.new _ _ _).alloc _
    have hr1 : Blk w1 (W.heap.size + 1) 53 [.int .i64 0, .int .i64 0] := by rw [hw1]; have h := Blk.new (W.alloc (Obj.cells #[Value.int IntKind.i64 x, Value.int IntKind.i64 y] 53)) 53 [.int .i64 0, .int .i64 0]; simpa using h
    have HF : Hid (FB W w1 (w1.heap.size - 1) [(W.heap.size + 1, 53, [.int .i64 0, .int .i64 0]), (W.heap.size, 53, [.int .i64 x, .int .i64 y]), (b1, 2, [.int .i64 n]), (b2, 27, [.slice A n c, .slice B m d]), (b3, 27, [.slice C q c2, .slice D q2 d2])]) := hide (FB.of hb1' hq1.lt (by
      have a1 := HK1.out.later hb1'
      have a2 := HK2.out.later hb1'
      have a3 := HK3.out.later hb1'
      simp only [List.forall_mem_cons]
      exact ⟨hr1, hq1, a1, a2, a3, fun q hq => absurd hq (List.not_mem_nil)⟩))
    clear hw1 hb1' hq1 hr1
    have k0 := (HF.out.blk (b := b2) (t := 27) (cs := [.slice A n c, .slice B m d]) (by simp)).cell 0 _ rfl
    have k1 := (HF.out.blk (b := b2) (t := 27) (cs := [.slice A n c, .slice B m d]) (by simp)).cell 1 _ rfl
    have k2 := (HF.out.blk (b := W.heap.size) (t := 53) (cs := [.int .i64 x, .int .i64 y]) (by simp)).cell 0 _ rfl
    have k3 := (HF.out.blk (b := W.heap.size) (t := 53) (cs := [.int .i64 x, .int .i64 y]) (by simp)).cell 1 _ rfl
    have k4 := (HF.out.blk (b := b1) (t := 2) (cs := [.int .i64 n]) (by simp)).cell 0 _ rfl
    have k5 := (HF.out.blk (b := b3) (t := 27) (cs := [.slice C q c2, .slice D q2 d2]) (by simp)).cell 0 _ rfl
    have k6 := (HF.out.blk (b := b3) (t := 27) (cs := [.slice C q c2, .slice D q2 d2]) (by simp)).cell 1 _ rfl
    by_cases hxy : x < y
    · go_wp2_with fail
      refine (lead_any _ _ _ f _ _ _ s x y _ (HZ.out.later HF.out.below) HP.out HV.out.1 HV.out.2).mono ?_
      rintro e wd ⟨rfl, hbd⟩
      replace HF := hide (HF.out.later hbd)
      clear hbd
      clear k0 k1 k2 k3 k4 k5 k6
      rw [HU.out, HW.out]
      have r0 := (HF.out.blk (b := W.heap.size + 1) (t := 53) (cs := [.int .i64 0, .int .i64 0]) (by simp)).cell 0 _ rfl
      have r1 := (HF.out.blk (b := W.heap.size + 1) (t := 53) (cs := [.int .i64 0, .int .i64 0]) (by simp)).cell 1 _ rfl
      have r2 := (HF.out.blk (b := W.heap.size + 1) (t := 53) (cs := [.int .i64 0, .int .i64 0]) (by simp)).frozen 0
      have r3 := (HF.out.blk (b := W.heap.size + 1) (t := 53) (cs := [.int .i64 0, .int .i64 0]) (by simp)).frozen 1
      have HRB := hide (HF.out.blk (b := W.heap.size + 1) (t := 53) (cs := [.int .i64 0, .int .i64 0]) (by simp))
      go_wp2_with fail
      refine bp_gen fun wf hwf => ?_
      have HRF : Blk wf (W.heap.size + 1) 53 [.int .i64 (u : Nat), .int .i64 (v : Nat)] := by rw [hwf]; exact (HRB.out.set 0 _).set 1 _
      have HBF : Below W.heap.size W wf := by rw [hwf]; exact (HF.out.below.setCell (p := ⟨W.heap.size + 1, 0, none⟩) (by show W.heap.size ≤ W.heap.size + 1; omega) _).setCell (p := ⟨W.heap.size + 1, 1, none⟩) (by show W.heap.size ≤ W.heap.size + 1; omega) _
      have q0 := HRF.cell 0 _ rfl
      have q1 := HRF.cell 1 _ rfl
      clear hwf r0 r1 r2 r3
      exact bodyPost_ret (v := .agg #[.int .i64 (u : Nat), .int .i64 (v : Nat)]) (by simp [results, Try.results75, go_sem, q0, q1]) rfl ⟨rfl, HBF⟩
    · go_wp2_with fail
      refine (lead_any _ _ _ f _ _ _ s x y _ (HZ.out.later HF.out.below) HP.out HV.out.1 HV.out.2).mono ?_
      rintro e wd ⟨rfl, hbd⟩
      replace HF := hide (HF.out.later hbd)
      clear hbd
      clear k0 k1 k2 k3 k4 k5 k6
      rw [HU.out, HW.out]
      have r0 := (HF.out.blk (b := W.heap.size + 1) (t := 53) (cs := [.int .i64 0, .int .i64 0]) (by simp)).cell 0 _ rfl
      have r1 := (HF.out.blk (b := W.heap.size + 1) (t := 53) (cs := [.int .i64 0, .int .i64 0]) (by simp)).cell 1 _ rfl
      have r2 := (HF.out.blk (b := W.heap.size + 1) (t := 53) (cs := [.int .i64 0, .int .i64 0]) (by simp)).frozen 0
      have r3 := (HF.out.blk (b := W.heap.size + 1) (t := 53) (cs := [.int .i64 0, .int .i64 0]) (by simp)).frozen 1
      have HRB := hide (HF.out.blk (b := W.heap.size + 1) (t := 53) (cs := [.int .i64 0, .int .i64 0]) (by simp))
      go_wp2_with fail
      refine bp_gen fun wf hwf => ?_
      have HRF : Blk wf (W.heap.size + 1) 53 [.int .i64 (u : Nat), .int .i64 (v : Nat)] := by rw [hwf]; exact (HRB.out.set 0 _).set 1 _
      have HBF : Below W.heap.size W wf := by rw [hwf]; exact (HF.out.below.setCell (p := ⟨W.heap.size + 1, 0, none⟩) (by show W.heap.size ≤ W.heap.size + 1; omega) _).setCell (p := ⟨W.heap.size + 1, 1, none⟩) (by show W.heap.size ≤ W.heap.size + 1; omega) _
      have q0 := HRF.cell 0 _ rfl
      have q1 := HRF.cell 1 _ rfl
      clear hwf r0 r1 r2 r3
      exact bodyPost_ret (v := .agg #[.int .i64 (u : Nat), .int .i64 (v : Nat)]) (by simp [results, Try.results75, go_sem, q0, q1]) rfl ⟨rfl, HBF⟩
  · by_cases h2 : n ≤ x ∧ n ≤ y
    · rw [if_neg h1, if_neg h1, if_pos h2, if_pos h2]
      obtain ⟨xb, hxb⟩ : ∃ a, x - n = a := ⟨_, rfl⟩
      obtain ⟨yb, hyb⟩ : ∃ a, y - n = a := ⟨_, rfl⟩
      rw [hxb, hyb]
      have hxq : xb < q := by omega
      have hyq : yb < q := by omega
      have e1 : (x : Int) - (n : Int) = (xb : Int) := by omega
      have e2 : (y : Int) - (n : Int) = (yb : Int) := by omega
      have hu2 := HP2.out.lt1 HFL2.out hxq hyq
      have hv2 := HP2.out.lt2 HFL2.out hxq hyq
      obtain ⟨u, hu⟩ : ∃ u, ap f2 xb yb = u := ⟨_, rfl⟩
      obtain ⟨v, hv⟩ : ∃ v, ap s2 xb yb = v := ⟨_, rfl⟩
      rw [hu] at hu2 ⊢
      rw [hv] at hv2 ⊢
      have HU := hide hu
      have HW := hide hv
      obtain ⟨u', hu'⟩ : ∃ a, u + n = a := ⟨_, rfl⟩
      obtain ⟨v', hv'⟩ : ∃ a, v + n = a := ⟨_, rfl⟩
      rw [hu', hv']
      have e3 : (u : Int) + (n : Int) = (u' : Int) := by omega
      have e4 : (v : Int) + (n : Int) = (v' : Int) := by omega
      have HQ := hide (And.intro hxq hyq)
      have g1 : ¬ (x : Int) < n := by omega
      have g2 : ¬ (y : Int) < n := by omega
      have g3 : (n : Int) ≤ x := by omega
      have g4 : (n : Int) ≤ y := by omega
      have hx12 : x < 12 := by omega
      have hy12 : y < 12 := by omega
      have hn12 : n ≤ 12 := by omega
      have hu12 : u' ≤ 12 := by omega
      have hv12 : v' ≤ 12 := by omega
      clear h1 h2 hx hy hxb hyb hxq hyq hu hv hu' hv' hu2 hv2 hsm hsm2 hle
      go_enter Try.func75, Try.ntmps75
      go_upto_region 1 with fail
      refine wp_gen fun w1 hw1 => ?_
      have hb1' : Below W.heap.size W w1 := by rw [hw1]; exact ((Below.refl _ _).alloc (Nat.le_refl _) _).alloc (by simp) _
      have hq1 : Blk w1 W.heap.size 53 [.int .i64 x, .int .i64 y] := by rw [hw1]; exact (Blk.new _ _ _).alloc _
      have hr1 : Blk w1 (W.heap.size + 1) 53 [.int .i64 0, .int .i64 0] := by rw [hw1]; have h := Blk.new (W.alloc (Obj.cells #[Value.int IntKind.i64 x, Value.int IntKind.i64 y] 53)) 53 [.int .i64 0, .int .i64 0]; simpa using h
      have HF : Hid (FB W w1 (w1.heap.size - 1) [(W.heap.size + 1, 53, [.int .i64 0, .int .i64 0]), (W.heap.size, 53, [.int .i64 x, .int .i64 y]), (b1, 2, [.int .i64 n]), (b2, 27, [.slice A n c, .slice B m d]), (b3, 27, [.slice C q c2, .slice D q2 d2])]) := hide (FB.of hb1' hq1.lt (by
        have a1 := HK1.out.later hb1'
        have a2 := HK2.out.later hb1'
        have a3 := HK3.out.later hb1'
        simp only [List.forall_mem_cons]
        exact ⟨hr1, hq1, a1, a2, a3, fun q hq => absurd hq (List.not_mem_nil)⟩))
      clear hw1 hb1' hq1 hr1
      have k0 := (HF.out.blk (b := b2) (t := 27) (cs := [.slice A n c, .slice B m d]) (by simp)).cell 0 _ rfl
      have k1 := (HF.out.blk (b := b2) (t := 27) (cs := [.slice A n c, .slice B m d]) (by simp)).cell 1 _ rfl
      have k2 := (HF.out.blk (b := W.heap.size) (t := 53) (cs := [.int .i64 x, .int .i64 y]) (by simp)).cell 0 _ rfl
      have k3 := (HF.out.blk (b := W.heap.size) (t := 53) (cs := [.int .i64 x, .int .i64 y]) (by simp)).cell 1 _ rfl
      have k4 := (HF.out.blk (b := b1) (t := 2) (cs := [.int .i64 n]) (by simp)).cell 0 _ rfl
      have k5 := (HF.out.blk (b := b3) (t := 27) (cs := [.slice C q c2, .slice D q2 d2]) (by simp)).cell 0 _ rfl
      have k6 := (HF.out.blk (b := b3) (t := 27) (cs := [.slice C q c2, .slice D q2 d2]) (by simp)).cell 1 _ rfl
      rcases (by omega : (x < y ∧ ¬ y < x) ∨ (¬ x < y ∧ y < x) ∨ (¬ x < y ∧ ¬ y < x)) with ⟨a1, a2⟩ | ⟨a1, a2⟩ | ⟨a1, a2⟩
      · go_wp2_with fail
        refine (lead_any _ _ _ f2 _ _ _ s2 xb yb _ (HZ2.out.later HF.out.below) HP2.out HQ.out.1 HQ.out.2).mono ?_
        rintro e wd ⟨rfl, hbd⟩
        replace HF := hide (HF.out.later hbd)
        clear hbd
        clear k0 k1 k2 k3 k4 k5 k6
        rw [HU.out, HW.out]
        have HF2 := hide (HF.out.new 53 [.int .i64 u, .int .i64 v])
        have k4 := (HF2.out.blk (b := b1) (t := 2) (cs := [.int .i64 n]) (by simp)).cell 0 _ rfl
        have r0 := (HF2.out.blk (b := W.heap.size + 1) (t := 53) (cs := [.int .i64 0, .int .i64 0]) (by simp)).cell 0 _ rfl
        have r1 := (HF2.out.blk (b := W.heap.size + 1) (t := 53) (cs := [.int .i64 0, .int .i64 0]) (by simp)).cell 1 _ rfl
        have r2 := (HF2.out.blk (b := W.heap.size + 1) (t := 53) (cs := [.int .i64 0, .int .i64 0]) (by simp)).frozen 0
        have r3 := (HF2.out.blk (b := W.heap.size + 1) (t := 53) (cs := [.int .i64 0, .int .i64 0]) (by simp)).frozen 1
        have HRB := hide (HF2.out.blk (b := W.heap.size + 1) (t := 53) (cs := [.int .i64 0, .int .i64 0]) (by simp))
        go_wp2_with fail
        refine bp_gen fun wf hwf => ?_
        have HRF : Blk wf (W.heap.size + 1) 53 [.int .i64 u', .int .i64 v'] := by rw [hwf]; exact (HRB.out.set 0 _).set 1 _
        have HBF : Below W.heap.size W wf := by rw [hwf]; exact (HF2.out.below.setCell (p := ⟨W.heap.size + 1, 0, none⟩) (by show W.heap.size ≤ W.heap.size + 1; omega) _).setCell (p := ⟨W.heap.size + 1, 1, none⟩) (by show W.heap.size ≤ W.heap.size + 1; omega) _
        have q0 := HRF.cell 0 _ rfl
        have q1 := HRF.cell 1 _ rfl
        clear hwf r0 r1 r2 r3 k4
        exact bodyPost_ret (v := .agg #[.int .i64 u', .int .i64 v']) (by simp [results, Try.results75, go_sem, q0, q1]) rfl ⟨rfl, HBF⟩
      · go_wp2_with fail
        refine (lead_any _ _ _ f2 _ _ _ s2 xb yb _ (HZ2.out.later HF.out.below) HP2.out HQ.out.1 HQ.out.2).mono ?_
        rintro e wd ⟨rfl, hbd⟩
        replace HF := hide (HF.out.later hbd)
        clear hbd
        clear k0 k1 k2 k3 k4 k5 k6
        rw [HU.out, HW.out]
        have HF2 := hide (HF.out.new 53 [.int .i64 u, .int .i64 v])
        have k4 := (HF2.out.blk (b := b1) (t := 2) (cs := [.int .i64 n]) (by simp)).cell 0 _ rfl
        have r0 := (HF2.out.blk (b := W.heap.size + 1) (t := 53) (cs := [.int .i64 0, .int .i64 0]) (by simp)).cell 0 _ rfl
        have r1 := (HF2.out.blk (b := W.heap.size + 1) (t := 53) (cs := [.int .i64 0, .int .i64 0]) (by simp)).cell 1 _ rfl
        have r2 := (HF2.out.blk (b := W.heap.size + 1) (t := 53) (cs := [.int .i64 0, .int .i64 0]) (by simp)).frozen 0
        have r3 := (HF2.out.blk (b := W.heap.size + 1) (t := 53) (cs := [.int .i64 0, .int .i64 0]) (by simp)).frozen 1
        have HRB := hide (HF2.out.blk (b := W.heap.size + 1) (t := 53) (cs := [.int .i64 0, .int .i64 0]) (by simp))
        go_wp2_with fail
        refine bp_gen fun wf hwf => ?_
        have HRF : Blk wf (W.heap.size + 1) 53 [.int .i64 u', .int .i64 v'] := by rw [hwf]; exact (HRB.out.set 0 _).set 1 _
        have HBF : Below W.heap.size W wf := by rw [hwf]; exact (HF2.out.below.setCell (p := ⟨W.heap.size + 1, 0, none⟩) (by show W.heap.size ≤ W.heap.size + 1; omega) _).setCell (p := ⟨W.heap.size + 1, 1, none⟩) (by show W.heap.size ≤ W.heap.size + 1; omega) _
        have q0 := HRF.cell 0 _ rfl
        have q1 := HRF.cell 1 _ rfl
        clear hwf r0 r1 r2 r3 k4
        exact bodyPost_ret (v := .agg #[.int .i64 u', .int .i64 v']) (by simp [results, Try.results75, go_sem, q0, q1]) rfl ⟨rfl, HBF⟩
      · go_wp2_with fail
        refine (lead_any _ _ _ f2 _ _ _ s2 xb yb _ (HZ2.out.later HF.out.below) HP2.out HQ.out.1 HQ.out.2).mono ?_
        rintro e wd ⟨rfl, hbd⟩
        replace HF := hide (HF.out.later hbd)
        clear hbd
        clear k0 k1 k2 k3 k4 k5 k6
        rw [HU.out, HW.out]
        have HF2 := hide (HF.out.new 53 [.int .i64 u, .int .i64 v])
        have k4 := (HF2.out.blk (b := b1) (t := 2) (cs := [.int .i64 n]) (by simp)).cell 0 _ rfl
        have r0 := (HF2.out.blk (b := W.heap.size + 1) (t := 53) (cs := [.int .i64 0, .int .i64 0]) (by simp)).cell 0 _ rfl
        have r1 := (HF2.out.blk (b := W.heap.size + 1) (t := 53) (cs := [.int .i64 0, .int .i64 0]) (by simp)).cell 1 _ rfl
        have r2 := (HF2.out.blk (b := W.heap.size + 1) (t := 53) (cs := [.int .i64 0, .int .i64 0]) (by simp)).frozen 0
        have r3 := (HF2.out.blk (b := W.heap.size + 1) (t := 53) (cs := [.int .i64 0, .int .i64 0]) (by simp)).frozen 1
        have HRB := hide (HF2.out.blk (b := W.heap.size + 1) (t := 53) (cs := [.int .i64 0, .int .i64 0]) (by simp))
        go_wp2_with fail
        refine bp_gen fun wf hwf => ?_
        have HRF : Blk wf (W.heap.size + 1) 53 [.int .i64 u', .int .i64 v'] := by rw [hwf]; exact (HRB.out.set 0 _).set 1 _
        have HBF : Below W.heap.size W wf := by rw [hwf]; exact (HF2.out.below.setCell (p := ⟨W.heap.size + 1, 0, none⟩) (by show W.heap.size ≤ W.heap.size + 1; omega) _).setCell (p := ⟨W.heap.size + 1, 1, none⟩) (by show W.heap.size ≤ W.heap.size + 1; omega) _
        have q0 := HRF.cell 0 _ rfl
        have q1 := HRF.cell 1 _ rfl
        clear hwf r0 r1 r2 r3 k4
        exact bodyPost_ret (v := .agg #[.int .i64 u', .int .i64 v']) (by simp [results, Try.results75, go_sem, q0, q1]) rfl ⟨rfl, HBF⟩
    · rw [if_neg h1, if_neg h1, if_neg h2, if_neg h2]
      clear hx hy
      have hcs : (x < n ∧ n ≤ y) ∨ (y < n ∧ n ≤ x) := by omega
      clear h1 h2
      go_enter Try.func75, Try.ntmps75
      go_upto_region 1 with fail
      refine wp_gen fun w1 hw1 => ?_
      have hb1' : Below W.heap.size W w1 := by rw [hw1]; exact ((Below.refl _ _).alloc (Nat.le_refl _) _).alloc (by simp) _
      have hq1 : Blk w1 W.heap.size 53 [.int .i64 x, .int .i64 y] := by rw [hw1]; exact (Blk.new _ _ _).alloc _
      have hr1 : Blk w1 (W.heap.size + 1) 53 [.int .i64 0, .int .i64 0] := by rw [hw1]; have h := Blk.new (W.alloc (Obj.cells #[Value.int IntKind.i64 x, Value.int IntKind.i64 y] 53)) 53 [.int .i64 0, .int .i64 0]; simpa using h
      have HF : Hid (FB W w1 (w1.heap.size - 1) [(W.heap.size + 1, 53, [.int .i64 0, .int .i64 0]), (W.heap.size, 53, [.int .i64 x, .int .i64 y]), (b1, 2, [.int .i64 n]), (b2, 27, [.slice A n c, .slice B m d]), (b3, 27, [.slice C q c2, .slice D q2 d2])]) := hide (FB.of hb1' hq1.lt (by
        have a1 := HK1.out.later hb1'
        have a2 := HK2.out.later hb1'
        have a3 := HK3.out.later hb1'
        simp only [List.forall_mem_cons]
        exact ⟨hr1, hq1, a1, a2, a3, fun q hq => absurd hq (List.not_mem_nil)⟩))
      clear hw1 hb1' hq1 hr1
      have k0 := (HF.out.blk (b := b2) (t := 27) (cs := [.slice A n c, .slice B m d]) (by simp)).cell 0 _ rfl
      have k1 := (HF.out.blk (b := b2) (t := 27) (cs := [.slice A n c, .slice B m d]) (by simp)).cell 1 _ rfl
      have k2 := (HF.out.blk (b := W.heap.size) (t := 53) (cs := [.int .i64 x, .int .i64 y]) (by simp)).cell 0 _ rfl
      have k3 := (HF.out.blk (b := W.heap.size) (t := 53) (cs := [.int .i64 x, .int .i64 y]) (by simp)).cell 1 _ rfl
      have k4 := (HF.out.blk (b := b1) (t := 2) (cs := [.int .i64 n]) (by simp)).cell 0 _ rfl
      have k5 := (HF.out.blk (b := b3) (t := 27) (cs := [.slice C q c2, .slice D q2 d2]) (by simp)).cell 0 _ rfl
      have k6 := (HF.out.blk (b := b3) (t := 27) (cs := [.slice C q c2, .slice D q2 d2]) (by simp)).cell 1 _ rfl
      rcases hcs with ⟨h1, h2⟩ | ⟨h1, h2⟩
      · have g1 : x < y := by omega
        have g2 : ¬ (y : Int) < n := by omega
        have g3 : ¬ (n : Int) ≤ x := by omega
        have g4 : ¬ y < x := by omega
        clear h1 h2
        go_wp2_with fail
        refine (swap_any x y _).mono ?_
        rintro e wd ⟨rfl, hbd⟩
        replace HF := hide (HF.out.later hbd)
        clear hbd
        clear k0 k1 k2 k3 k4 k5 k6
        have r0 := (HF.out.blk (b := W.heap.size + 1) (t := 53) (cs := [.int .i64 0, .int .i64 0]) (by simp)).cell 0 _ rfl
        have r1 := (HF.out.blk (b := W.heap.size + 1) (t := 53) (cs := [.int .i64 0, .int .i64 0]) (by simp)).cell 1 _ rfl
        have r2 := (HF.out.blk (b := W.heap.size + 1) (t := 53) (cs := [.int .i64 0, .int .i64 0]) (by simp)).frozen 0
        have r3 := (HF.out.blk (b := W.heap.size + 1) (t := 53) (cs := [.int .i64 0, .int .i64 0]) (by simp)).frozen 1
        have HRB := hide (HF.out.blk (b := W.heap.size + 1) (t := 53) (cs := [.int .i64 0, .int .i64 0]) (by simp))
        go_wp2_with fail
        refine bp_gen fun wf hwf => ?_
        have HRF : Blk wf (W.heap.size + 1) 53 [.int .i64 (y : Nat), .int .i64 (x : Nat)] := by rw [hwf]; exact (HRB.out.set 0 _).set 1 _
        have HBF : Below W.heap.size W wf := by rw [hwf]; exact (HF.out.below.setCell (p := ⟨W.heap.size + 1, 0, none⟩) (by show W.heap.size ≤ W.heap.size + 1; omega) _).setCell (p := ⟨W.heap.size + 1, 1, none⟩) (by show W.heap.size ≤ W.heap.size + 1; omega) _
        have q0 := HRF.cell 0 _ rfl
        have q1 := HRF.cell 1 _ rfl
        clear hwf r0 r1 r2 r3
        exact bodyPost_ret (v := .agg #[.int .i64 (y : Nat), .int .i64 (x : Nat)]) (by simp [results, Try.results75, go_sem, q0, q1]) rfl ⟨rfl, HBF⟩
      · have g1 : ¬ x < y := by omega
        have g2 : ¬ (x : Int) < n := by omega
        have g3 : ¬ (n : Int) ≤ y := by omega
        have g4 : y < x := by omega
        clear h1 h2
        go_wp2_with fail
        refine (swap_any x y _).mono ?_
        rintro e wd ⟨rfl, hbd⟩
        replace HF := hide (HF.out.later hbd)
        clear hbd
        clear k0 k1 k2 k3 k4 k5 k6
        have r0 := (HF.out.blk (b := W.heap.size + 1) (t := 53) (cs := [.int .i64 0, .int .i64 0]) (by simp)).cell 0 _ rfl
        have r1 := (HF.out.blk (b := W.heap.size + 1) (t := 53) (cs := [.int .i64 0, .int .i64 0]) (by simp)).cell 1 _ rfl
        have r2 := (HF.out.blk (b := W.heap.size + 1) (t := 53) (cs := [.int .i64 0, .int .i64 0]) (by simp)).frozen 0
        have r3 := (HF.out.blk (b := W.heap.size + 1) (t := 53) (cs := [.int .i64 0, .int .i64 0]) (by simp)).frozen 1
        have HRB := hide (HF.out.blk (b := W.heap.size + 1) (t := 53) (cs := [.int .i64 0, .int .i64 0]) (by simp))
        go_wp2_with fail
        refine bp_gen fun wf hwf => ?_
        have HRF : Blk wf (W.heap.size + 1) 53 [.int .i64 (y : Nat), .int .i64 (x : Nat)] := by rw [hwf]; exact (HRB.out.set 0 _).set 1 _
        have HBF : Below W.heap.size W wf := by rw [hwf]; exact (HF.out.below.setCell (p := ⟨W.heap.size + 1, 0, none⟩) (by show W.heap.size ≤ W.heap.size + 1; omega) _).setCell (p := ⟨W.heap.size + 1, 1, none⟩) (by show W.heap.size ≤ W.heap.size + 1; omega) _
        have q0 := HRF.cell 0 _ rfl
        have q1 := HRF.cell 1 _ rfl
        clear hwf r0 r1 r2 r3
        exact bodyPost_ret (v := .agg #[.int .i64 (y : Nat), .int .i64 (x : Nat)]) (by simp [results, Try.results75, go_sem, q0, q1]) rfl ⟨rfl, HBF⟩
end Go.Proofs.Ytanldiildinbdaa
namespace Go.Proofs.Ytanldiildinbdaa
open Go Go.RowKit
set_option maxHeartbeats 1000000

set_option maxRecDepth 100000 in
theorem unS_any (A : Option Addr) (n c : Nat) (f : List (List Int)) (B : Option Addr) (m d : Nat) (s : List (List Int)) (C : Option Addr) (q c2 : Nat) (f2 : List (List Int)) (D : Option Addr) (q2 d2 : Nat) (s2 : List (List Int)) (zf zg : List (List Int)) (code : Int) (kz kw : Nat) (w : World) (hz : ZArg 1048576 w A n f B m s) (hz2 : ZArg 1048576 w C q f2 D q2 s2) (hr : UniRes f s f2 s2 zf zg code) (hk : ZSz 1048576 zf kz zg kw) :
    Calls Try.prog 41 #[.agg #[.slice A n c, .slice B m d], .agg #[.slice C q c2, .slice D q2 d2]] w (WPost 31 2 kz kw zf zg code w) := by
  have hnb := hz.sz.nb
  have hnb2 := hz2.sz.nb
  have HZ := hide hz
  have HZ2 := hide hz2
  have HFL := hide hz.sz.fl
  have HFL2 := hide hz2.sz.fl
  have hpp : (PMap f s ∧ PMap f2 s2) ∨ (PMap f s ∧ ¬ PMap f2 s2) ∨ ¬ PMap f s := by
    by_cases h1 : PMap f s
    · by_cases h2 : PMap f2 s2
      · exact .inl ⟨h1, h2⟩
      · exact .inr (.inl ⟨h1, h2⟩)
    · exact .inr (.inr h1)
  rcases hpp with ⟨hp1, hp2⟩ | ⟨hp1, hp2⟩ | hp1
  · rcases hr with ⟨_, hlim, rfl, rfl, rfl⟩ | ⟨_, hlim, rfl, rfl, rfl⟩ | ⟨h, _⟩
    · have HP := hide hp1
      have HP2 := hide hp2
      have h12 := hz.small hp1
      have h12b := hz2.small hp2
      obtain ⟨sz, hsz⟩ : ∃ a, n + q = a := ⟨_, rfl⟩
      have hsq : sz ≤ 144 := by omega
      have hsi : (n : Int) + (q : Int) = (sz : Int) := by rw [← hsz]; simp
      have hwk : IntKind.i64.wrap (sz : Int) = (sz : Int) := IntWalk.i64_in _ (by omega)
      have HSZ := hide hsz
      have hle : sz ≤ 12 := by rw [← hsz, ← hz.sz.fl, ← hz2.sz.fl]; exact hlim
      have h1s : 1 ≤ sz := by omega
      have hng : ¬ (12 : Int) < (sz : Int) := by omega
      obtain rfl : kz = sz := by rw [← hk.fl, grid_length, HFL.out, HFL2.out, hsz]
      obtain rfl : kw = kz := by rw [← hk.sl, grid_length, HFL.out, HFL2.out, hsz]
      clear hk hsz hlim hp1 hp2
      clear hz hz2
      go_enter Try.func41, Try.ntmps41
      go_wp2_with fail
      refine calls_gen fun w0 hw0 => ?_
      have HF : Hid (FB w w0 (w0.heap.size - 1) [(w.heap.size + 1 + 1, 27, [.slice none 0 0, .slice none 0 0]), (w.heap.size + 1, 27, [.slice C q c2, .slice D q2 d2]), (w.heap.size, 27, [.slice A n c, .slice B m d])]) := hide (by
        have hb0 : Below w.heap.size w w0 := by rw [hw0]; exact (((Below.refl _ _).alloc (Nat.le_refl _) _).alloc (by simp) _).alloc (by simp; omega) _
        have a1 : Blk w0 w.heap.size 27 [.slice A n c, .slice B m d] := by rw [hw0]; exact ((Blk.new _ _ _).alloc _).alloc _
        have a2 : Blk w0 (w.heap.size + 1) 27 [.slice C q c2, .slice D q2 d2] := by rw [hw0]; have h := (Blk.new (w.alloc (Obj.cells #[Value.slice A n c, Value.slice B m d] 27)) 27 [.slice C q c2, .slice D q2 d2]).alloc (Obj.cells #[Value.slice none 0 0, Value.slice none 0 0] 27); simpa using h
        have a3 : Blk w0 (w.heap.size + 1 + 1) 27 [.slice none 0 0, .slice none 0 0] := by rw [hw0]; have h := Blk.new ((w.alloc (Obj.cells #[Value.slice A n c, Value.slice B m d] 27)).alloc (Obj.cells #[Value.slice C q c2, Value.slice D q2 d2] 27)) 27 [.slice none 0 0, .slice none 0 0]; simpa using h
        refine FB.of hb0 a1.lt ?_
        simp only [List.forall_mem_cons]
        exact ⟨a3, a2, a1, fun q hq => absurd hq (List.not_mem_nil)⟩)
      clear hw0
      refine (mapS_any _ _ _ f _ _ _ s true _ (HZ.out.later HF.out.below) (by simp [HP.out])).mono ?_
      rintro e wd ⟨rfl, hbd⟩
      replace HF := hide (HF.out.later hbd)
      clear hbd
      have k0 := (HF.out.blk (b := w.heap.size) (t := 27) (cs := [.slice A n c, .slice B m d]) (by simp)).cell 0 _ rfl
      have k1 := (HF.out.blk (b := w.heap.size) (t := 27) (cs := [.slice A n c, .slice B m d]) (by simp)).cell 1 _ rfl
      have k2 := (HF.out.blk (b := w.heap.size + 1) (t := 27) (cs := [.slice C q c2, .slice D q2 d2]) (by simp)).cell 0 _ rfl
      have k3 := (HF.out.blk (b := w.heap.size + 1) (t := 27) (cs := [.slice C q c2, .slice D q2 d2]) (by simp)).cell 1 _ rfl
      go_wp2_with fail
      clear k0 k1 k2 k3
      refine (mapS_any _ _ _ f2 _ _ _ s2 true _ (HZ2.out.later HF.out.below) (by simp [HP2.out])).mono ?_
      rintro e wd ⟨rfl, hbd⟩
      replace HF := hide (HF.out.later hbd)
      clear hbd
      have k0 := (HF.out.blk (b := w.heap.size) (t := 27) (cs := [.slice A n c, .slice B m d]) (by simp)).cell 0 _ rfl
      have k1 := (HF.out.blk (b := w.heap.size) (t := 27) (cs := [.slice A n c, .slice B m d]) (by simp)).cell 1 _ rfl
      have k2 := (HF.out.blk (b := w.heap.size + 1) (t := 27) (cs := [.slice C q c2, .slice D q2 d2]) (by simp)).cell 0 _ rfl
      have k3 := (HF.out.blk (b := w.heap.size + 1) (t := 27) (cs := [.slice C q c2, .slice D q2 d2]) (by simp)).cell 1 _ rfl
      go_wp2_with fail
      refine (uniS_any _ _ _ f _ _ _ s _ _ _ f2 _ _ _ s2 kw _ (HZ.out.later HF.out.below) HP.out (HZ2.out.later HF.out.below) HP2.out HSZ.out hle).mono ?_
      rintro e wd2 ⟨A3, c3, B3, d3, rfl, hbd, ho⟩
      have hRl := (HF.out.blk (b := w.heap.size + 1 + 1) (t := 27) (cs := [.slice none 0 0, .slice none 0 0]) (by simp)).lt
      have hws := HF.out.below.size
      replace HF := hide (HF.out.later hbd)
      have HO := hide ho
      clear hbd ho k0 k1 k2 k3
      have r0 := (HF.out.blk (b := w.heap.size + 1 + 1) (t := 27) (cs := [.slice none 0 0, .slice none 0 0]) (by simp)).cell 0 _ rfl
      have r1 := (HF.out.blk (b := w.heap.size + 1 + 1) (t := 27) (cs := [.slice none 0 0, .slice none 0 0]) (by simp)).cell 1 _ rfl
      have r2 := (HF.out.blk (b := w.heap.size + 1 + 1) (t := 27) (cs := [.slice none 0 0, .slice none 0 0]) (by simp)).frozen 0
      have r3 := (HF.out.blk (b := w.heap.size + 1 + 1) (t := 27) (cs := [.slice none 0 0, .slice none 0 0]) (by simp)).frozen 1
      go_wp2_with fail
      refine bp_gen fun wf hwf => ?_
      obtain ⟨q0, q1, hbf, hof⟩ := wend hwf (HF.out.blk (b := w.heap.size + 1 + 1) (t := 27) (cs := [.slice none 0 0, .slice none 0 0]) (by simp)) (by omega) hRl HF.out.below hws HO.out
      clear hwf r0 r1 r2 r3
      rw [HFL.out, HFL2.out, HSZ.out]
      exact bodyPost_ret (v := .tuple #[.agg #[.slice A3 kw c3, .slice B3 kw d3], .int .i64 0]) (by simp [results, Try.results41, go_sem, q0, q1]) rfl ⟨_, _, _, _, rfl, hbf, hof⟩
    · have HP := hide hp1
      have HP2 := hide hp2
      have h12 := hz.small hp1
      have h12b := hz2.small hp2
      obtain ⟨sz, hsz⟩ : ∃ a, n + q = a := ⟨_, rfl⟩
      have hsq : sz ≤ 144 := by omega
      have hsi : (n : Int) + (q : Int) = (sz : Int) := by rw [← hsz]; simp
      have hwk : IntKind.i64.wrap (sz : Int) = (sz : Int) := IntWalk.i64_in _ (by omega)
      have HSZ := hide hsz
      have hgt : (12 : Int) < (sz : Int) := by rw [← hz.sz.fl, ← hz2.sz.fl] at hsz; omega
      obtain rfl : kz = 0 := by simpa using hk.fl.symm
      obtain rfl : kw = 0 := by simpa using hk.sl.symm
      clear hk
      clear hsz hlim hp1 hp2
      clear hz hz2
      go_enter Try.func41, Try.ntmps41
      go_wp2_with fail
      refine calls_gen fun w0 hw0 => ?_
      have HF : Hid (FB w w0 (w0.heap.size - 1) [(w.heap.size + 1 + 1, 27, [.slice none 0 0, .slice none 0 0]), (w.heap.size + 1, 27, [.slice C q c2, .slice D q2 d2]), (w.heap.size, 27, [.slice A n c, .slice B m d])]) := hide (by
        have hb0 : Below w.heap.size w w0 := by rw [hw0]; exact (((Below.refl _ _).alloc (Nat.le_refl _) _).alloc (by simp) _).alloc (by simp; omega) _
        have a1 : Blk w0 w.heap.size 27 [.slice A n c, .slice B m d] := by rw [hw0]; exact ((Blk.new _ _ _).alloc _).alloc _
        have a2 : Blk w0 (w.heap.size + 1) 27 [.slice C q c2, .slice D q2 d2] := by rw [hw0]; have h := (Blk.new (w.alloc (Obj.cells #[Value.slice A n c, Value.slice B m d] 27)) 27 [.slice C q c2, .slice D q2 d2]).alloc (Obj.cells #[Value.slice none 0 0, Value.slice none 0 0] 27); simpa using h
        have a3 : Blk w0 (w.heap.size + 1 + 1) 27 [.slice none 0 0, .slice none 0 0] := by rw [hw0]; have h := Blk.new ((w.alloc (Obj.cells #[Value.slice A n c, Value.slice B m d] 27)).alloc (Obj.cells #[Value.slice C q c2, Value.slice D q2 d2] 27)) 27 [.slice none 0 0, .slice none 0 0]; simpa using h
        refine FB.of hb0 a1.lt ?_
        simp only [List.forall_mem_cons]
        exact ⟨a3, a2, a1, fun q hq => absurd hq (List.not_mem_nil)⟩)
      clear hw0
      refine (mapS_any _ _ _ f _ _ _ s true _ (HZ.out.later HF.out.below) (by simp [HP.out])).mono ?_
      rintro e wd ⟨rfl, hbd⟩
      replace HF := hide (HF.out.later hbd)
      clear hbd
      have k0 := (HF.out.blk (b := w.heap.size) (t := 27) (cs := [.slice A n c, .slice B m d]) (by simp)).cell 0 _ rfl
      have k1 := (HF.out.blk (b := w.heap.size) (t := 27) (cs := [.slice A n c, .slice B m d]) (by simp)).cell 1 _ rfl
      have k2 := (HF.out.blk (b := w.heap.size + 1) (t := 27) (cs := [.slice C q c2, .slice D q2 d2]) (by simp)).cell 0 _ rfl
      have k3 := (HF.out.blk (b := w.heap.size + 1) (t := 27) (cs := [.slice C q c2, .slice D q2 d2]) (by simp)).cell 1 _ rfl
      go_wp2_with fail
      clear k0 k1 k2 k3
      refine (mapS_any _ _ _ f2 _ _ _ s2 true _ (HZ2.out.later HF.out.below) (by simp [HP2.out])).mono ?_
      rintro e wd ⟨rfl, hbd⟩
      replace HF := hide (HF.out.later hbd)
      clear hbd
      have k0 := (HF.out.blk (b := w.heap.size) (t := 27) (cs := [.slice A n c, .slice B m d]) (by simp)).cell 0 _ rfl
      have k1 := (HF.out.blk (b := w.heap.size) (t := 27) (cs := [.slice A n c, .slice B m d]) (by simp)).cell 1 _ rfl
      have k2 := (HF.out.blk (b := w.heap.size + 1) (t := 27) (cs := [.slice C q c2, .slice D q2 d2]) (by simp)).cell 0 _ rfl
      have k3 := (HF.out.blk (b := w.heap.size + 1) (t := 27) (cs := [.slice C q c2, .slice D q2 d2]) (by simp)).cell 1 _ rfl
      have HR := hide (HF.out.blk (b := w.heap.size + 1 + 1) (t := 27) (cs := [.slice none 0 0, .slice none 0 0]) (by simp))
      have r0 := HR.out.cell 0 _ rfl
      have r1 := HR.out.cell 1 _ rfl
      have r2 := HR.out.frozen 0
      have r3 := HR.out.frozen 1
      go_wp2_with fail
      refine bp_gen fun wf hwf => ?_
      obtain ⟨q0, q1, hbf, hof⟩ := wend (ts := 31) (t := 2) (w2 := wd) hwf HR.out (by omega) HR.out.lt HF.out.below HF.out.below.size ObjW.empty
      clear hwf r0 r1 r2 r3
      exact bodyPost_ret (v := .tuple #[.agg #[.slice none 0 0, .slice none 0 0], .int .i64 3]) (by simp [results, Try.results41, go_sem, q0, q1]) rfl ⟨_, _, _, _, rfl, hbf, hof⟩
    · exact absurd ⟨hp1, hp2⟩ h
  · rcases hr with ⟨h, _⟩ | ⟨h, _⟩ | ⟨_, rfl, rfl, rfl⟩
    · exact absurd h.2 hp2
    · exact absurd h.2 hp2
    · have HP := hide hp1
      have HP2 := hide hp2
      clear hp1 hp2
      obtain rfl : kz = 0 := by simpa using hk.fl.symm
      obtain rfl : kw = 0 := by simpa using hk.sl.symm
      clear hk
      clear hz hz2
      go_enter Try.func41, Try.ntmps41
      go_wp2_with fail
      refine calls_gen fun w0 hw0 => ?_
      have HF : Hid (FB w w0 (w0.heap.size - 1) [(w.heap.size + 1 + 1, 27, [.slice none 0 0, .slice none 0 0]), (w.heap.size + 1, 27, [.slice C q c2, .slice D q2 d2]), (w.heap.size, 27, [.slice A n c, .slice B m d])]) := hide (by
        have hb0 : Below w.heap.size w w0 := by rw [hw0]; exact (((Below.refl _ _).alloc (Nat.le_refl _) _).alloc (by simp) _).alloc (by simp; omega) _
        have a1 : Blk w0 w.heap.size 27 [.slice A n c, .slice B m d] := by rw [hw0]; exact ((Blk.new _ _ _).alloc _).alloc _
        have a2 : Blk w0 (w.heap.size + 1) 27 [.slice C q c2, .slice D q2 d2] := by rw [hw0]; have h := (Blk.new (w.alloc (Obj.cells #[Value.slice A n c, Value.slice B m d] 27)) 27 [.slice C q c2, .slice D q2 d2]).alloc (Obj.cells #[Value.slice none 0 0, Value.slice none 0 0] 27); simpa using h
        have a3 : Blk w0 (w.heap.size + 1 + 1) 27 [.slice none 0 0, .slice none 0 0] := by rw [hw0]; have h := Blk.new ((w.alloc (Obj.cells #[Value.slice A n c, Value.slice B m d] 27)).alloc (Obj.cells #[Value.slice C q c2, Value.slice D q2 d2] 27)) 27 [.slice none 0 0, .slice none 0 0]; simpa using h
        refine FB.of hb0 a1.lt ?_
        simp only [List.forall_mem_cons]
        exact ⟨a3, a2, a1, fun q hq => absurd hq (List.not_mem_nil)⟩)
      clear hw0
      refine (mapS_any _ _ _ f _ _ _ s true _ (HZ.out.later HF.out.below) (by simp [HP.out])).mono ?_
      rintro e wd ⟨rfl, hbd⟩
      replace HF := hide (HF.out.later hbd)
      clear hbd
      have k0 := (HF.out.blk (b := w.heap.size) (t := 27) (cs := [.slice A n c, .slice B m d]) (by simp)).cell 0 _ rfl
      have k1 := (HF.out.blk (b := w.heap.size) (t := 27) (cs := [.slice A n c, .slice B m d]) (by simp)).cell 1 _ rfl
      have k2 := (HF.out.blk (b := w.heap.size + 1) (t := 27) (cs := [.slice C q c2, .slice D q2 d2]) (by simp)).cell 0 _ rfl
      have k3 := (HF.out.blk (b := w.heap.size + 1) (t := 27) (cs := [.slice C q c2, .slice D q2 d2]) (by simp)).cell 1 _ rfl
      go_wp2_with fail
      clear k0 k1 k2 k3
      refine (mapS_any _ _ _ f2 _ _ _ s2 false _ (HZ2.out.later HF.out.below) (by simp [HP2.out])).mono ?_
      rintro e wd ⟨rfl, hbd⟩
      replace HF := hide (HF.out.later hbd)
      clear hbd
      have HR := hide (HF.out.blk (b := w.heap.size + 1 + 1) (t := 27) (cs := [.slice none 0 0, .slice none 0 0]) (by simp))
      have r0 := HR.out.cell 0 _ rfl
      have r1 := HR.out.cell 1 _ rfl
      have r2 := HR.out.frozen 0
      have r3 := HR.out.frozen 1
      go_wp2_with fail
      refine bp_gen fun wf hwf => ?_
      obtain ⟨q0, q1, hbf, hof⟩ := wend (ts := 31) (t := 2) (w2 := wd) hwf HR.out (by omega) HR.out.lt HF.out.below HF.out.below.size ObjW.empty
      clear hwf r0 r1 r2 r3
      exact bodyPost_ret (v := .tuple #[.agg #[.slice none 0 0, .slice none 0 0], .int .i64 1]) (by simp [results, Try.results41, go_sem, q0, q1]) rfl ⟨_, _, _, _, rfl, hbf, hof⟩
  · rcases hr with ⟨h, _⟩ | ⟨h, _⟩ | ⟨_, rfl, rfl, rfl⟩
    · exact absurd h.1 hp1
    · exact absurd h.1 hp1
    · have HP := hide hp1
      clear hp1
      obtain rfl : kz = 0 := by simpa using hk.fl.symm
      obtain rfl : kw = 0 := by simpa using hk.sl.symm
      clear hk
      clear hz hz2
      go_enter Try.func41, Try.ntmps41
      go_wp2_with fail
      refine calls_gen fun w0 hw0 => ?_
      have HF : Hid (FB w w0 (w0.heap.size - 1) [(w.heap.size + 1 + 1, 27, [.slice none 0 0, .slice none 0 0]), (w.heap.size + 1, 27, [.slice C q c2, .slice D q2 d2]), (w.heap.size, 27, [.slice A n c, .slice B m d])]) := hide (by
        have hb0 : Below w.heap.size w w0 := by rw [hw0]; exact (((Below.refl _ _).alloc (Nat.le_refl _) _).alloc (by simp) _).alloc (by simp; omega) _
        have a1 : Blk w0 w.heap.size 27 [.slice A n c, .slice B m d] := by rw [hw0]; exact ((Blk.new _ _ _).alloc _).alloc _
        have a2 : Blk w0 (w.heap.size + 1) 27 [.slice C q c2, .slice D q2 d2] := by rw [hw0]; have h := (Blk.new (w.alloc (Obj.cells #[Value.slice A n c, Value.slice B m d] 27)) 27 [.slice C q c2, .slice D q2 d2]).alloc (Obj.cells #[Value.slice none 0 0, Value.slice none 0 0] 27); simpa using h
        have a3 : Blk w0 (w.heap.size + 1 + 1) 27 [.slice none 0 0, .slice none 0 0] := by rw [hw0]; have h := Blk.new ((w.alloc (Obj.cells #[Value.slice A n c, Value.slice B m d] 27)).alloc (Obj.cells #[Value.slice C q c2, Value.slice D q2 d2] 27)) 27 [.slice none 0 0, .slice none 0 0]; simpa using h
        refine FB.of hb0 a1.lt ?_
        simp only [List.forall_mem_cons]
        exact ⟨a3, a2, a1, fun q hq => absurd hq (List.not_mem_nil)⟩)
      clear hw0
      refine (mapS_any _ _ _ f _ _ _ s false _ (HZ.out.later HF.out.below) (by simp [HP.out])).mono ?_
      rintro e wd ⟨rfl, hbd⟩
      replace HF := hide (HF.out.later hbd)
      clear hbd
      have HR := hide (HF.out.blk (b := w.heap.size + 1 + 1) (t := 27) (cs := [.slice none 0 0, .slice none 0 0]) (by simp))
      have r0 := HR.out.cell 0 _ rfl
      have r1 := HR.out.cell 1 _ rfl
      have r2 := HR.out.frozen 0
      have r3 := HR.out.frozen 1
      go_wp2_with fail
      refine bp_gen fun wf hwf => ?_
      obtain ⟨q0, q1, hbf, hof⟩ := wend (ts := 31) (t := 2) (w2 := wd) hwf HR.out (by omega) HR.out.lt HF.out.below HF.out.below.size ObjW.empty
      clear hwf r0 r1 r2 r3
      exact bodyPost_ret (v := .tuple #[.agg #[.slice none 0 0, .slice none 0 0], .int .i64 1]) (by simp [results, Try.results41, go_sem, q0, q1]) rfl ⟨_, _, _, _, rfl, hbf, hof⟩
end Go.Proofs.Ytanldiildinbdaa
