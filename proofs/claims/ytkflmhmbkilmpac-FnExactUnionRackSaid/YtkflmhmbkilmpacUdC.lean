import Derived.Test.YtkflmhmbkilmpacFtF
import Derived.Test.YtkflmhmbkilmpacRkA
import Derived.Test.YtkflmhmbkilmpacTblI
import Derived.Test.YtkflmhmbkilmpacRowsI
import Derived.Test.YtkflmhmbkilmpacPairsI
import Derived.Test.YtkflmhmbkilmpacReads
import Derived.Test.YtkflmhmbkilmpacKLe
import Derived.WalkSpells
import Derived.Test.YtkflmhmbkilmpacProg
import Derived.Test.YtkflmhmbkilmpacRkF
import Derived.Test.YtkflmhmbkilmpacHeld
import Derived.Test.YtkflmhmbkilmpacBlk
import Derived.Test.YtkflmhmbkilmpacObj
import Derived.Test.YtkflmhmbkilmpacMem
import Derived.Test.YtkflmhmbkilmpacPig
import Derived.Test.YtkflmhmbkilmpacLst
import Derived.Test.YtkflmhmbkilmpacFmF
import Derived.Test.YtkflmhmbkilmpacRfI
import Derived.Deep.Cut
import Derived.Test.YtkflmhmbkilmpacLst1
import Derived.Deep.AppendLies
namespace Go.Proofs.Ytkflmhmbkilmpac
open Go Go.RowKit
set_option maxHeartbeats 2000000

set_option maxRecDepth 100000 in
theorem firstTriple_any (F : FuncId) (lb : Array Value) (n : Nat) (q : Nat → Nat → Nat → Bool) (T : Nat) (w : World) (eg : ∀ args w, (callFunc F args).run Try.prog w = .ok (.enter F args) w) (h1 : 1 ≤ n) (h12 : n ≤ 12) (hp : BoolFn3 Try.prog F lb n q w) (hT : FirstQ q n T) :
    Calls Try.prog 94 #[.int .i64 n, .func (.func F) #[] lb] w fun e w' => (T = n * n * n ∧ e = .returned (.slice none 0 0) ∧ Below w.heap.size w w') ∨ (T < n * n * n ∧ ∃ g, e = .returned (.slice (some ⟨g, 0, none⟩) 3 3) ∧ Below w.heap.size w w' ∧ w.heap.size ≤ g ∧ OwnB 2 w' g (lst3 (trip n T))) := by
  have HPF := hide hp
  have HT := hide hT
  obtain ⟨N, hN⟩ : ∃ N, n * n = N := ⟨_, rfl⟩
  have hN144 : N ≤ 144 := by rw [← hN]; exact sq_le n h12
  have HNN := hide hN
  clear hT hN hp
  go_enter Try.func94, Try.ntmps94
  go_wp2_with fail
  refine (pairsOf_any n N _ h1 h12 HNN.out).mono ?_
  rintro e w3 ⟨g, rfl, hb3, hg3, hpa⟩
  have HB3 := hide hb3
  have HPA3 := hide hpa
  clear hb3 hpa
  go_wp2_with fail
  go_loopw [11] (fun i wr => ∃ k : Nat, k ≤ N ∧ i = .int .i64 k ∧ Below w.heap.size w wr ∧ PairsAt wr g n ∧ ∀ i, i < k * n → qAt q n i = false) (fun i _ => N - (intOf i).toNat)
  case atStart => exact ⟨0, Nat.zero_le _, rfl, HB3.out, HPA3.out, fun i hi => absurd hi (by omega)⟩
  case round =>
    obtain ⟨k, hk, rfl, hbe, hpa, hall⟩ := hrel
    have HB := hide hbe
    have HPA := hide hpa
    have HALL := hide hall
    clear hbe hpa hall
    by_cases hlt : k < N
    · have hkz : (k : Int) < N := by omega
      obtain ⟨p0, p1⟩ := HPA.out.2 k (by rw [HNN.out]; exact hlt)
      have hxn : k / n < n := div_lt_sq (by rw [HNN.out]; exact hlt)
      have hyn : k % n < n := mod_lt_sq (by rw [HNN.out]; exact hlt)
      obtain ⟨x, hx⟩ : ∃ x, k / n = x := ⟨_, rfl⟩
      obtain ⟨y, hy⟩ : ∃ y, k % n = y := ⟨_, rfl⟩
      rw [hx] at p0 hxn
      rw [hy] at p1 hyn
      have HX := hide hx
      have HY := hide hy
      clear hx hy
      go_wp2_with fail
      refine wp_gen fun w4 hw4 => ?_
      obtain ⟨P, hPe⟩ : ∃ P, wr.heap.size = P := ⟨_, rfl⟩
      have HB4 : Hid (Below w.heap.size w w4) := hide (by rw [hw4]; exact HB.out.alloc HB.out.size _)
      have HP4 : Hid (Blk w4 P 85 [.int .i64 x, .int .i64 y]) := hide (by rw [hw4, ← hPe]; exact Blk.new _ _ _)
      have HA4 : Hid (PairsAt w4 g n) := hide (by rw [hw4]; exact HPA.out.later ((Below.refl _ _).alloc (Nat.le_refl _) _))
      rw [hPe]
      clear hw4 p0 p1 hPe
      go_loopw [16] (fun i wi => ∃ z : Nat, z ≤ n ∧ i = .int .i64 z ∧ Below w.heap.size w wi ∧ Blk wi P 85 [.int .i64 x, .int .i64 y] ∧ PairsAt wi g n ∧ ∀ i, i < k * n + z → qAt q n i = false) (fun i _ => n - (intOf i).toNat)
      case atStart => exact ⟨0, Nat.zero_le _, rfl, HB4.out, HP4.out, HA4.out, HALL.out⟩
      case round =>
        obtain ⟨z, hzn, rfl, hbe, hpp, hpa, hall⟩ := hrel
        have HBc := hide hbe
        have HPc := hide hpp
        have HAc := hide hpa
        have HALLI := hide hall
        clear hbe hpp hpa hall
        by_cases hltz : z < n
        · have hzz : (z : Int) < n := by omega
          have hklt : k * n + z < n * n * n := by
            have h := trip_lt (n := n) hxn hyn hltz
            rw [← HX.out, ← HY.out, pair_eta] at h
            exact h
          have hat : qAt q n (k * n + z) = q x y z := by
            have h := qAt_at (q := q) (n := n) (x := x) hyn hltz
            rw [← HX.out, ← HY.out, pair_eta] at h
            rw [← HX.out, ← HY.out]
            exact h
          have htr : trip n (k * n + z) = (x, y, z) := by
            have h := trip_of (n := n) (x := x) hyn hltz
            rw [← HX.out, ← HY.out, pair_eta, HX.out, HY.out] at h
            exact h
          have HTR := hide htr
          have HKL := hide hklt
          clear htr hklt
          obtain ⟨bq, hbq⟩ : ∃ b, q x y z = b := ⟨_, rfl⟩
          rw [hbq] at hat
          have HAT := hide hat
          have HBQ := hide hbq
          clear hat hbq
          have k0 := HPc.out.cell 0 _ rfl
          have k1 := HPc.out.cell 1 _ rfl
          cases bq with
          | false =>
            go_wp2_with (go_at_fn F; go_must (refine calls_gen fun wc hwc => ?_; (first | have hbx := drew_below hwc | have hbx := eq_below hwc); replace HBc := hide (HBc.out.trans (hbx.mono HBc.out.size)); replace HPc := hide (HPc.out.later hbx); replace HAc := hide (HAc.out.later hbx); clear hwc hbx; refine (HPF.out _ x y z hxn hyn hltz HBc.out).mono ?_; rw [HBQ.out]; rintro e wd ⟨rfl, hbd⟩; replace HBc := hide (HBc.out.trans (hbd.mono HBc.out.size)); replace HPc := hide (HPc.out.later hbd); replace HAc := hide (HAc.out.later hbd); clear hbd; have k0 := HPc.out.cell 0 _ rfl; have k1 := HPc.out.cell 1 _ rfl; clear k0 k1))
            clear k0 k1
            go_wp2_with fail
            go_roundw
            case rel => exact ⟨z + 1, by omega, by go_num, HBc.out, HPc.out, HAc.out, fun i hi => by
              by_cases e : i = k * n + z
              · rw [e]; exact HAT.out
              · exact HALLI.out i (by omega)⟩
            case measure => simp [intOf]; omega
          | true =>
            have HTB2 := hide (HT.out.bad HALLI.out HKL.out HAT.out)
            go_wp2_with (go_at_fn F; go_must (refine calls_gen fun wc hwc => ?_; (first | have hbx := drew_below hwc | have hbx := eq_below hwc); replace HBc := hide (HBc.out.trans (hbx.mono HBc.out.size)); replace HPc := hide (HPc.out.later hbx); replace HAc := hide (HAc.out.later hbx); clear hwc hbx; refine (HPF.out _ x y z hxn hyn hltz HBc.out).mono ?_; rw [HBQ.out]; rintro e wd ⟨rfl, hbd⟩; replace HBc := hide (HBc.out.trans (hbd.mono HBc.out.size)); replace HPc := hide (HPc.out.later hbd); replace HAc := hide (HAc.out.later hbd); clear hbd; have k0 := HPc.out.cell 0 _ rfl; have k1 := HPc.out.cell 1 _ rfl; have k2 := fun o => (HPc.out.alloc o).cell 0 _ rfl; have k3 := fun o => (HPc.out.alloc o).cell 1 _ rfl))
            clear k0 k1
            go_wp2_with fail
            refine bp_gen fun wf hwf => ?_
            have HBF : Below w.heap.size w wf := by rw [hwf]; exact HBc.out.alloc HBc.out.size _
            have HLF : Hid (Blk wf wd.heap.size 2 [.int .i64 x, .int .i64 y, .int .i64 z]) := hide (by rw [hwf]; exact Blk.new _ _ _)
            have hlo : w.heap.size ≤ wd.heap.size := HBc.out.size
            clear hwf
            go_ret
            exact .inr ⟨by rw [HTB2.out]; exact HKL.out, _, rfl, HBF, hlo, _, HLF.out, fun i hi => by
              rw [HTB2.out, HTR.out] at hi ⊢
              simp [lst3] at hi
              rcases i with _ | _ | _ | i
              · rfl
              · rfl
              · rfl
              · omega⟩
        · have hzn' : z = n := by omega
          subst hzn'
          go_wp2_with fail
          go_roundw
          case rel => exact ⟨k + 1, by omega, by go_num, HBc.out, HAc.out, fun i hi => HALLI.out i (by rw [Nat.add_mul, Nat.one_mul] at hi; exact hi)⟩
          case measure => simp [intOf]; omega
    · have hkn : k = N := by omega
      subst hkn
      go_wp2_with fail
      go_ret
      exact .inl ⟨HT.out.all (fun i hi => HALL.out i (by rw [HNN.out] at hi; exact hi)), rfl, HB.out⟩
end Go.Proofs.Ytkflmhmbkilmpac
namespace Go.Proofs.Ytkflmhmbkilmpac
open Go Go.RowKit
set_option maxHeartbeats 2000000
/-- Whether three elements show that a table is no rack's. -/
def rkq (f : List (List Int)) : Nat → Nat → Nat → Bool := fun x y z => !decide (ap f x (ap f y z) = ap f (ap f x y) (ap f x z))
theorem rkq_not (f : List (List Int)) (n i : Nat) : qAt (rkq f) n i = false ↔ Rk3 f n i := by
  unfold qAt rkq Rk3
  simp
theorem rkq_is (f : List (List Int)) (n i : Nat) : qAt (rkq f) n i = true ↔ ¬ Rk3 f n i := by
  rw [← rkq_not]
  simp
theorem FirstK.q {f : List (List Int)} {n T : Nat} (h : FirstK f n T) : FirstQ (rkq f) n T :=
  ⟨fun i hi => (rkq_not f n i).2 (h.1 i hi), h.2.1, fun ht => (rkq_is f n T).2 (h.2.2 ht)⟩

set_option maxRecDepth 100000 in
theorem kfC_any (A : Option Addr) (n c : Nat) (f : List (List Int)) (b : Nat) (w : World) (hn : f.length = n) (ht : Tbl f) (hr : Rd2 w A f) (hk : Blk w b 26 [.slice A n c]) :
    BoolFn3 Try.prog 95 #[.pointer (some ⟨b, 0, none⟩)] n (rkq f) w := by
  intro W x y z hx hy hz hb
  have HR := hide (hr.later hb)
  have HKc := hide (hk.later hb)
  have HBc := hide (Below.refl W.heap.size W)
  have HN := hide hn
  have HTB := hide ht
  show Calls Try.prog 95 #[.int .i64 x, .int .i64 y, .int .i64 z, .pointer (some ⟨b, 0, none⟩)] W _
  clear hn ht hr hk hb
  have hq1 := HTB.out.ap_lt HN.out hy hz
  have hq2 := HTB.out.ap_lt HN.out hx hy
  have hq3 := HTB.out.ap_lt HN.out hx hz
  obtain ⟨bq, hat⟩ : ∃ bq, rkq f x y z = bq := ⟨_, rfl⟩
  rw [hat]
  unfold rkq at hat
  obtain ⟨q1, h_1⟩ : ∃ u, ap f y z = u := ⟨_, rfl⟩
  obtain ⟨q2, h_2⟩ : ∃ u, ap f x y = u := ⟨_, rfl⟩
  obtain ⟨q3, h_3⟩ : ∃ u, ap f x z = u := ⟨_, rfl⟩
  rw [h_1, h_2, h_3] at hat
  rw [h_1] at hq1
  rw [h_2] at hq2
  rw [h_3] at hq3
  obtain ⟨q4, h_4⟩ : ∃ u, ap f x q1 = u := ⟨_, rfl⟩
  obtain ⟨q5, h_5⟩ : ∃ u, ap f q2 q3 = u := ⟨_, rfl⟩
  rw [h_4, h_5] at hat
  have HAT : Hid ((!decide (q4 = q5)) = bq) := hide hat
  have U1 := hide h_1
  have U2 := hide h_2
  have U3 := hide h_3
  have U4 := hide h_4
  have U5 := hide h_5
  clear h_1 h_2 h_3 h_4 h_5 hat
  have k0 := HKc.out.cell 0 _ rfl
  have tok0 : True := trivial
  have tok1 : True := trivial
  have tok2 : True := trivial
  have tok3 : True := trivial
  go_enter Try.func95, Try.ntmps95
  by_cases hcs : q4 = q5
  · have hbq : bq = false := by rw [← HAT.out, hcs]; simp
    subst hcs
    subst hbq
    go_wp2_with fail
    go_region_held3 (fun w' => w'.cell? ⟨b, 0, none⟩ = some (.slice A n c)) (first | exact k0 | go_keep) (first | (go_at_call 51; have _t := tok0; clear _t tok0; go_must (refine calls_gen fun wc hwc => ?_; (first | have hbx := drew_below hwc | have hbx := eq_below hwc); replace HBc := hide (HBc.out.trans (hbx.mono HBc.out.size)); replace HKc := hide (HKc.out.later hbx); clear hwc hbx; refine (act_any _ _ _ f y z q1 _ HN.out HTB.out (HR.out.later HBc.out) hy hz U1.out).mono ?_; rintro e wd ⟨rfl, hbd⟩; replace HBc := hide (HBc.out.trans (hbd.mono HBc.out.size)); replace HKc := hide (HKc.out.later hbd); clear hbd; have k0 := HKc.out.cell 0 _ rfl)) | (go_at_call 51; have _t := tok1; clear _t tok1; go_must (refine calls_gen fun wc hwc => ?_; (first | have hbx := drew_below hwc | have hbx := eq_below hwc); replace HBc := hide (HBc.out.trans (hbx.mono HBc.out.size)); replace HKc := hide (HKc.out.later hbx); clear hwc hbx; refine (act_any _ _ _ f x q1 q4 _ HN.out HTB.out (HR.out.later HBc.out) hx hq1 U4.out).mono ?_; rintro e wd ⟨rfl, hbd⟩; replace HBc := hide (HBc.out.trans (hbd.mono HBc.out.size)); replace HKc := hide (HKc.out.later hbd); clear hbd; have k0 := HKc.out.cell 0 _ rfl)) | (go_at_call 51; have _t := tok2; clear _t tok2; go_must (refine calls_gen fun wc hwc => ?_; (first | have hbx := drew_below hwc | have hbx := eq_below hwc); replace HBc := hide (HBc.out.trans (hbx.mono HBc.out.size)); replace HKc := hide (HKc.out.later hbx); clear hwc hbx; refine (act_any _ _ _ f x y q2 _ HN.out HTB.out (HR.out.later HBc.out) hx hy U2.out).mono ?_; rintro e wd ⟨rfl, hbd⟩; replace HBc := hide (HBc.out.trans (hbd.mono HBc.out.size)); replace HKc := hide (HKc.out.later hbd); clear hbd; have k0 := HKc.out.cell 0 _ rfl)) | (go_at_call 51; have _t := tok3; clear _t tok3; go_must (refine calls_gen fun wc hwc => ?_; (first | have hbx := drew_below hwc | have hbx := eq_below hwc); replace HBc := hide (HBc.out.trans (hbx.mono HBc.out.size)); replace HKc := hide (HKc.out.later hbx); clear hwc hbx; refine (act_any _ _ _ f x z q3 _ HN.out HTB.out (HR.out.later HBc.out) hx hz U3.out).mono ?_; rintro e wd ⟨rfl, hbd⟩; replace HBc := hide (HBc.out.trans (hbd.mono HBc.out.size)); replace HKc := hide (HKc.out.later hbd); clear hbd; have k0 := HKc.out.cell 0 _ rfl)) | (go_at_call 51; go_must (refine calls_gen fun wc hwc => ?_; (first | have hbx := drew_below hwc | have hbx := eq_below hwc); replace HBc := hide (HBc.out.trans (hbx.mono HBc.out.size)); replace HKc := hide (HKc.out.later hbx); clear hwc hbx; refine (act_any _ _ _ f q2 q3 q4 _ HN.out HTB.out (HR.out.later HBc.out) hq2 hq3 U5.out).mono ?_; rintro e wd ⟨rfl, hbd⟩; replace HBc := hide (HBc.out.trans (hbd.mono HBc.out.size)); replace HKc := hide (HKc.out.later hbd); clear hbd; have k0 := HKc.out.cell 0 _ rfl)))
    go_wp2_with fail
    go_ret
    exact ⟨rfl, HBc.out⟩
  · have hbq : bq = true := by rw [← HAT.out]; simp [hcs]
    have hcz : ((q4 : Int) != (q5 : Int)) = true := by rw [bne_iff_ne]; omega
    subst hbq
    go_wp2_with fail
    go_region_held3 (fun w' => w'.cell? ⟨b, 0, none⟩ = some (.slice A n c)) (first | exact k0 | go_keep) (first | (go_at_call 51; have _t := tok0; clear _t tok0; go_must (refine calls_gen fun wc hwc => ?_; (first | have hbx := drew_below hwc | have hbx := eq_below hwc); replace HBc := hide (HBc.out.trans (hbx.mono HBc.out.size)); replace HKc := hide (HKc.out.later hbx); clear hwc hbx; refine (act_any _ _ _ f y z q1 _ HN.out HTB.out (HR.out.later HBc.out) hy hz U1.out).mono ?_; rintro e wd ⟨rfl, hbd⟩; replace HBc := hide (HBc.out.trans (hbd.mono HBc.out.size)); replace HKc := hide (HKc.out.later hbd); clear hbd; have k0 := HKc.out.cell 0 _ rfl)) | (go_at_call 51; have _t := tok1; clear _t tok1; go_must (refine calls_gen fun wc hwc => ?_; (first | have hbx := drew_below hwc | have hbx := eq_below hwc); replace HBc := hide (HBc.out.trans (hbx.mono HBc.out.size)); replace HKc := hide (HKc.out.later hbx); clear hwc hbx; refine (act_any _ _ _ f x q1 q4 _ HN.out HTB.out (HR.out.later HBc.out) hx hq1 U4.out).mono ?_; rintro e wd ⟨rfl, hbd⟩; replace HBc := hide (HBc.out.trans (hbd.mono HBc.out.size)); replace HKc := hide (HKc.out.later hbd); clear hbd; have k0 := HKc.out.cell 0 _ rfl)) | (go_at_call 51; have _t := tok2; clear _t tok2; go_must (refine calls_gen fun wc hwc => ?_; (first | have hbx := drew_below hwc | have hbx := eq_below hwc); replace HBc := hide (HBc.out.trans (hbx.mono HBc.out.size)); replace HKc := hide (HKc.out.later hbx); clear hwc hbx; refine (act_any _ _ _ f x y q2 _ HN.out HTB.out (HR.out.later HBc.out) hx hy U2.out).mono ?_; rintro e wd ⟨rfl, hbd⟩; replace HBc := hide (HBc.out.trans (hbd.mono HBc.out.size)); replace HKc := hide (HKc.out.later hbd); clear hbd; have k0 := HKc.out.cell 0 _ rfl)) | (go_at_call 51; have _t := tok3; clear _t tok3; go_must (refine calls_gen fun wc hwc => ?_; (first | have hbx := drew_below hwc | have hbx := eq_below hwc); replace HBc := hide (HBc.out.trans (hbx.mono HBc.out.size)); replace HKc := hide (HKc.out.later hbx); clear hwc hbx; refine (act_any _ _ _ f x z q3 _ HN.out HTB.out (HR.out.later HBc.out) hx hz U3.out).mono ?_; rintro e wd ⟨rfl, hbd⟩; replace HBc := hide (HBc.out.trans (hbd.mono HBc.out.size)); replace HKc := hide (HKc.out.later hbd); clear hbd; have k0 := HKc.out.cell 0 _ rfl)) | (go_at_call 51; go_must (refine calls_gen fun wc hwc => ?_; (first | have hbx := drew_below hwc | have hbx := eq_below hwc); replace HBc := hide (HBc.out.trans (hbx.mono HBc.out.size)); replace HKc := hide (HKc.out.later hbx); clear hwc hbx; refine (act_any _ _ _ f q2 q3 q5 _ HN.out HTB.out (HR.out.later HBc.out) hq2 hq3 U5.out).mono ?_; rintro e wd ⟨rfl, hbd⟩; replace HBc := hide (HBc.out.trans (hbd.mono HBc.out.size)); replace HKc := hide (HKc.out.later hbd); clear hbd; have k0 := HKc.out.cell 0 _ rfl)))
    go_wp2_with fail
    go_ret
    exact ⟨rfl, HBc.out⟩

set_option maxRecDepth 100000 in
theorem kfaultQ_any (A : Option Addr) (n c : Nat) (f : List (List Int)) (T : Nat) (w : World) (hn : f.length = n) (ht : Tbl f) (hr : Rd2 w A f) (hT : FirstQ (rkq f) n T) :
    Calls Try.prog 84 #[.agg #[.slice A n c]] w fun e w' => (T = n * n * n ∧ e = .returned (.slice none 0 0) ∧ Below w.heap.size w w') ∨ (T < n * n * n ∧ ∃ g, e = .returned (.slice (some ⟨g, 0, none⟩) 3 3) ∧ Below w.heap.size w w' ∧ w.heap.size ≤ g ∧ OwnB 2 w' g (lst3 (trip n T))) := by
  have h1 : 1 ≤ n := by rw [← hn]; exact ht.1
  have h12 : n ≤ 12 := by rw [← hn]; exact ht.2.1
  have HN := hide hn
  have HTB := hide ht
  have HR := hide hr
  have HT := hide hT
  have HB0 := hide ((Below.refl _ w).alloc (Nat.le_refl _) (Obj.cells #[Value.slice A n c] 26))
  have HK0 := hide (Blk.new w 26 [.slice A n c])
  clear hn ht hr hT
  go_enter Try.func84, Try.ntmps84
  go_wp2_with fail
  refine (ksize_any _ _ _ _ (by omega)).mono ?_
  rintro e w2 ⟨rfl, hb2⟩
  have HB2 := hide (HB0.out.trans (hb2.mono HB0.out.size))
  have HK2 := hide (HK0.out.later hb2)
  clear hb2
  go_wp2_with fail
  refine (firstTriple_any 95 _ n (rkq f) T _ (fun _ _ => rfl) h1 h12 (kfC_any A n c f w.heap.size _ HN.out HTB.out (HR.out.later HB2.out) HK2.out) HT.out).mono ?_
  rintro e w3 (⟨hTe, rfl, hb3⟩ | ⟨hTl, g, rfl, hb3, hg, hob⟩)
  · have HB3 := hide (HB2.out.trans (hb3.mono HB2.out.size))
    clear hb3
    go_wp2_with fail
    go_ret
    exact .inl ⟨hTe, rfl, HB3.out⟩
  · have HB3 := hide (HB2.out.trans (hb3.mono HB2.out.size))
    have HO3 := hide hob
    have hlo : w.heap.size ≤ g := by have := HB2.out.size; omega
    clear hb3 hob
    go_wp2_with fail
    go_ret
    exact .inr ⟨hTl, _, rfl, HB3.out, hlo, HO3.out⟩

theorem kfault_any (A : Option Addr) (n c : Nat) (f : List (List Int)) (T : Nat) (w : World) (hn : f.length = n) (ht : Tbl f) (hr : Rd2 w A f) (hT : FirstK f n T) :
    Calls Try.prog 84 #[.agg #[.slice A n c]] w fun e w' => (T = n * n * n ∧ e = .returned (.slice none 0 0) ∧ Below w.heap.size w w') ∨ (T < n * n * n ∧ ∃ g, e = .returned (.slice (some ⟨g, 0, none⟩) 3 3) ∧ Below w.heap.size w w' ∧ w.heap.size ≤ g ∧ OwnB 2 w' g (lst3 (trip n T))) :=
  kfaultQ_any A n c f T w hn ht hr hT.q
end Go.Proofs.Ytkflmhmbkilmpac
namespace Go.Proofs.Ytkflmhmbkilmpac
open Go Go.RowKit
set_option maxHeartbeats 2000000

set_option maxRecDepth 100000 in
theorem isRackI (A : Option Addr) (n c : Nat) (f : List (List Int)) (r : Bool) (w : World) (hn : f.length = n) (hb : n ≤ 1048576) (hbs : ∀ i, i < f.length → (f.getD i []).length ≤ 1048576) (hr : Rd2 w A f) (hres : RkRes f r) :
    Calls Try.prog 47 #[.agg #[.slice A n c]] w fun e w' => e = .returned (.bool r) ∧ Below w.heap.size w w' := by
  have HN := hide hn
  have HBS := hide hbs
  have HRD := hide hr
  have HR := hide hres
  have hnil : ∀ (u : World) (a : Option Addr) (n c : Nat), (binOp .eql 33 (.slice a n c) (.slice none 0 0)).run Try.prog u = .ok (.bool a.isNone) u := fun u a n c => Lib.run_eql_slice_nil u 33 _ a n c 0 0 Try.underlying33
  have HB0 := hide ((Below.refl _ w).alloc (Nat.le_refl _) (Obj.cells #[Value.slice A n c] 26))
  have HK0 := hide (Blk.new w 26 [.slice A n c])
  by_cases ht : Tbl f
  · have HTB := hide ht
    have hTm : ∃ T, FirstK f n T := FirstK.ex f n
    by_cases hp : AllPrm f
    · have HP := hide hp
      obtain ⟨T, hT⟩ := hTm
      have HT := hide hT
      have hiff : r = true ↔ T = n * n * n := by
        have hrr : r = true ↔ Rck f := HR.out
        rw [hrr, hT.iff, ← hn]
        exact ⟨fun h => h.2, fun h => ⟨⟨ht, hp⟩, h⟩⟩
      have HI := hide hiff
      clear hn hbs hr hres ht hp hT hiff
      go_enter Try.func47, Try.ntmps47
      go_wp2_with fail
      refine (isTable_any _ _ _ f true _ HN.out (by omega) (fun i hi => by have := HBS.out i hi; omega) (HRD.out.later HB0.out) (by simp [HTB.out])).mono ?_
      rintro e w1 ⟨rfl, hq1⟩
      have HB1 := hide (HB0.out.trans (hq1.below _))
      have HK1 := hide (HK0.out.later (hq1.below _))
      clear hq1
      have k0 := HK1.out.cell 0 _ rfl
      go_wp2_with fail
      clear k0
      refine (rowsI_any _ _ _ f true _ HN.out hb HBS.out (HRD.out.later HB1.out) ⟨fun _ => HP.out, fun _ => rfl⟩).mono ?_
      rintro e w2 ⟨rfl, hb2⟩
      have HB2 := hide (HB1.out.trans (hb2.mono HB1.out.size))
      have HK2 := hide (HK1.out.later hb2)
      clear hb2
      have k0 := HK2.out.cell 0 _ rfl
      go_wp2_with fail
      clear k0
      refine (kfault_any _ _ _ f T _ HN.out HTB.out (HRD.out.later HB2.out) HT.out).mono ?_
      rintro e w3 (⟨hTe, rfl, hb3⟩ | ⟨hTl, g, rfl, hb3, hg, hob⟩)
      · have hrt : r = true := HI.out.2 hTe
        subst hrt
        have HB3 := hide (HB2.out.trans (hb3.mono HB2.out.size))
        clear hb3 hTe
        go_wp2_with fail
        go_ret
        exact ⟨rfl, HB3.out⟩
      · have hrf : r = false := by
          cases r
          · rfl
          · have := HI.out.1 rfl; omega
        subst hrf
        have HB3 := hide (HB2.out.trans (hb3.mono HB2.out.size))
        clear hb3 hTl hob
        go_wp2_with fail
        go_ret
        exact ⟨rfl, HB3.out⟩
    · have hrf : r = false := by
        cases r
        · rfl
        · exact absurd (HR.out.1 rfl).prm hp
      subst hrf
      have HP := hide hp
      clear hn hbs hr hres ht hp
      go_enter Try.func47, Try.ntmps47
      go_wp2_with fail
      refine (isTable_any _ _ _ f true _ HN.out (by omega) (fun i hi => by have := HBS.out i hi; omega) (HRD.out.later HB0.out) (by simp [HTB.out])).mono ?_
      rintro e w1 ⟨rfl, hq1⟩
      have HB1 := hide (HB0.out.trans (hq1.below _))
      have HK1 := hide (HK0.out.later (hq1.below _))
      clear hq1
      have k0 := HK1.out.cell 0 _ rfl
      go_wp2_with fail
      clear k0
      refine (rowsI_any _ _ _ f false _ HN.out hb HBS.out (HRD.out.later HB1.out) ⟨fun h => (by cases h), fun h => absurd h HP.out⟩).mono ?_
      rintro e w2 ⟨rfl, hb2⟩
      have HB2 := hide (HB1.out.trans (hb2.mono HB1.out.size))
      clear hb2
      go_wp2_with fail
      go_ret
      exact ⟨rfl, HB2.out⟩
  · have hrf : r = false := by
      cases r
      · rfl
      · exact absurd (HR.out.1 rfl).tbl ht
    subst hrf
    have HTB := hide ht
    clear hn hbs hr hres ht
    go_enter Try.func47, Try.ntmps47
    go_wp2_with fail
    refine (isTable_any _ _ _ f false _ HN.out (by omega) (fun i hi => by have := HBS.out i hi; omega) (HRD.out.later HB0.out) (by simp [HTB.out])).mono ?_
    rintro e w1 ⟨rfl, hq1⟩
    have HB1 := hide (HB0.out.trans (hq1.below _))
    clear hq1
    go_wp2_with fail
    go_ret
    exact ⟨rfl, HB1.out⟩
end Go.Proofs.Ytkflmhmbkilmpac
namespace Go.Proofs.Ytkflmhmbkilmpac
open Go Go.RowKit
set_option maxHeartbeats 2000000

set_option maxRecDepth 100000 in
theorem faultK_any (A : Option Addr) (n c : Nat) (f : List (List Int)) (T : Nat) (w : World) (hn : f.length = n) (ht : Tbl f) (hr : Rd2 w A f) (hT : FirstK f n T) :
    Calls Try.prog 81 #[.slice A n c] w fun e w' => (T = n * n * n ∧ e = .returned (.slice none 0 0) ∧ Below w.heap.size w w') ∨ (T < n * n * n ∧ ∃ g, e = .returned (.slice (some ⟨g, 0, none⟩) 3 3) ∧ Below w.heap.size w w' ∧ w.heap.size ≤ g ∧ OwnB 2 w' g (lst3 (trip n T))) := by
  have h1 : 1 ≤ n := by rw [← hn]; exact ht.1
  have h12 : n ≤ 12 := by rw [← hn]; exact ht.2.1
  obtain ⟨b, o, rfl, hb, hc⟩ := ht.cells hr hn
  have HC := hide hc
  have HN := hide hn
  have HTB := hide ht
  have HT := hide hT
  clear hn ht hr hT hc
  go_enter Try.func81, Try.ntmps81
  go_wp2_with fail
  go_loopw [4] (fun i wr => ∃ x : Nat, x ≤ n ∧ i = .int .i64 x ∧ Quiet w wr ∧ ∀ i, i < x * n * n → Rk3 f n i) (fun i _ => n - (intOf i).toNat)
  case atStart => exact ⟨0, Nat.zero_le _, rfl, Quiet.refl _, fun i hi => absurd hi (by omega)⟩
  case round =>
    obtain ⟨x, hx, rfl, hq, hall⟩ := hrel
    have HQ := hide hq
    clear hq
    have HALL := hide hall
    clear hall
    by_cases hlt : x < n
    · have hxz : (x : Int) < n := by omega
      go_wp2_with fail
      go_loopw [5] (fun i wi => ∃ y : Nat, y ≤ n ∧ i = .int .i64 y ∧ Quiet w wi ∧ ∀ i, i < (x * n + y) * n → Rk3 f n i) (fun i _ => n - (intOf i).toNat)
      case atStart => exact ⟨0, Nat.zero_le _, rfl, HQ.out, fun i hi => HALL.out i (by rw [Nat.add_zero] at hi; exact hi)⟩
      case round =>
        obtain ⟨y, hy, rfl, hq, halli⟩ := hrel
        have HQI := hide hq
        clear hq
        have HALLI := hide halli
        clear halli
        by_cases hlty : y < n
        · have hyz : (y : Int) < n := by omega
          go_wp2_with fail
          go_loopw [6] (fun i wi => ∃ z : Nat, z ≤ n ∧ i = .int .i64 z ∧ Quiet w wi ∧ ∀ i, i < (x * n + y) * n + z → Rk3 f n i) (fun i _ => n - (intOf i).toNat)
          case atStart => exact ⟨0, Nat.zero_le _, rfl, HQI.out, HALLI.out⟩
          case round =>
            obtain ⟨z, hzn, rfl, hq, hallj⟩ := hrel
            have HQJ := hide hq
            clear hq
            have HALLJ := hide hallj
            clear hallj
            by_cases hltz : z < n
            · have hzz : (z : Int) < n := by omega
              have hq1 := HTB.out.ap_lt HN.out hlty hltz
              have hq2 := HTB.out.ap_lt HN.out hlt hlty
              have hq3 := HTB.out.ap_lt HN.out hlt hltz
              have hat := Rk3.at (f := f) (n := n) (x := x) hlty hltz
              have HTR := hide (trip_of (n := n) (x := x) hlty hltz)
              have HKL := hide (trip_lt (n := n) hlt hlty hltz)
              obtain ⟨q1, h_1⟩ : ∃ u, ap f y z = u := ⟨_, rfl⟩
              obtain ⟨q2, h_2⟩ : ∃ u, ap f x y = u := ⟨_, rfl⟩
              obtain ⟨q3, h_3⟩ : ∃ u, ap f x z = u := ⟨_, rfl⟩
              rw [h_1, h_2, h_3] at hat
              rw [h_1] at hq1
              rw [h_2] at hq2
              rw [h_3] at hq3
              obtain ⟨q4, h_4⟩ : ∃ u, ap f x q1 = u := ⟨_, rfl⟩
              obtain ⟨q5, h_5⟩ : ∃ u, ap f q2 q3 = u := ⟨_, rfl⟩
              rw [h_4, h_5] at hat
              have HAT := hide hat
              obtain ⟨bx, ox, cx, r1, r2, r3⟩ := HC.out x hlt
              obtain ⟨by', oy, cy, s1, s2, s3⟩ := HC.out y hlty
              obtain ⟨bq, oq, cq, t1, t2, t3⟩ := HC.out q2 hq2
              have e1 := s3 z hltz
              rw [h_1] at e1
              have e2 := r3 y hlty
              rw [h_2] at e2
              have e3 := r3 z hltz
              rw [h_3] at e3
              have e4 := r3 q1 hq1
              rw [h_4] at e4
              have e5 := t3 q3 hq3
              rw [h_5] at e5
              have z1 : (q1 : Int) < n := by omega
              have z2 : (q2 : Int) < n := by omega
              have z3 : (q3 : Int) < n := by omega
              have hbl := HQJ.out.below w.heap.size
              replace r1 := (hbl.cell (p := ⟨b, o + x, none⟩) hb).trans r1
              replace s1 := (hbl.cell (p := ⟨b, o + y, none⟩) hb).trans s1
              replace t1 := (hbl.cell (p := ⟨b, o + q2, none⟩) hb).trans t1
              replace e1 := (hbl.cell (p := ⟨by', oy + z, none⟩) s2).trans e1
              replace e2 := (hbl.cell (p := ⟨bx, ox + y, none⟩) r2).trans e2
              replace e3 := (hbl.cell (p := ⟨bx, ox + z, none⟩) r2).trans e3
              replace e4 := (hbl.cell (p := ⟨bx, ox + q1, none⟩) r2).trans e4
              replace e5 := (hbl.cell (p := ⟨bq, oq + q3, none⟩) t2).trans e5
              clear hbl h_1 h_2 h_3 h_4 h_5 hat r3 s3 t3
              by_cases hcs : q4 = q5
              · have HGOOD := hide (HAT.out.2 hcs)
                subst hcs
                go_wp2_with fail
                go_quiet (fail)
                go_wp2_with fail
                go_roundw
                case rel => exact ⟨z + 1, by omega, by go_num, HQJ.out.drewN _, fun i hi => by
                  by_cases e : i = (x * n + y) * n + z
                  · rw [e]; exact HGOOD.out
                  · exact HALLJ.out i (by omega)⟩
                case measure => simp [intOf]; omega
              · have hbad : ¬ Rk3 f n ((x * n + y) * n + z) := fun h => hcs (HAT.out.1 h)
                have HTB2 := hide (HT.out.bad HALLJ.out HKL.out hbad)
                have hcz : ¬ (q4 : Int) = q5 := by omega
                clear hbad
                go_wp2_with fail
                go_quiet (fail)
                go_wp2_with fail
                refine bp_gen fun wf hwf => ?_
                have HBF : Below w.heap.size w wf := by rw [hwf]; exact ((HQJ.out.drewN nq).below _).alloc ((HQJ.out.drewN nq).below 0).size _
                have HLF : Hid (Blk wf (wr.drewN nq).heap.size 2 [.int .i64 x, .int .i64 y, .int .i64 z]) := hide (by rw [hwf]; exact Blk.new _ _ _)
                have hlo : w.heap.size ≤ (wr.drewN nq).heap.size := ((HQJ.out.drewN nq).below 0).size
                clear hwf
                go_ret
                exact .inr ⟨by rw [HTB2.out]; exact HKL.out, _, rfl, HBF, hlo, _, HLF.out, fun i hi => by
                  rw [HTB2.out, HTR.out] at hi ⊢
                  simp [lst3] at hi
                  rcases i with _ | _ | _ | i
                  · rfl
                  · rfl
                  · rfl
                  · omega⟩
            · have hzn' : z = n := by omega
              subst hzn'
              go_wp2_with fail
              go_roundw
              case rel => exact ⟨y + 1, by omega, by go_num, HQJ.out, fun i hi => HALLJ.out i (by rw [← Nat.add_assoc, Nat.add_mul _ 1, Nat.one_mul] at hi; exact hi)⟩
              case measure => simp [intOf]; omega
        · have hyn' : y = n := by omega
          subst hyn'
          go_wp2_with fail
          go_roundw
          case rel => exact ⟨x + 1, by omega, by go_num, HQI.out, fun i hi => HALLI.out i (by rw [Nat.add_mul x 1, Nat.one_mul] at hi; exact hi)⟩
          case measure => simp [intOf]; omega
    · have hxn : x = n := by omega
      subst hxn
      go_wp2_with fail
      go_ret
      exact .inl ⟨HT.out.all HALL.out, rfl, HQ.out.below _⟩
end Go.Proofs.Ytkflmhmbkilmpac
namespace Go.Proofs.Ytkflmhmbkilmpac
open Go Go.RowKit
set_option maxHeartbeats 400000

theorem in_any (x lo hi : Int) (r : Bool) (w : World) (hr : r = true ↔ lo ≤ x ∧ x ≤ hi) :
    Calls Try.prog 86 #[.int .i64 x, .int .i64 lo, .int .i64 hi] w fun e w' => e = .returned (.bool r) ∧ Quiet w w' := by
  have HR := hide hr
  clear hr
  by_cases h1 : lo ≤ x
  · by_cases h2 : x ≤ hi
    · have : r = true := HR.out.2 ⟨h1, h2⟩
      subst this
      go_enter Try.func86, Try.ntmps86
      go_wp2_with fail
      go_ret
      exact ⟨rfl, Quiet.refl _⟩
    · have : r = false := by
        cases r
        · rfl
        · exact absurd (HR.out.1 rfl).2 h2
      subst this
      have h2' : decide (x ≤ hi) = false := by simpa using h2
      clear h2
      go_enter Try.func86, Try.ntmps86
      go_wp2_with fail
      go_ret
      exact ⟨rfl, Quiet.refl _⟩
  · have : r = false := by
      cases r
      · rfl
      · exact absurd (HR.out.1 rfl).1 h1
    subst this
    have h1' : decide (lo ≤ x) = false := by simpa using h1
    clear h1
    go_enter Try.func86, Try.ntmps86
    go_wp2_with fail
    go_ret
    exact ⟨rfl, Quiet.refl _⟩
end Go.Proofs.Ytkflmhmbkilmpac
namespace Go.Proofs.Ytkflmhmbkilmpac
open Go Go.RowKit
set_option maxHeartbeats 400000

theorem l01Table_any (A : Option Addr) (n c : Nat) (rows : List (List Int)) (r : Bool) (w : World) (hn : rows.length = n) (hb : n ≤ 9223372036854775807) (hbs : ∀ i, i < rows.length → (rows.getD i []).length ≤ 9223372036854775807) (hr : Rd2 w A rows) (hrr : r = true ↔ Tbl rows) :
    Calls Try.prog 65 #[.slice A n c] w fun e w' => e = .returned (.bool r) ∧ Quiet w w' := by
  have HN := hide hn
  have HR := hide hrr
  clear hn hrr
  by_cases h12 : 1 ≤ n ∧ n ≤ 12
  · obtain ⟨h1, h2⟩ := h12
    have hno : ¬ Tbl rows → r = false := fun h => by
      cases r
      · rfl
      · exact absurd (HR.out.1 rfl) h
    have HNO := hide hno
    clear hno
    go_enter Try.func65, Try.ntmps65
    go_wp2_with (go_at_call 86; refine (in_any _ _ _ true _ (by simp; omega)).mono ?_; rintro e w1 ⟨rfl, hq1⟩)
    have HQ1 := hide hq1
    clear hq1
    go_loopw [4] (fun i wr => ∃ k : Nat, k ≤ n ∧ i = .int .i64 k ∧ Quiet w wr ∧ ∀ i, i < k → RowOk n (rows.getD i [])) (fun i _ => n - (intOf i).toNat)
    case atStart => exact ⟨0, Nat.zero_le _, rfl, HQ1.out, fun i hi => absurd hi (Nat.not_lt_zero _)⟩
    case round =>
      obtain ⟨k, hk, rfl, hq, hall⟩ := hrel
      have HQ := hide hq
      have HALL := hide hall
      clear hq hall
      by_cases hlt : k < n
      · obtain ⟨b, o, rfl, _, hc⟩ := HQ.out.rd2 hr (by have := HN.out; omega)
        obtain ⟨Ak, ck, hcell, hrd⟩ := hc k (by have := HN.out; omega)
        have hbk := hbs k (by have := HN.out; omega)
        obtain ⟨x, hx⟩ : ∃ x, x = rows.getD k [] := ⟨_, rfl⟩
        obtain ⟨m, hm⟩ : ∃ m, x.length = m := ⟨_, rfl⟩
        rw [← hx] at hcell hrd hbk
        rw [hm] at hcell hbk
        have HX := hide hx
        have HM := hide hm
        clear hx hm hc hbs
        have hltz : (k : Int) < n := by omega
        by_cases hmn : m = n
        · subst hmn
          go_wp2_with fail
          obtain ⟨wo, rfl⟩ : ∃ wo : World, wo = wr := ⟨_, rfl⟩
          go_loopw [5] (fun i wi => ∃ j : Nat, j ≤ m ∧ i = .int .i64 j ∧ Quiet wo wi ∧ ∀ i, i < j → 0 ≤ x.getD i 0 ∧ x.getD i 0 < (m : Int)) (fun i _ => m - (intOf i).toNat)
          case atStart => exact ⟨0, Nat.zero_le _, rfl, Quiet.refl _, fun i hi => absurd hi (Nat.not_lt_zero _)⟩
          case round =>
            obtain ⟨j, hj, rfl, hqi, hin⟩ := hrel
            have HIN := hide hin
            have HQI := hide hqi
            clear hin
            by_cases hjm : j < m
            · obtain ⟨b2, o2, rfl, _, hc2⟩ := hqi.rd hrd (by have := HM.out; omega)
              have hcell2 := (hqi.cell ⟨b, o + k, none⟩).trans hcell
              have hv := hc2 j (by have := HM.out; omega)
              obtain ⟨y, hy⟩ : ∃ y, y = x.getD j 0 := ⟨_, rfl⟩
              rw [← hy] at hv
              have HY := hide hy
              clear hy hc2 hqi hcell
              have hjz : (j : Int) < m := by omega
              by_cases hyr : 0 ≤ y ∧ y ≤ (m : Int) - 1
              · have HYR := hide hyr
                clear hyr
                go_wp2_with (go_at_call 86; refine (in_any _ _ _ true _ (by simp [HYR.out.1, HYR.out.2])).mono ?_; rintro e w1 ⟨rfl, hq1⟩)
                go_roundw
                case rel =>
                  refine ⟨j + 1, by omega, by go_num, HQI.out.trans hq1, fun i hi => ?_⟩
                  by_cases e : i = j
                  · subst e; rw [← HY.out]; have := HYR.out; exact ⟨this.1, by omega⟩
                  · exact HIN.out i (by omega)
                case measure => simp [intOf]; omega
              · have HYR := hide hyr
                clear hyr
                go_wp2_with (go_at_call 86; refine (in_any _ _ _ false _ (by simpa using HYR.out)).mono ?_; rintro e w1 ⟨rfl, hq1⟩)
                go_ret
                have : r = false := HNO.out fun h => HYR.out (by
                  have h := (h.2.2 k (by have := HN.out; omega)).2 j (by have := HN.out; omega)
                  rw [← HX.out, ← HY.out, HN.out] at h
                  exact ⟨h.1, by omega⟩)
                exact ⟨by subst this; rfl, HQ.out.trans (HQI.out.trans hq1)⟩
            · have hjm' : j = m := by omega
              subst hjm'
              go_wp2_with fail
              go_roundw
              case rel => 
                refine ⟨k + 1, by omega, by go_num, HQ.out.trans HQI.out, fun i hi => ?_⟩
                by_cases e : i = k
                · subst e; rw [← HX.out]; exact ⟨HM.out, HIN.out⟩
                · exact HALL.out i (by omega)
              case measure => simp [intOf]; omega
        · have hne : ((m : Int) != (n : Int)) = true := by simp; omega
          have HMN := hide hmn
          clear hmn
          go_wp2_with fail
          go_ret
          have : r = false := HNO.out fun h => HMN.out (by
            have h := (h.2.2 k (by have := HN.out; omega)).1
            rw [← HX.out, HM.out, HN.out] at h
            exact h)
          exact ⟨by subst this; rfl, by first | exact HQ.out | exact HQ.out.drewN _⟩
      · have hkn : k = n := by omega
        subst hkn
        go_wp2_with fail
        go_ret
        have : r = true := HR.out.2 ⟨by have := HN.out; omega, by have := HN.out; omega, fun i hi => by
          have h := HALL.out i (by have := HN.out; omega)
          rw [HN.out]
          exact h⟩
        exact ⟨by subst this; rfl, HQ.out⟩
  · have : r = false := by
      cases r
      · rfl
      · have := HR.out.1 rfl
        have h := HN.out
        unfold Tbl at this
        omega
    subst this
    go_enter Try.func65, Try.ntmps65
    go_wp2_with (go_at_call 86; refine (in_any _ _ _ false _ (by simp; omega)).mono ?_; rintro e w1 ⟨rfl, hq1⟩)
    go_ret
    exact ⟨rfl, hq1⟩

end Go.Proofs.Ytkflmhmbkilmpac
namespace Go.Proofs.Ytkflmhmbkilmpac
open Go Go.RowKit
set_option maxHeartbeats 400000

/-- The first index, or -1. -/
def ixOf (xs : List Int) (v : Int) : Int := if v ∈ xs then (xs.idxOf v : Int) else -1

theorem ixOf_at (xs : List Int) (v : Int) (k : Nat) (hk : k < xs.length) (hv : xs.getD k 0 = v) (hno : v ∉ xs.take k) : ixOf xs v = k := by
  have e : xs = xs.take k ++ v :: xs.drop (k + 1) := by
    rw [← hv]
    simp [hk]
  have hm : v ∈ xs := by rw [e]; simp
  unfold ixOf
  rw [if_pos hm]
  rw [e, List.idxOf_append, if_neg hno]
  simp
  omega

theorem ixOf_no (xs : List Int) (v : Int) (hno : v ∉ xs) : ixOf xs v = -1 := by
  unfold ixOf
  rw [if_neg hno]

theorem index_any (A : Option Addr) (n c : Nat) (xs : List Int) (v : Int) (w : World) (hn : xs.length = n) (hb : n ≤ 9223372036854775807) (hr : Rd w A xs) :
    Calls Try.prog 64 #[.slice A n c, .int .i64 v] w fun e w' => e = .returned (.int .i64 (ixOf xs v)) ∧ Quiet w w' := by
  have HN := hide hn
  clear hn
  go_enter Try.func64, Try.ntmps64
  go_wp2_with fail
  go_loopw [5] (fun i wr => ∃ k : Nat, k ≤ n ∧ i = .int .i64 k ∧ Quiet w wr ∧ v ∉ xs.take k) (fun i _ => n - (intOf i).toNat)
  case atStart => exact ⟨0, Nat.zero_le _, rfl, Quiet.refl _, by simp⟩
  case round =>
    obtain ⟨k, hk, rfl, hq, hno⟩ := hrel
    have HNO := hide hno
    have HQ := hide hq
    clear hno hq
    by_cases hlt : k < n
    · obtain ⟨b, o, rfl, hbw, hc⟩ := HQ.out.rd hr (by have := HN.out; omega)
      have hc1 := hc k (by have := HN.out; omega)
      have hl : k < xs.length := by have := HN.out; omega
      have HL := hide hl
      obtain ⟨x, hx⟩ : ∃ x, xs.getD k 0 = x := ⟨_, rfl⟩
      rw [hx] at hc1
      have HX := hide hx
      clear hx hc hl
      have hltz : (k : Int) < n := by omega
      by_cases hxv : x = v
      · have HXV := hide hxv
        have hxb : (x == v) = true := by simpa using hxv
        clear hxv
        go_wp2_with fail
        go_ret
        have e := ixOf_at xs v k HL.out (HX.out.trans HXV.out) HNO.out
        exact ⟨by rw [e]; rfl, HQ.out⟩
      · have HXV := hide hxv
        have hxb : (x == v) = false := by simpa using hxv
        clear hxv
        go_wp2_with fail
        go_roundw
        case rel =>
          refine ⟨k + 1, by omega, by go_num, HQ.out, ?_⟩
          rw [List.take_succ_eq_append_getElem HL.out]
          intro h
          rcases List.mem_append.1 h with h | h
          · exact HNO.out h
          · have := HX.out
            have hl := HL.out
            simp [hl] at this
            simp [this] at h
            exact HXV.out h.symm
        case measure => simp [intOf]; omega
    · have hkn : k = n := by omega
      subst hkn
      go_wp2_with fail
      go_ret
      have h := HNO.out
      rw [List.take_of_length_le (by have := HN.out; omega)] at h
      exact ⟨by rw [ixOf_no xs v h]; rfl, HQ.out⟩

theorem has_any (A : Option Addr) (n c : Nat) (xs : List Int) (v : Int) (r : Bool) (w : World) (hn : xs.length = n) (hb : n ≤ 9223372036854775807) (hr : Rd w A xs) (hrr : r = true ↔ v ∈ xs) :
    Calls Try.prog 92 #[.slice A n c, .int .i64 v] w fun e w' => e = .returned (.bool r) ∧ Quiet w w' := by
  have HN := hide hn
  have HR := hide hrr
  clear hn hrr
  obtain ⟨x, hx⟩ : ∃ x, ixOf xs v = x := ⟨_, rfl⟩
  have hxr : r = decide (0 ≤ x) := by
    unfold ixOf at hx
    cases r
    · have hno : v ∉ xs := fun h => by have := HR.out.2 h; cases this
      rw [if_neg hno] at hx
      subst hx
      rfl
    · have h := HR.out.1 rfl
      rw [if_pos h] at hx
      subst hx
      simp
  have HX := hide hx
  have HXR := hide hxr
  clear hx hxr
  go_enter Try.func92, Try.ntmps92
  go_wp2_with fail
  refine (index_any _ _ _ xs v _ HN.out hb hr).mono ?_
  rintro e w1 ⟨rfl, hq⟩
  rw [HX.out]
  have HQ := hide hq
  clear hq
  go_wp2_with fail
  go_ret
  exact ⟨by rw [HXR.out]; rfl, HQ.out⟩
end Go.Proofs.Ytkflmhmbkilmpac
namespace Go.Proofs.Ytkflmhmbkilmpac
open Go Go.RowKit
set_option maxHeartbeats 400000

theorem l01Perm_any (A : Option Addr) (n c : Nat) (xs : List Int) (r : Bool) (w : World) (hn : xs.length = n) (hb : n ≤ 9223372036854775807) (hr : Rd w A xs) (hrr : r = true ↔ 1 ≤ n ∧ n ≤ 12 ∧ ∀ x : Int, 0 ≤ x → x < (n : Int) → x ∈ xs) :
    Calls Try.prog 80 #[.slice A n c] w fun e w' => e = .returned (.bool r) ∧ Quiet w w' := by
  have HN := hide hn
  have HR := hide hrr
  clear hn hrr
  by_cases h12 : 1 ≤ n ∧ n ≤ 12
  · obtain ⟨h1, h2⟩ := h12
    go_enter Try.func80, Try.ntmps80
    go_wp2_with (go_at_call 86; refine (in_any _ _ _ true _ (by simp; omega)).mono ?_; rintro e w1 ⟨rfl, hq1⟩)
    have HQ1 := hide hq1
    clear hq1
    go_loopw [4] (fun i wr => ∃ k : Nat, k ≤ n ∧ i = .int .i64 k ∧ Quiet w wr ∧ ∀ x : Int, 0 ≤ x → x < (k : Int) → x ∈ xs) (fun i _ => n - (intOf i).toNat)
    case atStart => exact ⟨0, Nat.zero_le _, rfl, HQ1.out, fun x h0 h1 => by omega⟩
    case round =>
      obtain ⟨k, hk, rfl, hq, hall⟩ := hrel
      have HQ := hide hq
      have HALL := hide hall
      clear hq hall
      by_cases hlt : k < n
      · have hltz : (k : Int) < n := by omega
        by_cases hm : (k : Int) ∈ xs
        · have HM := hide hm
          clear hm
          go_wp2_with (go_at_call 92; refine (has_any _ _ _ xs _ true _ HN.out hb (HQ.out.rd hr) (by simp [HM.out])).mono ?_; rintro e w2 ⟨rfl, hq2⟩)
          have HQ2 := hide hq2
          clear hq2
          go_roundw
          case rel =>
            refine ⟨k + 1, by omega, by go_num, HQ.out.trans HQ2.out, fun x h0 h1 => ?_⟩
            by_cases e : x = (k : Int)
            · subst e; exact HM.out
            · exact HALL.out x h0 (by omega)
          case measure => simp [intOf]; omega
        · have HM := hide hm
          clear hm
          go_wp2_with (go_at_call 92; refine (has_any _ _ _ xs _ false _ HN.out hb (HQ.out.rd hr) (by simp [HM.out])).mono ?_; rintro e w2 ⟨rfl, hq2⟩)
          go_ret
          have : r = false := by
            cases r
            · rfl
            · exact absurd ((HR.out.1 rfl).2.2 k (by omega) (by omega)) HM.out
          exact ⟨by subst this; rfl, HQ.out.trans hq2⟩
      · have hkn : k = n := by omega
        subst hkn
        go_wp2_with fail
        go_ret
        have : r = true := HR.out.2 ⟨h1, h2, HALL.out⟩
        exact ⟨by subst this; rfl, HQ.out⟩
  · have : r = false := by
      cases r
      · rfl
      · have := HR.out.1 rfl
        omega
    subst this
    go_enter Try.func80, Try.ntmps80
    go_wp2_with (go_at_call 86; refine (in_any _ _ _ false _ (by simp; omega)).mono ?_; rintro e w1 ⟨rfl, hq1⟩)
    go_ret
    exact ⟨rfl, hq1⟩

theorem prmS_any (A : Option Addr) (n c : Nat) (xs : List Int) (r : Bool) (w : World) (hn : xs.length = n) (hb : n ≤ 9223372036854775807) (hr : Rd w A xs) (hrr : r = true ↔ Prm xs) :
    Calls Try.prog 80 #[.slice A n c] w fun e w' => e = .returned (.bool r) ∧ Quiet w w' :=
  l01Perm_any A n c xs r w hn hb hr (by rw [hrr, prm_iff, hn])
theorem prmS_below (A : Option Addr) (n c : Nat) (xs : List Int) (r : Bool) (w : World) (hn : xs.length = n) (hb : n ≤ 9223372036854775807) (hr : Rd w A xs) (hrr : r = true ↔ Prm xs) :
    Calls Try.prog 80 #[.slice A n c] w fun e w' => e = .returned (.bool r) ∧ Below w.heap.size w w' :=
  (prmS_any A n c xs r w hn hb hr hrr).mono fun _ _ ⟨he, hq⟩ => ⟨he, hq.below _⟩
end Go.Proofs.Ytkflmhmbkilmpac
namespace Go.Proofs.Ytkflmhmbkilmpac
open Go Go.RowKit
set_option maxHeartbeats 2000000

set_option maxRecDepth 100000 in
theorem isRackS (A : Option Addr) (n c : Nat) (f : List (List Int)) (r : Bool) (w : World) (hn : f.length = n) (hb : n ≤ 1048576) (hbs : ∀ i, i < f.length → (f.getD i []).length ≤ 1048576) (hr : Rd2 w A f) (hres : RkRes f r) :
    Calls Try.prog 44 #[.agg #[.slice A n c]] w fun e w' => e = .returned (.bool r) ∧ Below w.heap.size w w' := by
  have HN := hide hn
  have HBS := hide hbs
  have HRD := hide hr
  have HR := hide hres
  have HB0 := hide ((Below.refl _ w).alloc (Nat.le_refl _) (Obj.cells #[Value.slice A n c] 26))
  have HK0 := hide (Blk.new w 26 [.slice A n c])
  by_cases ht : Tbl f
  · have HTB := hide ht
    obtain ⟨T, hT⟩ := FirstK.ex f n
    have HT := hide hT
    clear hn hbs hr hres ht hT
    go_enter Try.func44, Try.ntmps44
    go_wp2_with fail
    refine (l01Table_any _ _ _ f true _ HN.out (by omega) (fun i hi => by have := HBS.out i hi; omega) (HRD.out.later HB0.out) (by simp [HTB.out])).mono ?_
    rintro e w1 ⟨rfl, hq1⟩
    have HB1 := hide (HB0.out.trans (hq1.below _))
    have HK1 := hide (HK0.out.later (hq1.below _))
    clear hq1
    go_wp2_with fail
    go_loopw [3] (fun i wr => ∃ k : Nat, k ≤ n ∧ i = .int .i64 k ∧ Below w.heap.size w wr ∧ Blk wr w.heap.size 26 [.slice A n c] ∧ ∀ i, i < k → Prm (f.getD i [])) (fun i _ => n - (intOf i).toNat)
    case atStart => exact ⟨0, Nat.zero_le _, rfl, HB1.out, HK1.out, fun i hi => absurd hi (Nat.not_lt_zero _)⟩
    case round =>
      obtain ⟨k, hk, rfl, hbe, hkk, hall⟩ := hrel
      have HB := hide hbe
      have HK := hide hkk
      have HALL := hide hall
      clear hbe hkk hall
      have k0 := HK.out.cell 0 _ rfl
      by_cases hlt : k < n
      · obtain ⟨b, o, hA, _, hc⟩ := (HRD.out.later HB.out) (by have := HN.out; omega)
        obtain ⟨Ak, ck, hcell, hrd⟩ := hc k (by have := HN.out; omega)
        have hbk := HBS.out k (by have := HN.out; omega)
        obtain ⟨x, hx⟩ : ∃ x, x = f.getD k [] := ⟨_, rfl⟩
        obtain ⟨m, hm⟩ : ∃ m, x.length = m := ⟨_, rfl⟩
        rw [← hx] at hcell hrd hbk
        rw [hm] at hcell hbk
        have HX := hide hx
        have HM := hide hm
        have hltz : (k : Int) < n := by omega
        clear hx hm hc
        subst hA
        by_cases hp : Prm x
        · have HP := hide hp
          clear hp
          go_wp2_with fail
          clear k0
          refine (prmS_below _ _ _ x true _ HM.out (by omega) hrd (by simp [HP.out])).mono ?_
          rintro e w2 ⟨rfl, hq1⟩
          have HQ1 := hide hq1
          clear hq1
          go_wp2_with fail
          go_roundw
          case rel =>
            refine ⟨k + 1, by omega, by go_num, HB.out.trans (HQ1.out.mono HB.out.size), HK.out.later HQ1.out, fun i hi => ?_⟩
            by_cases e : i = k
            · subst e; rw [← HX.out]; exact HP.out
            · exact HALL.out i (by omega)
          case measure => simp [intOf]; omega
        · have HP := hide hp
          clear hp
          go_wp2_with fail
          clear k0
          refine (prmS_below _ _ _ x false _ HM.out (by omega) hrd (by simp [HP.out])).mono ?_
          rintro e w2 ⟨rfl, hq1⟩
          have HQ1 := hide hq1
          clear hq1
          have hnp : ¬ AllPrm f := fun h => by
            have h := h k (by have := HN.out; omega)
            rw [← HX.out] at h
            exact HP.out h
          have hrf : r = false := by
            cases r
            · rfl
            · have hrr : true = true ↔ Rck f := HR.out
              exact absurd (hrr.1 rfl).prm hnp
          subst hrf
          clear hnp
          go_wp2_with fail
          go_ret
          exact ⟨rfl, HB.out.trans (HQ1.out.mono HB.out.size)⟩
      · have hkn : k = n := by omega
        subst hkn
        have HAP : Hid (AllPrm f) := hide (fun i hi => HALL.out i (by have := HN.out; omega))
        go_wp2_with fail
        clear k0
        refine (faultK_any _ _ _ f T _ HN.out HTB.out (HRD.out.later HB.out) HT.out).mono ?_
        rintro e w3 (⟨hTe, rfl, hb3⟩ | ⟨hTl, g, rfl, hb3, hg, hob⟩)
        · have hrt : r = true := by
            have hrr : r = true ↔ Rck f := HR.out
            rw [hrr]
            refine ⟨⟨HTB.out, HAP.out⟩, ?_⟩
            rw [HN.out]
            exact HT.out.iff.1 hTe
          subst hrt
          have HB3 := hide (HB.out.trans (hb3.mono HB.out.size))
          clear hb3 hTe
          go_wp2_with fail
          go_ret
          exact ⟨rfl, HB3.out⟩
        · have hrf : r = false := by
            cases r
            · rfl
            · have hrr : true = true ↔ Rck f := HR.out
              have h := (hrr.1 rfl).2
              rw [HN.out] at h
              have := HT.out.iff.2 h
              omega
          subst hrf
          have HB3 := hide (HB.out.trans (hb3.mono HB.out.size))
          clear hb3 hTl hob
          go_wp2_with fail
          go_ret
          exact ⟨rfl, HB3.out⟩
  · have HTB := hide ht
    have hrf : r = false := by
      cases r
      · rfl
      · have hrr : true = true ↔ Rck f := HR.out
        exact absurd (hrr.1 rfl).tbl ht
    subst hrf
    clear hn hbs hr hres ht
    go_enter Try.func44, Try.ntmps44
    go_wp2_with fail
    refine (l01Table_any _ _ _ f false _ HN.out (by omega) (fun i hi => by have := HBS.out i hi; omega) (HRD.out.later HB0.out) (by simp [HTB.out])).mono ?_
    rintro e w1 ⟨rfl, hq1⟩
    have HB1 := hide (HB0.out.trans (hq1.below _))
    clear hq1
    go_wp2_with fail
    go_ret
    exact ⟨rfl, HB1.out⟩

end Go.Proofs.Ytkflmhmbkilmpac
namespace Go.Proofs.Ytkflmhmbkilmpac
open Go Go.RowKit
theorem neInfo : (Try.prog.info? 2).map (fun i => (i.zero, i.size, i.bytes)) = some (some (.int .i64 0), 1, 8) := by kernel_rfl
theorem neInfo2 : (Try.prog.info? 33).map (fun i => (i.zero, i.size, i.bytes)) = some (some (.slice none 0 0), 1, 24) := by kernel_rfl
theorem ne_new {w : World} {v : Value} {t : TypeId} : ∀ j u, [v][j]? = some u → (w.alloc (.cells #[v] t)).cell? ((⟨w.heap.size, 0, none⟩ : Addr).add j) = some u := by
  intro j u hj
  match j, hj with
  | 0, hj => simp at hj; subst hj; simp [Addr.add, World.cell?_alloc_new]
theorem ne_empty (w : World) (t : TypeId) : (w.alloc (.cells #[] t)).ownsRow w.heap.size t 1 (.slice (some ⟨w.heap.size, 0, none⟩) 0 0) 0 [] :=
  ⟨by simp, .inr ⟨w.heap.size, 0, #[], rfl, Nat.le_refl _, heap_alloc_new _ _, Nat.le_refl _, by unfold maxLen; omega, by simp, by simp⟩⟩
/-- Row x of the table of a function. -/
def frow (n : Nat) (h : Nat → Nat → Int) (x : Nat) : List Int := (List.range n).map fun (b : Nat) => h x b
theorem frow_length (n : Nat) (h : Nat → Nat → Int) (x : Nat) : (frow n h x).length = n := by simp [frow]
theorem frow_take (n : Nat) (h : Nat → Nat → Int) (x y : Nat) (hy : y < n) : ints ((frow n h x).take y) ++ [.int .i64 (h x y)] = ints ((frow n h x).take (y + 1)) := by
  rw [List.take_succ_eq_append_getElem (by rw [frow_length]; exact hy)]
  simp [ints, frow]
theorem grid_take (n : Nat) (h : Nat → Nat → Int) (x : Nat) (hx : x < n) : (grid n h).take (x + 1) = (grid n h).take x ++ [frow n h x] := by
  rw [List.take_succ_eq_append_getElem (by rw [grid_length]; exact hx)]
  simp [grid, frow]
end Go.Proofs.Ytkflmhmbkilmpac
namespace Go.Proofs.Ytkflmhmbkilmpac
open Go Go.RowKit
/-- A rack made of two, where they are racks and there is room. -/
def RuRes (f g : List (List Int)) (N : Nat) (h : Nat → Nat → Int) (zs : List (List Int)) (code : Int) : Prop :=
  ((Rck f ∧ Rck g) ∧ N ≤ 12 ∧ zs = grid N h ∧ code = 0) ∨ ((Rck f ∧ Rck g) ∧ ¬ N ≤ 12 ∧ zs = [] ∧ code = 3) ∨ (¬ (Rck f ∧ Rck g) ∧ zs = [] ∧ code = 1)
theorem RuRes.ex (f g : List (List Int)) (N : Nat) (h : Nat → Nat → Int) : ∃ zs code, RuRes f g N h zs code ∧ zs.length ≤ 1048576 ∧ ∀ i, i < zs.length → (zs.getD i []).length ≤ 1048576 := by
  by_cases hg : Rck f ∧ Rck g
  · by_cases h3 : N ≤ 12
    · refine ⟨_, _, .inl ⟨hg, h3, rfl, rfl⟩, by rw [grid_length]; omega, fun i hi => ?_⟩
      rw [grid_length] at hi
      rw [grid_row_length _ _ _ hi]; omega
    · exact ⟨_, _, .inr (.inl ⟨hg, h3, rfl, rfl⟩), by simp, by simp⟩
  · exact ⟨_, _, .inr (.inr ⟨hg, rfl, rfl⟩), by simp, by simp⟩
/-- The product of two racks. -/
def pdH (f g : List (List Int)) (m : Nat) : Nat → Nat → Int := fun a b => ((ap f (a / m) (b / m) * m + ap g (a % m) (b % m) : Nat) : Int)
/-- The union of two racks. -/
def udH (f g : List (List Int)) (n : Nat) : Nat → Nat → Int := fun a b => if a < n ∧ b < n then ((ap f a b : Nat) : Int) else if n ≤ a ∧ n ≤ b then ((ap g (a - n) (b - n) + n : Nat) : Int) else (b : Int)
def PdRes (f g : List (List Int)) : List (List Int) → Int → Prop := RuRes f g (f.length * g.length) (pdH f g g.length)
def UdRes (f g : List (List Int)) : List (List Int) → Int → Prop := RuRes f g (f.length + g.length) (udH f g f.length)
theorem PdRes.ex (f g : List (List Int)) : ∃ zs code, PdRes f g zs code ∧ zs.length ≤ 1048576 ∧ ∀ i, i < zs.length → (zs.getD i []).length ≤ 1048576 := RuRes.ex _ _ _ _
theorem UdRes.ex (f g : List (List Int)) : ∃ zs code, UdRes f g zs code ∧ zs.length ≤ 1048576 ∧ ∀ i, i < zs.length → (zs.getD i []).length ≤ 1048576 := RuRes.ex _ _ _ _
end Go.Proofs.Ytkflmhmbkilmpac
namespace Go.Proofs.Ytkflmhmbkilmpac
open Go Go.RowKit
set_option maxHeartbeats 2000000

set_option maxRecDepth 100000 in
theorem pdC_any (A : Option Addr) (n c : Nat) (f : List (List Int)) (C : Option Addr) (q c2 : Nat) (f2 : List (List Int)) (ba bb bm : Nat) (w : World) (hn : f.length = n) (ht : Tbl f) (hr : Rd2 w A f) (hn2 : f2.length = q) (ht2 : Tbl f2) (hr2 : Rd2 w C f2)
    (hk1 : Blk w ba 26 [.slice A n c]) (hk2 : Blk w bb 26 [.slice C q c2]) (hk3 : Blk w bm 2 [.int .i64 q]) (hle : n * q ≤ 12) :
    CellFn Try.prog 50 #[.pointer (some ⟨ba, 0, none⟩), .pointer (some ⟨bm, 0, none⟩), .pointer (some ⟨bb, 0, none⟩)] (n * q) (pdH f f2 q) w := by
  intro W x y hx hy hb
  have HRA := hide (hr.later hb)
  have HRB := hide (hr2.later hb)
  have HKa := hide (hk1.later hb)
  have HKb := hide (hk2.later hb)
  have HKm := hide (hk3.later hb)
  have HT := hide ht
  have HT2 := hide ht2
  have HN := hide hn
  have HN2 := hide hn2
  have h1n : 1 ≤ n := by rw [← hn]; exact ht.1
  have h1q : 1 ≤ q := by rw [← hn2]; exact ht2.1
  have h12n : n ≤ 12 := by rw [← hn]; exact ht.2.1
  have h12q : q ≤ 12 := by rw [← hn2]; exact ht2.2.1
  clear hr hr2 hk1 hk2 hk3 hb hn hn2 ht ht2
  show Calls Try.prog 50 #[.int .i64 x, .int .i64 y, .pointer (some ⟨ba, 0, none⟩), .pointer (some ⟨bm, 0, none⟩), .pointer (some ⟨bb, 0, none⟩)] W _
  have hxd : x / q < n := Nat.div_lt_of_lt_mul (by rw [Nat.mul_comm]; exact hx)
  have hyd : y / q < n := Nat.div_lt_of_lt_mul (by rw [Nat.mul_comm]; exact hy)
  have hxm : x % q < q := Nat.mod_lt _ (by omega)
  have hym : y % q < q := Nat.mod_lt _ (by omega)
  have t1 : ((x : Int)).tdiv (q : Int) = ((x / q : Nat) : Int) := by rw [Int.ofNat_tdiv]
  have t2 : ((y : Int)).tdiv (q : Int) = ((y / q : Nat) : Int) := by rw [Int.ofNat_tdiv]
  have t3 : ((x : Int)).tmod (q : Int) = ((x % q : Nat) : Int) := by rw [Int.ofNat_tmod]
  have t4 : ((y : Int)).tmod (q : Int) = ((y % q : Nat) : Int) := by rw [Int.ofNat_tmod]
  unfold pdH
  have hu := HT.out.ap_lt HN.out hxd hyd
  have hu2 := HT2.out.ap_lt HN2.out hxm hym
  obtain ⟨xa, hxa⟩ : ∃ a, x / q = a := ⟨_, rfl⟩
  obtain ⟨ya, hya⟩ : ∃ a, y / q = a := ⟨_, rfl⟩
  obtain ⟨xb, hxb⟩ : ∃ a, x % q = a := ⟨_, rfl⟩
  obtain ⟨yb, hyb⟩ : ∃ a, y % q = a := ⟨_, rfl⟩
  rw [hxa] at hxd t1 hu ⊢
  rw [hya] at hyd t2 hu ⊢
  rw [hxb] at hxm t3 hu2 ⊢
  rw [hyb] at hym t4 hu2 ⊢
  obtain ⟨u, hue⟩ : ∃ a, ap f xa ya = a := ⟨_, rfl⟩
  obtain ⟨u2, hue2⟩ : ∃ a, ap f2 xb yb = a := ⟨_, rfl⟩
  rw [hue] at hu ⊢
  rw [hue2] at hu2 ⊢
  have HU := hide hue
  have HU2 := hide hue2
  have hb1 : u * q + u2 < 12 := by
    have h : (u + 1) * q ≤ n * q := Nat.mul_le_mul_right q hu
    rw [Nat.add_mul, Nat.one_mul] at h
    omega
  obtain ⟨uq, huq⟩ : ∃ a, u * q = a := ⟨_, rfl⟩
  rw [huq] at hb1 ⊢
  have t5 : (u : Int) * (q : Int) = (uq : Int) := by rw [← huq]; simp
  have t7 : (uq : Int) + (u2 : Int) = ((uq + u2 : Nat) : Int) := by simp
  have huq12 : uq < 12 := by omega
  obtain ⟨r1, hr1⟩ : ∃ a, uq + u2 = a := ⟨_, rfl⟩
  rw [hr1] at hb1 t7 ⊢
  have hq0 : ¬ (q : Int) = 0 := by omega
  have hq0n : ¬ q = 0 := by omega
  have e1 : IntKind.i64.wrap (xa : Int) = (xa : Int) := IntWalk.i64_in _ (by omega)
  have e2 : IntKind.i64.wrap (ya : Int) = (ya : Int) := IntWalk.i64_in _ (by omega)
  have e3 : IntKind.i64.wrap (xb : Int) = (xb : Int) := IntWalk.i64_in _ (by omega)
  have e4 : IntKind.i64.wrap (yb : Int) = (yb : Int) := IntWalk.i64_in _ (by omega)
  have e5 : IntKind.i64.wrap (uq : Int) = (uq : Int) := IntWalk.i64_in _ (by omega)
  have e6 : IntKind.i64.wrap (r1 : Int) = (r1 : Int) := IntWalk.i64_in _ (by omega)
  clear hxa hya hxb hyb hue hue2 huq hr1 hx hy hle
  go_enter Try.func50, Try.ntmps50
  go_upto_region 1 with fail
  refine wp_gen fun w1 hw1 => ?_
  have HBc : Hid (Below W.heap.size W w1) := hide (by rw [hw1]; exact Below.refl _ _)
  replace HKa : Hid (Blk w1 ba 26 [.slice A n c]) := hide (by rw [hw1]; exact HKa.out)
  replace HKb : Hid (Blk w1 bb 26 [.slice C q c2]) := hide (by rw [hw1]; exact HKb.out)
  replace HKm : Hid (Blk w1 bm 2 [.int .i64 q]) := hide (by rw [hw1]; exact HKm.out)
  clear hw1
  have k0 := HKa.out.cell 0 _ rfl
  have k1 := HKb.out.cell 0 _ rfl
  have k2 := HKm.out.cell 0 _ rfl
  have tok0 : True := trivial
  go_region_held3 (fun w' => w'.cell? ⟨ba, 0, none⟩ = some (.slice A n c) ∧ w'.cell? ⟨bb, 0, none⟩ = some (.slice C q c2) ∧ w'.cell? ⟨bm, 0, none⟩ = some (.int .i64 q)) (first | exact ⟨k0, k1, k2⟩ | go_keep) (first | (go_at_call 51; have _t := tok0; clear _t tok0; go_must (refine calls_gen fun wc hwc => ?_; (first | have hbx := drew_below hwc | have hbx := eq_below hwc); replace HBc := hide (HBc.out.trans (hbx.mono HBc.out.size)); replace HKa := hide (HKa.out.later hbx); replace HKb := hide (HKb.out.later hbx); replace HKm := hide (HKm.out.later hbx); clear hwc hbx; refine (act_any _ _ _ f xa ya u _ HN.out HT.out (HRA.out.later HBc.out) hxd hyd HU.out).mono ?_; rintro e wd ⟨rfl, hbd⟩; replace HBc := hide (HBc.out.trans (hbd.mono HBc.out.size)); replace HKa := hide (HKa.out.later hbd); replace HKb := hide (HKb.out.later hbd); replace HKm := hide (HKm.out.later hbd); clear hbd; have k0 := HKa.out.cell 0 _ rfl; have k1 := HKb.out.cell 0 _ rfl; have k2 := HKm.out.cell 0 _ rfl)) | (go_at_call 51; go_must (refine calls_gen fun wc hwc => ?_; (first | have hbx := drew_below hwc | have hbx := eq_below hwc); replace HBc := hide (HBc.out.trans (hbx.mono HBc.out.size)); replace HKa := hide (HKa.out.later hbx); replace HKb := hide (HKb.out.later hbx); replace HKm := hide (HKm.out.later hbx); clear hwc hbx; refine (act_any _ _ _ f2 xb yb u2 _ HN2.out HT2.out (HRB.out.later HBc.out) hxm hym HU2.out).mono ?_; rintro e wd ⟨rfl, hbd⟩; replace HBc := hide (HBc.out.trans (hbd.mono HBc.out.size)); replace HKa := hide (HKa.out.later hbd); replace HKb := hide (HKb.out.later hbd); replace HKm := hide (HKm.out.later hbd); clear hbd; have k0 := HKa.out.cell 0 _ rfl; have k1 := HKb.out.cell 0 _ rfl; have k2 := HKm.out.cell 0 _ rfl)))
  all_goals go_wp2_with fail
  all_goals go_ret
  all_goals exact ⟨rfl, HBc.out⟩

set_option maxRecDepth 100000 in
theorem udC_any (A : Option Addr) (n c : Nat) (f : List (List Int)) (C : Option Addr) (q c2 : Nat) (f2 : List (List Int)) (ba bb bm : Nat) (w : World) (hn : f.length = n) (ht : Tbl f) (hr : Rd2 w A f) (hn2 : f2.length = q) (ht2 : Tbl f2) (hr2 : Rd2 w C f2)
    (hk1 : Blk w ba 26 [.slice A n c]) (hk2 : Blk w bb 26 [.slice C q c2]) (hk3 : Blk w bm 2 [.int .i64 n]) (hle : n + q ≤ 12) :
    CellFn Try.prog 55 #[.pointer (some ⟨bm, 0, none⟩), .pointer (some ⟨ba, 0, none⟩), .pointer (some ⟨bb, 0, none⟩)] (n + q) (udH f f2 n) w := by
  intro W x y hx hy hb
  have HRA := hide (hr.later hb)
  have HRB := hide (hr2.later hb)
  have HKa := hide (hk1.later hb)
  have HKb := hide (hk2.later hb)
  have HKm := hide (hk3.later hb)
  have HT := hide ht
  have HT2 := hide ht2
  have HN := hide hn
  have HN2 := hide hn2
  have h1n : 1 ≤ n := by rw [← hn]; exact ht.1
  have h1q : 1 ≤ q := by rw [← hn2]; exact ht2.1
  have h12n : n ≤ 12 := by rw [← hn]; exact ht.2.1
  have h12q : q ≤ 12 := by rw [← hn2]; exact ht2.2.1
  clear hr hr2 hk1 hk2 hk3 hb hn hn2 ht ht2
  show Calls Try.prog 55 #[.int .i64 x, .int .i64 y, .pointer (some ⟨bm, 0, none⟩), .pointer (some ⟨ba, 0, none⟩), .pointer (some ⟨bb, 0, none⟩)] W _
  unfold udH
  by_cases h1 : x < n ∧ y < n
  · rw [if_pos h1]
    obtain ⟨u, hue⟩ : ∃ a, ap f x y = a := ⟨_, rfl⟩
    rw [hue]
    have HU := hide hue
    have hxz : (x : Int) < n := by omega
    have hyz : (y : Int) < n := by omega
    have HXY := hide h1
    clear h1 hue hx hy hle
    go_enter Try.func55, Try.ntmps55
    go_upto_region 1 with fail
    refine wp_gen fun w1 hw1 => ?_
    have HBc : Hid (Below W.heap.size W w1) := hide (by rw [hw1]; exact Below.refl _ _)
    replace HKa : Hid (Blk w1 ba 26 [.slice A n c]) := hide (by rw [hw1]; exact HKa.out)
    replace HKb : Hid (Blk w1 bb 26 [.slice C q c2]) := hide (by rw [hw1]; exact HKb.out)
    replace HKm : Hid (Blk w1 bm 2 [.int .i64 n]) := hide (by rw [hw1]; exact HKm.out)
    clear hw1
    have k0 := HKa.out.cell 0 _ rfl
    have k1 := HKb.out.cell 0 _ rfl
    have k2 := HKm.out.cell 0 _ rfl
    go_wp2_with fail
    refine calls_gen fun wc hwc => ?_
    have HBd : Hid (Below W.heap.size W wc) := hide (by rw [hwc]; first | exact HBc.out | exact bdrewN HBc.out _ | exact HBc.out.drew)
    clear hwc
    refine (act_any _ _ _ f x y u _ HN.out HT.out (HRA.out.later HBd.out) HXY.out.1 HXY.out.2 HU.out).mono ?_
    rintro e wd ⟨rfl, hbd⟩
    have HBe := hide (HBd.out.trans (hbd.mono HBd.out.size))
    clear hbd
    go_wp2_with fail
    go_ret
    exact ⟨rfl, HBe.out⟩
  · rw [if_neg h1]
    by_cases h2 : n ≤ x ∧ n ≤ y
    · rw [if_pos h2]
      obtain ⟨xb, hxb⟩ : ∃ a, x - n = a := ⟨_, rfl⟩
      obtain ⟨yb, hyb⟩ : ∃ a, y - n = a := ⟨_, rfl⟩
      rw [hxb, hyb]
      have hxq : xb < q := by omega
      have hyq : yb < q := by omega
      have e1 : (x : Int) - (n : Int) = (xb : Int) := by omega
      have e2 : (y : Int) - (n : Int) = (yb : Int) := by omega
      have hu2 := HT2.out.ap_lt HN2.out hxq hyq
      obtain ⟨u, hue⟩ : ∃ a, ap f2 xb yb = a := ⟨_, rfl⟩
      rw [hue] at hu2 ⊢
      have HU := hide hue
      obtain ⟨u', hu'⟩ : ∃ a, u + n = a := ⟨_, rfl⟩
      rw [hu']
      have e3 : (n : Int) + (u : Int) = (u' : Int) := by omega
      have g1 : ¬ (x : Int) < n := by omega
      have g2 : ¬ (y : Int) < n := by omega
      have g3 : (n : Int) ≤ x := by omega
      have g4 : (n : Int) ≤ y := by omega
      have hx24 : x < 24 := by omega
      have hy24 : y < 24 := by omega
      have hu24 : u' < 24 := by omega
      have e4 : IntKind.i64.wrap (xb : Int) = (xb : Int) := IntWalk.i64_in _ (by omega)
      have e5 : IntKind.i64.wrap (yb : Int) = (yb : Int) := IntWalk.i64_in _ (by omega)
      have e6 : IntKind.i64.wrap (u' : Int) = (u' : Int) := IntWalk.i64_in _ (by omega)
      clear h1 h2 hue hx hy hle hxb hyb hu' hu2
      go_enter Try.func55, Try.ntmps55
      go_upto_region 1 with fail
      refine wp_gen fun w1 hw1 => ?_
      have HBc : Hid (Below W.heap.size W w1) := hide (by rw [hw1]; exact Below.refl _ _)
      replace HKa : Hid (Blk w1 ba 26 [.slice A n c]) := hide (by rw [hw1]; exact HKa.out)
      replace HKb : Hid (Blk w1 bb 26 [.slice C q c2]) := hide (by rw [hw1]; exact HKb.out)
      replace HKm : Hid (Blk w1 bm 2 [.int .i64 n]) := hide (by rw [hw1]; exact HKm.out)
      clear hw1
      have k0 := HKa.out.cell 0 _ rfl
      have k1 := HKb.out.cell 0 _ rfl
      have k2 := HKm.out.cell 0 _ rfl

      go_upto_region 4 with fail
      go_region_held3 (fun w' => w'.cell? ⟨ba, 0, none⟩ = some (.slice A n c) ∧ w'.cell? ⟨bb, 0, none⟩ = some (.slice C q c2) ∧ w'.cell? ⟨bm, 0, none⟩ = some (.int .i64 n)) (first | exact ⟨k0, k1, k2⟩ | go_keep) (first | (go_at_call 51; go_must (refine calls_gen fun wc hwc => ?_; (first | have hbx := drew_below hwc | have hbx := eq_below hwc); replace HBc := hide (HBc.out.trans (hbx.mono HBc.out.size)); replace HKa := hide (HKa.out.later hbx); replace HKb := hide (HKb.out.later hbx); replace HKm := hide (HKm.out.later hbx); clear hwc hbx; refine (act_any _ _ _ f2 xb yb u _ HN2.out HT2.out (HRB.out.later HBc.out) hxq hyq HU.out).mono ?_; rintro e wd ⟨rfl, hbd⟩; replace HBc := hide (HBc.out.trans (hbd.mono HBc.out.size)); replace HKa := hide (HKa.out.later hbd); replace HKb := hide (HKb.out.later hbd); replace HKm := hide (HKm.out.later hbd); clear hbd; have k0 := HKa.out.cell 0 _ rfl; have k1 := HKb.out.cell 0 _ rfl; have k2 := HKm.out.cell 0 _ rfl)))
      all_goals go_wp2_with fail
      all_goals go_ret
      all_goals exact ⟨rfl, HBc.out⟩
    · rw [if_neg h2]
      have hcs : (x < n ∧ n ≤ y) ∨ (y < n ∧ n ≤ x) := by omega
      have hx24 : x < 24 := by omega
      have hy24 : y < 24 := by omega
      clear h1 h2 hx hy hle
      go_enter Try.func55, Try.ntmps55
      go_upto_region 1 with fail
      refine wp_gen fun w1 hw1 => ?_
      have HBc : Hid (Below W.heap.size W w1) := hide (by rw [hw1]; exact Below.refl _ _)
      replace HKa : Hid (Blk w1 ba 26 [.slice A n c]) := hide (by rw [hw1]; exact HKa.out)
      replace HKb : Hid (Blk w1 bb 26 [.slice C q c2]) := hide (by rw [hw1]; exact HKb.out)
      replace HKm : Hid (Blk w1 bm 2 [.int .i64 n]) := hide (by rw [hw1]; exact HKm.out)
      clear hw1
      have k0 := HKa.out.cell 0 _ rfl
      have k1 := HKb.out.cell 0 _ rfl
      have k2 := HKm.out.cell 0 _ rfl
      rcases hcs with ⟨h1, h2⟩ | ⟨h1, h2⟩
      · have g1 : (x : Int) < n := by omega
        have g2 : ¬ (y : Int) < n := by omega
        have g3 : ¬ (n : Int) ≤ x := by omega
        have g4 : (n : Int) ≤ y := by omega
        clear h1 h2
        go_wp2_with fail
        go_ret
        exact ⟨rfl, HBc.out⟩
      · have g1 : ¬ (x : Int) < n := by omega
        have g2 : (y : Int) < n := by omega
        have g3 : (n : Int) ≤ x := by omega
        have g4 : ¬ (n : Int) ≤ y := by omega
        clear h1 h2
        go_wp2_with fail
        go_ret
        exact ⟨rfl, HBc.out⟩
end Go.Proofs.Ytkflmhmbkilmpac
namespace Go.Proofs.Ytkflmhmbkilmpac
open Go Go.RowKit
set_option maxHeartbeats 2000000

set_option maxRecDepth 100000 in
theorem udI_any (A : Option Addr) (n c : Nat) (f : List (List Int)) (C : Option Addr) (q c2 : Nat) (f2 : List (List Int)) (zs : List (List Int)) (code : Int) (k : Nat) (w : World) (hn : f.length = n) (hb : n ≤ 1048576) (hbs : ∀ i, i < f.length → (f.getD i []).length ≤ 1048576) (hr : Rd2 w A f) (hn2 : f2.length = q) (hb2 : q ≤ 1048576) (hbs2 : ∀ i, i < f2.length → (f2.getD i []).length ≤ 1048576) (hr2 : Rd2 w C f2) (hres : UdRes f f2 zs code) (hk : zs.length = k) :
    Calls Try.prog 20 #[.agg #[.slice A n c], .agg #[.slice C q c2]] w (fun e w' => ∃ A' c', e = .returned (.tuple #[.agg #[.slice A' k c'], .int .i64 code]) ∧ Below w.heap.size w w' ∧ Obj2 33 2 w.heap.size w'.heap.size w' A' zs) := by
  have HN := hide hn
  have HBS := hide hbs
  have HRD := hide hr
  have HN2 := hide hn2
  have HBS2 := hide hbs2
  have HRD2 := hide hr2
  clear hn hbs hr hn2 hbs2 hr2
  rcases hres with ⟨hg, hlim, rfl, rfl⟩ | ⟨hg, hlim, rfl, rfl⟩ | ⟨hg, rfl, rfl⟩
  · have HT1 := hide hg.1.tbl
    have HT2 := hide hg.2.tbl
    have HRK1 : Hid (RkRes f true) := hide (by unfold RkRes; simp [hg.1])
    have HRK2 : Hid (RkRes f2 true) := hide (by unfold RkRes; simp [hg.2])
    have hn0 : 1 ≤ n ∧ n ≤ 12 := by have h := hg.1.tbl; rw [← HN.out]; exact ⟨h.1, h.2.1⟩
    have hq0 : 1 ≤ q ∧ q ≤ 12 := by have h := hg.2.tbl; rw [← HN2.out]; exact ⟨h.1, h.2.1⟩
    obtain ⟨sz, hsz⟩ : ∃ a, n + q = a := ⟨_, rfl⟩
    have hsq : sz ≤ 24 := by omega
    have h1s : 1 ≤ sz := by omega
    have hsi : (n : Int) + (q : Int) = (sz : Int) := by rw [← hsz]; simp
    have hwk : IntKind.i64.wrap (sz : Int) = (sz : Int) := IntWalk.i64_in _ (by omega)
    have HSZ := hide hsz
    have hkk : k = sz := by rw [← hk, grid_length, HN.out, HN2.out, hsz]
    have hle : sz ≤ 12 := by rw [← hsz, ← HN.out, ← HN2.out]; exact hlim
    subst hkk
    rw [HN.out, HN2.out, HSZ.out]
    clear hg hk hlim hsz
    go_enter Try.func20, Try.ntmps20
    go_wp2_with fail
    refine calls_gen fun wd hw0 => ?_
    have HB : Hid (Below w.heap.size w wd) := hide (by rw [hw0]; exact (((Below.refl _ _).alloc (Nat.le_refl _) _).alloc (by simp) _).alloc (by simp; omega) _)
    have HK : Hid (Blk wd w.heap.size 26 [.slice A n c]) := hide (by rw [hw0]; exact ((Blk.new _ _ _).alloc _).alloc _)
    have HL : Hid (Blk wd (w.heap.size + 1) 26 [.slice C q c2]) := hide (by rw [hw0]; have h := (Blk.new (w.alloc (Obj.cells #[.slice A n c] 26)) 26 [.slice C q c2]).alloc (Obj.cells #[.slice none 0 0] 26); simpa using h)
    have HR : Hid (Blk wd (w.heap.size + 1 + 1) 26 [.slice none 0 0]) := hide (by rw [hw0]; have h := Blk.new ((w.alloc (Obj.cells #[.slice A n c] 26)).alloc (Obj.cells #[.slice C q c2] 26)) 26 [.slice none 0 0]; simpa using h)
    clear hw0
    have hng : ¬ (12 : Int) < (k : Int) := by omega
    refine (isRackI _ _ _ f true _ HN.out hb HBS.out (HRD.out.later HB.out) HRK1.out).mono ?_
    rintro e wd ⟨rfl, hbd⟩
    replace HB := hide (HB.out.trans (hbd.mono HB.out.size))
    replace HK := hide (HK.out.later hbd)
    replace HL := hide (HL.out.later hbd)
    replace HR := hide (HR.out.later hbd)
    clear hbd
    have k0 := HK.out.cell 0 _ rfl
    have k1 := HL.out.cell 0 _ rfl
    go_wp2_with fail
    clear k0 k1
    refine (isRackI _ _ _ f2 true _ HN2.out hb2 HBS2.out (HRD2.out.later HB.out) HRK2.out).mono ?_
    rintro e wd ⟨rfl, hbd⟩
    replace HB := hide (HB.out.trans (hbd.mono HB.out.size))
    replace HK := hide (HK.out.later hbd)
    replace HL := hide (HL.out.later hbd)
    replace HR := hide (HR.out.later hbd)
    clear hbd
    have k0 := HK.out.cell 0 _ rfl
    have k1 := HL.out.cell 0 _ rfl
    go_wp2_with fail
    refine (ksize_any _ n _ _ (by omega)).mono ?_
    rintro e wd ⟨rfl, hbd⟩
    replace HB := hide (HB.out.trans (hbd.mono HB.out.size))
    replace HK := hide (HK.out.later hbd)
    replace HL := hide (HL.out.later hbd)
    replace HR := hide (HR.out.later hbd)
    clear hbd
    go_wp2_with fail
    refine wp_gen fun w5 hw5 => ?_
    obtain ⟨Lm, hLm⟩ : ∃ L, wd.heap.size = L := ⟨_, rfl⟩
    have hb5 : Below wd.heap.size wd w5 := by rw [hw5]; exact (Below.refl _ _).alloc (Nat.le_refl _) _
    have HM : Hid (Blk w5 Lm 2 [.int .i64 n]) := hide (by rw [hw5, ← hLm]; exact Blk.new _ _ _)
    have HLM : Hid (w.heap.size + 1 + 1 < Lm) := hide (by rw [← hLm]; exact HR.out.lt)
    replace HB := hide (HB.out.trans (hb5.mono HB.out.size))
    replace HK := hide (HK.out.later hb5)
    replace HL := hide (HL.out.later hb5)
    replace HR := hide (HR.out.later hb5)
    rw [hLm]
    clear hw5 hb5 hLm k0 k1
    have k0 := HK.out.cell 0 _ rfl
    have k1 := HL.out.cell 0 _ rfl
    have k4 := HM.out.cell 0 _ rfl
    go_region_held3 (fun w' => w'.cell? ⟨w.heap.size + 1, 0, none⟩ = some (.slice C q c2) ∧ w'.cell? ⟨Lm, 0, none⟩ = some (.int .i64 n)) (first | exact ⟨k1, k4⟩ | go_keep) (first | (go_at_call 48; go_must (refine calls_gen fun wc hwc => ?_; (first | have hbx := drew_below hwc | have hbx := eq_below hwc); replace HB := hide (HB.out.trans (hbx.mono HB.out.size)); replace HK := hide (HK.out.later hbx); replace HL := hide (HL.out.later hbx); replace HR := hide (HR.out.later hbx); replace HM := hide (HM.out.later hbx); clear hwc hbx; refine (ksize_any _ q _ _ (by omega)).mono ?_; rintro e wd ⟨rfl, hbd⟩; replace HB := hide (HB.out.trans (hbd.mono HB.out.size)); replace HK := hide (HK.out.later hbd); replace HL := hide (HL.out.later hbd); replace HR := hide (HR.out.later hbd); replace HM := hide (HM.out.later hbd); clear hbd; have k0 := HK.out.cell 0 _ rfl; have k1 := HL.out.cell 0 _ rfl; have k4 := HM.out.cell 0 _ rfl)))
    all_goals
      clear k0 k1 k4
      go_wp2_with fail
      refine (rackOf_any 55 _ k (udH f f2 n) _ (enters_of Try.func55 (by kernel_rfl) rfl) h1s hle (by have h := udC_any _ _ _ f _ _ _ f2 w.heap.size (w.heap.size + 1) Lm _ HN.out HT1.out (HRD.out.later HB.out) HN2.out HT2.out (HRD2.out.later HB.out) HK.out HL.out HM.out (by rw [HSZ.out]; exact hle); rw [HSZ.out] at h; exact h)).mono ?_
      rintro e we ⟨A3, c3, rfl, hbd, ho3⟩
      have HO3 := hide ho3
      have hlow : w.heap.size + 1 + 1 < wd.heap.size := HR.out.lt
      replace HB := hide (HB.out.trans (hbd.mono HB.out.size))
      replace HR := hide (HR.out.later hbd)
      clear hbd ho3
      have k2 := fun o => (HR.out.alloc o).cell 0 _ rfl
      have k3 := fun o => (HR.out.alloc o).frozen 0
      go_wp2_with fail
      refine bp_gen fun wf hwf => ?_
      obtain ⟨q0, hbf, hof⟩ := kend hwf (HR.out.alloc _) (by omega) (HB.out.alloc HB.out.size _) (HO3.out.later ((Below.refl _ _).alloc (Nat.le_refl _) _)) (by omega) hlow (by simp)
      clear hwf k2 k3
      exact bodyPost_ret (v := .tuple #[.agg #[.slice A3 k c3], .int .i64 0]) (by simp [results, Try.results20, go_sem, q0]) rfl ⟨_, _, rfl, hbf, hof⟩
  · have HT1 := hide hg.1.tbl
    have HT2 := hide hg.2.tbl
    have HRK1 : Hid (RkRes f true) := hide (by unfold RkRes; simp [hg.1])
    have HRK2 : Hid (RkRes f2 true) := hide (by unfold RkRes; simp [hg.2])
    have hn0 : 1 ≤ n ∧ n ≤ 12 := by have h := hg.1.tbl; rw [← HN.out]; exact ⟨h.1, h.2.1⟩
    have hq0 : 1 ≤ q ∧ q ≤ 12 := by have h := hg.2.tbl; rw [← HN2.out]; exact ⟨h.1, h.2.1⟩
    obtain ⟨sz, hsz⟩ : ∃ a, n + q = a := ⟨_, rfl⟩
    have hsq : sz ≤ 24 := by omega
    have h1s : 1 ≤ sz := by omega
    have hsi : (n : Int) + (q : Int) = (sz : Int) := by rw [← hsz]; simp
    have hwk : IntKind.i64.wrap (sz : Int) = (sz : Int) := IntWalk.i64_in _ (by omega)
    have HSZ := hide hsz
    have hgl : ¬ sz ≤ 12 := by rw [← hsz, ← HN.out, ← HN2.out]; exact hlim
    obtain rfl : k = 0 := by simpa using hk.symm
    clear hk
    clear hg hlim hsz
    go_enter Try.func20, Try.ntmps20
    go_wp2_with fail
    refine calls_gen fun wd hw0 => ?_
    have HB : Hid (Below w.heap.size w wd) := hide (by rw [hw0]; exact (((Below.refl _ _).alloc (Nat.le_refl _) _).alloc (by simp) _).alloc (by simp; omega) _)
    have HK : Hid (Blk wd w.heap.size 26 [.slice A n c]) := hide (by rw [hw0]; exact ((Blk.new _ _ _).alloc _).alloc _)
    have HL : Hid (Blk wd (w.heap.size + 1) 26 [.slice C q c2]) := hide (by rw [hw0]; have h := (Blk.new (w.alloc (Obj.cells #[.slice A n c] 26)) 26 [.slice C q c2]).alloc (Obj.cells #[.slice none 0 0] 26); simpa using h)
    have HR : Hid (Blk wd (w.heap.size + 1 + 1) 26 [.slice none 0 0]) := hide (by rw [hw0]; have h := Blk.new ((w.alloc (Obj.cells #[.slice A n c] 26)).alloc (Obj.cells #[.slice C q c2] 26)) 26 [.slice none 0 0]; simpa using h)
    clear hw0
    have hgt : (12 : Int) < (sz : Int) := by omega
    refine (isRackI _ _ _ f true _ HN.out hb HBS.out (HRD.out.later HB.out) HRK1.out).mono ?_
    rintro e wd ⟨rfl, hbd⟩
    replace HB := hide (HB.out.trans (hbd.mono HB.out.size))
    replace HK := hide (HK.out.later hbd)
    replace HL := hide (HL.out.later hbd)
    replace HR := hide (HR.out.later hbd)
    clear hbd
    have k0 := HK.out.cell 0 _ rfl
    have k1 := HL.out.cell 0 _ rfl
    go_wp2_with fail
    clear k0 k1
    refine (isRackI _ _ _ f2 true _ HN2.out hb2 HBS2.out (HRD2.out.later HB.out) HRK2.out).mono ?_
    rintro e wd ⟨rfl, hbd⟩
    replace HB := hide (HB.out.trans (hbd.mono HB.out.size))
    replace HK := hide (HK.out.later hbd)
    replace HL := hide (HL.out.later hbd)
    replace HR := hide (HR.out.later hbd)
    clear hbd
    have k0 := HK.out.cell 0 _ rfl
    have k1 := HL.out.cell 0 _ rfl
    go_wp2_with fail
    refine (ksize_any _ n _ _ (by omega)).mono ?_
    rintro e wd ⟨rfl, hbd⟩
    replace HB := hide (HB.out.trans (hbd.mono HB.out.size))
    replace HK := hide (HK.out.later hbd)
    replace HL := hide (HL.out.later hbd)
    replace HR := hide (HR.out.later hbd)
    clear hbd
    go_wp2_with fail
    refine wp_gen fun w5 hw5 => ?_
    obtain ⟨Lm, hLm⟩ : ∃ L, wd.heap.size = L := ⟨_, rfl⟩
    have hb5 : Below wd.heap.size wd w5 := by rw [hw5]; exact (Below.refl _ _).alloc (Nat.le_refl _) _
    have HM : Hid (Blk w5 Lm 2 [.int .i64 n]) := hide (by rw [hw5, ← hLm]; exact Blk.new _ _ _)
    have HLM : Hid (w.heap.size + 1 + 1 < Lm) := hide (by rw [← hLm]; exact HR.out.lt)
    replace HB := hide (HB.out.trans (hb5.mono HB.out.size))
    replace HK := hide (HK.out.later hb5)
    replace HL := hide (HL.out.later hb5)
    replace HR := hide (HR.out.later hb5)
    rw [hLm]
    clear hw5 hb5 hLm k0 k1
    have k0 := HK.out.cell 0 _ rfl
    have k1 := HL.out.cell 0 _ rfl
    have k4 := HM.out.cell 0 _ rfl
    go_region_held3 (fun w' => w'.cell? ⟨w.heap.size + 1, 0, none⟩ = some (.slice C q c2) ∧ w'.cell? ⟨Lm, 0, none⟩ = some (.int .i64 n)) (first | exact ⟨k1, k4⟩ | go_keep) (first | (go_at_call 48; go_must (refine calls_gen fun wc hwc => ?_; (first | have hbx := drew_below hwc | have hbx := eq_below hwc); replace HB := hide (HB.out.trans (hbx.mono HB.out.size)); replace HK := hide (HK.out.later hbx); replace HL := hide (HL.out.later hbx); replace HR := hide (HR.out.later hbx); replace HM := hide (HM.out.later hbx); clear hwc hbx; refine (ksize_any _ q _ _ (by omega)).mono ?_; rintro e wd ⟨rfl, hbd⟩; replace HB := hide (HB.out.trans (hbd.mono HB.out.size)); replace HK := hide (HK.out.later hbd); replace HL := hide (HL.out.later hbd); replace HR := hide (HR.out.later hbd); replace HM := hide (HM.out.later hbd); clear hbd; have k0 := HK.out.cell 0 _ rfl; have k1 := HL.out.cell 0 _ rfl; have k4 := HM.out.cell 0 _ rfl)))
    all_goals
      clear k0 k1 k4
      have k2 := HR.out.cell 0 _ rfl
      have k3 := HR.out.frozen 0
      go_wp2_with fail
      refine bp_gen fun wf hwf => ?_
      have HRF : Blk wf (w.heap.size + 1 + 1) 26 [.slice none 0 0] := by rw [hwf]; first | exact HR.out | exact HR.out.set 0 _
      have hbf : Below w.heap.size w wf := by rw [hwf]; first | exact HB.out | exact HB.out.setCell (p := ⟨w.heap.size + 1 + 1, 0, none⟩) (by show w.heap.size ≤ w.heap.size + 1 + 1; omega) _
      have q0 := HRF.cell 0 _ rfl
      clear hwf k2 k3
      exact bodyPost_ret (v := .tuple #[.agg #[.slice none 0 0], .int .i64 3]) (by simp [results, Try.results20, go_sem, q0]) rfl ⟨_, _, rfl, hbf, .inl ⟨rfl, rfl⟩⟩
  · by_cases h1 : Rck f
    · have h2 : ¬ Rck f2 := fun h => hg ⟨h1, h⟩
      have HRK1 : Hid (RkRes f true) := hide (by unfold RkRes; simp [h1])
      have HRK2 : Hid (RkRes f2 false) := hide (by unfold RkRes; simp [h2])
      obtain rfl : k = 0 := by simpa using hk.symm
      clear hk
      clear hg h1 h2
      go_enter Try.func20, Try.ntmps20
      go_wp2_with fail
      refine calls_gen fun wd hw0 => ?_
      have HB : Hid (Below w.heap.size w wd) := hide (by rw [hw0]; exact (((Below.refl _ _).alloc (Nat.le_refl _) _).alloc (by simp) _).alloc (by simp; omega) _)
      have HK : Hid (Blk wd w.heap.size 26 [.slice A n c]) := hide (by rw [hw0]; exact ((Blk.new _ _ _).alloc _).alloc _)
      have HL : Hid (Blk wd (w.heap.size + 1) 26 [.slice C q c2]) := hide (by rw [hw0]; have h := (Blk.new (w.alloc (Obj.cells #[.slice A n c] 26)) 26 [.slice C q c2]).alloc (Obj.cells #[.slice none 0 0] 26); simpa using h)
      have HR : Hid (Blk wd (w.heap.size + 1 + 1) 26 [.slice none 0 0]) := hide (by rw [hw0]; have h := Blk.new ((w.alloc (Obj.cells #[.slice A n c] 26)).alloc (Obj.cells #[.slice C q c2] 26)) 26 [.slice none 0 0]; simpa using h)
      clear hw0
      refine (isRackI _ _ _ f true _ HN.out hb HBS.out (HRD.out.later HB.out) HRK1.out).mono ?_
      rintro e wd ⟨rfl, hbd⟩
      replace HB := hide (HB.out.trans (hbd.mono HB.out.size))
      replace HK := hide (HK.out.later hbd)
      replace HL := hide (HL.out.later hbd)
      replace HR := hide (HR.out.later hbd)
      clear hbd
      have k0 := HK.out.cell 0 _ rfl
      have k1 := HL.out.cell 0 _ rfl
      go_wp2_with fail
      clear k0 k1
      refine (isRackI _ _ _ f2 false _ HN2.out hb2 HBS2.out (HRD2.out.later HB.out) HRK2.out).mono ?_
      rintro e wd ⟨rfl, hbd⟩
      replace HB := hide (HB.out.trans (hbd.mono HB.out.size))
      replace HK := hide (HK.out.later hbd)
      replace HL := hide (HL.out.later hbd)
      replace HR := hide (HR.out.later hbd)
      clear hbd
      have k2 := HR.out.cell 0 _ rfl
      have k3 := HR.out.frozen 0
      go_wp2_with fail
      refine bp_gen fun wf hwf => ?_
      have HRF : Blk wf (w.heap.size + 1 + 1) 26 [.slice none 0 0] := by rw [hwf]; first | exact HR.out | exact HR.out.set 0 _
      have hbf : Below w.heap.size w wf := by rw [hwf]; first | exact HB.out | exact HB.out.setCell (p := ⟨w.heap.size + 1 + 1, 0, none⟩) (by show w.heap.size ≤ w.heap.size + 1 + 1; omega) _
      have q0 := HRF.cell 0 _ rfl
      clear hwf k2 k3
      exact bodyPost_ret (v := .tuple #[.agg #[.slice none 0 0], .int .i64 1]) (by simp [results, Try.results20, go_sem, q0]) rfl ⟨_, _, rfl, hbf, .inl ⟨rfl, rfl⟩⟩
    · have HRK1 : Hid (RkRes f false) := hide (by unfold RkRes; simp [h1])
      obtain rfl : k = 0 := by simpa using hk.symm
      clear hk
      clear hg h1
      go_enter Try.func20, Try.ntmps20
      go_wp2_with fail
      refine calls_gen fun wd hw0 => ?_
      have HB : Hid (Below w.heap.size w wd) := hide (by rw [hw0]; exact (((Below.refl _ _).alloc (Nat.le_refl _) _).alloc (by simp) _).alloc (by simp; omega) _)
      have HK : Hid (Blk wd w.heap.size 26 [.slice A n c]) := hide (by rw [hw0]; exact ((Blk.new _ _ _).alloc _).alloc _)
      have HL : Hid (Blk wd (w.heap.size + 1) 26 [.slice C q c2]) := hide (by rw [hw0]; have h := (Blk.new (w.alloc (Obj.cells #[.slice A n c] 26)) 26 [.slice C q c2]).alloc (Obj.cells #[.slice none 0 0] 26); simpa using h)
      have HR : Hid (Blk wd (w.heap.size + 1 + 1) 26 [.slice none 0 0]) := hide (by rw [hw0]; have h := Blk.new ((w.alloc (Obj.cells #[.slice A n c] 26)).alloc (Obj.cells #[.slice C q c2] 26)) 26 [.slice none 0 0]; simpa using h)
      clear hw0
      refine (isRackI _ _ _ f false _ HN.out hb HBS.out (HRD.out.later HB.out) HRK1.out).mono ?_
      rintro e wd ⟨rfl, hbd⟩
      replace HB := hide (HB.out.trans (hbd.mono HB.out.size))
      replace HK := hide (HK.out.later hbd)
      replace HL := hide (HL.out.later hbd)
      replace HR := hide (HR.out.later hbd)
      clear hbd
      have k2 := HR.out.cell 0 _ rfl
      have k3 := HR.out.frozen 0
      go_wp2_with fail
      refine bp_gen fun wf hwf => ?_
      have HRF : Blk wf (w.heap.size + 1 + 1) 26 [.slice none 0 0] := by rw [hwf]; first | exact HR.out | exact HR.out.set 0 _
      have hbf : Below w.heap.size w wf := by rw [hwf]; first | exact HB.out | exact HB.out.setCell (p := ⟨w.heap.size + 1 + 1, 0, none⟩) (by show w.heap.size ≤ w.heap.size + 1 + 1; omega) _
      have q0 := HRF.cell 0 _ rfl
      clear hwf k2 k3
      exact bodyPost_ret (v := .tuple #[.agg #[.slice none 0 0], .int .i64 1]) (by simp [results, Try.results20, go_sem, q0]) rfl ⟨_, _, rfl, hbf, .inl ⟨rfl, rfl⟩⟩

end Go.Proofs.Ytkflmhmbkilmpac
namespace Go.Proofs.Ytkflmhmbkilmpac
open Go Go.RowKit
set_option maxHeartbeats 4000000

set_option maxRecDepth 100000 in
theorem udS_any (A : Option Addr) (n c : Nat) (f : List (List Int)) (C : Option Addr) (q c2 : Nat) (f2 : List (List Int)) (zs : List (List Int)) (code : Int) (k : Nat) (w : World) (hn : f.length = n) (hb : n ≤ 1048576) (hbs : ∀ i, i < f.length → (f.getD i []).length ≤ 1048576) (hr : Rd2 w A f) (hn2 : f2.length = q) (hb2 : q ≤ 1048576) (hbs2 : ∀ i, i < f2.length → (f2.getD i []).length ≤ 1048576) (hr2 : Rd2 w C f2) (hres : UdRes f f2 zs code) (hk : zs.length = k) :
    Calls Try.prog 19 #[.agg #[.slice A n c], .agg #[.slice C q c2]] w (fun e w' => ∃ A' c', e = .returned (.tuple #[.agg #[.slice A' k c'], .int .i64 code]) ∧ Below w.heap.size w w' ∧ Obj2 33 2 w.heap.size w'.heap.size w' A' zs) := by
  have HN := hide hn
  have HBS := hide hbs
  have HRD := hide hr
  have HN2 := hide hn2
  have HBS2 := hide hbs2
  have HRD2 := hide hr2
  clear hn hbs hr hn2 hbs2 hr2
  rcases hres with ⟨hg, hlim, rfl, rfl⟩ | ⟨hg, hlim, rfl, rfl⟩ | ⟨hg, rfl, rfl⟩
  · have HT1 := hide hg.1.tbl
    have HT2 := hide hg.2.tbl
    have HRK1 : Hid (RkRes f true) := hide (by unfold RkRes; simp [hg.1])
    have HRK2 : Hid (RkRes f2 true) := hide (by unfold RkRes; simp [hg.2])
    have hn0 : 1 ≤ n ∧ n ≤ 12 := by have h := hg.1.tbl; rw [← HN.out]; exact ⟨h.1, h.2.1⟩
    have hq0 : 1 ≤ q ∧ q ≤ 12 := by have h := hg.2.tbl; rw [← HN2.out]; exact ⟨h.1, h.2.1⟩
    obtain ⟨sz, hsz⟩ : ∃ a, n + q = a := ⟨_, rfl⟩
    have hsq : sz ≤ 24 := by omega
    have h1s : 1 ≤ sz := by omega
    have hsi : (n : Int) + (q : Int) = (sz : Int) := by rw [← hsz]; simp
    have hwk : IntKind.i64.wrap (sz : Int) = (sz : Int) := IntWalk.i64_in _ (by omega)
    have HSZ := hide hsz
    have hkk : k = sz := by rw [← hk, grid_length, HN.out, HN2.out, hsz]
    have hle : sz ≤ 12 := by rw [← hsz, ← HN.out, ← HN2.out]; exact hlim
    subst hkk
    rw [HN.out, HN2.out, HSZ.out]
    clear hg hk hlim hsz
    have hng : ¬ (12 : Int) < (k : Int) := by omega
    obtain ⟨b1, o1, hA, hb1w, hc1⟩ := HT1.out.cells HRD.out HN.out
    obtain ⟨b2, o2, hC, hb2w, hc2⟩ := HT2.out.cells HRD2.out HN2.out
    subst hA
    subst hC
    have HC1 := hide hc1
    have HC2 := hide hc2
    clear hc1 hc2
    obtain ⟨H, hH⟩ : ∃ H, udH f f2 n = H := ⟨_, rfl⟩
    rw [hH]
    have HH := hide hH
    clear hH
    obtain ⟨i0, hi, hz0, hz1, hz2⟩ := info_parts neInfo
    obtain ⟨i2, hj, hy0, hy1, hy2⟩ := info_parts neInfo2
    go_enter Try.func19, Try.ntmps19
    go_wp2_with fail
    refine calls_gen fun wd hw0 => ?_
    have HB : Hid (Below w.heap.size w wd) := hide (by rw [hw0]; exact (((Below.refl _ _).alloc (Nat.le_refl _) _).alloc (by simp) _).alloc (by simp; omega) _)
    have HK : Hid (Blk wd w.heap.size 26 [.slice (some ⟨b1, o1, none⟩) n c]) := hide (by rw [hw0]; exact ((Blk.new _ _ _).alloc _).alloc _)
    have HL : Hid (Blk wd (w.heap.size + 1) 26 [.slice (some ⟨b2, o2, none⟩) q c2]) := hide (by rw [hw0]; have h := (Blk.new (w.alloc (Obj.cells #[.slice (some ⟨b1, o1, none⟩) n c] 26)) 26 [.slice (some ⟨b2, o2, none⟩) q c2]).alloc (Obj.cells #[.slice none 0 0] 26); simpa using h)
    have HR : Hid (Blk wd (w.heap.size + 1 + 1) 26 [.slice none 0 0]) := hide (by rw [hw0]; have h := Blk.new ((w.alloc (Obj.cells #[.slice (some ⟨b1, o1, none⟩) n c] 26)).alloc (Obj.cells #[.slice (some ⟨b2, o2, none⟩) q c2] 26)) 26 [.slice none 0 0]; simpa using h)
    clear hw0
    refine (isRackS _ _ _ f true _ HN.out hb HBS.out (HRD.out.later HB.out) HRK1.out).mono ?_
    rintro e wd ⟨rfl, hbd⟩
    replace HB := hide (HB.out.trans (hbd.mono HB.out.size))
    replace HK := hide (HK.out.later hbd)
    replace HL := hide (HL.out.later hbd)
    replace HR := hide (HR.out.later hbd)
    clear hbd
    have k0 := HK.out.cell 0 _ rfl
    have k1 := HL.out.cell 0 _ rfl
    go_wp2_with fail
    clear k0 k1
    refine (isRackS _ _ _ f2 true _ HN2.out hb2 HBS2.out (HRD2.out.later HB.out) HRK2.out).mono ?_
    rintro e wd ⟨rfl, hbd⟩
    replace HB := hide (HB.out.trans (hbd.mono HB.out.size))
    replace HK := hide (HK.out.later hbd)
    replace HL := hide (HL.out.later hbd)
    replace HR := hide (HR.out.later hbd)
    clear hbd
    have k0 := HK.out.cell 0 _ rfl
    have k1 := HL.out.cell 0 _ rfl
    go_wp2_with fail
    go_region_held3 (fun w' => w'.cell? ⟨w.heap.size, 0, none⟩ = some (.slice (some ⟨b1, o1, none⟩) n c) ∧ w'.cell? ⟨w.heap.size + 1, 0, none⟩ = some (.slice (some ⟨b2, o2, none⟩) q c2)) (first | exact ⟨k0, k1⟩ | go_keep) (first | fail)
    all_goals
      clear k0 k1
      go_wp2_with fail
      refine wp_gen fun w2 hw2 => ?_
      obtain ⟨ob, hob⟩ : ∃ ob, wd.heap.size = ob := ⟨_, rfl⟩
      have hob1 : w.heap.size + 1 + 1 < ob := by rw [← hob]; exact HR.out.lt
      replace HB : Hid (Below w.heap.size w w2) := hide (by rw [hw2]; first | exact HB.out.drew.alloc HB.out.size _ | exact HB.out.alloc HB.out.size _)
      replace HK : Hid (Blk w2 w.heap.size 26 [.slice (some ⟨b1, o1, none⟩) n c]) := hide (by rw [hw2]; first | exact HK.out.drew.alloc _ | exact HK.out.alloc _)
      replace HL : Hid (Blk w2 (w.heap.size + 1) 26 [.slice (some ⟨b2, o2, none⟩) q c2]) := hide (by rw [hw2]; first | exact HL.out.drew.alloc _ | exact HL.out.alloc _)
      replace HR : Hid (Blk w2 (w.heap.size + 1 + 1) 26 [.slice none 0 0]) := hide (by rw [hw2]; first | exact HR.out.drew.alloc _ | exact HR.out.alloc _)
      have HO2 : Hid (Blk w2 ob 26 [.slice none 0 0]) := hide (by rw [hw2, ← hob]; exact Blk.new _ _ _)
      have HT : Hid (One 33 2 26 (ob + 1) w2 ob 0 [.slice none 0 0] (.slice none 0 0) [] []) := hide (One.start w2 _ _ _ HO2.out (Nat.lt_succ_self _) HO2.out.lt)
      rw [hob]
      clear hw2 hob HO2
      go_loopw [9] (fun i wr => ∃ (x : Nat) (v : Value) (vals : List Value), x ≤ k ∧ i = .int .i64 x ∧ Below w.heap.size w wr ∧ One 33 2 26 (ob + 1) wr ob 0 [.slice none 0 0] v ((grid k H).take x) vals ∧ Blk wr (w.heap.size) 26 [.slice (some ⟨b1, o1, none⟩) n c] ∧ Blk wr (w.heap.size + 1) 26 [.slice (some ⟨b2, o2, none⟩) q c2] ∧ Blk wr (w.heap.size + 1 + 1) 26 [.slice none 0 0]) (fun i _ => k - (intOf i).toNat)
      case atStart => exact ⟨0, _, _, Nat.zero_le _, rfl, HB.out, by simpa using HT.out, HK.out, HL.out, HR.out⟩
      case round =>
        obtain ⟨x, v, vals, hx, rfl, hbe, htw, qHK, qHL, qHR⟩ := hrel
        clear HB HT HK HL HR
        have HB := hide hbe
        have HT := hide htw
        have HK := hide qHK
        have HL := hide qHL
        have HR := hide qHR
        clear hbe htw qHK qHL qHR
        by_cases hlt : x < k
        · have hxz : (x : Int) < k := by omega
          go_wp2_with fail
          obtain ⟨wo, rfl⟩ : ∃ wo : World, wo = wr := ⟨_, rfl⟩
          go_loopw [10, 11] (fun v i wi => ∃ y : Nat, y ≤ k ∧ i = .int .i64 y ∧ Below wo.heap.size wo wi ∧ wo.heap.size < wi.heap.size ∧ wi.ownsRow wo.heap.size 2 1 v y (ints ((frow k H x).take y))) (fun _ i _ => k - (intOf i).toNat)
          case atStart => exact ⟨0, Nat.zero_le _, rfl, (Below.refl _ _).alloc (Nat.le_refl _) _, by simp, by simpa [ints] using ne_empty wo _⟩
          case round =>
            obtain ⟨y, hy, rfl, hbi, hsi2, hoi⟩ := hrel
            have HBI := hide hbi
            have HOI := hide hoi
            clear hbi hoi
            by_cases hlty : y < k
            · have hyz : (y : Int) < k := by omega
              have HBW := hide (HB.out.trans (HBI.out.mono HB.out.size))
              by_cases h1 : x < n ∧ y < n
              · have hpr : H x y = ((ap f x y : Nat) : Int) := by rw [← HH.out]; unfold udH; rw [if_pos h1]
                obtain ⟨bx, ox, cx, r1, l1, g1⟩ := HC1.out x h1.1
                have r2 := g1 y h1.2
                obtain ⟨u, hu⟩ : ∃ u, ap f x y = u := ⟨_, rfl⟩
                rw [hu] at r2 hpr
                have HCELL := hide hpr
                replace r1 := (HBW.out.cell (p := ⟨b1, o1 + x, none⟩) hb1w).trans r1
                replace r2 := (HBW.out.cell (p := ⟨bx, ox + y, none⟩) l1).trans r2
                have z1 : (x : Int) < n := by omega
                have z2 : (y : Int) < n := by omega
                clear g1 hu hpr h1
                have k0 := (HK.out.later HBI.out).cell 0 _ rfl
                have k1 := (HL.out.later HBI.out).cell 0 _ rfl
                go_wp2_with (at_builtin; refine wpList_append_own _ rfl _ _ 33 rfl wo.heap.size 2 i0 (.int .i64 0) 1 8 Try.underlying33 hi hz0 hz1 hz2 rfl (by decide) _ _ _ rfl (HOI.out.alloc _) ⟨wr.heap.size, 0, none⟩ 1 1 [.int .i64 ((u : Int))] rfl rfl ?a1 ?a2 ?a3 ?a4 ?a5 ?_)
                try (case a1 => exact ne_new)
                try (case a2 => first | rfl | (intro u hu; simp at hu; subst hu; rfl))
                try (case a3 => first | omega | (unfold maxLen; omega))
                try (case a4 => omega)
                try (case a5 => first | omega | (simp; omega))
                intro v' w3 hown' hgrow _
                have HO3 := hide hown'
                have HB3 : Hid (Below wo.heap.size wo w3) := hide ((HBI.out.alloc HBI.out.size _).grown hgrow (by have := HBI.out.size; simp; omega) (fun g hg => ((HOI.out.alloc (.cells #[.int .i64 ((u : Int))] 2)).lt g hg).1))
                have hs3 : wo.heap.size < w3.heap.size := by have := hgrow.size; simp at this; omega
                clear hown' hgrow
                go_wp2_with fail
                go_roundw
                case rel => exact ⟨y + 1, by omega, by go_num, HB3.out, hs3, by have h := HO3.out; rw [← HCELL.out, frow_take _ _ _ _ hlty] at h; exact h⟩
                case measure => simp [intOf]; omega
              · by_cases h2 : n ≤ x ∧ n ≤ y
                · obtain ⟨xb, hxb⟩ : ∃ a, x - n = a := ⟨_, rfl⟩
                  obtain ⟨yb, hyb⟩ : ∃ a, y - n = a := ⟨_, rfl⟩
                  have hpr : H x y = ((ap f2 xb yb + n : Nat) : Int) := by rw [← HH.out]; unfold udH; rw [if_neg h1, if_pos h2, hxb, hyb]
                  have hxq : xb < q := by have := HSZ.out; omega
                  have hyq : yb < q := by have := HSZ.out; omega
                  obtain ⟨bx, ox, cx, r1, l1, g1⟩ := HC2.out xb hxq
                  have r2 := g1 yb hyq
                  have hu2 := HT2.out.ap_lt HN2.out hxq hyq
                  obtain ⟨u, hu⟩ : ∃ u, ap f2 xb yb = u := ⟨_, rfl⟩
                  rw [hu] at r2 hpr hu2
                  obtain ⟨u', hu'⟩ : ∃ a, u + n = a := ⟨_, rfl⟩
                  rw [hu'] at hpr
                  have HCELL := hide hpr
                  replace r1 := (HBW.out.cell (p := ⟨b2, o2 + xb, none⟩) hb2w).trans r1
                  replace r2 := (HBW.out.cell (p := ⟨bx, ox + yb, none⟩) l1).trans r2
                  have e1 : (x : Int) - (n : Int) = (xb : Int) := by omega
                  have e2 : (y : Int) - (n : Int) = (yb : Int) := by omega
                  have e3 : (n : Int) + (u : Int) = (u' : Int) := by omega
                  have g3 : ¬ (x : Int) < n := by omega
                  have g4 : (n : Int) ≤ x := by omega
                  have g5 : (n : Int) ≤ y := by omega
                  have g6 : ¬ (y : Int) < n := by omega
                  have z1 : (xb : Int) < q := by omega
                  have z2 : (yb : Int) < q := by omega
                  have w4 : IntKind.i64.wrap (xb : Int) = (xb : Int) := IntWalk.i64_in _ (by omega)
                  have w5 : IntKind.i64.wrap (yb : Int) = (yb : Int) := IntWalk.i64_in _ (by omega)
                  have w6 : IntKind.i64.wrap (u' : Int) = (u' : Int) := IntWalk.i64_in _ (by omega)
                  clear g1 hu hpr h1 h2 hxb hyb hu' hu2 hxq hyq
                  have k0 := (HK.out.later HBI.out).cell 0 _ rfl
                  have k1 := (HL.out.later HBI.out).cell 0 _ rfl
                  go_wp2_with (at_builtin; refine wpList_append_own _ rfl _ _ 33 rfl wo.heap.size 2 i0 (.int .i64 0) 1 8 Try.underlying33 hi hz0 hz1 hz2 rfl (by decide) _ _ _ rfl (HOI.out.alloc _) ⟨wr.heap.size, 0, none⟩ 1 1 [.int .i64 ((u' : Int))] rfl rfl ?b1 ?b2 ?b3 ?b4 ?b5 ?_)
                  try (case b1 => exact ne_new)
                  try (case b2 => first | rfl | (intro u hu; simp at hu; subst hu; rfl))
                  try (case b3 => first | omega | (unfold maxLen; omega))
                  try (case b4 => omega)
                  try (case b5 => first | omega | (simp; omega))
                  intro v' w3 hown' hgrow _
                  have HO3 := hide hown'
                  have HB3 : Hid (Below wo.heap.size wo w3) := hide ((HBI.out.alloc HBI.out.size _).grown hgrow (by have := HBI.out.size; simp; omega) (fun g hg => ((HOI.out.alloc (.cells #[.int .i64 ((u' : Int))] 2)).lt g hg).1))
                  have hs3 : wo.heap.size < w3.heap.size := by have := hgrow.size; simp at this; omega
                  clear hown' hgrow
                  go_wp2_with fail
                  go_roundw
                  case rel => exact ⟨y + 1, by omega, by go_num, HB3.out, hs3, by have h := HO3.out; rw [← HCELL.out, frow_take _ _ _ _ hlty] at h; exact h⟩
                  case measure => simp [intOf]; omega
                · rcases (by omega : (x < n ∧ n ≤ y) ∨ (y < n ∧ n ≤ x)) with hcs | hcs
                  · have hpr : H x y = ((y : Nat) : Int) := by rw [← HH.out]; unfold udH; rw [if_neg h1, if_neg h2]
                    have HCELL := hide hpr
                    have g1 : (x : Int) < n := by omega
                    have g2 : ¬ (y : Int) < n := by omega
                    have g3 : ¬ (n : Int) ≤ x := by omega
                    clear hpr h1 h2 hcs
                    go_wp2_with (at_builtin; refine wpList_append_own _ rfl _ _ 33 rfl wo.heap.size 2 i0 (.int .i64 0) 1 8 Try.underlying33 hi hz0 hz1 hz2 rfl (by decide) _ _ _ rfl (HOI.out.alloc _) ⟨wr.heap.size, 0, none⟩ 1 1 [.int .i64 ((y : Int))] rfl rfl ?d1 ?d2 ?d3 ?d4 ?d5 ?_)
                    try (case d1 => exact ne_new)
                    try (case d2 => first | rfl | (intro u hu; simp at hu; subst hu; rfl))
                    try (case d3 => first | omega | (unfold maxLen; omega))
                    try (case d4 => omega)
                    try (case d5 => first | omega | (simp; omega))
                    intro v' w3 hown' hgrow _
                    have HO3 := hide hown'
                    have HB3 : Hid (Below wo.heap.size wo w3) := hide ((HBI.out.alloc HBI.out.size _).grown hgrow (by have := HBI.out.size; simp; omega) (fun g hg => ((HOI.out.alloc (.cells #[.int .i64 ((y : Int))] 2)).lt g hg).1))
                    have hs3 : wo.heap.size < w3.heap.size := by have := hgrow.size; simp at this; omega
                    clear hown' hgrow
                    go_wp2_with fail
                    go_roundw
                    case rel => exact ⟨y + 1, by omega, by go_num, HB3.out, hs3, by have h := HO3.out; rw [← HCELL.out, frow_take _ _ _ _ hlty] at h; exact h⟩
                    case measure => simp [intOf]; omega
                  · have hpr : H x y = ((y : Nat) : Int) := by rw [← HH.out]; unfold udH; rw [if_neg h1, if_neg h2]
                    have HCELL := hide hpr
                    have g1 : ¬ (x : Int) < n := by omega
                    have g2 : (n : Int) ≤ x := by omega
                    have g3 : ¬ (n : Int) ≤ y := by omega
                    clear hpr h1 h2 hcs
                    go_wp2_with (at_builtin; refine wpList_append_own _ rfl _ _ 33 rfl wo.heap.size 2 i0 (.int .i64 0) 1 8 Try.underlying33 hi hz0 hz1 hz2 rfl (by decide) _ _ _ rfl (HOI.out.alloc _) ⟨wr.heap.size, 0, none⟩ 1 1 [.int .i64 ((y : Int))] rfl rfl ?e1 ?e2 ?e3 ?e4 ?e5 ?_)
                    try (case e1 => exact ne_new)
                    try (case e2 => first | rfl | (intro u hu; simp at hu; subst hu; rfl))
                    try (case e3 => first | omega | (unfold maxLen; omega))
                    try (case e4 => omega)
                    try (case e5 => first | omega | (simp; omega))
                    intro v' w3 hown' hgrow _
                    have HO3 := hide hown'
                    have HB3 : Hid (Below wo.heap.size wo w3) := hide ((HBI.out.alloc HBI.out.size _).grown hgrow (by have := HBI.out.size; simp; omega) (fun g hg => ((HOI.out.alloc (.cells #[.int .i64 ((y : Int))] 2)).lt g hg).1))
                    have hs3 : wo.heap.size < w3.heap.size := by have := hgrow.size; simp at this; omega
                    clear hown' hgrow
                    go_wp2_with fail
                    go_roundw
                    case rel => exact ⟨y + 1, by omega, by go_num, HB3.out, hs3, by have h := HO3.out; rw [← HCELL.out, frow_take _ _ _ _ hlty] at h; exact h⟩
                    case measure => simp [intOf]; omega
            · have hyn : y = k := by omega
              subst hyn
              have HTM : Hid (((grid y H).take x).length = x) := hide (by rw [List.length_take, grid_length]; omega)
              obtain ⟨A2, c2', hv2, hres2⟩ := own_shape HOI.out
              subst hv2
              have HRL : Hid ((frow y H x).length = y) := hide (frow_length _ _ _)
              have HTK : Hid ((frow y H x).take y = frow y H x) := hide (List.take_of_length_le (by rw [HRL.out]; exact Nat.le_refl _))
              have HRO := hide hres2.obj
              have HT3 := hide (HT.out.later HBI.out)
              have HK3 := hide (HK.out.later HBI.out)
              have HL3 := hide (HL.out.later HBI.out)
              have HR3 := hide (HR.out.later HBI.out)
              have HB3 := hide (HB.out.trans (HBI.out.mono HB.out.size))
              clear hres2
              have j0 := HT3.out.box.cell 0 _ rfl
              have j2 := HT3.out.box.frozen 0
              have j4 := fun o => (HT3.out.box.alloc o).cell 0 _ rfl
              have HOW2 : Hid (wr.ownsRow (ob + 1) 33 1 v x vals) := hide (by have h := HT3.out.l.own; rw [HTM.out] at h; exact h)
              have hobl := HT3.out.box.lt
              have hbsz := HT3.out.bsz
              go_wp2_with (at_builtin; refine wpList_append_own_at _ rfl _ _ 22 rfl (ob + 1) 33 i2 (.slice none 0 0) 1 24 Try.underlying22 hj hy0 hy1 hy2 rfl (by decide) _ _ _ rfl (HOW2.out.alloc _) ⟨wr.heap.size, 0, none⟩ 1 1 [.slice A2 y c2'] rfl rfl ?p1 ?p2 ?p3 ?p4 ?p5 ?_)
              try (case p1 => exact ne_new)
              try (case p2 => first | rfl | (intro u hu; simp at hu; subst hu; rfl))
              try (case p3 => first | omega | (unfold maxLen; omega))
              try (case p4 => omega)
              try (case p5 => first | omega | (simp; omega))
              intro v' w7 hown7 hgrow7 _ hat7
              obtain ⟨gg2, cap2, hv7⟩ := own_form hown7
              subst hv7
              have hbk := HT3.out.kept hgrow7
              have HT4 := hide (One.add (by decide) HT.out HT3.out (Nat.le_refl _) (by have h := HRO.out; rw [HTK.out] at h; exact h) HTM.out HRL.out hown7 hgrow7)
              have HB4 := hide (HT3.out.below hgrow7 (.slice (some ⟨gg2, 0, none⟩) (x + 1) cap2) HB3.out (by omega))
              have HK4 := hide ((HT3.out.frame hgrow7 (.slice (some ⟨gg2, 0, none⟩) (x + 1) cap2) (by omega) (by omega) HK3.out.lt).trans HK3.out)
              have HL4 := hide ((HT3.out.frame hgrow7 (.slice (some ⟨gg2, 0, none⟩) (x + 1) cap2) (by omega) (by omega) HL3.out.lt).trans HL3.out)
              have HR4 := hide ((HT3.out.frame hgrow7 (.slice (some ⟨gg2, 0, none⟩) (x + 1) cap2) (by omega) (by omega) HR3.out.lt).trans HR3.out)
              clear j0 j2 j4 hown7 hgrow7 hat7
              have j0 := hbk.cell 0 _ rfl
              have j2 := hbk.frozen 0
              clear hbk
              go_wp2_with fail
              go_roundw
              case rel =>
                refine ⟨x + 1, .slice (some ⟨gg2, 0, none⟩) (x + 1) cap2, vals ++ [.slice A2 y c2'], by omega, by go_num, HB4.out, ?_, HK4.out, HL4.out, HR4.out⟩
                rw [grid_take _ _ _ hlt]
                exact HT4.out
              case measure => simp [intOf]; omega
        · have hxn : x = k := by omega
          subst hxn
          obtain ⟨A1, c1, hv1, ho1⟩ := HT.out.l.shape
          rw [List.take_of_length_le (by rw [grid_length]; exact Nat.le_refl _)] at hv1 ho1
          rw [grid_length] at hv1
          subst hv1
          have HA1 := hide ho1
          clear ho1
          have k0 := HT.out.box.cell 0 _ rfl
          have k2 := HR.out.cell 0 _ rfl
          have k3 := HR.out.frozen 0
          have hobl := HT.out.box.lt
          go_wp2_with fail
          refine bp_gen fun wf hwf => ?_
          obtain ⟨q0, hbf, hof⟩ := kend hwf HR.out (by omega) HB.out HA1.out (by omega) (by omega) (Nat.le_refl _)
          clear hwf k0 k2 k3
          exact bodyPost_ret (v := .tuple #[.agg #[.slice A1 x c1], .int .i64 0]) (by simp [results, Try.results19, go_sem, q0]) rfl ⟨_, _, rfl, hbf, hof⟩
  · have HT1 := hide hg.1.tbl
    have HT2 := hide hg.2.tbl
    have HRK1 : Hid (RkRes f true) := hide (by unfold RkRes; simp [hg.1])
    have HRK2 : Hid (RkRes f2 true) := hide (by unfold RkRes; simp [hg.2])
    have hn0 : 1 ≤ n ∧ n ≤ 12 := by have h := hg.1.tbl; rw [← HN.out]; exact ⟨h.1, h.2.1⟩
    have hq0 : 1 ≤ q ∧ q ≤ 12 := by have h := hg.2.tbl; rw [← HN2.out]; exact ⟨h.1, h.2.1⟩
    obtain ⟨sz, hsz⟩ : ∃ a, n + q = a := ⟨_, rfl⟩
    have hsq : sz ≤ 24 := by omega
    have h1s : 1 ≤ sz := by omega
    have hsi : (n : Int) + (q : Int) = (sz : Int) := by rw [← hsz]; simp
    have hwk : IntKind.i64.wrap (sz : Int) = (sz : Int) := IntWalk.i64_in _ (by omega)
    have HSZ := hide hsz
    have hgl : ¬ sz ≤ 12 := by rw [← hsz, ← HN.out, ← HN2.out]; exact hlim
    obtain rfl : k = 0 := by simpa using hk.symm
    clear hk
    clear hg hlim hsz
    go_enter Try.func19, Try.ntmps19
    go_wp2_with fail
    refine calls_gen fun wd hw0 => ?_
    have HB : Hid (Below w.heap.size w wd) := hide (by rw [hw0]; exact (((Below.refl _ _).alloc (Nat.le_refl _) _).alloc (by simp) _).alloc (by simp; omega) _)
    have HK : Hid (Blk wd w.heap.size 26 [.slice A n c]) := hide (by rw [hw0]; exact ((Blk.new _ _ _).alloc _).alloc _)
    have HL : Hid (Blk wd (w.heap.size + 1) 26 [.slice C q c2]) := hide (by rw [hw0]; have h := (Blk.new (w.alloc (Obj.cells #[.slice A n c] 26)) 26 [.slice C q c2]).alloc (Obj.cells #[.slice none 0 0] 26); simpa using h)
    have HR : Hid (Blk wd (w.heap.size + 1 + 1) 26 [.slice none 0 0]) := hide (by rw [hw0]; have h := Blk.new ((w.alloc (Obj.cells #[.slice A n c] 26)).alloc (Obj.cells #[.slice C q c2] 26)) 26 [.slice none 0 0]; simpa using h)
    clear hw0
    have hgt : (12 : Int) < (sz : Int) := by omega
    refine (isRackS _ _ _ f true _ HN.out hb HBS.out (HRD.out.later HB.out) HRK1.out).mono ?_
    rintro e wd ⟨rfl, hbd⟩
    replace HB := hide (HB.out.trans (hbd.mono HB.out.size))
    replace HK := hide (HK.out.later hbd)
    replace HL := hide (HL.out.later hbd)
    replace HR := hide (HR.out.later hbd)
    clear hbd
    have k0 := HK.out.cell 0 _ rfl
    have k1 := HL.out.cell 0 _ rfl
    go_wp2_with fail
    clear k0 k1
    refine (isRackS _ _ _ f2 true _ HN2.out hb2 HBS2.out (HRD2.out.later HB.out) HRK2.out).mono ?_
    rintro e wd ⟨rfl, hbd⟩
    replace HB := hide (HB.out.trans (hbd.mono HB.out.size))
    replace HK := hide (HK.out.later hbd)
    replace HL := hide (HL.out.later hbd)
    replace HR := hide (HR.out.later hbd)
    clear hbd
    have k0 := HK.out.cell 0 _ rfl
    have k1 := HL.out.cell 0 _ rfl
    have k2 := HR.out.cell 0 _ rfl
    have k3 := HR.out.frozen 0
    go_wp2_with fail
    refine bp_gen fun wf hwf => ?_
    have HRF : Blk wf (w.heap.size + 1 + 1) 26 [.slice none 0 0] := by rw [hwf]; first | exact HR.out | exact HR.out.set 0 _
    have hbf : Below w.heap.size w wf := by rw [hwf]; first | exact HB.out | exact HB.out.setCell (p := ⟨w.heap.size + 1 + 1, 0, none⟩) (by show w.heap.size ≤ w.heap.size + 1 + 1; omega) _
    have q0 := HRF.cell 0 _ rfl
    clear hwf k2 k3
    exact bodyPost_ret (v := .tuple #[.agg #[.slice none 0 0], .int .i64 3]) (by simp [results, Try.results19, go_sem, q0]) rfl ⟨_, _, rfl, hbf, .inl ⟨rfl, rfl⟩⟩
  · by_cases h1 : Rck f
    · have h2 : ¬ Rck f2 := fun h => hg ⟨h1, h⟩
      have HRK1 : Hid (RkRes f true) := hide (by unfold RkRes; simp [h1])
      have HRK2 : Hid (RkRes f2 false) := hide (by unfold RkRes; simp [h2])
      obtain rfl : k = 0 := by simpa using hk.symm
      clear hk
      clear hg h1 h2
      go_enter Try.func19, Try.ntmps19
      go_wp2_with fail
      refine calls_gen fun wd hw0 => ?_
      have HB : Hid (Below w.heap.size w wd) := hide (by rw [hw0]; exact (((Below.refl _ _).alloc (Nat.le_refl _) _).alloc (by simp) _).alloc (by simp; omega) _)
      have HK : Hid (Blk wd w.heap.size 26 [.slice A n c]) := hide (by rw [hw0]; exact ((Blk.new _ _ _).alloc _).alloc _)
      have HL : Hid (Blk wd (w.heap.size + 1) 26 [.slice C q c2]) := hide (by rw [hw0]; have h := (Blk.new (w.alloc (Obj.cells #[.slice A n c] 26)) 26 [.slice C q c2]).alloc (Obj.cells #[.slice none 0 0] 26); simpa using h)
      have HR : Hid (Blk wd (w.heap.size + 1 + 1) 26 [.slice none 0 0]) := hide (by rw [hw0]; have h := Blk.new ((w.alloc (Obj.cells #[.slice A n c] 26)).alloc (Obj.cells #[.slice C q c2] 26)) 26 [.slice none 0 0]; simpa using h)
      clear hw0
      refine (isRackS _ _ _ f true _ HN.out hb HBS.out (HRD.out.later HB.out) HRK1.out).mono ?_
      rintro e wd ⟨rfl, hbd⟩
      replace HB := hide (HB.out.trans (hbd.mono HB.out.size))
      replace HK := hide (HK.out.later hbd)
      replace HL := hide (HL.out.later hbd)
      replace HR := hide (HR.out.later hbd)
      clear hbd
      have k0 := HK.out.cell 0 _ rfl
      have k1 := HL.out.cell 0 _ rfl
      go_wp2_with fail
      clear k0 k1
      refine (isRackS _ _ _ f2 false _ HN2.out hb2 HBS2.out (HRD2.out.later HB.out) HRK2.out).mono ?_
      rintro e wd ⟨rfl, hbd⟩
      replace HB := hide (HB.out.trans (hbd.mono HB.out.size))
      replace HK := hide (HK.out.later hbd)
      replace HL := hide (HL.out.later hbd)
      replace HR := hide (HR.out.later hbd)
      clear hbd
      have k2 := HR.out.cell 0 _ rfl
      have k3 := HR.out.frozen 0
      go_wp2_with fail
      refine bp_gen fun wf hwf => ?_
      have HRF : Blk wf (w.heap.size + 1 + 1) 26 [.slice none 0 0] := by rw [hwf]; first | exact HR.out | exact HR.out.set 0 _
      have hbf : Below w.heap.size w wf := by rw [hwf]; first | exact HB.out | exact HB.out.setCell (p := ⟨w.heap.size + 1 + 1, 0, none⟩) (by show w.heap.size ≤ w.heap.size + 1 + 1; omega) _
      have q0 := HRF.cell 0 _ rfl
      clear hwf k2 k3
      exact bodyPost_ret (v := .tuple #[.agg #[.slice none 0 0], .int .i64 1]) (by simp [results, Try.results19, go_sem, q0]) rfl ⟨_, _, rfl, hbf, .inl ⟨rfl, rfl⟩⟩
    · have HRK1 : Hid (RkRes f false) := hide (by unfold RkRes; simp [h1])
      obtain rfl : k = 0 := by simpa using hk.symm
      clear hk
      clear hg h1
      go_enter Try.func19, Try.ntmps19
      go_wp2_with fail
      refine calls_gen fun wd hw0 => ?_
      have HB : Hid (Below w.heap.size w wd) := hide (by rw [hw0]; exact (((Below.refl _ _).alloc (Nat.le_refl _) _).alloc (by simp) _).alloc (by simp; omega) _)
      have HK : Hid (Blk wd w.heap.size 26 [.slice A n c]) := hide (by rw [hw0]; exact ((Blk.new _ _ _).alloc _).alloc _)
      have HL : Hid (Blk wd (w.heap.size + 1) 26 [.slice C q c2]) := hide (by rw [hw0]; have h := (Blk.new (w.alloc (Obj.cells #[.slice A n c] 26)) 26 [.slice C q c2]).alloc (Obj.cells #[.slice none 0 0] 26); simpa using h)
      have HR : Hid (Blk wd (w.heap.size + 1 + 1) 26 [.slice none 0 0]) := hide (by rw [hw0]; have h := Blk.new ((w.alloc (Obj.cells #[.slice A n c] 26)).alloc (Obj.cells #[.slice C q c2] 26)) 26 [.slice none 0 0]; simpa using h)
      clear hw0
      refine (isRackS _ _ _ f false _ HN.out hb HBS.out (HRD.out.later HB.out) HRK1.out).mono ?_
      rintro e wd ⟨rfl, hbd⟩
      replace HB := hide (HB.out.trans (hbd.mono HB.out.size))
      replace HK := hide (HK.out.later hbd)
      replace HL := hide (HL.out.later hbd)
      replace HR := hide (HR.out.later hbd)
      clear hbd
      have k2 := HR.out.cell 0 _ rfl
      have k3 := HR.out.frozen 0
      go_wp2_with fail
      refine bp_gen fun wf hwf => ?_
      have HRF : Blk wf (w.heap.size + 1 + 1) 26 [.slice none 0 0] := by rw [hwf]; first | exact HR.out | exact HR.out.set 0 _
      have hbf : Below w.heap.size w wf := by rw [hwf]; first | exact HB.out | exact HB.out.setCell (p := ⟨w.heap.size + 1 + 1, 0, none⟩) (by show w.heap.size ≤ w.heap.size + 1 + 1; omega) _
      have q0 := HRF.cell 0 _ rfl
      clear hwf k2 k3
      exact bodyPost_ret (v := .tuple #[.agg #[.slice none 0 0], .int .i64 1]) (by simp [results, Try.results19, go_sem, q0]) rfl ⟨_, _, rfl, hbf, .inl ⟨rfl, rfl⟩⟩

end Go.Proofs.Ytkflmhmbkilmpac
