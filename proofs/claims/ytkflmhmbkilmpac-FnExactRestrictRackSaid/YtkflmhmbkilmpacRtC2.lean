import Derived.Test.YtkflmhmbkilmpacPMapF
import Derived.Test.YtkflmhmbkilmpacZArg
import Derived.Test.YtkflmhmbkilmpacBlk
import Derived.Test.YtkflmhmbkilmpacPairsI
import Derived.Test.YtkflmhmbkilmpacEqF
import Derived.Test.YtkflmhmbkilmpacHeld
import Derived.Shelf.Abstract
import Derived.Shelf.Lay
import Derived.Test.YtkflmhmbkilmpacRkA
import Derived.Test.YtkflmhmbkilmpacTblI
import Derived.Test.YtkflmhmbkilmpacRowsI
import Derived.Test.YtkflmhmbkilmpacKLe
import Derived.WalkSpells
import Derived.Test.YtkflmhmbkilmpacIn
import Derived.Test.YtkflmhmbkilmpacProg
import Derived.Test.YtkflmhmbkilmpacRkF
import Derived.Test.YtkflmhmbkilmpacObj
import Derived.Test.YtkflmhmbkilmpacHas
import Derived.Test.YtkflmhmbkilmpacPig
import Derived.Laws.BitsLemmas
import Derived.Test.YtkflmhmbkilmpacLst
import Derived.Test.YtkflmhmbkilmpacFmF
import Derived.Test.YtkflmhmbkilmpacRfI
import Derived.Test.YtkflmhmbkilmpacIxI
import Derived.Test.YtkflmhmbkilmpacLst1
import Derived.Deep.Cut
import Derived.Deep.AppendLies
namespace Go.Proofs.Ytkflmhmbkilmpac
open Go Go.RowKit

/-- The cells that are read at two elements of both tables of a pair map. -/
theorem ZArg.reads {K : Nat} {w : World} {A : Option Addr} {n : Nat} {f : List (List Int)} {B : Option Addr} {m : Nat} {s : List (List Int)} (hz : ZArg K w A n f B m s) (hp : PMap f s) {x y : Nat} (hx : x < n) (hy : y < n) :
    ∃ b o b2 o2 bx ox cx by' oy cy, A = some ⟨b, o, none⟩ ∧ B = some ⟨b2, o2, none⟩ ∧ w.cell? ⟨b, o + x, none⟩ = some (.slice (some ⟨bx, ox, none⟩) n cx) ∧ w.cell? ⟨b2, o2 + x, none⟩ = some (.slice (some ⟨by', oy, none⟩) n cy) ∧
      w.cell? ⟨bx, ox + y, none⟩ = some (.int .i64 (ap f x y : Nat)) ∧ w.cell? ⟨by', oy + y, none⟩ = some (.int .i64 (ap s x y : Nat)) ∧ b < w.heap.size ∧ b2 < w.heap.size ∧ bx < w.heap.size ∧ by' < w.heap.size := by
  obtain ⟨b, o, rfl, hb, hc⟩ := hp.1.cells hz.fst hz.sz.fl
  have hm : s.length = n := by rw [← hp.2.2]; exact hz.sz.fl
  obtain ⟨b2, o2, rfl, hb2, hc2⟩ := hp.2.1.cells hz.snd hm
  obtain ⟨bx, ox, cx, h1, h2, h3⟩ := hc x hx
  obtain ⟨by', oy, cy, h4, h5, h6⟩ := hc2 x hx
  exact ⟨b, o, b2, o2, bx, ox, cx, by', oy, cy, rfl, rfl, h1, h4, h3 y hy, h6 y hy, hb, hb2, h2, h5⟩
theorem ZArg.same {K : Nat} {w : World} {A : Option Addr} {n : Nat} {f : List (List Int)} {B : Option Addr} {m : Nat} {s : List (List Int)} (hz : ZArg K w A n f B m s) (hp : PMap f s) : m = n := by
  rw [← hz.sz.sl, ← hp.2.2]; exact hz.sz.fl
theorem ZArg.small {K : Nat} {w : World} {A : Option Addr} {n : Nat} {f : List (List Int)} {B : Option Addr} {m : Nat} {s : List (List Int)} (hz : ZArg K w A n f B m s) (hp : PMap f s) : 1 ≤ n ∧ n ≤ 12 := by
  have h1 := hp.1.1
  have h2 := hp.1.2.1
  have h3 := hz.sz.fl
  omega
theorem PMap.lt1 {f s : List (List Int)} (hp : PMap f s) {n x y : Nat} (hn : f.length = n) (hx : x < n) (hy : y < n) : ap f x y < n := hp.1.ap_lt hn hx hy
theorem PMap.lt2 {f s : List (List Int)} (hp : PMap f s) {n x y : Nat} (hn : f.length = n) (hx : x < n) (hy : y < n) : ap s x y < n := hp.2.1.ap_lt (by rw [← hp.2.2]; exact hn) hx hy
end Go.Proofs.Ytkflmhmbkilmpac
namespace Go.Proofs.Ytkflmhmbkilmpac
open Go Go.RowKit

/-- What is asked of the function value: for each three elements, in each later world, it says whether they are as asked, and leaves what there was. -/
def BoolFn3 (P : Program) (F : FuncId) (lb : Array Value) (n : Nat) (q : Nat → Nat → Nat → Bool) (w : World) : Prop :=
  ∀ (W : World) (x y z : Nat), x < n → y < n → z < n → Below w.heap.size w W → Calls P F (#[.int .i64 x, .int .i64 y, .int .i64 z] ++ lb) W fun e w' => e = .returned (.bool (q x y z)) ∧ Below W.heap.size W w'
theorem BoolFn3.later {P : Program} {F : FuncId} {lb : Array Value} {n : Nat} {q : Nat → Nat → Nat → Bool} {w w' : World} (hc : BoolFn3 P F lb n q w) (hb : Below w.heap.size w w') : BoolFn3 P F lb n q w' :=
  fun W x y z hx hy hz hw => hc W x y z hx hy hz (hb.trans (hw.mono hb.size))

/-- What is said of the list of number T. -/
def qAt (q : Nat → Nat → Nat → Bool) (n T : Nat) : Bool := q (trip n T).1 (trip n T).2.1 (trip n T).2.2
theorem qAt_at {q : Nat → Nat → Nat → Bool} {n x y z : Nat} (hy : y < n) (hz : z < n) : qAt q n ((x * n + y) * n + z) = q x y z := by
  unfold qAt
  rw [trip_of hy hz]
/-- T is the first that is as asked, or behind all. -/
def FirstQ (q : Nat → Nat → Nat → Bool) (n T : Nat) : Prop := (∀ i, i < T → qAt q n i = false) ∧ T ≤ n * n * n ∧ (T < n * n * n → qAt q n T = true)
theorem FirstQ.bad {q : Nat → Nat → Nat → Bool} {n T k : Nat} (h : FirstQ q n T) (h1 : ∀ i, i < k → qAt q n i = false) (hk : k < n * n * n) (h2 : qAt q n k = true) : T = k := by
  have a : ¬ k < T := fun h3 => by have := h.1 k h3; rw [h2] at this; exact absurd this (by simp)
  have b : ¬ T < k := fun h3 => by have := h1 T h3; rw [h.2.2 (by omega)] at this; exact absurd this (by simp)
  omega
theorem FirstQ.all {q : Nat → Nat → Nat → Bool} {n T : Nat} (h : FirstQ q n T) (h1 : ∀ i, i < n * n * n → qAt q n i = false) : T = n * n * n := by
  have a := h.2.1
  have b : ¬ T < n * n * n := fun h3 => by have := h1 T h3; rw [h.2.2 h3] at this; exact absurd this (by simp)
  omega
theorem FirstQ.ex (q : Nat → Nat → Nat → Bool) (n : Nat) : ∃ T, FirstQ q n T := by
  have h : ∀ k, k ≤ n * n * n → (∀ i, i < k → qAt q n i = false) ∨ ∃ T, FirstQ q n T := by
    intro k
    induction k with
    | zero => intro _; exact .inl (fun i hi => absurd hi (Nat.not_lt_zero _))
    | succ k ih =>
      intro hk
      rcases ih (by omega) with h | h
      · rcases e : qAt q n k with _ | _
        · refine .inl (fun i hi => ?_)
          by_cases e2 : i = k
          · subst e2; exact e
          · exact h i (by omega)
        · exact .inr ⟨k, h, by omega, fun _ => e⟩
      · exact .inr h
  rcases h _ (Nat.le_refl _) with h | h
  · exact ⟨_, h, Nat.le_refl _, fun h2 => absurd h2 (by omega)⟩
  · exact h
theorem FirstQ.iff {q : Nat → Nat → Nat → Bool} {n T : Nat} (h : FirstQ q n T) : T = n * n * n ↔ ∀ i, i < n * n * n → qAt q n i = false :=
  ⟨fun e i hi => h.1 i (by omega), h.all⟩
end Go.Proofs.Ytkflmhmbkilmpac
namespace Go.Proofs.Ytkflmhmbkilmpac
open Go Go.RowKit
set_option maxHeartbeats 2000000

set_option maxRecDepth 100000 in
theorem firstTriple_any (F : FuncId) (lb : Array Value) (n : Nat) (q : Nat → Nat → Nat → Bool) (T : Nat) (w : World) (eg : ∀ args w, (callFunc F args).run Try.prog w = .ok (.enter F args) w) (h1 : 1 ≤ n) (h12 : n ≤ 12) (hp : BoolFn3 Try.prog F lb n q w) (hT : FirstQ q n T) :
    Calls Try.prog 94 #[.int .i64 n, .func (.func F) #[] lb] w fun e w' => (T = n * n * n ∧ e = .returned (.slice none 0 0) ∧ Below w.heap.size w w') ∨ (T < n * n * n ∧ ∃ g, e = .returned (.slice (some ⟨g, 0, none⟩) 3 3) ∧ Below w.heap.size w w' ∧ w.heap.size ≤ g ∧ OwnB 2 w' g (lst3 (trip n T))) := by
  have HPF := hide hp
  have HT := hide hT
  obtain ⟨N, hN⟩ : ∃ N, n * n = N := ⟨_, rfl⟩
  have hN144 : N ≤ 144 := by rw [← hN]; exact sq_le n h12
  have HNN := hide hN
  clear hT hN hp
  go_enter Try.func94, Try.ntmps94
  go_wp2_with fail
  refine (pairsOf_any n N _ h1 h12 HNN.out).mono ?_
  rintro e w3 ⟨g, rfl, hb3, hg3, hpa⟩
  have HB3 := hide hb3
  have HPA3 := hide hpa
  clear hb3 hpa
  go_wp2_with fail
  go_loopw [11] (fun i wr => ∃ k : Nat, k ≤ N ∧ i = .int .i64 k ∧ Below w.heap.size w wr ∧ PairsAt wr g n ∧ ∀ i, i < k * n → qAt q n i = false) (fun i _ => N - (intOf i).toNat)
  case atStart => exact ⟨0, Nat.zero_le _, rfl, HB3.out, HPA3.out, fun i hi => absurd hi (by omega)⟩
  case round =>
    obtain ⟨k, hk, rfl, hbe, hpa, hall⟩ := hrel
    have HB := hide hbe
    have HPA := hide hpa
    have HALL := hide hall
    clear hbe hpa hall
    by_cases hlt : k < N
    · have hkz : (k : Int) < N := by omega
      obtain ⟨p0, p1⟩ := HPA.out.2 k (by rw [HNN.out]; exact hlt)
      have hxn : k / n < n := div_lt_sq (by rw [HNN.out]; exact hlt)
      have hyn : k % n < n := mod_lt_sq (by rw [HNN.out]; exact hlt)
      obtain ⟨x, hx⟩ : ∃ x, k / n = x := ⟨_, rfl⟩
      obtain ⟨y, hy⟩ : ∃ y, k % n = y := ⟨_, rfl⟩
      rw [hx] at p0 hxn
      rw [hy] at p1 hyn
      have HX := hide hx
      have HY := hide hy
      clear hx hy
      go_wp2_with fail
      refine wp_gen fun w4 hw4 => ?_
      obtain ⟨P, hPe⟩ : ∃ P, wr.heap.size = P := ⟨_, rfl⟩
      have HB4 : Hid (Below w.heap.size w w4) := hide (by rw [hw4]; exact HB.out.alloc HB.out.size _)
      have HP4 : Hid (Blk w4 P 85 [.int .i64 x, .int .i64 y]) := hide (by rw [hw4, ← hPe]; exact Blk.new _ _ _)
      have HA4 : Hid (PairsAt w4 g n) := hide (by rw [hw4]; exact HPA.out.later ((Below.refl _ _).alloc (Nat.le_refl _) _))
      rw [hPe]
      clear hw4 p0 p1 hPe
      go_loopw [16] (fun i wi => ∃ z : Nat, z ≤ n ∧ i = .int .i64 z ∧ Below w.heap.size w wi ∧ Blk wi P 85 [.int .i64 x, .int .i64 y] ∧ PairsAt wi g n ∧ ∀ i, i < k * n + z → qAt q n i = false) (fun i _ => n - (intOf i).toNat)
      case atStart => exact ⟨0, Nat.zero_le _, rfl, HB4.out, HP4.out, HA4.out, HALL.out⟩
      case round =>
        obtain ⟨z, hzn, rfl, hbe, hpp, hpa, hall⟩ := hrel
        have HBc := hide hbe
        have HPc := hide hpp
        have HAc := hide hpa
        have HALLI := hide hall
        clear hbe hpp hpa hall
        by_cases hltz : z < n
        · have hzz : (z : Int) < n := by omega
          have hklt : k * n + z < n * n * n := by
            have h := trip_lt (n := n) hxn hyn hltz
            rw [← HX.out, ← HY.out, pair_eta] at h
            exact h
          have hat : qAt q n (k * n + z) = q x y z := by
            have h := qAt_at (q := q) (n := n) (x := x) hyn hltz
            rw [← HX.out, ← HY.out, pair_eta] at h
            rw [← HX.out, ← HY.out]
            exact h
          have htr : trip n (k * n + z) = (x, y, z) := by
            have h := trip_of (n := n) (x := x) hyn hltz
            rw [← HX.out, ← HY.out, pair_eta, HX.out, HY.out] at h
            exact h
          have HTR := hide htr
          have HKL := hide hklt
          clear htr hklt
          obtain ⟨bq, hbq⟩ : ∃ b, q x y z = b := ⟨_, rfl⟩
          rw [hbq] at hat
          have HAT := hide hat
          have HBQ := hide hbq
          clear hat hbq
          have k0 := HPc.out.cell 0 _ rfl
          have k1 := HPc.out.cell 1 _ rfl
          cases bq with
          | false =>
            go_wp2_with (go_at_fn F; go_must (refine calls_gen fun wc hwc => ?_; (first | have hbx := drew_below hwc | have hbx := eq_below hwc); replace HBc := hide (HBc.out.trans (hbx.mono HBc.out.size)); replace HPc := hide (HPc.out.later hbx); replace HAc := hide (HAc.out.later hbx); clear hwc hbx; refine (HPF.out _ x y z hxn hyn hltz HBc.out).mono ?_; rw [HBQ.out]; rintro e wd ⟨rfl, hbd⟩; replace HBc := hide (HBc.out.trans (hbd.mono HBc.out.size)); replace HPc := hide (HPc.out.later hbd); replace HAc := hide (HAc.out.later hbd); clear hbd; have k0 := HPc.out.cell 0 _ rfl; have k1 := HPc.out.cell 1 _ rfl; clear k0 k1))
            clear k0 k1
            go_wp2_with fail
            go_roundw
            case rel => exact ⟨z + 1, by omega, by go_num, HBc.out, HPc.out, HAc.out, fun i hi => by
              by_cases e : i = k * n + z
              · rw [e]; exact HAT.out
              · exact HALLI.out i (by omega)⟩
            case measure => simp [intOf]; omega
          | true =>
            have HTB2 := hide (HT.out.bad HALLI.out HKL.out HAT.out)
            go_wp2_with (go_at_fn F; go_must (refine calls_gen fun wc hwc => ?_; (first | have hbx := drew_below hwc | have hbx := eq_below hwc); replace HBc := hide (HBc.out.trans (hbx.mono HBc.out.size)); replace HPc := hide (HPc.out.later hbx); replace HAc := hide (HAc.out.later hbx); clear hwc hbx; refine (HPF.out _ x y z hxn hyn hltz HBc.out).mono ?_; rw [HBQ.out]; rintro e wd ⟨rfl, hbd⟩; replace HBc := hide (HBc.out.trans (hbd.mono HBc.out.size)); replace HPc := hide (HPc.out.later hbd); replace HAc := hide (HAc.out.later hbd); clear hbd; have k0 := HPc.out.cell 0 _ rfl; have k1 := HPc.out.cell 1 _ rfl; have k2 := fun o => (HPc.out.alloc o).cell 0 _ rfl; have k3 := fun o => (HPc.out.alloc o).cell 1 _ rfl))
            clear k0 k1
            go_wp2_with fail
            refine bp_gen fun wf hwf => ?_
            have HBF : Below w.heap.size w wf := by rw [hwf]; exact HBc.out.alloc HBc.out.size _
            have HLF : Hid (Blk wf wd.heap.size 2 [.int .i64 x, .int .i64 y, .int .i64 z]) := hide (by rw [hwf]; exact Blk.new _ _ _)
            have hlo : w.heap.size ≤ wd.heap.size := HBc.out.size
            clear hwf
            go_ret
            exact .inr ⟨by rw [HTB2.out]; exact HKL.out, _, rfl, HBF, hlo, _, HLF.out, fun i hi => by
              rw [HTB2.out, HTR.out] at hi ⊢
              simp [lst3] at hi
              rcases i with _ | _ | _ | i
              · rfl
              · rfl
              · rfl
              · omega⟩
        · have hzn' : z = n := by omega
          subst hzn'
          go_wp2_with fail
          go_roundw
          case rel => exact ⟨k + 1, by omega, by go_num, HBc.out, HAc.out, fun i hi => HALLI.out i (by rw [Nat.add_mul, Nat.one_mul] at hi; exact hi)⟩
          case measure => simp [intOf]; omega
    · have hkn : k = N := by omega
      subst hkn
      go_wp2_with fail
      go_ret
      exact .inl ⟨HT.out.all (fun i hi => HALL.out i (by rw [HNN.out] at hi; exact hi)), rfl, HB.out⟩
end Go.Proofs.Ytkflmhmbkilmpac
namespace Go.Proofs.Ytkflmhmbkilmpac
open Go Go.RowKit
set_option maxHeartbeats 2000000
/-- Whether three elements show that a table is no rack's. -/
def rkq (f : List (List Int)) : Nat → Nat → Nat → Bool := fun x y z => !decide (ap f x (ap f y z) = ap f (ap f x y) (ap f x z))
theorem rkq_not (f : List (List Int)) (n i : Nat) : qAt (rkq f) n i = false ↔ Rk3 f n i := by
  unfold qAt rkq Rk3
  simp
theorem rkq_is (f : List (List Int)) (n i : Nat) : qAt (rkq f) n i = true ↔ ¬ Rk3 f n i := by
  rw [← rkq_not]
  simp
theorem FirstK.q {f : List (List Int)} {n T : Nat} (h : FirstK f n T) : FirstQ (rkq f) n T :=
  ⟨fun i hi => (rkq_not f n i).2 (h.1 i hi), h.2.1, fun ht => (rkq_is f n T).2 (h.2.2 ht)⟩

set_option maxRecDepth 100000 in
theorem kfC_any (A : Option Addr) (n c : Nat) (f : List (List Int)) (b : Nat) (w : World) (hn : f.length = n) (ht : Tbl f) (hr : Rd2 w A f) (hk : Blk w b 26 [.slice A n c]) :
    BoolFn3 Try.prog 95 #[.pointer (some ⟨b, 0, none⟩)] n (rkq f) w := by
  intro W x y z hx hy hz hb
  have HR := hide (hr.later hb)
  have HKc := hide (hk.later hb)
  have HBc := hide (Below.refl W.heap.size W)
  have HN := hide hn
  have HTB := hide ht
  show Calls Try.prog 95 #[.int .i64 x, .int .i64 y, .int .i64 z, .pointer (some ⟨b, 0, none⟩)] W _
  clear hn ht hr hk hb
  have hq1 := HTB.out.ap_lt HN.out hy hz
  have hq2 := HTB.out.ap_lt HN.out hx hy
  have hq3 := HTB.out.ap_lt HN.out hx hz
  obtain ⟨bq, hat⟩ : ∃ bq, rkq f x y z = bq := ⟨_, rfl⟩
  rw [hat]
  unfold rkq at hat
  obtain ⟨q1, h_1⟩ : ∃ u, ap f y z = u := ⟨_, rfl⟩
  obtain ⟨q2, h_2⟩ : ∃ u, ap f x y = u := ⟨_, rfl⟩
  obtain ⟨q3, h_3⟩ : ∃ u, ap f x z = u := ⟨_, rfl⟩
  rw [h_1, h_2, h_3] at hat
  rw [h_1] at hq1
  rw [h_2] at hq2
  rw [h_3] at hq3
  obtain ⟨q4, h_4⟩ : ∃ u, ap f x q1 = u := ⟨_, rfl⟩
  obtain ⟨q5, h_5⟩ : ∃ u, ap f q2 q3 = u := ⟨_, rfl⟩
  rw [h_4, h_5] at hat
  have HAT : Hid ((!decide (q4 = q5)) = bq) := hide hat
  have U1 := hide h_1
  have U2 := hide h_2
  have U3 := hide h_3
  have U4 := hide h_4
  have U5 := hide h_5
  clear h_1 h_2 h_3 h_4 h_5 hat
  have k0 := HKc.out.cell 0 _ rfl
  have tok0 : True := trivial
  have tok1 : True := trivial
  have tok2 : True := trivial
  have tok3 : True := trivial
  go_enter Try.func95, Try.ntmps95
  by_cases hcs : q4 = q5
  · have hbq : bq = false := by rw [← HAT.out, hcs]; simp
    subst hcs
    subst hbq
    go_wp2_with fail
    go_region_held3 (fun w' => w'.cell? ⟨b, 0, none⟩ = some (.slice A n c)) (first | exact k0 | go_keep) (first | (go_at_call 51; have _t := tok0; clear _t tok0; go_must (refine calls_gen fun wc hwc => ?_; (first | have hbx := drew_below hwc | have hbx := eq_below hwc); replace HBc := hide (HBc.out.trans (hbx.mono HBc.out.size)); replace HKc := hide (HKc.out.later hbx); clear hwc hbx; refine (act_any _ _ _ f y z q1 _ HN.out HTB.out (HR.out.later HBc.out) hy hz U1.out).mono ?_; rintro e wd ⟨rfl, hbd⟩; replace HBc := hide (HBc.out.trans (hbd.mono HBc.out.size)); replace HKc := hide (HKc.out.later hbd); clear hbd; have k0 := HKc.out.cell 0 _ rfl)) | (go_at_call 51; have _t := tok1; clear _t tok1; go_must (refine calls_gen fun wc hwc => ?_; (first | have hbx := drew_below hwc | have hbx := eq_below hwc); replace HBc := hide (HBc.out.trans (hbx.mono HBc.out.size)); replace HKc := hide (HKc.out.later hbx); clear hwc hbx; refine (act_any _ _ _ f x q1 q4 _ HN.out HTB.out (HR.out.later HBc.out) hx hq1 U4.out).mono ?_; rintro e wd ⟨rfl, hbd⟩; replace HBc := hide (HBc.out.trans (hbd.mono HBc.out.size)); replace HKc := hide (HKc.out.later hbd); clear hbd; have k0 := HKc.out.cell 0 _ rfl)) | (go_at_call 51; have _t := tok2; clear _t tok2; go_must (refine calls_gen fun wc hwc => ?_; (first | have hbx := drew_below hwc | have hbx := eq_below hwc); replace HBc := hide (HBc.out.trans (hbx.mono HBc.out.size)); replace HKc := hide (HKc.out.later hbx); clear hwc hbx; refine (act_any _ _ _ f x y q2 _ HN.out HTB.out (HR.out.later HBc.out) hx hy U2.out).mono ?_; rintro e wd ⟨rfl, hbd⟩; replace HBc := hide (HBc.out.trans (hbd.mono HBc.out.size)); replace HKc := hide (HKc.out.later hbd); clear hbd; have k0 := HKc.out.cell 0 _ rfl)) | (go_at_call 51; have _t := tok3; clear _t tok3; go_must (refine calls_gen fun wc hwc => ?_; (first | have hbx := drew_below hwc | have hbx := eq_below hwc); replace HBc := hide (HBc.out.trans (hbx.mono HBc.out.size)); replace HKc := hide (HKc.out.later hbx); clear hwc hbx; refine (act_any _ _ _ f x z q3 _ HN.out HTB.out (HR.out.later HBc.out) hx hz U3.out).mono ?_; rintro e wd ⟨rfl, hbd⟩; replace HBc := hide (HBc.out.trans (hbd.mono HBc.out.size)); replace HKc := hide (HKc.out.later hbd); clear hbd; have k0 := HKc.out.cell 0 _ rfl)) | (go_at_call 51; go_must (refine calls_gen fun wc hwc => ?_; (first | have hbx := drew_below hwc | have hbx := eq_below hwc); replace HBc := hide (HBc.out.trans (hbx.mono HBc.out.size)); replace HKc := hide (HKc.out.later hbx); clear hwc hbx; refine (act_any _ _ _ f q2 q3 q4 _ HN.out HTB.out (HR.out.later HBc.out) hq2 hq3 U5.out).mono ?_; rintro e wd ⟨rfl, hbd⟩; replace HBc := hide (HBc.out.trans (hbd.mono HBc.out.size)); replace HKc := hide (HKc.out.later hbd); clear hbd; have k0 := HKc.out.cell 0 _ rfl)))
    go_wp2_with fail
    go_ret
    exact ⟨rfl, HBc.out⟩
  · have hbq : bq = true := by rw [← HAT.out]; simp [hcs]
    have hcz : ((q4 : Int) != (q5 : Int)) = true := by rw [bne_iff_ne]; omega
    subst hbq
    go_wp2_with fail
    go_region_held3 (fun w' => w'.cell? ⟨b, 0, none⟩ = some (.slice A n c)) (first | exact k0 | go_keep) (first | (go_at_call 51; have _t := tok0; clear _t tok0; go_must (refine calls_gen fun wc hwc => ?_; (first | have hbx := drew_below hwc | have hbx := eq_below hwc); replace HBc := hide (HBc.out.trans (hbx.mono HBc.out.size)); replace HKc := hide (HKc.out.later hbx); clear hwc hbx; refine (act_any _ _ _ f y z q1 _ HN.out HTB.out (HR.out.later HBc.out) hy hz U1.out).mono ?_; rintro e wd ⟨rfl, hbd⟩; replace HBc := hide (HBc.out.trans (hbd.mono HBc.out.size)); replace HKc := hide (HKc.out.later hbd); clear hbd; have k0 := HKc.out.cell 0 _ rfl)) | (go_at_call 51; have _t := tok1; clear _t tok1; go_must (refine calls_gen fun wc hwc => ?_; (first | have hbx := drew_below hwc | have hbx := eq_below hwc); replace HBc := hide (HBc.out.trans (hbx.mono HBc.out.size)); replace HKc := hide (HKc.out.later hbx); clear hwc hbx; refine (act_any _ _ _ f x q1 q4 _ HN.out HTB.out (HR.out.later HBc.out) hx hq1 U4.out).mono ?_; rintro e wd ⟨rfl, hbd⟩; replace HBc := hide (HBc.out.trans (hbd.mono HBc.out.size)); replace HKc := hide (HKc.out.later hbd); clear hbd; have k0 := HKc.out.cell 0 _ rfl)) | (go_at_call 51; have _t := tok2; clear _t tok2; go_must (refine calls_gen fun wc hwc => ?_; (first | have hbx := drew_below hwc | have hbx := eq_below hwc); replace HBc := hide (HBc.out.trans (hbx.mono HBc.out.size)); replace HKc := hide (HKc.out.later hbx); clear hwc hbx; refine (act_any _ _ _ f x y q2 _ HN.out HTB.out (HR.out.later HBc.out) hx hy U2.out).mono ?_; rintro e wd ⟨rfl, hbd⟩; replace HBc := hide (HBc.out.trans (hbd.mono HBc.out.size)); replace HKc := hide (HKc.out.later hbd); clear hbd; have k0 := HKc.out.cell 0 _ rfl)) | (go_at_call 51; have _t := tok3; clear _t tok3; go_must (refine calls_gen fun wc hwc => ?_; (first | have hbx := drew_below hwc | have hbx := eq_below hwc); replace HBc := hide (HBc.out.trans (hbx.mono HBc.out.size)); replace HKc := hide (HKc.out.later hbx); clear hwc hbx; refine (act_any _ _ _ f x z q3 _ HN.out HTB.out (HR.out.later HBc.out) hx hz U3.out).mono ?_; rintro e wd ⟨rfl, hbd⟩; replace HBc := hide (HBc.out.trans (hbd.mono HBc.out.size)); replace HKc := hide (HKc.out.later hbd); clear hbd; have k0 := HKc.out.cell 0 _ rfl)) | (go_at_call 51; go_must (refine calls_gen fun wc hwc => ?_; (first | have hbx := drew_below hwc | have hbx := eq_below hwc); replace HBc := hide (HBc.out.trans (hbx.mono HBc.out.size)); replace HKc := hide (HKc.out.later hbx); clear hwc hbx; refine (act_any _ _ _ f q2 q3 q5 _ HN.out HTB.out (HR.out.later HBc.out) hq2 hq3 U5.out).mono ?_; rintro e wd ⟨rfl, hbd⟩; replace HBc := hide (HBc.out.trans (hbd.mono HBc.out.size)); replace HKc := hide (HKc.out.later hbd); clear hbd; have k0 := HKc.out.cell 0 _ rfl)))
    go_wp2_with fail
    go_ret
    exact ⟨rfl, HBc.out⟩

set_option maxRecDepth 100000 in
theorem kfaultQ_any (A : Option Addr) (n c : Nat) (f : List (List Int)) (T : Nat) (w : World) (hn : f.length = n) (ht : Tbl f) (hr : Rd2 w A f) (hT : FirstQ (rkq f) n T) :
    Calls Try.prog 84 #[.agg #[.slice A n c]] w fun e w' => (T = n * n * n ∧ e = .returned (.slice none 0 0) ∧ Below w.heap.size w w') ∨ (T < n * n * n ∧ ∃ g, e = .returned (.slice (some ⟨g, 0, none⟩) 3 3) ∧ Below w.heap.size w w' ∧ w.heap.size ≤ g ∧ OwnB 2 w' g (lst3 (trip n T))) := by
  have h1 : 1 ≤ n := by rw [← hn]; exact ht.1
  have h12 : n ≤ 12 := by rw [← hn]; exact ht.2.1
  have HN := hide hn
  have HTB := hide ht
  have HR := hide hr
  have HT := hide hT
  have HB0 := hide ((Below.refl _ w).alloc (Nat.le_refl _) (Obj.cells #[Value.slice A n c] 26))
  have HK0 := hide (Blk.new w 26 [.slice A n c])
  clear hn ht hr hT
  go_enter Try.func84, Try.ntmps84
  go_wp2_with fail
  refine (ksize_any _ _ _ _ (by omega)).mono ?_
  rintro e w2 ⟨rfl, hb2⟩
  have HB2 := hide (HB0.out.trans (hb2.mono HB0.out.size))
  have HK2 := hide (HK0.out.later hb2)
  clear hb2
  go_wp2_with fail
  refine (firstTriple_any 95 _ n (rkq f) T _ (fun _ _ => rfl) h1 h12 (kfC_any A n c f w.heap.size _ HN.out HTB.out (HR.out.later HB2.out) HK2.out) HT.out).mono ?_
  rintro e w3 (⟨hTe, rfl, hb3⟩ | ⟨hTl, g, rfl, hb3, hg, hob⟩)
  · have HB3 := hide (HB2.out.trans (hb3.mono HB2.out.size))
    clear hb3
    go_wp2_with fail
    go_ret
    exact .inl ⟨hTe, rfl, HB3.out⟩
  · have HB3 := hide (HB2.out.trans (hb3.mono HB2.out.size))
    have HO3 := hide hob
    have hlo : w.heap.size ≤ g := by have := HB2.out.size; omega
    clear hb3 hob
    go_wp2_with fail
    go_ret
    exact .inr ⟨hTl, _, rfl, HB3.out, hlo, HO3.out⟩

theorem kfault_any (A : Option Addr) (n c : Nat) (f : List (List Int)) (T : Nat) (w : World) (hn : f.length = n) (ht : Tbl f) (hr : Rd2 w A f) (hT : FirstK f n T) :
    Calls Try.prog 84 #[.agg #[.slice A n c]] w fun e w' => (T = n * n * n ∧ e = .returned (.slice none 0 0) ∧ Below w.heap.size w w') ∨ (T < n * n * n ∧ ∃ g, e = .returned (.slice (some ⟨g, 0, none⟩) 3 3) ∧ Below w.heap.size w w' ∧ w.heap.size ≤ g ∧ OwnB 2 w' g (lst3 (trip n T))) :=
  kfaultQ_any A n c f T w hn ht hr hT.q
end Go.Proofs.Ytkflmhmbkilmpac
namespace Go.Proofs.Ytkflmhmbkilmpac
open Go Go.RowKit
set_option maxHeartbeats 2000000

set_option maxRecDepth 100000 in
theorem isRackI (A : Option Addr) (n c : Nat) (f : List (List Int)) (r : Bool) (w : World) (hn : f.length = n) (hb : n ≤ 1048576) (hbs : ∀ i, i < f.length → (f.getD i []).length ≤ 1048576) (hr : Rd2 w A f) (hres : RkRes f r) :
    Calls Try.prog 47 #[.agg #[.slice A n c]] w fun e w' => e = .returned (.bool r) ∧ Below w.heap.size w w' := by
  have HN := hide hn
  have HBS := hide hbs
  have HRD := hide hr
  have HR := hide hres
  have hnil : ∀ (u : World) (a : Option Addr) (n c : Nat), (binOp .eql 33 (.slice a n c) (.slice none 0 0)).run Try.prog u = .ok (.bool a.isNone) u := fun u a n c => Lib.run_eql_slice_nil u 33 _ a n c 0 0 Try.underlying33
  have HB0 := hide ((Below.refl _ w).alloc (Nat.le_refl _) (Obj.cells #[Value.slice A n c] 26))
  have HK0 := hide (Blk.new w 26 [.slice A n c])
  by_cases ht : Tbl f
  · have HTB := hide ht
    have hTm : ∃ T, FirstK f n T := FirstK.ex f n
    by_cases hp : AllPrm f
    · have HP := hide hp
      obtain ⟨T, hT⟩ := hTm
      have HT := hide hT
      have hiff : r = true ↔ T = n * n * n := by
        have hrr : r = true ↔ Rck f := HR.out
        rw [hrr, hT.iff, ← hn]
        exact ⟨fun h => h.2, fun h => ⟨⟨ht, hp⟩, h⟩⟩
      have HI := hide hiff
      clear hn hbs hr hres ht hp hT hiff
      go_enter Try.func47, Try.ntmps47
      go_wp2_with fail
      refine (isTable_any _ _ _ f true _ HN.out (by omega) (fun i hi => by have := HBS.out i hi; omega) (HRD.out.later HB0.out) (by simp [HTB.out])).mono ?_
      rintro e w1 ⟨rfl, hq1⟩
      have HB1 := hide (HB0.out.trans (hq1.below _))
      have HK1 := hide (HK0.out.later (hq1.below _))
      clear hq1
      have k0 := HK1.out.cell 0 _ rfl
      go_wp2_with fail
      clear k0
      refine (rowsI_any _ _ _ f true _ HN.out hb HBS.out (HRD.out.later HB1.out) ⟨fun _ => HP.out, fun _ => rfl⟩).mono ?_
      rintro e w2 ⟨rfl, hb2⟩
      have HB2 := hide (HB1.out.trans (hb2.mono HB1.out.size))
      have HK2 := hide (HK1.out.later hb2)
      clear hb2
      have k0 := HK2.out.cell 0 _ rfl
      go_wp2_with fail
      clear k0
      refine (kfault_any _ _ _ f T _ HN.out HTB.out (HRD.out.later HB2.out) HT.out).mono ?_
      rintro e w3 (⟨hTe, rfl, hb3⟩ | ⟨hTl, g, rfl, hb3, hg, hob⟩)
      · have hrt : r = true := HI.out.2 hTe
        subst hrt
        have HB3 := hide (HB2.out.trans (hb3.mono HB2.out.size))
        clear hb3 hTe
        go_wp2_with fail
        go_ret
        exact ⟨rfl, HB3.out⟩
      · have hrf : r = false := by
          cases r
          · rfl
          · have := HI.out.1 rfl; omega
        subst hrf
        have HB3 := hide (HB2.out.trans (hb3.mono HB2.out.size))
        clear hb3 hTl hob
        go_wp2_with fail
        go_ret
        exact ⟨rfl, HB3.out⟩
    · have hrf : r = false := by
        cases r
        · rfl
        · exact absurd (HR.out.1 rfl).prm hp
      subst hrf
      have HP := hide hp
      clear hn hbs hr hres ht hp
      go_enter Try.func47, Try.ntmps47
      go_wp2_with fail
      refine (isTable_any _ _ _ f true _ HN.out (by omega) (fun i hi => by have := HBS.out i hi; omega) (HRD.out.later HB0.out) (by simp [HTB.out])).mono ?_
      rintro e w1 ⟨rfl, hq1⟩
      have HB1 := hide (HB0.out.trans (hq1.below _))
      have HK1 := hide (HK0.out.later (hq1.below _))
      clear hq1
      have k0 := HK1.out.cell 0 _ rfl
      go_wp2_with fail
      clear k0
      refine (rowsI_any _ _ _ f false _ HN.out hb HBS.out (HRD.out.later HB1.out) ⟨fun h => (by cases h), fun h => absurd h HP.out⟩).mono ?_
      rintro e w2 ⟨rfl, hb2⟩
      have HB2 := hide (HB1.out.trans (hb2.mono HB1.out.size))
      clear hb2
      go_wp2_with fail
      go_ret
      exact ⟨rfl, HB2.out⟩
  · have hrf : r = false := by
      cases r
      · rfl
      · exact absurd (HR.out.1 rfl).tbl ht
    subst hrf
    have HTB := hide ht
    clear hn hbs hr hres ht
    go_enter Try.func47, Try.ntmps47
    go_wp2_with fail
    refine (isTable_any _ _ _ f false _ HN.out (by omega) (fun i hi => by have := HBS.out i hi; omega) (HRD.out.later HB0.out) (by simp [HTB.out])).mono ?_
    rintro e w1 ⟨rfl, hq1⟩
    have HB1 := hide (HB0.out.trans (hq1.below _))
    clear hq1
    go_wp2_with fail
    go_ret
    exact ⟨rfl, HB1.out⟩
end Go.Proofs.Ytkflmhmbkilmpac
namespace Go.Proofs.Ytkflmhmbkilmpac
open Go Go.RowKit
set_option maxHeartbeats 400000

theorem l01Table_any (A : Option Addr) (n c : Nat) (rows : List (List Int)) (r : Bool) (w : World) (hn : rows.length = n) (hb : n ≤ 9223372036854775807) (hbs : ∀ i, i < rows.length → (rows.getD i []).length ≤ 9223372036854775807) (hr : Rd2 w A rows) (hrr : r = true ↔ Tbl rows) :
    Calls Try.prog 65 #[.slice A n c] w fun e w' => e = .returned (.bool r) ∧ Quiet w w' := by
  have HN := hide hn
  have HR := hide hrr
  clear hn hrr
  by_cases h12 : 1 ≤ n ∧ n ≤ 12
  · obtain ⟨h1, h2⟩ := h12
    have hno : ¬ Tbl rows → r = false := fun h => by
      cases r
      · rfl
      · exact absurd (HR.out.1 rfl) h
    have HNO := hide hno
    clear hno
    go_enter Try.func65, Try.ntmps65
    go_wp2_with (go_at_call 86; refine (in_any _ _ _ true _ (by simp; omega)).mono ?_; rintro e w1 ⟨rfl, hq1⟩)
    have HQ1 := hide hq1
    clear hq1
    go_loopw [4] (fun i wr => ∃ k : Nat, k ≤ n ∧ i = .int .i64 k ∧ Quiet w wr ∧ ∀ i, i < k → RowOk n (rows.getD i [])) (fun i _ => n - (intOf i).toNat)
    case atStart => exact ⟨0, Nat.zero_le _, rfl, HQ1.out, fun i hi => absurd hi (Nat.not_lt_zero _)⟩
    case round =>
      obtain ⟨k, hk, rfl, hq, hall⟩ := hrel
      have HQ := hide hq
      have HALL := hide hall
      clear hq hall
      by_cases hlt : k < n
      · obtain ⟨b, o, rfl, _, hc⟩ := HQ.out.rd2 hr (by have := HN.out; omega)
        obtain ⟨Ak, ck, hcell, hrd⟩ := hc k (by have := HN.out; omega)
        have hbk := hbs k (by have := HN.out; omega)
        obtain ⟨x, hx⟩ : ∃ x, x = rows.getD k [] := ⟨_, rfl⟩
        obtain ⟨m, hm⟩ : ∃ m, x.length = m := ⟨_, rfl⟩
        rw [← hx] at hcell hrd hbk
        rw [hm] at hcell hbk
        have HX := hide hx
        have HM := hide hm
        clear hx hm hc hbs
        have hltz : (k : Int) < n := by omega
        by_cases hmn : m = n
        · subst hmn
          go_wp2_with fail
          obtain ⟨wo, rfl⟩ : ∃ wo : World, wo = wr := ⟨_, rfl⟩
          go_loopw [5] (fun i wi => ∃ j : Nat, j ≤ m ∧ i = .int .i64 j ∧ Quiet wo wi ∧ ∀ i, i < j → 0 ≤ x.getD i 0 ∧ x.getD i 0 < (m : Int)) (fun i _ => m - (intOf i).toNat)
          case atStart => exact ⟨0, Nat.zero_le _, rfl, Quiet.refl _, fun i hi => absurd hi (Nat.not_lt_zero _)⟩
          case round =>
            obtain ⟨j, hj, rfl, hqi, hin⟩ := hrel
            have HIN := hide hin
            have HQI := hide hqi
            clear hin
            by_cases hjm : j < m
            · obtain ⟨b2, o2, rfl, _, hc2⟩ := hqi.rd hrd (by have := HM.out; omega)
              have hcell2 := (hqi.cell ⟨b, o + k, none⟩).trans hcell
              have hv := hc2 j (by have := HM.out; omega)
              obtain ⟨y, hy⟩ : ∃ y, y = x.getD j 0 := ⟨_, rfl⟩
              rw [← hy] at hv
              have HY := hide hy
              clear hy hc2 hqi hcell
              have hjz : (j : Int) < m := by omega
              by_cases hyr : 0 ≤ y ∧ y ≤ (m : Int) - 1
              · have HYR := hide hyr
                clear hyr
                go_wp2_with (go_at_call 86; refine (in_any _ _ _ true _ (by simp [HYR.out.1, HYR.out.2])).mono ?_; rintro e w1 ⟨rfl, hq1⟩)
                go_roundw
                case rel =>
                  refine ⟨j + 1, by omega, by go_num, HQI.out.trans hq1, fun i hi => ?_⟩
                  by_cases e : i = j
                  · subst e; rw [← HY.out]; have := HYR.out; exact ⟨this.1, by omega⟩
                  · exact HIN.out i (by omega)
                case measure => simp [intOf]; omega
              · have HYR := hide hyr
                clear hyr
                go_wp2_with (go_at_call 86; refine (in_any _ _ _ false _ (by simpa using HYR.out)).mono ?_; rintro e w1 ⟨rfl, hq1⟩)
                go_ret
                have : r = false := HNO.out fun h => HYR.out (by
                  have h := (h.2.2 k (by have := HN.out; omega)).2 j (by have := HN.out; omega)
                  rw [← HX.out, ← HY.out, HN.out] at h
                  exact ⟨h.1, by omega⟩)
                exact ⟨by subst this; rfl, HQ.out.trans (HQI.out.trans hq1)⟩
            · have hjm' : j = m := by omega
              subst hjm'
              go_wp2_with fail
              go_roundw
              case rel => 
                refine ⟨k + 1, by omega, by go_num, HQ.out.trans HQI.out, fun i hi => ?_⟩
                by_cases e : i = k
                · subst e; rw [← HX.out]; exact ⟨HM.out, HIN.out⟩
                · exact HALL.out i (by omega)
              case measure => simp [intOf]; omega
        · have hne : ((m : Int) != (n : Int)) = true := by simp; omega
          have HMN := hide hmn
          clear hmn
          go_wp2_with fail
          go_ret
          have : r = false := HNO.out fun h => HMN.out (by
            have h := (h.2.2 k (by have := HN.out; omega)).1
            rw [← HX.out, HM.out, HN.out] at h
            exact h)
          exact ⟨by subst this; rfl, by first | exact HQ.out | exact HQ.out.drewN _⟩
      · have hkn : k = n := by omega
        subst hkn
        go_wp2_with fail
        go_ret
        have : r = true := HR.out.2 ⟨by have := HN.out; omega, by have := HN.out; omega, fun i hi => by
          have h := HALL.out i (by have := HN.out; omega)
          rw [HN.out]
          exact h⟩
        exact ⟨by subst this; rfl, HQ.out⟩
  · have : r = false := by
      cases r
      · rfl
      · have := HR.out.1 rfl
        have h := HN.out
        unfold Tbl at this
        omega
    subst this
    go_enter Try.func65, Try.ntmps65
    go_wp2_with (go_at_call 86; refine (in_any _ _ _ false _ (by simp; omega)).mono ?_; rintro e w1 ⟨rfl, hq1⟩)
    go_ret
    exact ⟨rfl, hq1⟩

end Go.Proofs.Ytkflmhmbkilmpac
namespace Go.Proofs.Ytkflmhmbkilmpac
open Go Go.RowKit
set_option maxHeartbeats 2000000

set_option maxRecDepth 100000 in
theorem faultK_any (A : Option Addr) (n c : Nat) (f : List (List Int)) (T : Nat) (w : World) (hn : f.length = n) (ht : Tbl f) (hr : Rd2 w A f) (hT : FirstK f n T) :
    Calls Try.prog 81 #[.slice A n c] w fun e w' => (T = n * n * n ∧ e = .returned (.slice none 0 0) ∧ Below w.heap.size w w') ∨ (T < n * n * n ∧ ∃ g, e = .returned (.slice (some ⟨g, 0, none⟩) 3 3) ∧ Below w.heap.size w w' ∧ w.heap.size ≤ g ∧ OwnB 2 w' g (lst3 (trip n T))) := by
  have h1 : 1 ≤ n := by rw [← hn]; exact ht.1
  have h12 : n ≤ 12 := by rw [← hn]; exact ht.2.1
  obtain ⟨b, o, rfl, hb, hc⟩ := ht.cells hr hn
  have HC := hide hc
  have HN := hide hn
  have HTB := hide ht
  have HT := hide hT
  clear hn ht hr hT hc
  go_enter Try.func81, Try.ntmps81
  go_wp2_with fail
  go_loopw [4] (fun i wr => ∃ x : Nat, x ≤ n ∧ i = .int .i64 x ∧ Quiet w wr ∧ ∀ i, i < x * n * n → Rk3 f n i) (fun i _ => n - (intOf i).toNat)
  case atStart => exact ⟨0, Nat.zero_le _, rfl, Quiet.refl _, fun i hi => absurd hi (by omega)⟩
  case round =>
    obtain ⟨x, hx, rfl, hq, hall⟩ := hrel
    have HQ := hide hq
    clear hq
    have HALL := hide hall
    clear hall
    by_cases hlt : x < n
    · have hxz : (x : Int) < n := by omega
      go_wp2_with fail
      go_loopw [5] (fun i wi => ∃ y : Nat, y ≤ n ∧ i = .int .i64 y ∧ Quiet w wi ∧ ∀ i, i < (x * n + y) * n → Rk3 f n i) (fun i _ => n - (intOf i).toNat)
      case atStart => exact ⟨0, Nat.zero_le _, rfl, HQ.out, fun i hi => HALL.out i (by rw [Nat.add_zero] at hi; exact hi)⟩
      case round =>
        obtain ⟨y, hy, rfl, hq, halli⟩ := hrel
        have HQI := hide hq
        clear hq
        have HALLI := hide halli
        clear halli
        by_cases hlty : y < n
        · have hyz : (y : Int) < n := by omega
          go_wp2_with fail
          go_loopw [6] (fun i wi => ∃ z : Nat, z ≤ n ∧ i = .int .i64 z ∧ Quiet w wi ∧ ∀ i, i < (x * n + y) * n + z → Rk3 f n i) (fun i _ => n - (intOf i).toNat)
          case atStart => exact ⟨0, Nat.zero_le _, rfl, HQI.out, HALLI.out⟩
          case round =>
            obtain ⟨z, hzn, rfl, hq, hallj⟩ := hrel
            have HQJ := hide hq
            clear hq
            have HALLJ := hide hallj
            clear hallj
            by_cases hltz : z < n
            · have hzz : (z : Int) < n := by omega
              have hq1 := HTB.out.ap_lt HN.out hlty hltz
              have hq2 := HTB.out.ap_lt HN.out hlt hlty
              have hq3 := HTB.out.ap_lt HN.out hlt hltz
              have hat := Rk3.at (f := f) (n := n) (x := x) hlty hltz
              have HTR := hide (trip_of (n := n) (x := x) hlty hltz)
              have HKL := hide (trip_lt (n := n) hlt hlty hltz)
              obtain ⟨q1, h_1⟩ : ∃ u, ap f y z = u := ⟨_, rfl⟩
              obtain ⟨q2, h_2⟩ : ∃ u, ap f x y = u := ⟨_, rfl⟩
              obtain ⟨q3, h_3⟩ : ∃ u, ap f x z = u := ⟨_, rfl⟩
              rw [h_1, h_2, h_3] at hat
              rw [h_1] at hq1
              rw [h_2] at hq2
              rw [h_3] at hq3
              obtain ⟨q4, h_4⟩ : ∃ u, ap f x q1 = u := ⟨_, rfl⟩
              obtain ⟨q5, h_5⟩ : ∃ u, ap f q2 q3 = u := ⟨_, rfl⟩
              rw [h_4, h_5] at hat
              have HAT := hide hat
              obtain ⟨bx, ox, cx, r1, r2, r3⟩ := HC.out x hlt
              obtain ⟨by', oy, cy, s1, s2, s3⟩ := HC.out y hlty
              obtain ⟨bq, oq, cq, t1, t2, t3⟩ := HC.out q2 hq2
              have e1 := s3 z hltz
              rw [h_1] at e1
              have e2 := r3 y hlty
              rw [h_2] at e2
              have e3 := r3 z hltz
              rw [h_3] at e3
              have e4 := r3 q1 hq1
              rw [h_4] at e4
              have e5 := t3 q3 hq3
              rw [h_5] at e5
              have z1 : (q1 : Int) < n := by omega
              have z2 : (q2 : Int) < n := by omega
              have z3 : (q3 : Int) < n := by omega
              have hbl := HQJ.out.below w.heap.size
              replace r1 := (hbl.cell (p := ⟨b, o + x, none⟩) hb).trans r1
              replace s1 := (hbl.cell (p := ⟨b, o + y, none⟩) hb).trans s1
              replace t1 := (hbl.cell (p := ⟨b, o + q2, none⟩) hb).trans t1
              replace e1 := (hbl.cell (p := ⟨by', oy + z, none⟩) s2).trans e1
              replace e2 := (hbl.cell (p := ⟨bx, ox + y, none⟩) r2).trans e2
              replace e3 := (hbl.cell (p := ⟨bx, ox + z, none⟩) r2).trans e3
              replace e4 := (hbl.cell (p := ⟨bx, ox + q1, none⟩) r2).trans e4
              replace e5 := (hbl.cell (p := ⟨bq, oq + q3, none⟩) t2).trans e5
              clear hbl h_1 h_2 h_3 h_4 h_5 hat r3 s3 t3
              by_cases hcs : q4 = q5
              · have HGOOD := hide (HAT.out.2 hcs)
                subst hcs
                go_wp2_with fail
                go_quiet (fail)
                go_wp2_with fail
                go_roundw
                case rel => exact ⟨z + 1, by omega, by go_num, HQJ.out.drewN _, fun i hi => by
                  by_cases e : i = (x * n + y) * n + z
                  · rw [e]; exact HGOOD.out
                  · exact HALLJ.out i (by omega)⟩
                case measure => simp [intOf]; omega
              · have hbad : ¬ Rk3 f n ((x * n + y) * n + z) := fun h => hcs (HAT.out.1 h)
                have HTB2 := hide (HT.out.bad HALLJ.out HKL.out hbad)
                have hcz : ¬ (q4 : Int) = q5 := by omega
                clear hbad
                go_wp2_with fail
                go_quiet (fail)
                go_wp2_with fail
                refine bp_gen fun wf hwf => ?_
                have HBF : Below w.heap.size w wf := by rw [hwf]; exact ((HQJ.out.drewN nq).below _).alloc ((HQJ.out.drewN nq).below 0).size _
                have HLF : Hid (Blk wf (wr.drewN nq).heap.size 2 [.int .i64 x, .int .i64 y, .int .i64 z]) := hide (by rw [hwf]; exact Blk.new _ _ _)
                have hlo : w.heap.size ≤ (wr.drewN nq).heap.size := ((HQJ.out.drewN nq).below 0).size
                clear hwf
                go_ret
                exact .inr ⟨by rw [HTB2.out]; exact HKL.out, _, rfl, HBF, hlo, _, HLF.out, fun i hi => by
                  rw [HTB2.out, HTR.out] at hi ⊢
                  simp [lst3] at hi
                  rcases i with _ | _ | _ | i
                  · rfl
                  · rfl
                  · rfl
                  · omega⟩
            · have hzn' : z = n := by omega
              subst hzn'
              go_wp2_with fail
              go_roundw
              case rel => exact ⟨y + 1, by omega, by go_num, HQJ.out, fun i hi => HALLJ.out i (by rw [← Nat.add_assoc, Nat.add_mul _ 1, Nat.one_mul] at hi; exact hi)⟩
              case measure => simp [intOf]; omega
        · have hyn' : y = n := by omega
          subst hyn'
          go_wp2_with fail
          go_roundw
          case rel => exact ⟨x + 1, by omega, by go_num, HQI.out, fun i hi => HALLI.out i (by rw [Nat.add_mul x 1, Nat.one_mul] at hi; exact hi)⟩
          case measure => simp [intOf]; omega
    · have hxn : x = n := by omega
      subst hxn
      go_wp2_with fail
      go_ret
      exact .inl ⟨HT.out.all HALL.out, rfl, HQ.out.below _⟩
end Go.Proofs.Ytkflmhmbkilmpac
namespace Go.Proofs.Ytkflmhmbkilmpac
open Go Go.RowKit
set_option maxHeartbeats 400000

theorem l01Perm_any (A : Option Addr) (n c : Nat) (xs : List Int) (r : Bool) (w : World) (hn : xs.length = n) (hb : n ≤ 9223372036854775807) (hr : Rd w A xs) (hrr : r = true ↔ 1 ≤ n ∧ n ≤ 12 ∧ ∀ x : Int, 0 ≤ x → x < (n : Int) → x ∈ xs) :
    Calls Try.prog 80 #[.slice A n c] w fun e w' => e = .returned (.bool r) ∧ Quiet w w' := by
  have HN := hide hn
  have HR := hide hrr
  clear hn hrr
  by_cases h12 : 1 ≤ n ∧ n ≤ 12
  · obtain ⟨h1, h2⟩ := h12
    go_enter Try.func80, Try.ntmps80
    go_wp2_with (go_at_call 86; refine (in_any _ _ _ true _ (by simp; omega)).mono ?_; rintro e w1 ⟨rfl, hq1⟩)
    have HQ1 := hide hq1
    clear hq1
    go_loopw [4] (fun i wr => ∃ k : Nat, k ≤ n ∧ i = .int .i64 k ∧ Quiet w wr ∧ ∀ x : Int, 0 ≤ x → x < (k : Int) → x ∈ xs) (fun i _ => n - (intOf i).toNat)
    case atStart => exact ⟨0, Nat.zero_le _, rfl, HQ1.out, fun x h0 h1 => by omega⟩
    case round =>
      obtain ⟨k, hk, rfl, hq, hall⟩ := hrel
      have HQ := hide hq
      have HALL := hide hall
      clear hq hall
      by_cases hlt : k < n
      · have hltz : (k : Int) < n := by omega
        by_cases hm : (k : Int) ∈ xs
        · have HM := hide hm
          clear hm
          go_wp2_with (go_at_call 92; refine (has_any _ _ _ xs _ true _ HN.out hb (HQ.out.rd hr) (by simp [HM.out])).mono ?_; rintro e w2 ⟨rfl, hq2⟩)
          have HQ2 := hide hq2
          clear hq2
          go_roundw
          case rel =>
            refine ⟨k + 1, by omega, by go_num, HQ.out.trans HQ2.out, fun x h0 h1 => ?_⟩
            by_cases e : x = (k : Int)
            · subst e; exact HM.out
            · exact HALL.out x h0 (by omega)
          case measure => simp [intOf]; omega
        · have HM := hide hm
          clear hm
          go_wp2_with (go_at_call 92; refine (has_any _ _ _ xs _ false _ HN.out hb (HQ.out.rd hr) (by simp [HM.out])).mono ?_; rintro e w2 ⟨rfl, hq2⟩)
          go_ret
          have : r = false := by
            cases r
            · rfl
            · exact absurd ((HR.out.1 rfl).2.2 k (by omega) (by omega)) HM.out
          exact ⟨by subst this; rfl, HQ.out.trans hq2⟩
      · have hkn : k = n := by omega
        subst hkn
        go_wp2_with fail
        go_ret
        have : r = true := HR.out.2 ⟨h1, h2, HALL.out⟩
        exact ⟨by subst this; rfl, HQ.out⟩
  · have : r = false := by
      cases r
      · rfl
      · have := HR.out.1 rfl
        omega
    subst this
    go_enter Try.func80, Try.ntmps80
    go_wp2_with (go_at_call 86; refine (in_any _ _ _ false _ (by simp; omega)).mono ?_; rintro e w1 ⟨rfl, hq1⟩)
    go_ret
    exact ⟨rfl, hq1⟩

theorem prmS_any (A : Option Addr) (n c : Nat) (xs : List Int) (r : Bool) (w : World) (hn : xs.length = n) (hb : n ≤ 9223372036854775807) (hr : Rd w A xs) (hrr : r = true ↔ Prm xs) :
    Calls Try.prog 80 #[.slice A n c] w fun e w' => e = .returned (.bool r) ∧ Quiet w w' :=
  l01Perm_any A n c xs r w hn hb hr (by rw [hrr, prm_iff, hn])
theorem prmS_below (A : Option Addr) (n c : Nat) (xs : List Int) (r : Bool) (w : World) (hn : xs.length = n) (hb : n ≤ 9223372036854775807) (hr : Rd w A xs) (hrr : r = true ↔ Prm xs) :
    Calls Try.prog 80 #[.slice A n c] w fun e w' => e = .returned (.bool r) ∧ Below w.heap.size w w' :=
  (prmS_any A n c xs r w hn hb hr hrr).mono fun _ _ ⟨he, hq⟩ => ⟨he, hq.below _⟩
end Go.Proofs.Ytkflmhmbkilmpac
namespace Go.Proofs.Ytkflmhmbkilmpac
open Go Go.RowKit
set_option maxHeartbeats 2000000

set_option maxRecDepth 100000 in
theorem isRackS (A : Option Addr) (n c : Nat) (f : List (List Int)) (r : Bool) (w : World) (hn : f.length = n) (hb : n ≤ 1048576) (hbs : ∀ i, i < f.length → (f.getD i []).length ≤ 1048576) (hr : Rd2 w A f) (hres : RkRes f r) :
    Calls Try.prog 44 #[.agg #[.slice A n c]] w fun e w' => e = .returned (.bool r) ∧ Below w.heap.size w w' := by
  have HN := hide hn
  have HBS := hide hbs
  have HRD := hide hr
  have HR := hide hres
  have HB0 := hide ((Below.refl _ w).alloc (Nat.le_refl _) (Obj.cells #[Value.slice A n c] 26))
  have HK0 := hide (Blk.new w 26 [.slice A n c])
  by_cases ht : Tbl f
  · have HTB := hide ht
    obtain ⟨T, hT⟩ := FirstK.ex f n
    have HT := hide hT
    clear hn hbs hr hres ht hT
    go_enter Try.func44, Try.ntmps44
    go_wp2_with fail
    refine (l01Table_any _ _ _ f true _ HN.out (by omega) (fun i hi => by have := HBS.out i hi; omega) (HRD.out.later HB0.out) (by simp [HTB.out])).mono ?_
    rintro e w1 ⟨rfl, hq1⟩
    have HB1 := hide (HB0.out.trans (hq1.below _))
    have HK1 := hide (HK0.out.later (hq1.below _))
    clear hq1
    go_wp2_with fail
    go_loopw [3] (fun i wr => ∃ k : Nat, k ≤ n ∧ i = .int .i64 k ∧ Below w.heap.size w wr ∧ Blk wr w.heap.size 26 [.slice A n c] ∧ ∀ i, i < k → Prm (f.getD i [])) (fun i _ => n - (intOf i).toNat)
    case atStart => exact ⟨0, Nat.zero_le _, rfl, HB1.out, HK1.out, fun i hi => absurd hi (Nat.not_lt_zero _)⟩
    case round =>
      obtain ⟨k, hk, rfl, hbe, hkk, hall⟩ := hrel
      have HB := hide hbe
      have HK := hide hkk
      have HALL := hide hall
      clear hbe hkk hall
      have k0 := HK.out.cell 0 _ rfl
      by_cases hlt : k < n
      · obtain ⟨b, o, hA, _, hc⟩ := (HRD.out.later HB.out) (by have := HN.out; omega)
        obtain ⟨Ak, ck, hcell, hrd⟩ := hc k (by have := HN.out; omega)
        have hbk := HBS.out k (by have := HN.out; omega)
        obtain ⟨x, hx⟩ : ∃ x, x = f.getD k [] := ⟨_, rfl⟩
        obtain ⟨m, hm⟩ : ∃ m, x.length = m := ⟨_, rfl⟩
        rw [← hx] at hcell hrd hbk
        rw [hm] at hcell hbk
        have HX := hide hx
        have HM := hide hm
        have hltz : (k : Int) < n := by omega
        clear hx hm hc
        subst hA
        by_cases hp : Prm x
        · have HP := hide hp
          clear hp
          go_wp2_with fail
          clear k0
          refine (prmS_below _ _ _ x true _ HM.out (by omega) hrd (by simp [HP.out])).mono ?_
          rintro e w2 ⟨rfl, hq1⟩
          have HQ1 := hide hq1
          clear hq1
          go_wp2_with fail
          go_roundw
          case rel =>
            refine ⟨k + 1, by omega, by go_num, HB.out.trans (HQ1.out.mono HB.out.size), HK.out.later HQ1.out, fun i hi => ?_⟩
            by_cases e : i = k
            · subst e; rw [← HX.out]; exact HP.out
            · exact HALL.out i (by omega)
          case measure => simp [intOf]; omega
        · have HP := hide hp
          clear hp
          go_wp2_with fail
          clear k0
          refine (prmS_below _ _ _ x false _ HM.out (by omega) hrd (by simp [HP.out])).mono ?_
          rintro e w2 ⟨rfl, hq1⟩
          have HQ1 := hide hq1
          clear hq1
          have hnp : ¬ AllPrm f := fun h => by
            have h := h k (by have := HN.out; omega)
            rw [← HX.out] at h
            exact HP.out h
          have hrf : r = false := by
            cases r
            · rfl
            · have hrr : true = true ↔ Rck f := HR.out
              exact absurd (hrr.1 rfl).prm hnp
          subst hrf
          clear hnp
          go_wp2_with fail
          go_ret
          exact ⟨rfl, HB.out.trans (HQ1.out.mono HB.out.size)⟩
      · have hkn : k = n := by omega
        subst hkn
        have HAP : Hid (AllPrm f) := hide (fun i hi => HALL.out i (by have := HN.out; omega))
        go_wp2_with fail
        clear k0
        refine (faultK_any _ _ _ f T _ HN.out HTB.out (HRD.out.later HB.out) HT.out).mono ?_
        rintro e w3 (⟨hTe, rfl, hb3⟩ | ⟨hTl, g, rfl, hb3, hg, hob⟩)
        · have hrt : r = true := by
            have hrr : r = true ↔ Rck f := HR.out
            rw [hrr]
            refine ⟨⟨HTB.out, HAP.out⟩, ?_⟩
            rw [HN.out]
            exact HT.out.iff.1 hTe
          subst hrt
          have HB3 := hide (HB.out.trans (hb3.mono HB.out.size))
          clear hb3 hTe
          go_wp2_with fail
          go_ret
          exact ⟨rfl, HB3.out⟩
        · have hrf : r = false := by
            cases r
            · rfl
            · have hrr : true = true ↔ Rck f := HR.out
              have h := (hrr.1 rfl).2
              rw [HN.out] at h
              have := HT.out.iff.2 h
              omega
          subst hrf
          have HB3 := hide (HB.out.trans (hb3.mono HB.out.size))
          clear hb3 hTl hob
          go_wp2_with fail
          go_ret
          exact ⟨rfl, HB3.out⟩
  · have HTB := hide ht
    have hrf : r = false := by
      cases r
      · rfl
      · have hrr : true = true ↔ Rck f := HR.out
        exact absurd (hrr.1 rfl).tbl ht
    subst hrf
    clear hn hbs hr hres ht
    go_enter Try.func44, Try.ntmps44
    go_wp2_with fail
    refine (l01Table_any _ _ _ f false _ HN.out (by omega) (fun i hi => by have := HBS.out i hi; omega) (HRD.out.later HB0.out) (by simp [HTB.out])).mono ?_
    rintro e w1 ⟨rfl, hq1⟩
    have HB1 := hide (HB0.out.trans (hq1.below _))
    clear hq1
    go_wp2_with fail
    go_ret
    exact ⟨rfl, HB1.out⟩

end Go.Proofs.Ytkflmhmbkilmpac
namespace Go.Proofs.Ytkflmhmbkilmpac
open Go Go.RowKit

/-- Element x is in the set. -/
def inb (S x : Nat) : Prop := S.testBit x = true
instance (S x : Nat) : Decidable (inb S x) := inferInstanceAs (Decidable (_ = _))
theorem inb_iff (S x : Nat) : inb S x ↔ S / 2 ^ x % 2 = 1 := by
  unfold inb
  rw [Nat.testBit_eq_decide_div_mod_eq]
  simp
theorem inb_eq {S T : Nat} (h : ∀ x, inb S x ↔ inb T x) : S = T := by
  apply Nat.eq_of_testBit_eq
  intro i
  have h1 := h i
  unfold inb at h1
  cases hs : S.testBit i <;> cases ht : T.testBit i <;> simp_all
theorem inb_zero (x : Nat) : ¬ inb 0 x := by simp [inb]
theorem inb_or (S p x : Nat) : inb (S ||| 2 ^ p) x ↔ inb S x ∨ x = p := by
  unfold inb
  rw [Nat.testBit_or, Nat.testBit_two_pow]
  simp
  constructor
  · rintro (h | h)
    · exact .inl h
    · exact .inr h.symm
  · rintro (h | h)
    · exact .inl h
    · exact .inr h.symm
theorem inb_lt {S x k : Nat} (hS : S < 2 ^ k) (h : inb S x) : x < k := by
  by_cases hx : x < k
  · exact hx
  · have : S.testBit x = false := Nat.testBit_lt_two_pow (Nat.lt_of_lt_of_le hS (Nat.pow_le_pow_right (by decide) (by omega)))
    unfold inb at h
    rw [this] at h
    cases h
theorem set_lt {S k : Nat} (h : ∀ x, inb S x → x < k) : S < 2 ^ k := by
  apply Nat.lt_pow_two_of_testBit
  intro i hi
  by_cases hb : S.testBit i = true
  · exact absurd (h i hb) (by omega)
  · simpa using hb
theorem or_lt {S p k : Nat} (h : S < 2 ^ k) (hp : p < k) : S ||| 2 ^ p < 2 ^ k := Nat.or_lt_two_pow h (Nat.pow_lt_pow_right (by decide) hp)
theorem set_sub_le {S T : Nat} (h : ∀ x, inb S x → inb T x) : S ≤ T := by
  have e : S &&& T = S := by
    apply Nat.eq_of_testBit_eq
    intro i
    rw [Nat.testBit_and]
    cases hs : S.testBit i
    · simp
    · have := h i hs
      unfold inb at this
      simp [this]
  rw [← e]
  exact Nat.and_le_right
theorem bt_shr (S x : Nat) (h : x ≤ 64) : (S : Int) / 2 ^ min x 64 = ((S / 2 ^ x : Nat) : Int) := by
  rw [Nat.min_eq_left h]; simp
theorem bt_one (q : Nat) (h : q < 4611686018427387904) : bits .and .i64 (q : Int) 1 = ((q % 2 : Nat) : Int) := by
  have h1 := (bits_nat .i64 62 (by decide) (fun n h0 h1 => by rw [IntKind.wrap_i64]; omega) q 1 (by simpa using h) (by decide)).1
  rw [show ((1 : Int)) = ((1 : Nat) : Int) by rfl, h1, Nat.and_one_is_mod]
theorem bt_in {S k : Nat} (h : S < 4611686018427387904) (hi : inb S k) : bits .and .i64 ((S : Int) / 2 ^ k) 1 = 1 := by
  have e : (S : Int) / 2 ^ k = ((S / 2 ^ k : Nat) : Int) := by simp
  rw [e, bt_one _ (Nat.lt_of_le_of_lt (Nat.div_le_self _ _) h), (inb_iff S k).1 hi]; rfl
theorem bt_out {S k : Nat} (h : S < 4611686018427387904) (hi : ¬ inb S k) : bits .and .i64 ((S : Int) / 2 ^ k) 1 = 0 := by
  have e : (S : Int) / 2 ^ k = ((S / 2 ^ k : Nat) : Int) := by simp
  have h2 : S / 2 ^ k % 2 = 0 := by
    rcases Nat.mod_two_eq_zero_or_one (S / 2 ^ k) with h2 | h2
    · exact h2
    · exact absurd ((inb_iff S k).2 h2) hi
  rw [e, bt_one _ (Nat.lt_of_le_of_lt (Nat.div_le_self _ _) h), h2]; rfl
theorem bt_or (S p : Nat) (h : S < 4611686018427387904) (hp : p < 4611686018427387904) : bits .or .i64 (S : Int) (p : Int) = ((S ||| p : Nat) : Int) :=
  (bits_nat .i64 62 (by decide) (fun n h0 h1 => by rw [IntKind.wrap_i64]; omega) S p (by simpa using h) (by simpa using hp)).2
theorem bt_shl (x : Nat) (h : x ≤ 64) : (2 : Int) ^ min x 64 = ((2 ^ x : Nat) : Int) := by
  rw [Nat.min_eq_left h]; simp

/-- A set that has x > y with any two of its elements. -/
def ClosedF (f : List (List Int)) (S : Nat) : Prop := ∀ x y, inb S x → inb S y → inb S (ap f x y)
/-- The set with all x > y. -/
def GrF (f : List (List Int)) (S V : Nat) : Prop := ∀ t, inb V t ↔ inb S t ∨ ∃ x y, inb S x ∧ inb S y ∧ ap f x y = t
theorem GrF.closed {f : List (List Int)} {S V : Nat} (h : GrF f S V) : V = S ↔ ClosedF f S := by
  constructor
  · rintro rfl x y hx hy
    exact (h _).2 (.inr ⟨x, y, hx, hy, rfl⟩)
  · intro hc
    apply inb_eq
    intro t
    rw [h t]
    constructor
    · rintro (h1 | ⟨x, y, hx, hy, rfl⟩)
      · exact h1
      · exact hc x y hx hy
    · exact .inl
/-- The elements of a set, in ascending order. -/
def mems (k S : Nat) : List Nat := (List.range k).filter fun x => S.testBit x
theorem mems_mem (k S x : Nat) : x ∈ mems k S ↔ x < k ∧ inb S x := by simp [mems, inb]
theorem mems_succ (k S : Nat) : mems (k + 1) S = if inb S k then mems k S ++ [k] else mems k S := by
  unfold mems
  rw [List.range_succ, List.filter_append]
  by_cases h : inb S k
  · have h2 : S.testBit k = true := h
    rw [if_pos h]; simp [h2]
  · have h2 : S.testBit k = false := by simpa [inb] using h
    rw [if_neg h]; simp [h2]
theorem mems_length (k S : Nat) : (mems k S).length ≤ k := by
  unfold mems
  have := List.length_filter_le (fun x => S.testBit x) (List.range k)
  simpa using this
theorem mems_more {S k : Nat} (hS : S < 2 ^ k) (j : Nat) (h : k ≤ j) : mems j S = mems k S := by
  induction j with
  | zero => have : k = 0 := by omega
            subst this; rfl
  | succ j ih =>
    by_cases e : k = j + 1
    · rw [e]
    · rw [mems_succ, if_neg (fun h2 => by have := inb_lt hS h2; omega), ih (by omega)]
def memL (k S : Nat) : List Int := (mems k S).map fun (x : Nat) => (x : Int)
theorem memL_length (k S : Nat) : (memL k S).length = (mems k S).length := by simp [memL]
theorem memL_getD (k S i : Nat) (h : i < (mems k S).length) : (memL k S).getD i 0 = ((mems k S).getD i 0 : Nat) := by simp [memL, h]
theorem memL_succ (k S : Nat) : ints (memL (k + 1) S) = if inb S k then ints (memL k S) ++ [.int .i64 k] else ints (memL k S) := by
  unfold memL
  rw [mems_succ]
  split
  · simp [ints]
  · rfl
end Go.Proofs.Ytkflmhmbkilmpac
namespace Go.Proofs.Ytkflmhmbkilmpac
open Go Go.RowKit
/-- Element number a of a set. -/
def mel (S a : Nat) : Nat := (mems 12 S).getD a 0
theorem mel_in {S a : Nat} (h : a < (mems 12 S).length) : inb S (mel S a) := by
  have : mel S a ∈ mems 12 S := by
    unfold mel
    rw [List.getD_eq_getElem?_getD, List.getElem?_eq_getElem h]
    exact List.getElem_mem h
  exact ((mems_mem _ _ _).1 this).2
theorem mel_of {S x : Nat} (hS : S < 4096) (h : inb S x) : ∃ a, a < (mems 12 S).length ∧ mel S a = x := by
  have hm : x ∈ mems 12 S := (mems_mem _ _ _).2 ⟨inb_lt (k := 12) (by simpa using hS) h, h⟩
  obtain ⟨a, ha, e⟩ := List.getElem_of_mem hm
  exact ⟨a, ha, by unfold mel; rw [List.getD_eq_getElem?_getD, List.getElem?_eq_getElem ha]; exact e⟩
theorem mel_getD {S a : Nat} (h : a < (mems 12 S).length) : (memL 12 S).getD a 0 = (mel S a : Int) := memL_getD _ _ _ h
/-- The set behind the pairs before (i, j). -/
def GrQ (f : List (List Int)) (S i j V : Nat) : Prop := ∀ t, inb V t ↔ inb S t ∨ ∃ a b, (a < i ∨ (a = i ∧ b < j)) ∧ a < (mems 12 S).length ∧ b < (mems 12 S).length ∧ ap f (mel S a) (mel S b) = t
theorem GrQ.start (f : List (List Int)) (S : Nat) : GrQ f S 0 0 S := fun t => ⟨.inl, fun h => by
  rcases h with h | ⟨a, b, h, _⟩
  · exact h
  · omega⟩
theorem GrQ.step {f : List (List Int)} {S i j V v : Nat} (h : GrQ f S i j V) (hi : i < (mems 12 S).length) (hj : j < (mems 12 S).length) (hv : ap f (mel S i) (mel S j) = v) : GrQ f S i (j + 1) (V ||| 2 ^ v) := by
  intro t
  rw [inb_or, h t]
  constructor
  · rintro ((h1 | ⟨a, b, h1, h2, h3, h4⟩) | rfl)
    · exact .inl h1
    · exact .inr ⟨a, b, by omega, h2, h3, h4⟩
    · exact .inr ⟨i, j, by omega, hi, hj, hv⟩
  · rintro (h1 | ⟨a, b, h1, h2, h3, h4⟩)
    · exact .inl (.inl h1)
    · by_cases e : a = i ∧ b = j
      · obtain ⟨rfl, rfl⟩ := e
        exact .inr (h4.symm.trans hv)
      · exact .inl (.inr ⟨a, b, by omega, h2, h3, h4⟩)
theorem GrQ.next {f : List (List Int)} {S i V : Nat} (h : GrQ f S i (mems 12 S).length V) : GrQ f S (i + 1) 0 V := by
  intro t
  rw [h t]
  constructor
  · rintro (h1 | ⟨a, b, h1, h2, h3, h4⟩)
    · exact .inl h1
    · exact .inr ⟨a, b, by omega, h2, h3, h4⟩
  · rintro (h1 | ⟨a, b, h1, h2, h3, h4⟩)
    · exact .inl h1
    · exact .inr ⟨a, b, by omega, h2, h3, h4⟩
theorem GrQ.done {f : List (List Int)} {S V : Nat} (hS : S < 4096) (h : GrQ f S (mems 12 S).length 0 V) : GrF f S V := by
  intro t
  rw [h t]
  constructor
  · rintro (h1 | ⟨a, b, h1, h2, h3, h4⟩)
    · exact .inl h1
    · exact .inr ⟨_, _, mel_in h2, mel_in h3, h4⟩
  · rintro (h1 | ⟨x, y, hx, hy, h4⟩)
    · exact .inl h1
    · obtain ⟨a, ha, rfl⟩ := mel_of hS hx
      obtain ⟨b, hb, rfl⟩ := mel_of hS hy
      exact .inr ⟨a, b, .inl ha, ha, hb, h4⟩
/-- A subrack, as a set. -/
def SubF (f : List (List Int)) (S : Nat) : Prop := S ≠ 0 ∧ ClosedF f S
theorem pow_le (n : Nat) (h : n ≤ 12) : 2 ^ n ≤ 4096 := Nat.pow_le_pow_right (n := 2) (by decide) h
end Go.Proofs.Ytkflmhmbkilmpac
namespace Go.Proofs.Ytkflmhmbkilmpac
open Go Go.RowKit
/-- All are elements. -/
def Els (n : Nat) (xs : List Int) : Prop := ∀ i, i < xs.length → 0 ≤ xs.getD i 0 ∧ xs.getD i 0 < (n : Int)
/-- An element of a list, as a natural number. -/
def el (xs : List Int) (i : Nat) : Nat := (xs.getD i 0).toNat
theorem Els.val {n : Nat} {xs : List Int} (h : Els n xs) {i : Nat} (hi : i < xs.length) : xs.getD i 0 = (el xs i : Int) ∧ el xs i < n := by
  have h1 := h i hi
  unfold el
  omega
/-- The set of the first k elements of a list. -/
def sN (xs : List Int) : Nat → Nat
  | 0 => 0
  | k + 1 => sN xs k ||| 2 ^ el xs k
theorem sN_in (xs : List Int) (k x : Nat) : inb (sN xs k) x ↔ ∃ i, i < k ∧ el xs i = x := by
  induction k with
  | zero => exact ⟨fun h => absurd h (inb_zero x), fun ⟨i, hi, _⟩ => by omega⟩
  | succ k ih =>
    show inb (sN xs k ||| 2 ^ el xs k) x ↔ _
    rw [inb_or, ih]
    constructor
    · rintro (⟨i, hi, e⟩ | rfl)
      · exact ⟨i, by omega, e⟩
      · exact ⟨k, by omega, rfl⟩
    · rintro ⟨i, hi, e⟩
      by_cases h : i = k
      · subst h; exact .inr e.symm
      · exact .inl ⟨i, by omega, e⟩
theorem sN_lt {n : Nat} {xs : List Int} (h : Els n xs) {k : Nat} (hk : k ≤ xs.length) : sN xs k < 2 ^ n :=
  set_lt (fun x hx => by
    obtain ⟨i, hi, rfl⟩ := (sN_in xs k x).1 hx
    exact (h.val (by omega)).2)
theorem sN_ne {xs : List Int} {k : Nat} (h : 0 < k) : sN xs k ≠ 0 := by
  intro e
  have h2 : inb (sN xs k) (el xs 0) := (sN_in xs k _).2 ⟨0, h, rfl⟩
  rw [e] at h2
  exact inb_zero _ h2

/-- A set of what holds, below n. -/
theorem set_of (P : Nat → Prop) (n : Nat) : ∃ V, V < 2 ^ n ∧ ∀ x, x < n → (inb V x ↔ P x) := by
  induction n with
  | zero => exact ⟨0, by simp, fun x hx => absurd hx (Nat.not_lt_zero _)⟩
  | succ n ih =>
    obtain ⟨V, hV, h⟩ := ih
    have hn : ¬ inb V n := fun h2 => by have := inb_lt hV h2; omega
    by_cases hp : P n
    · refine ⟨V ||| 2 ^ n, or_lt (Nat.lt_of_lt_of_le hV (Nat.pow_le_pow_right (by decide) (by omega))) (by omega), fun x hx => ?_⟩
      rw [inb_or]
      by_cases e : x = n
      · subst e; simp [hp]
      · rw [← h x (by omega)]; simp [e]
    · refine ⟨V, Nat.lt_of_lt_of_le hV (Nat.pow_le_pow_right (by decide) (by omega)), fun x hx => ?_⟩
      by_cases e : x = n
      · subst e; simp [hp, hn]
      · exact h x (by omega)
/-- V is in each set with S that is closed. -/
def Under (f : List (List Int)) (S V : Nat) : Prop := ∀ T, ClosedF f T → (∀ x, inb S x → inb T x) → ∀ x, inb V x → inb T x
/-- The least closed set with S. -/
structure LeastS (f : List (List Int)) (n S V : Nat) : Prop where
  lt : V < 2 ^ n
  closed : ClosedF f V
  up : ∀ x, inb S x → inb V x
  low : Under f S V
theorem LeastS.uniq {f : List (List Int)} {n S V V' : Nat} (h : LeastS f n S V) (h' : LeastS f n S V') : V = V' :=
  inb_eq (fun x => ⟨h.low V' h'.closed h'.up x, h'.low V h.closed h.up x⟩)
theorem LeastS.ex (f : List (List Int)) (n S : Nat) (hf : ∀ x y, x < n → y < n → ap f x y < n) (hS : S < 2 ^ n) : ∃ V, LeastS f n S V := by
  obtain ⟨V, hV, h⟩ := set_of (fun x => ∀ T, ClosedF f T → (∀ x, inb S x → inb T x) → inb T x) n
  refine ⟨V, hV, ?_, ?_, ?_⟩
  · intro x y hx hy
    have lx := inb_lt hV hx
    have ly := inb_lt hV hy
    refine (h _ (hf x y lx ly)).2 fun T hT hs => hT x y ((h x lx).1 hx T hT hs) ((h y ly).1 hy T hT hs)
  · intro x hx
    exact (h x (inb_lt hS hx)).2 fun T _ hs => hs x hx
  · intro T hT hs x hx
    exact (h x (inb_lt hV hx)).1 hx T hT hs
theorem Under.grow {f : List (List Int)} {S V W : Nat} (h : Under f S V) (hg : GrF f V W) : Under f S W := by
  intro T hT hs x hx
  rcases (hg x).1 hx with h1 | ⟨a, b, ha, hb, rfl⟩
  · exact h T hT hs x h1
  · exact hT a b (h T hT hs a ha) (h T hT hs b hb)
theorem Under.add {f : List (List Int)} {S V a b v : Nat} (h : Under f S V) (ha : inb V a) (hb : inb V b) (hv : ap f a b = v) : Under f S (V ||| 2 ^ v) := by
  intro T hT hs x hx
  rcases (inb_or V v x).1 hx with h1 | rfl
  · exact h T hT hs x h1
  · rw [← hv]; exact hT a b (h T hT hs a ha) (h T hT hs b hb)
def SfRes (f : List (List Int)) (xs : List Int) (zs : List Int) (code : Int) : Prop :=
  (∃ V, (Rck f ∧ Els f.length xs ∧ xs ≠ []) ∧ LeastS f f.length (sN xs xs.length) V ∧ zs = memL f.length V ∧ code = 0) ∨ (¬ Rck f ∧ zs = [] ∧ code = 1) ∨ (Rck f ∧ ¬ Els f.length xs ∧ zs = [] ∧ code = 2) ∨ (Rck f ∧ Els f.length xs ∧ xs = [] ∧ zs = [] ∧ code = 5)
theorem SfRes.ex (f : List (List Int)) (xs : List Int) : ∃ zs code, SfRes f xs zs code ∧ zs.length ≤ 1048576 := by
  by_cases h : Rck f
  · by_cases h2 : Els f.length xs
    · by_cases h3 : xs = []
      · exact ⟨_, _, .inr (.inr (.inr ⟨h, h2, h3, rfl, rfl⟩)), by simp⟩
      · obtain ⟨V, hV⟩ := LeastS.ex f f.length (sN xs xs.length) (fun x y hx hy => h.tbl.ap_lt rfl hx hy) (sN_lt h2 (Nat.le_refl _))
        refine ⟨_, _, .inl ⟨V, ⟨h, h2, h3⟩, hV, rfl, rfl⟩, ?_⟩
        have h4 := mems_length f.length V
        have h5 := h.tbl.2.1
        rw [memL_length]
        omega
    · exact ⟨_, _, .inr (.inr (.inl ⟨h, h2, rfl, rfl⟩)), by simp⟩
  · exact ⟨_, _, .inr (.inl ⟨h, rfl, rfl⟩), by simp⟩
end Go.Proofs.Ytkflmhmbkilmpac
namespace Go.Proofs.Ytkflmhmbkilmpac
open Go Go.RowKit
set_option maxHeartbeats 1000000

set_option maxRecDepth 100000 in
theorem areEls_any (A : Option Addr) (n c : Nat) (B : Option Addr) (m d : Nat) (xs : List Int) (r : Bool) (w : World) (hn : n ≤ 1048576) (hm : xs.length = m) (hb : m ≤ 1048576) (hr : Rd w B xs) (hres : r = true ↔ Els n xs) :
    Calls Try.prog 59 #[.agg #[.slice A n c], .slice B m d] w fun e w' => e = .returned (.bool r) ∧ Below w.heap.size w w' := by
  have HM := hide hm
  have HRES := hide hres
  have HR := hide hr
  have HB0 := hide ((Below.refl _ w).alloc (Nat.le_refl _) (Obj.cells #[Value.slice A n c] 26))
  have HK0 := hide (Blk.new w 26 [.slice A n c])
  clear hm hres hr
  go_enter Try.func59, Try.ntmps59
  go_wp2_with fail
  go_loopw [9] (fun i wr => ∃ k : Nat, k ≤ m ∧ i = .int .i64 k ∧ Below w.heap.size w wr ∧ Blk wr w.heap.size 26 [.slice A n c] ∧ ∀ j, j < k → 0 ≤ xs.getD j 0 ∧ xs.getD j 0 < (n : Int)) (fun i _ => m - (intOf i).toNat)
  case atStart => exact ⟨0, Nat.zero_le _, rfl, HB0.out, HK0.out, fun j hj => absurd hj (Nat.not_lt_zero _)⟩
  case round =>
    obtain ⟨k, hk, rfl, hbe, hkk, hall⟩ := hrel
    have HB := hide hbe
    have HK := hide hkk
    have HALL := hide hall
    clear hbe hkk hall
    by_cases hlt : k < m
    · obtain ⟨b, o, rfl, hbw, hc⟩ := HR.out (by have := HM.out; omega)
      have hc1 := (HB.out.cell (p := ⟨b, o + k, none⟩) hbw).trans (hc k (by have := HM.out; omega))
      have hltz : (k : Int) < m := by omega
      obtain ⟨x, hx⟩ : ∃ x, xs.getD k 0 = x := ⟨_, rfl⟩
      rw [hx] at hc1
      have HX := hide hx
      clear hx hc
      by_cases h1 : x < 0
      · have hrf : r = false := by
          cases r
          · rfl
          · exact absurd (by have h := HRES.out.1 rfl k (by have := HM.out; omega); rw [HX.out] at h; exact h.1) (by omega)
        subst hrf
        go_wp2_with fail
        go_ret
        exact ⟨rfl, HB.out⟩
      · have k0 := HK.out.cell 0 _ rfl
        by_cases h2 : x < (n : Int)
        · go_wp2_with fail
          clear k0 hc1
          refine (ksize_any _ n _ _ hn).mono ?_
          rintro e w5 ⟨rfl, hb5⟩
          have HB5 := hide (HB.out.trans (hb5.mono HB.out.size))
          have HK5 := hide (HK.out.later hb5)
          clear hb5
          go_wp2_with fail
          go_roundw
          case rel => exact ⟨k + 1, by omega, by go_num, HB5.out, HK5.out, fun j hj => by
            by_cases e : j = k
            · rw [e, HX.out]; omega
            · exact HALL.out j (by omega)⟩
          case measure => simp [intOf]; omega
        · have hrf : r = false := by
            cases r
            · rfl
            · exact absurd (by have h := HRES.out.1 rfl k (by have := HM.out; omega); rw [HX.out] at h; exact h.2) h2
          subst hrf
          go_wp2_with fail
          clear k0 hc1
          refine (ksize_any _ n _ _ hn).mono ?_
          rintro e w5 ⟨rfl, hb5⟩
          have HB5 := hide (HB.out.trans (hb5.mono HB.out.size))
          clear hb5
          go_wp2_with fail
          go_ret
          exact ⟨rfl, HB5.out⟩
    · have hkn : k = m := by omega
      subst hkn
      have hrt : r = true := HRES.out.2 fun i hi => HALL.out i (by have := HM.out; omega)
      subst hrt
      go_wp2_with fail
      go_ret
      exact ⟨rfl, HB.out⟩

set_option maxRecDepth 100000 in
theorem setOf_any (n : Nat) (B : Option Addr) (m d : Nat) (xs : List Int) (w : World) (hn : n ≤ 12) (hm : xs.length = m) (hb : m ≤ 1048576) (hr : Rd w B xs) (he : Els n xs) :
    Calls Try.prog 60 #[.slice B m d] w fun e w' => e = .returned (.int .i64 (sN xs m)) ∧ Below w.heap.size w w' := by
  have HM := hide hm
  have HE := hide he
  have HR := hide hr
  clear hm he hr
  go_enter Try.func60, Try.ntmps60
  go_wp2_with fail
  go_loopw [3, 8] (fun s i wr => ∃ k : Nat, k ≤ m ∧ i = .int .i64 k ∧ s = .int .i64 (sN xs k) ∧ Below w.heap.size w wr) (fun _ i _ => m - (intOf i).toNat)
  case atStart => exact ⟨0, Nat.zero_le _, rfl, rfl, Below.refl _ _⟩
  case round =>
    obtain ⟨k, hk, rfl, rfl, hbe⟩ := hrel
    have HB := hide hbe
    clear hbe
    have hS : sN xs k < 4096 := Nat.lt_of_lt_of_le (sN_lt HE.out (by have := HM.out; omega)) (pow_le n hn)
    have hs1 : sN xs (k + 1) = sN xs k ||| 2 ^ el xs k := rfl
    obtain ⟨S, hSe⟩ : ∃ S, sN xs k = S := ⟨_, rfl⟩
    rw [hSe] at hS hs1 ⊢
    have HSE := hide hSe
    clear hSe
    by_cases hlt : k < m
    · obtain ⟨b, o, rfl, hbw, hc⟩ := HR.out (by have := HM.out; omega)
      have hv := HE.out.val (i := k) (by have := HM.out; omega)
      have hc1 := (HB.out.cell (p := ⟨b, o + k, none⟩) hbw).trans (hc k (by have := HM.out; omega))
      rw [hv.1] at hc1
      have hv2 := hv.2
      obtain ⟨v, hve⟩ : ∃ v, el xs k = v := ⟨_, rfl⟩
      rw [hve] at hc1 hs1 hv2
      have hltz : (k : Int) < m := by omega
      obtain ⟨p, hp⟩ : ∃ p, 2 ^ v = p := ⟨_, rfl⟩
      have hp12 : p < 4096 := by rw [← hp]; exact Nat.lt_of_lt_of_le (Nat.pow_lt_pow_right (by decide) (by omega : v < 12)) (Nat.le_refl _)
      have g1 : (2 : Int) ^ v = (p : Int) := by rw [← hp]; simp
      have g2 := bt_or S p (by omega) (by omega)
      rw [hp] at hs1
      have hS2 : sN xs (k + 1) < 4096 := Nat.lt_of_lt_of_le (sN_lt HE.out (by have := HM.out; omega)) (pow_le n hn)
      obtain ⟨S2, hS2e⟩ : ∃ S2, S ||| p = S2 := ⟨_, rfl⟩
      rw [hS2e] at hs1 g2
      rw [hs1] at hS2
      have HS1 := hide hs1
      clear hve hp hS2e hs1 hc hv
      go_wp2_with fail
      go_roundw
      case rel => exact ⟨k + 1, by omega, by go_num, by rw [HS1.out], HB.out⟩
      case measure => simp [intOf]; omega
    · have hkn : k = m := by omega
      subst hkn
      go_wp2_with fail
      go_ret
      exact ⟨by rw [HSE.out]; rfl, HB.out⟩
end Go.Proofs.Ytkflmhmbkilmpac
namespace Go.Proofs.Ytkflmhmbkilmpac
open Go Go.RowKit
set_option maxHeartbeats 1000000

set_option maxRecDepth 100000 in
theorem l04Elements_any (n : Nat) (B : Option Addr) (m d : Nat) (xs : List Int) (r : Bool) (w : World) (hn : n ≤ 1048576) (hm : xs.length = m) (hb : m ≤ 1048576) (hr : Rd w B xs) (hres : r = true ↔ Els n xs) :
    Calls Try.prog 56 #[.int .i64 n, .slice B m d] w fun e w' => e = .returned (.bool r) ∧ Below w.heap.size w w' := by
  have HM := hide hm
  have HRES := hide hres
  have HR := hide hr
  clear hm hres hr
  go_enter Try.func56, Try.ntmps56
  go_wp2_with fail
  go_loopw [5] (fun i wr => ∃ k : Nat, k ≤ m ∧ i = .int .i64 k ∧ Below w.heap.size w wr ∧ ∀ j, j < k → 0 ≤ xs.getD j 0 ∧ xs.getD j 0 < (n : Int)) (fun i _ => m - (intOf i).toNat)
  case atStart => exact ⟨0, Nat.zero_le _, rfl, Below.refl _ _, fun j hj => absurd hj (Nat.not_lt_zero _)⟩
  case round =>
    obtain ⟨k, hk, rfl, hbe, hall⟩ := hrel
    have HB := hide hbe
    have HALL := hide hall
    clear hbe hall
    by_cases hlt : k < m
    · obtain ⟨b, o, rfl, hbw, hc⟩ := HR.out (by have := HM.out; omega)
      have hc1 := (HB.out.cell (p := ⟨b, o + k, none⟩) hbw).trans (hc k (by have := HM.out; omega))
      have hltz : (k : Int) < m := by omega
      obtain ⟨x, hx⟩ : ∃ x, xs.getD k 0 = x := ⟨_, rfl⟩
      rw [hx] at hc1
      have HX := hide hx
      clear hx hc
      by_cases h1 : 0 ≤ x ∧ x < (n : Int)
      · have HIN := hide h1
        clear h1
        go_wp2_with fail
        refine (in_any x 0 ((n : Int) - 1) true _ ⟨fun _ => by have := HIN.out; omega, fun _ => rfl⟩).mono ?_
        rintro e w5 ⟨rfl, hq5⟩
        have HB5 := hide (HB.out.trans (hq5.below _))
        clear hq5
        go_wp2_with fail
        go_roundw
        case rel => exact ⟨k + 1, by omega, by go_num, HB5.out, fun j hj => by
          by_cases e : j = k
          · rw [e, HX.out]; exact HIN.out
          · exact HALL.out j (by omega)⟩
        case measure => simp [intOf]; omega
      · have hrf : r = false := by
          cases r
          · rfl
          · exact absurd (by have h := HRES.out.1 rfl k (by have := HM.out; omega); rw [HX.out] at h; exact h) h1
        subst hrf
        have HIN := hide h1
        clear h1
        go_wp2_with fail
        refine (in_any x 0 ((n : Int) - 1) false _ (by simp only [Bool.false_eq_true, false_iff]; have := HIN.out; omega)).mono ?_
        rintro e w5 ⟨rfl, hq5⟩
        have HB5 := hide (HB.out.trans (hq5.below _))
        clear hq5
        go_wp2_with fail
        go_ret
        exact ⟨rfl, HB5.out⟩
    · have hkn : k = m := by omega
      subst hkn
      have hrt : r = true := HRES.out.2 fun i hi => HALL.out i (by have := HM.out; omega)
      subst hrt
      go_wp2_with fail
      go_ret
      exact ⟨rfl, HB.out⟩
end Go.Proofs.Ytkflmhmbkilmpac
namespace Go.Proofs.Ytkflmhmbkilmpac
open Go Go.RowKit
theorem neInfo : (Try.prog.info? 2).map (fun i => (i.zero, i.size, i.bytes)) = some (some (.int .i64 0), 1, 8) := by kernel_rfl
theorem neInfo2 : (Try.prog.info? 33).map (fun i => (i.zero, i.size, i.bytes)) = some (some (.slice none 0 0), 1, 24) := by kernel_rfl
theorem ne_new {w : World} {v : Value} {t : TypeId} : ∀ j u, [v][j]? = some u → (w.alloc (.cells #[v] t)).cell? ((⟨w.heap.size, 0, none⟩ : Addr).add j) = some u := by
  intro j u hj
  match j, hj with
  | 0, hj => simp at hj; subst hj; simp [Addr.add, World.cell?_alloc_new]
theorem ne_empty (w : World) (t : TypeId) : (w.alloc (.cells #[] t)).ownsRow w.heap.size t 1 (.slice (some ⟨w.heap.size, 0, none⟩) 0 0) 0 [] :=
  ⟨by simp, .inr ⟨w.heap.size, 0, #[], rfl, Nat.le_refl _, heap_alloc_new _ _, Nat.le_refl _, by unfold maxLen; omega, by simp, by simp⟩⟩
/-- Row x of the table of a function. -/
def frow (n : Nat) (h : Nat → Nat → Int) (x : Nat) : List Int := (List.range n).map fun (b : Nat) => h x b
theorem frow_length (n : Nat) (h : Nat → Nat → Int) (x : Nat) : (frow n h x).length = n := by simp [frow]
theorem frow_take (n : Nat) (h : Nat → Nat → Int) (x y : Nat) (hy : y < n) : ints ((frow n h x).take y) ++ [.int .i64 (h x y)] = ints ((frow n h x).take (y + 1)) := by
  rw [List.take_succ_eq_append_getElem (by rw [frow_length]; exact hy)]
  simp [ints, frow]
theorem grid_take (n : Nat) (h : Nat → Nat → Int) (x : Nat) (hx : x < n) : (grid n h).take (x + 1) = (grid n h).take x ++ [frow n h x] := by
  rw [List.take_succ_eq_append_getElem (by rw [grid_length]; exact hx)]
  simp [grid, frow]
end Go.Proofs.Ytkflmhmbkilmpac
namespace Go.Proofs.Ytkflmhmbkilmpac
open Go Go.RowKit
set_option maxHeartbeats 1000000

set_option maxRecDepth 100000 in
theorem membersOf_any (S : Nat) (w : World) (hS : S < 4096) :
    Calls Try.prog 63 #[.int .i64 S] w fun e w' => ∃ A c, e = .returned (.slice A (mems 12 S).length c) ∧ Below w.heap.size w w' ∧ Res 2 w.heap.size w' A (memL 12 S) := by
  obtain ⟨i0, hi, hz0, hz1, hz2⟩ := info_parts neInfo
  go_enter Try.func63, Try.ntmps63
  go_wp2_with fail
  go_loopw [3, 6] (fun v i wr => ∃ k : Nat, k ≤ 12 ∧ i = .int .i64 k ∧ Below w.heap.size w wr ∧ wr.ownsRow w.heap.size 2 1 v (mems k S).length (ints (memL k S)) ∧ w.heap.size ≤ wr.heap.size) (fun _ i _ => 12 - (intOf i).toNat)
  case atStart => exact ⟨0, Nat.zero_le _, rfl, (Below.refl _ _).alloc (Nat.le_refl _) _, by simpa [ints, memL, mems] using ne_empty w _, by simp⟩
  case round =>
    obtain ⟨k, hk, rfl, hbe, hown, hsz⟩ := hrel
    have HB := hide hbe
    have HO := hide hown
    clear hbe hown
    by_cases hlt : k < 12
    · have hkz : (k : Int) < 12 := by omega
      have hml := mems_length k S
      obtain ⟨l, hl⟩ : ∃ l, (mems k S).length = l := ⟨_, rfl⟩
      rw [hl] at hml HO
      have HL := hide hl
      clear hl
      by_cases hin : inb S k
      · have f2 := bt_in (by omega) hin
        have HIN := hide hin
        clear hin
        go_wp2_with (at_builtin; refine wpList_append_own _ rfl _ _ 33 rfl w.heap.size 2 i0 (.int .i64 0) 1 8 Try.underlying33 hi hz0 hz1 hz2 rfl (by decide) _ _ _ rfl (HO.out.alloc _) ⟨wr.heap.size, 0, none⟩ 1 1 [.int .i64 (k : Int)] rfl rfl ?a1 ?a2 ?a3 ?a4 ?a5 ?_)
        try (case a1 => exact ne_new)
        try (case a2 => first | rfl | (intro u hu; simp at hu; subst hu; rfl))
        try (case a3 => first | omega | (unfold maxLen; omega))
        try (case a4 => omega)
        try (case a5 => first | omega | (simp; omega))
        intro v' w1 hown' hgrow _
        have HO' := hide hown'
        have HG := hide hgrow
        clear hown' hgrow
        go_wp2_with fail
        go_roundw
        case rel =>
          have hB1 : Below w.heap.size w w1 := (HB.out.alloc hsz _).grown HG.out (by simp; omega) (fun g hg => (HO.out.alloc (.cells #[.int .i64 (k : Int)] 2)).lt g hg |>.1)
          refine ⟨k + 1, by omega, by go_num, hB1, ?_, by have := hB1.size; omega⟩
          rw [memL_succ, if_pos HIN.out, mems_succ, if_pos HIN.out, List.length_append, HL.out]
          exact HO'.out
        case measure => simp [intOf]; omega
      · have f2 := bt_out (by omega) hin
        have HIN := hide hin
        clear hin
        go_wp2_with fail
        go_roundw
        case rel =>
          refine ⟨k + 1, by omega, by go_num, HB.out, ?_, hsz⟩
          rw [memL_succ, if_neg HIN.out, mems_succ, if_neg HIN.out, HL.out]
          exact HO.out
        case measure => simp [intOf]; omega
    · have hkn : k = 12 := by omega
      subst hkn
      go_wp2_with fail
      have h := HO.out
      go_ret
      obtain ⟨A', c', hv, hres⟩ := own_shape h
      exact ⟨A', c', by rw [← hv]; rfl, HB.out, hres⟩
end Go.Proofs.Ytkflmhmbkilmpac
namespace Go.Proofs.Ytkflmhmbkilmpac
open Go Go.RowKit
set_option maxHeartbeats 2000000

set_option maxRecDepth 100000 in
theorem grown_any (A : Option Addr) (n c : Nat) (f : List (List Int)) (S : Nat) (w : World) (hn : f.length = n) (ht : Tbl f) (hr : Rd2 w A f) (hS : S < 2 ^ n) :
    Calls Try.prog 62 #[.agg #[.slice A n c], .int .i64 S] w fun e w' => ∃ V : Nat, e = .returned (.int .i64 V) ∧ Below w.heap.size w w' ∧ GrF f S V ∧ V < 2 ^ n := by
  have h1 : 1 ≤ n := by rw [← hn]; exact ht.1
  have h12 : n ≤ 12 := by rw [← hn]; exact ht.2.1
  have hS12 : S < 4096 := Nat.lt_of_lt_of_le hS (pow_le n h12)
  have HN := hide hn
  have HTB := hide ht
  have HR := hide hr
  have HS := hide hS
  have HB0 := hide ((Below.refl _ w).alloc (Nat.le_refl _) (Obj.cells #[Value.slice A n c] 26))
  have HK0 := hide (Blk.new w 26 [.slice A n c])
  clear hn ht hr hS
  obtain ⟨m, hm⟩ : ∃ m, (mems 12 S).length = m := ⟨_, rfl⟩
  have hm12 : m ≤ 12 := by rw [← hm]; exact mems_length 12 S
  have HM := hide hm
  clear hm
  go_enter Try.func62, Try.ntmps62
  go_wp2_with fail
  refine (membersOf_any S _ hS12).mono ?_
  rintro e w1 ⟨B, d, rfl, hb1, hres⟩
  have HB1 := hide (HB0.out.trans (hb1.mono HB0.out.size))
  have HK1 := hide (HK0.out.later hb1)
  have HRS := hide hres.rd
  rw [HM.out]
  clear hb1 hres
  go_wp2_with fail
  go_loopw [1, 14] (fun s i wr => ∃ (k V : Nat), k ≤ m ∧ i = .int .i64 k ∧ s = .int .i64 V ∧ Below w1.heap.size w1 wr ∧ V < 2 ^ n ∧ GrQ f S k 0 V) (fun _ i _ => m - (intOf i).toNat)
  case atStart => exact ⟨0, S, Nat.zero_le _, rfl, rfl, Below.refl _ _, HS.out, GrQ.start f S⟩
  case round =>
    obtain ⟨k, V, hk, rfl, rfl, hbe, hV, hq⟩ := hrel
    have HB := hide hbe
    have HV := hide hV
    have HQ := hide hq
    clear hbe hV hq
    by_cases hlt : k < m
    · have hkz : (k : Int) < m := by omega
      obtain ⟨b, o, hBe, hbw, hc⟩ := HRS.out (by rw [memL_length, HM.out]; omega)
      subst hBe
      have HC : Hid (∀ i, i < m → w1.cell? ⟨b, o + i, none⟩ = some (.int .i64 (mel S i))) := hide (fun i hi => by rw [← mel_getD (by rw [HM.out]; exact hi)]; exact hc i (by rw [memL_length, HM.out]; exact hi))
      clear hc
      obtain ⟨x, hx⟩ : ∃ x, mel S k = x := ⟨_, rfl⟩
      have hxn : x < n := by rw [← hx]; exact inb_lt HS.out (mel_in (by rw [HM.out]; exact hlt))
      have c0 := (HB.out.cell (p := ⟨b, o + k, none⟩) hbw).trans (HC.out k hlt)
      rw [hx] at c0
      have HX := hide hx
      clear hx
      go_wp2_with fail
      clear c0
      go_loopw [1, 20] (fun s i wr => ∃ (j V : Nat), j ≤ m ∧ i = .int .i64 j ∧ s = .int .i64 V ∧ Below w1.heap.size w1 wr ∧ V < 2 ^ n ∧ GrQ f S k j V) (fun _ i _ => m - (intOf i).toNat)
      case atStart => exact ⟨0, V, Nat.zero_le _, rfl, rfl, HB.out, HV.out, HQ.out⟩
      case round =>
        clear HB HV HQ
        obtain ⟨j, V, hj, rfl, rfl, hbe, hV, hq⟩ := hrel
        have HB := hide hbe
        have HV := hide hV
        have HQ := hide hq
        clear hbe hV hq
        by_cases hltj : j < m
        · have hjz : (j : Int) < m := by omega
          obtain ⟨y, hy⟩ : ∃ y, mel S j = y := ⟨_, rfl⟩
          have hyn : y < n := by rw [← hy]; exact inb_lt HS.out (mel_in (by rw [HM.out]; exact hltj))
          have c1 := (HB.out.cell (p := ⟨b, o + j, none⟩) hbw).trans (HC.out j hltj)
          rw [hy] at c1
          have hv := HTB.out.ap_lt HN.out hxn hyn
          obtain ⟨v, hve⟩ : ∃ v, ap f x y = v := ⟨_, rfl⟩
          rw [hve] at hv
          have HU := hide hve
          have HSTEP : Hid (GrQ f S k (j + 1) (V ||| 2 ^ v)) := hide (HQ.out.step (by rw [HM.out]; exact hlt) (by rw [HM.out]; exact hltj) (by rw [HX.out, hy]; exact hve))
          have HV2 : Hid (V ||| 2 ^ v < 2 ^ n) := hide (or_lt HV.out hv)
          have hV12 : V < 4096 := Nat.lt_of_lt_of_le HV.out (pow_le n h12)
          obtain ⟨p, hp⟩ : ∃ p, 2 ^ v = p := ⟨_, rfl⟩
          have hp12 : p < 4096 := by rw [← hp]; exact Nat.lt_of_lt_of_le (Nat.pow_lt_pow_right (by decide) (by omega : v < 12)) (Nat.le_refl _)
          have g1 : (2 : Int) ^ v = (p : Int) := by rw [← hp]; simp
          have g2 := bt_or V p (by omega) (by omega)
          rw [hp] at HSTEP HV2
          obtain ⟨V2, hV2⟩ : ∃ V2, V ||| p = V2 := ⟨_, rfl⟩
          rw [hV2] at HSTEP HV2 g2
          have hV212 : V2 < 4096 := Nat.lt_of_lt_of_le HV2.out (pow_le n h12)
          clear hy hve hp hV2
          have k0 := (HK1.out.later HB.out).cell 0 _ rfl
          go_wp2_with fail
          clear k0 c1
          refine (act_any _ _ _ f x y v _ HN.out HTB.out (HR.out.later (HB1.out.trans (HB.out.mono HB1.out.size))) hxn hyn HU.out).mono ?_
          rintro e w5 ⟨rfl, hb5⟩
          have HB5 := hide (HB.out.trans (hb5.mono HB.out.size))
          clear hb5
          go_wp2_with fail
          go_roundw
          case rel => exact ⟨j + 1, V2, by omega, by go_num, rfl, HB5.out, HV2.out, HSTEP.out⟩
          case measure => simp [intOf]; omega
        · have hjm : j = m := by omega
          subst hjm
          go_wp2_with fail
          go_roundw
          case rel => exact ⟨k + 1, V, by omega, by go_num, rfl, HB.out, HV.out, GrQ.next (by rw [HM.out]; exact HQ.out)⟩
          case measure => simp [intOf]; omega
    · have hkm : k = m := by omega
      subst hkm
      go_wp2_with fail
      go_ret
      exact ⟨V, rfl, HB1.out.trans (HB.out.mono HB1.out.size), GrQ.done hS12 (by rw [HM.out]; exact HQ.out), HV.out⟩

set_option maxRecDepth 100000 in
theorem isSubrack_any (A : Option Addr) (n c : Nat) (f : List (List Int)) (S : Nat) (r : Bool) (w : World) (hn : f.length = n) (ht : Tbl f) (hr : Rd2 w A f) (hS : S < 2 ^ n) (hres : r = true ↔ SubF f S) :
    Calls Try.prog 61 #[.agg #[.slice A n c], .int .i64 S] w fun e w' => e = .returned (.bool r) ∧ Below w.heap.size w w' := by
  have HN := hide hn
  have HTB := hide ht
  have HR := hide hr
  have HRES := hide hres
  have HB0 := hide ((Below.refl _ w).alloc (Nat.le_refl _) (Obj.cells #[Value.slice A n c] 26))
  have HK0 := hide (Blk.new w 26 [.slice A n c])
  clear hn ht hr hres
  by_cases h0 : S = 0
  · subst h0
    have hrf : r = false := by
      cases r
      · rfl
      · exact absurd rfl (HRES.out.1 rfl).1
    subst hrf
    go_enter Try.func61, Try.ntmps61
    go_wp2_with fail
    go_ret
    exact ⟨rfl, HB0.out⟩
  · have h0z : ((S : Int) == 0) = false := by simpa using h0
    have h0z2 : ((S : Int) != 0) = true := by simpa using h0
    have HNZ := hide h0
    have HS := hide hS
    clear h0 hS
    go_enter Try.func61, Try.ntmps61
    have k0 := HK0.out.cell 0 _ rfl
    go_wp2_with fail
    clear k0
    refine (grown_any _ n _ f S _ HN.out HTB.out (HR.out.later HB0.out) HS.out).mono ?_
    rintro e w1 ⟨V, rfl, hb1, hg, hv⟩
    have HB1 := hide (HB0.out.trans (hb1.mono HB0.out.size))
    have HG := hide hg
    clear hb1 hg hv
    by_cases he : V = S
    · have hrt : r = true := HRES.out.2 ⟨HNZ.out, HG.out.closed.1 he⟩
      subst hrt
      subst he
      go_wp2_with fail
      go_ret
      exact ⟨rfl, HB1.out⟩
    · have hrf : r = false := by
        cases r
        · rfl
        · exact absurd (HG.out.closed.2 (HRES.out.1 rfl).2) he
      subst hrf
      have hez : ((V : Int) == (S : Int)) = false := by simpa using fun h => he (by omega)
      go_wp2_with fail
      go_ret
      exact ⟨rfl, HB1.out⟩
end Go.Proofs.Ytkflmhmbkilmpac
namespace Go.Proofs.Ytkflmhmbkilmpac
open Go Go.RowKit
theorem quiet_below {P : Program} {F : FuncId} {args : Array Value} {w : World} {v : Ending} (h : Calls P F args w fun e w' => e = v ∧ Quiet w w') : Calls P F args w fun e w' => e = v ∧ Below w.heap.size w w' := h.mono fun _ _ ⟨he, hq⟩ => ⟨he, hq.below _⟩
/-- Strictly increasing. -/
def Incr (xs : List Int) : Prop := ∀ i, 1 ≤ i → i < xs.length → xs.getD (i - 1) 0 < xs.getD i 0
theorem Incr.ge {n : Nat} {xs : List Int} (h : Incr xs) (he : Els n xs) (i : Nat) (hi : i < xs.length) : (i : Int) ≤ xs.getD i 0 := by
  induction i with
  | zero => exact (he 0 hi).1
  | succ i ih =>
    have h1 := ih (by omega)
    have h2 := h (i + 1) (by omega) hi
    rw [show i + 1 - 1 = i by omega] at h2
    omega
theorem Incr.len {n : Nat} {xs : List Int} (h : Incr xs) (he : Els n xs) : xs.length ≤ n := by
  by_cases h0 : xs.length = 0
  · omega
  · have h1 := h.ge he (xs.length - 1) (by omega)
    have h2 := (he (xs.length - 1) (by omega)).2
    omega
def rtH (f : List (List Int)) (xs : List Int) : Nat → Nat → Int := fun x y => ixOf xs (ap f (el xs x) (el xs y) : Nat)
def RtRes (f : List (List Int)) (xs : List Int) (zs : List (List Int)) (code : Int) : Prop :=
  ((Rck f ∧ Els f.length xs ∧ Incr xs) ∧ SubF f (sN xs xs.length) ∧ zs = grid xs.length (rtH f xs) ∧ code = 0) ∨ ((Rck f ∧ Els f.length xs ∧ Incr xs) ∧ ¬ SubF f (sN xs xs.length) ∧ zs = [] ∧ code = 5) ∨ (Rck f ∧ ¬ Els f.length xs ∧ zs = [] ∧ code = 2) ∨ (Rck f ∧ Els f.length xs ∧ ¬ Incr xs ∧ zs = [] ∧ code = 2) ∨ (¬ Rck f ∧ zs = [] ∧ code = 1)
theorem RtRes.ex (f : List (List Int)) (xs : List Int) : ∃ zs code, RtRes f xs zs code ∧ zs.length ≤ 1048576 ∧ ∀ i, i < zs.length → (zs.getD i []).length ≤ 1048576 := by
  by_cases h1 : Rck f
  · by_cases h2 : Els f.length xs
    · by_cases h3 : Incr xs
      · by_cases h4 : SubF f (sN xs xs.length)
        · have hl := h3.len h2
          have h12 := h1.tbl.2.1
          refine ⟨_, _, .inl ⟨⟨h1, h2, h3⟩, h4, rfl, rfl⟩, by rw [grid_length]; omega, fun i hi => ?_⟩
          rw [grid_length] at hi
          rw [grid_row_length _ _ _ hi]; omega
        · exact ⟨_, _, .inr (.inl ⟨⟨h1, h2, h3⟩, h4, rfl, rfl⟩), by simp, by simp⟩
      · exact ⟨_, _, .inr (.inr (.inr (.inl ⟨h1, h2, h3, rfl, rfl⟩))), by simp, by simp⟩
    · exact ⟨_, _, .inr (.inr (.inl ⟨h1, h2, rfl, rfl⟩)), by simp, by simp⟩
  · exact ⟨_, _, .inr (.inr (.inr (.inr ⟨h1, rfl, rfl⟩))), by simp, by simp⟩
theorem ixOf_bounds (xs : List Int) (v : Int) (hn : xs.length ≤ 12) : -1 ≤ ixOf xs v ∧ ixOf xs v ≤ 12 := by
  unfold ixOf
  split
  · have := List.idxOf_le_length (a := v) (l := xs); omega
  · omega
theorem ixOf_ge (xs : List Int) (v : Int) : 0 ≤ ixOf xs v ↔ v ∈ xs := by
  unfold ixOf
  split
  · rename_i h; exact ⟨fun _ => h, fun _ => by omega⟩
  · rename_i h; exact ⟨fun h2 => by omega, fun h2 => absurd h2 h⟩
theorem ixOf_lt (xs : List Int) (v : Int) (h : v ∈ xs) : ixOf xs v < (xs.length : Int) := by
  unfold ixOf
  rw [if_pos h]
  have := List.idxOf_lt_length_of_mem h
  omega
theorem in_list {n : Nat} {xs : List Int} (he : Els n xs) (v : Nat) : (v : Int) ∈ xs ↔ inb (sN xs xs.length) v := by
  rw [sN_in]
  constructor
  · intro h
    obtain ⟨i, hi, e⟩ := List.getElem_of_mem h
    refine ⟨i, hi, ?_⟩
    have h2 := (he.val hi).1
    have h3 : xs.getD i 0 = (v : Int) := by simp [hi, e]
    omega
  · rintro ⟨i, hi, e⟩
    have h2 := (he.val hi).1
    have h3 : xs.getD i 0 = xs[i] := by simp [hi]
    rw [← e, ← h2, h3]
    exact List.getElem_mem hi
/-- The table of the part is a table exactly if the elements are a subrack. -/
theorem rt_iff {f : List (List Int)} {n : Nat} {xs : List Int} (he : Els n xs) (hi : Incr xs) (h12 : n ≤ 12) : Tbl (grid xs.length (rtH f xs)) ↔ SubF f (sN xs xs.length) := by
  have hl := hi.len he
  constructor
  · rintro ⟨h1, _, h3⟩
    rw [grid_length] at h1 h3
    refine ⟨sN_ne (by omega), fun a b ha hb => ?_⟩
    obtain ⟨i, hi', rfl⟩ := (sN_in _ _ _).1 ha
    obtain ⟨j, hj', rfl⟩ := (sN_in _ _ _).1 hb
    have h4 := (h3 i hi').2 j hj'
    rw [grid_at _ _ _ _ hi' hj'] at h4
    exact (in_list he _).1 ((ixOf_ge _ _).1 h4.1)
  · rintro ⟨h0, hc⟩
    have hpos : 1 ≤ xs.length := by
      by_cases e : xs.length = 0
      · rw [e] at h0; exact absurd rfl h0
      · omega
    refine ⟨by rw [grid_length]; exact hpos, by rw [grid_length]; omega, fun i hi' => ?_⟩
    rw [grid_length] at hi' ⊢
    refine ⟨grid_row_length _ _ _ hi', fun j hj => ?_⟩
    rw [grid_at _ _ _ _ hi' hj]
    have hm : ((ap f (el xs i) (el xs j) : Nat) : Int) ∈ xs := (in_list he _).2 (hc _ _ ((sN_in _ _ _).2 ⟨i, hi', rfl⟩) ((sN_in _ _ _).2 ⟨j, hj, rfl⟩))
    exact ⟨(ixOf_ge _ _).2 hm, ixOf_lt _ _ hm⟩
theorem rt_iff2 {f : List (List Int)} {n m : Nat} {xs : List Int} (he : Els n xs) (hi : Incr xs) (h12 : n ≤ 12) (hm : xs.length = m) : Tbl (grid m (rtH f xs)) ↔ SubF f (sN xs m) := by
  subst hm
  exact rt_iff he hi h12
end Go.Proofs.Ytkflmhmbkilmpac
namespace Go.Proofs.Ytkflmhmbkilmpac
open Go Go.RowKit
set_option maxHeartbeats 2000000

set_option maxRecDepth 100000 in
theorem isIncr_any (B : Option Addr) (m d : Nat) (xs : List Int) (r : Bool) (w : World) (hm : xs.length = m) (hb : m ≤ 1048576) (hr : Rd w B xs) (hres : r = true ↔ Incr xs) :
    Calls Try.prog 66 #[.slice B m d] w fun e w' => e = .returned (.bool r) ∧ Quiet w w' := by
  have HM := hide hm
  have HRES := hide hres
  have HR := hide hr
  clear hm hres hr
  go_enter Try.func66, Try.ntmps66
  go_wp2_with fail
  go_loopw [3] (fun i wr => ∃ k : Nat, 1 ≤ k ∧ k ≤ m + 1 ∧ i = .int .i64 k ∧ Quiet w wr ∧ ∀ j, 1 ≤ j → j < k → j < xs.length → xs.getD (j - 1) 0 < xs.getD j 0) (fun i _ => m + 1 - (intOf i).toNat)
  case atStart => exact ⟨1, Nat.le_refl _, by omega, rfl, Quiet.refl _, fun j hj h2 => by omega⟩
  case round =>
    obtain ⟨k, hk1, hk, rfl, hq, hall⟩ := hrel
    have HQ := hide hq
    have HALL := hide hall
    clear hq hall
    by_cases hlt : k < m
    · obtain ⟨b, o, rfl, hbw, hc⟩ := HQ.out.rd HR.out (by have := HM.out; omega)
      obtain ⟨k', rfl⟩ : ∃ k', k = k' + 1 := ⟨k - 1, by omega⟩
      have c1 := hc (k' + 1) (by have := HM.out; omega)
      have c2 := hc k' (by have := HM.out; omega)
      obtain ⟨x, hx⟩ : ∃ x, xs.getD (k' + 1) 0 = x := ⟨_, rfl⟩
      obtain ⟨y, hy⟩ : ∃ y, xs.getD k' 0 = y := ⟨_, rfl⟩
      rw [hx] at c1
      rw [hy] at c2
      have HX := hide hx
      have HY := hide hy
      have hltz : ((k' + 1 : Nat) : Int) < m := by omega
      have hz2 : ((k' + 1 : Nat) : Int) - 1 = (k' : Int) := by omega
      clear hx hy hc
      obtain ⟨K, hK⟩ : ∃ K, k' + 1 = K := ⟨_, rfl⟩
      have HKK := hide hK
      have hk'z : (k' : Int) < m := by omega
      rw [hK] at c1 hltz hz2 hk hk1 hlt ⊢
      clear hK
      by_cases hle : x ≤ y
      · have hrf : r = false := by
          cases r
          · rfl
          · exact absurd (by have h := HRES.out.1 rfl (k' + 1) (by omega) (by have := HM.out; have := HKK.out; omega); rw [HX.out, show k' + 1 - 1 = k' by omega, HY.out] at h; exact h) (by omega)
        subst hrf
        go_wp2_with fail
        go_quiet (fail)
        go_wp2_with fail
        go_ret
        exact ⟨rfl, HQ.out.trans (Quiet.of _ _)⟩
      · go_wp2_with fail
        go_quiet (fail)
        go_wp2_with fail
        go_roundw
        case rel => exact ⟨K + 1, by omega, by omega, by go_num, HQ.out.trans (Quiet.of _ _), fun j h1 h2 h3 => by
          by_cases e : j = k' + 1
          · rw [e, HX.out, show k' + 1 - 1 = k' by omega, HY.out]; omega
          · exact HALL.out j h1 (by have := HKK.out; omega) h3⟩
        case measure => simp [intOf]; omega
    · have hltz : ¬ (k : Int) < m := by omega
      have hrt : r = true := HRES.out.2 fun j h1 h2 => HALL.out j h1 (by have := HM.out; omega) h2
      subst hrt
      go_wp2_with fail
      go_ret
      exact ⟨rfl, HQ.out⟩

set_option maxRecDepth 100000 in
theorem rtC_any (A : Option Addr) (n c : Nat) (f : List (List Int)) (B : Option Addr) (m d : Nat) (xs : List Int) (ba bb : Nat) (w : World) (hn : f.length = n) (ht : Tbl f) (hr : Rd2 w A f) (hm : xs.length = m) (hm12 : m ≤ 12) (hx : Rd w B xs) (he : Els n xs)
    (hk1 : Blk w ba 26 [.slice A n c]) (hk2 : Blk w bb 33 [.slice B m d]) :
    CellFn Try.prog 67 #[.pointer (some ⟨bb, 0, none⟩), .pointer (some ⟨ba, 0, none⟩)] m (rtH f xs) w := by
  intro W x y hxm hym hb
  obtain ⟨b, o, hB, hbw, hc⟩ := hx (by omega)
  subst hB
  have HRA := hide (hr.later hb)
  have HKa := hide (hk1.later hb)
  have HKb := hide (hk2.later hb)
  have HT := hide ht
  have HN := hide hn
  have HM := hide hm
  have hv1 := he.val (i := x) (by omega)
  have hv2 := he.val (i := y) (by omega)
  have c1 := (hb.cell (p := ⟨b, o + x, none⟩) hbw).trans (hc x (by omega))
  have c2 := (hb.cell (p := ⟨b, o + y, none⟩) hbw).trans (hc y (by omega))
  rw [hv1.1] at c1
  rw [hv2.1] at c2
  have HRX : Hid (Rd W (some ⟨b, o, none⟩) xs) := hide (hx.later hb)
  have hbW : b < W.heap.size := Nat.lt_of_lt_of_le hbw hb.size
  unfold rtH
  obtain ⟨xa, hxa⟩ : ∃ a, el xs x = a := ⟨_, rfl⟩
  obtain ⟨ya, hya⟩ : ∃ a, el xs y = a := ⟨_, rfl⟩
  rw [hxa] at c1 hv1 ⊢
  rw [hya] at c2 hv2 ⊢
  have hxn := hv1.2
  have hyn := hv2.2
  obtain ⟨u, hue⟩ : ∃ a, ap f xa ya = a := ⟨_, rfl⟩
  rw [hue]
  have HU := hide hue
  have HC1 := hide c1
  have HC2 := hide c2
  have hxz : (x : Int) < m := by omega
  have hyz : (y : Int) < m := by omega
  obtain ⟨r, hre⟩ : ∃ r, ixOf xs (u : Int) = r := ⟨_, rfl⟩
  rw [hre]
  have hrb := ixOf_bounds xs (u : Int) (by omega)
  rw [hre] at hrb
  have HRE := hide hre
  have HBC : Hid (b < W.heap.size) := hide hbW
  clear hr hk1 hk2 hb hn hm ht hx he hc hue hxa hya hv1 hv2 c1 c2 hre
  show Calls Try.prog 67 #[.int .i64 x, .int .i64 y, .pointer (some ⟨bb, 0, none⟩), .pointer (some ⟨ba, 0, none⟩)] W _
  go_enter Try.func67, Try.ntmps67
  go_upto_region 1 with fail
  refine wp_gen fun w1 hw1 => ?_
  have HBc : Hid (Below W.heap.size W w1) := hide (by rw [hw1]; exact Below.refl _ _)
  replace HKa : Hid (Blk w1 ba 26 [.slice A n c]) := hide (by rw [hw1]; exact HKa.out)
  replace HKb : Hid (Blk w1 bb 33 [.slice (some ⟨b, o, none⟩) m d]) := hide (by rw [hw1]; exact HKb.out)
  clear hw1
  have k0 := HKa.out.cell 0 _ rfl
  have k1 := HKb.out.cell 0 _ rfl
  have c1 := (HBc.out.cell (p := ⟨b, o + x, none⟩) hbW).trans HC1.out
  have c2 := (HBc.out.cell (p := ⟨b, o + y, none⟩) hbW).trans HC2.out

  go_region_held3 (fun w' => w'.cell? ⟨ba, 0, none⟩ = some (.slice A n c) ∧ w'.cell? ⟨bb, 0, none⟩ = some (.slice (some ⟨b, o, none⟩) m d) ∧ w'.cell? ⟨b, o + x, none⟩ = some (.int .i64 xa) ∧ w'.cell? ⟨b, o + y, none⟩ = some (.int .i64 ya)) (first | exact ⟨k0, k1, c1, c2⟩ | go_keep) (first | (go_at_call 51; go_must (refine calls_gen fun wc hwc => ?_; (first | have hbx := drew_below hwc | have hbx := eq_below hwc); replace HBc := hide (HBc.out.trans (hbx.mono HBc.out.size)); replace HKa := hide (HKa.out.later hbx); replace HKb := hide (HKb.out.later hbx); clear hwc hbx; refine (act_any _ _ _ f xa ya u _ HN.out HT.out (HRA.out.later HBc.out) hxn hyn HU.out).mono ?_; rintro e wd ⟨rfl, hbd⟩; replace HBc := hide (HBc.out.trans (hbd.mono HBc.out.size)); replace HKa := hide (HKa.out.later hbd); replace HKb := hide (HKb.out.later hbd); clear hbd; have k0 := HKa.out.cell 0 _ rfl; have k1 := HKb.out.cell 0 _ rfl; have c1 := (HBc.out.cell (p := ⟨b, o + x, none⟩) hbW).trans HC1.out; have c2 := (HBc.out.cell (p := ⟨b, o + y, none⟩) hbW).trans HC2.out)) | (go_at_call 68; go_must (refine calls_gen fun wc hwc => ?_; (first | have hbx := drew_below hwc | have hbx := eq_below hwc); replace HBc := hide (HBc.out.trans (hbx.mono HBc.out.size)); replace HKa := hide (HKa.out.later hbx); replace HKb := hide (HKb.out.later hbx); clear hwc hbx; refine (indexI_any _ m _ xs u _ HM.out (by omega) (HRX.out.later HBc.out)).mono ?_; rintro e wd ⟨rfl, hqd⟩; have hbd := hqd.below wc.heap.size; clear hqd; replace HBc := hide (HBc.out.trans (hbd.mono HBc.out.size)); replace HKa := hide (HKa.out.later hbd); replace HKb := hide (HKb.out.later hbd); clear hbd; have k0 := HKa.out.cell 0 _ rfl; have k1 := HKb.out.cell 0 _ rfl; have c1 := (HBc.out.cell (p := ⟨b, o + x, none⟩) hbW).trans HC1.out; have c2 := (HBc.out.cell (p := ⟨b, o + y, none⟩) hbW).trans HC2.out)))
  all_goals clear k0 k1 c1 c2
  all_goals go_wp2_with fail
  all_goals rw [HRE.out]
  all_goals go_ret
  all_goals exact ⟨rfl, HBc.out⟩
end Go.Proofs.Ytkflmhmbkilmpac
namespace Go.Proofs.Ytkflmhmbkilmpac
open Go Go.RowKit
set_option maxHeartbeats 2000000

set_option maxRecDepth 100000 in
theorem rtI_any (A : Option Addr) (n c : Nat) (f : List (List Int)) (B : Option Addr) (m d : Nat) (xs : List Int) (zs : List (List Int)) (code : Int) (k : Nat) (w : World) (hn : f.length = n) (hb : n ≤ 1048576) (hbs : ∀ i, i < f.length → (f.getD i []).length ≤ 1048576) (hr : Rd2 w A f) (hm : xs.length = m) (hbm : m ≤ 1048576) (hx : Rd w B xs) (hres : RtRes f xs zs code) (hk : zs.length = k) :
    Calls Try.prog 28 #[.agg #[.slice A n c], .slice B m d] w (fun e w' => ∃ A' c', e = .returned (.tuple #[.agg #[.slice A' k c'], .int .i64 code]) ∧ Below w.heap.size w w' ∧ Obj2 33 2 w.heap.size w'.heap.size w' A' zs) := by
  have HN := hide hn
  have HBS := hide hbs
  have HRD := hide hr
  have HM := hide hm
  have HX := hide hx
  clear hbs hr hx
  rcases hres with ⟨⟨h1, h2, h3⟩, h4, rfl, rfl⟩ | ⟨⟨h1, h2, h3⟩, h4, rfl, rfl⟩ | ⟨h1, h2, rfl, rfl⟩ | ⟨h1, h2, h3, rfl, rfl⟩ | ⟨h1, rfl, rfl⟩
  · have HTB := hide h1.tbl
    have h1n : 1 ≤ n := by rw [← hn]; exact h1.tbl.1
    have h12 : n ≤ 12 := by rw [← hn]; exact h1.tbl.2.1
    have HE : Hid (Els n xs) := hide (by rw [← hn]; exact h2)
    have HI := hide h3
    have hm12 : m ≤ 12 := by have := h3.len h2; omega
    have HRK : Hid (RkRes f true) := hide (by unfold RkRes; simp [h1])
    have HS : Hid (SubF f (sN xs m)) := hide (by rw [← hm]; exact h4)
    have hkm : m = k := by rw [← hk, grid_length, hm]
    subst hkm
    rw [hm]
    have hm1 : 1 ≤ m := by
      by_cases e : m = 0
      · exact absurd (by rw [hm, e]; rfl) h4.1
      · omega
    clear hn hm hk h1 h2 h3 h4
    go_enter Try.func28, Try.ntmps28
    go_wp2_with fail
    refine calls_gen fun wd hw0 => ?_
    have HB : Hid (Below w.heap.size w wd) := hide (by rw [hw0]; exact (((Below.refl _ _).alloc (Nat.le_refl _) _).alloc (by simp) _).alloc (by simp; omega) _)
    have HK : Hid (Blk wd w.heap.size 26 [.slice A n c]) := hide (by rw [hw0]; exact ((Blk.new _ _ _).alloc _).alloc _)
    have HL : Hid (Blk wd (w.heap.size + 1) 33 [.slice B m d]) := hide (by rw [hw0]; have h := (Blk.new (w.alloc (Obj.cells #[.slice A n c] 26)) 33 [.slice B m d]).alloc (Obj.cells #[.slice none 0 0] 26); simpa using h)
    have HR : Hid (Blk wd (w.heap.size + 1 + 1) 26 [.slice none 0 0]) := hide (by rw [hw0]; have h := Blk.new ((w.alloc (Obj.cells #[.slice A n c] 26)).alloc (Obj.cells #[.slice B m d] 33)) 26 [.slice none 0 0]; simpa using h)
    clear hw0
    refine (isRackI _ _ _ f true _ HN.out hb HBS.out (HRD.out.later HB.out) HRK.out).mono ?_
    rintro e wd ⟨rfl, hbd⟩
    replace HB := hide (HB.out.trans (hbd.mono HB.out.size))
    replace HK := hide (HK.out.later hbd)
    replace HL := hide (HL.out.later hbd)
    replace HR := hide (HR.out.later hbd)
    clear hbd
    have k0 := HK.out.cell 0 _ rfl
    have k1 := HL.out.cell 0 _ rfl
    go_wp2_with fail
    clear k0 k1
    refine (areEls_any _ n _ _ _ _ xs true _ hb HM.out hbm (HX.out.later HB.out) (by simp [HE.out])).mono ?_
    rintro e wd ⟨rfl, hbd⟩
    replace HB := hide (HB.out.trans (hbd.mono HB.out.size))
    replace HK := hide (HK.out.later hbd)
    replace HL := hide (HL.out.later hbd)
    replace HR := hide (HR.out.later hbd)
    clear hbd
    have k0 := HK.out.cell 0 _ rfl
    have k1 := HL.out.cell 0 _ rfl
    go_wp2_with fail
    clear k0 k1
    refine (quiet_below (isIncr_any _ m _ xs true _ HM.out hbm (HX.out.later HB.out) (by simp [HI.out]))).mono ?_
    rintro e wd ⟨rfl, hbd⟩
    replace HB := hide (HB.out.trans (hbd.mono HB.out.size))
    replace HK := hide (HK.out.later hbd)
    replace HL := hide (HL.out.later hbd)
    replace HR := hide (HR.out.later hbd)
    clear hbd
    have k0 := HK.out.cell 0 _ rfl
    have k1 := HL.out.cell 0 _ rfl
    go_wp2_with fail
    go_region_held3 (fun w' => w'.cell? ⟨w.heap.size, 0, none⟩ = some (.slice A n c) ∧ w'.cell? ⟨w.heap.size + 1, 0, none⟩ = some (.slice B m d)) (first | exact ⟨k0, k1⟩ | go_keep) (first | (go_at_call 60; go_must (refine calls_gen fun wc hwc => ?_; (first | have hbx := drew_below hwc | have hbx := eq_below hwc); replace HB := hide (HB.out.trans (hbx.mono HB.out.size)); replace HK := hide (HK.out.later hbx); replace HL := hide (HL.out.later hbx); replace HR := hide (HR.out.later hbx); clear hwc hbx; refine (setOf_any n _ m _ xs _ h12 HM.out hbm (HX.out.later HB.out) HE.out).mono ?_; rintro e wd ⟨rfl, hbd⟩; replace HB := hide (HB.out.trans (hbd.mono HB.out.size)); replace HK := hide (HK.out.later hbd); replace HL := hide (HL.out.later hbd); replace HR := hide (HR.out.later hbd); clear hbd; have k0 := HK.out.cell 0 _ rfl; have k1 := HL.out.cell 0 _ rfl)) | (go_at_call 61; go_must (refine calls_gen fun wc hwc => ?_; (first | have hbx := drew_below hwc | have hbx := eq_below hwc); replace HB := hide (HB.out.trans (hbx.mono HB.out.size)); replace HK := hide (HK.out.later hbx); replace HL := hide (HL.out.later hbx); replace HR := hide (HR.out.later hbx); clear hwc hbx; refine (isSubrack_any _ n _ f (sN xs m) true _ HN.out HTB.out (HRD.out.later HB.out) (sN_lt HE.out (by have := HM.out; omega)) (by simp [HS.out])).mono ?_; rintro e wd ⟨rfl, hbd⟩; replace HB := hide (HB.out.trans (hbd.mono HB.out.size)); replace HK := hide (HK.out.later hbd); replace HL := hide (HL.out.later hbd); replace HR := hide (HR.out.later hbd); clear hbd; have k0 := HK.out.cell 0 _ rfl; have k1 := HL.out.cell 0 _ rfl)))
    all_goals
      clear k0 k1
      have k1 := HL.out.cell 0 _ rfl
      go_wp2_with fail
      clear k1
      refine (rackOf_any 67 _ m (rtH f xs) _ (enters_of Try.func67 (by kernel_rfl) rfl) hm1 hm12 (rtC_any _ n _ f _ m _ xs w.heap.size (w.heap.size + 1) _ HN.out HTB.out (HRD.out.later HB.out) HM.out hm12 (HX.out.later HB.out) HE.out HK.out HL.out)).mono ?_
      rintro e we ⟨A3, c3, rfl, hbd, ho3⟩
      have HO3 := hide ho3
      have hlow : w.heap.size + 1 + 1 < wd.heap.size := HR.out.lt
      replace HB := hide (HB.out.trans (hbd.mono HB.out.size))
      replace HR := hide (HR.out.later hbd)
      clear hbd ho3
      have k2 := fun o => (HR.out.alloc o).cell 0 _ rfl
      have k3 := fun o => (HR.out.alloc o).frozen 0
      go_wp2_with fail
      refine bp_gen fun wf hwf => ?_
      obtain ⟨q0, hbf, hof⟩ := kend hwf (HR.out.alloc _) (by omega) (HB.out.alloc HB.out.size _) (HO3.out.later ((Below.refl _ _).alloc (Nat.le_refl _) _)) (by omega) hlow (by simp)
      clear hwf k2 k3
      exact bodyPost_ret (v := .tuple #[.agg #[.slice A3 m c3], .int .i64 0]) (by simp [results, Try.results28, go_sem, q0]) rfl ⟨_, _, rfl, hbf, hof⟩
  · have HTB := hide h1.tbl
    have h1n : 1 ≤ n := by rw [← hn]; exact h1.tbl.1
    have h12 : n ≤ 12 := by rw [← hn]; exact h1.tbl.2.1
    have HE : Hid (Els n xs) := hide (by rw [← hn]; exact h2)
    have HI := hide h3
    have hm12 : m ≤ 12 := by have := h3.len h2; omega
    have HRK : Hid (RkRes f true) := hide (by unfold RkRes; simp [h1])
    have hk0 : k = 0 := by rw [← hk]; rfl
    subst hk0
    have HS : Hid (¬ SubF f (sN xs m)) := hide (by rw [← hm]; exact h4)
    clear hn hm hk h1 h2 h3 h4
    go_enter Try.func28, Try.ntmps28
    go_wp2_with fail
    refine calls_gen fun wd hw0 => ?_
    have HB : Hid (Below w.heap.size w wd) := hide (by rw [hw0]; exact (((Below.refl _ _).alloc (Nat.le_refl _) _).alloc (by simp) _).alloc (by simp; omega) _)
    have HK : Hid (Blk wd w.heap.size 26 [.slice A n c]) := hide (by rw [hw0]; exact ((Blk.new _ _ _).alloc _).alloc _)
    have HL : Hid (Blk wd (w.heap.size + 1) 33 [.slice B m d]) := hide (by rw [hw0]; have h := (Blk.new (w.alloc (Obj.cells #[.slice A n c] 26)) 33 [.slice B m d]).alloc (Obj.cells #[.slice none 0 0] 26); simpa using h)
    have HR : Hid (Blk wd (w.heap.size + 1 + 1) 26 [.slice none 0 0]) := hide (by rw [hw0]; have h := Blk.new ((w.alloc (Obj.cells #[.slice A n c] 26)).alloc (Obj.cells #[.slice B m d] 33)) 26 [.slice none 0 0]; simpa using h)
    clear hw0
    refine (isRackI _ _ _ f true _ HN.out hb HBS.out (HRD.out.later HB.out) HRK.out).mono ?_
    rintro e wd ⟨rfl, hbd⟩
    replace HB := hide (HB.out.trans (hbd.mono HB.out.size))
    replace HK := hide (HK.out.later hbd)
    replace HL := hide (HL.out.later hbd)
    replace HR := hide (HR.out.later hbd)
    clear hbd
    have k0 := HK.out.cell 0 _ rfl
    have k1 := HL.out.cell 0 _ rfl
    go_wp2_with fail
    clear k0 k1
    refine (areEls_any _ n _ _ _ _ xs true _ hb HM.out hbm (HX.out.later HB.out) (by simp [HE.out])).mono ?_
    rintro e wd ⟨rfl, hbd⟩
    replace HB := hide (HB.out.trans (hbd.mono HB.out.size))
    replace HK := hide (HK.out.later hbd)
    replace HL := hide (HL.out.later hbd)
    replace HR := hide (HR.out.later hbd)
    clear hbd
    have k0 := HK.out.cell 0 _ rfl
    have k1 := HL.out.cell 0 _ rfl
    go_wp2_with fail
    clear k0 k1
    refine (quiet_below (isIncr_any _ m _ xs true _ HM.out hbm (HX.out.later HB.out) (by simp [HI.out]))).mono ?_
    rintro e wd ⟨rfl, hbd⟩
    replace HB := hide (HB.out.trans (hbd.mono HB.out.size))
    replace HK := hide (HK.out.later hbd)
    replace HL := hide (HL.out.later hbd)
    replace HR := hide (HR.out.later hbd)
    clear hbd
    have k0 := HK.out.cell 0 _ rfl
    have k1 := HL.out.cell 0 _ rfl
    go_wp2_with fail
    go_region_held3 (fun w' => w'.cell? ⟨w.heap.size, 0, none⟩ = some (.slice A n c) ∧ w'.cell? ⟨w.heap.size + 1, 0, none⟩ = some (.slice B m d)) (first | exact ⟨k0, k1⟩ | go_keep) (first | (go_at_call 60; go_must (refine calls_gen fun wc hwc => ?_; (first | have hbx := drew_below hwc | have hbx := eq_below hwc); replace HB := hide (HB.out.trans (hbx.mono HB.out.size)); replace HK := hide (HK.out.later hbx); replace HL := hide (HL.out.later hbx); replace HR := hide (HR.out.later hbx); clear hwc hbx; refine (setOf_any n _ m _ xs _ h12 HM.out hbm (HX.out.later HB.out) HE.out).mono ?_; rintro e wd ⟨rfl, hbd⟩; replace HB := hide (HB.out.trans (hbd.mono HB.out.size)); replace HK := hide (HK.out.later hbd); replace HL := hide (HL.out.later hbd); replace HR := hide (HR.out.later hbd); clear hbd; have k0 := HK.out.cell 0 _ rfl; have k1 := HL.out.cell 0 _ rfl)) | (go_at_call 61; go_must (refine calls_gen fun wc hwc => ?_; (first | have hbx := drew_below hwc | have hbx := eq_below hwc); replace HB := hide (HB.out.trans (hbx.mono HB.out.size)); replace HK := hide (HK.out.later hbx); replace HL := hide (HL.out.later hbx); replace HR := hide (HR.out.later hbx); clear hwc hbx; refine (isSubrack_any _ n _ f (sN xs m) false _ HN.out HTB.out (HRD.out.later HB.out) (sN_lt HE.out (by have := HM.out; omega)) (by simp [HS.out])).mono ?_; rintro e wd ⟨rfl, hbd⟩; replace HB := hide (HB.out.trans (hbd.mono HB.out.size)); replace HK := hide (HK.out.later hbd); replace HL := hide (HL.out.later hbd); replace HR := hide (HR.out.later hbd); clear hbd; have k0 := HK.out.cell 0 _ rfl; have k1 := HL.out.cell 0 _ rfl)))
    all_goals
      clear k0 k1
      have k2 := HR.out.cell 0 _ rfl
      have k3 := HR.out.frozen 0
      go_wp2_with fail
      refine bp_gen fun wf hwf => ?_
      have HRF : Blk wf (w.heap.size + 1 + 1) 26 [.slice none 0 0] := by rw [hwf]; first | exact HR.out | exact HR.out.set 0 _
      have hbf : Below w.heap.size w wf := by rw [hwf]; first | exact HB.out | exact HB.out.setCell (p := ⟨w.heap.size + 1 + 1, 0, none⟩) (by show w.heap.size ≤ w.heap.size + 1 + 1; omega) _
      have q0 := HRF.cell 0 _ rfl
      clear hwf k2 k3
      exact bodyPost_ret (v := .tuple #[.agg #[.slice none 0 0], .int .i64 5]) (by simp [results, Try.results28, go_sem, q0]) rfl ⟨_, _, rfl, hbf, .inl ⟨rfl, rfl⟩⟩
  · have hk0 : k = 0 := by rw [← hk]; rfl
    subst hk0
    have HE : Hid (¬ Els n xs) := hide (by rw [← hn]; exact h2)
    have HRK : Hid (RkRes f true) := hide (by unfold RkRes; simp [h1])
    clear hn hm hk h1 h2
    go_enter Try.func28, Try.ntmps28
    go_wp2_with fail
    refine calls_gen fun wd hw0 => ?_
    have HB : Hid (Below w.heap.size w wd) := hide (by rw [hw0]; exact (((Below.refl _ _).alloc (Nat.le_refl _) _).alloc (by simp) _).alloc (by simp; omega) _)
    have HK : Hid (Blk wd w.heap.size 26 [.slice A n c]) := hide (by rw [hw0]; exact ((Blk.new _ _ _).alloc _).alloc _)
    have HL : Hid (Blk wd (w.heap.size + 1) 33 [.slice B m d]) := hide (by rw [hw0]; have h := (Blk.new (w.alloc (Obj.cells #[.slice A n c] 26)) 33 [.slice B m d]).alloc (Obj.cells #[.slice none 0 0] 26); simpa using h)
    have HR : Hid (Blk wd (w.heap.size + 1 + 1) 26 [.slice none 0 0]) := hide (by rw [hw0]; have h := Blk.new ((w.alloc (Obj.cells #[.slice A n c] 26)).alloc (Obj.cells #[.slice B m d] 33)) 26 [.slice none 0 0]; simpa using h)
    clear hw0
    refine (isRackI _ _ _ f true _ HN.out hb HBS.out (HRD.out.later HB.out) HRK.out).mono ?_
    rintro e wd ⟨rfl, hbd⟩
    replace HB := hide (HB.out.trans (hbd.mono HB.out.size))
    replace HK := hide (HK.out.later hbd)
    replace HL := hide (HL.out.later hbd)
    replace HR := hide (HR.out.later hbd)
    clear hbd
    have k0 := HK.out.cell 0 _ rfl
    have k1 := HL.out.cell 0 _ rfl
    go_wp2_with fail
    clear k0 k1
    refine (areEls_any _ n _ _ _ _ xs false _ hb HM.out hbm (HX.out.later HB.out) (by simp [HE.out])).mono ?_
    rintro e wd ⟨rfl, hbd⟩
    replace HB := hide (HB.out.trans (hbd.mono HB.out.size))
    replace HK := hide (HK.out.later hbd)
    replace HL := hide (HL.out.later hbd)
    replace HR := hide (HR.out.later hbd)
    clear hbd
    have k2 := HR.out.cell 0 _ rfl
    have k3 := HR.out.frozen 0
    go_wp2_with fail
    refine bp_gen fun wf hwf => ?_
    have HRF : Blk wf (w.heap.size + 1 + 1) 26 [.slice none 0 0] := by rw [hwf]; first | exact HR.out | exact HR.out.set 0 _
    have hbf : Below w.heap.size w wf := by rw [hwf]; first | exact HB.out | exact HB.out.setCell (p := ⟨w.heap.size + 1 + 1, 0, none⟩) (by show w.heap.size ≤ w.heap.size + 1 + 1; omega) _
    have q0 := HRF.cell 0 _ rfl
    clear hwf k2 k3
    exact bodyPost_ret (v := .tuple #[.agg #[.slice none 0 0], .int .i64 2]) (by simp [results, Try.results28, go_sem, q0]) rfl ⟨_, _, rfl, hbf, .inl ⟨rfl, rfl⟩⟩
  · have hk0 : k = 0 := by rw [← hk]; rfl
    subst hk0
    have HE : Hid (Els n xs) := hide (by rw [← hn]; exact h2)
    have HI := hide h3
    have HRK : Hid (RkRes f true) := hide (by unfold RkRes; simp [h1])
    clear hn hm hk h1 h2 h3
    go_enter Try.func28, Try.ntmps28
    go_wp2_with fail
    refine calls_gen fun wd hw0 => ?_
    have HB : Hid (Below w.heap.size w wd) := hide (by rw [hw0]; exact (((Below.refl _ _).alloc (Nat.le_refl _) _).alloc (by simp) _).alloc (by simp; omega) _)
    have HK : Hid (Blk wd w.heap.size 26 [.slice A n c]) := hide (by rw [hw0]; exact ((Blk.new _ _ _).alloc _).alloc _)
    have HL : Hid (Blk wd (w.heap.size + 1) 33 [.slice B m d]) := hide (by rw [hw0]; have h := (Blk.new (w.alloc (Obj.cells #[.slice A n c] 26)) 33 [.slice B m d]).alloc (Obj.cells #[.slice none 0 0] 26); simpa using h)
    have HR : Hid (Blk wd (w.heap.size + 1 + 1) 26 [.slice none 0 0]) := hide (by rw [hw0]; have h := Blk.new ((w.alloc (Obj.cells #[.slice A n c] 26)).alloc (Obj.cells #[.slice B m d] 33)) 26 [.slice none 0 0]; simpa using h)
    clear hw0
    refine (isRackI _ _ _ f true _ HN.out hb HBS.out (HRD.out.later HB.out) HRK.out).mono ?_
    rintro e wd ⟨rfl, hbd⟩
    replace HB := hide (HB.out.trans (hbd.mono HB.out.size))
    replace HK := hide (HK.out.later hbd)
    replace HL := hide (HL.out.later hbd)
    replace HR := hide (HR.out.later hbd)
    clear hbd
    have k0 := HK.out.cell 0 _ rfl
    have k1 := HL.out.cell 0 _ rfl
    go_wp2_with fail
    clear k0 k1
    refine (areEls_any _ n _ _ _ _ xs true _ hb HM.out hbm (HX.out.later HB.out) (by simp [HE.out])).mono ?_
    rintro e wd ⟨rfl, hbd⟩
    replace HB := hide (HB.out.trans (hbd.mono HB.out.size))
    replace HK := hide (HK.out.later hbd)
    replace HL := hide (HL.out.later hbd)
    replace HR := hide (HR.out.later hbd)
    clear hbd
    have k0 := HK.out.cell 0 _ rfl
    have k1 := HL.out.cell 0 _ rfl
    go_wp2_with fail
    clear k0 k1
    refine (quiet_below (isIncr_any _ m _ xs false _ HM.out hbm (HX.out.later HB.out) (by simp [HI.out]))).mono ?_
    rintro e wd ⟨rfl, hbd⟩
    replace HB := hide (HB.out.trans (hbd.mono HB.out.size))
    replace HK := hide (HK.out.later hbd)
    replace HL := hide (HL.out.later hbd)
    replace HR := hide (HR.out.later hbd)
    clear hbd
    have k2 := HR.out.cell 0 _ rfl
    have k3 := HR.out.frozen 0
    go_wp2_with fail
    refine bp_gen fun wf hwf => ?_
    have HRF : Blk wf (w.heap.size + 1 + 1) 26 [.slice none 0 0] := by rw [hwf]; first | exact HR.out | exact HR.out.set 0 _
    have hbf : Below w.heap.size w wf := by rw [hwf]; first | exact HB.out | exact HB.out.setCell (p := ⟨w.heap.size + 1 + 1, 0, none⟩) (by show w.heap.size ≤ w.heap.size + 1 + 1; omega) _
    have q0 := HRF.cell 0 _ rfl
    clear hwf k2 k3
    exact bodyPost_ret (v := .tuple #[.agg #[.slice none 0 0], .int .i64 2]) (by simp [results, Try.results28, go_sem, q0]) rfl ⟨_, _, rfl, hbf, .inl ⟨rfl, rfl⟩⟩
  · have hk0 : k = 0 := by rw [← hk]; rfl
    subst hk0
    have HRK : Hid (RkRes f false) := hide (by unfold RkRes; simp [h1])
    clear hn hm hk h1
    go_enter Try.func28, Try.ntmps28
    go_wp2_with fail
    refine calls_gen fun wd hw0 => ?_
    have HB : Hid (Below w.heap.size w wd) := hide (by rw [hw0]; exact (((Below.refl _ _).alloc (Nat.le_refl _) _).alloc (by simp) _).alloc (by simp; omega) _)
    have HK : Hid (Blk wd w.heap.size 26 [.slice A n c]) := hide (by rw [hw0]; exact ((Blk.new _ _ _).alloc _).alloc _)
    have HL : Hid (Blk wd (w.heap.size + 1) 33 [.slice B m d]) := hide (by rw [hw0]; have h := (Blk.new (w.alloc (Obj.cells #[.slice A n c] 26)) 33 [.slice B m d]).alloc (Obj.cells #[.slice none 0 0] 26); simpa using h)
    have HR : Hid (Blk wd (w.heap.size + 1 + 1) 26 [.slice none 0 0]) := hide (by rw [hw0]; have h := Blk.new ((w.alloc (Obj.cells #[.slice A n c] 26)).alloc (Obj.cells #[.slice B m d] 33)) 26 [.slice none 0 0]; simpa using h)
    clear hw0
    refine (isRackI _ _ _ f false _ HN.out hb HBS.out (HRD.out.later HB.out) HRK.out).mono ?_
    rintro e wd ⟨rfl, hbd⟩
    replace HB := hide (HB.out.trans (hbd.mono HB.out.size))
    replace HK := hide (HK.out.later hbd)
    replace HL := hide (HL.out.later hbd)
    replace HR := hide (HR.out.later hbd)
    clear hbd
    have k2 := HR.out.cell 0 _ rfl
    have k3 := HR.out.frozen 0
    go_wp2_with fail
    refine bp_gen fun wf hwf => ?_
    have HRF : Blk wf (w.heap.size + 1 + 1) 26 [.slice none 0 0] := by rw [hwf]; first | exact HR.out | exact HR.out.set 0 _
    have hbf : Below w.heap.size w wf := by rw [hwf]; first | exact HB.out | exact HB.out.setCell (p := ⟨w.heap.size + 1 + 1, 0, none⟩) (by show w.heap.size ≤ w.heap.size + 1 + 1; omega) _
    have q0 := HRF.cell 0 _ rfl
    clear hwf k2 k3
    exact bodyPost_ret (v := .tuple #[.agg #[.slice none 0 0], .int .i64 1]) (by simp [results, Try.results28, go_sem, q0]) rfl ⟨_, _, rfl, hbf, .inl ⟨rfl, rfl⟩⟩

end Go.Proofs.Ytkflmhmbkilmpac
namespace Go.Proofs.Ytkflmhmbkilmpac
open Go Go.RowKit
set_option maxHeartbeats 4000000

set_option maxRecDepth 100000 in
theorem rtS_any (A : Option Addr) (n c : Nat) (f : List (List Int)) (B : Option Addr) (m d : Nat) (xs : List Int) (zs : List (List Int)) (code : Int) (k : Nat) (w : World) (hn : f.length = n) (hb : n ≤ 1048576) (hbs : ∀ i, i < f.length → (f.getD i []).length ≤ 1048576) (hr : Rd2 w A f) (hm : xs.length = m) (hbm : m ≤ 1048576) (hx : Rd w B xs) (hres : RtRes f xs zs code) (hk : zs.length = k) :
    Calls Try.prog 27 #[.agg #[.slice A n c], .slice B m d] w (fun e w' => ∃ A' c', e = .returned (.tuple #[.agg #[.slice A' k c'], .int .i64 code]) ∧ Below w.heap.size w w' ∧ Obj2 33 2 w.heap.size w'.heap.size w' A' zs) := by
  have HN := hide hn
  have HBS := hide hbs
  have HRD := hide hr
  have HM := hide hm
  have HX := hide hx
  clear hbs hr hx
  rcases hres with ⟨⟨h1, h2, h3⟩, h4, rfl, rfl⟩ | ⟨⟨h1, h2, h3⟩, h4, rfl, rfl⟩ | ⟨h1, h2, rfl, rfl⟩ | ⟨h1, h2, h3, rfl, rfl⟩ | ⟨h1, rfl, rfl⟩
  · have HTB := hide h1.tbl
    have h1n : 1 ≤ n := by rw [← hn]; exact h1.tbl.1
    have h12 : n ≤ 12 := by rw [← hn]; exact h1.tbl.2.1
    have HE : Hid (Els n xs) := hide (by rw [← hn]; exact h2)
    have HI := hide h3
    have hm12 : m ≤ 12 := by have := h3.len h2; omega
    have HRK : Hid (RkRes f true) := hide (by unfold RkRes; simp [h1])
    have HS : Hid (SubF f (sN xs m)) := hide (by rw [← hm]; exact h4)
    have hkm : m = k := by rw [← hk, grid_length, hm]
    subst hkm
    rw [hm]
    have hm1 : 1 ≤ m := by
      by_cases e : m = 0
      · exact absurd (by rw [hm, e]; rfl) h4.1
      · omega
    clear hn hm hk h1 h2 h3 h4
    obtain ⟨H, hH⟩ : ∃ H, rtH f xs = H := ⟨_, rfl⟩
    try rw [hH]
    have HH := hide hH
    clear hH
    go_enter Try.func27, Try.ntmps27
    go_wp2_with fail
    refine calls_gen fun wd hw0 => ?_
    have HB : Hid (Below w.heap.size w wd) := hide (by rw [hw0]; exact ((Below.refl _ _).alloc (Nat.le_refl _) _).alloc (by simp) _)
    have HK : Hid (Blk wd w.heap.size 26 [.slice A n c]) := hide (by rw [hw0]; exact (Blk.new _ _ _).alloc _)
    have HR : Hid (Blk wd (w.heap.size + 1) 26 [.slice none 0 0]) := hide (by rw [hw0]; have h := Blk.new (w.alloc (Obj.cells #[.slice A n c] 26)) 26 [.slice none 0 0]; simpa using h)
    clear hw0
    refine (isRackS _ _ _ f true _ HN.out hb HBS.out (HRD.out.later HB.out) HRK.out).mono ?_
    rintro e wd ⟨rfl, hbd⟩
    replace HB := hide (HB.out.trans (hbd.mono HB.out.size))
    replace HK := hide (HK.out.later hbd)
    replace HR := hide (HR.out.later hbd)
    clear hbd
    have k0 := HK.out.cell 0 _ rfl
    go_wp2_with fail
    clear k0
    refine (l04Elements_any n _ _ _ xs true _ hb HM.out hbm (HX.out.later HB.out) (by simp [HE.out])).mono ?_
    rintro e wd ⟨rfl, hbd⟩
    replace HB := hide (HB.out.trans (hbd.mono HB.out.size))
    replace HK := hide (HK.out.later hbd)
    replace HR := hide (HR.out.later hbd)
    clear hbd
    go_wp2_with fail
    go_loopw [6] (fun i wr => ∃ k : Nat, 1 ≤ k ∧ k ≤ m + 1 ∧ i = .int .i64 k ∧ Below w.heap.size w wr ∧ Blk wr w.heap.size 26 [.slice A n c] ∧ Blk wr (w.heap.size + 1) 26 [.slice none 0 0] ∧ ∀ j, 1 ≤ j → j < k → j < xs.length → xs.getD (j - 1) 0 < xs.getD j 0) (fun i _ => m + 1 - (intOf i).toNat)
    case atStart => exact ⟨1, Nat.le_refl _, by omega, rfl, HB.out, HK.out, HR.out, fun j hj h2 => by omega⟩
    case round =>
      clear HB HK HR
      obtain ⟨k, hk1, hk, rfl, hbe, hkk, hrr, hall⟩ := hrel
      have HB := hide hbe
      have HK := hide hkk
      have HR := hide hrr
      have HALL := hide hall
      clear hbe hkk hrr hall
      by_cases hlt : k < m
      · obtain ⟨b, o, rfl, hbw, hc⟩ := HX.out (by have := HM.out; omega)
        obtain ⟨k', rfl⟩ : ∃ k', k = k' + 1 := ⟨k - 1, by omega⟩
        have c1 := (HB.out.cell (p := ⟨b, o + (k' + 1), none⟩) hbw).trans (hc (k' + 1) (by have := HM.out; omega))
        have c2 := (HB.out.cell (p := ⟨b, o + k', none⟩) hbw).trans (hc k' (by have := HM.out; omega))
        obtain ⟨x, hx⟩ : ∃ x, xs.getD (k' + 1) 0 = x := ⟨_, rfl⟩
        obtain ⟨y, hy⟩ : ∃ y, xs.getD k' 0 = y := ⟨_, rfl⟩
        rw [hx] at c1
        rw [hy] at c2
        have HXV := hide hx
        have HYV := hide hy
        have hltz : ((k' + 1 : Nat) : Int) < m := by omega
        have hz2 : ((k' + 1 : Nat) : Int) - 1 = (k' : Int) := by omega
        clear hx hy hc
        obtain ⟨K, hK⟩ : ∃ K, k' + 1 = K := ⟨_, rfl⟩
        have HKK := hide hK
        have hk'z : (k' : Int) < m := by omega
        rw [hK] at c1 hltz hz2 hk hk1 hlt ⊢
        clear hK
        by_cases hle : x ≤ y
        · exact absurd (by have h := HI.out (k' + 1) (by omega) (by have := HM.out; have := HKK.out; omega); rw [HXV.out, show k' + 1 - 1 = k' by omega, HYV.out] at h; exact h) (by omega)
        · go_wp2_with fail
          go_quiet (fail)
          go_wp2_with fail
          go_roundw
          case rel => exact ⟨K + 1, by omega, by omega, by go_num, HB.out.trans ((Quiet.of _ _).below _), HK.out.later ((Quiet.of _ _).below _), HR.out.later ((Quiet.of _ _).below _), fun j h1 h2 h3 => by
            by_cases e : j = k' + 1
            · rw [e, HXV.out, show k' + 1 - 1 = k' by omega, HYV.out]; omega
            · exact HALL.out j h1 (by have := HKK.out; omega) h3⟩
          case measure => simp [intOf]; omega
      · have hltz : ¬ (k : Int) < m := by omega
        clear HALL
        go_wp2_with fail
        refine wp_gen fun w2 hw2 => ?_
        obtain ⟨ob, hob⟩ : ∃ ob, wr.heap.size = ob := ⟨_, rfl⟩
        have hob1 : w.heap.size + 1 < ob := by rw [← hob]; exact HR.out.lt
        replace HB : Hid (Below w.heap.size w w2) := hide (by rw [hw2]; exact HB.out.alloc HB.out.size _)
        replace HK : Hid (Blk w2 w.heap.size 26 [.slice A n c]) := hide (by rw [hw2]; exact HK.out.alloc _)
        replace HR : Hid (Blk w2 (w.heap.size + 1) 26 [.slice none 0 0]) := hide (by rw [hw2]; exact HR.out.alloc _)
        have HO2 : Hid (Blk w2 ob 26 [.slice none 0 0]) := hide (by rw [hw2, ← hob]; exact Blk.new _ _ _)
        have HT : Hid (One 33 2 26 (ob + 1) w2 ob 0 [.slice none 0 0] (.slice none 0 0) [] []) := hide (One.start w2 _ _ _ HO2.out (Nat.lt_succ_self _) HO2.out.lt)
        rw [hob]
        clear hw2 hob HO2
        obtain ⟨i0, hi, hz0, hz1, hz2⟩ := info_parts neInfo
        obtain ⟨i2, hj, hy0, hy1, hy2⟩ := info_parts neInfo2
        go_loopw [8] (fun i wr => ∃ (x : Nat) (v : Value) (vals : List Value), x ≤ m ∧ i = .int .i64 x ∧ Below w.heap.size w wr ∧ One 33 2 26 (ob + 1) wr ob 0 [.slice none 0 0] v ((grid m H).take x) vals ∧ Blk wr (w.heap.size) 26 [.slice A n c] ∧ Blk wr (w.heap.size + 1) 26 [.slice none 0 0]) (fun i _ => m - (intOf i).toNat)
        case atStart => exact ⟨0, _, _, Nat.zero_le _, rfl, HB.out, by simpa using HT.out, HK.out, HR.out⟩
        case round =>
          obtain ⟨x, v, vals, hx, rfl, hbe, htw, qHK, qHR⟩ := hrel
          clear HB HT HK HR
          have HB := hide hbe
          have HT := hide htw
          have HK := hide qHK
          have HR := hide qHR
          clear hbe htw qHK qHR
          by_cases hlt : x < m
          · have hxz : (x : Int) < m := by omega
            go_wp2_with fail
            obtain ⟨wo, rfl⟩ : ∃ wo : World, wo = wr := ⟨_, rfl⟩
            go_loopw [9, 10] (fun v i wi => ∃ y : Nat, y ≤ m ∧ i = .int .i64 y ∧ Below wo.heap.size wo wi ∧ wo.heap.size < wi.heap.size ∧ wi.ownsRow wo.heap.size 2 1 v y (ints ((frow m H x).take y))) (fun _ i _ => m - (intOf i).toNat)
            case atStart => exact ⟨0, Nat.zero_le _, rfl, (Below.refl _ _).alloc (Nat.le_refl _) _, by simp, by simpa [ints] using ne_empty wo _⟩
            case round =>
              obtain ⟨y, hy, rfl, hbi, hsi2, hoi⟩ := hrel
              have HBI := hide hbi
              have HOI := hide hoi
              clear hbi hoi
              by_cases hlty : y < m
              · have hyz : (y : Int) < m := by omega
                have HBW := hide (HB.out.trans (HBI.out.mono HB.out.size))
                obtain ⟨bt, ot, hA, hbt, hct⟩ := HTB.out.cells HRD.out HN.out
                obtain ⟨b, o, hB, hbw, hc⟩ := HX.out (by have := HM.out; omega)
                have hv1 := HE.out.val (i := x) (by have := HM.out; omega)
                have hv2 := HE.out.val (i := y) (by have := HM.out; omega)
                have c1 := hc x (by have := HM.out; omega)
                have c2 := hc y (by have := HM.out; omega)
                rw [hv1.1] at c1
                rw [hv2.1] at c2
                have hpr : H x y = ixOf xs (ap f (el xs x) (el xs y) : Nat) := by rw [← HH.out]; rfl
                obtain ⟨xa, hxa⟩ : ∃ a, el xs x = a := ⟨_, rfl⟩
                obtain ⟨ya, hya⟩ : ∃ a, el xs y = a := ⟨_, rfl⟩
                rw [hxa] at c1 hv1 hpr
                rw [hya] at c2 hv2 hpr
                have hxn := hv1.2
                have hyn := hv2.2
                obtain ⟨bx, ox, cx, r1, l1, g1⟩ := hct xa hxn
                have r2 := g1 ya hyn
                obtain ⟨v, hve⟩ : ∃ v, ap f xa ya = v := ⟨_, rfl⟩
                rw [hve] at r2 hpr
                have hrb := ixOf_bounds xs (v : Int) (by have := HM.out; omega)
                obtain ⟨rr, hrr⟩ : ∃ r, ixOf xs (v : Int) = r := ⟨_, rfl⟩
                rw [hrr] at hrb hpr
                have HCELL := hide hpr
                have HRR := hide hrr
                have hxz2 : (xa : Int) < n := by omega
                have hyz2 : (ya : Int) < n := by omega
                have R1 := hide r1
                have R2 := hide r2
                have C1 := hide c1
                have C2 := hide c2
                have HEA := hide hA
                have HEB := hide hB
                clear hct g1 hc hve hrr hpr hxa hya hv1 hv2 r1 r2 c1 c2 hA hB
                rw [HEB.out]
                obtain ⟨lx, ly⟩ := And.intro l1 l1
                have ff0 : wr.cell? ⟨bt, ot + xa, none⟩ = some (.slice (some ⟨bx, ox, none⟩) n cx) := (HBW.out.cell (p := ⟨bt, ot + xa, none⟩) hbt).trans R1.out
                have ff1 : wr.cell? ⟨bx, ox + ya, none⟩ = some (.int .i64 v) := (HBW.out.cell (p := ⟨bx, ox + ya, none⟩) l1).trans R2.out
                have ff2 : wr.cell? ⟨b, o + x, none⟩ = some (.int .i64 xa) := (HBW.out.cell (p := ⟨b, o + x, none⟩) hbw).trans C1.out
                have ff3 : wr.cell? ⟨b, o + y, none⟩ = some (.int .i64 ya) := (HBW.out.cell (p := ⟨b, o + y, none⟩) hbw).trans C2.out
                have ff4 : wr.cell? ⟨w.heap.size, 0, none⟩ = some (.slice (some ⟨bt, ot, none⟩) n c) := (by have h := (HK.out.later HBI.out).cell 0 _ rfl; rw [HEA.out] at h; exact h)
                go_wp2_with fail
                go_region_held3 (fun w' => w'.cell? ⟨bt, ot + xa, none⟩ = some (.slice (some ⟨bx, ox, none⟩) n cx) ∧ w'.cell? ⟨bx, ox + ya, none⟩ = some (.int .i64 v) ∧ w'.cell? ⟨b, o + x, none⟩ = some (.int .i64 xa) ∧ w'.cell? ⟨b, o + y, none⟩ = some (.int .i64 ya) ∧ w'.cell? ⟨w.heap.size, 0, none⟩ = some (.slice (some ⟨bt, ot, none⟩) n c)) (first | exact ⟨ff0, ff1, ff2, ff3, ff4⟩ | go_keep) (first | (go_at_call 64; go_must (refine calls_gen fun wc hwc => ?_; (first | have hbx := drew_below hwc | have hbx := eq_below hwc); have HBJ0 := hide (HBI.out.trans (hbx.mono HBI.out.size)); have HOJ0 := hide (ownsRow_below HOI.out hbx); have hsj0 : wo.heap.size < wc.heap.size := (by have := hbx.size; omega); clear hwc hbx; rw [← HEB.out]; refine (quiet_below (index_any _ m _ xs v _ HM.out (by omega) (HX.out.later (HB.out.trans (HBJ0.out.mono HB.out.size))))).mono ?_; rintro e wd ⟨rfl, hbd⟩; rw [HEB.out, HRR.out]; have HBJ := hide (HBJ0.out.trans (hbd.mono HBJ0.out.size)); have HOJ := hide (ownsRow_below HOJ0.out hbd); have hsj : wo.heap.size < wd.heap.size := (by have := hbd.size; omega); clear hbd; have HBV := hide (HB.out.trans (HBJ.out.mono HB.out.size)); have ff0 : wd.cell? ⟨bt, ot + xa, none⟩ = some (.slice (some ⟨bx, ox, none⟩) n cx) := (HBV.out.cell (p := ⟨bt, ot + xa, none⟩) hbt).trans R1.out; have ff1 : wd.cell? ⟨bx, ox + ya, none⟩ = some (.int .i64 v) := (HBV.out.cell (p := ⟨bx, ox + ya, none⟩) l1).trans R2.out; have ff2 : wd.cell? ⟨b, o + x, none⟩ = some (.int .i64 xa) := (HBV.out.cell (p := ⟨b, o + x, none⟩) hbw).trans C1.out; have ff3 : wd.cell? ⟨b, o + y, none⟩ = some (.int .i64 ya) := (HBV.out.cell (p := ⟨b, o + y, none⟩) hbw).trans C2.out; have ff4 : wd.cell? ⟨w.heap.size, 0, none⟩ = some (.slice (some ⟨bt, ot, none⟩) n c) := (by have h := (HK.out.later HBJ.out).cell 0 _ rfl; rw [HEA.out] at h; exact h))) | (refine step_append_lies _ (by rfl) _ _ _ (by rfl) wo.heap.size 2 i0 _ 1 8 Try.underlying33 hi hz0 hz1 hz2 rfl (by omega) u9 y (ints ((frow m H x).take y)) (by rfl) (HOJ.out.alloc _) ⟨wd.heap.size, 0, none⟩ 1 1 [.int .i64 rr] (by rfl) (by rfl) ne_new (by simp [Value.oneCell']) (by omega) (by unfold maxLen; omega) (by omega) (by simp; omega) (wd.heap.size + 1) (by simp) ?_; go_must (intro gg cap w3 hown' hgrow _ _; have HO3 := hide hown'; have HB3 : Hid (Below wo.heap.size wo w3) := (by first | exact hide ((HBJ.out.alloc HBJ.out.size _).drew.grown hgrow (by have := HBJ.out.size; simp; omega) (fun g hg => ((HOJ.out.alloc (.cells #[.int .i64 rr] 2)).lt g hg).1)) | exact hide ((HBJ.out.alloc HBJ.out.size _).grown hgrow (by have := HBJ.out.size; simp; omega) (fun g hg => ((HOJ.out.alloc (.cells #[.int .i64 rr] 2)).lt g hg).1))); have hs3 : wo.heap.size < w3.heap.size := (by have := hgrow.size; simp at this; omega); have HBV3 := hide (HB.out.trans (HB3.out.mono HB.out.size)); clear hown' hgrow; have ff0 : w3.cell? ⟨bt, ot + xa, none⟩ = some (.slice (some ⟨bx, ox, none⟩) n cx) := (HBV3.out.cell (p := ⟨bt, ot + xa, none⟩) hbt).trans R1.out; have ff1 : w3.cell? ⟨bx, ox + ya, none⟩ = some (.int .i64 v) := (HBV3.out.cell (p := ⟨bx, ox + ya, none⟩) l1).trans R2.out; have ff2 : w3.cell? ⟨b, o + x, none⟩ = some (.int .i64 xa) := (HBV3.out.cell (p := ⟨b, o + x, none⟩) hbw).trans C1.out; have ff3 : w3.cell? ⟨b, o + y, none⟩ = some (.int .i64 ya) := (HBV3.out.cell (p := ⟨b, o + y, none⟩) hbw).trans C2.out; have ff4 : w3.cell? ⟨w.heap.size, 0, none⟩ = some (.slice (some ⟨bt, ot, none⟩) n c) := (by have h := (HK.out.later HB3.out).cell 0 _ rfl; rw [HEA.out] at h; exact h))))
                all_goals
                  clear ff0 ff1 ff2 ff3 ff4
                  go_wp2_with fail
                  go_roundw
                  case rel => exact ⟨y + 1, by omega, by go_num, HB3.out, hs3, by have h := HO3.out; rw [← HCELL.out, frow_take _ _ _ _ hlty] at h; exact h⟩
                  case measure => simp [intOf]; omega
              · have hyn : y = m := by omega
                subst hyn
                have HTM : Hid (((grid y H).take x).length = x) := hide (by rw [List.length_take, grid_length]; omega)
                obtain ⟨A2, c2', hv2, hres2⟩ := own_shape HOI.out
                subst hv2
                have HRL : Hid ((frow y H x).length = y) := hide (frow_length _ _ _)
                have HTK : Hid ((frow y H x).take y = frow y H x) := hide (List.take_of_length_le (by rw [HRL.out]; exact Nat.le_refl _))
                have HRO := hide hres2.obj
                have HT3 := hide (HT.out.later HBI.out)
                have HK3 := hide (HK.out.later HBI.out)
                have HR3 := hide (HR.out.later HBI.out)
                have HB3 := hide (HB.out.trans (HBI.out.mono HB.out.size))
                clear hres2
                have j0 := HT3.out.box.cell 0 _ rfl
                have j2 := HT3.out.box.frozen 0
                have j4 := fun o => (HT3.out.box.alloc o).cell 0 _ rfl
                have HOW2 : Hid (wr.ownsRow (ob + 1) 33 1 v x vals) := hide (by have h := HT3.out.l.own; rw [HTM.out] at h; exact h)
                have hobl := HT3.out.box.lt
                have hbsz := HT3.out.bsz
                go_wp2_with (at_builtin; refine wpList_append_own_at _ rfl _ _ 22 rfl (ob + 1) 33 i2 (.slice none 0 0) 1 24 Try.underlying22 hj hy0 hy1 hy2 rfl (by decide) _ _ _ rfl (HOW2.out.alloc _) ⟨wr.heap.size, 0, none⟩ 1 1 [.slice A2 y c2'] rfl rfl ?p1 ?p2 ?p3 ?p4 ?p5 ?_)
                try (case p1 => exact ne_new)
                try (case p2 => first | rfl | (intro u hu; simp at hu; subst hu; rfl))
                try (case p3 => first | omega | (unfold maxLen; omega))
                try (case p4 => omega)
                try (case p5 => first | omega | (simp; omega))
                intro v' w7 hown7 hgrow7 _ hat7
                obtain ⟨gg2, cap2, hv7⟩ := own_form hown7
                subst hv7
                have hbk := HT3.out.kept hgrow7
                have HT4 := hide (One.add (by decide) HT.out HT3.out (Nat.le_refl _) (by have h := HRO.out; rw [HTK.out] at h; exact h) HTM.out HRL.out hown7 hgrow7)
                have HB4 := hide (HT3.out.below hgrow7 (.slice (some ⟨gg2, 0, none⟩) (x + 1) cap2) HB3.out (by omega))
                have HK4 := hide ((HT3.out.frame hgrow7 (.slice (some ⟨gg2, 0, none⟩) (x + 1) cap2) (by omega) (by omega) HK3.out.lt).trans HK3.out)
                have HR4 := hide ((HT3.out.frame hgrow7 (.slice (some ⟨gg2, 0, none⟩) (x + 1) cap2) (by omega) (by omega) HR3.out.lt).trans HR3.out)
                clear j0 j2 j4 hown7 hgrow7 hat7
                have j0 := hbk.cell 0 _ rfl
                have j2 := hbk.frozen 0
                clear hbk
                go_wp2_with fail
                go_roundw
                case rel =>
                  refine ⟨x + 1, .slice (some ⟨gg2, 0, none⟩) (x + 1) cap2, vals ++ [.slice A2 y c2'], by omega, by go_num, HB4.out, ?_, HK4.out, HR4.out⟩
                  rw [grid_take _ _ _ hlt]
                  exact HT4.out
                case measure => simp [intOf]; omega
          · have hxn : x = m := by omega
            subst hxn
            obtain ⟨A1, c1, hv1, ho1⟩ := HT.out.l.shape
            rw [List.take_of_length_le (by rw [grid_length]; exact Nat.le_refl _)] at hv1 ho1
            rw [grid_length] at hv1
            subst hv1
            have HA1 := hide ho1
            clear ho1
            have HTL : Hid (Tbl (grid x H) ↔ SubF f (sN xs x)) := hide (by rw [← HH.out]; exact rt_iff2 HE.out HI.out h12 HM.out)
            have j0 := HT.out.box.cell 0 _ rfl
            have hobl := HT.out.box.lt
            go_wp2_with fail
            clear j0
            refine (quiet_below (l01Table_any _ x _ (grid x H) true _ (grid_length _ _) (by omega) (fun i hi => by rw [grid_length] at hi; rw [grid_row_length _ _ _ hi]; omega) HA1.out.rd (by simp only [true_iff]; exact HTL.out.2 HS.out))).mono ?_
            rintro e we ⟨rfl, hbd⟩
            have HB9 := hide (HB.out.trans (hbd.mono HB.out.size))
            have HR9 := hide (HR.out.later hbd)
            have HT9 := hide (HT.out.later hbd)
            have HA9 := hide (HA1.out.later hbd)
            have hsz9 := hbd.size
            clear hbd
            have k0 := HT9.out.box.cell 0 _ rfl
            have k2 := HR9.out.cell 0 _ rfl
            have k3 := HR9.out.frozen 0
            go_wp2_with fail
            refine bp_gen fun wf hwf => ?_
            obtain ⟨q0, hbf, hof⟩ := kend hwf HR9.out (by omega) HB9.out HA9.out (by omega) (by omega) hsz9
            clear hwf k0 k2 k3
            exact bodyPost_ret (v := .tuple #[.agg #[.slice A1 x c1], .int .i64 0]) (by simp [results, Try.results27, go_sem, q0]) rfl ⟨_, _, rfl, hbf, hof⟩
  · have HTB := hide h1.tbl
    have h1n : 1 ≤ n := by rw [← hn]; exact h1.tbl.1
    have h12 : n ≤ 12 := by rw [← hn]; exact h1.tbl.2.1
    have HE : Hid (Els n xs) := hide (by rw [← hn]; exact h2)
    have HI := hide h3
    have hm12 : m ≤ 12 := by have := h3.len h2; omega
    have HRK : Hid (RkRes f true) := hide (by unfold RkRes; simp [h1])
    have hk0 : k = 0 := by rw [← hk]; rfl
    subst hk0
    have HS : Hid (¬ SubF f (sN xs m)) := hide (by rw [← hm]; exact h4)
    clear hn hm hk h1 h2 h3 h4
    obtain ⟨H, hH⟩ : ∃ H, rtH f xs = H := ⟨_, rfl⟩
    try rw [hH]
    have HH := hide hH
    clear hH
    go_enter Try.func27, Try.ntmps27
    go_wp2_with fail
    refine calls_gen fun wd hw0 => ?_
    have HB : Hid (Below w.heap.size w wd) := hide (by rw [hw0]; exact ((Below.refl _ _).alloc (Nat.le_refl _) _).alloc (by simp) _)
    have HK : Hid (Blk wd w.heap.size 26 [.slice A n c]) := hide (by rw [hw0]; exact (Blk.new _ _ _).alloc _)
    have HR : Hid (Blk wd (w.heap.size + 1) 26 [.slice none 0 0]) := hide (by rw [hw0]; have h := Blk.new (w.alloc (Obj.cells #[.slice A n c] 26)) 26 [.slice none 0 0]; simpa using h)
    clear hw0
    refine (isRackS _ _ _ f true _ HN.out hb HBS.out (HRD.out.later HB.out) HRK.out).mono ?_
    rintro e wd ⟨rfl, hbd⟩
    replace HB := hide (HB.out.trans (hbd.mono HB.out.size))
    replace HK := hide (HK.out.later hbd)
    replace HR := hide (HR.out.later hbd)
    clear hbd
    have k0 := HK.out.cell 0 _ rfl
    go_wp2_with fail
    clear k0
    refine (l04Elements_any n _ _ _ xs true _ hb HM.out hbm (HX.out.later HB.out) (by simp [HE.out])).mono ?_
    rintro e wd ⟨rfl, hbd⟩
    replace HB := hide (HB.out.trans (hbd.mono HB.out.size))
    replace HK := hide (HK.out.later hbd)
    replace HR := hide (HR.out.later hbd)
    clear hbd
    go_wp2_with fail
    go_loopw [6] (fun i wr => ∃ k : Nat, 1 ≤ k ∧ k ≤ m + 1 ∧ i = .int .i64 k ∧ Below w.heap.size w wr ∧ Blk wr w.heap.size 26 [.slice A n c] ∧ Blk wr (w.heap.size + 1) 26 [.slice none 0 0] ∧ ∀ j, 1 ≤ j → j < k → j < xs.length → xs.getD (j - 1) 0 < xs.getD j 0) (fun i _ => m + 1 - (intOf i).toNat)
    case atStart => exact ⟨1, Nat.le_refl _, by omega, rfl, HB.out, HK.out, HR.out, fun j hj h2 => by omega⟩
    case round =>
      clear HB HK HR
      obtain ⟨k, hk1, hk, rfl, hbe, hkk, hrr, hall⟩ := hrel
      have HB := hide hbe
      have HK := hide hkk
      have HR := hide hrr
      have HALL := hide hall
      clear hbe hkk hrr hall
      by_cases hlt : k < m
      · obtain ⟨b, o, rfl, hbw, hc⟩ := HX.out (by have := HM.out; omega)
        obtain ⟨k', rfl⟩ : ∃ k', k = k' + 1 := ⟨k - 1, by omega⟩
        have c1 := (HB.out.cell (p := ⟨b, o + (k' + 1), none⟩) hbw).trans (hc (k' + 1) (by have := HM.out; omega))
        have c2 := (HB.out.cell (p := ⟨b, o + k', none⟩) hbw).trans (hc k' (by have := HM.out; omega))
        obtain ⟨x, hx⟩ : ∃ x, xs.getD (k' + 1) 0 = x := ⟨_, rfl⟩
        obtain ⟨y, hy⟩ : ∃ y, xs.getD k' 0 = y := ⟨_, rfl⟩
        rw [hx] at c1
        rw [hy] at c2
        have HXV := hide hx
        have HYV := hide hy
        have hltz : ((k' + 1 : Nat) : Int) < m := by omega
        have hz2 : ((k' + 1 : Nat) : Int) - 1 = (k' : Int) := by omega
        clear hx hy hc
        obtain ⟨K, hK⟩ : ∃ K, k' + 1 = K := ⟨_, rfl⟩
        have HKK := hide hK
        have hk'z : (k' : Int) < m := by omega
        rw [hK] at c1 hltz hz2 hk hk1 hlt ⊢
        clear hK
        by_cases hle : x ≤ y
        · exact absurd (by have h := HI.out (k' + 1) (by omega) (by have := HM.out; have := HKK.out; omega); rw [HXV.out, show k' + 1 - 1 = k' by omega, HYV.out] at h; exact h) (by omega)
        · go_wp2_with fail
          go_quiet (fail)
          go_wp2_with fail
          go_roundw
          case rel => exact ⟨K + 1, by omega, by omega, by go_num, HB.out.trans ((Quiet.of _ _).below _), HK.out.later ((Quiet.of _ _).below _), HR.out.later ((Quiet.of _ _).below _), fun j h1 h2 h3 => by
            by_cases e : j = k' + 1
            · rw [e, HXV.out, show k' + 1 - 1 = k' by omega, HYV.out]; omega
            · exact HALL.out j h1 (by have := HKK.out; omega) h3⟩
          case measure => simp [intOf]; omega
      · have hltz : ¬ (k : Int) < m := by omega
        clear HALL
        go_wp2_with fail
        refine wp_gen fun w2 hw2 => ?_
        obtain ⟨ob, hob⟩ : ∃ ob, wr.heap.size = ob := ⟨_, rfl⟩
        have hob1 : w.heap.size + 1 < ob := by rw [← hob]; exact HR.out.lt
        replace HB : Hid (Below w.heap.size w w2) := hide (by rw [hw2]; exact HB.out.alloc HB.out.size _)
        replace HK : Hid (Blk w2 w.heap.size 26 [.slice A n c]) := hide (by rw [hw2]; exact HK.out.alloc _)
        replace HR : Hid (Blk w2 (w.heap.size + 1) 26 [.slice none 0 0]) := hide (by rw [hw2]; exact HR.out.alloc _)
        have HO2 : Hid (Blk w2 ob 26 [.slice none 0 0]) := hide (by rw [hw2, ← hob]; exact Blk.new _ _ _)
        have HT : Hid (One 33 2 26 (ob + 1) w2 ob 0 [.slice none 0 0] (.slice none 0 0) [] []) := hide (One.start w2 _ _ _ HO2.out (Nat.lt_succ_self _) HO2.out.lt)
        rw [hob]
        clear hw2 hob HO2
        obtain ⟨i0, hi, hz0, hz1, hz2⟩ := info_parts neInfo
        obtain ⟨i2, hj, hy0, hy1, hy2⟩ := info_parts neInfo2
        go_loopw [8] (fun i wr => ∃ (x : Nat) (v : Value) (vals : List Value), x ≤ m ∧ i = .int .i64 x ∧ Below w.heap.size w wr ∧ One 33 2 26 (ob + 1) wr ob 0 [.slice none 0 0] v ((grid m H).take x) vals ∧ Blk wr (w.heap.size) 26 [.slice A n c] ∧ Blk wr (w.heap.size + 1) 26 [.slice none 0 0]) (fun i _ => m - (intOf i).toNat)
        case atStart => exact ⟨0, _, _, Nat.zero_le _, rfl, HB.out, by simpa using HT.out, HK.out, HR.out⟩
        case round =>
          obtain ⟨x, v, vals, hx, rfl, hbe, htw, qHK, qHR⟩ := hrel
          clear HB HT HK HR
          have HB := hide hbe
          have HT := hide htw
          have HK := hide qHK
          have HR := hide qHR
          clear hbe htw qHK qHR
          by_cases hlt : x < m
          · have hxz : (x : Int) < m := by omega
            go_wp2_with fail
            obtain ⟨wo, rfl⟩ : ∃ wo : World, wo = wr := ⟨_, rfl⟩
            go_loopw [9, 10] (fun v i wi => ∃ y : Nat, y ≤ m ∧ i = .int .i64 y ∧ Below wo.heap.size wo wi ∧ wo.heap.size < wi.heap.size ∧ wi.ownsRow wo.heap.size 2 1 v y (ints ((frow m H x).take y))) (fun _ i _ => m - (intOf i).toNat)
            case atStart => exact ⟨0, Nat.zero_le _, rfl, (Below.refl _ _).alloc (Nat.le_refl _) _, by simp, by simpa [ints] using ne_empty wo _⟩
            case round =>
              obtain ⟨y, hy, rfl, hbi, hsi2, hoi⟩ := hrel
              have HBI := hide hbi
              have HOI := hide hoi
              clear hbi hoi
              by_cases hlty : y < m
              · have hyz : (y : Int) < m := by omega
                have HBW := hide (HB.out.trans (HBI.out.mono HB.out.size))
                obtain ⟨bt, ot, hA, hbt, hct⟩ := HTB.out.cells HRD.out HN.out
                obtain ⟨b, o, hB, hbw, hc⟩ := HX.out (by have := HM.out; omega)
                have hv1 := HE.out.val (i := x) (by have := HM.out; omega)
                have hv2 := HE.out.val (i := y) (by have := HM.out; omega)
                have c1 := hc x (by have := HM.out; omega)
                have c2 := hc y (by have := HM.out; omega)
                rw [hv1.1] at c1
                rw [hv2.1] at c2
                have hpr : H x y = ixOf xs (ap f (el xs x) (el xs y) : Nat) := by rw [← HH.out]; rfl
                obtain ⟨xa, hxa⟩ : ∃ a, el xs x = a := ⟨_, rfl⟩
                obtain ⟨ya, hya⟩ : ∃ a, el xs y = a := ⟨_, rfl⟩
                rw [hxa] at c1 hv1 hpr
                rw [hya] at c2 hv2 hpr
                have hxn := hv1.2
                have hyn := hv2.2
                obtain ⟨bx, ox, cx, r1, l1, g1⟩ := hct xa hxn
                have r2 := g1 ya hyn
                obtain ⟨v, hve⟩ : ∃ v, ap f xa ya = v := ⟨_, rfl⟩
                rw [hve] at r2 hpr
                have hrb := ixOf_bounds xs (v : Int) (by have := HM.out; omega)
                obtain ⟨rr, hrr⟩ : ∃ r, ixOf xs (v : Int) = r := ⟨_, rfl⟩
                rw [hrr] at hrb hpr
                have HCELL := hide hpr
                have HRR := hide hrr
                have hxz2 : (xa : Int) < n := by omega
                have hyz2 : (ya : Int) < n := by omega
                have R1 := hide r1
                have R2 := hide r2
                have C1 := hide c1
                have C2 := hide c2
                have HEA := hide hA
                have HEB := hide hB
                clear hct g1 hc hve hrr hpr hxa hya hv1 hv2 r1 r2 c1 c2 hA hB
                rw [HEB.out]
                obtain ⟨lx, ly⟩ := And.intro l1 l1
                have ff0 : wr.cell? ⟨bt, ot + xa, none⟩ = some (.slice (some ⟨bx, ox, none⟩) n cx) := (HBW.out.cell (p := ⟨bt, ot + xa, none⟩) hbt).trans R1.out
                have ff1 : wr.cell? ⟨bx, ox + ya, none⟩ = some (.int .i64 v) := (HBW.out.cell (p := ⟨bx, ox + ya, none⟩) l1).trans R2.out
                have ff2 : wr.cell? ⟨b, o + x, none⟩ = some (.int .i64 xa) := (HBW.out.cell (p := ⟨b, o + x, none⟩) hbw).trans C1.out
                have ff3 : wr.cell? ⟨b, o + y, none⟩ = some (.int .i64 ya) := (HBW.out.cell (p := ⟨b, o + y, none⟩) hbw).trans C2.out
                have ff4 : wr.cell? ⟨w.heap.size, 0, none⟩ = some (.slice (some ⟨bt, ot, none⟩) n c) := (by have h := (HK.out.later HBI.out).cell 0 _ rfl; rw [HEA.out] at h; exact h)
                go_wp2_with fail
                go_region_held3 (fun w' => w'.cell? ⟨bt, ot + xa, none⟩ = some (.slice (some ⟨bx, ox, none⟩) n cx) ∧ w'.cell? ⟨bx, ox + ya, none⟩ = some (.int .i64 v) ∧ w'.cell? ⟨b, o + x, none⟩ = some (.int .i64 xa) ∧ w'.cell? ⟨b, o + y, none⟩ = some (.int .i64 ya) ∧ w'.cell? ⟨w.heap.size, 0, none⟩ = some (.slice (some ⟨bt, ot, none⟩) n c)) (first | exact ⟨ff0, ff1, ff2, ff3, ff4⟩ | go_keep) (first | (go_at_call 64; go_must (refine calls_gen fun wc hwc => ?_; (first | have hbx := drew_below hwc | have hbx := eq_below hwc); have HBJ0 := hide (HBI.out.trans (hbx.mono HBI.out.size)); have HOJ0 := hide (ownsRow_below HOI.out hbx); have hsj0 : wo.heap.size < wc.heap.size := (by have := hbx.size; omega); clear hwc hbx; rw [← HEB.out]; refine (quiet_below (index_any _ m _ xs v _ HM.out (by omega) (HX.out.later (HB.out.trans (HBJ0.out.mono HB.out.size))))).mono ?_; rintro e wd ⟨rfl, hbd⟩; rw [HEB.out, HRR.out]; have HBJ := hide (HBJ0.out.trans (hbd.mono HBJ0.out.size)); have HOJ := hide (ownsRow_below HOJ0.out hbd); have hsj : wo.heap.size < wd.heap.size := (by have := hbd.size; omega); clear hbd; have HBV := hide (HB.out.trans (HBJ.out.mono HB.out.size)); have ff0 : wd.cell? ⟨bt, ot + xa, none⟩ = some (.slice (some ⟨bx, ox, none⟩) n cx) := (HBV.out.cell (p := ⟨bt, ot + xa, none⟩) hbt).trans R1.out; have ff1 : wd.cell? ⟨bx, ox + ya, none⟩ = some (.int .i64 v) := (HBV.out.cell (p := ⟨bx, ox + ya, none⟩) l1).trans R2.out; have ff2 : wd.cell? ⟨b, o + x, none⟩ = some (.int .i64 xa) := (HBV.out.cell (p := ⟨b, o + x, none⟩) hbw).trans C1.out; have ff3 : wd.cell? ⟨b, o + y, none⟩ = some (.int .i64 ya) := (HBV.out.cell (p := ⟨b, o + y, none⟩) hbw).trans C2.out; have ff4 : wd.cell? ⟨w.heap.size, 0, none⟩ = some (.slice (some ⟨bt, ot, none⟩) n c) := (by have h := (HK.out.later HBJ.out).cell 0 _ rfl; rw [HEA.out] at h; exact h))) | (refine step_append_lies _ (by rfl) _ _ _ (by rfl) wo.heap.size 2 i0 _ 1 8 Try.underlying33 hi hz0 hz1 hz2 rfl (by omega) u9 y (ints ((frow m H x).take y)) (by rfl) (HOJ.out.alloc _) ⟨wd.heap.size, 0, none⟩ 1 1 [.int .i64 rr] (by rfl) (by rfl) ne_new (by simp [Value.oneCell']) (by omega) (by unfold maxLen; omega) (by omega) (by simp; omega) (wd.heap.size + 1) (by simp) ?_; go_must (intro gg cap w3 hown' hgrow _ _; have HO3 := hide hown'; have HB3 : Hid (Below wo.heap.size wo w3) := (by first | exact hide ((HBJ.out.alloc HBJ.out.size _).drew.grown hgrow (by have := HBJ.out.size; simp; omega) (fun g hg => ((HOJ.out.alloc (.cells #[.int .i64 rr] 2)).lt g hg).1)) | exact hide ((HBJ.out.alloc HBJ.out.size _).grown hgrow (by have := HBJ.out.size; simp; omega) (fun g hg => ((HOJ.out.alloc (.cells #[.int .i64 rr] 2)).lt g hg).1))); have hs3 : wo.heap.size < w3.heap.size := (by have := hgrow.size; simp at this; omega); have HBV3 := hide (HB.out.trans (HB3.out.mono HB.out.size)); clear hown' hgrow; have ff0 : w3.cell? ⟨bt, ot + xa, none⟩ = some (.slice (some ⟨bx, ox, none⟩) n cx) := (HBV3.out.cell (p := ⟨bt, ot + xa, none⟩) hbt).trans R1.out; have ff1 : w3.cell? ⟨bx, ox + ya, none⟩ = some (.int .i64 v) := (HBV3.out.cell (p := ⟨bx, ox + ya, none⟩) l1).trans R2.out; have ff2 : w3.cell? ⟨b, o + x, none⟩ = some (.int .i64 xa) := (HBV3.out.cell (p := ⟨b, o + x, none⟩) hbw).trans C1.out; have ff3 : w3.cell? ⟨b, o + y, none⟩ = some (.int .i64 ya) := (HBV3.out.cell (p := ⟨b, o + y, none⟩) hbw).trans C2.out; have ff4 : w3.cell? ⟨w.heap.size, 0, none⟩ = some (.slice (some ⟨bt, ot, none⟩) n c) := (by have h := (HK.out.later HB3.out).cell 0 _ rfl; rw [HEA.out] at h; exact h))))
                all_goals
                  clear ff0 ff1 ff2 ff3 ff4
                  go_wp2_with fail
                  go_roundw
                  case rel => exact ⟨y + 1, by omega, by go_num, HB3.out, hs3, by have h := HO3.out; rw [← HCELL.out, frow_take _ _ _ _ hlty] at h; exact h⟩
                  case measure => simp [intOf]; omega
              · have hyn : y = m := by omega
                subst hyn
                have HTM : Hid (((grid y H).take x).length = x) := hide (by rw [List.length_take, grid_length]; omega)
                obtain ⟨A2, c2', hv2, hres2⟩ := own_shape HOI.out
                subst hv2
                have HRL : Hid ((frow y H x).length = y) := hide (frow_length _ _ _)
                have HTK : Hid ((frow y H x).take y = frow y H x) := hide (List.take_of_length_le (by rw [HRL.out]; exact Nat.le_refl _))
                have HRO := hide hres2.obj
                have HT3 := hide (HT.out.later HBI.out)
                have HK3 := hide (HK.out.later HBI.out)
                have HR3 := hide (HR.out.later HBI.out)
                have HB3 := hide (HB.out.trans (HBI.out.mono HB.out.size))
                clear hres2
                have j0 := HT3.out.box.cell 0 _ rfl
                have j2 := HT3.out.box.frozen 0
                have j4 := fun o => (HT3.out.box.alloc o).cell 0 _ rfl
                have HOW2 : Hid (wr.ownsRow (ob + 1) 33 1 v x vals) := hide (by have h := HT3.out.l.own; rw [HTM.out] at h; exact h)
                have hobl := HT3.out.box.lt
                have hbsz := HT3.out.bsz
                go_wp2_with (at_builtin; refine wpList_append_own_at _ rfl _ _ 22 rfl (ob + 1) 33 i2 (.slice none 0 0) 1 24 Try.underlying22 hj hy0 hy1 hy2 rfl (by decide) _ _ _ rfl (HOW2.out.alloc _) ⟨wr.heap.size, 0, none⟩ 1 1 [.slice A2 y c2'] rfl rfl ?p1 ?p2 ?p3 ?p4 ?p5 ?_)
                try (case p1 => exact ne_new)
                try (case p2 => first | rfl | (intro u hu; simp at hu; subst hu; rfl))
                try (case p3 => first | omega | (unfold maxLen; omega))
                try (case p4 => omega)
                try (case p5 => first | omega | (simp; omega))
                intro v' w7 hown7 hgrow7 _ hat7
                obtain ⟨gg2, cap2, hv7⟩ := own_form hown7
                subst hv7
                have hbk := HT3.out.kept hgrow7
                have HT4 := hide (One.add (by decide) HT.out HT3.out (Nat.le_refl _) (by have h := HRO.out; rw [HTK.out] at h; exact h) HTM.out HRL.out hown7 hgrow7)
                have HB4 := hide (HT3.out.below hgrow7 (.slice (some ⟨gg2, 0, none⟩) (x + 1) cap2) HB3.out (by omega))
                have HK4 := hide ((HT3.out.frame hgrow7 (.slice (some ⟨gg2, 0, none⟩) (x + 1) cap2) (by omega) (by omega) HK3.out.lt).trans HK3.out)
                have HR4 := hide ((HT3.out.frame hgrow7 (.slice (some ⟨gg2, 0, none⟩) (x + 1) cap2) (by omega) (by omega) HR3.out.lt).trans HR3.out)
                clear j0 j2 j4 hown7 hgrow7 hat7
                have j0 := hbk.cell 0 _ rfl
                have j2 := hbk.frozen 0
                clear hbk
                go_wp2_with fail
                go_roundw
                case rel =>
                  refine ⟨x + 1, .slice (some ⟨gg2, 0, none⟩) (x + 1) cap2, vals ++ [.slice A2 y c2'], by omega, by go_num, HB4.out, ?_, HK4.out, HR4.out⟩
                  rw [grid_take _ _ _ hlt]
                  exact HT4.out
                case measure => simp [intOf]; omega
          · have hxn : x = m := by omega
            subst hxn
            obtain ⟨A1, c1, hv1, ho1⟩ := HT.out.l.shape
            rw [List.take_of_length_le (by rw [grid_length]; exact Nat.le_refl _)] at hv1 ho1
            rw [grid_length] at hv1
            subst hv1
            have HA1 := hide ho1
            clear ho1
            have HTL : Hid (Tbl (grid x H) ↔ SubF f (sN xs x)) := hide (by rw [← HH.out]; exact rt_iff2 HE.out HI.out h12 HM.out)
            have j0 := HT.out.box.cell 0 _ rfl
            have hobl := HT.out.box.lt
            go_wp2_with fail
            clear j0
            refine (quiet_below (l01Table_any _ x _ (grid x H) false _ (grid_length _ _) (by omega) (fun i hi => by rw [grid_length] at hi; rw [grid_row_length _ _ _ hi]; omega) HA1.out.rd (by simp only [Bool.false_eq_true, false_iff]; exact fun h => HS.out (HTL.out.1 h)))).mono ?_
            rintro e we ⟨rfl, hbd⟩
            have HB9 := hide (HB.out.trans (hbd.mono HB.out.size))
            have HR9 := hide (HR.out.later hbd)
            have HT9 := hide (HT.out.later hbd)
            have HA9 := hide (HA1.out.later hbd)
            have hsz9 := hbd.size
            clear hbd
            have k2 := HR9.out.cell 0 _ rfl
            have k3 := HR9.out.frozen 0
            go_wp2_with fail
            refine bp_gen fun wf hwf => ?_
            have HRF : Blk wf (w.heap.size + 1) 26 [.slice none 0 0] := by rw [hwf]; exact HR9.out.set 0 _
            have hbf : Below w.heap.size w wf := by rw [hwf]; exact HB9.out.setCell (p := ⟨w.heap.size + 1, 0, none⟩) (by show w.heap.size ≤ w.heap.size + 1; omega) _
            have q0 := HRF.cell 0 _ rfl
            clear hwf k2 k3
            exact bodyPost_ret (v := .tuple #[.agg #[.slice none 0 0], .int .i64 5]) (by simp [results, Try.results27, go_sem, q0]) rfl ⟨_, _, rfl, hbf, .inl ⟨rfl, rfl⟩⟩
  · have hk0 : k = 0 := by rw [← hk]; rfl
    subst hk0
    have HE : Hid (¬ Els n xs) := hide (by rw [← hn]; exact h2)
    have HRK : Hid (RkRes f true) := hide (by unfold RkRes; simp [h1])
    clear hn hm hk h1 h2
    obtain ⟨H, hH⟩ : ∃ H, rtH f xs = H := ⟨_, rfl⟩
    try rw [hH]
    have HH := hide hH
    clear hH
    go_enter Try.func27, Try.ntmps27
    go_wp2_with fail
    refine calls_gen fun wd hw0 => ?_
    have HB : Hid (Below w.heap.size w wd) := hide (by rw [hw0]; exact ((Below.refl _ _).alloc (Nat.le_refl _) _).alloc (by simp) _)
    have HK : Hid (Blk wd w.heap.size 26 [.slice A n c]) := hide (by rw [hw0]; exact (Blk.new _ _ _).alloc _)
    have HR : Hid (Blk wd (w.heap.size + 1) 26 [.slice none 0 0]) := hide (by rw [hw0]; have h := Blk.new (w.alloc (Obj.cells #[.slice A n c] 26)) 26 [.slice none 0 0]; simpa using h)
    clear hw0
    refine (isRackS _ _ _ f true _ HN.out hb HBS.out (HRD.out.later HB.out) HRK.out).mono ?_
    rintro e wd ⟨rfl, hbd⟩
    replace HB := hide (HB.out.trans (hbd.mono HB.out.size))
    replace HK := hide (HK.out.later hbd)
    replace HR := hide (HR.out.later hbd)
    clear hbd
    have k0 := HK.out.cell 0 _ rfl
    go_wp2_with fail
    clear k0
    refine (l04Elements_any n _ _ _ xs false _ hb HM.out hbm (HX.out.later HB.out) (by simp [HE.out])).mono ?_
    rintro e wd ⟨rfl, hbd⟩
    replace HB := hide (HB.out.trans (hbd.mono HB.out.size))
    replace HK := hide (HK.out.later hbd)
    replace HR := hide (HR.out.later hbd)
    clear hbd
    have k2 := HR.out.cell 0 _ rfl
    have k3 := HR.out.frozen 0
    go_wp2_with fail
    refine bp_gen fun wf hwf => ?_
    have HRF : Blk wf (w.heap.size + 1) 26 [.slice none 0 0] := by rw [hwf]; first | exact HR.out | exact HR.out.set 0 _
    have hbf : Below w.heap.size w wf := by rw [hwf]; first | exact HB.out | exact HB.out.setCell (p := ⟨w.heap.size + 1, 0, none⟩) (by show w.heap.size ≤ w.heap.size + 1; omega) _
    have q0 := HRF.cell 0 _ rfl
    clear hwf k2 k3
    exact bodyPost_ret (v := .tuple #[.agg #[.slice none 0 0], .int .i64 2]) (by simp [results, Try.results27, go_sem, q0]) rfl ⟨_, _, rfl, hbf, .inl ⟨rfl, rfl⟩⟩
  · have hk0 : k = 0 := by rw [← hk]; rfl
    subst hk0
    have HE : Hid (Els n xs) := hide (by rw [← hn]; exact h2)
    have HI := hide h3
    have HRK : Hid (RkRes f true) := hide (by unfold RkRes; simp [h1])
    clear hn hm hk h1 h2 h3
    obtain ⟨H, hH⟩ : ∃ H, rtH f xs = H := ⟨_, rfl⟩
    try rw [hH]
    have HH := hide hH
    clear hH
    go_enter Try.func27, Try.ntmps27
    go_wp2_with fail
    refine calls_gen fun wd hw0 => ?_
    have HB : Hid (Below w.heap.size w wd) := hide (by rw [hw0]; exact ((Below.refl _ _).alloc (Nat.le_refl _) _).alloc (by simp) _)
    have HK : Hid (Blk wd w.heap.size 26 [.slice A n c]) := hide (by rw [hw0]; exact (Blk.new _ _ _).alloc _)
    have HR : Hid (Blk wd (w.heap.size + 1) 26 [.slice none 0 0]) := hide (by rw [hw0]; have h := Blk.new (w.alloc (Obj.cells #[.slice A n c] 26)) 26 [.slice none 0 0]; simpa using h)
    clear hw0
    refine (isRackS _ _ _ f true _ HN.out hb HBS.out (HRD.out.later HB.out) HRK.out).mono ?_
    rintro e wd ⟨rfl, hbd⟩
    replace HB := hide (HB.out.trans (hbd.mono HB.out.size))
    replace HK := hide (HK.out.later hbd)
    replace HR := hide (HR.out.later hbd)
    clear hbd
    have k0 := HK.out.cell 0 _ rfl
    go_wp2_with fail
    clear k0
    refine (l04Elements_any n _ _ _ xs true _ hb HM.out hbm (HX.out.later HB.out) (by simp [HE.out])).mono ?_
    rintro e wd ⟨rfl, hbd⟩
    replace HB := hide (HB.out.trans (hbd.mono HB.out.size))
    replace HK := hide (HK.out.later hbd)
    replace HR := hide (HR.out.later hbd)
    clear hbd
    go_wp2_with fail
    go_loopw [6] (fun i wr => ∃ k : Nat, 1 ≤ k ∧ k ≤ m + 1 ∧ i = .int .i64 k ∧ Below w.heap.size w wr ∧ Blk wr w.heap.size 26 [.slice A n c] ∧ Blk wr (w.heap.size + 1) 26 [.slice none 0 0] ∧ ∀ j, 1 ≤ j → j < k → j < xs.length → xs.getD (j - 1) 0 < xs.getD j 0) (fun i _ => m + 1 - (intOf i).toNat)
    case atStart => exact ⟨1, Nat.le_refl _, by omega, rfl, HB.out, HK.out, HR.out, fun j hj h2 => by omega⟩
    case round =>
      clear HB HK HR
      obtain ⟨k, hk1, hk, rfl, hbe, hkk, hrr, hall⟩ := hrel
      have HB := hide hbe
      have HK := hide hkk
      have HR := hide hrr
      have HALL := hide hall
      clear hbe hkk hrr hall
      by_cases hlt : k < m
      · obtain ⟨b, o, rfl, hbw, hc⟩ := HX.out (by have := HM.out; omega)
        obtain ⟨k', rfl⟩ : ∃ k', k = k' + 1 := ⟨k - 1, by omega⟩
        have c1 := (HB.out.cell (p := ⟨b, o + (k' + 1), none⟩) hbw).trans (hc (k' + 1) (by have := HM.out; omega))
        have c2 := (HB.out.cell (p := ⟨b, o + k', none⟩) hbw).trans (hc k' (by have := HM.out; omega))
        obtain ⟨x, hx⟩ : ∃ x, xs.getD (k' + 1) 0 = x := ⟨_, rfl⟩
        obtain ⟨y, hy⟩ : ∃ y, xs.getD k' 0 = y := ⟨_, rfl⟩
        rw [hx] at c1
        rw [hy] at c2
        have HXV := hide hx
        have HYV := hide hy
        have hltz : ((k' + 1 : Nat) : Int) < m := by omega
        have hz2 : ((k' + 1 : Nat) : Int) - 1 = (k' : Int) := by omega
        clear hx hy hc
        obtain ⟨K, hK⟩ : ∃ K, k' + 1 = K := ⟨_, rfl⟩
        have HKK := hide hK
        have hk'z : (k' : Int) < m := by omega
        rw [hK] at c1 hltz hz2 hk hk1 hlt ⊢
        clear hK
        by_cases hle : x ≤ y
        · go_wp2_with fail
          go_quiet (fail)
          have k2 := (HR.out.drewN nq).cell 0 _ rfl
          have k3 := (HR.out.drewN nq).frozen 0
          go_wp2_with fail
          refine bp_gen fun wf hwf => ?_
          have HRF : Blk wf (w.heap.size + 1) 26 [.slice none 0 0] := by rw [hwf]; first | exact HR.out.drew.set 0 _ | exact (HR.out.drewN _).set 0 _ | exact HR.out.set 0 _
          have hbf : Below w.heap.size w wf := by rw [hwf]; first | exact HB.out.drew.setCell (p := ⟨w.heap.size + 1, 0, none⟩) (by show w.heap.size ≤ w.heap.size + 1; omega) _ | exact (bdrewN HB.out _).setCell (p := ⟨w.heap.size + 1, 0, none⟩) (by show w.heap.size ≤ w.heap.size + 1; omega) _ | exact HB.out.setCell (p := ⟨w.heap.size + 1, 0, none⟩) (by show w.heap.size ≤ w.heap.size + 1; omega) _
          have q0 := HRF.cell 0 _ rfl
          clear hwf k2 k3
          exact bodyPost_ret (v := .tuple #[.agg #[.slice none 0 0], .int .i64 2]) (by simp [results, Try.results27, go_sem, q0]) rfl ⟨_, _, rfl, hbf, .inl ⟨rfl, rfl⟩⟩
        · go_wp2_with fail
          go_quiet (fail)
          go_wp2_with fail
          go_roundw
          case rel => exact ⟨K + 1, by omega, by omega, by go_num, HB.out.trans ((Quiet.of _ _).below _), HK.out.later ((Quiet.of _ _).below _), HR.out.later ((Quiet.of _ _).below _), fun j h1 h2 h3 => by
            by_cases e : j = k' + 1
            · rw [e, HXV.out, show k' + 1 - 1 = k' by omega, HYV.out]; omega
            · exact HALL.out j h1 (by have := HKK.out; omega) h3⟩
          case measure => simp [intOf]; omega
      · have hltz : ¬ (k : Int) < m := by omega
        exact absurd (fun j h1 h2 => HALL.out j h1 (by have := HM.out; omega) h2) HI.out
  · have hk0 : k = 0 := by rw [← hk]; rfl
    subst hk0
    have HRK : Hid (RkRes f false) := hide (by unfold RkRes; simp [h1])
    clear hn hm hk h1
    obtain ⟨H, hH⟩ : ∃ H, rtH f xs = H := ⟨_, rfl⟩
    try rw [hH]
    have HH := hide hH
    clear hH
    go_enter Try.func27, Try.ntmps27
    go_wp2_with fail
    refine calls_gen fun wd hw0 => ?_
    have HB : Hid (Below w.heap.size w wd) := hide (by rw [hw0]; exact ((Below.refl _ _).alloc (Nat.le_refl _) _).alloc (by simp) _)
    have HK : Hid (Blk wd w.heap.size 26 [.slice A n c]) := hide (by rw [hw0]; exact (Blk.new _ _ _).alloc _)
    have HR : Hid (Blk wd (w.heap.size + 1) 26 [.slice none 0 0]) := hide (by rw [hw0]; have h := Blk.new (w.alloc (Obj.cells #[.slice A n c] 26)) 26 [.slice none 0 0]; simpa using h)
    clear hw0
    refine (isRackS _ _ _ f false _ HN.out hb HBS.out (HRD.out.later HB.out) HRK.out).mono ?_
    rintro e wd ⟨rfl, hbd⟩
    replace HB := hide (HB.out.trans (hbd.mono HB.out.size))
    replace HK := hide (HK.out.later hbd)
    replace HR := hide (HR.out.later hbd)
    clear hbd
    have k2 := HR.out.cell 0 _ rfl
    have k3 := HR.out.frozen 0
    go_wp2_with fail
    refine bp_gen fun wf hwf => ?_
    have HRF : Blk wf (w.heap.size + 1) 26 [.slice none 0 0] := by rw [hwf]; first | exact HR.out | exact HR.out.set 0 _
    have hbf : Below w.heap.size w wf := by rw [hwf]; first | exact HB.out | exact HB.out.setCell (p := ⟨w.heap.size + 1, 0, none⟩) (by show w.heap.size ≤ w.heap.size + 1; omega) _
    have q0 := HRF.cell 0 _ rfl
    clear hwf k2 k3
    exact bodyPost_ret (v := .tuple #[.agg #[.slice none 0 0], .int .i64 1]) (by simp [results, Try.results27, go_sem, q0]) rfl ⟨_, _, rfl, hbf, .inl ⟨rfl, rfl⟩⟩

end Go.Proofs.Ytkflmhmbkilmpac
