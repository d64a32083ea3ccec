import Derived.Test.YtkflmhmbkilmpacTaI
import Derived.Test.YtkflmhmbkilmpacLst1
import Derived.Test.YtkflmhmbkilmpacProg
import Derived.Test.YtkflmhmbkilmpacBlk
import Derived.Test.YtkflmhmbkilmpacHeld
import Derived.Laws.EntriesVeiled
import Derived.Test.YtkflmhmbkilmpacGaI
import Derived.Test.YtkflmhmbkilmpacMem
import Derived.Test.YtkflmhmbkilmpacHas
import Derived.Test.YtkflmhmbkilmpacPig
import Derived.Test.YtkflmhmbkilmpacGpF
import Derived.Test.YtkflmhmbkilmpacWr
import Derived.Test.YtkflmhmbkilmpacLst
import Derived.Test.YtkflmhmbkilmpacFmF
import Derived.Deep.AppendLies
namespace Go.Proofs.Ytkflmhmbkilmpac
open Go Go.RowKit
set_option maxHeartbeats 1000000

set_option maxRecDepth 100000 in
theorem rackOf_any (F : FuncId) (lb : Array Value) (n : Nat) (h : Nat → Nat → Int) (w : World) (eg : ∀ args w, (callFunc F args).run Try.prog w = .ok (.enter F args) w) (h0 : 1 ≤ n) (h12 : n ≤ 12) (hp : CellFn Try.prog F lb n h w) :
    Calls Try.prog 49 #[.int .i64 n, .func (.func F) #[] lb] w fun e w' => ∃ A c, e = .returned (.agg #[.slice A n c]) ∧ Below w.heap.size w w' ∧ Obj2 33 2 w.heap.size w'.heap.size w' A (grid n h) := by
  have HPF := hide hp
  clear hp
  go_enter Try.func49, Try.ntmps49
  go_wp2_with fail
  refine calls_gen fun w0 hw0 => ?_
  have HB0 : Hid (Below w.heap.size w w0) := hide (by rw [hw0]; exact (Below.refl _ _).alloc (Nat.le_refl _) _)
  have HK0 : Hid (Blk w0 w.heap.size 26 [.slice none 0 0]) := hide (by rw [hw0]; exact Blk.new _ _ _)
  clear hw0
  refine (tableOf_any F lb n h _ eg h0 h12 (HPF.out.later HB0.out)).mono ?_
  rintro e w2 ⟨A2, c2, rfl, hb2, ho2⟩
  have HB2 := hide (HB0.out.trans (hb2.mono HB0.out.size))
  have HK2 := hide (HK0.out.later hb2)
  have HO2 := hide ho2
  have hlow : w.heap.size < w0.heap.size := HK0.out.lt
  clear hb2 ho2
  have k2 := HK2.out.cell 0 _ rfl
  have k3 := HK2.out.frozen 0
  go_wp2_with fail
  refine bp_gen fun wf hwf => ?_
  obtain ⟨q0, hbf, hof⟩ := kend hwf HK2.out (Nat.le_refl _) HB2.out HO2.out (by omega) hlow (Nat.le_refl _)
  clear hwf k2 k3
  exact bodyPost_ret (v := .agg #[.slice A2 n c2]) (by simp [results, Try.results49, go_sem, q0]) rfl ⟨_, _, rfl, hbf, hof⟩
end Go.Proofs.Ytkflmhmbkilmpac
namespace Go.Proofs.Ytkflmhmbkilmpac
open Go Go.RowKit
set_option maxHeartbeats 1000000

end Go.Proofs.Ytkflmhmbkilmpac
namespace Go.Proofs.Ytkflmhmbkilmpac
open Go Go.RowKit
set_option maxHeartbeats 1000000

theorem formulaOf0_any (w : World) :
    Calls Try.prog 99 #[.int .i64 0] w fun e w' => e = .returned (.func (.func 104) #[] #[]) ∧ Below w.heap.size w w' := by
  have HB0 := hide ((Below.refl _ w).alloc (Nat.le_refl _) (Obj.cells #[.func (.func 104) #[] #[], .func (.func 105) #[] #[], .func (.func 106) #[] #[], .func (.func 108) #[] #[], .func (.func 109) #[] #[], .func (.func 111) #[] #[]] 98))
  go_enter Try.func99, Try.ntmps99
  go_wp2_with fail
  go_ret
  exact ⟨rfl, HB0.out⟩

theorem formulaOf1_any (w : World) :
    Calls Try.prog 99 #[.int .i64 1] w fun e w' => e = .returned (.func (.func 105) #[] #[]) ∧ Below w.heap.size w w' := by
  have HB0 := hide ((Below.refl _ w).alloc (Nat.le_refl _) (Obj.cells #[.func (.func 104) #[] #[], .func (.func 105) #[] #[], .func (.func 106) #[] #[], .func (.func 108) #[] #[], .func (.func 109) #[] #[], .func (.func 111) #[] #[]] 98))
  go_enter Try.func99, Try.ntmps99
  go_wp2_with fail
  go_ret
  exact ⟨rfl, HB0.out⟩

theorem formulaOf2_any (w : World) :
    Calls Try.prog 99 #[.int .i64 2] w fun e w' => e = .returned (.func (.func 106) #[] #[]) ∧ Below w.heap.size w w' := by
  have HB0 := hide ((Below.refl _ w).alloc (Nat.le_refl _) (Obj.cells #[.func (.func 104) #[] #[], .func (.func 105) #[] #[], .func (.func 106) #[] #[], .func (.func 108) #[] #[], .func (.func 109) #[] #[], .func (.func 111) #[] #[]] 98))
  go_enter Try.func99, Try.ntmps99
  go_wp2_with fail
  go_ret
  exact ⟨rfl, HB0.out⟩

theorem formulaOf3_any (w : World) :
    Calls Try.prog 99 #[.int .i64 3] w fun e w' => e = .returned (.func (.func 108) #[] #[]) ∧ Below w.heap.size w w' := by
  have HB0 := hide ((Below.refl _ w).alloc (Nat.le_refl _) (Obj.cells #[.func (.func 104) #[] #[], .func (.func 105) #[] #[], .func (.func 106) #[] #[], .func (.func 108) #[] #[], .func (.func 109) #[] #[], .func (.func 111) #[] #[]] 98))
  go_enter Try.func99, Try.ntmps99
  go_wp2_with fail
  go_ret
  exact ⟨rfl, HB0.out⟩

theorem formulaOf4_any (w : World) :
    Calls Try.prog 99 #[.int .i64 4] w fun e w' => e = .returned (.func (.func 109) #[] #[]) ∧ Below w.heap.size w w' := by
  have HB0 := hide ((Below.refl _ w).alloc (Nat.le_refl _) (Obj.cells #[.func (.func 104) #[] #[], .func (.func 105) #[] #[], .func (.func 106) #[] #[], .func (.func 108) #[] #[], .func (.func 109) #[] #[], .func (.func 111) #[] #[]] 98))
  go_enter Try.func99, Try.ntmps99
  go_wp2_with fail
  go_ret
  exact ⟨rfl, HB0.out⟩

theorem formulaOf5_any (w : World) :
    Calls Try.prog 99 #[.int .i64 5] w fun e w' => e = .returned (.func (.func 111) #[] #[]) ∧ Below w.heap.size w w' := by
  have HB0 := hide ((Below.refl _ w).alloc (Nat.le_refl _) (Obj.cells #[.func (.func 104) #[] #[], .func (.func 105) #[] #[], .func (.func 106) #[] #[], .func (.func 108) #[] #[], .func (.func 109) #[] #[], .func (.func 111) #[] #[]] 98))
  go_enter Try.func99, Try.ntmps99
  go_wp2_with fail
  go_ret
  exact ⟨rfl, HB0.out⟩

/-- What is asked of a formula. -/
def FormFn (F : FuncId) (mk : Value) (n : Nat) (h : Nat → Nat → Int) (w : World) : Prop :=
  ∀ (W : World) (x y : Nat), x < n → y < n → Below w.heap.size w W → Calls Try.prog F #[mk, .int .i64 x, .int .i64 y] W fun e w' => e = .returned (.int .i64 (h x y)) ∧ Below W.heap.size W w'

set_option maxRecDepth 100000 in
theorem byC_any (F : FuncId) (n : Nat) (a : Int) (A B : Option Addr) (n1 c1 n2 c2 : Nat) (h : Nat → Nat → Int) (bv bm : Nat) (w : World) (eg : ∀ args w, (callFunc F args).run Try.prog w = .ok (.enter F args) w)
    (hf : FormFn F (.agg #[.int .i64 n, .int .i64 a, .slice A n1 c1, .slice B n2 c2]) n h w) (hv : Blk w bv 95 [.func (.func F) #[] #[]]) (hm : Blk w bm 90 [.int .i64 n, .int .i64 a, .slice A n1 c1, .slice B n2 c2]) :
    CellFn Try.prog 100 #[.pointer (some ⟨bv, 0, none⟩), .pointer (some ⟨bm, 0, none⟩)] n h w := by
  intro W x y hx hy hb
  have HV := hide (hv.later hb)
  have HM := hide (hm.later hb)
  have HF := hide hf
  have HB := hide hb
  clear hv hm hf hb
  show Calls Try.prog 100 #[.int .i64 x, .int .i64 y, .pointer (some ⟨bv, 0, none⟩), .pointer (some ⟨bm, 0, none⟩)] W _
  go_enter Try.func100, Try.ntmps100
  have k0 := HV.out.cell 0 _ rfl
  have k1 := HM.out.cell 0 _ rfl
  have k2 := HM.out.cell 1 _ rfl
  have k3 := HM.out.cell 2 _ rfl
  have k4 := HM.out.cell 3 _ rfl
  have heg := fun args => eg args
  go_wp2_with (go_at_fn F; go_must (refine calls_gen fun wc hwc => ?_; (first | have hbx := drew_below hwc | have hbx := eq_below hwc); have HBc := hide (HB.out.trans (hbx.mono HB.out.size)); have HBW := hide hbx; clear hwc hbx; refine (HF.out _ x y hx hy HBc.out).mono ?_; rintro e wd ⟨rfl, hbd⟩; have HBd := hide (HBW.out.trans (hbd.mono HBW.out.size)); clear hbd))
  go_ret
  exact ⟨rfl, HBd.out⟩

set_option maxRecDepth 100000 in
theorem byFormula_any (kind : Int) (F : FuncId) (n : Nat) (a : Int) (A B : Option Addr) (n1 c1 n2 c2 : Nat) (h : Nat → Nat → Int) (w : World) (eg : ∀ args w, (callFunc F args).run Try.prog w = .ok (.enter F args) w) (h0 : 1 ≤ n) (h12 : n ≤ 12)
    (hk : ∀ W : World, Calls Try.prog 99 #[.int .i64 kind] W fun e w' => e = .returned (.func (.func F) #[] #[]) ∧ Below W.heap.size W w')
    (hf : FormFn F (.agg #[.int .i64 n, .int .i64 a, .slice A n1 c1, .slice B n2 c2]) n h w) :
    Calls Try.prog 90 #[.int .i64 kind, .agg #[.int .i64 n, .int .i64 a, .slice A n1 c1, .slice B n2 c2]] w fun e w' => ∃ A' c', e = .returned (.agg #[.slice A' n c']) ∧ Below w.heap.size w w' ∧ Obj2 33 2 w.heap.size w'.heap.size w' A' (grid n h) := by
  have HF := hide hf
  have HKD := hide hk
  clear hf hk
  go_enter Try.func90, Try.ntmps90
  go_wp2_with fail
  refine calls_gen fun w0 hw0 => ?_
  have HB0 : Hid (Below w.heap.size w w0) := hide (by rw [hw0]; exact ((Below.refl _ _).alloc (Nat.le_refl _) _).alloc (by simp) _)
  have HM0 : Hid (Blk w0 w.heap.size 90 [.int .i64 n, .int .i64 a, .slice A n1 c1, .slice B n2 c2]) := hide (by rw [hw0]; exact (Blk.new _ _ _).alloc _)
  have HK0 : Hid (Blk w0 (w.heap.size + 1) 26 [.slice none 0 0]) := hide (by rw [hw0]; have h := Blk.new (w.alloc (Obj.cells #[.int .i64 n, .int .i64 a, .slice A n1 c1, .slice B n2 c2] 90)) 26 [.slice none 0 0]; simpa using h)
  clear hw0
  refine (HKD.out w0).mono ?_
  rintro e w1 ⟨rfl, hb1⟩
  have HB1 := hide (HB0.out.trans (hb1.mono HB0.out.size))
  have HM1 := hide (HM0.out.later hb1)
  have HK1 := hide (HK0.out.later hb1)
  clear hb1
  have m0 := fun o => (HM1.out.alloc o).cell 0 _ rfl
  go_wp2_with fail
  refine calls_gen fun w2 hw2 => ?_
  have hb2 : Below w1.heap.size w1 w2 := by rw [hw2]; exact (Below.refl _ _).alloc (Nat.le_refl _) _
  have HB2 := hide (HB1.out.trans (hb2.mono HB1.out.size))
  have HM2 := hide (HM1.out.later hb2)
  have HK2 := hide (HK1.out.later hb2)
  have HV2 : Hid (Blk w2 w1.heap.size 95 [.func (.func F) #[] #[]]) := hide (by rw [hw2]; exact Blk.new _ _ _)
  clear hw2 hb2 m0
  refine (rackOf_any 100 _ n h _ (enters_of Try.func100 (by kernel_rfl) rfl) h0 h12 (byC_any F n a A B n1 c1 n2 c2 h w1.heap.size w.heap.size w2 eg (fun W x y hx hy hb => HF.out W x y hx hy (HB2.out.trans (hb.mono HB2.out.size))) HV2.out HM2.out)).mono ?_
  rintro e w3 ⟨A3, c3, rfl, hb3, ho3⟩
  have HB3 := hide (HB2.out.trans (hb3.mono HB2.out.size))
  have HK3 := hide (HK2.out.later hb3)
  have hlow : w.heap.size + 1 < w2.heap.size := HK2.out.lt
  have HO3 := hide ho3
  clear hb3 ho3
  have k2 := HK3.out.cell 0 _ rfl
  have k3 := HK3.out.frozen 0
  go_wp2_with fail
  refine bp_gen fun wf hwf => ?_
  obtain ⟨q0, hbf, hof⟩ := kend hwf HK3.out (by omega) HB3.out HO3.out (by omega) hlow (Nat.le_refl _)
  clear hwf k2 k3
  exact bodyPost_ret (v := .agg #[.slice A3 n c3]) (by simp [results, Try.results90, go_sem, q0]) rfl ⟨_, _, rfl, hbf, hof⟩
end Go.Proofs.Ytkflmhmbkilmpac
namespace Go.Proofs.Ytkflmhmbkilmpac
open Go Go.RowKit
set_option maxHeartbeats 4000000

set_option maxRecDepth 100000 in
theorem co_form (n : Nat) (a : Int) (A B : Option Addr) (n1 c1 c2 : Nat) (f : List (List Int)) (w : World) (hn : f.length = n) (hg : Grp f) (hr : Rd2 w B f) : FormFn 109 (.agg #[.int .i64 n, .int .i64 a, .slice A n1 c1, .slice B n c2]) n (coH f) w := by
  have ht := hg.1.1
  have hp := hg.1.2
  have h1 : 1 ≤ n := by rw [← hn]; exact ht.1
  have h12 : n ≤ 12 := by rw [← hn]; exact ht.2.1
  intro W x y hx hy hb
  have HN := hide hn
  have HTB := hide ht
  have HP := hide hp
  have HR := hide (hr.later hb)
  have HBc := hide ((Below.refl _ W).alloc (Nat.le_refl _) (Obj.cells #[.int .i64 n, .int .i64 a, .slice A n1 c1, .slice B n c2] 90))
  have HKc := hide (Blk.new W 90 [.int .i64 n, .int .i64 a, .slice A n1 c1, .slice B n c2])
  obtain ⟨v, hv⟩ : ∃ v, bk f y = v := ⟨_, rfl⟩
  have hvn : v < n := by rw [← hv]; exact (bk_ok hn ht hp hy).1
  obtain ⟨u, hu⟩ : ∃ u, tm f x [v, x] = u := ⟨_, rfl⟩
  have HV := hide hv
  have HU := hide hu
  have hre : coH f x y = (u : Int) := by rw [← hu]; unfold coH; rw [hv]; rfl
  rw [hre]
  clear hn hg hr ht hp hb hv hu hre
  go_enter Try.func109, Try.ntmps109
  go_wp2_with fail
  refine wp_gen fun w8 hw8 => ?_
  replace HBc : Hid (Below W.heap.size W w8) := hide (by rw [hw8]; exact HBc.out)
  replace HKc : Hid (Blk w8 W.heap.size 90 [.int .i64 n, .int .i64 a, .slice A n1 c1, .slice B n c2]) := hide (by rw [hw8]; exact HKc.out)
  clear hw8
  have k0 := HKc.out.cell 3 _ rfl
  go_region_held3 (fun w' => w'.cell? ⟨W.heap.size, 3, none⟩ = some (.slice B n c2)) (first | exact k0 | go_keep) (first | (go_at_call 110; go_must (refine calls_gen fun wc hwc => ?_; (first | have hbx := drew_below hwc | have hbx := eq_below hwc); replace HBc := hide (HBc.out.trans (hbx.mono HBc.out.size)); replace HKc := hide (HKc.out.later hbx); clear hwc hbx; refine (ginv_any _ n _ f y _ HN.out HTB.out HP.out (HR.out.later HBc.out) hy).mono ?_; rintro e wd ⟨rfl, hbd⟩; rw [HV.out]; replace HBc := hide (HBc.out.trans (hbd.mono HBc.out.size)); replace HKc := hide (HKc.out.later hbd); clear hbd; have k0 := HKc.out.cell 3 _ rfl; have k9 := fun o => (HKc.out.alloc o).cell 3 _ rfl)) | (go_at_call 102; go_must (refine calls_gen fun wc hwc => ?_; have hbx : Below wd.heap.size wd wc := (by rw [hwc]; first | exact (Below.refl _ _).alloc (Nat.le_refl _) _ | exact ((Below.refl _ _).alloc (Nat.le_refl _) _).drew); have HSx : Hid (Blk wc wd.heap.size 2 [.int .i64 v, .int .i64 x]) := hide (by rw [hwc]; first | exact Blk.new _ _ _ | exact (Blk.new _ _ _).drew); replace HBc := hide (HBc.out.trans (hbx.mono HBc.out.size)); replace HKc := hide (HKc.out.later hbx); clear hwc hbx; refine (times_any _ n _ f x _ 2 [v, x] _ HN.out HTB.out (HR.out.later HBc.out) hx rfl (by intro q hq; simp at hq; rcases hq with rfl | rfl <;> omega) HSx.out (by decide)).mono ?_; rintro e wf ⟨rfl, hbd⟩; rw [HU.out]; replace HBc := hide (HBc.out.trans (hbd.mono HBc.out.size)); replace HKc := hide (HKc.out.later hbd); clear hbd; have k0 := HKc.out.cell 3 _ rfl)))
  all_goals
    clear k0
    go_wp2_with fail
    go_ret
    exact ⟨rfl, HBc.out⟩

set_option maxRecDepth 100000 in
theorem cj_form (n : Nat) (a : Int) (A B : Option Addr) (n1 c1 c2 : Nat) (f : List (List Int)) (w : World) (hn : f.length = n) (hg : Grp f) (hr : Rd2 w B f) : FormFn 111 (.agg #[.int .i64 n, .int .i64 a, .slice A n1 c1, .slice B n c2]) n (cjH f) w := by
  have ht := hg.1.1
  have hp := hg.1.2
  have h1 : 1 ≤ n := by rw [← hn]; exact ht.1
  have h12 : n ≤ 12 := by rw [← hn]; exact ht.2.1
  intro W x y hx hy hb
  have HN := hide hn
  have HTB := hide ht
  have HP := hide hp
  have HR := hide (hr.later hb)
  have HBc := hide ((Below.refl _ W).alloc (Nat.le_refl _) (Obj.cells #[.int .i64 n, .int .i64 a, .slice A n1 c1, .slice B n c2] 90))
  have HKc := hide (Blk.new W 90 [.int .i64 n, .int .i64 a, .slice A n1 c1, .slice B n c2])
  obtain ⟨v, hv⟩ : ∃ v, bk f x = v := ⟨_, rfl⟩
  have hvn : v < n := by rw [← hv]; exact (bk_ok hn ht hp hx).1
  obtain ⟨u, hu⟩ : ∃ u, tm f x [y, v] = u := ⟨_, rfl⟩
  have HV := hide hv
  have HU := hide hu
  have hre : cjH f x y = (u : Int) := by rw [← hu]; unfold cjH; rw [hv]; rfl
  rw [hre]
  clear hn hg hr ht hp hb hv hu hre
  go_enter Try.func111, Try.ntmps111
  go_wp2_with fail
  refine wp_gen fun w8 hw8 => ?_
  replace HBc : Hid (Below W.heap.size W w8) := hide (by rw [hw8]; exact HBc.out)
  replace HKc : Hid (Blk w8 W.heap.size 90 [.int .i64 n, .int .i64 a, .slice A n1 c1, .slice B n c2]) := hide (by rw [hw8]; exact HKc.out)
  clear hw8
  have k0 := HKc.out.cell 3 _ rfl
  go_region_held3 (fun w' => w'.cell? ⟨W.heap.size, 3, none⟩ = some (.slice B n c2)) (first | exact k0 | go_keep) (first | (go_at_call 110; go_must (refine calls_gen fun wc hwc => ?_; (first | have hbx := drew_below hwc | have hbx := eq_below hwc); replace HBc := hide (HBc.out.trans (hbx.mono HBc.out.size)); replace HKc := hide (HKc.out.later hbx); clear hwc hbx; refine (ginv_any _ n _ f x _ HN.out HTB.out HP.out (HR.out.later HBc.out) hx).mono ?_; rintro e wd ⟨rfl, hbd⟩; rw [HV.out]; replace HBc := hide (HBc.out.trans (hbd.mono HBc.out.size)); replace HKc := hide (HKc.out.later hbd); clear hbd; have k0 := HKc.out.cell 3 _ rfl; have k9 := fun o => (HKc.out.alloc o).cell 3 _ rfl)) | (go_at_call 102; go_must (refine calls_gen fun wc hwc => ?_; have hbx : Below wd.heap.size wd wc := (by rw [hwc]; first | exact (Below.refl _ _).alloc (Nat.le_refl _) _ | exact ((Below.refl _ _).alloc (Nat.le_refl _) _).drew); have HSx : Hid (Blk wc wd.heap.size 2 [.int .i64 y, .int .i64 v]) := hide (by rw [hwc]; first | exact Blk.new _ _ _ | exact (Blk.new _ _ _).drew); replace HBc := hide (HBc.out.trans (hbx.mono HBc.out.size)); replace HKc := hide (HKc.out.later hbx); clear hwc hbx; refine (times_any _ n _ f x _ 2 [y, v] _ HN.out HTB.out (HR.out.later HBc.out) hx rfl (by intro q hq; simp at hq; rcases hq with rfl | rfl <;> omega) HSx.out (by decide)).mono ?_; rintro e wf ⟨rfl, hbd⟩; rw [HU.out]; replace HBc := hide (HBc.out.trans (hbd.mono HBc.out.size)); replace HKc := hide (HKc.out.later hbd); clear hbd; have k0 := HKc.out.cell 3 _ rfl)))
  all_goals
    clear k0
    go_wp2_with fail
    go_ret
    exact ⟨rfl, HBc.out⟩

set_option maxRecDepth 100000 in
theorem fromG_any (kind : Int) (F : FuncId) (H : List (List Int) → Nat → Nat → Int) (A : Option Addr) (n c : Nat) (f : List (List Int)) (zs : List (List Int)) (code : Int) (k : Nat) (w : World) (hn : f.length = n) (hb : n ≤ 1048576) (hbs : ∀ i, i < f.length → (f.getD i []).length ≤ 1048576) (hr : Rd2 w A f) (eg : ∀ args w, (callFunc F args).run Try.prog w = .ok (.enter F args) w)
    (hkd : ∀ W : World, Calls Try.prog 99 #[.int .i64 kind] W fun e w' => e = .returned (.func (.func F) #[] #[]) ∧ Below W.heap.size W w')
    (hf : ∀ W : World, Grp f → Rd2 W A f → FormFn F (.agg #[.int .i64 n, .int .i64 0, .slice none 0 0, .slice A n c]) n (H f) W) (hres : FmRes (Grp f) 1 f.length (H f) zs code) (hk : zs.length = k) :
    Calls Try.prog 78 #[.int .i64 kind, .agg #[.slice A n c]] w (fun e w' => ∃ A' c', e = .returned (.tuple #[.agg #[.slice A' k c'], .int .i64 code]) ∧ Below w.heap.size w w' ∧ Obj2 33 2 w.heap.size w'.heap.size w' A' zs) := by
  have HN := hide hn
  have HBS := hide hbs
  have HRD := hide hr
  have HKD := hide hkd
  have HF := hide hf
  have HB0 := hide (((Below.refl _ w).alloc (Nat.le_refl _) (Obj.cells #[Value.slice A n c] 48)).alloc (by simp) (Obj.cells #[.slice none 0 0] 26))
  have HK0 := hide ((Blk.new w 48 [.slice A n c]).alloc (Obj.cells #[.slice none 0 0] 26))
  have HR0 : Hid (Blk ((w.alloc (Obj.cells #[Value.slice A n c] 48)).alloc (Obj.cells #[.slice none 0 0] 26)) (w.heap.size + 1) 26 [.slice none 0 0]) := hide (by have h := Blk.new (w.alloc (Obj.cells #[Value.slice A n c] 48)) 26 [.slice none 0 0]; simpa using h)
  rcases hres with ⟨hg, rfl, rfl⟩ | ⟨hg, rfl, rfl⟩
  · have hkn : k = n := by rw [← hk, grid_length, hn]
    subst hkn
    have h1 : 1 ≤ k := by rw [← hn]; exact hg.1.1.1
    have h12 : k ≤ 12 := by rw [← hn]; exact hg.1.1.2.1
    have HG := hide hg
    rw [hn]
    clear hn hbs hr hkd hf hg hk
    go_enter Try.func78, Try.ntmps78
    have k0 := HK0.out.cell 0 _ rfl
    go_wp2_with fail
    clear k0
    refine (isGrp_any _ _ _ f true _ HN.out hb HBS.out (HRD.out.later HB0.out) ⟨fun _ => HG.out, fun _ => rfl⟩).mono ?_
    rintro e w1 ⟨rfl, hb1⟩
    have HB1 := hide (HB0.out.trans (hb1.mono HB0.out.size))
    have HK1 := hide (HK0.out.later hb1)
    have HR1 := hide (HR0.out.later hb1)
    clear hb1
    go_wp2_with fail
    refine wp_gen fun w8 hw8 => ?_
    have HBc : Hid (Below w.heap.size w w8) := hide (by rw [hw8]; exact HB1.out)
    have HKc : Hid (Blk w8 w.heap.size 48 [.slice A k c]) := hide (by rw [hw8]; exact HK1.out)
    have HRc : Hid (Blk w8 (w.heap.size + 1) 26 [.slice none 0 0]) := hide (by rw [hw8]; exact HR1.out)
    clear hw8 HB1 HK1 HR1
    have k0 := HKc.out.cell 0 _ rfl
    go_region_held3 (fun w' => w'.cell? ⟨w.heap.size, 0, none⟩ = some (.slice A k c)) (first | exact k0 | go_keep) (first | (go_at_call 91; go_must (refine calls_gen fun wc hwc => ?_; (first | have hbx := drew_below hwc | have hbx := eq_below hwc); replace HBc := hide (HBc.out.trans (hbx.mono HBc.out.size)); replace HKc := hide (HKc.out.later hbx); replace HRc := hide (HRc.out.later hbx); clear hwc hbx; refine (gsize_any _ k _ _ (by omega)).mono ?_; rintro e wd ⟨rfl, hbd⟩; replace HBc := hide (HBc.out.trans (hbd.mono HBc.out.size)); replace HKc := hide (HKc.out.later hbd); replace HRc := hide (HRc.out.later hbd); clear hbd; have k0 := HKc.out.cell 0 _ rfl)) | (go_at_call 90; go_must (refine calls_gen fun wc hwc => ?_; (first | have hbx := drew_below hwc | have hbx := eq_below hwc); replace HBc := hide (HBc.out.trans (hbx.mono HBc.out.size)); replace HKc := hide (HKc.out.later hbx); replace HRc := hide (HRc.out.later hbx); clear hwc hbx; have HRP := HRc; refine (byFormula_any kind F k 0 none A 0 0 k c (H f) _ eg h1 h12 HKD.out (HF.out _ HG.out (HRD.out.later HBc.out))).mono ?_; rintro e wd ⟨A3, c3, rfl, hbd, ho3⟩; have HO := hide ho3; replace HBc := hide (HBc.out.trans (hbd.mono HBc.out.size)); replace HKc := hide (HKc.out.later hbd); replace HRc := hide (HRc.out.later hbd); clear hbd ho3; have k0 := HKc.out.cell 0 _ rfl; have k2 := HRc.out.cell 0 _ rfl; have k3 := HRc.out.frozen 0)))
    all_goals
      clear k0
      have hlow : w.heap.size + 1 < wc.heap.size := HRP.out.lt
      go_wp2_with fail
      refine bp_gen fun wf hwf => ?_
      obtain ⟨q0, hbf, hof⟩ := kend hwf HRc.out (by omega) HBc.out HO.out (by omega) hlow (Nat.le_refl _)
      clear hwf k2 k3
      exact bodyPost_ret (v := .tuple #[.agg #[.slice A3 k c3], .int .i64 0]) (by simp [results, Try.results78, go_sem, q0]) rfl ⟨_, _, rfl, hbf, hof⟩
  · have HG := hide hg
    have hk0 : k = 0 := by rw [← hk]; rfl
    subst hk0
    clear hn hbs hr hkd hf hg hk
    go_enter Try.func78, Try.ntmps78
    have k0 := HK0.out.cell 0 _ rfl
    go_wp2_with fail
    clear k0
    refine (isGrp_any _ _ _ f false _ HN.out hb HBS.out (HRD.out.later HB0.out) ⟨fun h => (by cases h), fun h => absurd h HG.out⟩).mono ?_
    rintro e w1 ⟨rfl, hb1⟩
    have HB1 := hide (HB0.out.trans (hb1.mono HB0.out.size))
    have HK1 := hide (HK0.out.later hb1)
    have HR1 := hide (HR0.out.later hb1)
    clear hb1
    have k2 := HR1.out.cell 0 _ rfl
    have k3 := HR1.out.frozen 0
    go_wp2_with fail
    refine bp_gen fun wf hwf => ?_
    have HRF : Blk wf (w.heap.size + 1) 26 [.slice none 0 0] := by rw [hwf]; first | exact HR1.out | exact HR1.out.set 0 _
    have hbf : Below w.heap.size w wf := by rw [hwf]; first | exact HB1.out | exact HB1.out.setCell (p := ⟨w.heap.size + 1, 0, none⟩) (Nat.le_succ _) _
    have q0 := HRF.cell 0 _ rfl
    clear hwf k2 k3
    exact bodyPost_ret (v := .tuple #[.agg #[.slice none 0 0], .int .i64 1]) (by simp [results, Try.results78, go_sem, q0]) rfl ⟨_, _, rfl, hbf, .inl ⟨rfl, rfl⟩⟩

set_option maxRecDepth 100000 in
theorem nwCoI (A : Option Addr) (n c : Nat) (f : List (List Int)) (zs : List (List Int)) (code : Int) (k : Nat) (w : World) (hn : f.length = n) (hb : n ≤ 1048576) (hbs : ∀ i, i < f.length → (f.getD i []).length ≤ 1048576) (hr : Rd2 w A f) (hres : CoRes f zs code) (hk : zs.length = k) :
    Calls Try.prog 38 #[.agg #[.slice A n c]] w (fun e w' => ∃ A' c', e = .returned (.tuple #[.agg #[.slice A' k c'], .int .i64 code]) ∧ Below w.heap.size w w' ∧ Obj2 33 2 w.heap.size w'.heap.size w' A' zs) := by
  have HN := hide hn
  have HBS := hide hbs
  have HRD := hide hr
  have HRES := hide hres
  have HKZ := hide hk
  have HB0 := hide (((Below.refl _ w).alloc (Nat.le_refl _) (Obj.cells #[Value.slice A n c] 48)).alloc (by simp) (Obj.cells #[.slice none 0 0] 26))
  have HK0 := hide ((Blk.new w 48 [.slice A n c]).alloc (Obj.cells #[.slice none 0 0] 26))
  have HR0 : Hid (Blk ((w.alloc (Obj.cells #[Value.slice A n c] 48)).alloc (Obj.cells #[.slice none 0 0] 26)) (w.heap.size + 1) 26 [.slice none 0 0]) := hide (by have h := Blk.new (w.alloc (Obj.cells #[Value.slice A n c] 48)) 26 [.slice none 0 0]; simpa using h)
  clear hn hbs hr hres hk
  go_enter Try.func38, Try.ntmps38
  have k0 := HK0.out.cell 0 _ rfl
  go_wp2_with fail
  clear k0
  refine calls_gen fun wp hwp => ?_
  replace HB0 : Hid (Below w.heap.size w wp) := hide (by rw [hwp]; exact HB0.out)
  replace HK0 : Hid (Blk wp w.heap.size 48 [.slice A n c]) := hide (by rw [hwp]; exact HK0.out)
  replace HR0 : Hid (Blk wp (w.heap.size + 1) 26 [.slice none 0 0]) := hide (by rw [hwp]; exact HR0.out)
  clear hwp
  have HRP := HR0
  refine (fromG_any 4 109 coH _ n c f zs code k _ HN.out hb HBS.out (HRD.out.later HB0.out) (enters_of Try.func109 (by kernel_rfl) rfl) (fun W => formulaOf4_any W) (fun W hg hr => co_form n 0 none A 0 0 c f W HN.out hg hr) HRES.out HKZ.out).mono ?_
  rintro e w1 ⟨A3, c3, rfl, hb1, ho3⟩
  have HO := hide ho3
  clear ho3
  have HB1 := hide (HB0.out.trans (hb1.mono HB0.out.size))
  have HK1 := hide (HK0.out.later hb1)
  have HR1 := hide (HR0.out.later hb1)
  clear hb1
  have hlow : w.heap.size + 1 < wp.heap.size := HRP.out.lt
  have k2 := HR1.out.cell 0 _ rfl
  have k3 := HR1.out.frozen 0
  go_wp2_with fail
  refine bp_gen fun wf hwf => ?_
  obtain ⟨q0, hbf, hof⟩ := kend hwf HR1.out (by omega) HB1.out HO.out (by omega) hlow (Nat.le_refl _)
  clear hwf k2 k3
  exact bodyPost_ret (v := .tuple #[.agg #[.slice A3 k c3], .int .i64 code]) (by simp [results, Try.results38, go_sem, q0]) rfl ⟨_, _, rfl, hbf, hof⟩

set_option maxRecDepth 100000 in
theorem nwCjI (A : Option Addr) (n c : Nat) (f : List (List Int)) (zs : List (List Int)) (code : Int) (k : Nat) (w : World) (hn : f.length = n) (hb : n ≤ 1048576) (hbs : ∀ i, i < f.length → (f.getD i []).length ≤ 1048576) (hr : Rd2 w A f) (hres : CjRes f zs code) (hk : zs.length = k) :
    Calls Try.prog 42 #[.agg #[.slice A n c]] w (fun e w' => ∃ A' c', e = .returned (.tuple #[.agg #[.slice A' k c'], .int .i64 code]) ∧ Below w.heap.size w w' ∧ Obj2 33 2 w.heap.size w'.heap.size w' A' zs) := by
  have HN := hide hn
  have HBS := hide hbs
  have HRD := hide hr
  have HRES := hide hres
  have HKZ := hide hk
  have HB0 := hide (((Below.refl _ w).alloc (Nat.le_refl _) (Obj.cells #[Value.slice A n c] 48)).alloc (by simp) (Obj.cells #[.slice none 0 0] 26))
  have HK0 := hide ((Blk.new w 48 [.slice A n c]).alloc (Obj.cells #[.slice none 0 0] 26))
  have HR0 : Hid (Blk ((w.alloc (Obj.cells #[Value.slice A n c] 48)).alloc (Obj.cells #[.slice none 0 0] 26)) (w.heap.size + 1) 26 [.slice none 0 0]) := hide (by have h := Blk.new (w.alloc (Obj.cells #[Value.slice A n c] 48)) 26 [.slice none 0 0]; simpa using h)
  clear hn hbs hr hres hk
  go_enter Try.func42, Try.ntmps42
  have k0 := HK0.out.cell 0 _ rfl
  go_wp2_with fail
  clear k0
  refine calls_gen fun wp hwp => ?_
  replace HB0 : Hid (Below w.heap.size w wp) := hide (by rw [hwp]; exact HB0.out)
  replace HK0 : Hid (Blk wp w.heap.size 48 [.slice A n c]) := hide (by rw [hwp]; exact HK0.out)
  replace HR0 : Hid (Blk wp (w.heap.size + 1) 26 [.slice none 0 0]) := hide (by rw [hwp]; exact HR0.out)
  clear hwp
  have HRP := HR0
  refine (fromG_any 5 111 cjH _ n c f zs code k _ HN.out hb HBS.out (HRD.out.later HB0.out) (enters_of Try.func111 (by kernel_rfl) rfl) (fun W => formulaOf5_any W) (fun W hg hr => cj_form n 0 none A 0 0 c f W HN.out hg hr) HRES.out HKZ.out).mono ?_
  rintro e w1 ⟨A3, c3, rfl, hb1, ho3⟩
  have HO := hide ho3
  clear ho3
  have HB1 := hide (HB0.out.trans (hb1.mono HB0.out.size))
  have HK1 := hide (HK0.out.later hb1)
  have HR1 := hide (HR0.out.later hb1)
  clear hb1
  have hlow : w.heap.size + 1 < wp.heap.size := HRP.out.lt
  have k2 := HR1.out.cell 0 _ rfl
  have k3 := HR1.out.frozen 0
  go_wp2_with fail
  refine bp_gen fun wf hwf => ?_
  obtain ⟨q0, hbf, hof⟩ := kend hwf HR1.out (by omega) HB1.out HO.out (by omega) hlow (Nat.le_refl _)
  clear hwf k2 k3
  exact bodyPost_ret (v := .tuple #[.agg #[.slice A3 k c3], .int .i64 code]) (by simp [results, Try.results42, go_sem, q0]) rfl ⟨_, _, rfl, hbf, hof⟩

end Go.Proofs.Ytkflmhmbkilmpac
namespace Go.Proofs.Ytkflmhmbkilmpac
open Go Go.RowKit
set_option maxHeartbeats 400000

theorem in_any (x lo hi : Int) (r : Bool) (w : World) (hr : r = true ↔ lo ≤ x ∧ x ≤ hi) :
    Calls Try.prog 86 #[.int .i64 x, .int .i64 lo, .int .i64 hi] w fun e w' => e = .returned (.bool r) ∧ Quiet w w' := by
  have HR := hide hr
  clear hr
  by_cases h1 : lo ≤ x
  · by_cases h2 : x ≤ hi
    · have : r = true := HR.out.2 ⟨h1, h2⟩
      subst this
      go_enter Try.func86, Try.ntmps86
      go_wp2_with fail
      go_ret
      exact ⟨rfl, Quiet.refl _⟩
    · have : r = false := by
        cases r
        · rfl
        · exact absurd (HR.out.1 rfl).2 h2
      subst this
      have h2' : decide (x ≤ hi) = false := by simpa using h2
      clear h2
      go_enter Try.func86, Try.ntmps86
      go_wp2_with fail
      go_ret
      exact ⟨rfl, Quiet.refl _⟩
  · have : r = false := by
      cases r
      · rfl
      · exact absurd (HR.out.1 rfl).1 h1
    subst this
    have h1' : decide (lo ≤ x) = false := by simpa using h1
    clear h1
    go_enter Try.func86, Try.ntmps86
    go_wp2_with fail
    go_ret
    exact ⟨rfl, Quiet.refl _⟩
end Go.Proofs.Ytkflmhmbkilmpac
namespace Go.Proofs.Ytkflmhmbkilmpac
open Go Go.RowKit
set_option maxHeartbeats 400000

theorem l01Perm_any (A : Option Addr) (n c : Nat) (xs : List Int) (r : Bool) (w : World) (hn : xs.length = n) (hb : n ≤ 9223372036854775807) (hr : Rd w A xs) (hrr : r = true ↔ 1 ≤ n ∧ n ≤ 12 ∧ ∀ x : Int, 0 ≤ x → x < (n : Int) → x ∈ xs) :
    Calls Try.prog 80 #[.slice A n c] w fun e w' => e = .returned (.bool r) ∧ Quiet w w' := by
  have HN := hide hn
  have HR := hide hrr
  clear hn hrr
  by_cases h12 : 1 ≤ n ∧ n ≤ 12
  · obtain ⟨h1, h2⟩ := h12
    go_enter Try.func80, Try.ntmps80
    go_wp2_with (go_at_call 86; refine (in_any _ _ _ true _ (by simp; omega)).mono ?_; rintro e w1 ⟨rfl, hq1⟩)
    have HQ1 := hide hq1
    clear hq1
    go_loopw [4] (fun i wr => ∃ k : Nat, k ≤ n ∧ i = .int .i64 k ∧ Quiet w wr ∧ ∀ x : Int, 0 ≤ x → x < (k : Int) → x ∈ xs) (fun i _ => n - (intOf i).toNat)
    case atStart => exact ⟨0, Nat.zero_le _, rfl, HQ1.out, fun x h0 h1 => by omega⟩
    case round =>
      obtain ⟨k, hk, rfl, hq, hall⟩ := hrel
      have HQ := hide hq
      have HALL := hide hall
      clear hq hall
      by_cases hlt : k < n
      · have hltz : (k : Int) < n := by omega
        by_cases hm : (k : Int) ∈ xs
        · have HM := hide hm
          clear hm
          go_wp2_with (go_at_call 92; refine (has_any _ _ _ xs _ true _ HN.out hb (HQ.out.rd hr) (by simp [HM.out])).mono ?_; rintro e w2 ⟨rfl, hq2⟩)
          have HQ2 := hide hq2
          clear hq2
          go_roundw
          case rel =>
            refine ⟨k + 1, by omega, by go_num, HQ.out.trans HQ2.out, fun x h0 h1 => ?_⟩
            by_cases e : x = (k : Int)
            · subst e; exact HM.out
            · exact HALL.out x h0 (by omega)
          case measure => simp [intOf]; omega
        · have HM := hide hm
          clear hm
          go_wp2_with (go_at_call 92; refine (has_any _ _ _ xs _ false _ HN.out hb (HQ.out.rd hr) (by simp [HM.out])).mono ?_; rintro e w2 ⟨rfl, hq2⟩)
          go_ret
          have : r = false := by
            cases r
            · rfl
            · exact absurd ((HR.out.1 rfl).2.2 k (by omega) (by omega)) HM.out
          exact ⟨by subst this; rfl, HQ.out.trans hq2⟩
      · have hkn : k = n := by omega
        subst hkn
        go_wp2_with fail
        go_ret
        have : r = true := HR.out.2 ⟨h1, h2, HALL.out⟩
        exact ⟨by subst this; rfl, HQ.out⟩
  · have : r = false := by
      cases r
      · rfl
      · have := HR.out.1 rfl
        omega
    subst this
    go_enter Try.func80, Try.ntmps80
    go_wp2_with (go_at_call 86; refine (in_any _ _ _ false _ (by simp; omega)).mono ?_; rintro e w1 ⟨rfl, hq1⟩)
    go_ret
    exact ⟨rfl, hq1⟩

theorem prmS_any (A : Option Addr) (n c : Nat) (xs : List Int) (r : Bool) (w : World) (hn : xs.length = n) (hb : n ≤ 9223372036854775807) (hr : Rd w A xs) (hrr : r = true ↔ Prm xs) :
    Calls Try.prog 80 #[.slice A n c] w fun e w' => e = .returned (.bool r) ∧ Quiet w w' :=
  l01Perm_any A n c xs r w hn hb hr (by rw [hrr, prm_iff, hn])
theorem prmS_below (A : Option Addr) (n c : Nat) (xs : List Int) (r : Bool) (w : World) (hn : xs.length = n) (hb : n ≤ 9223372036854775807) (hr : Rd w A xs) (hrr : r = true ↔ Prm xs) :
    Calls Try.prog 80 #[.slice A n c] w fun e w' => e = .returned (.bool r) ∧ Below w.heap.size w w' :=
  (prmS_any A n c xs r w hn hb hr hrr).mono fun _ _ ⟨he, hq⟩ => ⟨he, hq.below _⟩
end Go.Proofs.Ytkflmhmbkilmpac
namespace Go.Proofs.Ytkflmhmbkilmpac
open Go Go.RowKit
set_option maxHeartbeats 400000

theorem l01Table_any (A : Option Addr) (n c : Nat) (rows : List (List Int)) (r : Bool) (w : World) (hn : rows.length = n) (hb : n ≤ 9223372036854775807) (hbs : ∀ i, i < rows.length → (rows.getD i []).length ≤ 9223372036854775807) (hr : Rd2 w A rows) (hrr : r = true ↔ Tbl rows) :
    Calls Try.prog 65 #[.slice A n c] w fun e w' => e = .returned (.bool r) ∧ Quiet w w' := by
  have HN := hide hn
  have HR := hide hrr
  clear hn hrr
  by_cases h12 : 1 ≤ n ∧ n ≤ 12
  · obtain ⟨h1, h2⟩ := h12
    have hno : ¬ Tbl rows → r = false := fun h => by
      cases r
      · rfl
      · exact absurd (HR.out.1 rfl) h
    have HNO := hide hno
    clear hno
    go_enter Try.func65, Try.ntmps65
    go_wp2_with (go_at_call 86; refine (in_any _ _ _ true _ (by simp; omega)).mono ?_; rintro e w1 ⟨rfl, hq1⟩)
    have HQ1 := hide hq1
    clear hq1
    go_loopw [4] (fun i wr => ∃ k : Nat, k ≤ n ∧ i = .int .i64 k ∧ Quiet w wr ∧ ∀ i, i < k → RowOk n (rows.getD i [])) (fun i _ => n - (intOf i).toNat)
    case atStart => exact ⟨0, Nat.zero_le _, rfl, HQ1.out, fun i hi => absurd hi (Nat.not_lt_zero _)⟩
    case round =>
      obtain ⟨k, hk, rfl, hq, hall⟩ := hrel
      have HQ := hide hq
      have HALL := hide hall
      clear hq hall
      by_cases hlt : k < n
      · obtain ⟨b, o, rfl, _, hc⟩ := HQ.out.rd2 hr (by have := HN.out; omega)
        obtain ⟨Ak, ck, hcell, hrd⟩ := hc k (by have := HN.out; omega)
        have hbk := hbs k (by have := HN.out; omega)
        obtain ⟨x, hx⟩ : ∃ x, x = rows.getD k [] := ⟨_, rfl⟩
        obtain ⟨m, hm⟩ : ∃ m, x.length = m := ⟨_, rfl⟩
        rw [← hx] at hcell hrd hbk
        rw [hm] at hcell hbk
        have HX := hide hx
        have HM := hide hm
        clear hx hm hc hbs
        have hltz : (k : Int) < n := by omega
        by_cases hmn : m = n
        · subst hmn
          go_wp2_with fail
          obtain ⟨wo, rfl⟩ : ∃ wo : World, wo = wr := ⟨_, rfl⟩
          go_loopw [5] (fun i wi => ∃ j : Nat, j ≤ m ∧ i = .int .i64 j ∧ Quiet wo wi ∧ ∀ i, i < j → 0 ≤ x.getD i 0 ∧ x.getD i 0 < (m : Int)) (fun i _ => m - (intOf i).toNat)
          case atStart => exact ⟨0, Nat.zero_le _, rfl, Quiet.refl _, fun i hi => absurd hi (Nat.not_lt_zero _)⟩
          case round =>
            obtain ⟨j, hj, rfl, hqi, hin⟩ := hrel
            have HIN := hide hin
            have HQI := hide hqi
            clear hin
            by_cases hjm : j < m
            · obtain ⟨b2, o2, rfl, _, hc2⟩ := hqi.rd hrd (by have := HM.out; omega)
              have hcell2 := (hqi.cell ⟨b, o + k, none⟩).trans hcell
              have hv := hc2 j (by have := HM.out; omega)
              obtain ⟨y, hy⟩ : ∃ y, y = x.getD j 0 := ⟨_, rfl⟩
              rw [← hy] at hv
              have HY := hide hy
              clear hy hc2 hqi hcell
              have hjz : (j : Int) < m := by omega
              by_cases hyr : 0 ≤ y ∧ y ≤ (m : Int) - 1
              · have HYR := hide hyr
                clear hyr
                go_wp2_with (go_at_call 86; refine (in_any _ _ _ true _ (by simp [HYR.out.1, HYR.out.2])).mono ?_; rintro e w1 ⟨rfl, hq1⟩)
                go_roundw
                case rel =>
                  refine ⟨j + 1, by omega, by go_num, HQI.out.trans hq1, fun i hi => ?_⟩
                  by_cases e : i = j
                  · subst e; rw [← HY.out]; have := HYR.out; exact ⟨this.1, by omega⟩
                  · exact HIN.out i (by omega)
                case measure => simp [intOf]; omega
              · have HYR := hide hyr
                clear hyr
                go_wp2_with (go_at_call 86; refine (in_any _ _ _ false _ (by simpa using HYR.out)).mono ?_; rintro e w1 ⟨rfl, hq1⟩)
                go_ret
                have : r = false := HNO.out fun h => HYR.out (by
                  have h := (h.2.2 k (by have := HN.out; omega)).2 j (by have := HN.out; omega)
                  rw [← HX.out, ← HY.out, HN.out] at h
                  exact ⟨h.1, by omega⟩)
                exact ⟨by subst this; rfl, HQ.out.trans (HQI.out.trans hq1)⟩
            · have hjm' : j = m := by omega
              subst hjm'
              go_wp2_with fail
              go_roundw
              case rel => 
                refine ⟨k + 1, by omega, by go_num, HQ.out.trans HQI.out, fun i hi => ?_⟩
                by_cases e : i = k
                · subst e; rw [← HX.out]; exact ⟨HM.out, HIN.out⟩
                · exact HALL.out i (by omega)
              case measure => simp [intOf]; omega
        · have hne : ((m : Int) != (n : Int)) = true := by simp; omega
          have HMN := hide hmn
          clear hmn
          go_wp2_with fail
          go_ret
          have : r = false := HNO.out fun h => HMN.out (by
            have h := (h.2.2 k (by have := HN.out; omega)).1
            rw [← HX.out, HM.out, HN.out] at h
            exact h)
          exact ⟨by subst this; rfl, by first | exact HQ.out | exact HQ.out.drewN _⟩
      · have hkn : k = n := by omega
        subst hkn
        go_wp2_with fail
        go_ret
        have : r = true := HR.out.2 ⟨by have := HN.out; omega, by have := HN.out; omega, fun i hi => by
          have h := HALL.out i (by have := HN.out; omega)
          rw [HN.out]
          exact h⟩
        exact ⟨by subst this; rfl, HQ.out⟩
  · have : r = false := by
      cases r
      · rfl
      · have := HR.out.1 rfl
        have h := HN.out
        unfold Tbl at this
        omega
    subst this
    go_enter Try.func65, Try.ntmps65
    go_wp2_with (go_at_call 86; refine (in_any _ _ _ false _ (by simp; omega)).mono ?_; rintro e w1 ⟨rfl, hq1⟩)
    go_ret
    exact ⟨rfl, hq1⟩

end Go.Proofs.Ytkflmhmbkilmpac
namespace Go.Proofs.Ytkflmhmbkilmpac
open Go Go.RowKit
set_option maxHeartbeats 4000000

theorem gq_below {P : Program} {F : FuncId} {args : Array Value} {w : World} {v : Ending} (h : Calls P F args w fun e w' => e = v ∧ Quiet w w') : Calls P F args w fun e w' => e = v ∧ Below w.heap.size w w' := h.mono fun _ _ ⟨he, hq⟩ => ⟨he, hq.below _⟩
def GrX (f : List (List Int)) (n x : Nat) : Prop := ap f 0 x = x ∧ ap f x 0 = x ∧ Prm (f.getD x []) ∧ ∀ y, y < n → ∀ z, z < n → As3 f x y z
theorem grpX_all {f : List (List Int)} {n : Nat} (hn : f.length = n) (ht : Tbl f) (h : ∀ x, x < n → GrX f n x) : Grp f := by
  subst hn
  exact ⟨⟨ht, fun x hx => (h x hx).2.2.1⟩, fun x hx => ⟨(h x hx).1, (h x hx).2.1⟩, fun x y z hx hy hz => (h x hx).2.2.2 y hy z hz⟩
theorem grpX_of {f : List (List Int)} {n : Nat} (hn : f.length = n) (h : Grp f) (x : Nat) (hx : x < n) : GrX f n x := by
  subst hn
  exact ⟨(h.2.1 x hx).1, (h.2.1 x hx).2, h.1.2 x hx, fun y hy z hz => h.2.2 x y z hx hy hz⟩

set_option maxRecDepth 100000 in
theorem isGrpS_any (A : Option Addr) (n c : Nat) (f : List (List Int)) (r : Bool) (w : World) (hn : f.length = n) (hb : n ≤ 1048576) (hbs : ∀ i, i < f.length → (f.getD i []).length ≤ 1048576) (hr : Rd2 w A f) (hrc : r = true ↔ Grp f) :
    Calls Try.prog 76 #[.slice A n c] w fun e w' => e = .returned (.bool r) ∧ Quiet w w' := by
  have HN := hide hn
  have HBS := hide hbs
  have HRD := hide hr
  have HRC := hide hrc
  by_cases ht : Tbl f
  · have HTB := hide ht
    have h1 : 1 ≤ n := by rw [← hn]; exact ht.1
    have h12 : n ≤ 12 := by rw [← hn]; exact ht.2.1
    obtain ⟨b, o, hA, hb, hc⟩ := ht.cells hr hn
    have HRW : Hid (∀ x, x < n → ∀ B c, w.cell? ⟨b, o + x, none⟩ = some (.slice B n c) → Rd w B (f.getD x [])) := hide (by
      obtain ⟨b', o', hA', _, hc'⟩ := rd_rows ht hr hn
      rw [hA] at hA'
      cases hA'
      intro x hx B c hB
      obtain ⟨B', c', h3, h4⟩ := hc' x hx
      rw [hB] at h3
      cases h3
      exact h4)
    subst hA
    have HC := hide hc
    clear hn hbs hr hrc ht hc
    go_enter Try.func76, Try.ntmps76
    go_wp2_with fail
    refine (l01Table_any _ _ _ f true _ HN.out (by omega) (fun i hi => by have := HBS.out i hi; omega) HRD.out (by simp [HTB.out])).mono ?_
    rintro e w1 ⟨rfl, hq1⟩
    have HQ1 := hide hq1
    clear hq1
    go_wp2_with fail
    go_loopw [3] (fun i wr => ∃ x : Nat, x ≤ n ∧ i = .int .i64 x ∧ Quiet w wr ∧ ∀ i, i < x → GrX f n i) (fun i _ => n - (intOf i).toNat)
    case atStart => exact ⟨0, Nat.zero_le _, rfl, HQ1.out, fun i hi => absurd hi (Nat.not_lt_zero _)⟩
    case round =>
      obtain ⟨x, hx, rfl, hq, hall⟩ := hrel
      have HQ := hide hq
      have HALL := hide hall
      clear hq hall
      by_cases hlt : x < n
      · have hxz : (x : Int) < n := by omega
        obtain ⟨bx, ox, cx, r1, r2, r3⟩ := HC.out x hlt
        obtain ⟨b0, o0, c0, s1, s2, s3⟩ := HC.out 0 h1
        have e1 := s3 x hlt
        have e2 := r3 0 h1
        have HPX : Hid (Rd w (some ⟨bx, ox, none⟩) (f.getD x []) ∧ (f.getD x []).length = n) := hide ⟨HRW.out x hlt _ _ r1, HTB.out.row_len HN.out hlt⟩
        obtain ⟨a, ha⟩ : ∃ a, ap f 0 x = a := ⟨_, rfl⟩
        obtain ⟨a', ha'⟩ : ∃ a, ap f x 0 = a := ⟨_, rfl⟩
        rw [ha] at e1
        rw [ha'] at e2
        have HA := hide ha
        have HA' := hide ha'
        have hbl := HQ.out.below w.heap.size
        replace r1 := (hbl.cell (p := ⟨b, o + x, none⟩) hb).trans r1
        replace s1 := (hbl.cell (p := ⟨b, o + 0, none⟩) hb).trans s1
        replace e1 := (hbl.cell (p := ⟨b0, o0 + x, none⟩) s2).trans e1
        replace e2 := (hbl.cell (p := ⟨bx, ox + 0, none⟩) r2).trans e2
        rw [Nat.add_zero] at s1 e2
        clear hbl ha ha' r3 s3
        by_cases c1 : a = x
        · have HC1 := hide c1
          subst c1
          by_cases c2 : a' = a
          · have HC2 := hide c2
            subst c2
            by_cases c3 : Prm (f.getD a' [])
            · have HC3 := hide c3
              clear c3
              go_wp2_with fail
              refine (prmS_any _ n _ (f.getD a' []) true _ HPX.out.2 (by omega) (HQ.out.rd HPX.out.1) ⟨fun _ => HC3.out, fun _ => rfl⟩).mono ?_
              rintro e w2 ⟨rfl, hq2⟩
              have HQ2 := hide (HQ.out.trans hq2)
              clear hq2 r1 s1 e1 e2
              obtain ⟨x, hxe⟩ : ∃ x, a' = x := ⟨_, rfl⟩
              subst hxe
              go_wp2_with fail
              go_loopw [4] (fun i wi => ∃ y : Nat, y ≤ n ∧ i = .int .i64 y ∧ Quiet w wi ∧ ∀ y', y' < y → ∀ z, z < n → As3 f a' y' z) (fun i _ => n - (intOf i).toNat)
              case atStart => exact ⟨0, Nat.zero_le _, rfl, HQ2.out, fun i hi => absurd hi (Nat.not_lt_zero _)⟩
              case round =>
                obtain ⟨y, hy, rfl, hq, hall⟩ := hrel
                have HQI := hide hq
                have HALLI := hide hall
                clear hq hall
                by_cases hlty : y < n
                · have hyz : (y : Int) < n := by omega
                  go_wp2_with fail
                  go_loopw [5] (fun i wi => ∃ z : Nat, z ≤ n ∧ i = .int .i64 z ∧ Quiet w wi ∧ ∀ z', z' < z → As3 f a' y z') (fun i _ => n - (intOf i).toNat)
                  case atStart => exact ⟨0, Nat.zero_le _, rfl, HQI.out, fun i hi => absurd hi (Nat.not_lt_zero _)⟩
                  case round =>
                    obtain ⟨z, hzn, rfl, hq, hallj⟩ := hrel
                    have HQJ := hide hq
                    have HALLJ := hide hallj
                    clear hq hallj
                    by_cases hltz : z < n
                    · have hzz : (z : Int) < n := by omega
                      have hq1 := HTB.out.ap_lt HN.out hlt hlty
                      have hq2 := HTB.out.ap_lt HN.out hlty hltz
                      obtain ⟨q1, h_1⟩ : ∃ u, ap f a' y = u := ⟨_, rfl⟩
                      obtain ⟨q2, h_2⟩ : ∃ u, ap f y z = u := ⟨_, rfl⟩
                      have hat : As3 f a' y z ↔ ap f q1 z = ap f a' q2 := by unfold As3; rw [h_1, h_2]
                      rw [h_1] at hq1
                      rw [h_2] at hq2
                      obtain ⟨q3, h_3⟩ : ∃ u, ap f q1 z = u := ⟨_, rfl⟩
                      obtain ⟨q4, h_4⟩ : ∃ u, ap f a' q2 = u := ⟨_, rfl⟩
                      rw [h_3, h_4] at hat
                      have HAT := hide hat
                      obtain ⟨bx, ox, cx, r1, r2, r3⟩ := HC.out a' hlt
                      obtain ⟨by', oy, cy, s1, s2, s3⟩ := HC.out y hlty
                      obtain ⟨bq, oq, cq, t1, t2, t3⟩ := HC.out q1 hq1
                      have e1 := r3 y hlty
                      rw [h_1] at e1
                      have e2 := s3 z hltz
                      rw [h_2] at e2
                      have e3 := t3 z hltz
                      rw [h_3] at e3
                      have e4 := r3 q2 hq2
                      rw [h_4] at e4
                      have z1 : (q1 : Int) < n := by omega
                      have z2 : (q2 : Int) < n := by omega
                      have hbl := HQJ.out.below w.heap.size
                      replace r1 := (hbl.cell (p := ⟨b, o + a', none⟩) hb).trans r1
                      replace s1 := (hbl.cell (p := ⟨b, o + y, none⟩) hb).trans s1
                      replace t1 := (hbl.cell (p := ⟨b, o + q1, none⟩) hb).trans t1
                      replace e1 := (hbl.cell (p := ⟨bx, ox + y, none⟩) r2).trans e1
                      replace e2 := (hbl.cell (p := ⟨by', oy + z, none⟩) s2).trans e2
                      replace e3 := (hbl.cell (p := ⟨bq, oq + z, none⟩) t2).trans e3
                      replace e4 := (hbl.cell (p := ⟨bx, ox + q2, none⟩) r2).trans e4
                      clear hbl h_1 h_2 h_3 h_4 hat r3 s3 t3
                      by_cases hcs : q3 = q4
                      · have HGOOD := hide (HAT.out.2 hcs)
                        subst hcs
                        go_wp2_with fail
                        go_quiet (fail)
                        go_wp2_with fail
                        go_roundw
                        case rel => exact ⟨z + 1, by omega, by go_num, HQJ.out.drewN _, fun i hi => by
                          by_cases e : i = z
                          · rw [e]; exact HGOOD.out
                          · exact HALLJ.out i (by omega)⟩
                        case measure => simp [intOf]; omega
                      · have hcz : ¬ (q3 : Int) = q4 := by omega
                        have HBAD := hide (fun h => hcs (HAT.out.1 h))
                        have hrf : r = false := by
                          cases r
                          · rfl
                          · exact absurd (HRC.out.1 rfl) (fun h => HBAD.out (((grpX_of HN.out h a' hlt).2.2.2) y hlty z hltz))
                        subst hrf
                        go_wp2_with fail
                        go_quiet (fail)
                        go_wp2_with fail
                        go_ret
                        exact ⟨rfl, HQJ.out.drewN _⟩
                    · have hzn' : z = n := by omega
                      subst hzn'
                      go_wp2_with fail
                      go_roundw
                      case rel => exact ⟨y + 1, by omega, by go_num, HQJ.out, fun i hi => by
                        by_cases e : i = y
                        · rw [e]; exact HALLJ.out
                        · exact HALLI.out i (by omega)⟩
                      case measure => simp [intOf]; omega
                · have hyn' : y = n := by omega
                  subst hyn'
                  go_wp2_with fail
                  go_roundw
                  case rel => exact ⟨a' + 1, by omega, by go_num, HQI.out, fun i hi => by
                    by_cases e : i = a'
                    · rw [e]; exact ⟨HA.out, HA'.out, HC3.out, HALLI.out⟩
                    · exact HALL.out i (by omega)⟩
                  case measure => simp [intOf]; omega
            · have HC3 := hide c3
              clear c3
              have hrf : r = false := by
                cases r
                · rfl
                · exact absurd (HRC.out.1 rfl) (fun h => HC3.out (grpX_of HN.out h a' hlt).2.2.1)
              subst hrf
              go_wp2_with fail
              refine (prmS_any _ n _ (f.getD a' []) false _ HPX.out.2 (by omega) (HQ.out.rd HPX.out.1) ⟨fun h => (by cases h), fun h => absurd h HC3.out⟩).mono ?_
              rintro e w2 ⟨rfl, hq2⟩
              have HQ2 := hide (HQ.out.trans hq2)
              clear hq2 r1 s1 e1 e2
              go_wp2_with fail
              go_ret
              exact ⟨rfl, HQ2.out⟩
          · have HC2 := hide c2
            have hcz : ¬ (a' : Int) = (a : Int) := by omega
            have hrf : r = false := by
              cases r
              · rfl
              · exact absurd (HRC.out.1 rfl) (fun h => HC2.out (HA'.out.symm.trans (grpX_of HN.out h a hlt).2.1))
            subst hrf
            go_wp2_with fail
            go_ret
            exact ⟨rfl, HQ.out⟩
        · have HC1 := hide c1
          have hcz : ¬ (a : Int) = (x : Int) := by omega
          have hrf : r = false := by
            cases r
            · rfl
            · exact absurd (HRC.out.1 rfl) (fun h => HC1.out (HA.out.symm.trans (grpX_of HN.out h x hlt).1))
          subst hrf
          go_wp2_with fail
          go_ret
          exact ⟨rfl, HQ.out⟩
      · have hxn : x = n := by omega
        subst hxn
        have hrt : r = true := HRC.out.2 (grpX_all HN.out HTB.out HALL.out)
        subst hrt
        go_wp2_with fail
        go_ret
        exact ⟨rfl, HQ.out⟩
  · have HTB := hide ht
    have hrf : r = false := by
      cases r
      · rfl
      · exact absurd (HRC.out.1 rfl).1.1 ht
    subst hrf
    clear hn hbs hr hrc ht
    go_enter Try.func76, Try.ntmps76
    go_wp2_with fail
    refine (l01Table_any _ _ _ f false _ HN.out (by omega) (fun i hi => by have := HBS.out i hi; omega) HRD.out (by simp [HTB.out])).mono ?_
    rintro e w1 ⟨rfl, hq1⟩
    have HQ1 := hide hq1
    clear hq1
    go_wp2_with fail
    go_ret
    exact ⟨rfl, HQ1.out⟩
end Go.Proofs.Ytkflmhmbkilmpac
namespace Go.Proofs.Ytkflmhmbkilmpac
open Go Go.RowKit
theorem neInfo : (Try.prog.info? 2).map (fun i => (i.zero, i.size, i.bytes)) = some (some (.int .i64 0), 1, 8) := by kernel_rfl
theorem neInfo2 : (Try.prog.info? 33).map (fun i => (i.zero, i.size, i.bytes)) = some (some (.slice none 0 0), 1, 24) := by kernel_rfl
theorem ne_new {w : World} {v : Value} {t : TypeId} : ∀ j u, [v][j]? = some u → (w.alloc (.cells #[v] t)).cell? ((⟨w.heap.size, 0, none⟩ : Addr).add j) = some u := by
  intro j u hj
  match j, hj with
  | 0, hj => simp at hj; subst hj; simp [Addr.add, World.cell?_alloc_new]
theorem ne_empty (w : World) (t : TypeId) : (w.alloc (.cells #[] t)).ownsRow w.heap.size t 1 (.slice (some ⟨w.heap.size, 0, none⟩) 0 0) 0 [] :=
  ⟨by simp, .inr ⟨w.heap.size, 0, #[], rfl, Nat.le_refl _, heap_alloc_new _ _, Nat.le_refl _, by unfold maxLen; omega, by simp, by simp⟩⟩
/-- Row x of the table of a function. -/
def frow (n : Nat) (h : Nat → Nat → Int) (x : Nat) : List Int := (List.range n).map fun (b : Nat) => h x b
theorem frow_length (n : Nat) (h : Nat → Nat → Int) (x : Nat) : (frow n h x).length = n := by simp [frow]
theorem frow_take (n : Nat) (h : Nat → Nat → Int) (x y : Nat) (hy : y < n) : ints ((frow n h x).take y) ++ [.int .i64 (h x y)] = ints ((frow n h x).take (y + 1)) := by
  rw [List.take_succ_eq_append_getElem (by rw [frow_length]; exact hy)]
  simp [ints, frow]
theorem grid_take (n : Nat) (h : Nat → Nat → Int) (x : Nat) (hx : x < n) : (grid n h).take (x + 1) = (grid n h).take x ++ [frow n h x] := by
  rw [List.take_succ_eq_append_getElem (by rw [grid_length]; exact hx)]
  simp [grid, frow]
end Go.Proofs.Ytkflmhmbkilmpac
namespace Go.Proofs.Ytkflmhmbkilmpac
open Go Go.RowKit
set_option maxHeartbeats 4000000

set_option maxRecDepth 100000 in
theorem backS_any (A : Option Addr) (n c : Nat) (f : List (List Int)) (x : Nat) (w : World) (hn : f.length = n) (ht : Tbl f) (hp : AllPrm f) (hr : Rd2 w A f) (hx : x < n) :
    Calls Try.prog 77 #[.slice A n c, .int .i64 x] w fun e w' => e = .returned (.int .i64 (bk f x)) ∧ Quiet w w' := by
  have h1 : 1 ≤ n := by rw [← hn]; exact ht.1
  have h12 : n ≤ 12 := by rw [← hn]; exact ht.2.1
  have hok := bk_ok hn ht hp hx
  obtain ⟨b, o, hA, hbw, hc⟩ := rd_rows ht hr hn
  subst hA
  obtain ⟨Bx, cx, r1, hrd⟩ := hc x hx
  have HRL : Hid ((f.getD x []).length = n) := hide (ht.row_len hn hx)
  obtain ⟨row, hrow⟩ : ∃ row, f.getD x [] = row := ⟨_, rfl⟩
  rw [hrow] at hok HRL hrd
  have HRD := hide hrd
  have HOK := hide hok.2
  obtain ⟨u, hu⟩ : ∃ u, bk f x = u := ⟨_, rfl⟩
  rw [hu] at HOK ⊢
  have hxz : (x : Int) < n := by omega
  clear hn ht hp hr hc hrow hok hu hrd
  go_enter Try.func77, Try.ntmps77
  go_wp2_with fail
  clear r1
  refine (index_any _ n _ row 0 _ HRL.out (by omega) HRD.out).mono ?_
  rintro e w1 ⟨rfl, hq⟩
  rw [HOK.out]
  have HQ1 := hide hq
  clear hq
  go_wp2_with fail
  go_ret
  exact ⟨rfl, HQ1.out⟩

set_option maxRecDepth 100000 in
theorem nwCoS (A : Option Addr) (n c : Nat) (f : List (List Int)) (zs : List (List Int)) (code : Int) (k : Nat) (w : World) (hn : f.length = n) (hb : n ≤ 1048576) (hbs : ∀ i, i < f.length → (f.getD i []).length ≤ 1048576) (hr : Rd2 w A f) (hres : CoRes f zs code) (hk : zs.length = k) :
    Calls Try.prog 36 #[.agg #[.slice A n c]] w (fun e w' => ∃ A' c', e = .returned (.tuple #[.agg #[.slice A' k c'], .int .i64 code]) ∧ Below w.heap.size w w' ∧ Obj2 33 2 w.heap.size w'.heap.size w' A' zs) := by
  have HN := hide hn
  have HBS := hide hbs
  have HRD := hide hr
  rcases hres with ⟨hg, rfl, rfl⟩ | ⟨hg, rfl, rfl⟩
  · have hkn : n = k := by rw [← hk, grid_length, hn]
    subst hkn
    have HG := hide hg
    have HTB := hide hg.1.1
    have HPP := hide hg.1.2
    have h1 : 1 ≤ n := by rw [← hn]; exact hg.1.1.1
    have h12 : n ≤ 12 := by rw [← hn]; exact hg.1.1.2.1
    rw [hn]
    clear hn hbs hr hg hk
    obtain ⟨b1, o1, hA, hb1w, hc1⟩ := HTB.out.cells HRD.out HN.out
    subst hA
    have HC1 := hide hc1
    clear hc1
    obtain ⟨H, hH⟩ : ∃ H, coH f = H := ⟨_, rfl⟩
    rw [hH]
    have HH := hide hH
    clear hH
    obtain ⟨i0, hi, hz0, hz1, hz2⟩ := info_parts neInfo
    obtain ⟨i2, hj, hy0, hy1, hy2⟩ := info_parts neInfo2
    go_enter Try.func36, Try.ntmps36
    have k0 := ((Blk.new w 48 [.slice (some ⟨b1, o1, none⟩) n c]).alloc (Obj.cells #[.slice none 0 0] 26)).cell 0 _ rfl
    go_wp2_with fail
    clear k0
    refine calls_gen fun wd hw0 => ?_
    have HB : Hid (Below w.heap.size w wd) := hide (by rw [hw0]; exact ((Below.refl _ _).alloc (Nat.le_refl _) _).alloc (by simp) _)
    have HK : Hid (Blk wd w.heap.size 48 [.slice (some ⟨b1, o1, none⟩) n c]) := hide (by rw [hw0]; exact (Blk.new _ _ _).alloc _)
    have HR : Hid (Blk wd (w.heap.size + 1) 26 [.slice none 0 0]) := hide (by rw [hw0]; have h := Blk.new (w.alloc (Obj.cells #[.slice (some ⟨b1, o1, none⟩) n c] 48)) 26 [.slice none 0 0]; simpa using h)
    clear hw0
    refine (gq_below (isGrpS_any _ n _ f true _ HN.out hb HBS.out (HRD.out.later HB.out) ⟨fun _ => HG.out, fun _ => rfl⟩)).mono ?_
    rintro e wd ⟨rfl, hbd⟩
    replace HB := hide (HB.out.trans (hbd.mono HB.out.size))
    replace HK := hide (HK.out.later hbd)
    replace HR := hide (HR.out.later hbd)
    clear hbd
    go_wp2_with fail
    refine wp_gen fun w2 hw2 => ?_
    obtain ⟨ob, hob⟩ : ∃ ob, wd.heap.size = ob := ⟨_, rfl⟩
    have hob1 : w.heap.size + 1 < ob := by rw [← hob]; exact HR.out.lt
    replace HB : Hid (Below w.heap.size w w2) := hide (by rw [hw2]; exact HB.out.alloc HB.out.size _)
    replace HK : Hid (Blk w2 w.heap.size 48 [.slice (some ⟨b1, o1, none⟩) n c]) := hide (by rw [hw2]; exact HK.out.alloc _)
    replace HR : Hid (Blk w2 (w.heap.size + 1) 26 [.slice none 0 0]) := hide (by rw [hw2]; exact HR.out.alloc _)
    have HO2 : Hid (Blk w2 ob 26 [.slice none 0 0]) := hide (by rw [hw2, ← hob]; exact Blk.new _ _ _)
    have HT : Hid (One 33 2 26 (ob + 1) w2 ob 0 [.slice none 0 0] (.slice none 0 0) [] []) := hide (One.start w2 _ _ _ HO2.out (Nat.lt_succ_self _) HO2.out.lt)
    rw [hob]
    clear hw2 hob HO2
    go_loopw [5] (fun i wr => ∃ (x : Nat) (v : Value) (vals : List Value), x ≤ n ∧ i = .int .i64 x ∧ Below w.heap.size w wr ∧ One 33 2 26 (ob + 1) wr ob 0 [.slice none 0 0] v ((grid n H).take x) vals ∧ Blk wr (w.heap.size) 48 [.slice (some ⟨b1, o1, none⟩) n c] ∧ Blk wr (w.heap.size + 1) 26 [.slice none 0 0]) (fun i _ => n - (intOf i).toNat)
    case atStart => exact ⟨0, _, _, Nat.zero_le _, rfl, HB.out, by simpa using HT.out, HK.out, HR.out⟩
    case round =>
      obtain ⟨x, v, vals, hx, rfl, hbe, htw, qHK, qHR⟩ := hrel
      clear HB HT HK HR
      have HB := hide hbe
      have HT := hide htw
      have HK := hide qHK
      have HR := hide qHR
      clear hbe htw qHK qHR
      have k0 := HK.out.cell 0 _ rfl
      by_cases hlt : x < n
      · have hxz : (x : Int) < n := by omega
        go_wp2_with fail
        clear k0
        obtain ⟨wo, rfl⟩ : ∃ wo : World, wo = wr := ⟨_, rfl⟩
        go_loopw [6, 7] (fun v i wi => ∃ y : Nat, y ≤ n ∧ i = .int .i64 y ∧ Below wo.heap.size wo wi ∧ wo.heap.size < wi.heap.size ∧ wi.ownsRow wo.heap.size 2 1 v y (ints ((frow n H x).take y))) (fun _ i _ => n - (intOf i).toNat)
        case atStart => exact ⟨0, Nat.zero_le _, rfl, (Below.refl _ _).alloc (Nat.le_refl _) _, by simp, by simpa [ints] using ne_empty wo _⟩
        case round =>
          obtain ⟨y, hy, rfl, hbi, hsi2, hoi⟩ := hrel
          have HBI := hide hbi
          have HOI := hide hoi
          clear hbi hoi
          have k0 := (HK.out.later HBI.out).cell 0 _ rfl
          by_cases hlty : y < n
          · have hyz : (y : Int) < n := by omega
            have HBW := hide (HB.out.trans (HBI.out.mono HB.out.size))
            have hok := bk_ok HN.out HTB.out HPP.out (x := y) (by omega)
            obtain ⟨v, hv⟩ : ∃ v, bk f y = v := ⟨_, rfl⟩
            have hvn : v < n := by rw [← hv]; exact hok.1
            have hun := HTB.out.ap_lt HN.out (a := x) (b := v) (by omega) (by omega)
            obtain ⟨u, hu⟩ : ∃ u, ap f x v = u := ⟨_, rfl⟩
            rw [hu] at hun
            obtain ⟨r, hr0⟩ : ∃ r, ap f u x = r := ⟨_, rfl⟩
            have hpr : H x y = (r : Int) := by rw [← HH.out]; unfold coH; rw [hv, hu, hr0]
            obtain ⟨bx, ox, cx, r1, lx, g1⟩ := HC1.out x (by omega)
            obtain ⟨bu, ou, cu, r3, lu, g3⟩ := HC1.out u hun
            have r2 := g1 v (by omega)
            have r4 := g3 x (by omega)
            rw [hu] at r2
            rw [hr0] at r4
            have hvz : (v : Int) < n := by omega
            have huz : (u : Int) < n := by omega
            have R1 := hide r1
            have R2 := hide r2
            have R3 := hide r3
            have R4 := hide r4
            have HV := hide hv
            have HCELL := hide hpr
            clear hok hu hr0 hpr g1 g3 hv r1 r2 r3 r4
            have ff0 : wr.cell? ⟨b1, o1 + x, none⟩ = some (.slice (some ⟨bx, ox, none⟩) n cx) := (HBW.out.cell (p := ⟨b1, o1 + x, none⟩) hb1w).trans R1.out
            have ff1 : wr.cell? ⟨bx, ox + v, none⟩ = some (.int .i64 u) := (HBW.out.cell (p := ⟨bx, ox + v, none⟩) lx).trans R2.out
            have ff2 : wr.cell? ⟨b1, o1 + u, none⟩ = some (.slice (some ⟨bu, ou, none⟩) n cu) := (HBW.out.cell (p := ⟨b1, o1 + u, none⟩) hb1w).trans R3.out
            have ff3 : wr.cell? ⟨bu, ou + x, none⟩ = some (.int .i64 r) := (HBW.out.cell (p := ⟨bu, ou + x, none⟩) lu).trans R4.out
            have ff4 : wr.cell? ⟨w.heap.size, 0, none⟩ = some (.slice (some ⟨b1, o1, none⟩) n c) := (HK.out.later HBI.out).cell 0 _ rfl
            go_wp2_with fail
            go_region_held3 (fun w' => w'.cell? ⟨b1, o1 + x, none⟩ = some (.slice (some ⟨bx, ox, none⟩) n cx) ∧ w'.cell? ⟨bx, ox + v, none⟩ = some (.int .i64 u) ∧ w'.cell? ⟨b1, o1 + u, none⟩ = some (.slice (some ⟨bu, ou, none⟩) n cu) ∧ w'.cell? ⟨bu, ou + x, none⟩ = some (.int .i64 r) ∧ w'.cell? ⟨w.heap.size, 0, none⟩ = some (.slice (some ⟨b1, o1, none⟩) n c)) (first | exact ⟨ff0, ff1, ff2, ff3, ff4⟩ | go_keep) (first | (go_at_call 77; go_must (refine calls_gen fun wc hwc => ?_; (first | have hbx := drew_below hwc | have hbx := eq_below hwc); have HBJ0 := hide (HBI.out.trans (hbx.mono HBI.out.size)); have HOJ0 := hide (ownsRow_below HOI.out hbx); have hsj0 : wo.heap.size < wc.heap.size := (by have := hbx.size; omega); clear hwc hbx; refine (gq_below (backS_any _ n _ f y _ HN.out HTB.out HPP.out (HRD.out.later (HB.out.trans (HBJ0.out.mono HB.out.size))) (by omega))).mono ?_; rintro e wd ⟨rfl, hbd⟩; rw [HV.out]; have HBJ := hide (HBJ0.out.trans (hbd.mono HBJ0.out.size)); have HOJ := hide (ownsRow_below HOJ0.out hbd); have hsj : wo.heap.size < wd.heap.size := (by have := hbd.size; omega); clear hbd; have HBV := hide (HB.out.trans (HBJ.out.mono HB.out.size)); have ff0 : wd.cell? ⟨b1, o1 + x, none⟩ = some (.slice (some ⟨bx, ox, none⟩) n cx) := (HBV.out.cell (p := ⟨b1, o1 + x, none⟩) hb1w).trans R1.out; have ff1 : wd.cell? ⟨bx, ox + v, none⟩ = some (.int .i64 u) := (HBV.out.cell (p := ⟨bx, ox + v, none⟩) lx).trans R2.out; have ff2 : wd.cell? ⟨b1, o1 + u, none⟩ = some (.slice (some ⟨bu, ou, none⟩) n cu) := (HBV.out.cell (p := ⟨b1, o1 + u, none⟩) hb1w).trans R3.out; have ff3 : wd.cell? ⟨bu, ou + x, none⟩ = some (.int .i64 r) := (HBV.out.cell (p := ⟨bu, ou + x, none⟩) lu).trans R4.out; have ff4 : wd.cell? ⟨w.heap.size, 0, none⟩ = some (.slice (some ⟨b1, o1, none⟩) n c) := (HK.out.later HBJ.out).cell 0 _ rfl)) | (refine step_append_lies _ (by rfl) _ _ _ (by rfl) wo.heap.size 2 i0 _ 1 8 Try.underlying33 hi hz0 hz1 hz2 rfl (by omega) u6 y (ints ((frow n H x).take y)) (by rfl) (HOJ.out.alloc _) ⟨wd.heap.size, 0, none⟩ 1 1 [.int .i64 r] (by rfl) (by rfl) ne_new (by simp [Value.oneCell']) (by omega) (by unfold maxLen; omega) (by omega) (by simp; omega) (wd.heap.size + 1) (by simp) ?_; go_must (intro gg cap w3 hown' hgrow _ _; have HO3 := hide hown'; have HB3 : Hid (Below wo.heap.size wo w3) := (by first | exact hide ((HBJ.out.alloc HBJ.out.size _).drew.grown hgrow (by have := HBJ.out.size; simp; omega) (fun g hg => ((HOJ.out.alloc (.cells #[.int .i64 r] 2)).lt g hg).1)) | exact hide ((HBJ.out.alloc HBJ.out.size _).grown hgrow (by have := HBJ.out.size; simp; omega) (fun g hg => ((HOJ.out.alloc (.cells #[.int .i64 r] 2)).lt g hg).1))); have hs3 : wo.heap.size < w3.heap.size := (by have := hgrow.size; simp at this; omega); have HBV3 := hide (HB.out.trans (HB3.out.mono HB.out.size)); clear hown' hgrow; have ff0 : w3.cell? ⟨b1, o1 + x, none⟩ = some (.slice (some ⟨bx, ox, none⟩) n cx) := (HBV3.out.cell (p := ⟨b1, o1 + x, none⟩) hb1w).trans R1.out; have ff1 : w3.cell? ⟨bx, ox + v, none⟩ = some (.int .i64 u) := (HBV3.out.cell (p := ⟨bx, ox + v, none⟩) lx).trans R2.out; have ff2 : w3.cell? ⟨b1, o1 + u, none⟩ = some (.slice (some ⟨bu, ou, none⟩) n cu) := (HBV3.out.cell (p := ⟨b1, o1 + u, none⟩) hb1w).trans R3.out; have ff3 : w3.cell? ⟨bu, ou + x, none⟩ = some (.int .i64 r) := (HBV3.out.cell (p := ⟨bu, ou + x, none⟩) lu).trans R4.out; have ff4 : w3.cell? ⟨w.heap.size, 0, none⟩ = some (.slice (some ⟨b1, o1, none⟩) n c) := (HK.out.later HB3.out).cell 0 _ rfl)))
            all_goals
              clear ff0 ff1 ff2 ff3 ff4
              go_wp2_with fail
              go_roundw
              case rel => exact ⟨y + 1, by omega, by go_num, HB3.out, hs3, by have h := HO3.out; rw [← HCELL.out, frow_take _ _ _ _ hlty] at h; exact h⟩
              case measure => simp [intOf]; omega
          · have hyn : y = n := by omega
            subst hyn
            have HTM : Hid (((grid y H).take x).length = x) := hide (by rw [List.length_take, grid_length]; omega)
            obtain ⟨A2, c2', hv2, hres2⟩ := own_shape HOI.out
            subst hv2
            have HRL : Hid ((frow y H x).length = y) := hide (frow_length _ _ _)
            have HTK : Hid ((frow y H x).take y = frow y H x) := hide (List.take_of_length_le (by rw [HRL.out]; exact Nat.le_refl _))
            have HRO := hide hres2.obj
            have HT3 := hide (HT.out.later HBI.out)
            have HK3 := hide (HK.out.later HBI.out)
            have HR3 := hide (HR.out.later HBI.out)
            have HB3 := hide (HB.out.trans (HBI.out.mono HB.out.size))
            clear hres2
            have j0 := HT3.out.box.cell 0 _ rfl
            have j2 := HT3.out.box.frozen 0
            have j4 := fun o => (HT3.out.box.alloc o).cell 0 _ rfl
            have HOW2 : Hid (wr.ownsRow (ob + 1) 33 1 v x vals) := hide (by have h := HT3.out.l.own; rw [HTM.out] at h; exact h)
            have hobl := HT3.out.box.lt
            have hbsz := HT3.out.bsz
            go_wp2_with (at_builtin; refine wpList_append_own_at _ rfl _ _ 22 rfl (ob + 1) 33 i2 (.slice none 0 0) 1 24 Try.underlying22 hj hy0 hy1 hy2 rfl (by decide) _ _ _ rfl (HOW2.out.alloc _) ⟨wr.heap.size, 0, none⟩ 1 1 [.slice A2 y c2'] rfl rfl ?p1 ?p2 ?p3 ?p4 ?p5 ?_)
            try (case p1 => exact ne_new)
            try (case p2 => first | rfl | (intro u hu; simp at hu; subst hu; rfl))
            try (case p3 => first | omega | (unfold maxLen; omega))
            try (case p4 => omega)
            try (case p5 => first | omega | (simp; omega))
            intro v' w7 hown7 hgrow7 _ hat7
            obtain ⟨gg2, cap2, hv7⟩ := own_form hown7
            subst hv7
            have hbk := HT3.out.kept hgrow7
            have HT4 := hide (One.add (by decide) HT.out HT3.out (Nat.le_refl _) (by have h := HRO.out; rw [HTK.out] at h; exact h) HTM.out HRL.out hown7 hgrow7)
            have HB4 := hide (HT3.out.below hgrow7 (.slice (some ⟨gg2, 0, none⟩) (x + 1) cap2) HB3.out (by omega))
            have HK4 := hide ((HT3.out.frame hgrow7 (.slice (some ⟨gg2, 0, none⟩) (x + 1) cap2) (by omega) (by omega) HK3.out.lt).trans HK3.out)
            have HR4 := hide ((HT3.out.frame hgrow7 (.slice (some ⟨gg2, 0, none⟩) (x + 1) cap2) (by omega) (by omega) HR3.out.lt).trans HR3.out)
            clear j0 j2 j4 hown7 hgrow7 hat7
            have j0 := hbk.cell 0 _ rfl
            have j2 := hbk.frozen 0
            clear hbk
            go_wp2_with fail
            go_roundw
            case rel =>
              refine ⟨x + 1, .slice (some ⟨gg2, 0, none⟩) (x + 1) cap2, vals ++ [.slice A2 y c2'], by omega, by go_num, HB4.out, ?_, HK4.out, HR4.out⟩
              rw [grid_take _ _ _ hlt]
              exact HT4.out
            case measure => simp [intOf]; omega
      · have hxn : x = n := by omega
        subst hxn
        obtain ⟨A1, c1, hv1, ho1⟩ := HT.out.l.shape
        rw [List.take_of_length_le (by rw [grid_length]; exact Nat.le_refl _)] at hv1 ho1
        rw [grid_length] at hv1
        subst hv1
        have HA1 := hide ho1
        clear ho1
        have k0 := HT.out.box.cell 0 _ rfl
        have k2 := HR.out.cell 0 _ rfl
        have k3 := HR.out.frozen 0
        have hobl := HT.out.box.lt
        go_wp2_with fail
        refine bp_gen fun wf hwf => ?_
        obtain ⟨q0, hbf, hof⟩ := kend hwf HR.out (by omega) HB.out HA1.out (by omega) (by omega) (Nat.le_refl _)
        clear hwf k0 k2 k3
        exact bodyPost_ret (v := .tuple #[.agg #[.slice A1 x c1], .int .i64 0]) (by simp [results, Try.results36, go_sem, q0]) rfl ⟨_, _, rfl, hbf, hof⟩
  · have HG := hide hg
    have hk0 : k = 0 := by rw [← hk]; rfl
    subst hk0
    clear hn hbs hr hg hk
    go_enter Try.func36, Try.ntmps36
    have k0 := ((Blk.new w 48 [.slice A n c]).alloc (Obj.cells #[.slice none 0 0] 26)).cell 0 _ rfl
    go_wp2_with fail
    clear k0
    refine calls_gen fun wd hw0 => ?_
    have HB : Hid (Below w.heap.size w wd) := hide (by rw [hw0]; exact ((Below.refl _ _).alloc (Nat.le_refl _) _).alloc (by simp) _)
    have HK : Hid (Blk wd w.heap.size 48 [.slice A n c]) := hide (by rw [hw0]; exact (Blk.new _ _ _).alloc _)
    have HR : Hid (Blk wd (w.heap.size + 1) 26 [.slice none 0 0]) := hide (by rw [hw0]; have h := Blk.new (w.alloc (Obj.cells #[.slice A n c] 48)) 26 [.slice none 0 0]; simpa using h)
    clear hw0
    refine (gq_below (isGrpS_any _ n _ f false _ HN.out hb HBS.out (HRD.out.later HB.out) ⟨fun h => (by cases h), fun h => absurd h HG.out⟩)).mono ?_
    rintro e wd ⟨rfl, hbd⟩
    replace HB := hide (HB.out.trans (hbd.mono HB.out.size))
    replace HK := hide (HK.out.later hbd)
    replace HR := hide (HR.out.later hbd)
    clear hbd
    have k2 := HR.out.cell 0 _ rfl
    have k3 := HR.out.frozen 0
    go_wp2_with fail
    refine bp_gen fun wf hwf => ?_
    have HRF : Blk wf (w.heap.size + 1) 26 [.slice none 0 0] := by rw [hwf]; first | exact HR.out | exact HR.out.set 0 _
    have hbf : Below w.heap.size w wf := by rw [hwf]; first | exact HB.out | exact HB.out.setCell (p := ⟨w.heap.size + 1, 0, none⟩) (Nat.le_succ _) _
    have q0 := HRF.cell 0 _ rfl
    clear hwf k2 k3
    exact bodyPost_ret (v := .tuple #[.agg #[.slice none 0 0], .int .i64 1]) (by simp [results, Try.results36, go_sem, q0]) rfl ⟨_, _, rfl, hbf, .inl ⟨rfl, rfl⟩⟩

set_option maxRecDepth 100000 in
theorem nwCjS (A : Option Addr) (n c : Nat) (f : List (List Int)) (zs : List (List Int)) (code : Int) (k : Nat) (w : World) (hn : f.length = n) (hb : n ≤ 1048576) (hbs : ∀ i, i < f.length → (f.getD i []).length ≤ 1048576) (hr : Rd2 w A f) (hres : CjRes f zs code) (hk : zs.length = k) :
    Calls Try.prog 41 #[.agg #[.slice A n c]] w (fun e w' => ∃ A' c', e = .returned (.tuple #[.agg #[.slice A' k c'], .int .i64 code]) ∧ Below w.heap.size w w' ∧ Obj2 33 2 w.heap.size w'.heap.size w' A' zs) := by
  have HN := hide hn
  have HBS := hide hbs
  have HRD := hide hr
  rcases hres with ⟨hg, rfl, rfl⟩ | ⟨hg, rfl, rfl⟩
  · have hkn : n = k := by rw [← hk, grid_length, hn]
    subst hkn
    have HG := hide hg
    have HTB := hide hg.1.1
    have HPP := hide hg.1.2
    have h1 : 1 ≤ n := by rw [← hn]; exact hg.1.1.1
    have h12 : n ≤ 12 := by rw [← hn]; exact hg.1.1.2.1
    rw [hn]
    clear hn hbs hr hg hk
    obtain ⟨b1, o1, hA, hb1w, hc1⟩ := HTB.out.cells HRD.out HN.out
    subst hA
    have HC1 := hide hc1
    clear hc1
    obtain ⟨H, hH⟩ : ∃ H, cjH f = H := ⟨_, rfl⟩
    rw [hH]
    have HH := hide hH
    clear hH
    obtain ⟨i0, hi, hz0, hz1, hz2⟩ := info_parts neInfo
    obtain ⟨i2, hj, hy0, hy1, hy2⟩ := info_parts neInfo2
    go_enter Try.func41, Try.ntmps41
    have k0 := ((Blk.new w 48 [.slice (some ⟨b1, o1, none⟩) n c]).alloc (Obj.cells #[.slice none 0 0] 26)).cell 0 _ rfl
    go_wp2_with fail
    clear k0
    refine calls_gen fun wd hw0 => ?_
    have HB : Hid (Below w.heap.size w wd) := hide (by rw [hw0]; exact ((Below.refl _ _).alloc (Nat.le_refl _) _).alloc (by simp) _)
    have HK : Hid (Blk wd w.heap.size 48 [.slice (some ⟨b1, o1, none⟩) n c]) := hide (by rw [hw0]; exact (Blk.new _ _ _).alloc _)
    have HR : Hid (Blk wd (w.heap.size + 1) 26 [.slice none 0 0]) := hide (by rw [hw0]; have h := Blk.new (w.alloc (Obj.cells #[.slice (some ⟨b1, o1, none⟩) n c] 48)) 26 [.slice none 0 0]; simpa using h)
    clear hw0
    refine (gq_below (isGrpS_any _ n _ f true _ HN.out hb HBS.out (HRD.out.later HB.out) ⟨fun _ => HG.out, fun _ => rfl⟩)).mono ?_
    rintro e wd ⟨rfl, hbd⟩
    replace HB := hide (HB.out.trans (hbd.mono HB.out.size))
    replace HK := hide (HK.out.later hbd)
    replace HR := hide (HR.out.later hbd)
    clear hbd
    go_wp2_with fail
    refine wp_gen fun w2 hw2 => ?_
    obtain ⟨ob, hob⟩ : ∃ ob, wd.heap.size = ob := ⟨_, rfl⟩
    have hob1 : w.heap.size + 1 < ob := by rw [← hob]; exact HR.out.lt
    replace HB : Hid (Below w.heap.size w w2) := hide (by rw [hw2]; exact HB.out.alloc HB.out.size _)
    replace HK : Hid (Blk w2 w.heap.size 48 [.slice (some ⟨b1, o1, none⟩) n c]) := hide (by rw [hw2]; exact HK.out.alloc _)
    replace HR : Hid (Blk w2 (w.heap.size + 1) 26 [.slice none 0 0]) := hide (by rw [hw2]; exact HR.out.alloc _)
    have HO2 : Hid (Blk w2 ob 26 [.slice none 0 0]) := hide (by rw [hw2, ← hob]; exact Blk.new _ _ _)
    have HT : Hid (One 33 2 26 (ob + 1) w2 ob 0 [.slice none 0 0] (.slice none 0 0) [] []) := hide (One.start w2 _ _ _ HO2.out (Nat.lt_succ_self _) HO2.out.lt)
    rw [hob]
    clear hw2 hob HO2
    go_loopw [5] (fun i wr => ∃ (x : Nat) (v : Value) (vals : List Value), x ≤ n ∧ i = .int .i64 x ∧ Below w.heap.size w wr ∧ One 33 2 26 (ob + 1) wr ob 0 [.slice none 0 0] v ((grid n H).take x) vals ∧ Blk wr (w.heap.size) 48 [.slice (some ⟨b1, o1, none⟩) n c] ∧ Blk wr (w.heap.size + 1) 26 [.slice none 0 0]) (fun i _ => n - (intOf i).toNat)
    case atStart => exact ⟨0, _, _, Nat.zero_le _, rfl, HB.out, by simpa using HT.out, HK.out, HR.out⟩
    case round =>
      obtain ⟨x, v, vals, hx, rfl, hbe, htw, qHK, qHR⟩ := hrel
      clear HB HT HK HR
      have HB := hide hbe
      have HT := hide htw
      have HK := hide qHK
      have HR := hide qHR
      clear hbe htw qHK qHR
      have k0 := HK.out.cell 0 _ rfl
      by_cases hlt : x < n
      · have hxz : (x : Int) < n := by omega
        go_wp2_with fail
        clear k0
        obtain ⟨wo, rfl⟩ : ∃ wo : World, wo = wr := ⟨_, rfl⟩
        go_loopw [6, 7] (fun v i wi => ∃ y : Nat, y ≤ n ∧ i = .int .i64 y ∧ Below wo.heap.size wo wi ∧ wo.heap.size < wi.heap.size ∧ wi.ownsRow wo.heap.size 2 1 v y (ints ((frow n H x).take y))) (fun _ i _ => n - (intOf i).toNat)
        case atStart => exact ⟨0, Nat.zero_le _, rfl, (Below.refl _ _).alloc (Nat.le_refl _) _, by simp, by simpa [ints] using ne_empty wo _⟩
        case round =>
          obtain ⟨y, hy, rfl, hbi, hsi2, hoi⟩ := hrel
          have HBI := hide hbi
          have HOI := hide hoi
          clear hbi hoi
          have k0 := (HK.out.later HBI.out).cell 0 _ rfl
          by_cases hlty : y < n
          · have hyz : (y : Int) < n := by omega
            have HBW := hide (HB.out.trans (HBI.out.mono HB.out.size))
            have hok := bk_ok HN.out HTB.out HPP.out (x := x) (by omega)
            obtain ⟨v, hv⟩ : ∃ v, bk f x = v := ⟨_, rfl⟩
            have hvn : v < n := by rw [← hv]; exact hok.1
            have hun := HTB.out.ap_lt HN.out (a := x) (b := y) (by omega) (by omega)
            obtain ⟨u, hu⟩ : ∃ u, ap f x y = u := ⟨_, rfl⟩
            rw [hu] at hun
            obtain ⟨r, hr0⟩ : ∃ r, ap f u v = r := ⟨_, rfl⟩
            have hpr : H x y = (r : Int) := by rw [← HH.out]; unfold cjH; rw [hv, hu, hr0]
            obtain ⟨bx, ox, cx, r1, lx, g1⟩ := HC1.out x (by omega)
            obtain ⟨bu, ou, cu, r3, lu, g3⟩ := HC1.out u hun
            have r2 := g1 y (by omega)
            have r4 := g3 v (by omega)
            rw [hu] at r2
            rw [hr0] at r4
            have hvz : (v : Int) < n := by omega
            have huz : (u : Int) < n := by omega
            have R1 := hide r1
            have R2 := hide r2
            have R3 := hide r3
            have R4 := hide r4
            have HV := hide hv
            have HCELL := hide hpr
            clear hok hu hr0 hpr g1 g3 hv r1 r2 r3 r4
            have ff0 : wr.cell? ⟨b1, o1 + x, none⟩ = some (.slice (some ⟨bx, ox, none⟩) n cx) := (HBW.out.cell (p := ⟨b1, o1 + x, none⟩) hb1w).trans R1.out
            have ff1 : wr.cell? ⟨bx, ox + y, none⟩ = some (.int .i64 u) := (HBW.out.cell (p := ⟨bx, ox + y, none⟩) lx).trans R2.out
            have ff2 : wr.cell? ⟨b1, o1 + u, none⟩ = some (.slice (some ⟨bu, ou, none⟩) n cu) := (HBW.out.cell (p := ⟨b1, o1 + u, none⟩) hb1w).trans R3.out
            have ff3 : wr.cell? ⟨bu, ou + v, none⟩ = some (.int .i64 r) := (HBW.out.cell (p := ⟨bu, ou + v, none⟩) lu).trans R4.out
            have ff4 : wr.cell? ⟨w.heap.size, 0, none⟩ = some (.slice (some ⟨b1, o1, none⟩) n c) := (HK.out.later HBI.out).cell 0 _ rfl
            go_wp2_with fail
            go_region_held3 (fun w' => w'.cell? ⟨b1, o1 + x, none⟩ = some (.slice (some ⟨bx, ox, none⟩) n cx) ∧ w'.cell? ⟨bx, ox + y, none⟩ = some (.int .i64 u) ∧ w'.cell? ⟨b1, o1 + u, none⟩ = some (.slice (some ⟨bu, ou, none⟩) n cu) ∧ w'.cell? ⟨bu, ou + v, none⟩ = some (.int .i64 r) ∧ w'.cell? ⟨w.heap.size, 0, none⟩ = some (.slice (some ⟨b1, o1, none⟩) n c)) (first | exact ⟨ff0, ff1, ff2, ff3, ff4⟩ | go_keep) (first | (go_at_call 77; go_must (refine calls_gen fun wc hwc => ?_; (first | have hbx := drew_below hwc | have hbx := eq_below hwc); have HBJ0 := hide (HBI.out.trans (hbx.mono HBI.out.size)); have HOJ0 := hide (ownsRow_below HOI.out hbx); have hsj0 : wo.heap.size < wc.heap.size := (by have := hbx.size; omega); clear hwc hbx; refine (gq_below (backS_any _ n _ f x _ HN.out HTB.out HPP.out (HRD.out.later (HB.out.trans (HBJ0.out.mono HB.out.size))) (by omega))).mono ?_; rintro e wd ⟨rfl, hbd⟩; rw [HV.out]; have HBJ := hide (HBJ0.out.trans (hbd.mono HBJ0.out.size)); have HOJ := hide (ownsRow_below HOJ0.out hbd); have hsj : wo.heap.size < wd.heap.size := (by have := hbd.size; omega); clear hbd; have HBV := hide (HB.out.trans (HBJ.out.mono HB.out.size)); have ff0 : wd.cell? ⟨b1, o1 + x, none⟩ = some (.slice (some ⟨bx, ox, none⟩) n cx) := (HBV.out.cell (p := ⟨b1, o1 + x, none⟩) hb1w).trans R1.out; have ff1 : wd.cell? ⟨bx, ox + y, none⟩ = some (.int .i64 u) := (HBV.out.cell (p := ⟨bx, ox + y, none⟩) lx).trans R2.out; have ff2 : wd.cell? ⟨b1, o1 + u, none⟩ = some (.slice (some ⟨bu, ou, none⟩) n cu) := (HBV.out.cell (p := ⟨b1, o1 + u, none⟩) hb1w).trans R3.out; have ff3 : wd.cell? ⟨bu, ou + v, none⟩ = some (.int .i64 r) := (HBV.out.cell (p := ⟨bu, ou + v, none⟩) lu).trans R4.out; have ff4 : wd.cell? ⟨w.heap.size, 0, none⟩ = some (.slice (some ⟨b1, o1, none⟩) n c) := (HK.out.later HBJ.out).cell 0 _ rfl)) | (refine step_append_lies _ (by rfl) _ _ _ (by rfl) wo.heap.size 2 i0 _ 1 8 Try.underlying33 hi hz0 hz1 hz2 rfl (by omega) u6 y (ints ((frow n H x).take y)) (by rfl) (HOJ.out.alloc _) ⟨wd.heap.size, 0, none⟩ 1 1 [.int .i64 r] (by rfl) (by rfl) ne_new (by simp [Value.oneCell']) (by omega) (by unfold maxLen; omega) (by omega) (by simp; omega) (wd.heap.size + 1) (by simp) ?_; go_must (intro gg cap w3 hown' hgrow _ _; have HO3 := hide hown'; have HB3 : Hid (Below wo.heap.size wo w3) := (by first | exact hide ((HBJ.out.alloc HBJ.out.size _).drew.grown hgrow (by have := HBJ.out.size; simp; omega) (fun g hg => ((HOJ.out.alloc (.cells #[.int .i64 r] 2)).lt g hg).1)) | exact hide ((HBJ.out.alloc HBJ.out.size _).grown hgrow (by have := HBJ.out.size; simp; omega) (fun g hg => ((HOJ.out.alloc (.cells #[.int .i64 r] 2)).lt g hg).1))); have hs3 : wo.heap.size < w3.heap.size := (by have := hgrow.size; simp at this; omega); have HBV3 := hide (HB.out.trans (HB3.out.mono HB.out.size)); clear hown' hgrow; have ff0 : w3.cell? ⟨b1, o1 + x, none⟩ = some (.slice (some ⟨bx, ox, none⟩) n cx) := (HBV3.out.cell (p := ⟨b1, o1 + x, none⟩) hb1w).trans R1.out; have ff1 : w3.cell? ⟨bx, ox + y, none⟩ = some (.int .i64 u) := (HBV3.out.cell (p := ⟨bx, ox + y, none⟩) lx).trans R2.out; have ff2 : w3.cell? ⟨b1, o1 + u, none⟩ = some (.slice (some ⟨bu, ou, none⟩) n cu) := (HBV3.out.cell (p := ⟨b1, o1 + u, none⟩) hb1w).trans R3.out; have ff3 : w3.cell? ⟨bu, ou + v, none⟩ = some (.int .i64 r) := (HBV3.out.cell (p := ⟨bu, ou + v, none⟩) lu).trans R4.out; have ff4 : w3.cell? ⟨w.heap.size, 0, none⟩ = some (.slice (some ⟨b1, o1, none⟩) n c) := (HK.out.later HB3.out).cell 0 _ rfl)))
            all_goals
              clear ff0 ff1 ff2 ff3 ff4
              go_wp2_with fail
              go_roundw
              case rel => exact ⟨y + 1, by omega, by go_num, HB3.out, hs3, by have h := HO3.out; rw [← HCELL.out, frow_take _ _ _ _ hlty] at h; exact h⟩
              case measure => simp [intOf]; omega
          · have hyn : y = n := by omega
            subst hyn
            have HTM : Hid (((grid y H).take x).length = x) := hide (by rw [List.length_take, grid_length]; omega)
            obtain ⟨A2, c2', hv2, hres2⟩ := own_shape HOI.out
            subst hv2
            have HRL : Hid ((frow y H x).length = y) := hide (frow_length _ _ _)
            have HTK : Hid ((frow y H x).take y = frow y H x) := hide (List.take_of_length_le (by rw [HRL.out]; exact Nat.le_refl _))
            have HRO := hide hres2.obj
            have HT3 := hide (HT.out.later HBI.out)
            have HK3 := hide (HK.out.later HBI.out)
            have HR3 := hide (HR.out.later HBI.out)
            have HB3 := hide (HB.out.trans (HBI.out.mono HB.out.size))
            clear hres2
            have j0 := HT3.out.box.cell 0 _ rfl
            have j2 := HT3.out.box.frozen 0
            have j4 := fun o => (HT3.out.box.alloc o).cell 0 _ rfl
            have HOW2 : Hid (wr.ownsRow (ob + 1) 33 1 v x vals) := hide (by have h := HT3.out.l.own; rw [HTM.out] at h; exact h)
            have hobl := HT3.out.box.lt
            have hbsz := HT3.out.bsz
            go_wp2_with (at_builtin; refine wpList_append_own_at _ rfl _ _ 22 rfl (ob + 1) 33 i2 (.slice none 0 0) 1 24 Try.underlying22 hj hy0 hy1 hy2 rfl (by decide) _ _ _ rfl (HOW2.out.alloc _) ⟨wr.heap.size, 0, none⟩ 1 1 [.slice A2 y c2'] rfl rfl ?p1 ?p2 ?p3 ?p4 ?p5 ?_)
            try (case p1 => exact ne_new)
            try (case p2 => first | rfl | (intro u hu; simp at hu; subst hu; rfl))
            try (case p3 => first | omega | (unfold maxLen; omega))
            try (case p4 => omega)
            try (case p5 => first | omega | (simp; omega))
            intro v' w7 hown7 hgrow7 _ hat7
            obtain ⟨gg2, cap2, hv7⟩ := own_form hown7
            subst hv7
            have hbk := HT3.out.kept hgrow7
            have HT4 := hide (One.add (by decide) HT.out HT3.out (Nat.le_refl _) (by have h := HRO.out; rw [HTK.out] at h; exact h) HTM.out HRL.out hown7 hgrow7)
            have HB4 := hide (HT3.out.below hgrow7 (.slice (some ⟨gg2, 0, none⟩) (x + 1) cap2) HB3.out (by omega))
            have HK4 := hide ((HT3.out.frame hgrow7 (.slice (some ⟨gg2, 0, none⟩) (x + 1) cap2) (by omega) (by omega) HK3.out.lt).trans HK3.out)
            have HR4 := hide ((HT3.out.frame hgrow7 (.slice (some ⟨gg2, 0, none⟩) (x + 1) cap2) (by omega) (by omega) HR3.out.lt).trans HR3.out)
            clear j0 j2 j4 hown7 hgrow7 hat7
            have j0 := hbk.cell 0 _ rfl
            have j2 := hbk.frozen 0
            clear hbk
            go_wp2_with fail
            go_roundw
            case rel =>
              refine ⟨x + 1, .slice (some ⟨gg2, 0, none⟩) (x + 1) cap2, vals ++ [.slice A2 y c2'], by omega, by go_num, HB4.out, ?_, HK4.out, HR4.out⟩
              rw [grid_take _ _ _ hlt]
              exact HT4.out
            case measure => simp [intOf]; omega
      · have hxn : x = n := by omega
        subst hxn
        obtain ⟨A1, c1, hv1, ho1⟩ := HT.out.l.shape
        rw [List.take_of_length_le (by rw [grid_length]; exact Nat.le_refl _)] at hv1 ho1
        rw [grid_length] at hv1
        subst hv1
        have HA1 := hide ho1
        clear ho1
        have k0 := HT.out.box.cell 0 _ rfl
        have k2 := HR.out.cell 0 _ rfl
        have k3 := HR.out.frozen 0
        have hobl := HT.out.box.lt
        go_wp2_with fail
        refine bp_gen fun wf hwf => ?_
        obtain ⟨q0, hbf, hof⟩ := kend hwf HR.out (by omega) HB.out HA1.out (by omega) (by omega) (Nat.le_refl _)
        clear hwf k0 k2 k3
        exact bodyPost_ret (v := .tuple #[.agg #[.slice A1 x c1], .int .i64 0]) (by simp [results, Try.results41, go_sem, q0]) rfl ⟨_, _, rfl, hbf, hof⟩
  · have HG := hide hg
    have hk0 : k = 0 := by rw [← hk]; rfl
    subst hk0
    clear hn hbs hr hg hk
    go_enter Try.func41, Try.ntmps41
    have k0 := ((Blk.new w 48 [.slice A n c]).alloc (Obj.cells #[.slice none 0 0] 26)).cell 0 _ rfl
    go_wp2_with fail
    clear k0
    refine calls_gen fun wd hw0 => ?_
    have HB : Hid (Below w.heap.size w wd) := hide (by rw [hw0]; exact ((Below.refl _ _).alloc (Nat.le_refl _) _).alloc (by simp) _)
    have HK : Hid (Blk wd w.heap.size 48 [.slice A n c]) := hide (by rw [hw0]; exact (Blk.new _ _ _).alloc _)
    have HR : Hid (Blk wd (w.heap.size + 1) 26 [.slice none 0 0]) := hide (by rw [hw0]; have h := Blk.new (w.alloc (Obj.cells #[.slice A n c] 48)) 26 [.slice none 0 0]; simpa using h)
    clear hw0
    refine (gq_below (isGrpS_any _ n _ f false _ HN.out hb HBS.out (HRD.out.later HB.out) ⟨fun h => (by cases h), fun h => absurd h HG.out⟩)).mono ?_
    rintro e wd ⟨rfl, hbd⟩
    replace HB := hide (HB.out.trans (hbd.mono HB.out.size))
    replace HK := hide (HK.out.later hbd)
    replace HR := hide (HR.out.later hbd)
    clear hbd
    have k2 := HR.out.cell 0 _ rfl
    have k3 := HR.out.frozen 0
    go_wp2_with fail
    refine bp_gen fun wf hwf => ?_
    have HRF : Blk wf (w.heap.size + 1) 26 [.slice none 0 0] := by rw [hwf]; first | exact HR.out | exact HR.out.set 0 _
    have hbf : Below w.heap.size w wf := by rw [hwf]; first | exact HB.out | exact HB.out.setCell (p := ⟨w.heap.size + 1, 0, none⟩) (Nat.le_succ _) _
    have q0 := HRF.cell 0 _ rfl
    clear hwf k2 k3
    exact bodyPost_ret (v := .tuple #[.agg #[.slice none 0 0], .int .i64 1]) (by simp [results, Try.results41, go_sem, q0]) rfl ⟨_, _, rfl, hbf, .inl ⟨rfl, rfl⟩⟩

end Go.Proofs.Ytkflmhmbkilmpac
