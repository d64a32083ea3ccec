import Derived.Test.YtngfdkmiifpbgaaZah
import Derived.Test.YtngfdkmiifpbgaaZq
import Derived.Test.YtngfdkmiifpbgaaZu
import Derived.Laws.EntriesVeiled
namespace Go.Proofs.Ytngfdkmiifpbgaa
open Go Go.RowKit
set_option maxHeartbeats 1000000

theorem formulaOf0_any (w : World) :
    Calls Try.prog 113 #[.int .i64 0] w fun e w' => e = .returned (.func (.func 118) #[] #[]) ∧ Below w.heap.size w w' := by
  have HB0 := hide ((Below.refl _ w).alloc (Nat.le_refl _) (Obj.cells #[.func (.func 118) #[] #[], .func (.func 119) #[] #[], .func (.func 120) #[] #[], .func (.func 121) #[] #[], .func (.func 122) #[] #[], .func (.func 123) #[] #[]] 103))
  go_enter Try.func113, Try.ntmps113
  go_wp2_with fail
  go_ret
  exact ⟨rfl, HB0.out⟩

theorem formulaOf1_any (w : World) :
    Calls Try.prog 113 #[.int .i64 1] w fun e w' => e = .returned (.func (.func 119) #[] #[]) ∧ Below w.heap.size w w' := by
  have HB0 := hide ((Below.refl _ w).alloc (Nat.le_refl _) (Obj.cells #[.func (.func 118) #[] #[], .func (.func 119) #[] #[], .func (.func 120) #[] #[], .func (.func 121) #[] #[], .func (.func 122) #[] #[], .func (.func 123) #[] #[]] 103))
  go_enter Try.func113, Try.ntmps113
  go_wp2_with fail
  go_ret
  exact ⟨rfl, HB0.out⟩

theorem formulaOf2_any (w : World) :
    Calls Try.prog 113 #[.int .i64 2] w fun e w' => e = .returned (.func (.func 120) #[] #[]) ∧ Below w.heap.size w w' := by
  have HB0 := hide ((Below.refl _ w).alloc (Nat.le_refl _) (Obj.cells #[.func (.func 118) #[] #[], .func (.func 119) #[] #[], .func (.func 120) #[] #[], .func (.func 121) #[] #[], .func (.func 122) #[] #[], .func (.func 123) #[] #[]] 103))
  go_enter Try.func113, Try.ntmps113
  go_wp2_with fail
  go_ret
  exact ⟨rfl, HB0.out⟩

theorem formulaOf3_any (w : World) :
    Calls Try.prog 113 #[.int .i64 3] w fun e w' => e = .returned (.func (.func 121) #[] #[]) ∧ Below w.heap.size w w' := by
  have HB0 := hide ((Below.refl _ w).alloc (Nat.le_refl _) (Obj.cells #[.func (.func 118) #[] #[], .func (.func 119) #[] #[], .func (.func 120) #[] #[], .func (.func 121) #[] #[], .func (.func 122) #[] #[], .func (.func 123) #[] #[]] 103))
  go_enter Try.func113, Try.ntmps113
  go_wp2_with fail
  go_ret
  exact ⟨rfl, HB0.out⟩

theorem formulaOf4_any (w : World) :
    Calls Try.prog 113 #[.int .i64 4] w fun e w' => e = .returned (.func (.func 122) #[] #[]) ∧ Below w.heap.size w w' := by
  have HB0 := hide ((Below.refl _ w).alloc (Nat.le_refl _) (Obj.cells #[.func (.func 118) #[] #[], .func (.func 119) #[] #[], .func (.func 120) #[] #[], .func (.func 121) #[] #[], .func (.func 122) #[] #[], .func (.func 123) #[] #[]] 103))
  go_enter Try.func113, Try.ntmps113
  go_wp2_with fail
  go_ret
  exact ⟨rfl, HB0.out⟩

theorem formulaOf5_any (w : World) :
    Calls Try.prog 113 #[.int .i64 5] w fun e w' => e = .returned (.func (.func 123) #[] #[]) ∧ Below w.heap.size w w' := by
  have HB0 := hide ((Below.refl _ w).alloc (Nat.le_refl _) (Obj.cells #[.func (.func 118) #[] #[], .func (.func 119) #[] #[], .func (.func 120) #[] #[], .func (.func 121) #[] #[], .func (.func 122) #[] #[], .func (.func 123) #[] #[]] 103))
  go_enter Try.func113, Try.ntmps113
  go_wp2_with fail
  go_ret
  exact ⟨rfl, HB0.out⟩

/-- What is asked of a formula. -/
def FormFn (F : FuncId) (mk : Value) (n : Nat) (h : Nat → Nat → Int) (w : World) : Prop :=
  ∀ (W : World) (x y : Nat), x < n → y < n → Below w.heap.size w W → Calls Try.prog F #[mk, .int .i64 x, .int .i64 y] W fun e w' => e = .returned (.int .i64 (h x y)) ∧ Below W.heap.size W w'

set_option maxRecDepth 100000 in
theorem byC_any (F : FuncId) (n : Nat) (a : Int) (A B : Option Addr) (n1 c1 n2 c2 : Nat) (h : Nat → Nat → Int) (bv bm : Nat) (w : World) (eg : ∀ args w, (callFunc F args).run Try.prog w = .ok (.enter F args) w)
    (hf : FormFn F (.agg #[.int .i64 n, .int .i64 a, .slice A n1 c1, .slice B n2 c2]) n h w) (hv : Blk w bv 100 [.func (.func F) #[] #[]]) (hm : Blk w bm 89 [.int .i64 n, .int .i64 a, .slice A n1 c1, .slice B n2 c2]) :
    CellFn Try.prog 115 #[.pointer (some ⟨bv, 0, none⟩), .pointer (some ⟨bm, 0, none⟩)] n h w := by
  intro W x y hx hy hb
  have HV := hide (hv.later hb)
  have HM := hide (hm.later hb)
  have HF := hide hf
  have HB := hide hb
  clear hv hm hf hb
  show Calls Try.prog 115 #[.int .i64 x, .int .i64 y, .pointer (some ⟨bv, 0, none⟩), .pointer (some ⟨bm, 0, none⟩)] W _
  go_enter Try.func115, Try.ntmps115
  have k0 := HV.out.cell 0 _ rfl
  have k1 := HM.out.cell 0 _ rfl
  have k2 := HM.out.cell 1 _ rfl
  have k3 := HM.out.cell 2 _ rfl
  have k4 := HM.out.cell 3 _ rfl
  have heg := fun args => eg args
  go_wp2_with (go_at_fn F; go_must (refine calls_gen fun wc hwc => ?_; (first | have hbx := drew_below hwc | have hbx := eq_below hwc); have HBc := hide (HB.out.trans (hbx.mono HB.out.size)); have HBW := hide hbx; clear hwc hbx; refine (HF.out _ x y hx hy HBc.out).mono ?_; rintro e wd ⟨rfl, hbd⟩; have HBd := hide (HBW.out.trans (hbd.mono HBW.out.size)); clear hbd))
  go_ret
  exact ⟨rfl, HBd.out⟩

set_option maxRecDepth 100000 in
theorem byFormula_any (kind : Int) (F : FuncId) (n : Nat) (a : Int) (A B : Option Addr) (n1 c1 n2 c2 : Nat) (h : Nat → Nat → Int) (w : World) (eg : ∀ args w, (callFunc F args).run Try.prog w = .ok (.enter F args) w) (h0 : 1 ≤ n) (h12 : n ≤ 12)
    (hk : ∀ W : World, Calls Try.prog 113 #[.int .i64 kind] W fun e w' => e = .returned (.func (.func F) #[] #[]) ∧ Below W.heap.size W w')
    (hf : FormFn F (.agg #[.int .i64 n, .int .i64 a, .slice A n1 c1, .slice B n2 c2]) n h w) :
    Calls Try.prog 102 #[.int .i64 kind, .agg #[.int .i64 n, .int .i64 a, .slice A n1 c1, .slice B n2 c2]] w fun e w' => ∃ A' c', e = .returned (.agg #[.slice A' n c']) ∧ Below w.heap.size w w' ∧ Obj2 42 2 w.heap.size w'.heap.size w' A' (grid n h) := by
  have HF := hide hf
  have HKD := hide hk
  clear hf hk
  go_enter Try.func102, Try.ntmps102
  go_wp2_with fail
  refine calls_gen fun w0 hw0 => ?_
  have HB0 : Hid (Below w.heap.size w w0) := hide (by rw [hw0]; exact ((Below.refl _ _).alloc (Nat.le_refl _) _).alloc (by simp) _)
  have HM0 : Hid (Blk w0 w.heap.size 89 [.int .i64 n, .int .i64 a, .slice A n1 c1, .slice B n2 c2]) := hide (by rw [hw0]; exact (Blk.new _ _ _).alloc _)
  have HK0 : Hid (Blk w0 (w.heap.size + 1) 48 [.slice none 0 0]) := hide (by rw [hw0]; have h := Blk.new (w.alloc (Obj.cells #[.int .i64 n, .int .i64 a, .slice A n1 c1, .slice B n2 c2] 89)) 48 [.slice none 0 0]; simpa using h)
  clear hw0
  refine (HKD.out w0).mono ?_
  rintro e w1 ⟨rfl, hb1⟩
  have HB1 := hide (HB0.out.trans (hb1.mono HB0.out.size))
  have HM1 := hide (HM0.out.later hb1)
  have HK1 := hide (HK0.out.later hb1)
  clear hb1
  have m0 := fun o => (HM1.out.alloc o).cell 0 _ rfl
  go_wp2_with fail
  refine calls_gen fun w2 hw2 => ?_
  have hb2 : Below w1.heap.size w1 w2 := by rw [hw2]; exact (Below.refl _ _).alloc (Nat.le_refl _) _
  have HB2 := hide (HB1.out.trans (hb2.mono HB1.out.size))
  have HM2 := hide (HM1.out.later hb2)
  have HK2 := hide (HK1.out.later hb2)
  have HV2 : Hid (Blk w2 w1.heap.size 100 [.func (.func F) #[] #[]]) := hide (by rw [hw2]; exact Blk.new _ _ _)
  clear hw2 hb2 m0
  refine (rackOf_any 115 _ n h _ (enters_of Try.func115 (by kernel_rfl) rfl) h0 h12 (byC_any F n a A B n1 c1 n2 c2 h w1.heap.size w.heap.size w2 eg (fun W x y hx hy hb => HF.out W x y hx hy (HB2.out.trans (hb.mono HB2.out.size))) HV2.out HM2.out)).mono ?_
  rintro e w3 ⟨A3, c3, rfl, hb3, ho3⟩
  have HB3 := hide (HB2.out.trans (hb3.mono HB2.out.size))
  have HK3 := hide (HK2.out.later hb3)
  have hlow : w.heap.size + 1 < w2.heap.size := HK2.out.lt
  have HO3 := hide ho3
  clear hb3 ho3
  have k2 := HK3.out.cell 0 _ rfl
  have k3 := HK3.out.frozen 0
  go_wp2_with fail
  refine bp_gen fun wf hwf => ?_
  obtain ⟨q0, hbf, hof⟩ := kend hwf HK3.out (by omega) HB3.out HO3.out (by omega) hlow (Nat.le_refl _)
  clear hwf k2 k3
  exact bodyPost_ret (v := .agg #[.slice A3 n c3]) (by simp [results, Try.results102, go_sem, q0]) rfl ⟨_, _, rfl, hbf, hof⟩
end Go.Proofs.Ytngfdkmiifpbgaa
