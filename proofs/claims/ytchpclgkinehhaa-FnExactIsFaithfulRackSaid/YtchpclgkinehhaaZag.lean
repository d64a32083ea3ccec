import Derived.Test.YtchpclgkinehhaaZab
import Derived.Test.YtchpclgkinehhaaZl
import Derived.Shelf.Abstract
import Derived.Shelf.Lay
namespace Go.Proofs.Ytchpclgkinehhaa
open Go Go.RowKit
set_option maxHeartbeats 2000000

/-- What is asked of the property. -/
def HasFn (F : FuncId) (v : Value) (r : Bool) (w : World) : Prop :=
  ∀ (W : World), Below w.heap.size w W → Calls Try.prog F #[v] W fun e w' => e = .returned (.bool r) ∧ Below W.heap.size W w'

set_option maxRecDepth 100000 in
theorem judged_any (F : FuncId) (A : Option Addr) (n c : Nat) (f : List (List Int)) (cond : Prop) (r : Bool) (code : Int) (w : World) (eg : ∀ args w, (callFunc F args).run Try.prog w = .ok (.enter F args) w) (hn : f.length = n) (hb : n ≤ 1048576) (hbs : ∀ i, i < f.length → (f.getD i []).length ≤ 1048576) (hr : Rd2 w A f) (hres : BRes (Rck f) cond r code) (hfn : Rck f → (r = true ↔ cond) → HasFn F (.agg #[.slice A n c]) r w) :
    Calls Try.prog 65 #[.agg #[.slice A n c], .func (.func F) #[.agg #[.slice A n c]] #[]] w fun e w' => e = .returned (.tuple #[.bool r, .int .i64 code]) ∧ Below w.heap.size w w' := by
  have HN := hide hn
  have HBS := hide hbs
  have HRD := hide hr
  have HB0 := hide ((Below.refl _ w).alloc (Nat.le_refl _) (Obj.cells #[Value.slice A n c] 27))
  have HK0 := hide (Blk.new w 27 [.slice A n c])
  rcases hres with ⟨hp, hrc, rfl⟩ | ⟨hp, rfl, rfl⟩
  · have HF := hide (hfn hp hrc)
    clear hfn hrc
    have HRK : Hid (RkRes f true) := hide (by unfold RkRes; simp [hp])
    have HP := hide hp
    clear hn hbs hr hp
    go_enter Try.func65, Try.ntmps65
    go_wp2_with fail
    refine (isRackI _ _ _ f true _ HN.out hb HBS.out (HRD.out.later HB0.out) HRK.out).mono ?_
    rintro e w1 ⟨rfl, hb1⟩
    have HB1 := hide (HB0.out.trans (hb1.mono HB0.out.size))
    have HK1 := hide (HK0.out.later hb1)
    clear hb1
    have k0 := HK1.out.cell 0 _ rfl
    have heg := fun args => eg args
    go_wp2_with (go_at_fn F; go_must (refine calls_gen fun wc hwc => ?_; (first | have hbx := drew_below hwc | have hbx := eq_below hwc); have HBc := hide (HB1.out.trans (hbx.mono HB1.out.size)); clear hwc hbx; refine (HF.out _ HBc.out).mono ?_; rintro e wd ⟨rfl, hbd⟩; have HBd := hide (HBc.out.trans (hbd.mono HBc.out.size)); clear hbd))
    go_outline
    go_ret2
    exact ⟨rfl, HBd.out⟩
  · skip
    have HRK : Hid (RkRes f false) := hide (by unfold RkRes; simp [hp])
    have HP := hide hp
    clear hn hbs hr hp
    go_enter Try.func65, Try.ntmps65
    go_wp2_with fail
    refine (isRackI _ _ _ f false _ HN.out hb HBS.out (HRD.out.later HB0.out) HRK.out).mono ?_
    rintro e w1 ⟨rfl, hb1⟩
    have HB1 := hide (HB0.out.trans (hb1.mono HB0.out.size))
    have HK1 := hide (HK0.out.later hb1)
    clear hb1
    go_wp2_with fail
    go_ret2
    exact ⟨rfl, HB1.out⟩

end Go.Proofs.Ytchpclgkinehhaa
