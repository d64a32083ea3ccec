import Derived.Test.YtaejgmdeiemhcaaZs
import Derived.Test.YtaejgmdeiemhcaaZp
import Derived.Shelf.Abstract
import Derived.Shelf.Lay
import Derived.Deep.Cut
import Derived.Deep.RegionHeld3
import Derived.Test.YtaejgmdeiemhcaaZj
import Derived.Test.YtaejgmdeiemhcaaZi
namespace Go.Proofs.Ytaejgmdeiemhcaa
open Go Go.RowKit
set_option maxHeartbeats 2000000
/-- A function of a solution that returns a list of rows in new memory. -/
def SysFn (P : Program) (ts t : TypeId) (F : FuncId) (lb : Array Value) (f s rows : List (List Int)) (k : Nat) : Prop :=
  ∀ (W : World) (A : Option Addr) (n c : Nat) (B : Option Addr) (m d : Nat), ZArg 1048576 W A n f B m s → NdS f s → Calls P F (#[.agg #[.slice A n c, .slice B m d]] ++ lb) W fun e w' => ∃ A' c', e = .returned (.slice A' k c') ∧ Below W.heap.size W w' ∧ Obj2 ts t W.heap.size w'.heap.size w' A' rows
set_option maxRecDepth 100000 in
theorem sysOf_any (F : FuncId) (lb : Array Value) (rows : List (List Int)) (k : Nat) (A : Option Addr) (n c : Nat) (f : List (List Int)) (B : Option Addr) (m d : Nat) (s zs : List (List Int)) (code : Int) (kz : Nat) (w : World) (hz : ZArg 1048576 w A n f B m s) (eg : ∀ args w, (callFunc F args).run Try.prog w = .ok (.enter F args) w) (hf : SysFn Try.prog 37 2 F lb f s rows k) (hr : TRes7 (NdS f s) rows zs code) (hk : zs.length = kz) (hkr : rows.length = k) :
    Calls Try.prog 56 #[.agg #[.slice A n c, .slice B m d], .func (.func F) #[] lb] w (TPost 37 2 kz zs code w) := by
  have HZ := hide hz
  have HF := hide hf
  have HB0 := hide ((Below.refl _ w).alloc (Nat.le_refl _) (Obj.cells #[Value.slice A n c, Value.slice B m d] 28))
  have HK0 := hide (Blk.new w 28 [.slice A n c, .slice B m d])
  clear hz hf
  rcases hr with ⟨hg, rfl, rfl⟩ | ⟨hg, rfl, rfl⟩
  · obtain rfl : k = kz := by omega
    have HG := hide hg
    clear hg hk hkr
    go_enter Try.func56, Try.ntmps56
    go_wp2_with fail
    refine (nd7I _ _ _ f _ _ _ s true _ (HZ.out.later HB0.out) (by simp [HG.out])).mono ?_
    rintro e w1 ⟨rfl, hb1⟩
    have HB1 := hide (HB0.out.trans (hb1.mono HB0.out.size))
    have HK1 := hide (HK0.out.later hb1)
    have k0 := HK1.out.cell 0 _ rfl
    have k1 := HK1.out.cell 1 _ rfl
    clear hb1
    have heg := fun args => eg args
    go_wp2_with (go_at_fn F; go_must (refine calls_gen fun wc hwc => ?_; (first | have hbx := drew_below hwc | have hbx := eq_below hwc); have HBc := hide (HB1.out.trans (hbx.mono HB1.out.size)); clear hwc hbx; refine (HF.out _ _ _ _ _ _ _ (HZ.out.later HBc.out) HG.out).mono ?_; rintro e wd ⟨A2, c2, rfl, hbd, hobj⟩; have HB2 := hide (HBc.out.trans (hbd.mono HBc.out.size)); have HO2 := hide (hobj.mono (lo' := w.heap.size) HBc.out.size (Nat.le_refl _)); clear hbd hobj))
    clear k0 k1
    go_ret2
    exact ⟨_, _, rfl, HB2.out, HO2.out⟩
  · obtain rfl : kz = 0 := by simpa using hk.symm
    have HG := hide hg
    clear hg hk hkr
    go_enter Try.func56, Try.ntmps56
    go_wp2_with fail
    refine (nd7I _ _ _ f _ _ _ s false _ (HZ.out.later HB0.out) (by simp [HG.out])).mono ?_
    rintro e w1 ⟨rfl, hb1⟩
    have HB1 := hide (HB0.out.trans (hb1.mono HB0.out.size))
    clear hb1
    go_wp2_with fail
    go_ret2
    exact ⟨_, _, rfl, HB1.out, .inl ⟨rfl, rfl⟩⟩
end Go.Proofs.Ytaejgmdeiemhcaa
namespace Go.Proofs.Ytaejgmdeiemhcaa
open Go Go.RowKit
set_option maxHeartbeats 2000000
theorem lamWS (A : Option Addr) (n c : Nat) (f : List (List Int)) (B : Option Addr) (m d : Nat) (s zs : List (List Int)) (code : Int) (kz : Nat) (w : World) (hz : ZArg 1048576 w A n f B m s) (hr : LamRes f s zs code) (hk : zs.length = kz) :
    Calls Try.prog 16 #[.agg #[.slice A n c, .slice B m d]] w (TPost 37 2 kz zs code w) := by
  have HZ := hide hz
  have HB0 := hide ((Below.refl _ w).alloc (Nat.le_refl _) (Obj.cells #[Value.slice A n c, Value.slice B m d] 28))
  have HK0 := hide (Blk.new w 28 [.slice A n c, .slice B m d])
  rcases hr with ⟨hg, hzs, rfl⟩ | ⟨hg, rfl, rfl⟩
  · obtain rfl := hz.same hg.map
    have hzs := hzs.symm
    subst hzs
    obtain rfl : m = kz := by rw [← hk]; exact hz.sz.fl.symm
    have H1 := hide (hg.sizes hz.sz.fl).1
    have HG := hide hg
    clear hg hk hz
    go_enter Try.func16, Try.ntmps16
    go_wp2_with fail
    refine (nd7S _ _ _ f _ _ _ s true _ (HZ.out.later HB0.out) (by simp [HG.out])).mono ?_
    rintro e w1 ⟨rfl, hb1⟩
    have HB1 := hide (HB0.out.trans (hb1.mono HB0.out.size))
    have HK1 := hide (HK0.out.later hb1)
    have k0 := HK1.out.cell 0 _ rfl
    have k1 := HK1.out.cell 1 _ rfl
    clear hb1
    go_wp2_with fail
    refine (own2q_any _ m _ m f _ HZ.out.sz.fl H1.out HZ.out.sz.nb H1.out HZ.out.sz.nb (fun i hi => by rw [HG.out.map.1.rows i hi]; exact HZ.out.sz.fl) (HZ.out.later HB1.out).fst).mono ?_
    rintro e w2 ⟨A2, c2, rfl, hb2, hobj⟩
    have HB2 := hide (HB1.out.trans (hb2.mono HB1.out.size))
    have HO2 := hide (hobj.mono (lo' := w.heap.size) HB1.out.size (Nat.le_refl _))
    clear hb2 hobj k0 k1
    go_wp2_with fail
    go_ret2
    exact ⟨_, _, rfl, HB2.out, HO2.out⟩
  · obtain rfl : kz = 0 := by simpa using hk.symm
    have HG := hide hg
    clear hg hk hz
    go_enter Try.func16, Try.ntmps16
    go_wp2_with fail
    refine (nd7S _ _ _ f _ _ _ s false _ (HZ.out.later HB0.out) (by simp [HG.out])).mono ?_
    rintro e w1 ⟨rfl, hb1⟩
    have HB1 := hide (HB0.out.trans (hb1.mono HB0.out.size))
    clear hb1
    go_wp2_with fail
    go_ret2
    exact ⟨_, _, rfl, HB1.out, .inl ⟨rfl, rfl⟩⟩
theorem rhoWS (A : Option Addr) (n c : Nat) (f : List (List Int)) (B : Option Addr) (m d : Nat) (s zs : List (List Int)) (code : Int) (kz : Nat) (w : World) (hz : ZArg 1048576 w A n f B m s) (hr : RhoRes f s zs code) (hk : zs.length = kz) :
    Calls Try.prog 24 #[.agg #[.slice A n c, .slice B m d]] w (TPost 37 2 kz zs code w) := by
  have HZ := hide hz
  have HB0 := hide ((Below.refl _ w).alloc (Nat.le_refl _) (Obj.cells #[Value.slice A n c, Value.slice B m d] 28))
  have HK0 := hide (Blk.new w 28 [.slice A n c, .slice B m d])
  rcases hr with ⟨hg, hzs, rfl⟩ | ⟨hg, rfl, rfl⟩
  · obtain rfl := hz.same hg.map
    have hzs := hzs.symm
    subst hzs
    obtain rfl : m = kz := by rw [← hk]; rw [turnL_length]; exact hz.sz.sl.symm
    have H1 := hide (hg.sizes hz.sz.fl).1
    have HG := hide hg
    clear hg hk hz
    go_enter Try.func24, Try.ntmps24
    go_wp2_with fail
    refine (nd7S _ _ _ f _ _ _ s true _ (HZ.out.later HB0.out) (by simp [HG.out])).mono ?_
    rintro e w1 ⟨rfl, hb1⟩
    have HB1 := hide (HB0.out.trans (hb1.mono HB0.out.size))
    have HK1 := hide (HK0.out.later hb1)
    have k0 := HK1.out.cell 0 _ rfl
    have k1 := HK1.out.cell 1 _ rfl
    clear hb1
    go_wp2_with fail
    refine (l01Turn_any _ _ _ s _ HZ.out.sz.sl HZ.out.sz.nb (fun i hi => by rw [HG.out.map.2.1.rows i hi]; exact HZ.out.sz.sl) (HZ.out.later HB1.out).snd).mono ?_
    rintro e w2 ⟨A2, c2, rfl, hb2, hobj⟩
    have HB2 := hide (HB1.out.trans (hb2.mono HB1.out.size))
    have HO2 := hide (hobj.mono (lo' := w.heap.size) HB1.out.size (Nat.le_refl _))
    clear hb2 hobj k0 k1
    go_wp2_with fail
    go_ret2
    exact ⟨_, _, rfl, HB2.out, HO2.out⟩
  · obtain rfl : kz = 0 := by simpa using hk.symm
    have HG := hide hg
    clear hg hk hz
    go_enter Try.func24, Try.ntmps24
    go_wp2_with fail
    refine (nd7S _ _ _ f _ _ _ s false _ (HZ.out.later HB0.out) (by simp [HG.out])).mono ?_
    rintro e w1 ⟨rfl, hb1⟩
    have HB1 := hide (HB0.out.trans (hb1.mono HB0.out.size))
    clear hb1
    go_wp2_with fail
    go_ret2
    exact ⟨_, _, rfl, HB1.out, .inl ⟨rfl, rfl⟩⟩
end Go.Proofs.Ytaejgmdeiemhcaa
