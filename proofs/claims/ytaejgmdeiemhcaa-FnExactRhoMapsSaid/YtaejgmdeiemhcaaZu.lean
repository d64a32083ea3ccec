import Derived.Test.YtaejgmdeiemhcaaZt
import Derived.Test.YtaejgmdeiemhcaaZp
namespace Go.Proofs.Ytaejgmdeiemhcaa
open Go Go.RowKit
set_option maxHeartbeats 2000000
theorem sysLam (f s : List (List Int)) (n : Nat) (hn : f.length = n) : SysFn Try.prog 37 2 57 #[] f s f n := by
  intro W A n' c B m d hz hg
  obtain rfl : n = n' := by rw [← hn]; exact hz.sz.fl
  have h1 := (hg.sizes hn).1
  simpa using lamZ_any A n c f B m d s W hz h1
theorem sysRho (f s : List (List Int)) (n : Nat) (hn : f.length = n) : SysFn Try.prog 37 2 59 #[] f s (turnL s) n := by
  intro W A n' c B m d hz hg
  obtain rfl : n = n' := by rw [← hn]; exact hz.sz.fl
  simpa using rhoZ_any A n c f B m d s W hz hg.map
theorem lamWI (A : Option Addr) (n c : Nat) (f : List (List Int)) (B : Option Addr) (m d : Nat) (s zs : List (List Int)) (code : Int) (kz : Nat) (w : World) (hz : ZArg 1048576 w A n f B m s) (hr : LamRes f s zs code) (hk : zs.length = kz) :
    Calls Try.prog 18 #[.agg #[.slice A n c, .slice B m d]] w (TPost 37 2 kz zs code w) := by
  have HZ := hide hz
  have HR := hide hr
  have HB0 := hide ((Below.refl _ w).alloc (Nat.le_refl _) (Obj.cells #[Value.slice A n c, Value.slice B m d] 28))
  have HKK := hide hk
  clear hz hr hk
  go_enter Try.func18, Try.ntmps18
  go_wp2_with fail
  refine (sysOf_any 57 #[] f n _ _ _ f _ _ _ s zs code kz _ (HZ.out.later HB0.out) (enters_of Try.func57 (by kernel_rfl) rfl) (sysLam f s n HZ.out.sz.fl) HR.out HKK.out HZ.out.sz.fl).mono ?_
  rintro e w1 ⟨A1, c1, rfl, hb1, hobj⟩
  have HB1 := hide (HB0.out.trans (hb1.mono HB0.out.size))
  have HO1 := hide (hobj.mono (lo' := w.heap.size) HB0.out.size (Nat.le_refl _))
  clear hb1 hobj
  go_wp2_with fail
  go_ret2
  exact ⟨_, _, rfl, HB1.out, HO1.out⟩
theorem rhoWI (A : Option Addr) (n c : Nat) (f : List (List Int)) (B : Option Addr) (m d : Nat) (s zs : List (List Int)) (code : Int) (kz : Nat) (w : World) (hz : ZArg 1048576 w A n f B m s) (hr : RhoRes f s zs code) (hk : zs.length = kz) :
    Calls Try.prog 25 #[.agg #[.slice A n c, .slice B m d]] w (TPost 37 2 kz zs code w) := by
  have HZ := hide hz
  have HB0 := hide ((Below.refl _ w).alloc (Nat.le_refl _) (Obj.cells #[Value.slice A n c, Value.slice B m d] 28))
  obtain ⟨q, hq⟩ : ∃ q, (turnL s).length = q := ⟨_, rfl⟩
  have HR := hide hr
  have HKK := hide hk
  have HQ := hide hq
  have HQN : Hid (NdS f s → q = n) := hide (fun h => by rw [← hq, turnL_length, (h.sizes hz.sz.fl).2.2])
  have hsys : SysFn Try.prog 37 2 59 #[] f s (turnL s) q := by
    intro W A2 n2 c2 B2 m2 d2 hz2 hg
    rw [HQN.out hg]
    exact sysRho f s n HZ.out.sz.fl W A2 n2 c2 B2 m2 d2 hz2 hg
  have HS := hide hsys
  clear hz hr hk hq hsys
  go_enter Try.func25, Try.ntmps25
  go_wp2_with fail
  refine (sysOf_any 59 #[] (turnL s) q _ _ _ f _ _ _ s zs code kz _ (HZ.out.later HB0.out) (enters_of Try.func59 (by kernel_rfl) rfl) HS.out HR.out HKK.out HQ.out).mono ?_
  rintro e w1 ⟨A1, c1, rfl, hb1, hobj⟩
  have HB1 := hide (HB0.out.trans (hb1.mono HB0.out.size))
  have HO1 := hide (hobj.mono (lo' := w.heap.size) HB0.out.size (Nat.le_refl _))
  clear hb1 hobj
  go_wp2_with fail
  go_ret2
  exact ⟨_, _, rfl, HB1.out, HO1.out⟩
end Go.Proofs.Ytaejgmdeiemhcaa
