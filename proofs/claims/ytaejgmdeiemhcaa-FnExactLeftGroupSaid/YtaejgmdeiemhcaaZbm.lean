import Derived.Test.YtaejgmdeiemhcaaZbl
import Derived.Test.YtaejgmdeiemhcaaZas
namespace Go.Proofs.Ytaejgmdeiemhcaa
open Go Go.RowKit
open Classical
set_option maxHeartbeats 2000000
set_option maxRecDepth 100000 in
theorem lgI (A : Option Addr) (n c : Nat) (f : List (List Int)) (B : Option Addr) (m d : Nat) (s zs : List (List Int)) (code : Int) (kz : Nat) (w : World) (hz : ZArg 1048576 w A n f B m s) (hr : LgRes f s zs code) (hk : zs.length = kz) :
    Calls Try.prog 27 #[.agg #[.slice A n c, .slice B m d]] w (TPost 37 2 kz zs code w) := by
  have HZ := hide hz
  have HKK := hide hk
  have HB0 := hide ((Below.refl _ w).alloc (Nat.le_refl _) (Obj.cells #[Value.slice A n c, Value.slice B m d] 28))
  have HK0 := hide (Blk.new w 28 [.slice A n c, .slice B m d])
  have HF := hide (sysLamR f s n hz.sz.fl)
  clear hz hk
  rcases hr with ⟨hg, hgr⟩ | ⟨hg, rfl, rfl⟩
  · rw [HZ.out.sz.fl] at hgr
    have HG := hide hg
    have HGR := hide hgr
    have hs := hg.sizes HZ.out.sz.fl
    have h1 := hs.1
    have h12 := hs.2.1
    clear hg hgr hs
    go_enter Try.func27, Try.ntmps27
    go_wp2_with fail
    refine (sysOfR_any 57 #[] f n _ _ _ f _ _ _ s f 0 n _ (HZ.out.later HB0.out) (enters_of Try.func57 (by kernel_rfl) rfl) HF.out (.inl ⟨HG.out, rfl, rfl⟩) HZ.out.sz.fl (fun _ => HZ.out.sz.fl)).mono ?_
    rintro e w1 ⟨A1, c1, rfl, hb1, hrd⟩
    have HB1 := hide (HB0.out.trans (hb1.mono HB0.out.size))
    have HK1 := hide (HK0.out.later hb1)
    have HRD := hide hrd
    have k0 := HK1.out.cell 0 _ rfl
    have k1 := HK1.out.cell 1 _ rfl
    clear hb1 hrd
    go_wp2_with fail
    refine (size_any _ n _ _ _ _ _ HZ.out.sz.nb).mono ?_
    rintro e w2 ⟨rfl, hb2⟩
    have HB2 := hide (HB1.out.trans (hb2.mono HB1.out.size))
    replace HRD := hide (HRD.out.later hb2)
    clear hb2 k0 k1
    go_wp2_with fail
    refine (geI (n : Int) _ n _ f zs code kz _ (by omega) (by omega) HZ.out.sz.fl HZ.out.sz.nb HZ.out.sz.nr HRD.out (.inl ⟨HG.out.sys HZ.out.sz.fl, by rw [Int.toNat_natCast]; exact HGR.out⟩) HKK.out).mono ?_
    rintro e w3 ⟨A3, c3, rfl, hb3, hobj⟩
    have HB3 := hide (HB2.out.trans (hb3.mono HB2.out.size))
    have HO := hide (hobj.mono (lo' := w.heap.size) HB2.out.size (Nat.le_refl _))
    clear hb3 hobj
    go_wp2_with fail
    go_ret2
    exact ⟨_, _, rfl, HB3.out, HO.out⟩
  · obtain rfl : kz = 0 := by simpa using HKK.out.symm
    have HG := hide hg
    clear hg
    go_enter Try.func27, Try.ntmps27
    go_wp2_with fail
    refine (sysOfR_any 57 #[] f n _ _ _ f _ _ _ s [] 1 0 _ (HZ.out.later HB0.out) (enters_of Try.func57 (by kernel_rfl) rfl) HF.out (.inr ⟨HG.out, rfl, rfl⟩) rfl (fun h => absurd h HG.out)).mono ?_
    rintro e w1 ⟨A1, c1, rfl, hb1, hrd⟩
    have HB1 := hide (HB0.out.trans (hb1.mono HB0.out.size))
    clear hb1 hrd
    go_wp2_with fail
    go_ret2
    exact ⟨_, _, rfl, HB1.out, .inl ⟨rfl, rfl⟩⟩
end Go.Proofs.Ytaejgmdeiemhcaa
