import Derived.Test.YtaejgmdeiemhcaaZbk
import Derived.Test.YtaejgmdeiemhcaaZat
import Derived.Test.YtaejgmdeiemhcaaZs
namespace Go.Proofs.Ytaejgmdeiemhcaa
open Go Go.RowKit
open Classical
set_option maxHeartbeats 2000000
set_option maxRecDepth 100000 in
theorem lgS (A : Option Addr) (n c : Nat) (f : List (List Int)) (B : Option Addr) (m d : Nat) (s : List (List Int)) (zs : List (List Int)) (code : Int) (kz : Nat) (w : World) (hz : ZArg 1048576 w A n f B m s) (hr : LgRes f s zs code) (hk : zs.length = kz) :
    Calls Try.prog 26 #[.agg #[.slice A n c, .slice B m d]] w (TPost 37 2 kz zs code w) := by
  have HZ := hide hz
  have HB0 := hide ((Below.refl _ w).alloc (Nat.le_refl _) (Obj.cells #[Value.slice A n c, Value.slice B m d] 28))
  have HK0 := hide (Blk.new w 28 [.slice A n c, .slice B m d])
  rcases hr with ⟨hg, hgr⟩ | ⟨hg, rfl, rfl⟩
  · obtain rfl := hz.same hg.map
    have h1 := (hg.sizes hz.sz.fl).1
    have h12 := (hg.sizes hz.sz.fl).2.1
    have HG := hide hg
    rw [hz.sz.fl] at hgr
    have HGR := hide hgr
    have HKK := hide hk
    clear hgr hk
    clear hg hz
    go_enter Try.func26, Try.ntmps26
    go_wp2_with fail
    refine (nd7S _ _ _ f _ _ _ s true _ (HZ.out.later HB0.out) (by simp [HG.out])).mono ?_
    rintro e w1 ⟨rfl, hb1⟩
    have HB1 := hide (HB0.out.trans (hb1.mono HB0.out.size))
    have HK1 := hide (HK0.out.later hb1)
    have k0 := HK1.out.cell 0 _ rfl
    have k1 := HK1.out.cell 1 _ rfl
    clear hb1
    go_wp2_with fail
    refine (grpO_any m 1000 _ m _ f _ h1 h12 (by omega) (by omega) HZ.out.sz.fl (by omega) (HG.out.lam HZ.out.sz.fl) (HZ.out.later HB1.out).fst).mono ?_
    rintro e w2 (⟨L, A', c', hE, ha, hL, rfl, hbd, hobj⟩ | ⟨hn, rfl, hbd⟩)
    · have HB2 := hide (HB1.out.trans (hbd.mono HB1.out.size))
      have hz : L = zs ∧ code = 0 := by
        rcases HGR.out with ⟨hE', ha', _, hc⟩ | ⟨hn, _, _⟩
        · exact ⟨hE.ascEq hE' ha ha', hc⟩
        · exact absurd ⟨L, hE, hL⟩ hn
      obtain ⟨hz1, rfl⟩ := hz
      have hkl : L.length = kz := by rw [hz1]; exact HKK.out
      rw [hkl]
      have HO := hide (hobj.mono (lo' := w.heap.size) HB1.out.size (Nat.le_refl _))
      have HZ1 := hide hz1
      clear hbd hobj hE ha hkl
      go_wp2_with fail
      go_ret2
      exact ⟨_, _, rfl, HB2.out, by rw [← HZ1.out]; exact HO.out⟩
    · have HB2 := hide (HB1.out.trans (hbd.mono HB1.out.size))
      have hz : zs = [] ∧ code = 3 := by
        rcases HGR.out with ⟨hE', _, hl', _⟩ | ⟨_, h1, h2⟩
        · exact absurd ⟨zs, hE', hl'⟩ hn
        · exact ⟨h1, h2⟩
      obtain ⟨rfl, rfl⟩ := hz
      obtain rfl : kz = 0 := by simpa using HKK.out.symm
      clear hbd hn
      go_wp2_with fail
      go_ret2
      exact ⟨_, _, rfl, HB2.out, .inl ⟨rfl, rfl⟩⟩
  · skip
    obtain rfl : kz = 0 := by simpa using hk.symm
    have HG := hide hg
    clear hg hz
    go_enter Try.func26, Try.ntmps26
    go_wp2_with fail
    refine (nd7S _ _ _ f _ _ _ s false _ (HZ.out.later HB0.out) (by simp [HG.out])).mono ?_
    rintro e w1 ⟨rfl, hb1⟩
    have HB1 := hide (HB0.out.trans (hb1.mono HB0.out.size))
    clear hb1
    go_wp2_with fail
    go_ret2
    exact ⟨_, _, rfl, HB1.out, .inl ⟨rfl, rfl⟩⟩
end Go.Proofs.Ytaejgmdeiemhcaa
