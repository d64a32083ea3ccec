import Derived.Test.YtaejgmdeiemhcaaZbk
import Derived.Test.YtaejgmdeiemhcaaZbj
import Derived.Test.YtaejgmdeiemhcaaZaj
namespace Go.Proofs.Ytaejgmdeiemhcaa
open Go Go.RowKit
open Classical
set_option maxHeartbeats 2000000
set_option maxRecDepth 100000 in
theorem geI (N : Int) (A : Option Addr) (m c : Nat) (rows : List (List Int)) (zs : List (List Int)) (code : Int) (k : Nat) (w : World) (hlo : -9223372036854775808 ≤ N) (hhi : N ≤ 9223372036854775807) (hm : rows.length = m) (hb : m ≤ 1048576) (hbs : ∀ i, i < rows.length → (rows.getD i []).length ≤ 1048576) (hr : Rd2 w A rows) (hres : GeRes N rows zs code) (hk : zs.length = k) :
    Calls Try.prog 61 #[.int .i64 N, .slice A m c] w (TPost 37 2 k zs code w) := by
  have HM := hide hm
  clear hm
  rcases hres with ⟨hs, hgr⟩ | ⟨hs, rfl, rfl⟩
  · obtain ⟨n, rfl⟩ := Int.eq_ofNat_of_zero_le (show 0 ≤ N by have := hs.1; omega)
    rw [Int.toNat_natCast] at hgr
    have h1 : 1 ≤ n := by have := hs.1; omega
    have h12 : n ≤ 12 := by have := hs.2.1; omega
    have h16 : m ≤ 16 := by have := hs.2.2.1; have := HM.out; omega
    have HG := hide hs.gens
    have HS := hide hs
    have HGR := hide hgr
    have HKK := hide hk
    clear hs hgr hk
    go_enter Try.func61, Try.ntmps61
    go_wp2_with fail
    refine (isSystem_any _ _ _ _ rows true _ hlo hhi HM.out hb hbs hr (by simp [HS.out])).mono ?_
    rintro e w1 ⟨rfl, hb1⟩
    have HB1 := hide hb1
    clear hb1
    go_wp2_with fail
    refine (groupUpTo_any n 1000 _ m _ rows _ h1 h12 (by omega) (by omega) HM.out (by omega) HG.out (hr.later HB1.out)).mono ?_
    rintro e w2 (⟨L, vals, v, hE, hL, rfl, hbd, hlst⟩ | ⟨hn, rfl, hbd⟩)
    · have HB2 := hide (HB1.out.trans (hbd.mono HB1.out.size))
      have HE := hide hE
      have HL := hide hlst
      have hbs2 := HB1.out.size
      have hbs3 := hbd.size
      have hpos := hE.pos
      have HLR := hide (fun i hi => hE.rows h1 h12 HG.out i hi)
      clear hbd hlst hE
      go_wp2_with fail
      refine (sortRows_any n _ _ L vals _ (by omega) hpos (by omega) HLR.out HE.out.1 hbs3 HL.out).mono ?_
      rintro e w3 ⟨rfl, hb3, rows', vals', hl3, ha3, hlen3, hm3⟩
      have HB3 := hide (HB2.out.trans (hb3.mono hbs2))
      obtain ⟨A', c', hv, hobj⟩ := hl3.shape
      have hz : rows' = zs ∧ code = 0 := by
        rcases HGR.out with ⟨hE', ha', _, hc⟩ | ⟨hn, _, _⟩
        · exact ⟨(HE.out.sorted ha3 hm3).ascEq hE' ha3 ha', hc⟩
        · exact absurd ⟨L, HE.out, hL⟩ hn
      obtain ⟨hz1, rfl⟩ := hz
      have hkl : rows'.length = k := by rw [hz1]; exact HKK.out
      rw [hkl] at hv
      have HO := hide (hobj.mono (lo' := w.heap.size) hbs2 (Nat.le_refl _))
      have HZ1 := hide hz1
      clear hb3 hl3 ha3 hlen3 hm3 hobj HL HLR
      subst hv
      go_wp2_with fail
      go_ret2
      exact ⟨_, _, rfl, HB3.out, by rw [← HZ1.out]; exact HO.out⟩
    · have HB2 := hide (HB1.out.trans (hbd.mono HB1.out.size))
      have hz : zs = [] ∧ code = 3 := by
        rcases HGR.out with ⟨hE', _, hl', _⟩ | ⟨_, h1, h2⟩
        · exact absurd ⟨zs, hE', hl'⟩ hn
        · exact ⟨h1, h2⟩
      obtain ⟨rfl, rfl⟩ := hz
      obtain rfl : k = 0 := by simpa using HKK.out.symm
      clear hbd hn
      go_wp2_with fail
      go_ret2
      exact ⟨_, _, rfl, HB2.out, .inl ⟨rfl, rfl⟩⟩
  · obtain rfl : k = 0 := by simpa using hk.symm
    have HS := hide hs
    clear hs hk
    go_enter Try.func61, Try.ntmps61
    go_wp2_with fail
    refine (isSystem_any _ _ _ _ rows false _ hlo hhi HM.out hb hbs hr (by simp [HS.out])).mono ?_
    rintro e w1 ⟨rfl, hb1⟩
    have HB1 := hide hb1
    clear hb1
    go_wp2_with fail
    go_ret2
    exact ⟨_, _, rfl, HB1.out, .inl ⟨rfl, rfl⟩⟩
end Go.Proofs.Ytaejgmdeiemhcaa
