import Derived.Test.YtkagfjofjbpfeaaZaw
import Derived.Test.YtkagfjofjbpfeaaZaf
namespace Go.Proofs.Ytkagfjofjbpfeaa
open Go Go.RowKit
open Classical
set_option maxHeartbeats 2000000

theorem orbWI_any (N : Int) (A : Option Addr) (m c : Nat) (rows : List (List Int)) (zs : List Int) (code : Int) (k : Nat) (w : World) (hlo : -9223372036854775808 ≤ N) (hhi : N ≤ 9223372036854775807) (hm : rows.length = m) (hb : m ≤ 1048576) (hbs : ∀ i, i < rows.length → (rows.getD i []).length ≤ 1048576) (hr : Rd2 w A rows) (hres : OrbRes N rows zs code) (hk : zs.length = k) :
    Calls Try.prog 84 #[.int .i64 N, .slice A m c] w (RPost 2 k zs code w) := by
  have HM := hide hm
  clear hm
  rcases hres with ⟨hs, rfl, rfl⟩ | ⟨hs, rfl, rfl⟩
  · obtain ⟨n, rfl⟩ := Int.eq_ofNat_of_zero_le (show 0 ≤ N by have := hs.1; omega)
    rw [labL_length, Int.toNat_natCast] at hk
    rw [Int.toNat_natCast]
    subst hk
    have h1 : 1 ≤ n := by have := hs.1; omega
    have h12 : n ≤ 12 := by have := hs.2.1; omega
    have h16 : m ≤ 64 := by have := hs.2.2.1; have := HM.out; omega
    have HG := hide hs.gens
    have HS := hide hs
    clear hs
    go_enter Try.func84, Try.ntmps84
    go_wp2_with fail
    refine (isSystem_any _ _ _ _ rows true _ hlo hhi HM.out hb hbs hr (by simp [HS.out])).mono ?_
    rintro e w1 ⟨rfl, hb1⟩
    have HB1 := hide hb1
    clear hb1
    go_wp2_with fail
    refine (orbL_any _ m _ n rows _ HM.out h16 h1 h12 HG.out (hr.later HB1.out)).mono ?_
    rintro e w2 ⟨g, c2, rfl, hb2, hg2, how2⟩
    have HG0 := hide (Nat.le_trans HB1.out.size hg2)
    have HB2 := hide (HB1.out.trans (hb2.mono HB1.out.size))
    have HO2 := hide how2
    clear hb2 how2 hg2
    go_wp2_with fail
    go_ret2
    exact ⟨_, _, rfl, HB2.out, .inr ⟨g, rfl, HG0.out, HO2.out⟩⟩
  · obtain rfl : k = 0 := by simpa using hk.symm
    have HS := hide hs
    clear hs hk
    go_enter Try.func84, Try.ntmps84
    go_wp2_with fail
    refine (isSystem_any _ _ _ _ rows false _ hlo hhi HM.out hb hbs hr (by simp [HS.out])).mono ?_
    rintro e w1 ⟨rfl, hb1⟩
    have HB1 := hide hb1
    clear hb1
    go_wp2_with fail
    go_ret2
    exact ⟨_, _, rfl, HB1.out, .inl ⟨rfl, rfl⟩⟩
end Go.Proofs.Ytkagfjofjbpfeaa
