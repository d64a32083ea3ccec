import Derived.Test.YtnkggphffinekaaPrmS
import Derived.Test.YtnkggphffinekaaBackS
namespace Go.Proofs.Ytnkggphffinekaa
open Go Go.RowKit
set_option maxHeartbeats 1000000

theorem invWS_any (A : Option Addr) (n c : Nat) (xs : List Int) (zs : List Int) (code : Int) (k : Nat) (w : World) (hn : xs.length = n) (hb : n ≤ 1048576) (hx : Rd w A xs) (hr : InvRes xs zs code) (hk : zs.length = k) :
    Calls Try.prog 52 #[.slice A n c] w (RPost 2 k zs code w) := by
  have HN := hide hn
  have HK := hide hk
  clear hn
  rcases hr with ⟨hp, rfl, rfl⟩ | ⟨hp, rfl, rfl⟩
  · clear hk
    have HP := hide hp
    clear hp
    go_enter Try.func52, Try.ntmps52
    go_wp2_with fail
    refine (prmS_below _ _ _ xs true _ HN.out (by omega) hx (by simp [HP.out])).mono ?_
    rintro e w1 ⟨rfl, hq1⟩
    have HQ1 := hide hq1
    clear hq1
    go_wp2_with fail
    refine (l01Back_any _ _ _ xs _ HN.out hb (hx.later HQ1.out) (by have := HP.out.2.2.1; rw [HN.out] at this; exact this)).mono ?_
    rintro e w3 ⟨A', c', rfl, hq3, hres⟩
    have HQ3 := hide hq3
    have HRES := hide hres
    clear hq3 hres
    go_wp2_with fail
    go_ret2
    have hK := HK.out
    rw [backTo_length, HN.out] at hK
    subst hK
    exact ⟨_, _, rfl, HQ1.out.trans (HQ3.out.mono HQ1.out.size), by have h := HRES.out.mono HQ1.out.size; rw [← HN.out] at h; exact h⟩
  · obtain rfl : k = 0 := by simpa using hk.symm
    clear hk
    have HP := hide hp
    clear hp
    go_enter Try.func52, Try.ntmps52
    go_wp2_with fail
    refine (prmS_below _ _ _ xs false _ HN.out (by omega) hx (by simp [HP.out])).mono ?_
    rintro e w1 ⟨rfl, hq1⟩
    have HQ1 := hide hq1
    clear hq1
    go_wp2_with fail
    go_ret2
    exact ⟨_, _, rfl, HQ1.out, .inl ⟨rfl, rfl⟩⟩
end Go.Proofs.Ytnkggphffinekaa
