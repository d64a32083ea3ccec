import Derived.Test.YtkagfjofjbpfeaaZr
import Derived.Test.YtkagfjofjbpfeaaZf
import Derived.Test.YtkagfjofjbpfeaaZz
namespace Go.Proofs.Ytkagfjofjbpfeaa
open Go Go.RowKit
set_option maxHeartbeats 1000000

theorem turnWI_any (A : Option Addr) (n c : Nat) (rows : List (List Int)) (zs : List (List Int)) (code : Int) (k : Nat) (w : World) (hn : rows.length = n) (hb : n ≤ 1048576) (hbs : ∀ i, i < rows.length → (rows.getD i []).length ≤ 1048576) (hx : Rd2 w A rows) (hr : TurnRes rows zs code) (hk : zs.length = k) :
    Calls Try.prog 25 #[.slice A n c] w (TPost 31 2 k zs code w) := by
  have HN := hide hn
  clear hn
  rcases hr with ⟨hp, rfl, rfl⟩ | ⟨hp, rfl, rfl⟩
  · have HP := hide hp
    have hkn : k = n := by rw [← hk, turnL_length]; exact HN.out
    subst hkn
    clear hp hk
    have hrl : ∀ i, i < rows.length → (rows.getD i []).length = k := fun i hi => by rw [HP.out.rows i hi]; exact HN.out
    have HRL := hide hrl
    clear hrl
    go_enter Try.func25, Try.ntmps25
    go_wp2_with fail
    refine (isTable_any _ _ _ rows true _ HN.out (by omega) (fun i hi => by have := hbs i hi; omega) hx (by simp [HP.out])).mono ?_
    rintro e w1 ⟨rfl, hq1⟩
    have HQ1 := hide (hq1.below w.heap.size)
    have HZ1 := hide hq1.size
    clear hq1
    go_wp2_with fail
    refine (turnI_any _ _ _ rows _ HN.out hb HRL.out (hx.later HQ1.out)).mono ?_
    rintro e w3 ⟨A3, c3, rfl, hq3, hobj⟩
    have HQ3 := hide (HQ1.out.trans (hq3.mono HQ1.out.size))
    have HOBJ := hide (hobj.mono HQ1.out.size (Nat.le_refl _))
    clear hq3 hobj
    go_wp2_with fail
    go_ret2
    exact ⟨_, _, rfl, HQ3.out, HOBJ.out⟩
  · have HP := hide hp
    obtain rfl : k = 0 := by simpa using hk.symm
    clear hp hk
    go_enter Try.func25, Try.ntmps25
    go_wp2_with fail
    refine (isTable_any _ _ _ rows false _ HN.out (by omega) (fun i hi => by have := hbs i hi; omega) hx (by simp [HP.out])).mono ?_
    rintro e w1 ⟨rfl, hq1⟩
    have HQ1 := hide (hq1.below w.heap.size)
    clear hq1
    go_wp2_with fail
    go_ret2
    exact ⟨_, _, rfl, HQ1.out, .inl ⟨rfl, rfl⟩⟩
end Go.Proofs.Ytkagfjofjbpfeaa
namespace Go.Proofs.Ytkagfjofjbpfeaa
open Go Go.RowKit
set_option maxHeartbeats 1000000

theorem turnWS_any (A : Option Addr) (n c : Nat) (rows : List (List Int)) (zs : List (List Int)) (code : Int) (k : Nat) (w : World) (hn : rows.length = n) (hb : n ≤ 1048576) (hbs : ∀ i, i < rows.length → (rows.getD i []).length ≤ 1048576) (hx : Rd2 w A rows) (hr : TurnRes rows zs code) (hk : zs.length = k) :
    Calls Try.prog 24 #[.slice A n c] w (TPost 31 2 k zs code w) := by
  have HN := hide hn
  clear hn
  rcases hr with ⟨hp, rfl, rfl⟩ | ⟨hp, rfl, rfl⟩
  · have HP := hide hp
    have hkn : k = n := by rw [← hk, turnL_length]; exact HN.out
    subst hkn
    clear hp hk
    have hrl : ∀ i, i < rows.length → (rows.getD i []).length = k := fun i hi => by rw [HP.out.rows i hi]; exact HN.out
    have HRL := hide hrl
    clear hrl
    go_enter Try.func24, Try.ntmps24
    go_wp2_with fail
    refine (l01Table_any _ _ _ rows true _ HN.out (by omega) (fun i hi => by have := hbs i hi; omega) hx (by simp [HP.out])).mono ?_
    rintro e w1 ⟨rfl, hq1⟩
    have HQ1 := hide (hq1.below w.heap.size)
    have HZ1 := hide hq1.size
    clear hq1
    go_wp2_with fail
    refine (l01Turn_any _ _ _ rows _ HN.out hb HRL.out (hx.later HQ1.out)).mono ?_
    rintro e w3 ⟨A3, c3, rfl, hq3, hobj⟩
    have HQ3 := hide (HQ1.out.trans (hq3.mono HQ1.out.size))
    have HOBJ := hide (hobj.mono HQ1.out.size (Nat.le_refl _))
    clear hq3 hobj
    go_wp2_with fail
    go_ret2
    exact ⟨_, _, rfl, HQ3.out, HOBJ.out⟩
  · have HP := hide hp
    obtain rfl : k = 0 := by simpa using hk.symm
    clear hp hk
    go_enter Try.func24, Try.ntmps24
    go_wp2_with fail
    refine (l01Table_any _ _ _ rows false _ HN.out (by omega) (fun i hi => by have := hbs i hi; omega) hx (by simp [HP.out])).mono ?_
    rintro e w1 ⟨rfl, hq1⟩
    have HQ1 := hide (hq1.below w.heap.size)
    clear hq1
    go_wp2_with fail
    go_ret2
    exact ⟨_, _, rfl, HQ1.out, .inl ⟨rfl, rfl⟩⟩
end Go.Proofs.Ytkagfjofjbpfeaa
