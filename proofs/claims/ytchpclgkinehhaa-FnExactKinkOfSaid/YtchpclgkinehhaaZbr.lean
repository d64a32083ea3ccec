import Derived.Test.YtchpclgkinehhaaZaa
import Derived.Test.YtchpclgkinehhaaZbk
import Derived.Test.YtchpclgkinehhaaZab
import Derived.Test.YtchpclgkinehhaaZy
namespace Go.Proofs.Ytchpclgkinehhaa
open Go Go.RowKit
set_option maxHeartbeats 2000000

set_option maxRecDepth 100000 in
theorem kinkWI (A : Option Addr) (n c : Nat) (f : List (List Int)) (zs : List Int) (code : Int) (k : Nat) (w : World) (hn : f.length = n) (hb : n ≤ 1048576) (hbs : ∀ i, i < f.length → (f.getD i []).length ≤ 1048576) (hr : Rd2 w A f) (hres : KinkRes f zs code) (hk : zs.length = k) :
    Calls Try.prog 45 #[.agg #[.slice A n c]] w (RPost 2 k zs code w) := by
  have HN := hide hn
  have HBS := hide hbs
  have HRD := hide hr
  have HB0 := hide ((Below.refl _ w).alloc (Nat.le_refl _) (Obj.cells #[Value.slice A n c] 27))
  have HK0 := hide (Blk.new w 27 [.slice A n c])
  rcases hres with ⟨hp, rfl, rfl⟩ | ⟨hp, rfl, rfl⟩
  · have hk2 : k = n := by rw [← hk, kinkL_length, hn]
    subst hk2
    have HTB := hide hp.tbl
    clear hk
    have HRK : Hid (RkRes f true) := hide (by unfold RkRes; simp [hp])
    have HP := hide hp
    clear hn hbs hr hp
    go_enter Try.func45, Try.ntmps45
    go_wp2_with fail
    refine (isRackI _ _ _ f true _ HN.out hb HBS.out (HRD.out.later HB0.out) HRK.out).mono ?_
    rintro e w1 ⟨rfl, hb1⟩
    have HB1 := hide (HB0.out.trans (hb1.mono HB0.out.size))
    have HK1 := hide (HK0.out.later hb1)
    clear hb1
    have k0 := HK1.out.cell 0 _ rfl
    go_wp2_with fail
    clear k0
    refine (kink_any _ _ _ f _ HN.out HTB.out (HRD.out.later HB1.out)).mono ?_
    rintro e w2 ⟨g, rfl, hb2, hg, ho⟩
    have HO := hide ho
    have hlo : w.heap.size ≤ g := Nat.le_trans HB1.out.size hg
    have HB2 := hide (HB1.out.trans (hb2.mono HB1.out.size))
    clear hb2 ho
    go_wp2_with fail
    go_ret2
    exact ⟨_, _, rfl, HB2.out, .inr ⟨g, rfl, hlo, HO.out⟩⟩
  · have hk0 : k = 0 := by rw [← hk]; rfl
    subst hk0
    clear hk
    have HRK : Hid (RkRes f false) := hide (by unfold RkRes; simp [hp])
    have HP := hide hp
    clear hn hbs hr hp
    go_enter Try.func45, Try.ntmps45
    go_wp2_with fail
    refine (isRackI _ _ _ f false _ HN.out hb HBS.out (HRD.out.later HB0.out) HRK.out).mono ?_
    rintro e w1 ⟨rfl, hb1⟩
    have HB1 := hide (HB0.out.trans (hb1.mono HB0.out.size))
    have HK1 := hide (HK0.out.later hb1)
    clear hb1
    go_wp2_with fail
    go_ret2
    exact ⟨_, _, rfl, HB1.out, .inl ⟨rfl, rfl⟩⟩

set_option maxRecDepth 100000 in
theorem kinkWS (A : Option Addr) (n c : Nat) (f : List (List Int)) (zs : List Int) (code : Int) (k : Nat) (w : World) (hn : f.length = n) (hb : n ≤ 1048576) (hbs : ∀ i, i < f.length → (f.getD i []).length ≤ 1048576) (hr : Rd2 w A f) (hres : KinkRes f zs code) (hk : zs.length = k) :
    Calls Try.prog 44 #[.agg #[.slice A n c]] w (RPost 2 k zs code w) := by
  have HN := hide hn
  have HBS := hide hbs
  have HRD := hide hr
  have HB0 := hide ((Below.refl _ w).alloc (Nat.le_refl _) (Obj.cells #[Value.slice A n c] 27))
  have HK0 := hide (Blk.new w 27 [.slice A n c])
  rcases hres with ⟨hp, rfl, rfl⟩ | ⟨hp, rfl, rfl⟩
  · have hk2 : k = n := by rw [← hk, kinkL_length, hn]
    subst hk2
    have HTB := hide hp.tbl
    clear hk
    have HRK : Hid (RkRes f true) := hide (by unfold RkRes; simp [hp])
    have HP := hide hp
    clear hn hbs hr hp
    go_enter Try.func44, Try.ntmps44
    go_wp2_with fail
    refine (isRackS _ _ _ f true _ HN.out hb HBS.out (HRD.out.later HB0.out) HRK.out).mono ?_
    rintro e w1 ⟨rfl, hb1⟩
    have HB1 := hide (HB0.out.trans (hb1.mono HB0.out.size))
    have HK1 := hide (HK0.out.later hb1)
    clear hb1
    have k0 := HK1.out.cell 0 _ rfl
    go_wp2_with fail
    clear k0
    refine (kinkS_any _ k _ f _ HN.out HTB.out (HRD.out.later HB1.out)).mono ?_
    rintro e w2 ⟨A2, c2, rfl, hb2, hres2⟩
    have HR2 := hide (hres2.mono HB1.out.size)
    have HB2 := hide (HB1.out.trans (hb2.mono HB1.out.size))
    clear hb2 hres2
    go_wp2_with fail
    go_ret2
    exact ⟨_, _, rfl, HB2.out, HR2.out⟩
  · have hk0 : k = 0 := by rw [← hk]; rfl
    subst hk0
    clear hk
    have HRK : Hid (RkRes f false) := hide (by unfold RkRes; simp [hp])
    have HP := hide hp
    clear hn hbs hr hp
    go_enter Try.func44, Try.ntmps44
    go_wp2_with fail
    refine (isRackS _ _ _ f false _ HN.out hb HBS.out (HRD.out.later HB0.out) HRK.out).mono ?_
    rintro e w1 ⟨rfl, hb1⟩
    have HB1 := hide (HB0.out.trans (hb1.mono HB0.out.size))
    have HK1 := hide (HK0.out.later hb1)
    clear hb1
    go_wp2_with fail
    go_ret2
    exact ⟨_, _, rfl, HB1.out, .inl ⟨rfl, rfl⟩⟩

end Go.Proofs.Ytchpclgkinehhaa
