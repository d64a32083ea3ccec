import Derived.Test.YtaejgmdeiemhcaaZm
import Derived.Test.YtaejgmdeiemhcaaZr
import Derived.Test.YtaejgmdeiemhcaaZk
namespace Go.Proofs.Ytaejgmdeiemhcaa
open Go Go.RowKit
set_option maxHeartbeats 1000000

theorem nd7I (A : Option Addr) (n c : Nat) (f : List (List Int)) (B : Option Addr) (m d : Nat) (s : List (List Int)) (r : Bool) (w : World) (hz : ZArg 1048576 w A n f B m s) (hr : r = true ↔ NdS f s) :
    Calls Try.prog 68 #[.agg #[.slice A n c, .slice B m d]] w fun e w' => e = .returned (.bool r) ∧ Below w.heap.size w w' := by
  have HZ := hide hz
  have HB0 := hide ((Below.refl _ w).alloc (Nat.le_refl _) (Obj.cells #[Value.slice A n c, Value.slice B m d] 28))
  have HK0 := hide (Blk.new w 28 [.slice A n c, .slice B m d])
  by_cases h1 : SolF f s
  · obtain rfl := hz.same h1.1
    have H1 := hide h1
    have hr2 : r = true ↔ NonF f s := by rw [hr]; exact ⟨fun h => h.2, fun h => ⟨h1, h⟩⟩
    have HR2 := hide hr2
    clear h1 hr2 hr hz
    go_enter Try.func68, Try.ntmps68
    go_wp2_with fail
    refine (isI_any _ _ _ f _ _ _ s true _ (HZ.out.later HB0.out) (by unfold IsRes; simp [H1.out])).mono ?_
    rintro e w1 ⟨rfl, hb1⟩
    have HB1 := hide (HB0.out.trans (hb1.mono HB0.out.size))
    have HK1 := hide (HK0.out.later hb1)
    have k0 := HK1.out.cell 0 _ rfl
    have k1 := HK1.out.cell 1 _ rfl
    clear hb1
    go_wp2_with fail
    refine (nonZ_any _ _ _ f _ _ s r _ (HZ.out.later HB1.out) H1.out.1 HR2.out).mono ?_
    rintro e w2 ⟨rfl, hb2⟩
    have HB2 := hide (HB1.out.trans (hb2.mono HB1.out.size))
    clear hb2 k0 k1
    go_wp2_with fail
    go_ret
    exact ⟨rfl, HB2.out⟩
  · have hrf : r = false := by
      cases r
      · rfl
      · exact absurd (hr.1 rfl).1 h1
    subst hrf
    have H1 := hide h1
    clear h1 hr hz
    go_enter Try.func68, Try.ntmps68
    go_wp2_with fail
    refine (isI_any _ _ _ f _ _ _ s false _ (HZ.out.later HB0.out) (by unfold IsRes; simp [H1.out])).mono ?_
    rintro e w1 ⟨rfl, hb1⟩
    have HB1 := hide (HB0.out.trans (hb1.mono HB0.out.size))
    clear hb1
    go_wp2_with fail
    go_ret
    exact ⟨rfl, HB1.out⟩
end Go.Proofs.Ytaejgmdeiemhcaa
namespace Go.Proofs.Ytaejgmdeiemhcaa
open Go Go.RowKit
set_option maxHeartbeats 1000000

theorem nd7S (A : Option Addr) (n c : Nat) (f : List (List Int)) (B : Option Addr) (m d : Nat) (s : List (List Int)) (r : Bool) (w : World) (hz : ZArg 1048576 w A n f B m s) (hr : r = true ↔ NdS f s) :
    Calls Try.prog 53 #[.agg #[.slice A n c, .slice B m d]] w fun e w' => e = .returned (.bool r) ∧ Below w.heap.size w w' := by
  have HZ := hide hz
  have HB0 := hide ((Below.refl _ w).alloc (Nat.le_refl _) (Obj.cells #[Value.slice A n c, Value.slice B m d] 28))
  have HK0 := hide (Blk.new w 28 [.slice A n c, .slice B m d])
  by_cases h1 : SolF f s
  · obtain rfl := hz.same h1.1
    have H1 := hide h1
    have hr2 : r = true ↔ NonF f s := by rw [hr]; exact ⟨fun h => h.2, fun h => ⟨h1, h⟩⟩
    have HR2 := hide hr2
    clear h1 hr2 hr hz
    go_enter Try.func53, Try.ntmps53
    go_wp2_with fail
    refine (isS_any _ _ _ f _ _ _ s true _ (HZ.out.later HB0.out) (by unfold IsRes; simp [H1.out])).mono ?_
    rintro e w1 ⟨rfl, hb1⟩
    have HB1 := hide (HB0.out.trans (hb1.mono HB0.out.size))
    have HK1 := hide (HK0.out.later hb1)
    have k0 := HK1.out.cell 0 _ rfl
    have k1 := HK1.out.cell 1 _ rfl
    clear hb1
    go_wp2_with fail
    refine (goodS_any _ _ _ f _ _ _ s r _ (HZ.out.later HB1.out) H1.out.1 HR2.out).mono ?_
    rintro e w2 ⟨rfl, hb2⟩
    have HB2 := hide (HB1.out.trans (hb2.mono HB1.out.size))
    clear hb2 k0 k1
    go_wp2_with fail
    go_ret
    exact ⟨rfl, HB2.out⟩
  · have hrf : r = false := by
      cases r
      · rfl
      · exact absurd (hr.1 rfl).1 h1
    subst hrf
    have H1 := hide h1
    clear h1 hr hz
    go_enter Try.func53, Try.ntmps53
    go_wp2_with fail
    refine (isS_any _ _ _ f _ _ _ s false _ (HZ.out.later HB0.out) (by unfold IsRes; simp [H1.out])).mono ?_
    rintro e w1 ⟨rfl, hb1⟩
    have HB1 := hide (HB0.out.trans (hb1.mono HB0.out.size))
    clear hb1
    go_wp2_with fail
    go_ret
    exact ⟨rfl, HB1.out⟩
end Go.Proofs.Ytaejgmdeiemhcaa
