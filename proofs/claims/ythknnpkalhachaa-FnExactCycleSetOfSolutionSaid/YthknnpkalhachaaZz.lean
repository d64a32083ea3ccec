import Derived.Test.YthknnpkalhachaaZs
import Derived.Test.YthknnpkalhachaaZk
import Derived.Test.YthknnpkalhachaaZq
namespace Go.Proofs.Ythknnpkalhachaa
open Go Go.RowKit
set_option maxHeartbeats 1000000

theorem goodS_any (A : Option Addr) (n c : Nat) (f : List (List Int)) (B : Option Addr) (m d : Nat) (s : List (List Int)) (r : Bool) (w : World) (hz : ZArg 1048576 w A n f B m s) (hp : PMap f s) (hr : r = true ↔ NonF f s) :
    Calls Try.prog 68 #[.agg #[.slice A n c, .slice B m d]] w fun e w' => e = .returned (.bool r) ∧ Below w.heap.size w w' := by
  have hnb := hz.sz.nb
  have HZ := hide hz
  have HB0 := hide ((Below.refl _ w).alloc (Nat.le_refl _) (Obj.cells #[Value.slice A n c, Value.slice B m d] 27))
  have HK0 := hide (Blk.new w 27 [.slice A n c, .slice B m d])
  have HP := hide hp
  have HR := hide hr
  obtain rfl := hz.same hp
  clear hp hr hz
  by_cases h1 : AllPrm f
  · have H1 := hide h1
    have hr2 : r = true ↔ AllPrm (turnL s) := by rw [HR.out]; unfold NonF; exact ⟨fun h => h.2, fun h => ⟨h1, h⟩⟩
    have HR2 := hide hr2
    clear h1 hr2
    go_enter Try.func68, Try.ntmps68
    go_wp2_with fail
    refine (rowsS_any _ _ _ f true _ HZ.out.sz.fl hnb HZ.out.sz.nr (HZ.out.later HB0.out).fst ⟨fun _ => H1.out, fun _ => rfl⟩).mono ?_
    rintro e w2 ⟨rfl, hb2⟩
    have HB2 := hide (HB0.out.trans (hb2.mono HB0.out.size))
    have HK2 := hide (HK0.out.later hb2)
    have k0 := HK2.out.cell 0 _ rfl
    have k1 := HK2.out.cell 1 _ rfl
    clear hb2
    go_wp2_with fail
    refine (l01Turn_any _ _ _ s _ HZ.out.sz.sl hnb (fun i hi => by rw [HP.out.2.1.rows i hi]; exact HZ.out.sz.sl) (HZ.out.later HB2.out).snd).mono ?_
    rintro e w3 ⟨A3, c3, rfl, hb3, hobj⟩
    have HB3 := hide (HB2.out.trans (hb3.mono HB2.out.size))
    have HOBJ := hide hobj
    clear hb3 hobj
    go_wp2_with fail
    refine (rowsS_any _ _ _ (turnL s) r _ (by rw [turnL_length]; exact HZ.out.sz.sl) hnb (fun i hi => by rw [turnL_length] at hi; unfold turnL; rw [grid_row_length _ _ _ hi, HZ.out.sz.sl]; exact hnb) HOBJ.out.rd HR2.out).mono ?_
    rintro e w4 ⟨rfl, hb4⟩
    have HB4 := hide (HB3.out.trans (hb4.mono HB3.out.size))
    clear hb4
    go_wp2_with fail
    go_ret
    exact ⟨rfl, HB4.out⟩
  · have hrf : r = false := by
      cases r
      · rfl
      · exact absurd (HR.out.1 rfl).1 h1
    subst hrf
    have H1 := hide h1
    clear h1
    go_enter Try.func68, Try.ntmps68
    go_wp2_with fail
    refine (rowsS_any _ _ _ f false _ HZ.out.sz.fl hnb HZ.out.sz.nr (HZ.out.later HB0.out).fst ⟨fun h => absurd h (by simp), fun h => absurd h H1.out⟩).mono ?_
    rintro e w2 ⟨rfl, hb2⟩
    have HB2 := hide (HB0.out.trans (hb2.mono HB0.out.size))
    clear hb2
    go_wp2_with fail
    go_ret
    exact ⟨rfl, HB2.out⟩
end Go.Proofs.Ythknnpkalhachaa
