import Derived.Test.YtgahmfkmhaeniaaZArg
import Derived.Test.YtgahmfkmhaeniaaBlk
import Derived.Test.YtgahmfkmhaeniaaSzII
namespace Go.Proofs.Ytgahmfkmhaeniaa
open Go Go.RowKit
set_option maxHeartbeats 1000000

def SzZ (L : Int) (f : List (List Int)) (n : Nat) (s : List (List Int)) (m : Nat) (r : Int) : Prop := r = -1 ∨ (0 ≤ r ∧ r ≤ L ∧ ZSz 1048576 f n s m)
def SzZPost (L : Int) (f : List (List Int)) (n : Nat) (s : List (List Int)) (m : Nat) (w : World) (e : Ending) (w' : World) : Prop := ∃ r, SzZ L f n s m r ∧ e = .returned (.int .i64 r) ∧ Below w.heap.size w w'

theorem szZ_any (A : Option Addr) (n c : Nat) (f : List (List Int)) (B : Option Addr) (m d : Nat) (s : List (List Int)) (L : Int) (w : World) (hz : ZArg 9223372036854775807 w A n f B m s) (h0 : 0 ≤ L) (h1 : L ≤ 1048576) :
    Calls Try.prog 35 #[.agg #[.slice A n c, .slice B m d], .int .i64 L] w (SzZPost L f n s m w) := by
  have HZ := hide hz
  clear hz
  go_enter Try.func35, Try.ntmps35
  go_wp2_with fail
  have HB0 := hide ((Below.refl _ w).alloc (Nat.le_refl _) (Obj.cells #[Value.slice A n c, Value.slice B m d] 46))
  have HK0 := hide (Blk.new w 46 [.slice A n c, .slice B m d])
  refine (szz_any _ _ _ f L _ HZ.out.sz.fl HZ.out.sz.nb HZ.out.sz.nr h0 h1 (HZ.out.fst.later HB0.out)).mono ?_
  rintro e w1 ⟨l, hsz, rfl, rfl⟩
  have k1 := HK0.out.cell 1 _ rfl
  rcases hsz with rfl | ⟨p, q, u, y⟩
  · go_wp2_with fail
    go_ret
    exact ⟨-1, .inl rfl, rfl, HB0.out⟩
  · have U := hide u
    have Y := hide y
    clear u y
    go_wp2_with fail
    refine (szz_any _ _ _ s l _ HZ.out.sz.sl HZ.out.sz.mb HZ.out.sz.mr p (by omega) (HZ.out.snd.later HB0.out)).mono ?_
    rintro e w1 ⟨l2, hsz, rfl, rfl⟩
    rcases hsz with rfl | ⟨p2, q2, u2, y2⟩
    · go_wp2_with fail
      go_ret
      exact ⟨-1, .inl rfl, rfl, HB0.out⟩
    · have U2 := hide u2
      have Y2 := hide y2
      clear u2 y2
      go_wp2_with fail
      go_ret
      refine ⟨l2, .inr ⟨p2, by omega, ⟨HZ.out.sz.fl, ?_, fun i hi => ?_, HZ.out.sz.sl, ?_, fun i hi => ?_⟩⟩, rfl, HB0.out⟩
      · have := U.out; have := HZ.out.sz.fl; omega
      · have := Y.out i hi; omega
      · have := U2.out; have := HZ.out.sz.sl; omega
      · have := Y2.out i hi; omega
end Go.Proofs.Ytgahmfkmhaeniaa
