import Derived.Test.YtanldiildinbdaaZaf
namespace Go.Proofs.Ytanldiildinbdaa
open Go Go.RowKit
set_option maxHeartbeats 1000000

def ScRes (f s : List (List Int)) (set : List Int) (code : Int) : Prop :=
  (PMap f s ∧ IncSet f.length set ∧ code = 0) ∨ (PMap f s ∧ ¬ IncSet f.length set ∧ code = 2) ∨ (¬ PMap f s ∧ code = 1)

theorem setCode_any (A : Option Addr) (n c : Nat) (f : List (List Int)) (B : Option Addr) (m d : Nat) (s : List (List Int)) (C : Option Addr) (k e : Nat) (set : List Int) (code : Int) (w : World) (hz : ZArg 1048576 w A n f B m s) (hk : set.length = k) (hkb : k ≤ 1048576) (hs : Rd w C set) (hr : ScRes f s set code) :
    Calls Try.prog 76 #[.agg #[.slice A n c, .slice B m d], .slice C k e] w fun e w' => e = .returned (.int .i64 code) ∧ Below w.heap.size w w' := by
  have hnb := hz.sz.nb
  have HZ := hide hz
  have HK := hide hk
  have HS := hide hs
  have hfl := hz.sz.fl
  have HB0 := hide ((Below.refl _ w).alloc (Nat.le_refl _) (Obj.cells #[Value.slice A n c, Value.slice B m d] 27))
  have HK0 := hide (Blk.new w 27 [.slice A n c, .slice B m d])
  have hpo : PMap f s ∨ ¬ PMap f s := Classical.em _
  rcases hpo with hp | hp
  · have HP := hide hp
    obtain ⟨r1, hr1⟩ := bool_of (IncSet f.length set)
    have HR1 := hide hr1
    rw [hfl] at hr1
    have HR1n := hide hr1
    have HR := hide hr
    clear hp hr hz hk hs hr1 hfl
    go_enter Try.func76, Try.ntmps76
    go_wp2_with fail
    refine (mapS_any _ _ _ f _ _ _ s true _ (HZ.out.later HB0.out) (by simp [HP.out])).mono ?_
    rintro e w1 ⟨rfl, hb1⟩
    have HB1 := hide (HB0.out.trans (hb1.mono HB0.out.size))
    have HK1 := hide (HK0.out.later hb1)
    have k0 := HK1.out.cell 0 _ rfl
    have k1 := HK1.out.cell 1 _ rfl
    clear hb1
    go_wp2_with fail
    refine (l02Set_any n _ _ _ set r1 _ hnb HK.out (by omega) (HS.out.later HB1.out) HR1n.out).mono ?_
    rintro e w2 ⟨rfl, hb2⟩
    have HB2 := hide (HB1.out.trans (hb2.mono HB1.out.size))
    clear hb2 k0 k1
    cases r1
    · have hni : ¬ IncSet f.length set := fun h => by have := HR1.out.2 h; cases this
      rcases HR.out with ⟨_, h, _⟩ | ⟨_, _, rfl⟩ | ⟨h, _⟩
      · exact absurd h hni
      · clear hni
        go_wp2_with fail
        go_ret
        exact ⟨rfl, HB2.out⟩
      · exact absurd HP.out h
    · have hin : IncSet f.length set := HR1.out.1 rfl
      rcases HR.out with ⟨_, _, rfl⟩ | ⟨_, h, _⟩ | ⟨h, _⟩
      · clear hin
        go_wp2_with fail
        go_ret
        exact ⟨rfl, HB2.out⟩
      · exact absurd hin h
      · exact absurd HP.out h
  · have HP := hide hp
    rcases hr with ⟨h, _⟩ | ⟨h, _⟩ | ⟨_, rfl⟩
    · exact absurd h hp
    · exact absurd h hp
    · clear hp hz hk hs
      go_enter Try.func76, Try.ntmps76
      go_wp2_with fail
      refine (mapS_any _ _ _ f _ _ _ s false _ (HZ.out.later HB0.out) (by simp [HP.out])).mono ?_
      rintro e w1 ⟨rfl, hb1⟩
      have HB1 := hide (HB0.out.trans (hb1.mono HB0.out.size))
      clear hb1
      go_wp2_with fail
      go_ret
      exact ⟨rfl, HB1.out⟩

theorem csS_any (A : Option Addr) (n c : Nat) (f : List (List Int)) (B : Option Addr) (m d : Nat) (s : List (List Int)) (C : Option Addr) (k e : Nat) (set : List Int) (r : Bool) (code : Int) (w : World) (hz : ZArg 1048576 w A n f B m s) (hk : set.length = k) (hkb : k ≤ 1048576) (hs : Rd w C set) (hr : CsRes f s set r code) :
    Calls Try.prog 43 #[.agg #[.slice A n c, .slice B m d], .slice C k e] w fun e w' => e = .returned (.tuple #[.bool r, .int .i64 code]) ∧ Below w.heap.size w w' := by
  have HZ := hide hz
  have HK := hide hk
  have HS := hide hs
  have hfl := hz.sz.fl
  have HB0 := hide ((Below.refl _ w).alloc (Nat.le_refl _) (Obj.cells #[Value.slice A n c, Value.slice B m d] 27))
  have HK0 := hide (Blk.new w 27 [.slice A n c, .slice B m d])
  rcases hr with ⟨hp, hi, hrr, rfl⟩ | ⟨hp, hi, rfl, rfl⟩ | ⟨hp, rfl, rfl⟩
  · have HSC : Hid (ScRes f s set 0) := hide (.inl ⟨hp, hi, rfl⟩)
    have HP := hide hp
    rw [hfl] at hi
    have HI := hide hi
    have HRR := hide hrr
    clear hz hk hs hp hi hrr hfl
    go_enter Try.func43, Try.ntmps43
    go_wp2_with fail
    refine (setCode_any _ _ _ f _ _ _ s _ _ _ set 0 _ (HZ.out.later HB0.out) HK.out hkb (HS.out.later HB0.out) HSC.out).mono ?_
    rintro e w1 ⟨rfl, hb1⟩
    have HB1 := hide (HB0.out.trans (hb1.mono HB0.out.size))
    have HK1 := hide (HK0.out.later hb1)
    have k0 := HK1.out.cell 0 _ rfl
    have k1 := HK1.out.cell 1 _ rfl
    clear hb1
    go_wp2_with fail
    refine (l02Closed_any _ _ _ f _ _ _ s _ _ _ set r _ (HZ.out.later HB1.out) HP.out HK.out HI.out (HS.out.later HB1.out) HRR.out).mono ?_
    rintro e w3 ⟨rfl, hb3⟩
    have HB3 := hide (HB1.out.trans (hb3.mono HB1.out.size))
    clear hb3 k0 k1
    go_wp2_with fail
    go_ret2
    exact ⟨rfl, HB3.out⟩
  · have HSC : Hid (ScRes f s set 2) := hide (.inr (.inl ⟨hp, hi, rfl⟩))
    clear hz hk hs hp hi hfl
    go_enter Try.func43, Try.ntmps43
    go_wp2_with fail
    refine (setCode_any _ _ _ f _ _ _ s _ _ _ set 2 _ (HZ.out.later HB0.out) HK.out hkb (HS.out.later HB0.out) HSC.out).mono ?_
    rintro e w1 ⟨rfl, hb1⟩
    have HB1 := hide (HB0.out.trans (hb1.mono HB0.out.size))
    clear hb1
    go_wp2_with fail
    go_ret2
    exact ⟨rfl, HB1.out⟩
  · have HSC : Hid (ScRes f s set 1) := hide (.inr (.inr ⟨hp, rfl⟩))
    clear hz hk hs hp hfl
    go_enter Try.func43, Try.ntmps43
    go_wp2_with fail
    refine (setCode_any _ _ _ f _ _ _ s _ _ _ set 1 _ (HZ.out.later HB0.out) HK.out hkb (HS.out.later HB0.out) HSC.out).mono ?_
    rintro e w1 ⟨rfl, hb1⟩
    have HB1 := hide (HB0.out.trans (hb1.mono HB0.out.size))
    clear hb1
    go_wp2_with fail
    go_ret2
    exact ⟨rfl, HB1.out⟩
end Go.Proofs.Ytanldiildinbdaa
