import Derived.Test.YtocdcibfbecdgaaMapS
import Derived.Test.YtocdcibfbecdgaaHeld
import Derived.Test.YtocdcibfbecdgaaReads
namespace Go.Proofs.Ytocdcibfbecdgaa
open Go Go.RowKit
set_option maxHeartbeats 1000000

theorem sqS_any (A : Option Addr) (n c : Nat) (f : List (List Int)) (B : Option Addr) (m d : Nat) (s : List (List Int)) (r : Bool) (code : Int) (w : World) (hz : ZArg 1048576 w A n f B m s) (hr : SqRes f s r code) :
    Calls Try.prog 22 #[.agg #[.slice A n c, .slice B m d]] w fun e w' => e = .returned (.tuple #[.bool r, .int .i64 code]) ∧ Below w.heap.size w w' := by
  have hnb := hz.sz.nb
  have HZ := hide hz
  have HB0 := hide ((Below.refl _ w).alloc (Nat.le_refl _) (Obj.cells #[Value.slice A n c, Value.slice B m d] 27))
  have HK0 := hide (Blk.new w 27 [.slice A n c, .slice B m d])
  have hfl := hz.sz.fl
  rcases hr with ⟨hp, hrr, rfl⟩ | ⟨hp, rfl, rfl⟩
  · have HP := hide hp
    have HR := hide hrr
    have HFL := hide hfl
    have h12 := hz.small hp
    clear hp hrr hfl hz
    go_enter Try.func22, Try.ntmps22
    go_wp2_with fail
    refine (mapS_any _ _ _ f _ _ _ s true _ (HZ.out.later HB0.out) (by simp [HP.out])).mono ?_
    rintro e w1 ⟨rfl, hb1⟩
    have HB1 := hide (HB0.out.trans (hb1.mono HB0.out.size))
    have HK1 := hide (HK0.out.later hb1)
    clear hb1
    go_wp2_with fail
    go_loopw [4] (fun i wr => ∃ k : Nat, k ≤ n ∧ i = .int .i64 k ∧ Below w.heap.size w wr ∧ Blk wr w.heap.size 27 [.slice A n c, .slice B m d] ∧ ∀ x, x < k → ap f x x = x ∧ ap s x x = x) (fun i _ => n - (intOf i).toNat)
    case atStart => exact ⟨0, Nat.zero_le _, rfl, HB1.out, HK1.out, fun i hi => absurd hi (Nat.not_lt_zero _)⟩
    case round =>
      obtain ⟨k, hk, rfl, hbe, hkk, hall⟩ := hrel
      have HB := hide hbe
      have HK := hide hkk
      have HALL := hide hall
      clear hbe hkk hall
      have k0 := HK.out.cell 0 _ rfl
      have k1 := HK.out.cell 1 _ rfl
      by_cases hlt : k < n
      · obtain ⟨b, o, b2, o2, bx, ox, cx, by', oy, cy, rfl, rfl, h1, h2, h3, h4, _, _, _, _⟩ := (HZ.out.later HB.out).reads HP.out hlt hlt
        obtain rfl := HZ.out.same HP.out
        have hkz : (k : Int) < m := by omega
        obtain ⟨u, hu⟩ : ∃ u, ap f k k = u := ⟨_, rfl⟩
        obtain ⟨v, hv⟩ : ∃ v, ap s k k = v := ⟨_, rfl⟩
        rw [hu] at h3
        rw [hv] at h4
        have HU := hide hu
        have HV := hide hv
        clear hu hv
        have hno : ¬ (u = k ∧ v = k) → r = false := fun h => by
          cases r
          · rfl
          · have h0 := (HR.out.1 rfl) k (by have := HFL.out; omega)
            rw [HU.out, HV.out] at h0
            exact absurd h0 h
        have HNO := hide hno
        clear hno
        by_cases huk : u = k
        · by_cases hvk : v = k
          · subst huk
            subst hvk
            go_wp2_with fail
            go_roundw
            case rel =>
              refine ⟨v + 1, by omega, by go_num, HB.out, HK.out, fun i hi => ?_⟩
              by_cases e : i = v
              · subst e; exact ⟨HU.out, HV.out⟩
              · exact HALL.out i (by omega)
            case measure => simp [intOf]; omega
          · subst huk
            have hne : ((v : Int) != (u : Int)) = true := by simp; omega
            have hrf := HNO.out (fun h => hvk h.2)
            subst hrf
            clear hvk
            go_wp2_with fail
            go_ret2
            exact ⟨rfl, HB.out⟩
        · have hne : ((u : Int) != (k : Int)) = true := by simp; omega
          have hrf := HNO.out (fun h => huk h.1)
          subst hrf
          clear huk
          go_wp2_with fail
          go_ret2
          exact ⟨rfl, HB.out⟩
      · have hkn : k = n := by omega
        subst hkn
        have hrt : r = true := HR.out.2 (fun x hx => HALL.out x (by have := HFL.out; omega))
        subst hrt
        go_wp2_with fail
        go_ret2
        exact ⟨rfl, HB.out⟩
  · have HP := hide hp
    clear hp hfl hz
    go_enter Try.func22, Try.ntmps22
    go_wp2_with fail
    refine (mapS_any _ _ _ f _ _ _ s false _ (HZ.out.later HB0.out) (by simp [HP.out])).mono ?_
    rintro e w1 ⟨rfl, hb1⟩
    have HB1 := hide (HB0.out.trans (hb1.mono HB0.out.size))
    clear hb1
    go_wp2_with fail
    go_ret2
    exact ⟨rfl, HB1.out⟩
end Go.Proofs.Ytocdcibfbecdgaa
