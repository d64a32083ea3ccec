import Derived.Test.YtkflmhmbkilmpabEqI
namespace Go.Proofs.Ytkflmhmbkilmpab
open Go Go.RowKit
set_option maxHeartbeats 400000
theorem eqq_any (A B : Option Addr) (n c m d : Nat) (xs ys : List (List Int)) (r : Bool) (w : World) (hn : xs.length = n) (hm : ys.length = m) (hb : n ≤ 9223372036854775807) (hb2 : m ≤ 9223372036854775807) 
    (hbs : ∀ i, i < xs.length → (xs.getD i []).length ≤ 9223372036854775807) (hbt : ∀ i, i < ys.length → (ys.getD i []).length ≤ 9223372036854775807) (hx : Rd2 w A xs) (hy : Rd2 w B ys) (hr : r = true ↔ xs = ys) :
    Calls Try.prog 46 #[.slice A n c, .slice B m d] w fun e w' => e = .returned (.bool r) ∧ Quiet w w' := by
  have HN := hide hn
  have HM := hide hm
  have HR := hide hr
  clear hr
  by_cases hnm : n = m
  · subst hnm
    clear hn hm
    go_enter Try.func46, Try.ntmps46
    go_wp2_with fail
    go_loopw [5] (fun i wr => ∃ k : Nat, k ≤ n ∧ i = .int .i64 k ∧ Quiet w wr ∧ ∀ i, i < k → xs.getD i [] = ys.getD i []) (fun i _ => n - (intOf i).toNat)
    case atStart => exact ⟨0, Nat.zero_le _, rfl, Quiet.refl w, fun i hi => absurd hi (Nat.not_lt_zero _)⟩
    case round =>
      obtain ⟨k, hk, rfl, hq, hall⟩ := hrel
      have HQ := hide hq
      clear hq
      have HALL := hide hall
      clear hall
      by_cases hlt : k < n
      · obtain ⟨b, o, rfl, _, hc⟩ := HQ.out.rd2 hx (by have := HN.out; omega)
        obtain ⟨b2, o2, rfl, _, hc2⟩ := HQ.out.rd2 hy (by have := HM.out; omega)
        obtain ⟨A1, c1, h1, hr1⟩ := hc k (by have := HN.out; omega)
        obtain ⟨A2, c2, h2, hr2⟩ := hc2 k (by have := HM.out; omega)
        have hb1 := hbs k (by have := HN.out; omega)
        have hb2 := hbt k (by have := HM.out; omega)
        obtain ⟨x, hx⟩ : ∃ x, x = xs.getD k [] := ⟨_, rfl⟩
        obtain ⟨y, hy⟩ : ∃ y, y = ys.getD k [] := ⟨_, rfl⟩
        rw [← hx] at h1 hr1 hb1
        rw [← hy] at h2 hr2 hb2
        have HX := hide hx
        have HY := hide hy
        clear hx hy hc hc2 hbs hbt
        have hltz : (k : Int) < n := by omega
        by_cases hxy : x = y
        · have HXY := hide hxy
          clear hxy
          go_wp2_with fail
          go_quiet ((go_at_call 21; exact quiet_call (eq_any _ _ _ _ _ _ x y true _ rfl rfl hb1 hb2 hr1 hr2 (by simp [HXY.out]))))
          go_wp2_with fail
          go_roundw
          case rel =>
            refine ⟨k + 1, by omega, by go_num, HQ.out.drewN _, fun i hi => ?_⟩
            by_cases e : i = k
            · subst e; rw [← HX.out, ← HY.out]; exact HXY.out
            · exact HALL.out i (by omega)
          case measure => simp [intOf]; omega
        · have HNE := hide hxy
          clear hxy
          go_wp2_with fail
          go_quiet ((go_at_call 21; exact quiet_call (eq_any _ _ _ _ _ _ x y false _ rfl rfl hb1 hb2 hr1 hr2 (by simp [HNE.out]))))
          go_wp2_with fail
          go_ret
          have : r = false := by
            cases r
            · rfl
            · have e := HR.out.1 rfl
              subst e
              exact absurd (HX.out.trans HY.out.symm) HNE.out
          exact ⟨by subst this; rfl, by first | exact HQ.out | exact HQ.out.drewN _ | exact Quiet.refl _⟩
      · have hkn : k = n := by omega
        subst hkn
        go_wp2_with fail
        go_ret
        have this := HR.out.2 (eqRows xs ys (HN.out.trans HM.out.symm) (fun i hi => HALL.out i (by have := HN.out; omega)))
        exact ⟨by subst this; rfl, by first | exact HQ.out | exact HQ.out.drewN _ | exact Quiet.refl _⟩
  · have hne : ((n : Int) != (m : Int)) = true := by simp; omega
    have HNM := hide hnm
    clear hn hm hnm
    go_enter Try.func46, Try.ntmps46
    go_wp2_with fail
    go_ret
    have : r = false := by
      cases r
      · rfl
      · have e := HR.out.1 rfl
        subst e
        exact absurd (HN.out.symm.trans HM.out) HNM.out
    exact ⟨by subst this; rfl, by first | exact HQ.out | exact HQ.out.drewN _ | exact Quiet.refl _⟩
end Go.Proofs.Ytkflmhmbkilmpab
