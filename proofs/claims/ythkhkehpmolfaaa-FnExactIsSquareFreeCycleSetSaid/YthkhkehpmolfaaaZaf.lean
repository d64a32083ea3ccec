import Derived.Test.YthkhkehpmolfaaaZb
namespace Go.Proofs.Ythkhkehpmolfaaa
open Go Go.RowKit
set_option maxHeartbeats 400000

theorem eql_any (A B : Option Addr) (n c m d : Nat) (xs ys : List Int) (r : Bool) (w : World) (hn : xs.length = n) (hm : ys.length = m) (hb : n ≤ 9223372036854775807) (hb2 : m ≤ 9223372036854775807) (hx : Rd w A xs) (hy : Rd w B ys) (hr : r = true ↔ xs = ys) :
    Calls Try.prog 73 #[.slice A n c, .slice B m d] w fun e w' => e = .returned (.bool r) ∧ Quiet w w' := by
  have HN := hide hn
  have HM := hide hm
  have HR := hide hr
  clear hr
  by_cases hnm : n = m
  · subst hnm
    clear hn hm
    go_enter Try.func73, Try.ntmps73
    go_wp2_with fail
    go_loopw [13] (fun i wr => ∃ k : Nat, k ≤ n ∧ i = .int .i64 k ∧ Quiet w wr ∧ ∀ i, i < k → xs.getD i 0 = ys.getD i 0) (fun i _ => n - (intOf i).toNat)
    case atStart => exact ⟨0, Nat.zero_le _, rfl, Quiet.refl w, fun i hi => absurd hi (Nat.not_lt_zero _)⟩
    case round =>
      obtain ⟨k, hk, rfl, hq, hall⟩ := hrel
      have HQ := hide hq
      clear hq
      have HALL := hide hall
      clear hall
      by_cases hlt : k < n
      · obtain ⟨b, o, rfl, _, hc⟩ := HQ.out.rd hx (by have := HN.out; omega)
        obtain ⟨b2, o2, rfl, _, hc2⟩ := HQ.out.rd hy (by have := HM.out; omega)
        have h1 := hc k (by have := HN.out; omega)
        have h2 := hc2 k (by have := HM.out; omega)
        obtain ⟨x, hx⟩ : ∃ x, x = xs.getD k 0 := ⟨_, rfl⟩
        obtain ⟨y, hy⟩ : ∃ y, y = ys.getD k 0 := ⟨_, rfl⟩
        rw [← hx] at h1
        rw [← hy] at h2
        have HX := hide hx
        have HY := hide hy
        clear hx hy hc hc2
        have hltz : (k : Int) < n := by omega
        by_cases hxy : x = y
        · subst hxy
          go_wp2_with fail
          go_quiet (fail)
          go_wp2_with fail
          go_roundw
          case rel =>
            refine ⟨k + 1, by omega, by go_num, HQ.out.drewN _, fun i hi => ?_⟩
            by_cases e : i = k
            · subst e; rw [← HX.out]; exact HY.out
            · exact HALL.out i (by omega)
          case measure => simp [intOf]; omega
        · have hne : (x != y) = true := by simpa using hxy
          have HNE := hide hxy
          clear hxy
          go_wp2_with fail
          go_quiet (fail)
          go_wp2_with fail
          go_ret
          have : r = false := by
            cases r
            · rfl
            · have e := HR.out.1 rfl
              subst e
              exact absurd (HX.out.trans HY.out.symm) HNE.out
          exact ⟨by subst this; rfl, by first | exact HQ.out | exact HQ.out.drewN _ | exact Quiet.refl _⟩
      · have hkn : k = n := by omega
        subst hkn
        go_wp2_with fail
        go_ret
        have this := HR.out.2 (eqList xs ys (HN.out.trans HM.out.symm) (fun i hi => HALL.out i (by have := HN.out; omega)))
        exact ⟨by subst this; rfl, by first | exact HQ.out | exact HQ.out.drewN _ | exact Quiet.refl _⟩
  · have hne : ((n : Int) != (m : Int)) = true := by simp; omega
    have HNM := hide hnm
    clear hn hm hnm
    go_enter Try.func73, Try.ntmps73
    go_wp2_with fail
    go_ret
    have : r = false := by
      cases r
      · rfl
      · have e := HR.out.1 rfl
        subst e
        exact absurd (HN.out.symm.trans HM.out) HNM.out
    exact ⟨by subst this; rfl, by first | exact HQ.out | exact HQ.out.drewN _ | exact Quiet.refl _⟩
end Go.Proofs.Ythkhkehpmolfaaa
