import Derived.Test.YtkflmhmbkilmpacProg
import Derived.Test.YtkflmhmbkilmpacPtF
import Derived.Test.YtkflmhmbkilmpacHeld
import Derived.Test.YtkflmhmbkilmpacBlk
namespace Go.Proofs.Ytkflmhmbkilmpac
open Go Go.RowKit
set_option maxHeartbeats 1000000

set_option maxRecDepth 100000 in
theorem isPart_any (A : Option Addr) (n c : Nat) (B : Option Addr) (m d : Nat) (xs : List Int) (r : Bool) (w : World) (hn : n ≤ 1048576) (hm : xs.length = m) (hb : m ≤ 1048576) (hr : Rd w B xs) (hres : r = true ↔ m = n ∧ Canon xs) :
    Calls Try.prog 71 #[.agg #[.slice A n c], .slice B m d] w fun e w' => e = .returned (.bool r) ∧ Below w.heap.size w w' := by
  have HM := hide hm
  have HRES := hide hres
  have HR := hide hr
  have HB0 := hide ((Below.refl _ w).alloc (Nat.le_refl _) (Obj.cells #[Value.slice A n c] 26))
  clear hm hres hr
  by_cases hmn : m = n
  · subst hmn
    go_enter Try.func71, Try.ntmps71
    go_wp2_with fail
    go_loopw [5, 16] (fun v i wr => ∃ k : Nat, k ≤ m ∧ v = .int .i64 (nxt xs k) ∧ i = .int .i64 k ∧ Below w.heap.size w wr ∧ ∀ j, j < k → 0 ≤ xs.getD j 0 ∧ xs.getD j 0 ≤ (nxt xs j : Int)) (fun _ i _ => m - (intOf i).toNat)
    case atStart => exact ⟨0, Nat.zero_le _, rfl, rfl, HB0.out, fun j hj => absurd hj (Nat.not_lt_zero _)⟩
    case round =>
      obtain ⟨k, hk, rfl, rfl, hbe, hall⟩ := hrel
      have HB := hide hbe
      have HALL := hide hall
      clear hbe hall
      by_cases hlt : k < m
      · obtain ⟨b, o, rfl, hbw, hc⟩ := HR.out (by have := HM.out; omega)
        have hc1 := (HB.out.cell (p := ⟨b, o + k, none⟩) hbw).trans (hc k (by have := HM.out; omega))
        have hltz : (k : Int) < m := by omega
        have hnk := nxt_le xs k
        obtain ⟨x, hx⟩ : ∃ x, xs.getD k 0 = x := ⟨_, rfl⟩
        have hnx : nxt xs (k + 1) = if x = (nxt xs k : Int) then nxt xs k + 1 else nxt xs k := by rw [← hx]; rfl
        obtain ⟨q, hq⟩ : ∃ q, nxt xs k = q := ⟨_, rfl⟩
        rw [hx] at hc1
        rw [hq] at hnk hnx ⊢
        have HX := hide hx
        have HQ := hide hq
        have HNX := hide hnx
        clear hx hq hc hnx
        by_cases h1 : x < 0
        · have hrf : r = false := by
            cases r
            · rfl
            · exact absurd (by have h := (HRES.out.1 rfl).2 k (by have := HM.out; omega); rw [HX.out] at h; exact h.1) (by omega)
          subst hrf
          go_wp2_with fail
          go_ret
          exact ⟨rfl, HB.out⟩
        · by_cases h2 : (q : Int) < x
          · have hrf : r = false := by
              cases r
              · rfl
              · exact absurd (by have h := (HRES.out.1 rfl).2 k (by have := HM.out; omega); rw [HX.out, HQ.out] at h; exact h.2) (by omega)
            subst hrf
            go_wp2_with fail
            go_ret
            exact ⟨rfl, HB.out⟩
          · by_cases he : x = (q : Int)
            · subst he
              have HN1 : Hid (nxt xs (k + 1) = q + 1) := hide (by rw [HNX.out]; simp)
              go_wp2_with fail
              go_roundw
              case rel => exact ⟨k + 1, by omega, by rw [HN1.out]; go_num, by go_num, HB.out, fun j hj => by
                by_cases e : j = k
                · rw [e, HX.out, HQ.out]; omega
                · exact HALL.out j (by omega)⟩
              case measure => simp [intOf]; omega
            · have hxb : (x == (q : Int)) = false := by simpa using he
              have HN1 : Hid (nxt xs (k + 1) = q) := hide (by rw [HNX.out, if_neg he])
              clear he
              go_wp2_with fail
              go_roundw
              case rel => exact ⟨k + 1, by omega, by rw [HN1.out], by go_num, HB.out, fun j hj => by
                by_cases e : j = k
                · rw [e, HX.out, HQ.out]; omega
                · exact HALL.out j (by omega)⟩
              case measure => simp [intOf]; omega
      · have hkn : k = m := by omega
        subst hkn
        have hrt : r = true := HRES.out.2 ⟨by first | rfl | trivial, fun i hi => HALL.out i (by have := HM.out; omega)⟩
        subst hrt
        go_wp2_with fail
        go_ret
        exact ⟨rfl, HB.out⟩
  · have hrf : r = false := by
      cases r
      · rfl
      · exact absurd (HRES.out.1 rfl).1 hmn
    subst hrf
    have hez : ¬ (m : Int) = (n : Int) := by omega
    have hez2 : ((m : Int) != (n : Int)) = true := by simpa using hez
    go_enter Try.func71, Try.ntmps71
    go_wp2_with fail
    go_ret
    exact ⟨rfl, HB0.out⟩
end Go.Proofs.Ytkflmhmbkilmpac
