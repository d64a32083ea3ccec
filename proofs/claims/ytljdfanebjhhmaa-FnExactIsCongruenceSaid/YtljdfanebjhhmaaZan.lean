import Derived.Test.YtljdfanebjhhmaaZag
import Derived.Test.YtljdfanebjhhmaaZa
import Derived.Test.YtljdfanebjhhmaaZg
import Derived.Test.YtljdfanebjhhmaaZb
namespace Go.Proofs.Ytljdfanebjhhmaa
open Go Go.RowKit
set_option maxHeartbeats 1000000

set_option maxRecDepth 100000 in
theorem l04Partition_any (N : Nat) (A : Option Addr) (n c : Nat) (xs : List Int) (r : Bool) (w : World) (hn : xs.length = n) (hb : n ≤ 1048576) (hN : N ≤ 1048576) (hr : Rd w A xs) (hres : r = true ↔ n = N ∧ Canon xs) :
    Calls Try.prog 84 #[.int .i64 N, .slice A n c] w fun e w' => e = .returned (.bool r) ∧ Below w.heap.size w w' := by
  have HN := hide hn
  have HRES := hide hres
  clear hn hres
  go_enter Try.func84, Try.ntmps84
  go_wp2_with fail
  go_loopw [5, 6] (fun v i wr => ∃ k : Nat, k ≤ n ∧ v = .int .i64 (nxt xs k) ∧ i = .int .i64 k ∧ Quiet w wr ∧ ∀ j, j < k → 0 ≤ xs.getD j 0 ∧ xs.getD j 0 ≤ (nxt xs j : Int)) (fun _ i _ => n - (intOf i).toNat)
  case atStart => exact ⟨0, Nat.zero_le _, rfl, rfl, Quiet.refl _, fun j hj => absurd hj (Nat.not_lt_zero _)⟩
  case round =>
    obtain ⟨k, hk, rfl, rfl, hq, hall⟩ := hrel
    have HQ := hide hq
    have HALL := hide hall
    clear hq hall
    by_cases hlt : k < n
    · obtain ⟨b, o, rfl, hbw, hc⟩ := HQ.out.rd hr (by have := HN.out; omega)
      have hc1 := hc k (by have := HN.out; omega)
      have hltz : (k : Int) < n := by omega
      have hnk := nxt_le xs k
      obtain ⟨x, hx⟩ : ∃ x, xs.getD k 0 = x := ⟨_, rfl⟩
      have hnx : nxt xs (k + 1) = if x = (nxt xs k : Int) then nxt xs k + 1 else nxt xs k := by rw [← hx]; rfl
      obtain ⟨m, hm⟩ : ∃ m, nxt xs k = m := ⟨_, rfl⟩
      rw [hx] at hc1
      rw [hm] at hnk hnx ⊢
      have HX := hide hx
      have HM := hide hm
      have HNX := hide hnx
      clear hx hm hc hnx
      by_cases hin : 0 ≤ x ∧ x ≤ (m : Int)
      · have HIN := hide hin
        clear hin
        by_cases he : x = (m : Int)
        · subst he
          have HN1 : Hid (nxt xs (k + 1) = m + 1) := hide (by rw [HNX.out]; simp)
          go_wp2_with fail
          refine (in_any _ _ _ true _ ⟨fun _ => HIN.out, fun _ => rfl⟩).mono ?_
          rintro e w1 ⟨rfl, hq1⟩
          have HQ1 := hide (HQ.out.trans hq1)
          replace hc1 := (Quiet.cell hq1 _).trans hc1
          clear hq1
          go_wp2_with fail
          go_roundw
          case rel => exact ⟨k + 1, by omega, by rw [HN1.out]; go_num, by go_num, HQ1.out, fun j hj => by
            by_cases e : j = k
            · rw [e, HX.out, HM.out]; exact HIN.out
            · exact HALL.out j (by omega)⟩
          case measure => simp [intOf]; omega
        · have hxb : (x == (m : Int)) = false := by simpa using he
          have HN1 : Hid (nxt xs (k + 1) = m) := hide (by rw [HNX.out, if_neg he])
          clear he
          go_wp2_with fail
          refine (in_any _ _ _ true _ ⟨fun _ => HIN.out, fun _ => rfl⟩).mono ?_
          rintro e w1 ⟨rfl, hq1⟩
          have HQ1 := hide (HQ.out.trans hq1)
          replace hc1 := (Quiet.cell hq1 _).trans hc1
          clear hq1
          go_wp2_with fail
          go_roundw
          case rel => exact ⟨k + 1, by omega, by rw [HN1.out], by go_num, HQ1.out, fun j hj => by
            by_cases e : j = k
            · rw [e, HX.out, HM.out]; exact HIN.out
            · exact HALL.out j (by omega)⟩
          case measure => simp [intOf]; omega
      · have hrf : r = false := by
          cases r
          · rfl
          · exact absurd (by have h := (HRES.out.1 rfl).2 k (by have := HN.out; omega); rw [HX.out, HM.out] at h; exact h) hin
        subst hrf
        have HIN := hide hin
        clear hin
        go_wp2_with fail
        refine (in_any _ _ _ false _ (by simpa using HIN.out)).mono ?_
        rintro e w1 ⟨rfl, hq1⟩
        have HQ1 := hide (HQ.out.trans hq1)
        clear hq1
        go_wp2_with fail
        go_ret
        exact ⟨rfl, HQ1.out.below _⟩
    · have hkn : k = n := by omega
      subst hkn
      by_cases he : k = N
      · subst he
        have hrt : r = true := HRES.out.2 ⟨rfl, fun i hi => HALL.out i (by have := HN.out; omega)⟩
        subst hrt
        go_wp2_with fail
        go_ret
        exact ⟨rfl, HQ.out.below _⟩
      · have hrf : r = false := by
          cases r
          · rfl
          · exact absurd (HRES.out.1 rfl).1 he
        subst hrf
        have hez : ((k : Int) == (N : Int)) = false := by simpa using fun h => he (by omega)
        go_wp2_with fail
        go_ret
        exact ⟨rfl, HQ.out.below _⟩
end Go.Proofs.Ytljdfanebjhhmaa
