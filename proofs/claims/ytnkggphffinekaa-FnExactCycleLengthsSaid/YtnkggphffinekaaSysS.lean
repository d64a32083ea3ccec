import Derived.Test.YtnkggphffinekaaSysF
import Derived.Test.YtnkggphffinekaaPrmS
namespace Go.Proofs.Ytnkggphffinekaa
open Go Go.RowKit
set_option maxHeartbeats 1000000

theorem l01System_any (N : Int) (A : Option Addr) (n c : Nat) (rows : List (List Int)) (r : Bool) (w : World) (_hlo : -9223372036854775808 ≤ N) (_hhi : N ≤ 9223372036854775807) (hn : rows.length = n) (hb : n ≤ 1048576) (hbs : ∀ i, i < rows.length → (rows.getD i []).length ≤ 1048576) (hr : Rd2 w A rows) (hrr : r = true ↔ Sys N rows) :
    Calls Try.prog 74 #[.int .i64 N, .slice A n c] w fun e w' => e = .returned (.bool r) ∧ Below w.heap.size w w' := by
  have HN := hide hn
  have HR := hide hrr
  clear hn hrr
  have hno : ¬ Sys N rows → r = false := fun h => by
    cases r
    · rfl
    · exact absurd (HR.out.1 rfl) h
  have HNO := hide hno
  clear hno
  by_cases h1 : 1 ≤ N ∧ N ≤ 12
  · by_cases h16 : 16 < n
    · have hf := HNO.out (fun h => by have := h.2.2.1; have := HN.out; omega)
      subst hf
      have h16z : (16 : Int) < (n : Int) := by omega
      go_enter Try.func74, Try.ntmps74
      go_wp2_with fail
      refine (in_any _ _ _ true _ (by simp; omega)).mono ?_
      rintro e w1 ⟨rfl, hq1⟩
      have HQ1 := hide (hq1.below w.heap.size)
      clear hq1
      go_wp2_with fail
      go_ret
      exact ⟨rfl, HQ1.out⟩
    · have h16z : ¬ (16 : Int) < (n : Int) := by omega
      go_enter Try.func74, Try.ntmps74
      go_wp2_with fail
      refine (in_any _ _ _ true _ (by simp; omega)).mono ?_
      rintro e w1 ⟨rfl, hq1⟩
      have HQ1 := hide (hq1.below w.heap.size)
      clear hq1
      go_wp2_with fail
      go_loopw [5] (fun i wr => ∃ k : Nat, k ≤ n ∧ i = .int .i64 k ∧ Below w.heap.size w wr ∧ ∀ i, i < k → ((rows.getD i []).length : Int) = N ∧ Prm (rows.getD i [])) (fun i _ => n - (intOf i).toNat)
      case atStart => exact ⟨0, Nat.zero_le _, rfl, HQ1.out, fun i hi => absurd hi (Nat.not_lt_zero _)⟩
      case round =>
        obtain ⟨k, hk, rfl, hbe, hall⟩ := hrel
        have HB := hide hbe
        have HALL := hide hall
        clear hbe hall
        by_cases hlt : k < n
        · obtain ⟨b, o, rfl, _, hc⟩ := (hr.later HB.out) (by have := HN.out; omega)
          obtain ⟨Ak, ck, hcell, hrd⟩ := hc k (by have := HN.out; omega)
          have hbk := hbs k (by have := HN.out; omega)
          obtain ⟨x, hx⟩ : ∃ x, x = rows.getD k [] := ⟨_, rfl⟩
          obtain ⟨m, hm⟩ : ∃ m, x.length = m := ⟨_, rfl⟩
          rw [← hx] at hcell hbk hrd
          rw [hm] at hcell hbk
          have HX := hide hx
          have HM := hide hm
          clear hx hm hc hbs
          have hltz : (k : Int) < n := by omega
          by_cases hmn : (m : Int) = N
          · have hne : ((m : Int) != N) = false := by simp [hmn]
            have HMN := hide hmn
            clear hmn
            by_cases hp : Prm x
            · have HP := hide hp
              clear hp
              go_wp2_with fail
              refine (prmS_below _ _ _ x true _ HM.out (by omega) hrd (by simp [HP.out])).mono ?_
              rintro e w2 ⟨rfl, hq2⟩
              have HQ2 := hide hq2
              clear hq2
              go_wp2_with fail
              go_roundw
              case rel =>
                refine ⟨k + 1, by omega, by go_num, HB.out.trans (HQ2.out.mono HB.out.size), fun i hi => ?_⟩
                by_cases e : i = k
                · subst e; rw [← HX.out, HM.out]; exact ⟨HMN.out, HP.out⟩
                · exact HALL.out i (by omega)
              case measure => simp [intOf]; omega
            · have hf := HNO.out (fun h => by have := (h.2.2.2 k (by have := HN.out; omega)).2; rw [← HX.out] at this; exact hp this)
              subst hf
              have HP := hide hp
              clear hp
              go_wp2_with fail
              refine (prmS_below _ _ _ x false _ HM.out (by omega) hrd (by simp [HP.out])).mono ?_
              rintro e w2 ⟨rfl, hq2⟩
              have HQ2 := hide hq2
              clear hq2
              go_wp2_with fail
              go_ret
              exact ⟨rfl, HB.out.trans (HQ2.out.mono HB.out.size)⟩
          · have hne : ((m : Int) != N) = true := by simpa using hmn
            have hf := HNO.out (fun h => by have := (h.2.2.2 k (by have := HN.out; omega)).1; rw [← HX.out, HM.out] at this; exact hmn this)
            subst hf
            have HMN := hide hmn
            clear hmn
            go_wp2_with fail
            go_ret
            exact ⟨rfl, HB.out⟩
        · have hkn : k = n := by omega
          subst hkn
          have ht : r = true := HR.out.2 ⟨h1.1, h1.2, by have := HN.out; omega, fun i hi => HALL.out i (by have := HN.out; omega)⟩
          subst ht
          go_wp2_with fail
          go_ret
          exact ⟨rfl, HB.out⟩
  · have hf := HNO.out (fun h => h1 ⟨h.1, h.2.1⟩)
    subst hf
    have H1 := hide h1
    clear h1
    go_enter Try.func74, Try.ntmps74
    go_wp2_with fail
    refine (in_any _ _ _ false _ (by simp; exact fun h => by have := H1.out; omega)).mono ?_
    rintro e w1 ⟨rfl, hq1⟩
    have HQ1 := hide (hq1.below w.heap.size)
    clear hq1
    go_wp2_with fail
    go_ret
    exact ⟨rfl, HQ1.out⟩
end Go.Proofs.Ytnkggphffinekaa
