import Derived.Test.YtpkfcjpppncbiaaZe
namespace Go.Proofs.Ytpkfcjpppncbiaa
open Go Go.RowKit
set_option maxHeartbeats 1000000

theorem rowsI_any (A : Option Addr) (n c : Nat) (rows : List (List Int)) (r : Bool) (w : World) (hn : rows.length = n) (hb : n ≤ 1048576) (hbs : ∀ i, i < rows.length → (rows.getD i []).length ≤ 1048576) (hr : Rd2 w A rows) (hrr : r = true ↔ ∀ i, i < rows.length → Prm (rows.getD i [])) :
    Calls Try.prog 39 #[.slice A n c] w fun e w' => e = .returned (.bool r) ∧ Below w.heap.size w w' := by
  have HN := hide hn
  have HR := hide hrr
  clear hn hrr
  go_enter Try.func39, Try.ntmps39
  go_wp2_with fail
  skip
  go_loopw [7] (fun i wr => ∃ k : Nat, k ≤ n ∧ i = .int .i64 k ∧ Below w.heap.size w wr ∧ ∀ i, i < k → Prm (rows.getD i [])) (fun i _ => n - (intOf i).toNat)
  case atStart => exact ⟨0, Nat.zero_le _, rfl, Below.refl _ _, fun i hi => absurd hi (Nat.not_lt_zero _)⟩
  case round =>
    obtain ⟨k, hk, rfl, hbe, hall⟩ := hrel
    have HB := hide hbe
    have HALL := hide hall
    clear hbe hall
    by_cases hlt : k < n
    · obtain ⟨b, o, rfl, _, hc⟩ := (hr.later HB.out) (by have := HN.out; omega)
      obtain ⟨Ak, ck, hcell, hrd⟩ := hc k (by have := HN.out; omega)
      have hbk := hbs k (by have := HN.out; omega)
      obtain ⟨x, hx⟩ : ∃ x, x = rows.getD k [] := ⟨_, rfl⟩
      obtain ⟨m, hm⟩ : ∃ m, x.length = m := ⟨_, rfl⟩
      rw [← hx] at hcell hrd hbk
      rw [hm] at hcell hbk
      have HX := hide hx
      have HM := hide hm
      clear hx hm hc hbs
      have hltz : (k : Int) < n := by omega
      by_cases hp : Prm x
      · have HP := hide hp
        clear hp
        go_wp2_with fail
        refine (isPerm_any _ _ _ x true _ HM.out (by omega) hrd (by simp [HP.out])).mono ?_
        rintro e w1 ⟨rfl, hq1⟩
        have HQ1 := hide hq1
        clear hq1
        go_wp2_with fail
        go_roundw
        case rel =>
          refine ⟨k + 1, by omega, by go_num, HB.out.trans (HQ1.out.mono HB.out.size), fun i hi => ?_⟩
          by_cases e : i = k
          · subst e; rw [← HX.out]; exact HP.out
          · exact HALL.out i (by omega)
        case measure => simp [intOf]; omega
      · have HP := hide hp
        clear hp
        go_wp2_with fail
        refine (isPerm_any _ _ _ x false _ HM.out (by omega) hrd (by simp [HP.out])).mono ?_
        rintro e w1 ⟨rfl, hq1⟩
        have HQ1 := hide hq1
        clear hq1
        go_wp2_with fail
        go_ret
        have : r = false := by
          cases r
          · rfl
          · have h := HR.out.1 rfl k (by have := HN.out; omega)
            rw [← HX.out] at h
            exact absurd h HP.out
        exact ⟨by subst this; rfl, HB.out.trans (HQ1.out.mono HB.out.size)⟩
    · have hkn : k = n := by omega
      subst hkn
      go_wp2_with fail
      go_ret
      have : r = true := HR.out.2 fun i hi => HALL.out i (by have := HN.out; omega)
      exact ⟨by subst this; rfl, HB.out⟩
end Go.Proofs.Ytpkfcjpppncbiaa
