import Derived.Test.YtkflmhmbkilmpaaSysF
import Derived.Test.YtkflmhmbkilmpaaRowsI
namespace Go.Proofs.Ytkflmhmbkilmpaa
open Go Go.RowKit
set_option maxHeartbeats 1000000

theorem isSystem_any (N : Int) (A : Option Addr) (n c : Nat) (rows : List (List Int)) (r : Bool) (w : World) (hlo : -9223372036854775808 ≤ N) (hhi : N ≤ 9223372036854775807) (hn : rows.length = n) (hb : n ≤ 1048576) (hbs : ∀ i, i < rows.length → (rows.getD i []).length ≤ 1048576) (hr : Rd2 w A rows) (hrr : r = true ↔ Sys N rows) :
    Calls Try.prog 86 #[.int .i64 N, .slice A n c] w fun e w' => e = .returned (.bool r) ∧ Below w.heap.size w w' := by
  have HN := hide hn
  have HR := hide hrr
  clear hn hrr
  have hno : ¬ Sys N rows → r = false := fun h => by
    cases r
    · rfl
    · exact absurd (HR.out.1 rfl) h
  have HNO := hide hno
  clear hno
  by_cases h1 : N < 1
  · have hf := HNO.out (fun h => by have := h.1; omega)
    subst hf
    go_enter Try.func86, Try.ntmps86
    go_wp2_with fail
    go_ret
    exact ⟨rfl, Below.refl _ _⟩
  · by_cases h12 : 12 < N
    · have hf := HNO.out (fun h => by have := h.2.1; omega)
      subst hf
      go_enter Try.func86, Try.ntmps86
      go_wp2_with fail
      go_ret
      exact ⟨rfl, Below.refl _ _⟩
    · by_cases h16 : 16 < n
      · have hf := HNO.out (fun h => by have := h.2.2.1; have := HN.out; omega)
        subst hf
        have h16z : (16 : Int) < (n : Int) := by omega
        go_enter Try.func86, Try.ntmps86
        go_wp2_with fail
        go_ret
        exact ⟨rfl, Below.refl _ _⟩
      · have h16z : ¬ (16 : Int) < (n : Int) := by omega
        go_enter Try.func86, Try.ntmps86
        go_wp2_with fail
        go_loopw [20] (fun i wr => ∃ k : Nat, k ≤ n ∧ i = .int .i64 k ∧ Below w.heap.size w wr ∧ ∀ i, i < k → ((rows.getD i []).length : Int) = N) (fun i _ => n - (intOf i).toNat)
        case atStart => exact ⟨0, Nat.zero_le _, rfl, Below.refl _ _, fun i hi => absurd hi (Nat.not_lt_zero _)⟩
        case round =>
          obtain ⟨k, hk, rfl, hbe, hall⟩ := hrel
          have HB := hide hbe
          have HALL := hide hall
          clear hbe hall
          by_cases hlt : k < n
          · obtain ⟨b, o, rfl, _, hc⟩ := (hr.later HB.out) (by have := HN.out; omega)
            obtain ⟨Ak, ck, hcell, hrd⟩ := hc k (by have := HN.out; omega)
            have hbk := hbs k (by have := HN.out; omega)
            obtain ⟨x, hx⟩ : ∃ x, x = rows.getD k [] := ⟨_, rfl⟩
            obtain ⟨m, hm⟩ : ∃ m, x.length = m := ⟨_, rfl⟩
            rw [← hx] at hcell hbk
            rw [hm] at hcell hbk
            have HX := hide hx
            have HM := hide hm
            clear hx hm hc hbs hrd
            have hltz : (k : Int) < n := by omega
            by_cases hmn : (m : Int) = N
            · have hne : ((m : Int) != N) = false := by simp [hmn]
              have HMN := hide hmn
              clear hmn
              go_wp2_with fail
              go_roundw
              case rel =>
                refine ⟨k + 1, by omega, by go_num, HB.out, fun i hi => ?_⟩
                by_cases e : i = k
                · subst e; rw [← HX.out, HM.out]; exact HMN.out
                · exact HALL.out i (by omega)
              case measure => simp [intOf]; omega
            · have hne : ((m : Int) != N) = true := by simpa using hmn
              have hf := HNO.out (fun h => by have := (h.2.2.2 k (by have := HN.out; omega)).1; rw [← HX.out, HM.out] at this; exact hmn this)
              subst hf
              have HMN := hide hmn
              clear hmn
              go_wp2_with fail
              go_ret
              exact ⟨rfl, HB.out⟩
          · have hkn : k = n := by omega
            subst hkn
            go_wp2_with fail
            refine (rowsI_any _ _ _ rows r _ HN.out hb hbs (hr.later HB.out) ?_).mono ?_
            · constructor
              · intro h
                exact fun i hi => ((HR.out.1 h).2.2.2 i hi).2
              · intro h
                exact HR.out.2 ⟨by omega, by omega, by have := HN.out; omega, fun i hi => ⟨HALL.out i (by have := HN.out; omega), h i hi⟩⟩
            rintro e w1 ⟨rfl, hq1⟩
            have HQ1 := hide hq1
            clear hq1
            go_wp2_with fail
            go_ret
            exact ⟨rfl, HB.out.trans (HQ1.out.mono HB.out.size)⟩
end Go.Proofs.Ytkflmhmbkilmpaa
