import Derived.Test.YtkflmhmbkilmpabLineS
import Derived.Test.YtkflmhmbkilmpabTabT
namespace Go.Proofs.Ytkflmhmbkilmpab
open Go Go.RowKit
set_option maxHeartbeats 1000000

theorem l01Text_any (A : Option Addr) (n c : Nat) (rows : List (List Int)) (w : World) (hn : rows.length = n) (hT : Tbl rows) (hr : Rd2 w A rows) :
    Calls Try.prog 56 #[.slice A n c] w fun e w' => e = .returned (.string (tabS rows)) ∧ Below w.heap.size w w' := by
  have HN := hide hn
  have HT := hide hT
  have h12 : n ≤ 12 := by have := hT.2.1; omega
  clear hn hT
  go_enter Try.func56, Try.ntmps56
  go_wp2_with fail
  go_loopw [3, 4] (fun s i wr => ∃ (k : Nat) (a : ByteArray), k ≤ n ∧ i = .int .i64 k ∧ s = .string a ∧ Hid (a = tabS (rows.take k)) ∧ a.size ≤ 1000 ∧ Below w.heap.size w wr) (fun _ i _ => n - (intOf i).toNat)
  case atStart => exact ⟨0, _, Nat.zero_le _, rfl, rfl, hide (by simp [tabS, tabT, Lib.join_nil]), by simp [ByteArray.size], Below.refl _ _⟩
  case round =>
    obtain ⟨k, a, hk, rfl, rfl, HA, has, hbe⟩ := hrel
    have HB := hide hbe
    clear hbe
    by_cases hlt : k < n
    · obtain ⟨b, o, rfl, hbw, hc⟩ := (hr.later HB.out) (by have := HN.out; omega)
      obtain ⟨Ak, ck, hcell, hrd⟩ := hc k (by have := HN.out; omega)
      have hrl := HT.out.rows k (by have := HN.out; omega)
      have hdig := HT.out.dig k (by have := HN.out; omega)
      rw [HN.out] at hrl
      obtain ⟨r, hr'⟩ : ∃ r, r = rows.getD k [] := ⟨_, rfl⟩
      rw [← hr'] at hcell hrd hrl hdig
      rw [hrl] at hcell
      have HR := hide hr'
      have HL := hide hrl
      have HD := hide hdig
      clear hr' hc hrl hdig
      have hltz : (k : Int) < n := by omega
      have hds := lineS_size r
      obtain ⟨d, hd⟩ : ∃ d, lineS r = d := ⟨_, rfl⟩
      rw [hd] at hds
      have hds' : d.size ≤ 12 := by have := HL.out; omega
      have HDD := hide hd
      clear hds hd
      have hsz : ∀ k, k ≤ n → (tabS (rows.take k)).size ≤ 1000 := fun k hk => by
        have h := tabS_size rows 12 (fun i hi => by have := HT.out.rows i hi; have := HT.out.2.1; omega) k (by have := HN.out; omega)
        have : k * 13 ≤ 12 * 13 := Nat.mul_le_mul_right _ (by omega)
        omega
      have HSZ := hide hsz
      clear hsz
      by_cases h0 : k = 0
      · subst h0
        have hcell0 : wr.cell? ⟨b, o, none⟩ = some (.slice Ak n ck) := by simpa using hcell
        clear hcell
        go_wp2_with fail
        refine (l01Line_any _ _ _ r _ HL.out (by omega) hrd HD.out).mono ?_
        rintro e w1 ⟨rfl, hq1⟩
        have HQ1 := hide hq1
        rw [HDD.out]
        clear hq1
        go_wp2_with fail
        go_roundw
        case rel =>
          have e : a ++ d = tabS (rows.take 1) := by
            have h := HA.out
            rw [List.take_zero] at h
            have h2 : tabS [] = ⟨#[]⟩ := rfl
            rw [h, h2, ← HDD.out, HR.out, tabS_first rows (by have := HN.out; omega)]
          refine ⟨1, _, by omega, by go_num, rfl, hide e, ?_, HB.out.trans (HQ1.out.mono HB.out.size)⟩
          rw [e]
          exact HSZ.out 1 (by omega)
        case measure => simp [intOf]; omega
      · have h0z : (0 : Int) < k := by omega
        have H0 := hide h0
        clear h0
        go_wp2_with fail
        refine (l01Line_any _ _ _ r _ HL.out (by omega) hrd HD.out).mono ?_
        rintro e w1 ⟨rfl, hq1⟩
        have HQ1 := hide hq1
        rw [HDD.out]
        clear hq1
        have hs47 : (⟨#[47]⟩ : ByteArray).size = 1 := rfl
        go_wp2_with fail
        go_roundw
        case rel =>
          have e : (a ++ ⟨#[47]⟩) ++ d = tabS (rows.take (k + 1)) := by rw [HA.out, ← HDD.out, HR.out, tabS_step rows k (by have := HN.out; omega) H0.out]
          refine ⟨k + 1, _, by omega, by go_num, rfl, hide e, ?_, HB.out.trans (HQ1.out.mono HB.out.size)⟩
          rw [e]
          exact HSZ.out (k + 1) (by omega)
        case measure => simp [intOf]; omega
    · have hkn : k = n := by omega
      subst hkn
      go_wp2_with fail
      go_ret
      have h := HA.out
      rw [List.take_of_length_le (by have := HN.out; omega)] at h
      exact ⟨by rw [← h]; rfl, HB.out⟩
end Go.Proofs.Ytkflmhmbkilmpab
