import Derived.Test.YthkhkehpmolfaaaZaa
namespace Go.Proofs.Ythkhkehpmolfaaa
open Go Go.RowKit
set_option maxHeartbeats 1000000

theorem inverse_any (A : Option Addr) (n c : Nat) (xs : List Int) (w : World) (hn : xs.length = n) (hb : n ≤ 1048576) (hx : Rd w A xs) (hin : ∀ x ∈ xs, 0 ≤ x ∧ x < (n : Int)) :
    Calls Try.prog 120 #[.slice A n c] w fun e w' => ∃ A' c', e = .returned (.slice A' n c') ∧ Below w.heap.size w w' ∧ Res 2 w.heap.size w' A' (backTo xs n) := by
  have hmk := run_make_row' (P := Try.prog) 60 2 (.int .i64 0) 8 Try.underlying60 backInfo rfl .i64 .i64 n (by omega) (by omega)
  have HN := hide hn
  have HIN := hide hin
  clear hn hin
  go_enter Try.func120, Try.ntmps120
  go_wp2_with fail
  clear hmk
  go_loopw [11] (fun i wr => ∃ k : Nat, k ≤ n ∧ i = .int .i64 k ∧ Below w.heap.size w wr ∧ Row 2 wr w.heap.size (backTo xs k)) (fun i _ => n - (intOf i).toNat)
  case atStart => exact ⟨0, Nat.zero_le _, rfl, (Below.refl _ _).alloc (Nat.le_refl _) _, by rw [backTo, HN.out]; exact Row.made 2 w n⟩
  case round =>
    obtain ⟨k, hk, rfl, hbe, hrow⟩ := hrel
    have HB := hide hbe
    have HROW := hide hrow
    clear hbe hrow
    by_cases hlt : k < n
    · obtain ⟨b, o, rfl, hbw, hc⟩ := hx (by have := HN.out; omega)
      have hc1 : wr.cell? ⟨b, o + k, none⟩ = some (.int .i64 (xs.getD k 0)) := (HB.out.cell (p := ⟨b, o + k, none⟩) hbw).trans (hc k (by have := HN.out; omega))
      have hl : k < xs.length := by have := HN.out; omega
      have hr := HIN.out (xs.getD k 0) (by simp [hl])
      obtain ⟨x, hx'⟩ : ∃ x, xs.getD k 0 = x := ⟨_, rfl⟩
      rw [hx'] at hc1 hr
      have HX := hide hx'
      clear hx' hc hl
      obtain ⟨j, rfl⟩ := Int.eq_ofNat_of_zero_le hr.1
      have h2 := HROW.out.cell (i := j) (by rw [backTo_length, HN.out]; omega)
      obtain ⟨y, hy⟩ : ∃ y, (backTo xs k).getD j 0 = y := ⟨_, rfl⟩
      rw [hy] at h2
      have h3 := HROW.out.frozen j
      have hltz : (k : Int) < n := by omega
      have hjz : (j : Int) < n := hr.2
      clear hr hy
      go_wp2_with fail
      go_roundw
      case rel =>
        have hst := HROW.out.set j (k : Int)
        refine ⟨k + 1, by omega, by go_num, HB.out.setCell (p := ⟨w.heap.size, j, none⟩) (Nat.le_refl _) _, ?_⟩
        rw [backTo, HX.out]
        exact hst
      case measure => simp [intOf]; omega
    · have hkn : k = n := by omega
      subst hkn
      go_wp2_with fail
      go_ret
      exact ⟨_, _, rfl, HB.out, .inr ⟨_, rfl, Nat.le_refl _, HROW.out.own⟩⟩
end Go.Proofs.Ythkhkehpmolfaaa
