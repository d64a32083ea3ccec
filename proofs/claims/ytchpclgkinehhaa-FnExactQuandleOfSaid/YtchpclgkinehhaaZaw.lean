import Derived.Test.YtchpclgkinehhaaProg
import Derived.Test.YtchpclgkinehhaaZb
import Derived.Test.YtchpclgkinehhaaZas
namespace Go.Proofs.Ytchpclgkinehhaa
open Go Go.RowKit
set_option maxHeartbeats 1000000

theorem then_any (A C : Option Addr) (n c m d : Nat) (xs ys : List Int) (w : World) (hn : xs.length = n) (hm : ys.length = m) (hb : n ≤ 1048576) (hb2 : m ≤ 1048576) (hx : Rd w A xs) (hy : Rd w C ys) (hin : ∀ x ∈ xs, 0 ≤ x ∧ x < (m : Int)) :
    Calls Try.prog 83 #[.slice A n c, .slice C m d] w fun e w' => e = .returned (.slice (some ⟨w.heap.size, 0, none⟩) n n) ∧ Below w.heap.size w w' ∧ Row 2 w' w.heap.size (thenL xs ys) := by
  have hmk := run_make_row' (P := Try.prog) 67 2 (.int .i64 0) 8 Try.underlying67 rowInfo rfl .i64 .i64 n (by omega) (by omega)
  have HN := hide hn
  have HM := hide hm
  have HIN := hide hin
  clear hn hm hin
  go_enter Try.func83, Try.ntmps83
  go_wp2_with fail
  clear hmk
  go_loopw [13] (fun i wr => ∃ k : Nat, k ≤ n ∧ i = .int .i64 k ∧ Below w.heap.size w wr ∧ Row 2 wr w.heap.size ((thenL xs ys).take k ++ List.replicate (n - k) 0)) (fun i _ => n - (intOf i).toNat)
  case atStart => exact ⟨0, Nat.zero_le _, rfl, (Below.refl _ _).alloc (Nat.le_refl _) _, by simpa using Row.made 2 w n⟩
  case round =>
    obtain ⟨k, hk, rfl, hbe, hrow⟩ := hrel
    have HB := hide hbe
    have HROW := hide hrow
    clear hbe hrow
    have HZ : Hid ((thenL xs ys).length = n) := hide ((thenL_length xs ys).trans HN.out)
    by_cases hlt : k < n
    · obtain ⟨b, o, rfl, hbw, hc⟩ := hx (by have := HN.out; omega)
      have hc1 : wr.cell? ⟨b, o + k, none⟩ = some (.int .i64 (xs.getD k 0)) := (HB.out.cell (p := ⟨b, o + k, none⟩) hbw).trans (hc k (by have := HN.out; omega))
      have hl : k < xs.length := by have := HN.out; omega
      have hr := HIN.out (xs.getD k 0) (by simp [hl])
      have HL := hide hl
      obtain ⟨x, hx'⟩ : ∃ x, xs.getD k 0 = x := ⟨_, rfl⟩
      rw [hx'] at hc1 hr
      have HX := hide hx'
      clear hx' hc hl
      obtain ⟨j, rfl⟩ := Int.eq_ofNat_of_zero_le hr.1
      obtain ⟨b2, o2, rfl, hbw2, hc2⟩ := hy (by have := HM.out; omega)
      have hc3 : wr.cell? ⟨b2, o2 + j, none⟩ = some (.int .i64 (ys.getD j 0)) := (HB.out.cell (p := ⟨b2, o2 + j, none⟩) hbw2).trans (hc2 j (by have := HM.out; omega))
      obtain ⟨y, hy'⟩ : ∃ y, ys.getD j 0 = y := ⟨_, rfl⟩
      rw [hy'] at hc3
      have HY := hide hy'
      clear hy' hc2
      have h2 := HROW.out.cell (i := k) (by have := HZ.out; simp; omega)
      have h3 := HROW.out.frozen k
      have hltz : (k : Int) < n := by omega
      have hjz : (j : Int) < m := hr.2
      clear hr
      go_wp2_with fail
      go_roundw
      case rel =>
        have hst := HROW.out.set k ((thenL xs ys).getD k 0)
        rw [fill_step (thenL xs ys) n k HZ.out hlt] at hst
        have e : (thenL xs ys).getD k 0 = y := (thenL_getD xs ys k j HL.out HX.out).trans HY.out
        rw [e] at hst
        exact ⟨k + 1, by omega, by go_num, HB.out.setCell (p := ⟨w.heap.size, k, none⟩) (Nat.le_refl _) _, hst⟩
      case measure => simp [intOf]; omega
    · have hkn : k = n := by omega
      subst hkn
      go_wp2_with fail
      go_ret
      refine ⟨rfl, HB.out, ?_⟩
      have h := HROW.out
      have hz := HZ.out
      rw [Nat.sub_self, List.replicate_zero, List.append_nil, List.take_of_length_le (by omega)] at h
      exact h
theorem then_any' (A C : Option Addr) (n c m d : Nat) (xs ys : List Int) (w : World) (hn : xs.length = n) (hm : ys.length = m) (hb : n ≤ 1048576) (hb2 : m ≤ 1048576) (hx : Rd w A xs) (hy : Rd w C ys) (hin : ∀ x ∈ xs, 0 ≤ x ∧ x < (m : Int)) :
    Calls Try.prog 83 #[.slice A n c, .slice C m d] w fun e w' => ∃ A' c', e = .returned (.slice A' n c') ∧ Below w.heap.size w w' ∧ Res 2 w.heap.size w' A' (thenL xs ys) :=
  (then_any A C n c m d xs ys w hn hm hb hb2 hx hy hin).mono fun _ _ ⟨he, hb, hr⟩ => ⟨_, _, he, hb, .inr ⟨_, rfl, Nat.le_refl _, hr.own⟩⟩

end Go.Proofs.Ytchpclgkinehhaa
