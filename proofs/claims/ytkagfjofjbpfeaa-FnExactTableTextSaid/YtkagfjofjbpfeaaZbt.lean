import Derived.Test.YtkagfjofjbpfeaaProg
import Derived.Test.YtkagfjofjbpfeaaZbr
import Derived.Test.YtkagfjofjbpfeaaZk
namespace Go.Proofs.Ytkagfjofjbpfeaa
open Go Go.RowKit
set_option maxHeartbeats 1000000

theorem byInfo : (Try.prog.info? 5).map (fun i => (i.zero, i.size, i.bytes)) = some (some (.int .u8 0), 1, 1) := by kernel_rfl

theorem dgAt (j : Nat) (h : j < (⟨#[48, 49, 50, 51, 52, 53, 54, 55, 56, 57, 97, 98]⟩ : ByteArray).size) : (((⟨#[48, 49, 50, 51, 52, 53, 54, 55, 56, 57, 97, 98]⟩ : ByteArray)[j]'h).toNat : Int) = dg (j : Int) := by
  have h12 : j < 12 := h
  match j, h12 with
  | 0, _ | 1, _ | 2, _ | 3, _ | 4, _ | 5, _ | 6, _ | 7, _ | 8, _ | 9, _ | 10, _ | 11, _ => rfl

theorem digitsOf_any (A : Option Addr) (n c : Nat) (xs : List Int) (w : World) (hn : xs.length = n) (hb : n ≤ 1048576) (hx : Rd w A xs) (hin : ∀ x ∈ xs, 0 ≤ x ∧ x < 12) :
    Calls Try.prog 75 #[.slice A n c] w fun e w' => e = .returned (.string (lineS xs)) ∧ Below w.heap.size w w' := by
  have hmk := run_make_row' (P := Try.prog) 98 5 (.int .u8 0) 1 Try.underlying98 byInfo rfl .i64 .i64 n (by omega) (by omega)
  have HN := hide hn
  have HIN := hide hin
  clear hn hin
  go_enter Try.func75, Try.ntmps75
  go_wp2_with fail
  clear hmk
  go_loopw [11] (fun i wr => ∃ k : Nat, k ≤ n ∧ i = .int .i64 k ∧ Below w.heap.size w wr ∧ PreIs wr w.heap.size 5 n (fun j => .int .u8 (if j < k then dg (xs.getD j 0) else 0))) (fun i _ => n - (intOf i).toNat)
  case atStart => exact ⟨0, Nat.zero_le _, rfl, (Below.refl _ _).alloc (Nat.le_refl _) _, .of_row ((World.rowIs_made w _ n _).congr (fun j _ => by simp))⟩
  case round =>
    obtain ⟨k, hk, rfl, hbe, hpre⟩ := hrel
    have HB := hide hbe
    have HP := hide hpre
    clear hbe hpre
    by_cases hlt : k < n
    · obtain ⟨b, o, rfl, hbw, hc⟩ := hx (by have := HN.out; omega)
      have hc1 : wr.cell? ⟨b, o + k, none⟩ = some (.int .i64 (xs.getD k 0)) := (HB.out.cell (p := ⟨b, o + k, none⟩) hbw).trans (hc k (by have := HN.out; omega))
      have hl : k < xs.length := by have := HN.out; omega
      have hr := HIN.out (xs.getD k 0) (by simp [hl])
      have HL := hide hl
      obtain ⟨x, hx'⟩ : ∃ x, xs.getD k 0 = x := ⟨_, rfl⟩
      rw [hx'] at hc1 hr
      have HX := hide hx'
      clear hx' hc hl
      obtain ⟨j, rfl⟩ := Int.eq_ofNat_of_zero_le hr.1
      have hj : j < 12 := by omega
      clear hr
      have h2 := HP.out.cell hlt
      simp only [Nat.lt_irrefl, if_false] at h2
      have h3 := HP.out.frozen k
      have hltz : (k : Int) < n := by omega
      have hjz : (j : Int) < 12 := by omega
      go_wp2_with fail
      go_roundw
      case rel =>
        refine ⟨k + 1, by omega, by go_num, HB.out.setCell (p := ⟨w.heap.size, k, none⟩) (Nat.le_refl _) _, (HP.out.set k _).congr (fun i hi => ?_)⟩
        by_cases e : i = k
        · subst e
          rw [if_pos rfl, if_pos (by omega), HX.out, dgAt]
        · rw [if_neg e]
          by_cases e2 : i < k
          · rw [if_pos e2, if_pos (by omega)]
          · rw [if_neg e2, if_neg (by omega)]
      case measure => simp [intOf]; omega
    · have hkn : k = n := by omega
      subst hkn
      have hcv := run_convert_bytes_arg (P := Try.prog) wr 98 5 Try.underlying98 Try.underlying5 w.heap.size 0 k k (lineL xs) ((lineL_length xs).trans HN.out)
        (fun i hi => by
          rw [Nat.zero_add, HP.out.cell hi, if_pos hi]
          have hl : i < xs.length := by have := HN.out; omega
          simp [lineL, hl]) 9 Try.underlying9
      go_wp2_with fail
      go_ret
      exact ⟨rfl, HB.out⟩
end Go.Proofs.Ytkagfjofjbpfeaa
