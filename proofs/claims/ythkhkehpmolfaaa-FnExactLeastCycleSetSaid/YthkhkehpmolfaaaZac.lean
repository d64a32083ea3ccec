import Derived.Test.YthkhkehpmolfaaaProg
import Derived.Test.YthkhkehpmolfaaaZb
namespace Go.Proofs.Ythkhkehpmolfaaa
open Go Go.RowKit
set_option maxHeartbeats 1000000

theorem idInfo : (Try.prog.info? 2).map (fun i => (i.zero, i.size, i.bytes)) = some (some (.int .i64 0), 1, 8) := by kernel_rfl
def unitL (n : Nat) : List Int := (List.range n).map fun (x : Nat) => Int.ofNat x
theorem unitL_length (n : Nat) : (unitL n).length = n := by simp [unitL]
theorem unitL_getD (n k : Nat) (h : k < n) : (unitL n).getD k 0 = (k : Int) := by simp [unitL, h]

theorem identityOf_any (n : Nat) (w : World) (hb : n ≤ 1048576) :
    Calls Try.prog 74 #[.int .i64 n] w fun e w' => e = .returned (.slice (some ⟨w.heap.size, 0, none⟩) n n) ∧ Below w.heap.size w w' ∧ Row 2 w' w.heap.size (unitL n) ∧ w'.heap.size = w.heap.size + 1 := by
  have hmk := run_make_row' (P := Try.prog) 60 2 (.int .i64 0) 8 Try.underlying60 idInfo rfl .i64 .i64 n (by omega) (by omega)
  go_enter Try.func74, Try.ntmps74
  go_wp2_with fail
  clear hmk
  go_loopw [9] (fun i wr => ∃ k : Nat, k ≤ n ∧ i = .int .i64 k ∧ Below w.heap.size w wr ∧ Row 2 wr w.heap.size ((unitL n).take k ++ List.replicate (n - k) 0) ∧ wr.heap.size = w.heap.size + 1) (fun i _ => n - (intOf i).toNat)
  case atStart => exact ⟨0, Nat.zero_le _, rfl, (Below.refl _ _).alloc (Nat.le_refl _) _, by simpa using Row.made 2 w n, by simp⟩
  case round =>
    obtain ⟨k, hk, rfl, hbe, hrow, hsz⟩ := hrel
    have HB := hide hbe
    have HROW := hide hrow
    have HSZ := hide hsz
    clear hbe hrow hsz
    have HU : Hid ((unitL n).length = n) := hide (unitL_length n)
    by_cases hlt : k < n
    · have h2 := HROW.out.cell (i := k) (by have := HU.out; simp; omega)
      have h3 := HROW.out.frozen k
      have hltz : (k : Int) < n := by omega
      go_wp2_with fail
      go_roundw
      case rel =>
        have hst := HROW.out.set k ((unitL n).getD k 0)
        rw [fill_step (unitL n) n k HU.out hlt, unitL_getD n k hlt] at hst
        exact ⟨k + 1, by omega, by go_num, HB.out.setCell (p := ⟨w.heap.size, k, none⟩) (Nat.le_refl _) _, hst, by have := HSZ.out; simpa [World.setCell] using this⟩
      case measure => simp [intOf]; omega
    · have hkn : k = n := by omega
      subst hkn
      go_wp2_with fail
      go_ret
      have h := HROW.out
      have hz := HU.out
      rw [Nat.sub_self, List.replicate_zero, List.append_nil, List.take_of_length_le (by omega)] at h
      exact ⟨rfl, HB.out, h, HSZ.out⟩
end Go.Proofs.Ythkhkehpmolfaaa
