import Derived.Test.YthkhkehpmolfaaaProg
import Derived.Test.YthkhkehpmolfaaaZb
namespace Go.Proofs.Ythkhkehpmolfaaa
open Go Go.RowKit
set_option maxHeartbeats 1000000

/-- The inverse after k rounds. -/
def backTo (p : List Int) : Nat → List Int
  | 0 => List.replicate p.length 0
  | k + 1 => (backTo p k).set (p.getD k 0).toNat (k : Int)
theorem backTo_length (p : List Int) (k : Nat) : (backTo p k).length = p.length := by
  induction k with
  | zero => simp [backTo]
  | succ k ih => simp [backTo, ih]

def InvRes (p zs : List Int) (code : Int) : Prop := (Prm p ∧ zs = backTo p p.length ∧ code = 0) ∨ (¬ Prm p ∧ zs = [] ∧ code = 1)
theorem InvRes.ex (p : List Int) : ∃ zs code, InvRes p zs code ∧ zs.length ≤ 12 := by
  by_cases h : Prm p
  · exact ⟨_, _, .inl ⟨h, rfl, rfl⟩, by rw [backTo_length]; exact h.2.1⟩
  · exact ⟨_, _, .inr ⟨h, rfl, rfl⟩, by simp⟩

theorem backInfo : (Try.prog.info? 2).map (fun i => (i.zero, i.size, i.bytes)) = some (some (.int .i64 0), 1, 8) := by kernel_rfl

theorem l01Back_any (A : Option Addr) (n c : Nat) (xs : List Int) (w : World) (hn : xs.length = n) (hb : n ≤ 1048576) (hx : Rd w A xs) (hin : ∀ x ∈ xs, 0 ≤ x ∧ x < (n : Int)) :
    Calls Try.prog 98 #[.slice A n c] w fun e w' => ∃ A' c', e = .returned (.slice A' n c') ∧ Below w.heap.size w w' ∧ Res 2 w.heap.size w' A' (backTo xs n) := by
  have hmk := run_make_row' (P := Try.prog) 31 2 (.int .i64 0) 8 Try.underlying31 backInfo rfl .i64 .i64 n (by omega) (by omega)
  have HN := hide hn
  have HIN := hide hin
  clear hn hin
  go_enter Try.func98, Try.ntmps98
  go_wp2_with fail
  clear hmk
  go_loopw [4] (fun i wr => ∃ k : Nat, k ≤ n ∧ i = .int .i64 k ∧ Below w.heap.size w wr ∧ Row 2 wr w.heap.size (backTo xs k)) (fun i _ => n - (intOf i).toNat)
  case atStart => exact ⟨0, Nat.zero_le _, rfl, (Below.refl _ _).alloc (Nat.le_refl _) _, by rw [backTo, HN.out]; exact Row.made 2 w n⟩
  case round =>
    obtain ⟨k, hk, rfl, hbe, hrow⟩ := hrel
    have HB := hide hbe
    have HROW := hide hrow
    clear hbe hrow
    by_cases hlt : k < n
    · obtain ⟨b, o, rfl, hbw, hc⟩ := hx (by have := HN.out; omega)
      have hc1 : wr.cell? ⟨b, o + k, none⟩ = some (.int .i64 (xs.getD k 0)) := (HB.out.cell (p := ⟨b, o + k, none⟩) hbw).trans (hc k (by have := HN.out; omega))
      have hl : k < xs.length := by have := HN.out; omega
      have hr := HIN.out (xs.getD k 0) (by simp [hl])
      obtain ⟨x, hx'⟩ : ∃ x, xs.getD k 0 = x := ⟨_, rfl⟩
      rw [hx'] at hc1 hr
      have HX := hide hx'
      clear hx' hc hl
      obtain ⟨j, rfl⟩ := Int.eq_ofNat_of_zero_le hr.1
      have h2 := HROW.out.cell (i := j) (by rw [backTo_length, HN.out]; omega)
      obtain ⟨y, hy⟩ : ∃ y, (backTo xs k).getD j 0 = y := ⟨_, rfl⟩
      rw [hy] at h2
      have h3 := HROW.out.frozen j
      have hltz : (k : Int) < n := by omega
      have hjz : (j : Int) < n := hr.2
      clear hr hy
      go_wp2_with fail
      go_roundw
      case rel =>
        have hst := HROW.out.set j (k : Int)
        refine ⟨k + 1, by omega, by go_num, HB.out.setCell (p := ⟨w.heap.size, j, none⟩) (Nat.le_refl _) _, ?_⟩
        rw [backTo, HX.out]
        exact hst
      case measure => simp [intOf]; omega
    · have hkn : k = n := by omega
      subst hkn
      go_wp2_with fail
      go_ret
      exact ⟨_, _, rfl, HB.out, .inr ⟨_, rfl, Nat.le_refl _, HROW.out.own⟩⟩
end Go.Proofs.Ythkhkehpmolfaaa
