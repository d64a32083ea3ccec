import Derived.Test.YthkhkehpmolfaaaZak
namespace Go.Proofs.Ythkhkehpmolfaaa
open Go Go.RowKit
set_option maxHeartbeats 2000000

theorem pdq_any (g n c : Nat) (v : Int) (xs : List Int) (w : World) (hn : xs.length = n) (hb : n ≤ 12) (how : OwnB 2 w g xs) :
    Calls Try.prog 130 #[.slice (some ⟨g, 0, none⟩) n c, .int .i64 0, .int .i64 n, .int .i64 v] w fun e w' => e = .returned (.tuple #[]) ∧ Only (some ⟨g, 0, none⟩) w w' ∧ ∃ ys, ys.Perm xs ∧ Sorted ys ∧ OwnB 2 w' g ys := by
  have HN := hide hn
  have HW := hide how
  clear hn how
  go_enter Try.func130, Try.ntmps130
  go_wp2_with fail
  go_loopw [1, 2] (fun a b wr => a = .int .i64 0 ∧ b = .int .i64 n ∧ wr = w) (fun _ _ _ => 0)
  case atStart => exact ⟨rfl, rfl, rfl⟩
  case round =>
    obtain ⟨rfl, rfl, rfl⟩ := hrel
    have hnz : (n : Int) ≤ 12 := by omega
    go_wp2_with fail
    refine (insertion_any g n _ xs _ HN.out (by omega) HW.out).mono ?_
    rintro e w2 ⟨rfl, ho, hrest⟩
    have HO := hide ho
    have HR := hide hrest
    clear ho hrest
    go_wp2_with fail
    refine bodyPost_ret (results_none rfl _ _ _) rfl ?_
    exact ⟨rfl, HO.out, HR.out⟩
set_option maxRecDepth 20000 in
theorem len64_any (n : Nat) (w : World) (hb : n ≤ 12) : Calls Try.prog 143 #[.int .u64 n] w fun e w' => (∃ v : Int, e = .returned (.int .i64 v)) ∧ Quiet w w' := by
  have h13 : n = 0 ∨ n = 1 ∨ n = 2 ∨ n = 3 ∨ n = 4 ∨ n = 5 ∨ n = 6 ∨ n = 7 ∨ n = 8 ∨ n = 9 ∨ n = 10 ∨ n = 11 ∨ n = 12 := by omega
  rcases h13 with rfl | rfl | rfl | rfl | rfl | rfl | rfl | rfl | rfl | rfl | rfl | rfl | rfl
  all_goals (
    go_enter Try.func143, Try.ntmps143
    go_wp2_with fail
    go_ret
    exact ⟨⟨_, rfl⟩, Quiet.refl _⟩)
theorem blen_any (n : Nat) (w : World) (hb : n ≤ 12) : Calls Try.prog 131 #[.int .u64 n] w fun e w' => (∃ v : Int, e = .returned (.int .i64 v)) ∧ Quiet w w' := by
  go_enter Try.func131, Try.ntmps131
  go_wp2_with fail
  refine (len64_any n _ hb).mono ?_
  rintro e w2 ⟨⟨v, rfl⟩, hq⟩
  go_wp2_with fail
  go_ret
  exact ⟨⟨v, rfl⟩, hq⟩
theorem sort_any (g n c : Nat) (xs : List Int) (w : World) (hn : xs.length = n) (hb : n ≤ 12) (how : OwnB 2 w g xs) :
    Calls Try.prog 123 #[.slice (some ⟨g, 0, none⟩) n c] w fun e w' => e = .returned (.tuple #[]) ∧ Only (some ⟨g, 0, none⟩) w w' ∧ ∃ ys, ys.Perm xs ∧ Sorted ys ∧ OwnB 2 w' g ys := by
  have HN := hide hn
  have HW := hide how
  clear hn how
  go_enter Try.func123, Try.ntmps123
  go_wp2_with fail
  refine (blen_any n _ hb).mono ?_
  rintro e w2 ⟨⟨v, rfl⟩, hq⟩
  have HQ := hide hq
  have hl : OwnB 2 w2 g xs := by obtain ⟨q, rfl⟩ := hq; exact ⟨HW.out.choose, HW.out.choose_spec⟩
  have HL := hide hl
  clear hq hl
  go_wp2_with fail
  refine (pdq_any g n _ v xs _ HN.out hb HL.out).mono ?_
  rintro e w3 ⟨rfl, ho, hrest⟩
  have HO := hide ho
  have HR := hide hrest
  clear ho hrest
  go_wp2_with fail
  go_end0
  refine ⟨rfl, ?_, HR.out⟩
  have h1 := Only.quiet (A := some ⟨g, 0, none⟩) HQ.out
  have k := HO.out
  exact ⟨k.os.trans h1.os, k.tape.trans h1.tape, k.output.trans h1.output, Nat.le_trans h1.size k.size, fun i hi hne => (k.block i (Nat.lt_of_lt_of_le hi h1.size) hne).trans (h1.block i hi hne)⟩
end Go.Proofs.Ythkhkehpmolfaaa
