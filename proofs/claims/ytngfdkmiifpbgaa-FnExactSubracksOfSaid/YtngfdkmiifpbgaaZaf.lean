import Derived.Test.YtngfdkmiifpbgaaZt
import Derived.Test.YtngfdkmiifpbgaaZk
namespace Go.Proofs.Ytngfdkmiifpbgaa
open Go Go.RowKit
set_option maxHeartbeats 1000000

set_option maxRecDepth 100000 in
theorem membersOf_any (S : Nat) (w : World) (hS : S < 4096) :
    Calls Try.prog 101 #[.int .i64 S] w fun e w' => ∃ A c, e = .returned (.slice A (mems 12 S).length c) ∧ Below w.heap.size w w' ∧ Res 2 w.heap.size w' A (memL 12 S) := by
  obtain ⟨i0, hi, hz0, hz1, hz2⟩ := info_parts neInfo
  go_enter Try.func101, Try.ntmps101
  go_wp2_with fail
  go_loopw [3, 6] (fun v i wr => ∃ k : Nat, k ≤ 12 ∧ i = .int .i64 k ∧ Below w.heap.size w wr ∧ wr.ownsRow w.heap.size 2 1 v (mems k S).length (ints (memL k S)) ∧ w.heap.size ≤ wr.heap.size) (fun _ i _ => 12 - (intOf i).toNat)
  case atStart => exact ⟨0, Nat.zero_le _, rfl, (Below.refl _ _).alloc (Nat.le_refl _) _, by simpa [ints, memL, mems] using ne_empty w _, by simp⟩
  case round =>
    obtain ⟨k, hk, rfl, hbe, hown, hsz⟩ := hrel
    have HB := hide hbe
    have HO := hide hown
    clear hbe hown
    by_cases hlt : k < 12
    · have hkz : (k : Int) < 12 := by omega
      have hml := mems_length k S
      obtain ⟨l, hl⟩ : ∃ l, (mems k S).length = l := ⟨_, rfl⟩
      rw [hl] at hml HO
      have HL := hide hl
      clear hl
      by_cases hin : inb S k
      · have f2 := bt_in (by omega) hin
        have HIN := hide hin
        clear hin
        go_wp2_with (at_builtin; refine wpList_append_own _ rfl _ _ 42 rfl w.heap.size 2 i0 (.int .i64 0) 1 8 Try.underlying42 hi hz0 hz1 hz2 rfl (by decide) _ _ _ rfl (HO.out.alloc _) ⟨wr.heap.size, 0, none⟩ 1 1 [.int .i64 (k : Int)] rfl rfl ?a1 ?a2 ?a3 ?a4 ?a5 ?_)
        try (case a1 => exact ne_new)
        try (case a2 => first | rfl | (intro u hu; simp at hu; subst hu; rfl))
        try (case a3 => first | omega | (unfold maxLen; omega))
        try (case a4 => omega)
        try (case a5 => first | omega | (simp; omega))
        intro v' w1 hown' hgrow _
        have HO' := hide hown'
        have HG := hide hgrow
        clear hown' hgrow
        go_wp2_with fail
        go_roundw
        case rel =>
          have hB1 : Below w.heap.size w w1 := (HB.out.alloc hsz _).grown HG.out (by simp; omega) (fun g hg => (HO.out.alloc (.cells #[.int .i64 (k : Int)] 2)).lt g hg |>.1)
          refine ⟨k + 1, by omega, by go_num, hB1, ?_, by have := hB1.size; omega⟩
          rw [memL_succ, if_pos HIN.out, mems_succ, if_pos HIN.out, List.length_append, HL.out]
          exact HO'.out
        case measure => simp [intOf]; omega
      · have f2 := bt_out (by omega) hin
        have HIN := hide hin
        clear hin
        go_wp2_with fail
        go_roundw
        case rel =>
          refine ⟨k + 1, by omega, by go_num, HB.out, ?_, hsz⟩
          rw [memL_succ, if_neg HIN.out, mems_succ, if_neg HIN.out, HL.out]
          exact HO.out
        case measure => simp [intOf]; omega
    · have hkn : k = 12 := by omega
      subst hkn
      go_wp2_with fail
      have h := HO.out
      go_ret
      obtain ⟨A', c', hv, hres⟩ := own_shape h
      exact ⟨A', c', by rw [← hv]; rfl, HB.out, hres⟩
end Go.Proofs.Ytngfdkmiifpbgaa
