import Derived.Test.YtkagfjofjbpfeaaProg
import Derived.Test.YtkagfjofjbpfeaaZd
namespace Go.Proofs.Ytkagfjofjbpfeaa
open Go Go.RowKit
set_option maxHeartbeats 400000

theorem mark_any (t : TypeId) (B : Nat) (A : Option Addr) (n c : Nat) (k : Int) (xs : List Int) (w : World) (hn : xs.length = n) (hb : n ≤ 4194304) (hk : 0 ≤ k) (hk2 : k ≤ 4611686018427387904) (hr : Res t B w A xs) :
    Calls Try.prog 32 #[.slice A n c, .int .i64 k] w fun e w' => e = .returned (.int .i64 (k + n)) ∧ Only A w w' ∧ Res t B w' A (marks k n) := by
  have HN := hide hn
  clear hn
  rcases hr with ⟨rfl, rfl⟩ | ⟨g, rfl, hB, hown⟩
  · have h0 : n = 0 := by have := HN.out; simpa using this.symm
    subst h0
    go_enter Try.func32, Try.ntmps32
    go_wp2_with fail
    refine wp_loop_rounds 1 ?_
    rw [rounds_succ]
    go_wp2_with fail
    go_ret
    exact ⟨by simp, Only.quiet (Quiet.refl _), .inl ⟨rfl, rfl⟩⟩
  · have HO := hide hown
    clear hown
    go_enter Try.func32, Try.ntmps32
    go_wp2_with fail
    go_loopw [1, 5] (fun q i wr => ∃ j : Nat, j ≤ n ∧ i = .int .i64 j ∧ q = .int .i64 (k + (j : Int)) ∧ Only (some ⟨g, 0, none⟩) w wr ∧ OwnB t wr g (marks k j ++ xs.drop j)) (fun _ i _ => n - (intOf i).toNat)
    case atStart => exact ⟨0, Nat.zero_le _, rfl, by simp, Only.quiet (Quiet.refl _), by simpa [marks] using HO.out⟩
    case round =>
      obtain ⟨j, hj, rfl, rfl, ho, hown⟩ := hrel
      have HOO := hide ho
      have HOW := hide hown
      clear ho hown
      by_cases hlt : j < n
      · have hl : j < (marks k j ++ xs.drop j).length := by have := HN.out; simp [marks]; omega
        have h1 := HOW.out.cell hl
        have h2 := HOW.out.frozen j
        obtain ⟨x, hx⟩ : ∃ x, (marks k j ++ xs.drop j).getD j 0 = x := ⟨_, rfl⟩
        rw [hx] at h1
        have HL := hide hl
        clear hx hl
        have hltz : (j : Int) < n := by omega
        go_wp2_with fail
        go_roundw
        case rel =>
          refine ⟨j + 1, by omega, by go_num, by go_num, ?_, ?_⟩
          · exact ⟨HOO.out.os, HOO.out.tape, HOO.out.output, by simpa [World.setCell] using HOO.out.size, fun i hi hne => (Below.heap_setCell _ _ _ _ (fun e => hne (by rw [e]; rfl))).trans (HOO.out.block i hi hne)⟩
          · have := HOW.out.set j (k + (j : Int)) HL.out
            rw [mark_step k n j xs HN.out hlt] at this
            exact this
        case measure => simp [intOf]; omega
      · have hjn : j = n := by omega
        subst hjn
        go_wp2_with fail
        go_ret
        have h := HOW.out
        rw [List.drop_of_length_le (by have := HN.out; omega), List.append_nil] at h
        exact ⟨rfl, HOO.out, .inr ⟨g, rfl, hB, h⟩⟩

theorem held_any (A : Option Addr) (n c : Nat) (k : Int) (w : World) (hb : n ≤ 4194304) (hk : 0 ≤ k) (hk2 : k ≤ 4611686018427387904) (hr : Rd w A (marks k n)) :
    Calls Try.prog 43 #[.slice A n c, .int .i64 k] w fun e w' => e = .returned (.int .i64 (k + n)) ∧ Quiet w w' := by
  go_enter Try.func43, Try.ntmps43
  go_wp2_with fail
  go_loopw [1, 5] (fun q i wr => ∃ j : Nat, j ≤ n ∧ i = .int .i64 j ∧ q = .int .i64 (k + (j : Int)) ∧ Quiet w wr) (fun _ i _ => n - (intOf i).toNat)
  case atStart => exact ⟨0, Nat.zero_le _, rfl, by simp, Quiet.refl _⟩
  case round =>
    obtain ⟨j, hj, rfl, rfl, hq⟩ := hrel
    have HQ := hide hq
    clear hq
    by_cases hlt : j < n
    · obtain ⟨b, o, rfl, hbw, hc⟩ := HQ.out.rd hr (by rw [marks_length]; omega)
      have hc1 := hc j (by rw [marks_length]; omega)
      rw [marks_getD k n j hlt] at hc1
      have hltz : (j : Int) < n := by omega
      clear hc hr
      have he : ((k + (j : Int)) != (k + (j : Int))) = false := by simp
      go_wp2_with fail
      go_roundw
      case rel => exact ⟨j + 1, by omega, by go_num, by go_num, HQ.out⟩
      case measure => simp [intOf]; omega
    · have hjn : j = n := by omega
      subst hjn
      go_wp2_with fail
      go_ret
      exact ⟨rfl, HQ.out⟩
end Go.Proofs.Ytkagfjofjbpfeaa
