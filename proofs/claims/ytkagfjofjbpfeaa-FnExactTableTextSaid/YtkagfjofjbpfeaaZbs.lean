import Derived.Test.YtkagfjofjbpfeaaProg
import Derived.Test.YtkagfjofjbpfeaaZbr
namespace Go.Proofs.Ytkagfjofjbpfeaa
open Go Go.RowKit
set_option maxHeartbeats 1000000

theorem l01Digit_any (x : Int) (w : World) (h0 : 0 ≤ x) (h1 : x < 12) :
    Calls Try.prog 121 #[.int .i64 x] w fun e w' => e = .returned (.string (lineS [x])) ∧ Below w.heap.size w w' := by
  by_cases h : x < 10
  · have hcv := run_convert_bytes_arg (P := Try.prog) (w.alloc (.cells #[.int .u8 (48 + x)] 5)) 98 5 Try.underlying98 Try.underlying5 w.heap.size 0 1 1 [48 + x] rfl
      (fun i hi => by
        obtain rfl : i = 0 := by omega
        simp [World.cell?_alloc_new]) 9 Try.underlying9
    have e : lineS [x] = strOfNums [48 + x] := by simp [lineS, lineL, dg, h]
    have HE := hide e
    clear e
    go_enter Try.func121, Try.ntmps121
    go_wp2_with fail
    go_ret
    exact ⟨by rw [HE.out]; rfl, (Below.refl _ _).alloc (Nat.le_refl _) _⟩
  · have h' : decide (x < 10) = false := by simpa using h
    have hcv := run_convert_bytes_arg (P := Try.prog) (w.alloc (.cells #[.int .u8 (97 + x - 10)] 5)) 98 5 Try.underlying98 Try.underlying5 w.heap.size 0 1 1 [97 + x - 10] rfl
      (fun i hi => by
        obtain rfl : i = 0 := by omega
        simp [World.cell?_alloc_new]) 9 Try.underlying9
    have e : lineS [x] = strOfNums [97 + x - 10] := by
      simp only [lineS, lineL, dg, List.map_cons, List.map_nil, if_neg h]
      have : 87 + x = 97 + x - 10 := by omega
      rw [this]
    have HE := hide e
    clear e
    go_enter Try.func121, Try.ntmps121
    go_wp2_with fail
    go_ret
    exact ⟨by rw [HE.out]; rfl, (Below.refl _ _).alloc (Nat.le_refl _) _⟩

theorem l01Line_any (A : Option Addr) (n c : Nat) (xs : List Int) (w : World) (hn : xs.length = n) (hb : n ≤ 1048576) (hx : Rd w A xs) (hin : ∀ x ∈ xs, 0 ≤ x ∧ x < 12) :
    Calls Try.prog 102 #[.slice A n c] w fun e w' => e = .returned (.string (lineS xs)) ∧ Below w.heap.size w w' := by
  have HN := hide hn
  have HIN := hide hin
  clear hn hin
  go_enter Try.func102, Try.ntmps102
  go_wp2_with fail
  go_loopw [3, 4] (fun s i wr => ∃ (k : Nat) (a : ByteArray), k ≤ n ∧ i = .int .i64 k ∧ s = .string a ∧ Hid (a = lineS (xs.take k)) ∧ a.size ≤ 1048576 ∧ Below w.heap.size w wr) (fun _ i _ => n - (intOf i).toNat)
  case atStart => exact ⟨0, _, Nat.zero_le _, rfl, rfl, hide (by simp [lineS_nil]), by simp [ByteArray.size], Below.refl _ _⟩
  case round =>
    obtain ⟨k, a, hk, rfl, rfl, HA, has, hbe⟩ := hrel
    have HB := hide hbe
    clear hbe
    by_cases hlt : k < n
    · obtain ⟨b, o, rfl, hbw, hc⟩ := hx (by have := HN.out; omega)
      have hc1 : wr.cell? ⟨b, o + k, none⟩ = some (.int .i64 (xs.getD k 0)) := (HB.out.cell (p := ⟨b, o + k, none⟩) hbw).trans (hc k (by have := HN.out; omega))
      have hl : k < xs.length := by have := HN.out; omega
      have hr := HIN.out (xs.getD k 0) (by simp [hl])
      have HL := hide hl
      obtain ⟨x, hx'⟩ : ∃ x, xs.getD k 0 = x := ⟨_, rfl⟩
      rw [hx'] at hc1 hr
      have HX := hide hx'
      clear hx' hc hl
      have hltz : (k : Int) < n := by omega
      obtain ⟨hr0, hr1⟩ := hr
      go_wp2_with fail
      refine (l01Digit_any x _ hr0 hr1).mono ?_
      rintro e w1 ⟨rfl, hq1⟩
      have HQ1 := hide hq1
      have hds := lineS_size [x]
      obtain ⟨d, hd⟩ : ∃ d, lineS [x] = d := ⟨_, rfl⟩
      rw [hd] at hds ⊢
      have hds' : d.size ≤ 1 := by simp at hds; omega
      have HD := hide hd
      clear hq1 hds hd
      go_wp2_with fail
      go_roundw
      case rel =>
        have e : a ++ d = lineS (xs.take (k + 1)) := by
          rw [HA.out, ← HD.out, lineS_snoc, List.take_succ_eq_append_getElem HL.out]
          have : xs[k]'HL.out = x := by have := HX.out; have hl := HL.out; simpa [hl] using this
          rw [this]
        refine ⟨k + 1, _, by omega, by go_num, rfl, hide e, ?_, HB.out.trans (HQ1.out.mono HB.out.size)⟩
        rw [e, lineS_size]
        simp
        omega
      case measure => simp [intOf]; omega
    · have hkn : k = n := by omega
      subst hkn
      go_wp2_with fail
      go_ret
      have h := HA.out
      rw [List.take_of_length_le (by have := HN.out; omega)] at h
      exact ⟨by rw [← h]; rfl, HB.out⟩
end Go.Proofs.Ytkagfjofjbpfeaa
