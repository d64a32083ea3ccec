import Derived.Test.YtpkfcjpppncbiaaProg
import Derived.Test.YtpkfcjpppncbiaaZb
import Derived.Test.YtpkfcjpppncbiaaZc
namespace Go.Proofs.Ytpkfcjpppncbiaa
open Go Go.RowKit
set_option maxHeartbeats 400000

theorem take_succ_getD (xs : List Int) (k : Nat) (h : k < xs.length) : xs.take (k + 1) = xs.take k ++ [xs.getD k 0] := by
  rw [List.take_succ_eq_append_getElem h]
  simp [h]

def seenF (xs : List Int) (k : Nat) : Nat → Value := fun i => .bool (decide ((i : Int) ∈ xs.take k))

theorem seen_step (xs : List Int) (k j : Nat) (h : k < xs.length) (hj : xs.getD k 0 = (j : Int)) : ∀ i, (if i = j then Value.bool true else seenF xs k i) = seenF xs (k + 1) i := by
  intro i
  unfold seenF
  rw [take_succ_getD xs k h, hj]
  by_cases e : i = j
  · subst e; simp
  · have : ¬ (i : Int) = (j : Int) := by omega
    simp [e, this]

theorem valid_any (A : Option Addr) (n c : Nat) (xs : List Int) (r : Bool) (w : World) (hn : xs.length = n) (hb : n ≤ 9223372036854775807) (hr : Rd w A xs) (hrr : r = true ↔ Prm xs) :
    Calls Try.prog 57 #[.slice A n c] w fun e w' => e = .returned (.bool r) ∧ Below w.heap.size w w' := by
  have HN := hide hn
  have HR := hide hrr
  clear hn hrr
  by_cases h12 : 1 ≤ n ∧ n ≤ 12
  · obtain ⟨h1, h2⟩ := h12
    have hno : ¬ Prm xs → r = false := fun h => by
      cases r
      · rfl
      · exact absurd (HR.out.1 rfl) h
    have HNO := hide hno
    clear hno
    go_enter Try.func57, Try.ntmps57
    go_wp2_with fail
    go_loopw [17] (fun i wr => ∃ k : Nat, k ≤ n ∧ i = .int .i64 k ∧ Below w.heap.size w wr ∧ wr.rowIs w.heap.size 91 12 (seenF xs k) ∧ (∀ x ∈ xs.take k, 0 ≤ x ∧ x < (n : Int)) ∧ (xs.take k).Nodup) (fun i _ => n - (intOf i).toNat)
    case atStart => 
      refine ⟨0, Nat.zero_le _, rfl, (Below.refl _ _).alloc (Nat.le_refl _) _, ⟨_, heap_alloc_new _ _, rfl, fun i hi => ?_⟩, by simp, by simp⟩
      simp only [seenF, List.take_zero]
      match i, hi with
      | 0, _ | 1, _ | 2, _ | 3, _ | 4, _ | 5, _ | 6, _ | 7, _ | 8, _ | 9, _ | 10, _ | 11, _ => simp
    case round =>
      obtain ⟨k, hk, rfl, hbe, hrow, hin, hnd⟩ := hrel
      have HB := hide hbe
      have HROW := hide hrow
      have HIN := hide hin
      have HND := hide hnd
      clear hbe hrow hin hnd
      by_cases hlt : k < n
      · obtain ⟨b, o, rfl, hbw, hc⟩ := hr (by have := HN.out; omega)
        have hc1 : wr.cell? ⟨b, o + k, none⟩ = some (.int .i64 (xs.getD k 0)) := (HB.out.cell (p := ⟨b, o + k, none⟩) hbw).trans (hc k (by have := HN.out; omega))
        have hmem : xs.getD k 0 ∈ xs := by
          have h : k < xs.length := by have := HN.out; omega
          simp [h]
        have HMEM := hide hmem
        obtain ⟨x, hx⟩ : ∃ x, xs.getD k 0 = x := ⟨_, rfl⟩
        rw [hx] at hc1
        have HX := hide hx
        clear hx hc hmem
        have hltz : (k : Int) < n := by omega
        by_cases h0 : 0 ≤ x ∧ x < (n : Int)
        · obtain ⟨h0, h3⟩ := h0
          obtain ⟨j, rfl⟩ := Int.eq_ofNat_of_zero_le h0
          have hs := HROW.out.cell (i := j) (by omega)
          have hf := HROW.out.frozen j
          have hd : decide ((j : Int) < 0) = false := by simp
          have hd2 : decide ((n : Int) ≤ (j : Int)) = false := by simp; omega
          by_cases hsn : (j : Int) ∈ xs.take k
          · have hs' : wr.cell? ⟨w.heap.size, j, none⟩ = some (.bool true) := by rw [hs]; simp [seenF, hsn]
            have HSN := hide hsn
            clear hsn hs
            go_wp2_with fail
            go_ret
            have : r = false := HNO.out fun h => by
              have h := h.2.2.2
              have hl : k < xs.length := by have := HN.out; omega
              rw [← List.take_append_drop (k + 1) xs, take_succ_getD xs k hl, HX.out] at h
              have h := (List.nodup_append.1 (List.nodup_append.1 h).1).2.2
              exact h _ HSN.out _ (by simp) rfl
            exact ⟨by subst this; rfl, HB.out⟩
          · have hs' : wr.cell? ⟨w.heap.size, j, none⟩ = some (.bool false) := by rw [hs]; simp [seenF, hsn]
            have HSN := hide hsn
            clear hsn hs
            go_wp2_with fail
            go_roundw
            case rel =>
              have hl : k < xs.length := by have := HN.out; omega
              refine ⟨k + 1, by omega, by go_num, HB.out.setCell (Nat.le_refl _) _, (HROW.out.set j _).congr (fun i _ => seen_step xs k j hl HX.out i), ?_, ?_⟩
              · rw [take_succ_getD xs k hl, HX.out]
                intro y hy
                rcases List.mem_append.1 hy with h | h
                · exact HIN.out y h
                · simp at h; omega
              · rw [take_succ_getD xs k hl, HX.out]
                refine List.nodup_append.2 ⟨HND.out, by simp, fun a ha b hb e => ?_⟩
                simp at hb
                subst hb; subst e
                exact HSN.out ha
            case measure => simp [intOf]; omega
        · have bad : r = false := HNO.out fun h => by
            have := h.2.2.1 x (by rw [← HX.out]; exact HMEM.out)
            rw [HN.out] at this
            exact h0 this
          have BAD := hide bad
          clear bad
          by_cases hx0 : x < 0
          · go_wp2_with fail
            go_ret
            have := BAD.out
            exact ⟨by subst this; rfl, HB.out⟩
          · have hxn : (n : Int) ≤ x := by omega
            go_wp2_with fail
            go_ret
            have := BAD.out
            exact ⟨by subst this; rfl, HB.out⟩
      · have hkn : k = n := by omega
        subst hkn
        go_wp2_with fail
        go_ret
        have hl := HN.out
        have h1' := HIN.out
        have h2' := HND.out
        rw [List.take_of_length_le (by omega)] at h1' h2'
        have : r = true := HR.out.2 ⟨by omega, by omega, by rw [hl]; exact h1', h2'⟩
        exact ⟨by subst this; rfl, HB.out⟩
  · have : r = false := by
      cases r
      · rfl
      · have := HR.out.1 rfl
        have h := HN.out
        unfold Prm at this
        omega
    subst this
    by_cases h0 : 1 ≤ n
    · have h12' : 12 < n := by omega
      clear h12
      go_enter Try.func57, Try.ntmps57
      go_wp2_with fail
      go_ret
      exact ⟨rfl, Below.refl _ _⟩
    · have h12' : n < 1 := by omega
      clear h12
      go_enter Try.func57, Try.ntmps57
      go_wp2_with fail
      go_ret
      exact ⟨rfl, Below.refl _ _⟩

theorem isPerm_any (A : Option Addr) (n c : Nat) (xs : List Int) (r : Bool) (w : World) (hn : xs.length = n) (hb : n ≤ 9223372036854775807) (hr : Rd w A xs) (hrr : r = true ↔ Prm xs) :
    Calls Try.prog 48 #[.slice A n c] w fun e w' => e = .returned (.bool r) ∧ Below w.heap.size w w' := by
  have HN := hide hn
  have HR := hide hrr
  clear hn hrr
  go_enter Try.func48, Try.ntmps48
  go_wp2_with fail
  refine (valid_any _ _ _ xs r _ HN.out hb hr HR.out).mono ?_
  rintro e w1 ⟨rfl, hq⟩
  go_wp2_with fail
  go_ret
  exact ⟨rfl, hq⟩
end Go.Proofs.Ytpkfcjpppncbiaa
namespace Go.Proofs.Ytpkfcjpppncbiaa
open Go Go.RowKit
set_option maxHeartbeats 400000

theorem l01Perm_any (A : Option Addr) (n c : Nat) (xs : List Int) (r : Bool) (w : World) (hn : xs.length = n) (hb : n ≤ 9223372036854775807) (hr : Rd w A xs) (hrr : r = true ↔ 1 ≤ n ∧ n ≤ 12 ∧ ∀ x : Int, 0 ≤ x → x < (n : Int) → x ∈ xs) :
    Calls Try.prog 34 #[.slice A n c] w fun e w' => e = .returned (.bool r) ∧ Quiet w w' := by
  have HN := hide hn
  have HR := hide hrr
  clear hn hrr
  by_cases h12 : 1 ≤ n ∧ n ≤ 12
  · obtain ⟨h1, h2⟩ := h12
    go_enter Try.func34, Try.ntmps34
    go_wp2_with (go_at_call 44; refine (in_any _ _ _ true _ (by simp; omega)).mono ?_; rintro e w1 ⟨rfl, hq1⟩)
    have HQ1 := hide hq1
    clear hq1
    go_loopw [4] (fun i wr => ∃ k : Nat, k ≤ n ∧ i = .int .i64 k ∧ Quiet w wr ∧ ∀ x : Int, 0 ≤ x → x < (k : Int) → x ∈ xs) (fun i _ => n - (intOf i).toNat)
    case atStart => exact ⟨0, Nat.zero_le _, rfl, HQ1.out, fun x h0 h1 => by omega⟩
    case round =>
      obtain ⟨k, hk, rfl, hq, hall⟩ := hrel
      have HQ := hide hq
      have HALL := hide hall
      clear hq hall
      by_cases hlt : k < n
      · have hltz : (k : Int) < n := by omega
        by_cases hm : (k : Int) ∈ xs
        · have HM := hide hm
          clear hm
          go_wp2_with (go_at_call 45; refine (has_any _ _ _ xs _ true _ HN.out hb (HQ.out.rd hr) (by simp [HM.out])).mono ?_; rintro e w2 ⟨rfl, hq2⟩)
          have HQ2 := hide hq2
          clear hq2
          go_roundw
          case rel =>
            refine ⟨k + 1, by omega, by go_num, HQ.out.trans HQ2.out, fun x h0 h1 => ?_⟩
            by_cases e : x = (k : Int)
            · subst e; exact HM.out
            · exact HALL.out x h0 (by omega)
          case measure => simp [intOf]; omega
        · have HM := hide hm
          clear hm
          go_wp2_with (go_at_call 45; refine (has_any _ _ _ xs _ false _ HN.out hb (HQ.out.rd hr) (by simp [HM.out])).mono ?_; rintro e w2 ⟨rfl, hq2⟩)
          go_ret
          have : r = false := by
            cases r
            · rfl
            · exact absurd ((HR.out.1 rfl).2.2 k (by omega) (by omega)) HM.out
          exact ⟨by subst this; rfl, HQ.out.trans hq2⟩
      · have hkn : k = n := by omega
        subst hkn
        go_wp2_with fail
        go_ret
        have : r = true := HR.out.2 ⟨h1, h2, HALL.out⟩
        exact ⟨by subst this; rfl, HQ.out⟩
  · have : r = false := by
      cases r
      · rfl
      · have := HR.out.1 rfl
        omega
    subst this
    go_enter Try.func34, Try.ntmps34
    go_wp2_with (go_at_call 44; refine (in_any _ _ _ false _ (by simp; omega)).mono ?_; rintro e w1 ⟨rfl, hq1⟩)
    go_ret
    exact ⟨rfl, hq1⟩

theorem prmS_any (A : Option Addr) (n c : Nat) (xs : List Int) (r : Bool) (w : World) (hn : xs.length = n) (hb : n ≤ 9223372036854775807) (hr : Rd w A xs) (hrr : r = true ↔ Prm xs) :
    Calls Try.prog 34 #[.slice A n c] w fun e w' => e = .returned (.bool r) ∧ Quiet w w' :=
  l01Perm_any A n c xs r w hn hb hr (by rw [hrr, prm_iff, hn])
theorem prmS_below (A : Option Addr) (n c : Nat) (xs : List Int) (r : Bool) (w : World) (hn : xs.length = n) (hb : n ≤ 9223372036854775807) (hr : Rd w A xs) (hrr : r = true ↔ Prm xs) :
    Calls Try.prog 34 #[.slice A n c] w fun e w' => e = .returned (.bool r) ∧ Below w.heap.size w w' :=
  (prmS_any A n c xs r w hn hb hr hrr).mono fun _ _ ⟨he, hq⟩ => ⟨he, hq.below _⟩
end Go.Proofs.Ytpkfcjpppncbiaa
