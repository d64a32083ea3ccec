import Derived.Test.YtpkfcjpppncbiaaProg
import Derived.Test.YtpkfcjpppncbiaaZa
namespace Go.Proofs.Ytpkfcjpppncbiaa
open Go Go.RowKit
set_option maxHeartbeats 400000

/-- The first index, or -1. -/
def ixOf (xs : List Int) (v : Int) : Int := if v ∈ xs then (xs.idxOf v : Int) else -1

theorem ixOf_at (xs : List Int) (v : Int) (k : Nat) (hk : k < xs.length) (hv : xs.getD k 0 = v) (hno : v ∉ xs.take k) : ixOf xs v = k := by
  have e : xs = xs.take k ++ v :: xs.drop (k + 1) := by
    rw [← hv]
    simp [hk]
  have hm : v ∈ xs := by rw [e]; simp
  unfold ixOf
  rw [if_pos hm]
  rw [e, List.idxOf_append, if_neg hno]
  simp
  omega

theorem ixOf_no (xs : List Int) (v : Int) (hno : v ∉ xs) : ixOf xs v = -1 := by
  unfold ixOf
  rw [if_neg hno]

theorem index_any (A : Option Addr) (n c : Nat) (xs : List Int) (v : Int) (w : World) (hn : xs.length = n) (hb : n ≤ 9223372036854775807) (hr : Rd w A xs) :
    Calls Try.prog 56 #[.slice A n c, .int .i64 v] w fun e w' => e = .returned (.int .i64 (ixOf xs v)) ∧ Quiet w w' := by
  have HN := hide hn
  clear hn
  go_enter Try.func56, Try.ntmps56
  go_wp2_with fail
  go_loopw [5] (fun i wr => ∃ k : Nat, k ≤ n ∧ i = .int .i64 k ∧ Quiet w wr ∧ v ∉ xs.take k) (fun i _ => n - (intOf i).toNat)
  case atStart => exact ⟨0, Nat.zero_le _, rfl, Quiet.refl _, by simp⟩
  case round =>
    obtain ⟨k, hk, rfl, hq, hno⟩ := hrel
    have HNO := hide hno
    have HQ := hide hq
    clear hno hq
    by_cases hlt : k < n
    · obtain ⟨b, o, rfl, hbw, hc⟩ := HQ.out.rd hr (by have := HN.out; omega)
      have hc1 := hc k (by have := HN.out; omega)
      have hl : k < xs.length := by have := HN.out; omega
      have HL := hide hl
      obtain ⟨x, hx⟩ : ∃ x, xs.getD k 0 = x := ⟨_, rfl⟩
      rw [hx] at hc1
      have HX := hide hx
      clear hx hc hl
      have hltz : (k : Int) < n := by omega
      by_cases hxv : x = v
      · have HXV := hide hxv
        have hxb : (x == v) = true := by simpa using hxv
        clear hxv
        go_wp2_with fail
        go_ret
        have e := ixOf_at xs v k HL.out (HX.out.trans HXV.out) HNO.out
        exact ⟨by rw [e]; rfl, HQ.out⟩
      · have HXV := hide hxv
        have hxb : (x == v) = false := by simpa using hxv
        clear hxv
        go_wp2_with fail
        go_roundw
        case rel =>
          refine ⟨k + 1, by omega, by go_num, HQ.out, ?_⟩
          rw [List.take_succ_eq_append_getElem HL.out]
          intro h
          rcases List.mem_append.1 h with h | h
          · exact HNO.out h
          · have := HX.out
            have hl := HL.out
            simp [hl] at this
            simp [this] at h
            exact HXV.out h.symm
        case measure => simp [intOf]; omega
    · have hkn : k = n := by omega
      subst hkn
      go_wp2_with fail
      go_ret
      have h := HNO.out
      rw [List.take_of_length_le (by have := HN.out; omega)] at h
      exact ⟨by rw [ixOf_no xs v h]; rfl, HQ.out⟩

theorem has_any (A : Option Addr) (n c : Nat) (xs : List Int) (v : Int) (r : Bool) (w : World) (hn : xs.length = n) (hb : n ≤ 9223372036854775807) (hr : Rd w A xs) (hrr : r = true ↔ v ∈ xs) :
    Calls Try.prog 45 #[.slice A n c, .int .i64 v] w fun e w' => e = .returned (.bool r) ∧ Quiet w w' := by
  have HN := hide hn
  have HR := hide hrr
  clear hn hrr
  obtain ⟨x, hx⟩ : ∃ x, ixOf xs v = x := ⟨_, rfl⟩
  have hxr : r = decide (0 ≤ x) := by
    unfold ixOf at hx
    cases r
    · have hno : v ∉ xs := fun h => by have := HR.out.2 h; cases this
      rw [if_neg hno] at hx
      subst hx
      rfl
    · have h := HR.out.1 rfl
      rw [if_pos h] at hx
      subst hx
      simp
  have HX := hide hx
  have HXR := hide hxr
  clear hx hxr
  go_enter Try.func45, Try.ntmps45
  go_wp2_with fail
  refine (index_any _ _ _ xs v _ HN.out hb hr).mono ?_
  rintro e w1 ⟨rfl, hq⟩
  rw [HX.out]
  have HQ := hide hq
  clear hq
  go_wp2_with fail
  go_ret
  exact ⟨by rw [HXR.out]; rfl, HQ.out⟩
end Go.Proofs.Ytpkfcjpppncbiaa
