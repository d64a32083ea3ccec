import Derived.Test.YtnkggphffinekaaProg
import Derived.Test.YtnkggphffinekaaSpecF
namespace Go.Proofs.Ytnkggphffinekaa
open Go Go.RowKit
open Classical
set_option maxHeartbeats 1000000

def gI (xs : List Int) : Nat → Int
  | 0 => 0
  | i + 1 => if gI xs i ≤ xs.getD i 0 then xs.getD i 0 + 1 else gI xs i
theorem gI_low (xs : List Int) (i : Nat) : ∀ j, j < i → xs.getD j 0 < gI xs i := by
  induction i with
  | zero => intro j hj; omega
  | succ i ih =>
    intro j hj
    unfold gI
    by_cases e : j = i
    · subst e; split <;> omega
    · have := ih j (by omega)
      split <;> omega
theorem gI_hit (xs : List Int) (i : Nat) : gI xs i = 0 ∨ ∃ j, j < i ∧ xs.getD j 0 + 1 = gI xs i := by
  induction i with
  | zero => exact .inl rfl
  | succ i ih =>
    unfold gI
    split
    · exact .inr ⟨i, by omega, rfl⟩
    · rcases ih with h | ⟨j, hj, e⟩
      · exact .inl h
      · exact .inr ⟨j, by omega, e⟩
theorem gI_range (xs : List Int) (i : Nat) (h : ∀ j, j < i → xs.getD j 0 ≤ 12) : 0 ≤ gI xs i ∧ gI xs i ≤ 13 := by
  induction i with
  | zero => simp [gI]
  | succ i ih =>
    have := ih (fun j hj => h j (by omega))
    have := h i (by omega)
    unfold gI
    split <;> omega
theorem gI_lab (rows : List (List Int)) (n : Nat) (hg : Gens rows n) : gI (labL rows n n) n = ((lab rows n).2 : Int) := by
  have hok := lab_ok rows n n hg (Nat.le_refl _)
  have hlow := gI_low (labL rows n n) n
  have h1 : ((lab rows n).2 : Int) ≤ gI (labL rows n n) n := by
    rcases Nat.eq_zero_or_pos (lab rows n).2 with h | h
    · rw [h]
      rcases gI_hit (labL rows n n) n with e | ⟨j, hj, e⟩
      · omega
      · have := hok.all j hj
        rw [labL_at rows n n j hj] at e
        omega
    · obtain ⟨y, hy, e⟩ := hok.onto ((lab rows n).2 - 1) (by omega)
      have := hlow y hy
      rw [labL_at rows n n y hy, e] at this
      omega
  rcases gI_hit (labL rows n n) n with e | ⟨j, hj, e⟩
  · omega
  · rw [labL_at rows n n j hj] at e
    have := hok.lt j
    omega

theorem greatest_any (A : Option Addr) (n c : Nat) (xs : List Int) (v : Int) (w : World) (hn : xs.length = n) (hb : n ≤ 1048576) (hr : Rd w A xs) (hx : ∀ j, j < n → xs.getD j 0 ≤ 12) (hv : gI xs n = v) :
    Calls Try.prog 91 #[.slice A n c] w fun e w' => e = .returned (.int .i64 v) ∧ Quiet w w' := by
  have HN := hide hn
  have HX := hide hx
  have HV := hide hv
  clear hn hx hv
  go_enter Try.func91, Try.ntmps91
  go_wp2_with fail
  go_loopw [3, 4] (fun o i wr => ∃ k : Nat, k ≤ n ∧ i = .int .i64 k ∧ o = .int .i64 (gI xs k) ∧ Quiet w wr) (fun _ i _ => n - (intOf i).toNat)
  case atStart => exact ⟨0, Nat.zero_le _, rfl, rfl, Quiet.refl _⟩
  case round =>
    obtain ⟨k, hk, rfl, rfl, hq⟩ := hrel
    have HQ := hide hq
    clear hq
    have hrange := gI_range xs k (fun j hj => HX.out j (by omega))
    by_cases hlt : k < n
    · have hltz : (k : Int) < n := by omega
      obtain ⟨b, o, rfl, _, hc⟩ := HQ.out.rd hr (by have := HN.out; omega)
      have hc1 := hc k (by have := HN.out; omega)
      have hx12 := HX.out k hlt
      have hs : gI xs (k + 1) = if gI xs k ≤ xs.getD k 0 then xs.getD k 0 + 1 else gI xs k := rfl
      obtain ⟨x, hx⟩ : ∃ x, xs.getD k 0 = x := ⟨_, rfl⟩
      obtain ⟨m, hm⟩ : ∃ m, gI xs k = m := ⟨_, rfl⟩
      rw [hx] at hc1 hx12 hs
      rw [hm] at hrange hs ⊢
      have HS := hide hs
      clear hc hx hm hs
      by_cases hxm : m ≤ x
      · have hs2 : gI xs (k + 1) = x + 1 := by rw [HS.out, if_pos hxm]
        have HS2 := hide hs2
        clear hs2
        go_wp2_with fail
        go_roundw
        case rel => exact ⟨k + 1, by omega, by go_num, by rw [HS2.out], HQ.out⟩
        case measure => simp [intOf]; omega
      · have hs2 : gI xs (k + 1) = m := by rw [HS.out, if_neg hxm]
        have HS2 := hide hs2
        clear hs2
        go_wp2_with fail
        go_roundw
        case rel => exact ⟨k + 1, by omega, by go_num, by rw [HS2.out], HQ.out⟩
        case measure => simp [intOf]; omega
    · have hkn : k = n := by omega
      subst hkn
      rw [HV.out]
      go_wp2_with fail
      go_ret
      exact ⟨rfl, HQ.out⟩
end Go.Proofs.Ytnkggphffinekaa
