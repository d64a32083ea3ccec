import Derived.Test.YtkflmhmbkilmpabSzI
namespace Go.Proofs.Ytkflmhmbkilmpab
open Go Go.RowKit
set_option maxHeartbeats 400000
/-- What the size check says. -/
def Szd (L : Int) (rows : List (List Int)) (r : Int) : Prop := r = -1 ∨ (0 ≤ r ∧ r ≤ L ∧ rows.length ≤ L ∧ ∀ i, i < rows.length → (rows.getD i []).length ≤ L)
def SzPost (L : Int) (rows : List (List Int)) (w : World) (e : Ending) (w' : World) : Prop := ∃ r, Szd L rows r ∧ e = .returned (.int .i64 r) ∧ w = w'

theorem szz_any (A : Option Addr) (n c : Nat) (rows : List (List Int)) (L : Int) (w : World) (hn : rows.length = n) (hb : n ≤ 9223372036854775807) (hbs : ∀ i, i < rows.length → (rows.getD i []).length ≤ 9223372036854775807) (h0 : 0 ≤ L) (h1 : L ≤ 1048576) (hr : Rd2 w A rows) :
    Calls Try.prog 39 #[.slice A n c, .int .i64 L] w (SzPost L rows w) := by
  have HN := hide hn
  clear hn
  by_cases hL : L < n
  · go_enter Try.func39, Try.ntmps39
    go_wp2
    go_ret
    exact ⟨-1, .inl rfl, rfl, rfl⟩
  · go_enter Try.func39, Try.ntmps39
    go_wp2_with fail
    go_loop [1, 5] (fun s i => ∃ (k : Nat) (l : Int), k ≤ n ∧ i = .int .i64 k ∧ s = .int .i64 l ∧ 0 ≤ l ∧ l ≤ L ∧ ∀ i, i < k → (rows.getD i []).length ≤ L) (fun _ i => n - (intOf i).toNat)
    case atStart => exact ⟨0, L - n, Nat.zero_le _, rfl, rfl, by omega, by omega, fun i hi => absurd hi (Nat.not_lt_zero _)⟩
    case round =>
      obtain ⟨k, l, hk, rfl, rfl, hl0, hlL, hall⟩ := hrel
      have HALL := hide hall
      clear hall
      by_cases hlt : k < n
      · obtain ⟨b, o, rfl, hbw, hc⟩ := hr (by have := HN.out; omega)
        obtain ⟨Ak, ck, hcell, _⟩ := hc k (by have := HN.out; omega)
        have hbk := hbs k (by have := HN.out; omega)
        obtain ⟨m, hm⟩ : ∃ m, m = (rows.getD k []).length := ⟨_, rfl⟩
        rw [← hm] at hcell hbk
        have HM := hide hm
        clear hm hc hbs
        by_cases hlm : l < m
        · go_wp2_with (go_at_call 67; refine (sz_no _ _ _ _ _ (by omega) (by omega) (by omega) (by omega)).mono ?_; rintro e w' ⟨rfl, rfl⟩)
          go_ret
          exact ⟨-1, .inl rfl, rfl, rfl⟩
        · go_wp2_with (go_at_call 67; refine (sz_yes _ _ _ _ _ (by omega) (by omega) (by omega) (by omega)).mono ?_; rintro e w' ⟨rfl, rfl⟩)
          go_round
          case rel =>
            refine ⟨k + 1, l - m, by omega, by go_num, rfl, by omega, by omega, fun i hi => ?_⟩
            by_cases e : i = k
            · subst e; rw [← HM.out]; omega
            · exact HALL.out i (by omega)
          case measure => simp [intOf]; omega
      · have hkn : k = n := by omega
        subst hkn
        go_wp2
        go_ret
        exact ⟨l, .inr ⟨hl0, hlL, by have := HN.out; omega, fun i hi => HALL.out i (by have := HN.out; omega)⟩, rfl, rfl⟩
end Go.Proofs.Ytkflmhmbkilmpab
