import Derived.Test.YtaejgmdeiemhcaaProg
import Derived.Test.YtaejgmdeiemhcaaZak
import Derived.Test.YtaejgmdeiemhcaaZa
import Derived.Test.YtaejgmdeiemhcaaZm
import Derived.Test.YtaejgmdeiemhcaaZk
import Derived.Test.YtaejgmdeiemhcaaZaf
namespace Go.Proofs.Ytaejgmdeiemhcaa
open Go Go.RowKit
set_option maxHeartbeats 1000000

theorem max_any (A : Option Addr) (n c : Nat) (xs : List Int) (m : Int) (w : World) (hn : xs.length = n) (h1 : 1 ≤ n) (hb : n ≤ 1048576) (hx : Rd w A xs) (hm : IsMax xs m) :
    Calls Try.prog 78 #[.slice A n c] w fun e w' => e = .returned (.int .i64 m) ∧ Below w.heap.size w w' := by
  have HN := hide hn
  have HM := hide hm
  obtain ⟨b, o, rfl, hbw, hc⟩ := hx (by omega)
  have HC := hide hc
  have hc0 := hc 0 (by omega)
  simp only [Nat.add_zero] at hc0
  obtain ⟨x0, hx0⟩ : ∃ v, xs.getD 0 0 = v := ⟨_, rfl⟩
  rw [hx0] at hc0
  have HX0 := hide hx0
  have h1z : ¬ ((n : Int) < 1) := by omega
  clear hn hx hm hc hx0
  go_enter Try.func78, Try.ntmps78
  go_wp2_with fail
  go_loopw [3, 4] (fun v i wr => ∃ (k : Nat) (u : Int), 1 ≤ k ∧ k ≤ n ∧ i = .int .i64 k ∧ v = .int .i64 u ∧ Below w.heap.size w wr ∧ (∃ j, j < k ∧ xs.getD j 0 = u) ∧ ∀ j, j < k → xs.getD j 0 ≤ u) (fun _ i _ => n - (intOf i).toNat)
  case atStart => exact ⟨1, x0, Nat.le_refl _, h1, rfl, rfl, Below.refl _ _, ⟨0, by omega, HX0.out⟩, fun j hj => by
    have e : j = 0 := by omega
    subst e
    rw [HX0.out]
    exact Int.le_refl _⟩
  case round =>
    obtain ⟨k, u, h1k, hk, rfl, rfl, hbe, hex, hall⟩ := hrel
    have HB := hide hbe
    have HEX := hide hex
    have HALL := hide hall
    clear hbe hex hall
    by_cases hlt : k < n
    · have hltz : (k : Int) < n := by omega
      have hck := HC.out k (by have := HN.out; omega)
      obtain ⟨y, hy⟩ : ∃ v, xs.getD k 0 = v := ⟨_, rfl⟩
      rw [hy] at hck
      replace hck := (HB.out.cell (p := ⟨b, o + k, none⟩) hbw).trans hck
      have HY := hide hy
      clear hy
      by_cases hlu : u < y
      · have hn2 : ¬ y < u := by omega
        go_wp2_with fail
        go_roundw
        case rel => exact ⟨k + 1, y, by omega, by omega, by go_num, (by first | rfl | (congr 1; omega)), HB.out, ⟨k, by omega, HY.out⟩, fun j hj => by
          by_cases e : j = k
          · subst e; rw [HY.out]; exact Int.le_refl _
          · have := HALL.out j (by omega); omega⟩
        case measure => simp [intOf]; omega
      · by_cases hyu : y < u
        · go_wp2_with fail
          go_roundw
          case rel => exact ⟨k + 1, u, by omega, by omega, by go_num, (by first | rfl | (congr 1; omega)), HB.out, by obtain ⟨j, h2, h3⟩ := HEX.out; exact ⟨j, by omega, h3⟩, fun j hj => by
            by_cases e : j = k
            · subst e; rw [HY.out]; omega
            · exact HALL.out j (by omega)⟩
          case measure => simp [intOf]; omega
        · have e : y = u := by omega
          subst e
          go_wp2_with fail
          go_roundw
          case rel => exact ⟨k + 1, y, by omega, by omega, by go_num, (by first | rfl | (congr 1; omega)), HB.out, ⟨k, by omega, HY.out⟩, fun j hj => by
            by_cases e : j = k
            · subst e; rw [HY.out]; exact Int.le_refl _
            · exact HALL.out j (by omega)⟩
          case measure => simp [intOf]; omega
    · have hkn : k = n := by omega
      subst hkn
      obtain ⟨j, h2, h3⟩ := HEX.out
      obtain ⟨⟨i, hi, hmi⟩, hml⟩ := HM.out
      have e : u = m := by
        have a := hml j (by have := HN.out; omega)
        have b := HALL.out i (by have := HN.out; omega)
        omega
      subst e
      clear h3 hmi hml
      go_wp2_with fail
      go_ret
      exact ⟨rfl, HB.out⟩
end Go.Proofs.Ytaejgmdeiemhcaa
namespace Go.Proofs.Ytaejgmdeiemhcaa
open Go Go.RowKit
open Classical
/-- The greatest number of an orbit. -/
theorem orb_pos {f s : List (List Int)} (hg : NdS f s) : 1 ≤ orbN f s := by
  have h1 := (hg.sizes rfl).1
  have hok := lab_ok (bothL f s) f.length f.length (hg.both rfl) (Nat.le_refl _)
  have h2 := hok.all 0 (by omega)
  have h3 := hok.lt 0
  unfold orbN
  omega
theorem orb_le {f s : List (List Int)} : orbN f s ≤ f.length := lab_le _ _
theorem orb_rng {f s : List (List Int)} (hg : NdS f s) (j : Nat) (hj : j < f.length) : 0 ≤ (orbS f s).getD j 0 ∧ (orbS f s).getD j 0 < (orbN f s : Int) := by
  have hok := lab_ok (bothL f s) f.length f.length (hg.both rfl) (Nat.le_refl _)
  unfold orbS orbN
  rw [labL_at _ _ _ _ hj]
  exact ⟨hok.all j hj, hok.lt j⟩
theorem orb_onto {f s : List (List Int)} (hg : NdS f s) (k : Nat) (hk : k < orbN f s) : ∃ j, j < f.length ∧ (orbS f s).getD j 0 = (k : Int) := by
  have hok := lab_ok (bothL f s) f.length f.length (hg.both rfl) (Nat.le_refl _)
  obtain ⟨y, hy, e⟩ := hok.onto k hk
  refine ⟨y, hy, ?_⟩
  unfold orbS
  rw [labL_at _ _ _ _ hy]
  exact e
theorem orbS_length (f s : List (List Int)) : (orbS f s).length = f.length := labL_length _ _ _
theorem orb_max {f s : List (List Int)} (hg : NdS f s) : IsMax (orbS f s) ((orbN f s : Int) - 1) := by
  have h1 := orb_pos hg
  refine ⟨?_, fun i hi => ?_⟩
  · obtain ⟨j, hj, e⟩ := orb_onto hg (orbN f s - 1) (by omega)
    exact ⟨j, by rw [orbS_length]; exact hj, by rw [e]; omega⟩
  · have := orb_rng hg i (by rw [orbS_length] at hi; exact hi)
    omega
end Go.Proofs.Ytaejgmdeiemhcaa
