import Derived.Test.YtaejgmdeiemhcabZab
import Derived.Test.YtaejgmdeiemhcabZh
import Derived.Test.YtaejgmdeiemhcabZaa
import Derived.Test.YtaejgmdeiemhcabZi
import Derived.Test.YtaejgmdeiemhcabZaj
import Derived.Test.YtaejgmdeiemhcabProg
import Derived.Test.YtaejgmdeiemhcabZa
namespace Go.Proofs.Ytaejgmdeiemhcab
open Go Go.RowKit
open Classical
theorem CgE.swap {f : List (List Int)} {n x y a b : Nat} (h : CgE f n x y a b) : CgE f n y x a b := by
  induction h with
  | base => exact .symm .base
  | refl a => exact .refl a
  | symm _ ih => exact ih.symm
  | trans _ _ i1 i2 => exact i1.trans i2
  | left z hz _ ih => exact ih.left z hz
  | right z hz _ ih => exact ih.right z hz
theorem cfL_swap (f : List (List Int)) (x y : Nat) : cfL f x y = cfL f y x :=
  numL_same (cgC_length _ _ _ _) (cgC_length _ _ _ _) fun _ _ ha hb => (cgC_eq ha hb).trans (⟨CgE.swap, CgE.swap⟩ : CgE f f.length x y _ _ ↔ CgE f f.length y x _ _) |>.trans (cgC_eq ha hb).symm
theorem numL_nonneg (L : List Int) (a : Nat) : 0 ≤ (numL L).getD a 0 := by
  by_cases h : a < L.length
  · have e : (numL L).getD a 0 = ixOf (firstsL L (a + 1)) (lb L a) := by simp [numL, numTo, h]
    rw [e]
    have hm : lb L a ∈ firstsL L (a + 1) := by
      show lb L a ∈ (if lb L a ∈ firstsL L a then firstsL L a else firstsL L a ++ [lb L a])
      by_cases h1 : lb L a ∈ firstsL L a
      · rw [if_pos h1]; exact h1
      · rw [if_neg h1]; simp
    unfold ixOf
    rw [if_pos hm]
    omega
  · have hl := numL_length L
    simp [show ¬ a < (numL L).length by omega]
/-- The least congruence with x and y in one class has but one class. -/
def OneC (f : List (List Int)) (x y : Nat) : Prop := ∀ z, z < f.length → (cfL f x y).getD z 0 = 0
theorem one_max {f : List (List Int)} {x y : Nat} {m : Int} (h : IsMax (cfL f x y) m) : 0 < m ↔ ¬ OneC f x y := by
  have hl := cfL_length f x y
  obtain ⟨⟨i, hi, e⟩, hall⟩ := h
  constructor
  · intro hm h1
    have := h1 i (by omega)
    omega
  · intro hno
    rcases Int.lt_or_le 0 m with h1 | h1
    · exact h1
    · exact absurd (fun z hz => by
        have h2 := hall z (by omega)
        have h3 := numL_nonneg (cgC f f.length x y) z
        have h4 : 0 ≤ (cfL f x y).getD z 0 := h3
        omega) hno
def SmF (f : List (List Int)) : Prop := 2 ≤ f.length ∧ ∀ x y, x < y → y < f.length → OneC f x y
def SmRes (f : List (List Int)) : Bool → Int → Prop := BRes (Rck f) (SmF f)
theorem SmRes.ex (f : List (List Int)) : ∃ r code, SmRes f r code := BRes.ex _ _
theorem one_swap {f : List (List Int)} {x y : Nat} (h : OneC f x y) : OneC f y x := by unfold OneC; rw [← cfL_swap]; exact h
theorem sm_pairs {f : List (List Int)} {n : Nat} (hn : f.length = n) (h2 : 2 ≤ n) (h : ∀ i, i < n * n → i / n ≠ i % n → OneC f (i / n) (i % n)) : SmF f := by
  refine ⟨by omega, fun x y hxy hy => ?_⟩
  rw [hn] at hy
  have h1 := h _ (pair_lt n x y (by omega) hy)
  rw [pair_div n x y hy, pair_mod n x y hy] at h1
  exact h1 (by omega)
theorem SmF.at {f : List (List Int)} {x y : Nat} (h : SmF f) (hx : x < f.length) (hy : y < f.length) (hne : x ≠ y) : OneC f x y := by
  rcases Nat.lt_or_ge x y with h1 | h1
  · exact h.2 x y h1 hy
  · exact one_swap (h.2 y x (by omega) hx)
end Go.Proofs.Ytaejgmdeiemhcab
namespace Go.Proofs.Ytaejgmdeiemhcab
open Go Go.RowKit
set_option maxHeartbeats 1000000

theorem max_any (A : Option Addr) (n c : Nat) (xs : List Int) (m : Int) (w : World) (hn : xs.length = n) (h1 : 1 ≤ n) (hb : n ≤ 1048576) (hx : Rd w A xs) (hm : IsMax xs m) :
    Calls Try.prog 80 #[.slice A n c] w fun e w' => e = .returned (.int .i64 m) ∧ Below w.heap.size w w' := by
  have HN := hide hn
  have HM := hide hm
  obtain ⟨b, o, rfl, hbw, hc⟩ := hx (by omega)
  have HC := hide hc
  have hc0 := hc 0 (by omega)
  simp only [Nat.add_zero] at hc0
  obtain ⟨x0, hx0⟩ : ∃ v, xs.getD 0 0 = v := ⟨_, rfl⟩
  rw [hx0] at hc0
  have HX0 := hide hx0
  have h1z : ¬ ((n : Int) < 1) := by omega
  clear hn hx hm hc hx0
  go_enter Try.func80, Try.ntmps80
  go_wp2_with fail
  go_loopw [3, 4] (fun v i wr => ∃ (k : Nat) (u : Int), 1 ≤ k ∧ k ≤ n ∧ i = .int .i64 k ∧ v = .int .i64 u ∧ Below w.heap.size w wr ∧ (∃ j, j < k ∧ xs.getD j 0 = u) ∧ ∀ j, j < k → xs.getD j 0 ≤ u) (fun _ i _ => n - (intOf i).toNat)
  case atStart => exact ⟨1, x0, Nat.le_refl _, h1, rfl, rfl, Below.refl _ _, ⟨0, by omega, HX0.out⟩, fun j hj => by
    have e : j = 0 := by omega
    subst e
    rw [HX0.out]
    exact Int.le_refl _⟩
  case round =>
    obtain ⟨k, u, h1k, hk, rfl, rfl, hbe, hex, hall⟩ := hrel
    have HB := hide hbe
    have HEX := hide hex
    have HALL := hide hall
    clear hbe hex hall
    by_cases hlt : k < n
    · have hltz : (k : Int) < n := by omega
      have hck := HC.out k (by have := HN.out; omega)
      obtain ⟨y, hy⟩ : ∃ v, xs.getD k 0 = v := ⟨_, rfl⟩
      rw [hy] at hck
      replace hck := (HB.out.cell (p := ⟨b, o + k, none⟩) hbw).trans hck
      have HY := hide hy
      clear hy
      by_cases hlu : u < y
      · have hn2 : ¬ y < u := by omega
        go_wp2_with fail
        go_roundw
        case rel => exact ⟨k + 1, y, by omega, by omega, by go_num, (by first | rfl | (congr 1; omega)), HB.out, ⟨k, by omega, HY.out⟩, fun j hj => by
          by_cases e : j = k
          · subst e; rw [HY.out]; exact Int.le_refl _
          · have := HALL.out j (by omega); omega⟩
        case measure => simp [intOf]; omega
      · by_cases hyu : y < u
        · go_wp2_with fail
          go_roundw
          case rel => exact ⟨k + 1, u, by omega, by omega, by go_num, (by first | rfl | (congr 1; omega)), HB.out, by obtain ⟨j, h2, h3⟩ := HEX.out; exact ⟨j, by omega, h3⟩, fun j hj => by
            by_cases e : j = k
            · subst e; rw [HY.out]; omega
            · exact HALL.out j (by omega)⟩
          case measure => simp [intOf]; omega
        · have e : y = u := by omega
          subst e
          go_wp2_with fail
          go_roundw
          case rel => exact ⟨k + 1, y, by omega, by omega, by go_num, (by first | rfl | (congr 1; omega)), HB.out, ⟨k, by omega, HY.out⟩, fun j hj => by
            by_cases e : j = k
            · subst e; rw [HY.out]; exact Int.le_refl _
            · exact HALL.out j (by omega)⟩
          case measure => simp [intOf]; omega
    · have hkn : k = n := by omega
      subst hkn
      obtain ⟨j, h2, h3⟩ := HEX.out
      obtain ⟨⟨i, hi, hmi⟩, hml⟩ := HM.out
      have e : u = m := by
        have a := hml j (by have := HN.out; omega)
        have b := HALL.out i (by have := HN.out; omega)
        omega
      subst e
      clear h3 hmi hml
      go_wp2_with fail
      go_ret
      exact ⟨rfl, HB.out⟩
end Go.Proofs.Ytaejgmdeiemhcab
