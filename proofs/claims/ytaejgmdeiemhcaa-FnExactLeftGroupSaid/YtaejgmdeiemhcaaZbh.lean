import Derived.Test.YtaejgmdeiemhcaaProg
import Derived.Test.YtaejgmdeiemhcaaZa
import Derived.Test.YtaejgmdeiemhcaaZb
import Derived.Test.YtaejgmdeiemhcaaZy
namespace Go.Proofs.Ytaejgmdeiemhcaa
open Go Go.RowKit
set_option maxHeartbeats 2000000
def cmpI (x y : Int) : Int := if x < y then -1 else if y < x then 1 else 0
def cmpW (p q : List Int) : Int := if lessL p q = true then -1 else if lessL q p = true then 1 else 0
theorem isNaN_any (x : Int) (w : World) : Calls Try.prog 149 #[.int .i64 x] w fun e w' => e = .returned (.bool false) ∧ w' = w := by
  have h : (x != x) = false := by simp
  go_enter Try.func149, Try.ntmps149
  go_wp2_with fail
  go_ret
  exact ⟨by simp, rfl⟩
theorem cmpI_any (x y : Int) (w : World) : Calls Try.prog 122 #[.int .i64 x, .int .i64 y] w fun e w' => e = .returned (.int .i64 (cmpI x y)) ∧ w' = w := by
  have hr : (x < y ∧ cmpI x y = -1) ∨ (¬ x < y ∧ y < x ∧ cmpI x y = 1) ∨ (¬ x < y ∧ ¬ y < x ∧ cmpI x y = 0) := by
    unfold cmpI
    by_cases h1 : x < y
    · exact .inl ⟨h1, by simp [h1]⟩
    · by_cases h2 : y < x
      · exact .inr (.inl ⟨h1, h2, by simp [h1, h2]⟩)
      · exact .inr (.inr ⟨h1, h2, by simp [h1, h2]⟩)
  obtain ⟨r, hrr⟩ : ∃ r, cmpI x y = r := ⟨_, rfl⟩
  rw [hrr] at hr ⊢
  clear hrr
  rcases hr with ⟨h1, rfl⟩ | ⟨h1, h2, rfl⟩ | ⟨h1, h2, rfl⟩
  · go_enter Try.func122, Try.ntmps122
    go_wp2_with (go_at_call 149; refine (isNaN_any _ _).mono ?_; rintro e wd ⟨rfl, rfl⟩)
    go_ret
    exact ⟨rfl, rfl⟩
  · go_enter Try.func122, Try.ntmps122
    go_wp2_with (go_at_call 149; refine (isNaN_any _ _).mono ?_; rintro e wd ⟨rfl, rfl⟩)
    go_ret
    exact ⟨rfl, rfl⟩
  · go_enter Try.func122, Try.ntmps122
    go_wp2_with (go_at_call 149; refine (isNaN_any _ _).mono ?_; rintro e wd ⟨rfl, rfl⟩)
    go_ret
    exact ⟨rfl, rfl⟩
theorem lessL_at : ∀ (k : Nat) (p q : List Int), (∀ j, j < k → p.getD j 0 = q.getD j 0) → k < p.length → k < q.length → p.getD k 0 < q.getD k 0 → lessL p q = true
  | 0, x :: xs, y :: ys, _, _, _, h => by
    have h' : x < y := h
    have hne : ¬ x = y := by omega
    simp [lessL, hne, h']
  | k + 1, x :: xs, y :: ys, hall, h1, h2, h => by
    have e : x = y := hall 0 (by omega)
    subst e
    have := lessL_at k xs ys (fun j hj => hall (j + 1) (by omega)) (by simp at h1; omega) (by simp at h2; omega) h
    simp [lessL, this]
  | _, [], _, _, h, _, _ => by simp at h
  | _, _ :: _, [], _, _, h, _ => by simp at h
theorem cmpW_lt {k : Nat} {p q : List Int} (hall : ∀ j, j < k → p.getD j 0 = q.getD j 0) (h1 : k < p.length) (h2 : k < q.length) (h : p.getD k 0 < q.getD k 0) : cmpW p q = -1 := by
  unfold cmpW
  rw [if_pos (lessL_at k p q hall h1 h2 h)]
theorem cmpW_gt {k : Nat} {p q : List Int} (hall : ∀ j, j < k → p.getD j 0 = q.getD j 0) (h1 : k < p.length) (h2 : k < q.length) (h : q.getD k 0 < p.getD k 0) : cmpW p q = 1 := by
  have h3 := lessL_at k q p (fun j hj => (hall j hj).symm) h2 h1 h
  unfold cmpW
  rw [if_neg, if_pos h3]
  intro h4
  have h5 := lessL_trans _ _ _ h3 h4
  rw [lessL_irr] at h5
  cases h5
theorem cmpW_eq {p q : List Int} (hl : p.length = q.length) (hall : ∀ j, j < p.length → p.getD j 0 = q.getD j 0) : cmpW p q = 0 := by
  have e : p = q := by
    apply List.ext_getElem hl
    intro j h1 h2
    have := hall j h1
    simpa [h1, h2] using this
  subst e
  unfold cmpW
  rw [lessL_irr]
  simp
set_option maxRecDepth 100000 in
theorem cmpRow_any (n : Nat) (A B : Option Addr) (c d : Nat) (p q : List Int) (w : World) (hp : p.length = n) (hq : q.length = n) (hb : n ≤ 1048576) (hA : Rd w A p) (hB : Rd w B q) :
    Calls Try.prog 94 #[.slice A n c, .slice B n d] w fun e w' => e = .returned (.int .i64 (cmpW p q)) ∧ w' = w := by
  have HP := hide hp
  have HQ := hide hq
  have HA := hide hA
  have HB := hide hB
  obtain ⟨r, hr⟩ : ∃ r, cmpW p q = r := ⟨_, rfl⟩
  have HR := hide hr
  rw [hr]
  clear hp hq hA hB hr
  go_enter Try.func94, Try.ntmps94
  go_wp2_with fail
  go_loopw [11] (fun i wr => ∃ k : Nat, k ≤ n ∧ i = .int .i64 k ∧ wr = w ∧ ∀ j, j < k → p.getD j 0 = q.getD j 0) (fun i _ => n - (intOf i).toNat)
  case atStart => exact ⟨0, Nat.zero_le _, rfl, rfl, fun j hj => absurd hj (Nat.not_lt_zero _)⟩
  case round =>
    obtain ⟨k, hk, rfl, hwr, hall⟩ := hrel
    subst hwr
    have HALL := hide hall
    clear hall
    by_cases hlt : k < n
    · have hltz : (k : Int) < n := by omega
      obtain ⟨b, o, rfl, hbw, hc⟩ := HA.out (by have := HP.out; omega)
      obtain ⟨b2, o2, rfl, hbw2, hc2⟩ := HB.out (by have := HQ.out; omega)
      have h1 := hc k (by have := HP.out; omega)
      have h2 := hc2 k (by have := HQ.out; omega)
      obtain ⟨x, hx⟩ : ∃ x, p.getD k 0 = x := ⟨_, rfl⟩
      obtain ⟨y, hy⟩ : ∃ y, q.getD k 0 = y := ⟨_, rfl⟩
      rw [hx] at h1
      rw [hy] at h2
      have HX := hide hx
      have HY := hide hy
      clear hc hc2 hx hy
      go_wp2_with fail
      refine (cmpI_any x y _).mono ?_
      rintro e wd ⟨rfl, rfl⟩
      by_cases hxy : x < y
      · have e1 : cmpI x y = -1 := by unfold cmpI; simp [hxy]
        have e2 : r = -1 := by rw [← HR.out]; exact  cmpW_lt HALL.out (by have := HP.out; omega) (by have := HQ.out; omega) (by rw [HX.out, HY.out]; exact hxy)
        rw [e1]
        subst e2
        clear h1 h2
        go_wp2_with fail
        go_ret
        exact ⟨rfl, rfl⟩
      · by_cases hyx : y < x
        · have e1 : cmpI x y = 1 := by unfold cmpI; simp [hxy, hyx]
          have e2 : r = 1 := by rw [← HR.out]; exact  cmpW_gt HALL.out (by have := HP.out; omega) (by have := HQ.out; omega) (by rw [HX.out, HY.out]; exact hyx)
          rw [e1]
          subst e2
          clear h1 h2
          go_wp2_with fail
          go_ret
          exact ⟨rfl, rfl⟩
        · have e1 : cmpI x y = 0 := by unfold cmpI; simp [hxy, hyx]
          rw [e1]
          clear h1 h2
          go_wp2_with fail
          go_roundw
          case rel => exact ⟨k + 1, by omega, by go_num, trivial, fun j hj => by
            by_cases e : j = k
            · subst e; rw [HX.out, HY.out]; omega
            · exact HALL.out j (by omega)⟩
          case measure => simp [intOf]; omega
    · have hkn : k = n := by omega
      subst hkn
      have e2 : r = 0 := by rw [← HR.out]; exact cmpW_eq (by rw [HP.out, HQ.out]) (fun j hj => HALL.out j (by have := HP.out; omega))
      subst e2
      go_wp2_with fail
      go_ret
      exact ⟨rfl, rfl⟩
end Go.Proofs.Ytaejgmdeiemhcaa
