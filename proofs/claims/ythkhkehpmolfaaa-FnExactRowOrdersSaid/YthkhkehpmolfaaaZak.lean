import Derived.Test.YthkhkehpmolfaaaProg
import Derived.Test.YthkhkehpmolfaaaZae
import Derived.BigRegion
import Derived.IntWalk
namespace Go.Proofs.Ythkhkehpmolfaaa
open Go Go.RowKit
set_option maxHeartbeats 2000000

theorem less1_any (x y : Int) (w : World) :
    Calls Try.prog 139 #[.int .i64 x, .int .i64 y] w fun e w' => e = .returned (.bool (decide (x < y))) ∧ w = w' := by
  have hx : (x != x) = false := by simp
  have hy : (y != y) = false := by simp
  go_enter Try.func139, Try.ntmps139
  go_wp2
  go_ret
  exact ⟨rfl, rfl⟩

theorem only_dn {A : Option Addr} {w w' : World} (h : Only A w w') (q : Nat) : Only A w (w'.drewN q) := ⟨h.os, h.tape, h.output, h.size, h.block⟩

theorem insertion_any (g n c : Nat) (xs : List Int) (w : World) (hn : xs.length = n) (hb : n ≤ 1048576) (how : OwnB 2 w g xs) :
    Calls Try.prog 133 #[.slice (some ⟨g, 0, none⟩) n c, .int .i64 0, .int .i64 n] w fun e w' => e = .returned (.tuple #[]) ∧ Only (some ⟨g, 0, none⟩) w w' ∧ ∃ ys, ys.Perm xs ∧ Sorted ys ∧ OwnB 2 w' g ys := by
  have HN := hide hn
  have HW := hide how
  clear hn how
  go_enter Try.func133, Try.ntmps133
  go_wp2_with fail
  go_loopw [6] (fun i wr => ∃ (k : Nat) (ys : List Int), 1 ≤ k ∧ (k ≤ n ∨ k = 1) ∧ i = .int .i64 k ∧ Only (some ⟨g, 0, none⟩) w wr ∧ ys.Perm xs ∧ upTo ys k ∧ OwnB 2 wr g ys) (fun i _ => n - (intOf i).toNat)
  case atStart => exact ⟨1, xs, Nat.le_refl _, .inr rfl, by first | rfl | go_num, Only.quiet (Quiet.refl _), List.Perm.refl _, fun a b h1 h2 => by omega, HW.out⟩
  case round =>
    obtain ⟨k, ys, hk1, hkn, rfl, ho, hp, hu, how⟩ := hrel
    have HO := hide ho
    have HP := hide hp
    have HU := hide hu
    have HY := hide how
    clear ho hp hu how
    by_cases hlt : k < n
    · have hltz : (k : Int) < n := by omega
      go_wp2_with fail
      obtain ⟨wo, rfl⟩ : ∃ wo : World, wo = wr := ⟨_, rfl⟩
      go_loopw [7] (fun j wi => ∃ (q : Nat) (ys : List Int), q ≤ k ∧ j = .int .i64 q ∧ Only (some ⟨g, 0, none⟩) w wi ∧ ys.Perm xs ∧ midS ys k q ∧ OwnB 2 wi g ys) (fun j _ => (intOf j).toNat)
      case atStart => exact ⟨k, ys, Nat.le_refl _, rfl, HO.out, HP.out, midS.start HU.out, HY.out⟩
      case round =>
        clear HO HP HU HY
        obtain ⟨q, ys, hqk, rfl, ho, hp, hm, how⟩ := hrel
        have HO := hide ho
        have HP := hide hp
        have HMM := hide hm
        have HY := hide how
        have hlen : ys.length = n := by rw [hp.length_eq]; exact HN.out
        have HL := hide hlen
        clear ho hp hm how hlen
        by_cases hq0 : q = 0
        · subst hq0
          have hd : decide ((0 : Int) < ((0 : Nat) : Int)) = false := by simp
          go_wp2_with fail
          go_quiet (fail)
          go_wp2_with fail
          go_roundw
          case rel => exact ⟨k + 1, ys, by omega, .inl (by omega), by go_num, only_dn HO.out _, HP.out, HMM.out.done hqk (.inl rfl), HY.out⟩
          case measure => simp [intOf]; omega
        · obtain ⟨p, hpq⟩ : ∃ p, q = p + 1 := ⟨q - 1, by omega⟩
          have hpz : (q : Int) - 1 = (p : Int) := by omega
          have hqz : (0 : Int) < (q : Int) := by omega
          have hqnz : (q : Int) < (n : Int) := by omega
          have hpnz : (p : Int) < (n : Int) := by omega
          have hp0 : (0 : Int) ≤ (p : Int) := by omega
          have h1 := HY.out.cell (i := q) (by have := HL.out; omega)
          have h2 := HY.out.cell (i := p) (by have := HL.out; omega)
          have f1 := HY.out.frozen q
          have f2 := HY.out.frozen p
          obtain ⟨x, hx⟩ : ∃ x, ys.getD q 0 = x := ⟨_, rfl⟩
          obtain ⟨y, hy⟩ : ∃ y, ys.getD p 0 = y := ⟨_, rfl⟩
          rw [hx] at h1
          rw [hy] at h2
          have HX := hide hx
          have HYY := hide hy
          have HPQ := hide hpq
          have hdq : decide (0 < q) = true := by simp; omega
          clear hx hy hpq
          by_cases hxy : x < y
          · go_wp2_with fail
            have hw : IntKind.i64.wrap ((q : Int) - 1) = (p : Int) := by rw [hpz]; exact IntWalk.i64_in _ (by omega)
            go_quiet ((go_at_call 139; exact quiet_call ((less1_any _ _ _).mono fun _ _ h => ⟨h.1, ⟨0, h.2.symm⟩⟩)))
            clear hw
            obtain ⟨w5, hw5⟩ : ∃ w5, wr.drewN nq = w5 := ⟨_, rfl⟩
            have h1' : w5.cell? ⟨g, q, none⟩ = some (.int .i64 x) := by subst hw5; exact h1
            have h2' : w5.cell? ⟨g, p, none⟩ = some (.int .i64 y) := by subst hw5; exact h2
            have f1' : w5.frozen? ⟨g, q, none⟩ = false := by subst hw5; exact f1
            have f2' : w5.frozen? ⟨g, p, none⟩ = false := by subst hw5; exact f2
            have HO5 : Hid (Only (some ⟨g, 0, none⟩) w w5) := hide (by subst hw5; exact only_dn HO.out _)
            have HY5 : Hid (OwnB 2 w5 g ys) := hide (by subst hw5; exact HY.out)
            rw [hw5]
            clear h1 h2 f1 f2 hw5
            go_wp2_with fail
            obtain ⟨y', hy'⟩ := cell?_setCell_some (w := w5.drew) (p := ⟨g, q, none⟩) (x := Value.int IntKind.i64 y) (q := ⟨g, p, none⟩) (v := Value.int IntKind.i64 y) (by go_simp)
            go_region
            go_wp2_with fail
            go_roundw
            case rel =>
              have hq1 : q - 1 = p := by have := HPQ.out; omega
              have hql : q < ys.length := by have := HL.out; omega
              have hs1 := (HY5.out.set q y hql).set p x (by simp; omega)
              have e : (ys.set q y).set p x = swp ys q := by
                unfold swp
                rw [hq1, HX.out, HYY.out]
              rw [e] at hs1
              refine ⟨p, swp ys q, by omega, by first | rfl | go_num, ?_, (swp_perm ys q hql (by omega)).trans HP.out, by have h := HMM.out.step hqk (by omega) (by have := HL.out; omega) (by rw [hq1, HX.out, HYY.out]; exact hxy); rw [hq1] at h; exact h, ⟨hs1.choose, hs1.choose_spec⟩⟩
              have h1 := HO5.out
              exact ⟨h1.os, h1.tape, h1.output, by have := h1.size; simpa [World.setCell, World.drew] using this, fun i hi hne => (Below.heap_setCell _ _ _ _ (fun e => hne (by rw [e]; rfl))).trans ((Below.heap_setCell _ _ _ _ (fun e => hne (by rw [e]; rfl))).trans (h1.block i hi hne))⟩
            case measure => have := HPQ.out; simp [intOf]; omega
          · go_wp2_with fail
            have hw : IntKind.i64.wrap ((q : Int) - 1) = (p : Int) := by rw [hpz]; exact IntWalk.i64_in _ (by omega)
            go_quiet ((go_at_call 139; exact quiet_call ((less1_any _ _ _).mono fun _ _ h => ⟨h.1, ⟨0, h.2.symm⟩⟩)))
            clear hw
            go_wp2_with fail
            go_roundw
            case rel => exact ⟨k + 1, ys, by omega, .inl (by omega), by go_num, only_dn HO.out _, HP.out, HMM.out.done hqk (.inr (by have hq1 : q - 1 = p := (by have := HPQ.out; omega); rw [hq1, HX.out, HYY.out]; omega)), HY.out⟩
            case measure => simp [intOf]; omega
    · have hltz : ¬ (k : Int) < n := by omega
      go_wp2_with fail
      go_end0
      refine ⟨rfl, HO.out, ys, HP.out, ?_, HY.out⟩
      intro a b h1 h2
      refine HU.out a b h1 ?_
      have := HP.out.length_eq
      have := HN.out
      omega
end Go.Proofs.Ythkhkehpmolfaaa
namespace Go.Proofs.Ythkhkehpmolfaaa
open Go Go.RowKit
set_option maxHeartbeats 1000000

theorem lcm_any (a b : Nat) (w : World) (ha : 1 ≤ a) (hb : 1 ≤ b) (hab : a * b ≤ 1000000000000000000) :
    Calls Try.prog 110 #[.int .i64 a, .int .i64 b] w fun e w' => e = .returned (.int .i64 (Nat.lcm a b)) ∧ Quiet w w' := by
  have ha2 : a ≤ 1000000000000000000 := Nat.le_trans (Nat.le_mul_of_pos_right a hb) hab
  have hb2 : b ≤ 1000000000000000000 := Nat.le_trans (Nat.le_mul_of_pos_left b ha) hab
  obtain ⟨u, hu⟩ : ∃ u, Nat.gcd a b = u := ⟨_, rfl⟩
  have hud : u ∣ a := by rw [← hu]; exact Nat.gcd_dvd_left a b
  have hu1 : 1 ≤ u := by rw [← hu]; exact Nat.gcd_pos_of_pos_left b ha
  have hula : u ≤ a := Nat.le_of_dvd ha hud
  have hq1 : ((a : Int)).tdiv (u : Int) = ((a / u : Nat) : Int) := by rw [Int.ofNat_tdiv]
  have hq2 : a / u ≤ a := Nat.div_le_self a u
  have hl : a / u * b = Nat.lcm a b := by
    unfold Nat.lcm
    rw [hu, Nat.div_mul_right_comm hud]
  have hle : a / u * b ≤ 1000000000000000000 := Nat.le_trans (Nat.mul_le_mul_right b hq2) hab
  obtain ⟨m, hm⟩ : ∃ m, a / u = m := ⟨_, rfl⟩
  rw [hm] at hq1 hl hle hq2
  have hl2 : ((m : Int)) * (b : Int) = ((Nat.lcm a b : Nat) : Int) := by rw [← hl]; simp
  have hl3 : Nat.lcm a b ≤ 1000000000000000000 := by rw [← hl]; exact hle
  obtain ⟨r, hr⟩ : ∃ r, Nat.lcm a b = r := ⟨_, rfl⟩
  rw [hr] at hl2 hl3 ⊢
  have hu0 : ¬ (u : Int) = 0 := by omega
  have HU := hide hu
  clear hud hm hl hle hr hab hu
  go_enter Try.func110, Try.ntmps110
  go_wp2_with fail
  refine (gcd_any a b _ ha2 hb2).mono ?_
  rintro e w1 ⟨rfl, hq1'⟩
  rw [HU.out]
  have HQ := hide hq1'
  clear hq1'
  go_wp2_with fail
  go_ret
  exact ⟨rfl, HQ.out⟩
end Go.Proofs.Ythkhkehpmolfaaa
