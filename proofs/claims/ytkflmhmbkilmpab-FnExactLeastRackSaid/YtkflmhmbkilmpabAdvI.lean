import Derived.Test.YtkflmhmbkilmpabProg
import Derived.Test.YtkflmhmbkilmpabAdvF
import Derived.BigRegion
namespace Go.Proofs.Ytkflmhmbkilmpab
open Go Go.RowKit
set_option maxHeartbeats 2000000

theorem reverse_any (g s m c : Nat) (q : List Int) (w : World) (hm : 1 ≤ m) (hl : q.length = s + m) (hb : m ≤ 1048576) (hq : Row 2 w g q) :
    Calls Try.prog 97 #[.slice (some ⟨g, s, none⟩) m c] w fun e w' => e = .returned (.tuple #[]) ∧ Only (some ⟨g, 0, none⟩) w w' ∧ Row 2 w' g (q.take s ++ (q.drop s).reverse) := by
  have HQ := hide hq
  have HL := hide hl
  clear hq hl
  go_enter Try.func97, Try.ntmps97
  go_wp2_with fail
  go_loopw [2, 3] (fun i j wr => ∃ k : Nat, k + k ≤ m ∧ i = .int .i64 k ∧ j = .int .i64 ((m : Int) - 1 - (k : Int)) ∧ Only (some ⟨g, 0, none⟩) w wr ∧ Row 2 wr g (revTo q s k)) (fun i _ _ => m - (intOf i).toNat)
  case atStart => exact ⟨0, by omega, rfl, by simp, Only.quiet (Quiet.refl _), HQ.out⟩
  case round =>
    obtain ⟨k, hk, rfl, rfl, ho, hrow⟩ := hrel
    have HO := hide ho
    have HR := hide hrow
    clear ho hrow
    by_cases hlt : k < m - 1 - k
    · obtain ⟨j, hj⟩ : ∃ j : Nat, j = m - 1 - k := ⟨_, rfl⟩
      have hji : (m : Int) - 1 - (k : Int) = (j : Int) := by omega
      have hkj : k < j := by omega
      have hjm : j < m := by omega
      rw [hji]
      have HJ := hide hj
      have hlen := revTo_length q s k
      have h1 := HR.out.cell (i := s + k) (by have := HL.out; omega)
      have h2 := HR.out.cell (i := s + j) (by have := HL.out; omega)
      obtain ⟨x, hx⟩ : ∃ x, (revTo q s k).getD (s + k) 0 = x := ⟨_, rfl⟩
      obtain ⟨y, hy⟩ : ∃ y, (revTo q s k).getD (s + j) 0 = y := ⟨_, rfl⟩
      rw [hx] at h1
      rw [hy] at h2
      have HX := hide hx
      have HY := hide hy
      have h3 := HR.out.frozen (s + k)
      have h4 := HR.out.frozen (s + j)
      clear hj hji hlen hx hy
      have hkjz : (k : Int) < (j : Int) := by omega
      have hkmz : (k : Int) < (m : Int) := by omega
      have hjmz : (j : Int) < (m : Int) := by omega
      go_wp2_with fail
      obtain ⟨y', hy'⟩ := cell?_setCell_some (w := wr.drew) (p := ⟨g, s + k, none⟩) (x := Value.int IntKind.i64 y) (q := ⟨g, s + j, none⟩) (v := Value.int IntKind.i64 y) (by go_simp)
      go_region
      go_wp2_with fail
      go_roundw
      case rel =>
        have hs1 := (HR.out.set (s + k) y).set (s + j) x
        have e : ((revTo q s k).set (s + k) y).set (s + j) x = revTo q s (k + 1) := by
          have hl := HL.out
          have hj := HJ.out
          have e2 : q.length - 1 - k = s + j := by omega
          simp only [revTo]
          rw [e2, HX.out, HY.out]
        rw [e] at hs1
        refine ⟨k + 1, by omega, by go_num, by have := HJ.out; go_num, ?_, hs1⟩
        have h1 := HO.out
        exact ⟨h1.os, h1.tape, h1.output, by have := h1.size; simpa [World.setCell, World.drew] using this, fun i hi hne => (Below.heap_setCell _ _ _ _ (fun e => hne (by rw [e]; rfl))).trans ((Below.heap_setCell _ _ _ _ (fun e => hne (by rw [e]; rfl))).trans (h1.block i hi hne))⟩
      case measure => simp [intOf]; omega
    · have hgez : ¬ ((k : Int) < (m : Int) - 1 - (k : Int)) := by omega
      go_wp2_with fail
      go_end0
      have hl := HL.out
      rw [← revTo_done q s k (by omega) (by omega) (by omega)]
      exact ⟨rfl, HO.out, HR.out⟩

/-- What advance does to the list in block g. -/
def AdvPost (t : TypeId) (g : Nat) (p : List Int) (w : World) (e : Ending) (w' : World) : Prop :=
  (adv p = none ∧ e = .returned (.bool false) ∧ Only (some ⟨g, 0, none⟩) w w' ∧ Row t w' g p) ∨ (∃ q, adv p = some q ∧ e = .returned (.bool true) ∧ Only (some ⟨g, 0, none⟩) w w' ∧ Row t w' g q)

theorem only_drewN {A : Option Addr} {w w' : World} (h : Only A w w') (q : Nat) : Only A w (w'.drewN q) := ⟨h.os, h.tape, h.output, h.size, h.block⟩
theorem only_trans {A : Option Addr} {a b c : World} (h : Only A a b) (k : Only A b c) : Only A a c :=
  ⟨k.os.trans h.os, k.tape.trans h.tape, k.output.trans h.output, Nat.le_trans h.size k.size, fun i hi hne => (k.block i (Nat.lt_of_lt_of_le hi h.size) hne).trans (h.block i hi hne)⟩

theorem advance_any (g n c : Nat) (p : List Int) (w : World) (hn : p.length = n) (h1 : 1 ≤ n) (hnc : n ≤ c) (hb : n ≤ 1048576) (hp : Row 2 w g p) :
    Calls Try.prog 82 #[.slice (some ⟨g, 0, none⟩) n c] w (AdvPost 2 g p w) := by
  have HN := hide hn
  have HP := hide hp
  have HA : Hid (adv p = match scanI p (n - 1) with | none => none | some i => some (advAt p i (scanJ p (p.getD i 0) (n - 1)))) := hide (by rw [← hn]; rfl)
  clear hn hp
  go_enter Try.func82, Try.ntmps82
  go_wp2_with fail
  go_loopw [3] (fun i wr => ∃ k : Nat, k ≤ n - 1 ∧ i = .int .i64 ((k : Int) - 1) ∧ Only (some ⟨g, 0, none⟩) w wr ∧ Row 2 wr g p ∧ scanI p (n - 1) = scanI p k) (fun i _ => (intOf i + 1).toNat)
  case atStart => exact ⟨n - 1, Nat.le_refl _, by congr 1; omega, Only.quiet (Quiet.refl _), HP.out, rfl⟩
  case round =>
    obtain ⟨k, hk, rfl, ho, hrow, hs⟩ := hrel
    have HO := hide ho
    have HR := hide hrow
    have HS := hide hs
    clear ho hrow hs
    cases k with
    | zero =>
      rw [show (((0 : Nat) : Int) - 1) = -1 from rfl]
      have hd : decide ((0 : Int) ≤ -1) = false := by decide
      go_wp2_with fail
      go_quiet (fail)
      go_wp2_with fail
      go_ret
      have h := HA.out
      rw [HS.out] at h
      exact .inl ⟨h, rfl, only_drewN HO.out _, HR.out⟩
    | succ i =>
      have ei : ((i + 1 : Nat) : Int) - 1 = (i : Int) := by omega
      rw [ei]
      have h1 := HR.out.cell (i := i) (by have := HN.out; omega)
      have h2 := HR.out.cell (i := i + 1) (by have := HN.out; omega)
      obtain ⟨x, hx⟩ : ∃ x, p.getD i 0 = x := ⟨_, rfl⟩
      obtain ⟨y, hy⟩ : ∃ y, p.getD (i + 1) 0 = y := ⟨_, rfl⟩
      rw [hx] at h1
      rw [hy] at h2
      have HX := hide hx
      have HY := hide hy
      clear ei hx hy
      have hinz : (i : Int) < n := by omega
      have hinz2 : (i : Int) + 1 < n := by omega
      by_cases hxy : y < x
      · go_wp2_with fail
        go_quiet (fail)
        go_wp2_with fail
        go_roundw
        case rel =>
          refine ⟨i, by omega, rfl, only_drewN HO.out _, HR.out, ?_⟩
          rw [HS.out, scanI, HX.out, HY.out, if_pos hxy]
        case measure => simp [intOf]
      · have hs2 : scanI p (n - 1) = some i := by rw [HS.out, scanI, HX.out, HY.out, if_neg hxy]
        have HS2 := hide hs2
        have hd : decide (y < x) = false := by simpa using hxy
        have HXY := hide hxy
        clear hs2 hxy
        go_wp2_with fail
        go_quiet (fail)
        go_wp2_with fail
        obtain ⟨wo, rfl⟩ : ∃ wo : World, wo = wr := ⟨_, rfl⟩
        go_loopw [4] (fun j wr => ∃ k : Nat, k ≤ n - 1 ∧ i + 1 ≤ k ∧ j = .int .i64 k ∧ Only (some ⟨g, 0, none⟩) w wr ∧ Row 2 wr g p ∧ scanJ p x (n - 1) = scanJ p x k) (fun j _ => (intOf j).toNat)
        case atStart => exact ⟨n - 1, Nat.le_refl _, by omega, by congr 1; omega, only_drewN HO.out _, HR.out, rfl⟩
        case round =>
          obtain ⟨k, hk1, hk2, rfl, ho2, hrow2, hj⟩ := hrel
          have HO2 := hide ho2
          have HR2 := hide hrow2
          have HJ := hide hj
          clear ho2 hrow2 hj h1 h2
          have h1 : wr.cell? ⟨g, i, none⟩ = some (.int .i64 x) := by rw [← HX.out]; exact HR2.out.cell (i := i) (by have := HN.out; omega)
          have h2 := HR2.out.cell (i := k) (by have := HN.out; omega)
          obtain ⟨z, hz⟩ : ∃ z, p.getD k 0 = z := ⟨_, rfl⟩
          rw [hz] at h2
          have HZ := hide hz
          clear hz
          have hkz : (k : Int) < n := by omega
          obtain ⟨k', rfl⟩ : ∃ k', k = k' + 1 := ⟨k - 1, by omega⟩
          by_cases hzx : z < x
          · have hne : k' ≠ i := fun e => by
              subst e
              have e2 := HZ.out
              rw [HY.out] at e2
              subst e2
              have := HXY.out
              omega
            have hki : i + 1 ≤ k' := by omega
            have HZX := hide hzx
            clear hne
            go_wp2_with fail
            go_quiet (fail)
            go_wp2_with fail
            go_roundw
            case rel =>
              refine ⟨k', by omega, hki, by first | rfl | (congr 1; omega), only_drewN HO2.out _, HR2.out, ?_⟩
              rw [HJ.out, scanJ, HZ.out, if_pos HZX.out]
            case measure => simp [intOf]
          · have hd2 : decide (z < x) = false := by simpa using hzx
            have hj2 : scanJ p x (n - 1) = k' + 1 := by rw [HJ.out, scanJ, HZ.out, if_neg hzx]
            have HJ2 := hide hj2
            clear hj2 hzx
            go_wp2_with fail
            go_quiet (fail)
            go_wp2_with fail
            have f1 := HR2.out.frozen i
            have f2 := HR2.out.frozen (k' + 1)
            have hci : ¬ c = i + 1 := by omega
            have hic : (i : Int) + 1 ≤ (n : Int) := by omega
            have hkz2 : (k' : Int) + 1 < n := by omega
            have hik : i < k' + 1 := by omega
            have hv : ((wr.drewN (nq + 1)).setCell ⟨g, i, none⟩ (Value.int IntKind.i64 z)).cell? ⟨g, k' + 1, none⟩ = some (.int .i64 z) := by
              rw [World.cell?_setCell_other _ _ _ _ (fun e => by have := congrArg Addr.off e; simp at this; omega)]
              exact h2
            go_region
            go_wp2_with fail
            have hrow : Row 2 (((wr.drewN (nq + 1)).setCell ⟨g, i, none⟩ (Value.int IntKind.i64 z)).setCell ⟨g, k' + 1, none⟩ (Value.int IntKind.i64 x)) g ((p.set i z).set (k' + 1) x) := ((show Row 2 (wr.drewN (nq + 1)) g p from HR2.out).set i z).set (k' + 1) x
            have HRW := hide hrow
            clear hrow hv
            refine (reverse_any g (i + 1) (n - (i + 1)) (c - (i + 1)) ((p.set i z).set (k' + 1) x) _ (by omega) (by have := HN.out; simp; omega) (by omega) HRW.out).mono ?_
            rintro e w3 ⟨rfl, ho3, hr3⟩
            have HO3 := hide ho3
            have HR3 := hide hr3
            clear ho3 hr3
            go_wp2_with fail
            go_ret
            refine .inr ⟨_, ?_, rfl, ?_, HR3.out⟩
            · have h := HA.out
              rw [HS2.out] at h
              simp only at h
              rw [h, HX.out, HJ2.out]
              unfold advAt
              rw [HX.out, HZ.out]
            · refine only_trans ?_ HO3.out
              have h1 := only_drewN HO2.out (nq + 1)
              exact ⟨h1.os, h1.tape, h1.output, by have := h1.size; simpa [World.setCell] using this, fun a ha hne => (Below.heap_setCell _ _ _ _ (fun e => hne (by rw [e]; rfl))).trans ((Below.heap_setCell _ _ _ _ (fun e => hne (by rw [e]; rfl))).trans (h1.block a ha hne))⟩
end Go.Proofs.Ytkflmhmbkilmpab
