import Derived.Test.YtljdfanebjhhmaaZf
import Derived.Test.YtljdfanebjhhmaaProg
import Derived.BigRegion
import Derived.Test.YtljdfanebjhhmaaZb
namespace Go.Proofs.Ytljdfanebjhhmaa
open Go Go.RowKit

/-- All permutations of n elements that begin with start, f further elements each. -/
def growS (n : Nat) : Nat → List Int → List (List Int)
  | 0, start => [start]
  | f + 1, start => (List.range n).flatMap fun (x : Nat) => if start.contains (Int.ofNat x) then [] else growS n f (start ++ [Int.ofNat x])
def permsS (n : Nat) : List (List Int) := growS n n []
/-- Each list's next one is the one behind it. -/
def chk : List (List Int) → Bool
  | [] => false
  | [a] => adv a == none
  | a :: b :: r => adv a == some b && chk (b :: r)
/-- All lists have n elements. -/
def lens (n : Nat) (l : List (List Int)) : Bool := l.all fun r => r.length == n
def unit (n : Nat) : List Int := (List.range n).map fun (x : Nat) => Int.ofNat x
def good (n : Nat) (l : List (List Int)) : Bool := chk l && lens n l && (l.head? == some (unit n)) && decide (l.length ≤ 5040)

theorem good1 : good 1 (permsS 1) = true := by decide +kernel
theorem good2 : good 2 (permsS 2) = true := by decide +kernel
theorem good3 : good 3 (permsS 3) = true := by decide +kernel
theorem good4 : good 4 (permsS 4) = true := by decide +kernel
theorem good5 : good 5 (permsS 5) = true := by decide +kernel
theorem good6 : good 6 (permsS 6) = true := by decide +kernel
theorem good7 : good 7 (permsS 7) = true := by decide +kernel
theorem good_all (n : Nat) (h1 : 1 ≤ n) (h2 : n ≤ 7) : good n (permsS n) = true := by
  match n, h1, h2 with
  | 1, _, _ => exact good1
  | 2, _, _ => exact good2
  | 3, _, _ => exact good3
  | 4, _, _ => exact good4
  | 5, _, _ => exact good5
  | 6, _, _ => exact good6
  | 7, _, _ => exact good7

theorem chk_pos (l : List (List Int)) (h : chk l = true) : 0 < l.length := by
  cases l with
  | nil => cases h
  | cons a r => simp

theorem chk_next (l : List (List Int)) (h : chk l = true) (k : Nat) (hk : k < l.length) : adv (l.getD k []) = if k + 1 < l.length then some (l.getD (k + 1) []) else none := by
  induction l generalizing k with
  | nil => cases h
  | cons a r ih =>
    cases r with
    | nil =>
      have hk0 : k = 0 := by simp at hk; omega
      subst hk0
      have h' : adv a = none := by simpa [chk] using h
      rw [if_neg (by simp)]
      exact h'
    | cons b r =>
      have h' : adv a = some b ∧ chk (b :: r) = true := by simpa [chk] using h
      cases k with
      | zero =>
        rw [if_pos (by simp)]
        exact h'.1
      | succ k =>
        have := ih h'.2 k (by simpa using hk)
        have e1 : (a :: b :: r).getD (k + 1) [] = (b :: r).getD k [] := by simp
        have e2 : (a :: b :: r).getD (k + 1 + 1) [] = (b :: r).getD (k + 1) [] := by simp
        rw [e1, e2, this]
        simp

structure Perms (n : Nat) : Prop where
  next : ∀ k, k < (permsS n).length → adv ((permsS n).getD k []) = if k + 1 < (permsS n).length then some ((permsS n).getD (k + 1) []) else none
  len : ∀ k, k < (permsS n).length → ((permsS n).getD k []).length = n
  pos : 0 < (permsS n).length
  first : (permsS n).getD 0 [] = unit n
  most : (permsS n).length ≤ 5040

theorem perms_all (n : Nat) (h1 : 1 ≤ n) (h2 : n ≤ 7) : Perms n := by
  have h := good_all n h1 h2
  unfold good at h
  simp only [Bool.and_eq_true, decide_eq_true_eq, beq_iff_eq] at h
  obtain ⟨⟨⟨hc, hl⟩, hf⟩, hm⟩ := h
  have hp := chk_pos _ hc
  refine ⟨chk_next _ hc, fun k hk => ?_, hp, ?_, hm⟩
  · unfold lens at hl
    have := List.all_eq_true.1 hl ((permsS n)[k]) (List.getElem_mem hk)
    have e : (permsS n).getD k [] = (permsS n)[k] := by simp [hk]
    rw [e]
    simpa using this
  · rw [List.getD_eq_getElem?_getD, ← List.head?_eq_getElem?, hf]
    rfl

def PermsRes (n : Int) (zs : List (List Int)) (code : Int) : Prop := (1 ≤ n ∧ n ≤ 7 ∧ zs = permsS n.toNat ∧ code = 0) ∨ (¬ (1 ≤ n ∧ n ≤ 7) ∧ zs = [] ∧ code = 2)
theorem PermsRes.ex (n : Int) : ∃ zs code, PermsRes n zs code ∧ zs.length ≤ 1048576 ∧ ∀ i, i < zs.length → (zs.getD i []).length ≤ 1048576 := by
  by_cases h : 1 ≤ n ∧ n ≤ 7
  · have hp := perms_all n.toNat (by omega) (by omega)
    exact ⟨_, _, .inl ⟨h.1, h.2, rfl, rfl⟩, by have := hp.most; omega, fun i hi => by rw [hp.len i hi]; omega⟩
  · exact ⟨_, _, .inr ⟨h, rfl, rfl⟩, by simp, fun i hi => by simp at hi⟩
end Go.Proofs.Ytljdfanebjhhmaa
namespace Go.Proofs.Ytljdfanebjhhmaa
open Go Go.RowKit
set_option maxHeartbeats 1000000

def cmp1 (x y : Int) : Int := if x < y then -1 else if y < x then 1 else 0
theorem cmp1_any (x y : Int) (w : World) :
    Calls Try.prog 120 #[.int .i64 x, .int .i64 y] w fun e w' => e = .returned (.int .i64 (cmp1 x y)) ∧ w = w' := by
  have hx : (x != x) = false := by simp
  have hy : (y != y) = false := by simp
  by_cases h1 : x < y
  · have hc : cmp1 x y = -1 := by unfold cmp1; rw [if_pos h1]
    have HC := hide hc
    clear hc
    go_enter Try.func120, Try.ntmps120
    go_wp2
    go_ret
    exact ⟨by rw [HC.out]; rfl, rfl⟩
  · by_cases h2 : y < x
    · have hc : cmp1 x y = 1 := by unfold cmp1; rw [if_neg h1, if_pos h2]
      have HC := hide hc
      clear hc
      go_enter Try.func120, Try.ntmps120
      go_wp2
      go_ret
      exact ⟨by rw [HC.out]; rfl, rfl⟩
    · have hc : cmp1 x y = 0 := by unfold cmp1; rw [if_neg h1, if_neg h2]
      have HC := hide hc
      clear hc
      go_enter Try.func120, Try.ntmps120
      go_wp2
      go_ret
      exact ⟨by rw [HC.out]; rfl, rfl⟩

theorem cmpR_any (A B : Option Addr) (n c d : Nat) (xs ys : List Int) (w : World) (hn : xs.length = n) (hm : ys.length = n) (hb : n ≤ 9223372036854775807) (hx : Rd w A xs) (hy : Rd w B ys) :
    Calls Try.prog 112 #[.slice A n c, .slice B n d] w fun e w' => e = .returned (.int .i64 (cmpL xs ys)) ∧ Quiet w w' := by
  have HN := hide hn
  have HM := hide hm
  clear hn hm
  go_enter Try.func112, Try.ntmps112
  go_wp2_with fail
  go_loopw [11] (fun i wr => ∃ k : Nat, k ≤ n ∧ i = .int .i64 k ∧ Quiet w wr ∧ cmpL xs ys = cmpL (xs.drop k) (ys.drop k)) (fun i _ => n - (intOf i).toNat)
  case atStart => exact ⟨0, Nat.zero_le _, rfl, Quiet.refl w, rfl⟩
  case round =>
    obtain ⟨k, hk, rfl, hq, hall⟩ := hrel
    have HQ := hide hq
    have HALL := hide hall
    clear hq hall
    by_cases hlt : k < n
    · obtain ⟨b, o, rfl, _, hc⟩ := HQ.out.rd hx (by have := HN.out; omega)
      obtain ⟨b2, o2, rfl, _, hc2⟩ := HQ.out.rd hy (by have := HM.out; omega)
      have h1 := hc k (by have := HN.out; omega)
      have h2 := hc2 k (by have := HM.out; omega)
      have e1 := drop_cons xs k (by have := HN.out; omega)
      have e2 := drop_cons ys k (by have := HM.out; omega)
      obtain ⟨x, hx⟩ : ∃ x, xs.getD k 0 = x := ⟨_, rfl⟩
      obtain ⟨y, hy⟩ : ∃ y, ys.getD k 0 = y := ⟨_, rfl⟩
      rw [hx] at h1 e1
      rw [hy] at h2 e2
      have E1 := hide e1
      have E2 := hide e2
      obtain ⟨v, hv⟩ : ∃ v, cmp1 x y = v := ⟨_, rfl⟩
      have HV := hide hv
      clear hx hy hc hc2 e1 e2 hv
      have hltz : (k : Int) < n := by omega
      by_cases hv0 : v = 0
      · have hxy : x = y := by
          have h := HV.out
          unfold cmp1 at h
          split at h
          · omega
          · split at h <;> omega
        have HXY := hide hxy
        subst hv0
        clear hxy
        go_wp2_with fail
        refine (cmp1_any x y _).mono ?_
        rintro e w2 ⟨rfl, rfl⟩
        rw [HV.out]
        go_wp2_with fail
        go_roundw
        case rel =>
          refine ⟨k + 1, by omega, by go_num, HQ.out, ?_⟩
          rw [HALL.out, E1.out, E2.out, cmpL, if_neg (by have := HXY.out; omega), if_neg (by have := HXY.out; omega)]
        case measure => simp [intOf]; omega
      · have hne : (v != 0) = true := by simpa using hv0
        have HV0 := hide hv0
        clear hv0
        go_wp2_with fail
        refine (cmp1_any x y _).mono ?_
        rintro e w2 ⟨rfl, rfl⟩
        rw [HV.out]
        go_wp2_with fail
        go_ret
        have hres : cmpL xs ys = v := by
          rw [HALL.out, E1.out, E2.out, cmpL]
          have h := HV.out
          unfold cmp1 at h
          by_cases h1 : x < y
          · rw [if_pos h1] at h ⊢
            exact h
          · rw [if_neg h1] at h ⊢
            by_cases h2 : y < x
            · rw [if_pos h2] at h ⊢
              exact h
            · rw [if_neg h2] at h
              exact absurd h.symm HV0.out
        exact ⟨by rw [hres]; rfl, HQ.out⟩
    · have hkn : k = n := by omega
      subst hkn
      go_wp2_with fail
      go_ret
      have h := HALL.out
      rw [List.drop_of_length_le (by have := HN.out; omega), List.drop_of_length_le (by have := HM.out; omega)] at h
      exact ⟨by rw [h]; rfl, HQ.out⟩
end Go.Proofs.Ytljdfanebjhhmaa
namespace Go.Proofs.Ytljdfanebjhhmaa
open Go Go.RowKit
set_option maxHeartbeats 2000000

theorem reverse_any (g s m c : Nat) (q : List Int) (w : World) (hm : 1 ≤ m) (hl : q.length = s + m) (hb : m ≤ 1048576) (hq : Row 2 w g q) :
    Calls Try.prog 94 #[.slice (some ⟨g, s, none⟩) m c] w fun e w' => e = .returned (.tuple #[]) ∧ Only (some ⟨g, 0, none⟩) w w' ∧ Row 2 w' g (q.take s ++ (q.drop s).reverse) := by
  have HQ := hide hq
  have HL := hide hl
  clear hq hl
  go_enter Try.func94, Try.ntmps94
  go_wp2_with fail
  go_loopw [2, 3] (fun i j wr => ∃ k : Nat, k + k ≤ m ∧ i = .int .i64 k ∧ j = .int .i64 ((m : Int) - 1 - (k : Int)) ∧ Only (some ⟨g, 0, none⟩) w wr ∧ Row 2 wr g (revTo q s k)) (fun i _ _ => m - (intOf i).toNat)
  case atStart => exact ⟨0, by omega, rfl, by simp, Only.quiet (Quiet.refl _), HQ.out⟩
  case round =>
    obtain ⟨k, hk, rfl, rfl, ho, hrow⟩ := hrel
    have HO := hide ho
    have HR := hide hrow
    clear ho hrow
    by_cases hlt : k < m - 1 - k
    · obtain ⟨j, hj⟩ : ∃ j : Nat, j = m - 1 - k := ⟨_, rfl⟩
      have hji : (m : Int) - 1 - (k : Int) = (j : Int) := by omega
      have hkj : k < j := by omega
      have hjm : j < m := by omega
      rw [hji]
      have HJ := hide hj
      have hlen := revTo_length q s k
      have h1 := HR.out.cell (i := s + k) (by have := HL.out; omega)
      have h2 := HR.out.cell (i := s + j) (by have := HL.out; omega)
      obtain ⟨x, hx⟩ : ∃ x, (revTo q s k).getD (s + k) 0 = x := ⟨_, rfl⟩
      obtain ⟨y, hy⟩ : ∃ y, (revTo q s k).getD (s + j) 0 = y := ⟨_, rfl⟩
      rw [hx] at h1
      rw [hy] at h2
      have HX := hide hx
      have HY := hide hy
      have h3 := HR.out.frozen (s + k)
      have h4 := HR.out.frozen (s + j)
      clear hj hji hlen hx hy
      have hkjz : (k : Int) < (j : Int) := by omega
      have hkmz : (k : Int) < (m : Int) := by omega
      have hjmz : (j : Int) < (m : Int) := by omega
      go_wp2_with fail
      obtain ⟨y', hy'⟩ := cell?_setCell_some (w := wr.drew) (p := ⟨g, s + k, none⟩) (x := Value.int IntKind.i64 y) (q := ⟨g, s + j, none⟩) (v := Value.int IntKind.i64 y) (by go_simp)
      go_region
      go_wp2_with fail
      go_roundw
      case rel =>
        have hs1 := (HR.out.set (s + k) y).set (s + j) x
        have e : ((revTo q s k).set (s + k) y).set (s + j) x = revTo q s (k + 1) := by
          have hl := HL.out
          have hj := HJ.out
          have e2 : q.length - 1 - k = s + j := by omega
          simp only [revTo]
          rw [e2, HX.out, HY.out]
        rw [e] at hs1
        refine ⟨k + 1, by omega, by go_num, by have := HJ.out; go_num, ?_, hs1⟩
        have h1 := HO.out
        exact ⟨h1.os, h1.tape, h1.output, by have := h1.size; simpa [World.setCell, World.drew] using this, fun i hi hne => (Below.heap_setCell _ _ _ _ (fun e => hne (by rw [e]; rfl))).trans ((Below.heap_setCell _ _ _ _ (fun e => hne (by rw [e]; rfl))).trans (h1.block i hi hne))⟩
      case measure => simp [intOf]; omega
    · have hgez : ¬ ((k : Int) < (m : Int) - 1 - (k : Int)) := by omega
      go_wp2_with fail
      go_end0
      have hl := HL.out
      rw [← revTo_done q s k (by omega) (by omega) (by omega)]
      exact ⟨rfl, HO.out, HR.out⟩

/-- What advance does to the list in block g. -/
def AdvPost (t : TypeId) (g : Nat) (p : List Int) (w : World) (e : Ending) (w' : World) : Prop :=
  (adv p = none ∧ e = .returned (.bool false) ∧ Only (some ⟨g, 0, none⟩) w w' ∧ Row t w' g p) ∨ (∃ q, adv p = some q ∧ e = .returned (.bool true) ∧ Only (some ⟨g, 0, none⟩) w w' ∧ Row t w' g q)

theorem only_drewN {A : Option Addr} {w w' : World} (h : Only A w w') (q : Nat) : Only A w (w'.drewN q) := ⟨h.os, h.tape, h.output, h.size, h.block⟩
theorem only_trans {A : Option Addr} {a b c : World} (h : Only A a b) (k : Only A b c) : Only A a c :=
  ⟨k.os.trans h.os, k.tape.trans h.tape, k.output.trans h.output, Nat.le_trans h.size k.size, fun i hi hne => (k.block i (Nat.lt_of_lt_of_le hi h.size) hne).trans (h.block i hi hne)⟩

theorem advance_any (g n c : Nat) (p : List Int) (w : World) (hn : p.length = n) (h1 : 1 ≤ n) (hnc : n ≤ c) (hb : n ≤ 1048576) (hp : Row 2 w g p) :
    Calls Try.prog 67 #[.slice (some ⟨g, 0, none⟩) n c] w (AdvPost 2 g p w) := by
  have HN := hide hn
  have HP := hide hp
  have HA : Hid (adv p = match scanI p (n - 1) with | none => none | some i => some (advAt p i (scanJ p (p.getD i 0) (n - 1)))) := hide (by rw [← hn]; rfl)
  clear hn hp
  go_enter Try.func67, Try.ntmps67
  go_wp2_with fail
  go_loopw [3] (fun i wr => ∃ k : Nat, k ≤ n - 1 ∧ i = .int .i64 ((k : Int) - 1) ∧ Only (some ⟨g, 0, none⟩) w wr ∧ Row 2 wr g p ∧ scanI p (n - 1) = scanI p k) (fun i _ => (intOf i + 1).toNat)
  case atStart => exact ⟨n - 1, Nat.le_refl _, by congr 1; omega, Only.quiet (Quiet.refl _), HP.out, rfl⟩
  case round =>
    obtain ⟨k, hk, rfl, ho, hrow, hs⟩ := hrel
    have HO := hide ho
    have HR := hide hrow
    have HS := hide hs
    clear ho hrow hs
    cases k with
    | zero =>
      rw [show (((0 : Nat) : Int) - 1) = -1 from rfl]
      have hd : decide ((0 : Int) ≤ -1) = false := by decide
      go_wp2_with fail
      go_quiet (fail)
      go_wp2_with fail
      go_ret
      have h := HA.out
      rw [HS.out] at h
      exact .inl ⟨h, rfl, only_drewN HO.out _, HR.out⟩
    | succ i =>
      have ei : ((i + 1 : Nat) : Int) - 1 = (i : Int) := by omega
      rw [ei]
      have h1 := HR.out.cell (i := i) (by have := HN.out; omega)
      have h2 := HR.out.cell (i := i + 1) (by have := HN.out; omega)
      obtain ⟨x, hx⟩ : ∃ x, p.getD i 0 = x := ⟨_, rfl⟩
      obtain ⟨y, hy⟩ : ∃ y, p.getD (i + 1) 0 = y := ⟨_, rfl⟩
      rw [hx] at h1
      rw [hy] at h2
      have HX := hide hx
      have HY := hide hy
      clear ei hx hy
      have hinz : (i : Int) < n := by omega
      have hinz2 : (i : Int) + 1 < n := by omega
      by_cases hxy : y < x
      · go_wp2_with fail
        go_quiet (fail)
        go_wp2_with fail
        go_roundw
        case rel =>
          refine ⟨i, by omega, rfl, only_drewN HO.out _, HR.out, ?_⟩
          rw [HS.out, scanI, HX.out, HY.out, if_pos hxy]
        case measure => simp [intOf]
      · have hs2 : scanI p (n - 1) = some i := by rw [HS.out, scanI, HX.out, HY.out, if_neg hxy]
        have HS2 := hide hs2
        have hd : decide (y < x) = false := by simpa using hxy
        have HXY := hide hxy
        clear hs2 hxy
        go_wp2_with fail
        go_quiet (fail)
        go_wp2_with fail
        obtain ⟨wo, rfl⟩ : ∃ wo : World, wo = wr := ⟨_, rfl⟩
        go_loopw [4] (fun j wr => ∃ k : Nat, k ≤ n - 1 ∧ i + 1 ≤ k ∧ j = .int .i64 k ∧ Only (some ⟨g, 0, none⟩) w wr ∧ Row 2 wr g p ∧ scanJ p x (n - 1) = scanJ p x k) (fun j _ => (intOf j).toNat)
        case atStart => exact ⟨n - 1, Nat.le_refl _, by omega, by congr 1; omega, only_drewN HO.out _, HR.out, rfl⟩
        case round =>
          obtain ⟨k, hk1, hk2, rfl, ho2, hrow2, hj⟩ := hrel
          have HO2 := hide ho2
          have HR2 := hide hrow2
          have HJ := hide hj
          clear ho2 hrow2 hj h1 h2
          have h1 : wr.cell? ⟨g, i, none⟩ = some (.int .i64 x) := by rw [← HX.out]; exact HR2.out.cell (i := i) (by have := HN.out; omega)
          have h2 := HR2.out.cell (i := k) (by have := HN.out; omega)
          obtain ⟨z, hz⟩ : ∃ z, p.getD k 0 = z := ⟨_, rfl⟩
          rw [hz] at h2
          have HZ := hide hz
          clear hz
          have hkz : (k : Int) < n := by omega
          obtain ⟨k', rfl⟩ : ∃ k', k = k' + 1 := ⟨k - 1, by omega⟩
          by_cases hzx : z < x
          · have hne : k' ≠ i := fun e => by
              subst e
              have e2 := HZ.out
              rw [HY.out] at e2
              subst e2
              have := HXY.out
              omega
            have hki : i + 1 ≤ k' := by omega
            have HZX := hide hzx
            clear hne
            go_wp2_with fail
            go_quiet (fail)
            go_wp2_with fail
            go_roundw
            case rel =>
              refine ⟨k', by omega, hki, by first | rfl | (congr 1; omega), only_drewN HO2.out _, HR2.out, ?_⟩
              rw [HJ.out, scanJ, HZ.out, if_pos HZX.out]
            case measure => simp [intOf]
          · have hd2 : decide (z < x) = false := by simpa using hzx
            have hj2 : scanJ p x (n - 1) = k' + 1 := by rw [HJ.out, scanJ, HZ.out, if_neg hzx]
            have HJ2 := hide hj2
            clear hj2 hzx
            go_wp2_with fail
            go_quiet (fail)
            go_wp2_with fail
            have f1 := HR2.out.frozen i
            have f2 := HR2.out.frozen (k' + 1)
            have hci : ¬ c = i + 1 := by omega
            have hic : (i : Int) + 1 ≤ (n : Int) := by omega
            have hkz2 : (k' : Int) + 1 < n := by omega
            have hik : i < k' + 1 := by omega
            have hv : ((wr.drewN (nq + 1)).setCell ⟨g, i, none⟩ (Value.int IntKind.i64 z)).cell? ⟨g, k' + 1, none⟩ = some (.int .i64 z) := by
              rw [World.cell?_setCell_other _ _ _ _ (fun e => by have := congrArg Addr.off e; simp at this; omega)]
              exact h2
            go_region
            go_wp2_with fail
            have hrow : Row 2 (((wr.drewN (nq + 1)).setCell ⟨g, i, none⟩ (Value.int IntKind.i64 z)).setCell ⟨g, k' + 1, none⟩ (Value.int IntKind.i64 x)) g ((p.set i z).set (k' + 1) x) := ((show Row 2 (wr.drewN (nq + 1)) g p from HR2.out).set i z).set (k' + 1) x
            have HRW := hide hrow
            clear hrow hv
            refine (reverse_any g (i + 1) (n - (i + 1)) (c - (i + 1)) ((p.set i z).set (k' + 1) x) _ (by omega) (by have := HN.out; simp; omega) (by omega) HRW.out).mono ?_
            rintro e w3 ⟨rfl, ho3, hr3⟩
            have HO3 := hide ho3
            have HR3 := hide hr3
            clear ho3 hr3
            go_wp2_with fail
            go_ret
            refine .inr ⟨_, ?_, rfl, ?_, HR3.out⟩
            · have h := HA.out
              rw [HS2.out] at h
              simp only at h
              rw [h, HX.out, HJ2.out]
              unfold advAt
              rw [HX.out, HZ.out]
            · refine only_trans ?_ HO3.out
              have h1 := only_drewN HO2.out (nq + 1)
              exact ⟨h1.os, h1.tape, h1.output, by have := h1.size; simpa [World.setCell] using this, fun a ha hne => (Below.heap_setCell _ _ _ _ (fun e => hne (by rw [e]; rfl))).trans ((Below.heap_setCell _ _ _ _ (fun e => hne (by rw [e]; rfl))).trans (h1.block a ha hne))⟩
end Go.Proofs.Ytljdfanebjhhmaa
namespace Go.Proofs.Ytljdfanebjhhmaa
open Go Go.RowKit
set_option maxHeartbeats 1000000

theorem own_any (b o : Nat) (n c : Nat) (xs : List Int) (w : World) (hn : xs.length = n) (hbn : n ≤ 1048576) (hb : b < w.heap.size) (hc : ∀ i, i < xs.length → w.cell? ⟨b, o + i, none⟩ = some (.int .i64 (xs.getD i 0))) :
    Calls Try.prog 110 #[.slice (some ⟨b, o, none⟩) n c] w fun e w' => ∃ v, e = .returned v ∧ Below w.heap.size w w' ∧ w'.ownsRow w.heap.size 2 1 v n (ints xs) := by
  have HN := hide hn
  have hcc := cl_cells (obj := .cells #[] 2) hc hb
  have HC := hide hcc
  clear hn hc hcc
  obtain ⟨i0, hi, hz0, hz1, hz2⟩ := info_parts clInfo
  go_enter Try.func110, Try.ntmps110
  go_wp2_with (at_builtin; refine wpList_append_own _ rfl _ _ 33 rfl w.heap.size 2 i0 (.int .i64 0) 1 8 Try.underlying33 hi hz0 hz1 hz2 rfl (by decide) _ _ _ rfl (cl_empty w 2) ⟨b, o, none⟩ n c (ints xs) rfl ?c1 HC.out ?c2 ?c3 ?c4 ?c5 ?_)
  case c1 => rw [ints_length]; have := HN.out; omega
  case c2 => intro u hu; simp [ints] at hu; obtain ⟨_, _, rfl⟩ := hu; rfl
  case c3 => unfold maxLen; omega
  case c4 => omega
  case c5 => simp
  intro v' w1 hown' hgrow _
  have HO' := hide hown'
  have HG := hide hgrow
  clear hown' hgrow
  go_wp2_with fail
  go_ret
  have h := HO'.out
  have hB : Below w.heap.size w w1 := ((Below.refl _ _).alloc (Nat.le_refl _) _).grown HG.out (by simp) (fun g hg => ((cl_empty w 2).lt g hg).1)
  exact ⟨v', rfl, hB, h⟩
end Go.Proofs.Ytljdfanebjhhmaa
namespace Go.Proofs.Ytljdfanebjhhmaa
open Go Go.RowKit
set_option maxHeartbeats 1000000

theorem same_any (A B : Option Addr) (n c m d : Nat) (xs ys : List Int) (r : Bool) (w : World) (hn : xs.length = n) (hm : ys.length = m) (hb : n ≤ 9223372036854775807) (hb2 : m ≤ 9223372036854775807) (hx : Rd w A xs) (hy : Rd w B ys) (hr : r = true ↔ xs = ys) :
    Calls Try.prog 108 #[.slice A n c, .slice B m d] w fun e w' => e = .returned (.bool r) ∧ Quiet w w' := by
  have HN := hide hn
  have HM := hide hm
  have HR := hide hr
  clear hr
  by_cases hnm : n = m
  · subst hnm
    clear hn hm
    go_enter Try.func108, Try.ntmps108
    go_wp2_with fail
    go_loopw [5] (fun i wr => ∃ k : Nat, k ≤ n ∧ i = .int .i64 k ∧ Quiet w wr ∧ ∀ i, i < k → xs.getD i 0 = ys.getD i 0) (fun i _ => n - (intOf i).toNat)
    case atStart => exact ⟨0, Nat.zero_le _, rfl, Quiet.refl w, fun i hi => absurd hi (Nat.not_lt_zero _)⟩
    case round =>
      obtain ⟨k, hk, rfl, hq, hall⟩ := hrel
      have HQ := hide hq
      clear hq
      have HALL := hide hall
      clear hall
      by_cases hlt : k < n
      · obtain ⟨b, o, rfl, _, hc⟩ := HQ.out.rd hx (by have := HN.out; omega)
        obtain ⟨b2, o2, rfl, _, hc2⟩ := HQ.out.rd hy (by have := HM.out; omega)
        have h1 := hc k (by have := HN.out; omega)
        have h2 := hc2 k (by have := HM.out; omega)
        obtain ⟨x, hx⟩ : ∃ x, x = xs.getD k 0 := ⟨_, rfl⟩
        obtain ⟨y, hy⟩ : ∃ y, y = ys.getD k 0 := ⟨_, rfl⟩
        rw [← hx] at h1
        rw [← hy] at h2
        have HX := hide hx
        have HY := hide hy
        clear hx hy hc hc2
        have hltz : (k : Int) < n := by omega
        by_cases hxy : x = y
        · subst hxy
          go_wp2_with fail
          go_quiet (fail)
          go_wp2_with fail
          go_roundw
          case rel =>
            refine ⟨k + 1, by omega, by go_num, HQ.out.drewN _, fun i hi => ?_⟩
            by_cases e : i = k
            · subst e; rw [← HX.out]; exact HY.out
            · exact HALL.out i (by omega)
          case measure => simp [intOf]; omega
        · have hne : (x != y) = true := by simpa using hxy
          have HNE := hide hxy
          clear hxy
          go_wp2_with fail
          go_quiet (fail)
          go_wp2_with fail
          go_ret
          have : r = false := by
            cases r
            · rfl
            · have e := HR.out.1 rfl
              subst e
              exact absurd (HX.out.trans HY.out.symm) HNE.out
          exact ⟨by subst this; rfl, by first | exact HQ.out | exact HQ.out.drewN _ | exact Quiet.refl _⟩
      · have hkn : k = n := by omega
        subst hkn
        go_wp2_with fail
        go_ret
        have this := HR.out.2 (eqList xs ys (HN.out.trans HM.out.symm) (fun i hi => HALL.out i (by have := HN.out; omega)))
        exact ⟨by subst this; rfl, by first | exact HQ.out | exact HQ.out.drewN _ | exact Quiet.refl _⟩
  · have hne : ((n : Int) != (m : Int)) = true := by simp; omega
    have HNM := hide hnm
    clear hn hm hnm
    go_enter Try.func108, Try.ntmps108
    go_wp2_with fail
    go_ret
    have : r = false := by
      cases r
      · rfl
      · have e := HR.out.1 rfl
        subst e
        exact absurd (HN.out.symm.trans HM.out) HNM.out
    exact ⟨by subst this; rfl, by first | exact HQ.out | exact HQ.out.drewN _ | exact Quiet.refl _⟩

theorem less_any (A B : Option Addr) (n c d : Nat) (xs ys : List Int) (w : World) (hn : xs.length = n) (hm : ys.length = n) (hb : n ≤ 1048576) (hx : Rd w A xs) (hy : Rd w B ys) :
    Calls Try.prog 109 #[.slice A n c, .slice B n d] w fun e w' => e = .returned (.bool (lessL xs ys)) ∧ Quiet w w' := by
  have HN := hide hn
  have HM := hide hm
  clear hn hm
  go_enter Try.func109, Try.ntmps109
  go_wp2_with fail
  go_loopw [5] (fun i wr => ∃ k : Nat, k ≤ n ∧ i = .int .i64 k ∧ Quiet w wr ∧ lessL xs ys = lessL (xs.drop k) (ys.drop k)) (fun i _ => n - (intOf i).toNat)
  case atStart => exact ⟨0, Nat.zero_le _, rfl, Quiet.refl w, rfl⟩
  case round =>
    obtain ⟨k, hk, rfl, hq, hall⟩ := hrel
    have HQ := hide hq
    have HALL := hide hall
    clear hq hall
    by_cases hlt : k < n
    · obtain ⟨b, o, rfl, _, hc⟩ := HQ.out.rd hx (by have := HN.out; omega)
      obtain ⟨b2, o2, rfl, _, hc2⟩ := HQ.out.rd hy (by have := HM.out; omega)
      have h1 := hc k (by have := HN.out; omega)
      have h2 := hc2 k (by have := HM.out; omega)
      have e1 := drop_cons xs k (by have := HN.out; omega)
      have e2 := drop_cons ys k (by have := HM.out; omega)
      obtain ⟨x, hx⟩ : ∃ x, xs.getD k 0 = x := ⟨_, rfl⟩
      obtain ⟨y, hy⟩ : ∃ y, ys.getD k 0 = y := ⟨_, rfl⟩
      rw [hx] at h1 e1
      rw [hy] at h2 e2
      have E1 := hide e1
      have E2 := hide e2
      clear hx hy hc hc2 e1 e2
      have hltz : (k : Int) < n := by omega
      by_cases hxy : x = y
      · subst hxy
        go_wp2_with fail
        go_quiet (fail)
        go_wp2_with fail
        go_roundw
        case rel =>
          refine ⟨k + 1, by omega, by go_num, HQ.out.drewN _, ?_⟩
          rw [HALL.out, E1.out, E2.out, lessL, if_pos rfl]
        case measure => simp [intOf]; omega
      · have hne : (x != y) = true := by simpa using hxy
        have HNE := hide hxy
        clear hxy
        have hres : lessL xs ys = decide (x < y) := by
          rw [HALL.out, E1.out, E2.out, lessL, if_neg HNE.out]
        have HRES := hide hres
        clear hres
        go_wp2_with fail
        go_quiet (fail)
        go_wp2_with fail
        go_quiet (fail)
        go_wp2_with fail
        go_ret
        exact ⟨by rw [HRES.out]; rfl, (HQ.out.drewN _).drewN _⟩
    · have hkn : k = n := by omega
      subst hkn
      go_wp2_with fail
      go_ret
      have h := HALL.out
      rw [List.drop_of_length_le (by have := HN.out; omega), List.drop_of_length_le (by have := HM.out; omega)] at h
      exact ⟨by rw [h]; simp [lessL], HQ.out⟩
end Go.Proofs.Ytljdfanebjhhmaa
