import Derived.Test.YtaejgmdeiemhcaaZah
import Derived.Test.YtaejgmdeiemhcaaZl
import Derived.Test.YtaejgmdeiemhcaaZh
import Derived.Test.YtaejgmdeiemhcaaProg
namespace Go.Proofs.Ytaejgmdeiemhcaa
open Go Go.RowKit
open Classical
set_option maxHeartbeats 2000000

def fillM (k : Nat) : Nat → Int := fun y => if y < k then -1 else 0
theorem fillM_step (n k : Nat) : ((List.range n).map (fillM k)).set k (-1) = (List.range n).map (fillM (k + 1)) := by
  apply List.ext_getElem
  · simp
  · intro y h1 h2
    rw [List.getElem_set]
    simp only [List.getElem_map, List.getElem_range]
    unfold fillM
    by_cases e : k = y
    · subst e; simp
    · rw [if_neg e]
      by_cases h : y < k
      · rw [if_pos h, if_pos (by omega)]
      · rw [if_neg h, if_neg (by omega)]

set_option maxRecDepth 20000 in
theorem orbL_any (A : Option Addr) (m c n : Nat) (rows : List (List Int)) (w : World) (hm : rows.length = m) (h16 : m ≤ 64) (h1 : 1 ≤ n) (h12 : n ≤ 12) (hg : Gens rows n) (hr : Rd2 w A rows) :
    Calls Try.prog 100 #[.int .i64 n, .slice A m c] w fun e w' => ∃ g c', e = .returned (.slice (some ⟨g, 0, none⟩) n c') ∧ Below w.heap.size w w' ∧ w.heap.size ≤ g ∧ OwnB 2 w' g (labL rows n n) := by
  have HM := hide hm
  have HG := hide hg
  have HB1 := hide (Below.refl w.heap.size w)
  clear hm hg
  have hmk := run_make_row' (P := Try.prog) 37 2 (.int .i64 0) 8 Try.underlying37 liInfo rfl .i64 .i64 n (by omega) (by omega)
  obtain ⟨w1, hw1⟩ : ∃ w1, w1 = w := ⟨_, rfl⟩
  have hs1 : w.heap.size ≤ w1.heap.size := by rw [hw1]; exact Nat.le_refl _
  replace HB1 : Hid (Below w.heap.size w w1) := hide (by rw [hw1]; exact HB1.out)
  have HW1 := hide hw1
  refine (show Calls _ _ _ w1 _ → Calls _ _ _ w _ from fun h => hw1 ▸ h) ?_
  clear hw1
  go_enter Try.func100, Try.ntmps100
  go_wp2_with fail
  clear hmk
  obtain ⟨g, hg⟩ : ∃ g, w1.heap.size = g := ⟨_, rfl⟩
  have hg0 : w.heap.size ≤ g := by omega
  have hown0 : OwnB 2 (w1.alloc (.cells (madeCells #[.int .i64 0] n) 2)) g ((List.range n).map (fillM 0)) := by
    have h := (Row.made 2 w1 n).own
    have e : List.replicate n (0 : Int) = (List.range n).map (fillM 0) := by
      apply List.ext_getElem
      · simp
      · intro y h1 h2
        simp [fillM]
    rw [e, hg] at h
    exact h
  have hbe0 : Below w.heap.size w (w1.alloc (.cells (madeCells #[.int .i64 0] n) 2)) := HB1.out.alloc hs1 _
  have HO0 := hide hown0
  have HBE0 := hide hbe0
  clear hown0 hbe0
  rw [hg]
  clear hg
  go_loopw [13] (fun i wr => ∃ k : Nat, k ≤ n ∧ i = .int .i64 k ∧ Below w.heap.size w wr ∧ OwnB 2 wr g ((List.range n).map (fillM k))) (fun i _ => n - (intOf i).toNat)
  case atStart => exact ⟨0, Nat.zero_le _, rfl, HBE0.out, HO0.out⟩
  case round =>
    clear HO0 HBE0
    obtain ⟨k, hk, rfl, hbe, hown⟩ := hrel
    have HB := hide hbe
    have HO := hide hown
    clear hbe hown
    by_cases hlt : k < n
    · have hltz : (k : Int) < n := by omega
      have hc := HO.out.cell (i := k) (by simpa using hlt)
      have hf := HO.out.frozen k
      obtain ⟨old, hold⟩ : ∃ old, ((List.range n).map (fillM k)).getD k 0 = old := ⟨_, rfl⟩
      rw [hold] at hc
      clear hold
      go_wp2_with fail
      go_roundw
      case rel =>
        refine ⟨k + 1, by omega, by go_num, HB.out.setCell hg0 _, ?_⟩
        have h := HO.out.set k (-1) (by simpa using hlt)
        rw [fillM_step] at h
        exact h
      case measure => simp [intOf]; omega
    · have hkn : k = n := by omega
      subst hkn
      have hst : OwnB 2 wr g (labL rows k 0) := by
        have e : (List.range k).map (fillM k) = labL rows k 0 := by
          unfold labL
          refine List.map_congr_left (fun y hy => ?_)
          have hy' := List.mem_range.1 hy
          simp [fillM, lab, hy']
        have h := HO.out
        rwa [e] at h
      have HO1 := hide hst
      clear HO hst
      go_wp2_with fail
      go_loopw [7, 21] (fun nm i wr => ∃ x : Nat, x ≤ k ∧ i = .int .i64 x ∧ nm = .int .i64 (lab rows x).2 ∧ Below w.heap.size w wr ∧ OwnB 2 wr g (labL rows k x)) (fun _ i _ => k - (intOf i).toNat)
      case atStart => exact ⟨0, Nat.zero_le _, rfl, rfl, HB.out, HO1.out⟩
      case round =>
        clear HO1 HB
        obtain ⟨x, hxk, rfl, rfl, hbe, hown⟩ := hrel
        have HB := hide hbe
        have HO := hide hown
        clear hbe hown
        by_cases hlt : x < k
        · have hltz : (x : Int) < k := by omega
          have hcell := HO.out.cell (i := x) (by rw [labL_length]; exact hlt)
          rw [labL_at rows k x x hlt] at hcell
          have hnum := lab_le rows x
          obtain ⟨num, hnm⟩ : ∃ num, (lab rows x).2 = num := ⟨_, rfl⟩
          rw [hnm] at hnum ⊢
          have HNM := hide hnm
          obtain ⟨v, hv⟩ : ∃ v, (lab rows x).1 x = v := ⟨_, rfl⟩
          rw [hv] at hcell
          have HV := hide hv
          clear hv hnm
          by_cases hv0 : v < 0
          · have hst : lab rows (x + 1) = (fun y => if Rch rows x y then (num : Int) else (lab rows x).1 y, num + 1) := by
              rw [lab, if_neg (by rw [HV.out]; omega), HNM.out]
            have HST := hide hst
            clear hst
            go_wp2_with fail
            refine (labelOrbit_any g k _ m _ x _ rows num (lab rows x).1 w _ HM.out h16 h12 hlt (by omega) (by omega) (by rw [HV.out]; exact hv0) HG.out (fun y z hy hs => lab_closed HG.out x hxk y z hy hs) hr HB.out hg0 HO.out).mono ?_
            rintro e w2 ⟨rfl, hb2, how2⟩
            have HB2 := hide hb2
            have hfin : (List.range k).map (fun y => if Rch rows x y then (num : Int) else (lab rows x).1 y) = labL rows k (x + 1) := by
              unfold labL
              rw [HST.out]
            rw [hfin] at how2
            have HO2 := hide how2
            clear hb2 how2 hfin
            go_wp2_with fail
            go_roundw
            case rel => exact ⟨x + 1, by omega, by go_num, by rw [HST.out]; go_num, HB2.out, HO2.out⟩
            case measure => simp [intOf]; omega
          · have hst : lab rows (x + 1) = lab rows x := by
              rw [lab, if_pos (by rw [HV.out]; omega)]
            have HST := hide hst
            clear hst
            go_wp2_with fail
            go_roundw
            case rel => exact ⟨x + 1, by omega, by go_num, by rw [HST.out, HNM.out], HB.out, by unfold labL; rw [HST.out]; exact HO.out⟩
            case measure => simp [intOf]; omega
        · have hxk' : x = k := by omega
          subst hxk'
          go_wp2_with fail
          go_ret
          obtain rfl := HW1.out
          exact ⟨_, _, rfl, HB.out, hg0, HO.out⟩
end Go.Proofs.Ytaejgmdeiemhcaa
namespace Go.Proofs.Ytaejgmdeiemhcaa
open Go Go.RowKit
open Classical
def CnF (f : List (List Int)) : Prop := ∀ y, y < f.length → (labL f f.length f.length).getD y 0 = 0
def CnRes (f : List (List Int)) : Bool → Int → Prop := BRes (Rck f) (CnF f)
theorem CnRes.ex (f : List (List Int)) : ∃ r code, CnRes f r code := BRes.ex _ _
theorem lab_set (rows : List (List Int)) (k : Nat) : ∀ y, y < k → 0 ≤ (lab rows k).1 y := by
  induction k with
  | zero => intro y hy; omega
  | succ k ih =>
    intro y hy
    unfold lab
    by_cases h : 0 ≤ (lab rows k).1 k
    · rw [if_pos h]
      by_cases e : y = k
      · rw [e]; exact h
      · exact ih y (by omega)
    · rw [if_neg h]
      show 0 ≤ (if Rch rows k y then ((lab rows k).2 : Int) else (lab rows k).1 y)
      by_cases hr : Rch rows k y
      · rw [if_pos hr]; omega
      · rw [if_neg hr]
        by_cases e : y = k
        · subst e; exact absurd .start hr
        · exact ih y (by omega)
/-- The greatest number of a list. -/
def IsMax (xs : List Int) (m : Int) : Prop := (∃ i, i < xs.length ∧ xs.getD i 0 = m) ∧ ∀ i, i < xs.length → xs.getD i 0 ≤ m
theorem IsMax.ex (xs : List Int) (h : 1 ≤ xs.length) : ∃ m, IsMax xs m := by
  have key : ∀ k, 1 ≤ k → k ≤ xs.length → ∃ m, (∃ i, i < k ∧ xs.getD i 0 = m) ∧ ∀ i, i < k → xs.getD i 0 ≤ m := by
    intro k h1
    induction k with
    | zero => omega
    | succ k ih =>
      intro hk
      by_cases e : k = 0
      · subst e
        exact ⟨_, ⟨0, by omega, rfl⟩, fun i hi => by
          have e : i = 0 := by omega
          subst e
          exact Int.le_refl _⟩
      · obtain ⟨m, ⟨i, hi, hm⟩, hall⟩ := ih (by omega) (by omega)
        by_cases h2 : xs.getD k 0 ≤ m
        · exact ⟨m, ⟨i, by omega, hm⟩, fun j hj => by
            by_cases e : j = k
            · subst e; exact h2
            · exact hall j (by omega)⟩
        · exact ⟨xs.getD k 0, ⟨k, by omega, rfl⟩, fun j hj => by
            by_cases e : j = k
            · subst e; exact Int.le_refl _
            · have := hall j (by omega); omega⟩
  obtain ⟨m, ⟨i, hi, hm⟩, hall⟩ := key xs.length h (Nat.le_refl _)
  exact ⟨m, ⟨i, hi, hm⟩, hall⟩
theorem max_zero {f : List (List Int)} {m : Int} (h : IsMax (labL f f.length f.length) m) : m = 0 ↔ CnF f := by
  obtain ⟨⟨i, hi, hm⟩, hall⟩ := h
  rw [labL_length] at hi hall
  constructor
  · intro e y hy
    have h1 := hall y hy
    have h2 := lab_set f f.length y hy
    rw [← labL_at f f.length f.length y hy] at h2
    omega
  · intro hc
    rw [← hm, hc i hi]
end Go.Proofs.Ytaejgmdeiemhcaa
namespace Go.Proofs.Ytaejgmdeiemhcaa
open Go Go.RowKit
open Classical
set_option maxHeartbeats 1000000

def gI (xs : List Int) : Nat → Int
  | 0 => 0
  | i + 1 => if gI xs i ≤ xs.getD i 0 then xs.getD i 0 + 1 else gI xs i
theorem gI_low (xs : List Int) (i : Nat) : ∀ j, j < i → xs.getD j 0 < gI xs i := by
  induction i with
  | zero => intro j hj; omega
  | succ i ih =>
    intro j hj
    unfold gI
    by_cases e : j = i
    · subst e; split <;> omega
    · have := ih j (by omega)
      split <;> omega
theorem gI_hit (xs : List Int) (i : Nat) : gI xs i = 0 ∨ ∃ j, j < i ∧ xs.getD j 0 + 1 = gI xs i := by
  induction i with
  | zero => exact .inl rfl
  | succ i ih =>
    unfold gI
    split
    · exact .inr ⟨i, by omega, rfl⟩
    · rcases ih with h | ⟨j, hj, e⟩
      · exact .inl h
      · exact .inr ⟨j, by omega, e⟩
theorem gI_range (xs : List Int) (i : Nat) (h : ∀ j, j < i → xs.getD j 0 ≤ 12) : 0 ≤ gI xs i ∧ gI xs i ≤ 13 := by
  induction i with
  | zero => simp [gI]
  | succ i ih =>
    have := ih (fun j hj => h j (by omega))
    have := h i (by omega)
    unfold gI
    split <;> omega
theorem gI_lab (rows : List (List Int)) (n : Nat) (hg : Gens rows n) : gI (labL rows n n) n = ((lab rows n).2 : Int) := by
  have hok := lab_ok rows n n hg (Nat.le_refl _)
  have hlow := gI_low (labL rows n n) n
  have h1 : ((lab rows n).2 : Int) ≤ gI (labL rows n n) n := by
    rcases Nat.eq_zero_or_pos (lab rows n).2 with h | h
    · rw [h]
      rcases gI_hit (labL rows n n) n with e | ⟨j, hj, e⟩
      · omega
      · have := hok.all j hj
        rw [labL_at rows n n j hj] at e
        omega
    · obtain ⟨y, hy, e⟩ := hok.onto ((lab rows n).2 - 1) (by omega)
      have := hlow y hy
      rw [labL_at rows n n y hy, e] at this
      omega
  rcases gI_hit (labL rows n n) n with e | ⟨j, hj, e⟩
  · omega
  · rw [labL_at rows n n j hj] at e
    have := hok.lt j
    omega

theorem greatest_any (A : Option Addr) (n c : Nat) (xs : List Int) (v : Int) (w : World) (hn : xs.length = n) (hb : n ≤ 1048576) (hr : Rd w A xs) (hx : ∀ j, j < n → xs.getD j 0 ≤ 12) (hv : gI xs n = v) :
    Calls Try.prog 70 #[.slice A n c] w fun e w' => e = .returned (.int .i64 v) ∧ Quiet w w' := by
  have HN := hide hn
  have HX := hide hx
  have HV := hide hv
  clear hn hx hv
  go_enter Try.func70, Try.ntmps70
  go_wp2_with fail
  go_loopw [3, 4] (fun o i wr => ∃ k : Nat, k ≤ n ∧ i = .int .i64 k ∧ o = .int .i64 (gI xs k) ∧ Quiet w wr) (fun _ i _ => n - (intOf i).toNat)
  case atStart => exact ⟨0, Nat.zero_le _, rfl, rfl, Quiet.refl _⟩
  case round =>
    obtain ⟨k, hk, rfl, rfl, hq⟩ := hrel
    have HQ := hide hq
    clear hq
    have hrange := gI_range xs k (fun j hj => HX.out j (by omega))
    by_cases hlt : k < n
    · have hltz : (k : Int) < n := by omega
      obtain ⟨b, o, rfl, _, hc⟩ := HQ.out.rd hr (by have := HN.out; omega)
      have hc1 := hc k (by have := HN.out; omega)
      have hx12 := HX.out k hlt
      have hs : gI xs (k + 1) = if gI xs k ≤ xs.getD k 0 then xs.getD k 0 + 1 else gI xs k := rfl
      obtain ⟨x, hx⟩ : ∃ x, xs.getD k 0 = x := ⟨_, rfl⟩
      obtain ⟨m, hm⟩ : ∃ m, gI xs k = m := ⟨_, rfl⟩
      rw [hx] at hc1 hx12 hs
      rw [hm] at hrange hs ⊢
      have HS := hide hs
      clear hc hx hm hs
      by_cases hxm : m ≤ x
      · have hs2 : gI xs (k + 1) = x + 1 := by rw [HS.out, if_pos hxm]
        have HS2 := hide hs2
        clear hs2
        go_wp2_with fail
        go_roundw
        case rel => exact ⟨k + 1, by omega, by go_num, by rw [HS2.out], HQ.out⟩
        case measure => simp [intOf]; omega
      · have hs2 : gI xs (k + 1) = m := by rw [HS.out, if_neg hxm]
        have HS2 := hide hs2
        clear hs2
        go_wp2_with fail
        go_roundw
        case rel => exact ⟨k + 1, by omega, by go_num, by rw [HS2.out], HQ.out⟩
        case measure => simp [intOf]; omega
    · have hkn : k = n := by omega
      subst hkn
      rw [HV.out]
      go_wp2_with fail
      go_ret
      exact ⟨rfl, HQ.out⟩
end Go.Proofs.Ytaejgmdeiemhcaa
