import Derived.Test.YtkagfjofjbpfeaaZau
namespace Go.Proofs.Ytkagfjofjbpfeaa
open Go Go.RowKit
open Classical
set_option maxHeartbeats 2000000

def fillM (k : Nat) : Nat → Int := fun y => if y < k then -1 else 0
theorem fillM_step (n k : Nat) : ((List.range n).map (fillM k)).set k (-1) = (List.range n).map (fillM (k + 1)) := by
  apply List.ext_getElem
  · simp
  · intro y h1 h2
    rw [List.getElem_set]
    simp only [List.getElem_map, List.getElem_range]
    unfold fillM
    by_cases e : k = y
    · subst e; simp
    · rw [if_neg e]
      by_cases h : y < k
      · rw [if_pos h, if_pos (by omega)]
      · rw [if_neg h, if_neg (by omega)]

set_option maxRecDepth 20000 in
theorem orbL_any (A : Option Addr) (m c n : Nat) (rows : List (List Int)) (w : World) (hm : rows.length = m) (h16 : m ≤ 64) (h1 : 1 ≤ n) (h12 : n ≤ 12) (hg : Gens rows n) (hr : Rd2 w A rows) :
    Calls Try.prog 117 #[.int .i64 n, .slice A m c] w fun e w' => ∃ g c', e = .returned (.slice (some ⟨g, 0, none⟩) n c') ∧ Below w.heap.size w w' ∧ w.heap.size ≤ g ∧ OwnB 2 w' g (labL rows n n) := by
  have HM := hide hm
  have HG := hide hg
  have HB1 := hide (Below.refl w.heap.size w)
  clear hm hg
  have hmk := run_make_row' (P := Try.prog) 31 2 (.int .i64 0) 8 Try.underlying31 liInfo rfl .i64 .i64 n (by omega) (by omega)
  obtain ⟨w1, hw1⟩ : ∃ w1, w1 = w := ⟨_, rfl⟩
  have hs1 : w.heap.size ≤ w1.heap.size := by rw [hw1]; exact Nat.le_refl _
  replace HB1 : Hid (Below w.heap.size w w1) := hide (by rw [hw1]; exact HB1.out)
  have HW1 := hide hw1
  refine (show Calls _ _ _ w1 _ → Calls _ _ _ w _ from fun h => hw1 ▸ h) ?_
  clear hw1
  go_enter Try.func117, Try.ntmps117
  go_wp2_with fail
  clear hmk
  obtain ⟨g, hg⟩ : ∃ g, w1.heap.size = g := ⟨_, rfl⟩
  have hg0 : w.heap.size ≤ g := by omega
  have hown0 : OwnB 2 (w1.alloc (.cells (madeCells #[.int .i64 0] n) 2)) g ((List.range n).map (fillM 0)) := by
    have h := (Row.made 2 w1 n).own
    have e : List.replicate n (0 : Int) = (List.range n).map (fillM 0) := by
      apply List.ext_getElem
      · simp
      · intro y h1 h2
        simp [fillM]
    rw [e, hg] at h
    exact h
  have hbe0 : Below w.heap.size w (w1.alloc (.cells (madeCells #[.int .i64 0] n) 2)) := HB1.out.alloc hs1 _
  have HO0 := hide hown0
  have HBE0 := hide hbe0
  clear hown0 hbe0
  rw [hg]
  clear hg
  go_loopw [13] (fun i wr => ∃ k : Nat, k ≤ n ∧ i = .int .i64 k ∧ Below w.heap.size w wr ∧ OwnB 2 wr g ((List.range n).map (fillM k))) (fun i _ => n - (intOf i).toNat)
  case atStart => exact ⟨0, Nat.zero_le _, rfl, HBE0.out, HO0.out⟩
  case round =>
    clear HO0 HBE0
    obtain ⟨k, hk, rfl, hbe, hown⟩ := hrel
    have HB := hide hbe
    have HO := hide hown
    clear hbe hown
    by_cases hlt : k < n
    · have hltz : (k : Int) < n := by omega
      have hc := HO.out.cell (i := k) (by simpa using hlt)
      have hf := HO.out.frozen k
      obtain ⟨old, hold⟩ : ∃ old, ((List.range n).map (fillM k)).getD k 0 = old := ⟨_, rfl⟩
      rw [hold] at hc
      clear hold
      go_wp2_with fail
      go_roundw
      case rel =>
        refine ⟨k + 1, by omega, by go_num, HB.out.setCell hg0 _, ?_⟩
        have h := HO.out.set k (-1) (by simpa using hlt)
        rw [fillM_step] at h
        exact h
      case measure => simp [intOf]; omega
    · have hkn : k = n := by omega
      subst hkn
      have hst : OwnB 2 wr g (labL rows k 0) := by
        have e : (List.range k).map (fillM k) = labL rows k 0 := by
          unfold labL
          refine List.map_congr_left (fun y hy => ?_)
          have hy' := List.mem_range.1 hy
          simp [fillM, lab, hy']
        have h := HO.out
        rwa [e] at h
      have HO1 := hide hst
      clear HO hst
      go_wp2_with fail
      go_loopw [7, 21] (fun nm i wr => ∃ x : Nat, x ≤ k ∧ i = .int .i64 x ∧ nm = .int .i64 (lab rows x).2 ∧ Below w.heap.size w wr ∧ OwnB 2 wr g (labL rows k x)) (fun _ i _ => k - (intOf i).toNat)
      case atStart => exact ⟨0, Nat.zero_le _, rfl, rfl, HB.out, HO1.out⟩
      case round =>
        clear HO1 HB
        obtain ⟨x, hxk, rfl, rfl, hbe, hown⟩ := hrel
        have HB := hide hbe
        have HO := hide hown
        clear hbe hown
        by_cases hlt : x < k
        · have hltz : (x : Int) < k := by omega
          have hcell := HO.out.cell (i := x) (by rw [labL_length]; exact hlt)
          rw [labL_at rows k x x hlt] at hcell
          have hnum := lab_le rows x
          obtain ⟨num, hnm⟩ : ∃ num, (lab rows x).2 = num := ⟨_, rfl⟩
          rw [hnm] at hnum ⊢
          have HNM := hide hnm
          obtain ⟨v, hv⟩ : ∃ v, (lab rows x).1 x = v := ⟨_, rfl⟩
          rw [hv] at hcell
          have HV := hide hv
          clear hv hnm
          by_cases hv0 : v < 0
          · have hst : lab rows (x + 1) = (fun y => if Rch rows x y then (num : Int) else (lab rows x).1 y, num + 1) := by
              rw [lab, if_neg (by rw [HV.out]; omega), HNM.out]
            have HST := hide hst
            clear hst
            go_wp2_with fail
            refine (labelOrbit_any g k _ m _ x _ rows num (lab rows x).1 w _ HM.out h16 h12 hlt (by omega) (by omega) (by rw [HV.out]; exact hv0) HG.out (fun y z hy hs => lab_closed HG.out x hxk y z hy hs) hr HB.out hg0 HO.out).mono ?_
            rintro e w2 ⟨rfl, hb2, how2⟩
            have HB2 := hide hb2
            have hfin : (List.range k).map (fun y => if Rch rows x y then (num : Int) else (lab rows x).1 y) = labL rows k (x + 1) := by
              unfold labL
              rw [HST.out]
            rw [hfin] at how2
            have HO2 := hide how2
            clear hb2 how2 hfin
            go_wp2_with fail
            go_roundw
            case rel => exact ⟨x + 1, by omega, by go_num, by rw [HST.out]; go_num, HB2.out, HO2.out⟩
            case measure => simp [intOf]; omega
          · have hst : lab rows (x + 1) = lab rows x := by
              rw [lab, if_pos (by rw [HV.out]; omega)]
            have HST := hide hst
            clear hst
            go_wp2_with fail
            go_roundw
            case rel => exact ⟨x + 1, by omega, by go_num, by rw [HST.out, HNM.out], HB.out, by unfold labL; rw [HST.out]; exact HO.out⟩
            case measure => simp [intOf]; omega
        · have hxk' : x = k := by omega
          subst hxk'
          go_wp2_with fail
          go_ret
          obtain rfl := HW1.out
          exact ⟨_, _, rfl, HB.out, hg0, HO.out⟩
end Go.Proofs.Ytkagfjofjbpfeaa
