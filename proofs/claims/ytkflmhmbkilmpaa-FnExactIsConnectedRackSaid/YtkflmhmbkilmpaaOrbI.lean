import Derived.Test.YtkflmhmbkilmpaaLabII
import Derived.Test.YtkflmhmbkilmpaaSysI
namespace Go.Proofs.Ytkflmhmbkilmpaa
open Go Go.RowKit
open Classical
set_option maxHeartbeats 2000000

def fillM (k : Nat) : Nat → Int := fun y => if y < k then -1 else 0
theorem fillM_step (n k : Nat) : ((List.range n).map (fillM k)).set k (-1) = (List.range n).map (fillM (k + 1)) := by
  apply List.ext_getElem
  · simp
  · intro y h1 h2
    rw [List.getElem_set]
    simp only [List.getElem_map, List.getElem_range]
    unfold fillM
    by_cases e : k = y
    · subst e; simp
    · rw [if_neg e]
      by_cases h : y < k
      · rw [if_pos h, if_pos (by omega)]
      · rw [if_neg h, if_neg (by omega)]

theorem orbWI_any (N : Int) (A : Option Addr) (m c : Nat) (rows : List (List Int)) (zs : List Int) (code : Int) (k : Nat) (w : World) (hlo : -9223372036854775808 ≤ N) (hhi : N ≤ 9223372036854775807) (hm : rows.length = m) (hb : m ≤ 1048576) (hbs : ∀ i, i < rows.length → (rows.getD i []).length ≤ 1048576) (hr : Rd2 w A rows) (hres : OrbRes N rows zs code) (hk : zs.length = k) :
    Calls Try.prog 61 #[.int .i64 N, .slice A m c] w (RPost 2 k zs code w) := by
  have HM := hide hm
  clear hm
  rcases hres with ⟨hs, rfl, rfl⟩ | ⟨hs, rfl, rfl⟩
  · obtain ⟨n, rfl⟩ := Int.eq_ofNat_of_zero_le (show 0 ≤ N by have := hs.1; omega)
    rw [labL_length, Int.toNat_natCast] at hk
    rw [Int.toNat_natCast]
    subst hk
    have h1 : 1 ≤ n := by have := hs.1; omega
    have h12 : n ≤ 12 := by have := hs.2.1; omega
    have h16 : m ≤ 16 := by have := hs.2.2.1; have := HM.out; omega
    have HG := hide hs.gens
    have HS := hide hs
    clear hs
    have hmk := run_make_row' (P := Try.prog) 31 2 (.int .i64 0) 8 Try.underlying31 liInfo rfl .i64 .i64 n (by omega) (by omega)
    go_enter Try.func61, Try.ntmps61
    go_wp2_with fail
    refine (isSystem_any _ _ _ _ rows true _ hlo hhi HM.out hb hbs hr (by simp [HS.out])).mono ?_
    rintro e w1 ⟨rfl, hb1⟩
    have HB1 := hide hb1
    have hs1 := hb1.size
    clear hb1
    go_wp2_with fail
    clear hmk
    obtain ⟨g, hg⟩ : ∃ g, w1.heap.size = g := ⟨_, rfl⟩
    have hg0 : w.heap.size ≤ g := by omega
    have hown0 : OwnB 2 (w1.alloc (.cells (madeCells #[.int .i64 0] n) 2)) g ((List.range n).map (fillM 0)) := by
      have h := (Row.made 2 w1 n).own
      have e : List.replicate n (0 : Int) = (List.range n).map (fillM 0) := by
        apply List.ext_getElem
        · simp
        · intro y h1 h2
          simp [fillM]
      rw [e, hg] at h
      exact h
    have hbe0 : Below w.heap.size w (w1.alloc (.cells (madeCells #[.int .i64 0] n) 2)) := HB1.out.alloc hs1 _
    have HO0 := hide hown0
    have HBE0 := hide hbe0
    clear hown0 hbe0
    rw [hg]
    clear hg
    go_loopw [18] (fun i wr => ∃ k : Nat, k ≤ n ∧ i = .int .i64 k ∧ Below w.heap.size w wr ∧ OwnB 2 wr g ((List.range n).map (fillM k))) (fun i _ => n - (intOf i).toNat)
    case atStart => exact ⟨0, Nat.zero_le _, rfl, HBE0.out, HO0.out⟩
    case round =>
      clear HO0 HBE0
      obtain ⟨k, hk, rfl, hbe, hown⟩ := hrel
      have HB := hide hbe
      have HO := hide hown
      clear hbe hown
      by_cases hlt : k < n
      · have hltz : (k : Int) < n := by omega
        have hc := HO.out.cell (i := k) (by simpa using hlt)
        have hf := HO.out.frozen k
        obtain ⟨old, hold⟩ : ∃ old, ((List.range n).map (fillM k)).getD k 0 = old := ⟨_, rfl⟩
        rw [hold] at hc
        clear hold
        go_wp2_with fail
        go_roundw
        case rel =>
          refine ⟨k + 1, by omega, by go_num, HB.out.setCell hg0 _, ?_⟩
          have h := HO.out.set k (-1) (by simpa using hlt)
          rw [fillM_step] at h
          exact h
        case measure => simp [intOf]; omega
      · have hkn : k = n := by omega
        subst hkn
        have hst : OwnB 2 wr g (labL rows k 0) := by
          have e : (List.range k).map (fillM k) = labL rows k 0 := by
            unfold labL
            refine List.map_congr_left (fun y hy => ?_)
            have hy' := List.mem_range.1 hy
            simp [fillM, lab, hy']
          have h := HO.out
          rwa [e] at h
        have HO1 := hide hst
        clear HO hst
        go_wp2_with fail
        go_loopw [8, 26] (fun nm i wr => ∃ x : Nat, x ≤ k ∧ i = .int .i64 x ∧ nm = .int .i64 (lab rows x).2 ∧ Below w.heap.size w wr ∧ OwnB 2 wr g (labL rows k x)) (fun _ i _ => k - (intOf i).toNat)
        case atStart => exact ⟨0, Nat.zero_le _, rfl, rfl, HB.out, HO1.out⟩
        case round =>
          clear HO1 HB
          obtain ⟨x, hxk, rfl, rfl, hbe, hown⟩ := hrel
          have HB := hide hbe
          have HO := hide hown
          clear hbe hown
          by_cases hlt : x < k
          · have hltz : (x : Int) < k := by omega
            have hcell := HO.out.cell (i := x) (by rw [labL_length]; exact hlt)
            rw [labL_at rows k x x hlt] at hcell
            have hnum := lab_le rows x
            obtain ⟨num, hnm⟩ : ∃ num, (lab rows x).2 = num := ⟨_, rfl⟩
            rw [hnm] at hnum ⊢
            have HNM := hide hnm
            obtain ⟨v, hv⟩ : ∃ v, (lab rows x).1 x = v := ⟨_, rfl⟩
            rw [hv] at hcell
            have HV := hide hv
            clear hv hnm
            by_cases hv0 : v < 0
            · have hst : lab rows (x + 1) = (fun y => if Rch rows x y then (num : Int) else (lab rows x).1 y, num + 1) := by
                rw [lab, if_neg (by rw [HV.out]; omega), HNM.out]
              have HST := hide hst
              clear hst
              go_wp2_with fail
              refine (labelOrbit_any g k _ m _ x _ rows num (lab rows x).1 w _ HM.out h16 h12 hlt (by omega) (by omega) (by rw [HV.out]; exact hv0) HG.out (fun y z hy hs => lab_closed HG.out x hxk y z hy hs) hr HB.out hg0 HO.out).mono ?_
              rintro e w2 ⟨rfl, hb2, how2⟩
              have HB2 := hide hb2
              have hfin : (List.range k).map (fun y => if Rch rows x y then (num : Int) else (lab rows x).1 y) = labL rows k (x + 1) := by
                unfold labL
                rw [HST.out]
              rw [hfin] at how2
              have HO2 := hide how2
              clear hb2 how2 hfin
              go_wp2_with fail
              go_roundw
              case rel => exact ⟨x + 1, by omega, by go_num, by rw [HST.out]; go_num, HB2.out, HO2.out⟩
              case measure => simp [intOf]; omega
            · have hst : lab rows (x + 1) = lab rows x := by
                rw [lab, if_pos (by rw [HV.out]; omega)]
              have HST := hide hst
              clear hst
              go_wp2_with fail
              go_roundw
              case rel => exact ⟨x + 1, by omega, by go_num, by rw [HST.out, HNM.out], HB.out, by unfold labL; rw [HST.out]; exact HO.out⟩
              case measure => simp [intOf]; omega
          · have hxk' : x = k := by omega
            subst hxk'
            go_wp2_with fail
            go_ret2
            exact ⟨_, _, rfl, HB.out, .inr ⟨g, rfl, hg0, HO.out⟩⟩
  · obtain rfl : k = 0 := by simpa using hk.symm
    have HS := hide hs
    clear hs hk
    go_enter Try.func61, Try.ntmps61
    go_wp2_with fail
    refine (isSystem_any _ _ _ _ rows false _ hlo hhi HM.out hb hbs hr (by simp [HS.out])).mono ?_
    rintro e w1 ⟨rfl, hb1⟩
    have HB1 := hide hb1
    clear hb1
    go_wp2_with fail
    go_ret2
    exact ⟨_, _, rfl, HB1.out, .inl ⟨rfl, rfl⟩⟩
end Go.Proofs.Ytkflmhmbkilmpaa
