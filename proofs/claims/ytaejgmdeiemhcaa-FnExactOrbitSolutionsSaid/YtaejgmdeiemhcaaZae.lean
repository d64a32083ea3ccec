import Derived.Test.YtaejgmdeiemhcaaProg
import Derived.Test.YtaejgmdeiemhcaaZj
import Derived.Test.YtaejgmdeiemhcaaZb
import Derived.Deep.RegionLaw
import Derived.Deep.AppendLies
namespace Go.Proofs.Ytaejgmdeiemhcaa
open Go Go.RowKit
set_option maxHeartbeats 2000000

theorem orInfo : (Try.prog.info? 2).map (fun i => (i.zero, i.size, i.bytes)) = some (some (.int .i64 0), 1, 8) := by kernel_rfl
theorem or_new {w : World} {v : Value} : ∀ j u, [v][j]? = some u → (w.alloc (.cells #[v] 2)).cell? ((⟨w.heap.size, 0, none⟩ : Addr).add j) = some u := by
  intro j u hj
  match j, hj with
  | 0, hj => simp at hj; subst hj; simp [Addr.add, World.cell?_alloc_new]
theorem own_one (w : World) (t : TypeId) (v : Value) : (w.alloc (.cells #[v] t)).ownsRow w.heap.size t 1 (.slice (some ⟨w.heap.size, 0, none⟩) 1 1) 1 [v] :=
  ⟨by simp, .inr ⟨w.heap.size, 1, #[v], rfl, Nat.le_refl _, heap_alloc_new _ _, Nat.le_refl _, by unfold maxLen; omega, by simp, by simp⟩⟩

set_option maxRecDepth 20000 in
theorem l01Orbit_any (A : Option Addr) (m c n x : Nat) (rows : List (List Int)) (w : World) (hm : rows.length = m) (hb : m ≤ 64) (hn : n ≤ 12) (hxn : x < n) (hls : ∀ i, i < m → (rows.getD i []).length = n) (hin : ∀ i j, i < m → j < n → 0 ≤ (rows.getD i []).getD j 0 ∧ (rows.getD i []).getD j 0 < (n : Int)) (hr : Rd2 w A rows) :
    Calls Try.prog 124 #[.slice A m c, .int .i64 x] w fun e w' => ∃ A' c' out, e = .returned (.slice A' out.length c') ∧ Below w.heap.size w w' ∧ Res 2 w.heap.size w' A' out ∧ OInv rows n x out out.length := by
  have HM := hide hm
  have HLS := hide hls
  have HIN := hide hin
  clear hm hls hin
  obtain ⟨i0, hi, hz0, hz1, hz2⟩ := info_parts orInfo
  have HST := hide (OInv.start rows n x hxn)
  go_enter Try.func124, Try.ntmps124
  go_wp2_with fail
  go_loopw [5, 6] (fun v i wr => ∃ (out : List Int) (j : Nat), i = .int .i64 j ∧ Below w.heap.size w wr ∧ w.heap.size ≤ wr.heap.size ∧ wr.ownsRow w.heap.size 2 1 v out.length (ints out) ∧ OInv rows n x out j) (fun _ i _ => n - (intOf i).toNat)
  case atStart => exact ⟨[(x : Int)], 0, rfl, (Below.refl _ _).alloc (Nat.le_refl _) _, by simp, own_one w _ _, HST.out⟩
  case round =>
    obtain ⟨out, j, rfl, hbe, hsz, hown, hinv⟩ := hrel
    have HB := hide hbe
    have HO := hide hown
    have HI := hide hinv
    have hjl := hinv.le
    have hmost := hinv.most
    obtain ⟨A5, c5, hv, hres⟩ := own_shape hown
    subst hv
    clear hbe hown hinv hres
    obtain ⟨L, hL⟩ : ∃ L, out.length = L := ⟨_, rfl⟩
    have HL := hide hL
    rw [hL] at hjl hmost ⊢
    clear hL
    by_cases hlt : j < L
    · have hltz : (j : Int) < L := by omega
      go_wp2_with fail
      obtain ⟨wo, rfl⟩ : ∃ wo : World, wo = wr := ⟨_, rfl⟩
      go_loopw [5, 7] (fun v k wi => ∃ (out : List Int) (q : Nat), q ≤ m ∧ k = .int .i64 q ∧ Below w.heap.size w wi ∧ w.heap.size ≤ wi.heap.size ∧ wi.ownsRow w.heap.size 2 1 v out.length (ints out) ∧ OInv rows n x out j ∧ j < out.length ∧ ∀ r, r < q → (rows.getD r []).getD (out.getD j 0).toNat 0 ∈ out) (fun _ k _ => m - (intOf k).toNat)
      case atStart => exact ⟨out, 0, Nat.zero_le _, rfl, HB.out, hsz, by rw [HL.out]; have := HO.out; rw [HL.out] at this; exact this, HI.out, by have := HL.out; omega, fun r hr => absurd hr (Nat.not_lt_zero _)⟩
      case round =>
        clear HO HB HI hsz hjl hmost hlt hltz HL
        obtain ⟨out, q, hq, rfl, hbe, hsz, hown, hinv, hjl, hall⟩ := hrel
        have HB := hide hbe
        have HO := hide hown
        have HI := hide hinv
        have HALL := hide hall
        have hmost := hinv.most
        obtain ⟨A5, c5, hv, hres⟩ := own_shape hown
        subst hv
        have HRD := hide hres.rd
        clear hbe hown hinv hres hall
        obtain ⟨L, hL⟩ : ∃ L, out.length = L := ⟨_, rfl⟩
        have HL := hide hL
        rw [hL] at hjl hmost ⊢
        clear hL
        by_cases hltq : q < m
        · have hltqz : (q : Int) < m := by omega
          have hjlz : (j : Int) < L := by omega
          obtain ⟨b, o, rfl, hbw, hc⟩ := hr (by have := HM.out; omega)
          obtain ⟨Aq, cq, hcell, hrq⟩ := hc q (by have := HM.out; omega)
          have hlq := HLS.out q hltq
          rw [hlq] at hcell
          have hcell' : wr.cell? ⟨b, o + q, none⟩ = some (.slice Aq n cq) := (HB.out.cell (p := ⟨b, o + q, none⟩) hbw).trans hcell
          obtain ⟨b2, o2, rfl, hbw2, hc2⟩ := HRD.out (by have := HL.out; omega)
          have hcj := hc2 j (by have := HL.out; omega)
          have hmem : out.getD j 0 ∈ out := by have : j < out.length := (by have := HL.out; omega); simp [this]
          have hrg := HI.out.rng _ hmem
          obtain ⟨y, hy⟩ := Int.eq_ofNat_of_zero_le hrg.1
          rw [hy] at hcj hrg
          have HY := hide hy
          have hyn : y < n := by have := hrg.2; omega
          obtain ⟨b3, o3, rfl, hbw3, hc3⟩ := hrq (by omega)
          have hcz : wr.cell? ⟨b3, o3 + y, none⟩ = some (.int .i64 ((rows.getD q []).getD y 0)) := (HB.out.cell (p := ⟨b3, o3 + y, none⟩) hbw3).trans (hc3 y (by omega))
          have hzr := HIN.out q y hltq hyn
          obtain ⟨z, hz⟩ : ∃ z, (rows.getD q []).getD y 0 = z := ⟨_, rfl⟩
          rw [hz] at hcz hzr
          have HZ := hide hz
          have HZR := hide hzr
          have hynz : (y : Int) < n := by omega
          clear hc hcell hlq hc2 hmem hy hrg hc3 hz hzr hrq
          by_cases hmz : z ∈ out
          · have HMZ := hide hmz
            clear hmz
            go_wp2_with fail
            go_quiet ((go_at_call 150; exact quiet_call (has_any _ _ _ out z true _ HL.out (by omega) HRD.out (by simp [HMZ.out]))))
            go_wp2_with fail
            go_roundw
            case rel =>
              refine ⟨out, q + 1, by omega, by go_num, HB.out.trans ((show Quiet wr (wr.drewN nq) from ⟨nq, rfl⟩).below w.heap.size), hsz, ?_, HI.out, by have := HL.out; omega, fun r hr => ?_⟩
              · have := HO.out; rw [HL.out] at this ⊢; exact this
              · by_cases e : r = q
                · subst e; rw [HY.out, Int.toNat_natCast, HZ.out]; exact HMZ.out
                · exact HALL.out r (by omega)
            case measure => simp [intOf]; omega
          · have HMZ := hide hmz
            clear hmz
            go_wp2_with fail
            go_quiet ((go_at_call 150; exact quiet_call (has_any _ _ _ out z false _ HL.out (by omega) HRD.out (by simp [HMZ.out]))))
            obtain ⟨w5, hw5⟩ : ∃ w5, wr.drewN nq = w5 := ⟨_, rfl⟩
            have h1' : w5.cell? ⟨b, o + q, none⟩ = some (.slice (some ⟨b3, o3, none⟩) n cq) := by subst hw5; exact hcell'
            have h2' : w5.cell? ⟨b2, o2 + j, none⟩ = some (.int .i64 y) := by subst hw5; exact hcj
            have h3' : w5.cell? ⟨b3, o3 + y, none⟩ = some (.int .i64 z) := by subst hw5; exact hcz
            have HO5 : Hid (w5.ownsRow w.heap.size 2 1 (.slice (some ⟨b2, o2, none⟩) L c5) L (ints out)) := hide (by subst hw5; have := HO.out; rw [HL.out] at this; exact this)
            have HB5 : Hid (Below w.heap.size w w5) := hide (by subst hw5; exact HB.out.trans ((show Quiet wr (wr.drewN nq) from ⟨nq, rfl⟩).below w.heap.size))
            have hs5 : w.heap.size ≤ w5.heap.size := by subst hw5; exact hsz
            rw [hw5]
            clear hcell' hcj hcz hw5 HO HRD
            go_wp2_with fail
            have hbk : w.heap.size ≤ w5.heap.size + 1 := by omega
            have hL1 : L + 1 ≤ maxLen := by unfold maxLen; omega
            have hL2 : (L + 1) * 8 ≤ 140737488355328 := by omega
            have hown5 := HO5.out
            go_region_law ((refine step_append_lies _ (by rfl) _ _ _ (by rfl) w.heap.size 2 i0 _ 1 8 Try.underlying37 hi hz0 hz1 hz2 rfl (by decide) (.slice (some ⟨b2, o2, none⟩) L c5) L (ints out) (by simp [Act.eval]) ((hown5.alloc _).drew) ⟨w5.heap.size, 0, none⟩ 1 1 [.int .i64 z] (by simp [Act.eval]) (by rfl) (World.news_of_block (cs := #[.int .i64 z]) (t := 2) (fr := (0, 0)) (heap_alloc_new w5 _)) (by simp [Value.oneCell']) (by decide) hL1 hL2 (by simp; omega) (w5.heap.size + 1) (by simp) ?_; intro gg cap w7 hown' hgrow _ _))
            all_goals (
              have HO' := hide hown'
              have HG := hide hgrow
              clear hown' hgrow
              go_wp2_with fail
              go_roundw
              case rel =>
                have hB7 : Below w.heap.size w w7 := (HB5.out.alloc hs5 _).grown (show (w5.alloc (.cells #[.int .i64 z] 2)).grownBy w7 _ from ⟨HG.out.os, HG.out.tape, HG.out.output, HG.out.size, HG.out.block⟩) (by simp; omega) (fun g hg => (HO5.out.alloc (.cells #[.int .i64 z] 2)).lt g hg |>.1)
                have hjl' : j < out.length := by have := HL.out; omega
                have e : ints out ++ [.int .i64 z] = ints (out ++ [z]) := by simp [ints]
                have hzz : z = (rows.getD q []).getD (out.getD j 0).toNat 0 := by rw [HY.out, Int.toNat_natCast, HZ.out]
                have eg : (out ++ [z]).getD j 0 = out.getD j 0 := by simp [List.getElem?_append, hjl']
                refine ⟨out ++ [z], q + 1, by omega, by go_num, hB7, by have := hB7.size; omega, ?_, HI.out.push hjl' (by have := HM.out; omega) z hzz HZR.out.1 HZR.out.2 HMZ.out, by simp; omega, fun r hr => ?_⟩
                · have h := HO'.out
                  rw [e] at h
                  rw [List.length_append, HL.out]
                  exact h
                · rw [eg]
                  by_cases e : r = q
                  · subst e; rw [← hzz]; simp
                  · exact List.mem_append_left _ (HALL.out r (by omega))
              case measure => simp [intOf]; omega)
        · have hqm : q = m := by omega
          subst hqm
          go_wp2_with fail
          go_roundw
          case rel =>
            refine ⟨out, j + 1, by go_num, HB.out, hsz, by have := HO.out; rw [HL.out] at this ⊢; exact this, HI.out.on (by have := HL.out; omega) (fun r hr => HALL.out r (by have := HM.out; omega))⟩
          case measure => simp [intOf]; omega
    · have hjL : j = L := by omega
      subst hjL
      go_wp2_with fail
      go_ret
      obtain ⟨A', c', hv, hres⟩ := own_shape HO.out
      refine ⟨A', c', out, ?_, HB.out, hres, by have := HI.out; rw [← HL.out] at this; exact this⟩
      rw [← hv, HL.out]
      rfl
end Go.Proofs.Ytaejgmdeiemhcaa
