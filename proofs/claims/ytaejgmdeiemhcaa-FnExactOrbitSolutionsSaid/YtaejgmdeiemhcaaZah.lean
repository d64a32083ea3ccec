import Derived.Test.YtaejgmdeiemhcaaZaf
import Derived.Test.YtaejgmdeiemhcaaZl
import Derived.Test.YtaejgmdeiemhcaaZk
namespace Go.Proofs.Ytaejgmdeiemhcaa
open Go Go.RowKit
open Classical
set_option maxHeartbeats 2000000

set_option maxRecDepth 20000 in
theorem labelOrbit_any (g n cu m c x0 : Nat) (A : Option Addr) (rows : List (List Int)) (lbl : Int) (f0 : Nat → Int) (w0 w : World) (hm : rows.length = m) (hb : m ≤ 64) (hn : n ≤ 12) (hx0 : x0 < n) (hl0 : 0 ≤ lbl) (_hl1 : lbl ≤ 12) (hneg : f0 x0 < 0) (hg : Gens rows n)
    (hcl : ∀ y z, y < n → stp rows y z → (0 ≤ f0 y ↔ 0 ≤ f0 z)) (hr : Rd2 w0 A rows) (hbe : Below w0.heap.size w0 w) (hg0 : w0.heap.size ≤ g) (how : OwnB 2 w g ((List.range n).map f0)) :
    Calls Try.prog 128 #[.slice (some ⟨g, 0, none⟩) n cu, .slice A m c, .int .i64 x0, .int .i64 lbl] w fun e w' => e = .returned (.tuple #[]) ∧ Below w0.heap.size w0 w' ∧ OwnB 2 w' g ((List.range n).map fun y => if Rch rows x0 y then lbl else f0 y) := by
  have HM := hide hm
  have HG := hide hg
  have HCL := hide hcl
  have HBE := hide hbe
  have hglt := how.lt
  have HW := hide how
  obtain ⟨i0, hi, hz0, hz1, hz2⟩ := info_parts liInfo
  have hcell := HW.out.cell (i := x0) (by simpa using hx0)
  have hfr := HW.out.frozen x0
  have hx0z : (x0 : Int) < n := by omega
  obtain ⟨old, hold⟩ : ∃ old, ((List.range n).map f0).getD x0 0 = old := ⟨_, rfl⟩
  rw [hold] at hcell
  have hset := HW.out.set x0 lbl (by simpa using hx0)
  have hp0 : (List.range n).map f0 = (List.range n).map (putD f0 [] lbl) := List.map_congr_left (fun y _ => by simp [putD])
  rw [hp0, putD_step] at hset
  have HS := hide hset
  have HST := hide (WInv.start rows n x0 f0 hx0 hneg)
  clear hm hg hcl hbe how hold hset hp0
  go_enter Try.func128, Try.ntmps128
  go_wp2_with fail
  clear hcell hfr
  go_loopg [8] (2 * (n - 1) + 1) (fun r v wr => ∃ (D : List Nat) (work : List Int), r = 2 * (n - D.length) + work.length ∧ Below w0.heap.size w0 wr ∧ w.heap.size ≤ wr.heap.size ∧ wr.ownsRow w.heap.size 2 1 v work.length (ints work) ∧ OwnB 2 wr g ((List.range n).map (putD f0 D lbl)) ∧ WInv rows n x0 f0 D work n 0 ∧ work.length ≤ D.length)
  case atStart =>
    refine ⟨[x0], [(x0 : Int)], rfl, (HBE.out.setCell hg0 _).alloc (by simpa [World.setCell] using HBE.out.size) _, by simp [World.setCell], ?_, ?_, HST.out, by simp⟩
    · have h := li_one (w.setCell ⟨g, x0, none⟩ (.int .i64 lbl)) 2 (.int .i64 (x0 : Int))
      simpa [World.setCell, ints] using h
    · exact OwnB.of_block HS.out (Below.heap_alloc _ _ _ (by simpa [World.setCell] using hglt))
  case round =>
    obtain ⟨D, work, rfl, hbw, hsz, hown, hob, hinv, hwd⟩ := hrel
    have HB := hide hbw
    have HO1 := hide hob
    have HI := hide hinv
    clear hbw hob hinv HS HST
    by_cases hwl : work.length = 0
    · have hw0 : work = [] := List.eq_nil_of_length_eq_zero hwl
      subst hw0
      obtain ⟨A5, c5, hv, _⟩ := own_shape hown
      subst hv
      go_wp2_with fail
      go_end0
      refine ⟨rfl, HB.out, ?_⟩
      have h := HO1.out
      have e : (List.range n).map (putD f0 D lbl) = (List.range n).map fun y => if Rch rows x0 y then lbl else f0 y := by
        refine List.map_congr_left (fun y _ => ?_)
        unfold putD
        have hd := HI.out.done y
        by_cases hy : Rch rows x0 y
        · rw [if_pos (hd.2 hy), if_pos hy]
        · rw [if_neg (fun e => hy (hd.1 e)), if_neg hy]
      rw [e] at h
      exact h
    · obtain ⟨front, u, hwk⟩ : ∃ front u, work = front ++ [u] := ⟨work.dropLast, work.getLast (fun e => hwl (by rw [e]; rfl)), (List.dropLast_concat_getLast _).symm⟩
      obtain ⟨d, hdD, hud⟩ := HI.out.wk u (by rw [hwk]; simp)
      subst hud
      subst hwk
      have hpop := HI.out.pop
      have hdn := HI.out.rng d hdD
      have HD := hide hpop.1
      have HP := hide hpop.2
      obtain ⟨L, hL⟩ : ∃ L, front.length = L := ⟨_, rfl⟩
      obtain ⟨N, hNe⟩ : ∃ N, N = L + 1 := ⟨_, rfl⟩
      have hN : (front ++ [(d : Int)]).length = N := by simp [hL, hNe]
      rw [hN] at hown
      obtain ⟨A5, c5, hv, _⟩ := own_shape hown
      subst hv
      have hcap : L < c5 := by
        obtain ⟨_, h | ⟨g5, cap, cur, hv, _, _, h5, _⟩⟩ := hown
        · exact absurd h.2 (by omega)
        · injection hv with _ _ h3
          subst h3
          omega
      have hrd := Rd.own hown
      obtain ⟨b5, o5, rfl, _, hc5⟩ := hrd (by simp)
      have hcd := hc5 L (by simp [hL])
      have hgd : (front ++ [(d : Int)]).getD L 0 = (d : Int) := by rw [← hL]; simp
      rw [hgd] at hcd
      have hfront := own_front (n := L) (by rw [hNe] at hown; exact hown)
      have hft : (ints (front ++ [(d : Int)])).take L = ints front := by rw [← hL]; simp [ints]
      rw [hft] at hfront
      have HF := hide hfront
      have HL := hide hL
      have hmostD := HI.out.most
      have hLD : L + 1 ≤ D.length := by rw [hN, hNe] at hwd; exact hwd
      have hL12 : L + 1 ≤ 12 := by omega
      have hdz : (d : Int) < n := by omega
      have hLz : (N : Int) - 1 = (L : Int) := by omega
      have hLp : (0 : Int) < (N : Int) := by omega
      have hLc : (L : Int) < (N : Int) := by omega
      have hLcap : (L : Int) ≤ (c5 : Int) := by omega
      have hdec : decide (0 < N) = true := by simp; omega
      have HNE := hide hNe
      clear hwl hpop hdD hwd hN hown hrd hc5 hgd hfront hft hL HI hNe
      go_wp2_with fail
      obtain ⟨wo, rfl⟩ : ∃ wo : World, wo = wr := ⟨_, rfl⟩
      clear hcd hLz hLp hLc hLcap
      go_loopw [8, 34] (fun v i wi => ∃ (D' : List Nat) (work : List Int) (q : Nat), q ≤ m ∧ i = .int .i64 q ∧ 2 * (n - D'.length) + work.length < 2 * (n - D.length) + (L + 1) ∧ Below w0.heap.size w0 wi ∧ w.heap.size ≤ wi.heap.size ∧ wi.ownsRow w.heap.size 2 1 v work.length (ints work) ∧ OwnB 2 wi g ((List.range n).map (putD f0 D' lbl)) ∧ WInv rows n x0 f0 D' work d q ∧ d ∈ D' ∧ work.length ≤ D'.length) (fun _ i _ => m - (intOf i).toNat)
      case atStart => exact ⟨D, front, 0, Nat.zero_le _, rfl, by have := HL.out; omega, HB.out, hsz, by rw [HL.out]; exact HF.out, HO1.out, HP.out, HD.out, by have := HL.out; omega⟩
      case round =>
        clear HF HO1 HP HD HB hsz
        obtain ⟨D', work, q, hq, rfl, hms, hbw, hsz, hown, hob, hinv, hdD, hwd⟩ := hrel
        have HB := hide hbw
        have HO := hide hown
        have HO1 := hide hob
        have HI := hide hinv
        have hmost' := hinv.most
        have HMS := hide hms
        clear hbw hob hinv hms
        obtain ⟨A6, c6, hv, _⟩ := own_shape hown
        subst hv
        clear hown
        by_cases hltq : q < m
        · have hltqz : (q : Int) < m := by omega
          obtain ⟨b, o, rfl, hbw, hc⟩ := hr (by have := HM.out; omega)
          obtain ⟨Aq, cq, hcell, hrq⟩ := hc q (by have := HM.out; omega)
          have hlq := (HG.out q (by have := HM.out; omega)).1
          rw [hlq] at hcell
          have hcell' : wr.cell? ⟨b, o + q, none⟩ = some (.slice Aq n cq) := (HB.out.cell (p := ⟨b, o + q, none⟩) hbw).trans hcell
          obtain ⟨b3, o3, rfl, hbw3, hc3⟩ := hrq (by omega)
          have hcz0 := hc3 d (by omega)
          have hzr := HG.out.at (v := d) (show q < rows.length by have := HM.out; omega) hdn
          obtain ⟨z, hz⟩ := Int.eq_ofNat_of_zero_le hzr.1
          rw [hz] at hcz0 hzr
          have hzn : z < n := by have := hzr.2; omega
          have HZ : Hid (((rows.getD q []).getD d 0).toNat = z) := hide (by rw [hz]; simp)
          have hcz : wr.cell? ⟨b3, o3 + d, none⟩ = some (.int .i64 z) := (HB.out.cell (p := ⟨b3, o3 + d, none⟩) hbw3).trans hcz0
          have hczs : (wr.setCell ⟨g, z, none⟩ (.int .i64 lbl)).cell? ⟨b3, o3 + d, none⟩ = some (.int .i64 z) := ((HB.out.setCell (p := ⟨g, z, none⟩) hg0 _).cell (p := ⟨b3, o3 + d, none⟩) hbw3).trans hcz0
          have hcg := HO1.out.cell (i := z) (by simpa using hzn)
          have hfg := HO1.out.frozen z
          have hgv : ((List.range n).map (putD f0 D' lbl)).getD z 0 = putD f0 D' lbl z := by simp [hzn]
          rw [hgv] at hcg
          have hzz : (z : Int) < n := by omega
          have hstp : stp rows d z := ⟨q, by have := HM.out; omega, HZ.out⟩
          have hneg : f0 z < 0 := by
            have h1 := HI.out.neg d hdD
            have h2 := HCL.out d z hdn hstp
            rcases Int.lt_or_le (f0 z) 0 with h | h
            · exact h
            · have := h2.2 h; omega
          clear hc hcell hlq hc3 hcz0 hzr hz hgv hrq hstp
          by_cases hzD : z ∈ D'
          · have hpv : putD f0 D' lbl z = lbl := by unfold putD; rw [if_pos hzD]
            rw [hpv] at hcg
            have hl0' : ¬ lbl < 0 := by omega
            have HZD := hide hzD
            clear hpv hzD
            go_wp2_with fail
            go_roundw
            case rel =>
              exact ⟨D', work, q + 1, by omega, by go_num, HMS.out, HB.out, hsz, HO.out, HO1.out, HI.out.seen (by rw [HZ.out]; exact HZD.out), hdD, hwd⟩
            case measure => simp [intOf]; omega
          · have hpv : putD f0 D' lbl z = f0 z := by unfold putD; rw [if_neg hzD]
            rw [hpv] at hcg
            obtain ⟨v0, hv0⟩ : ∃ v0, f0 z = v0 := ⟨_, rfl⟩
            rw [hv0] at hcg
            have hv0n : v0 < 0 := by omega
            have HNEG := hide hneg
            have HZD := hide hzD
            have HO2 : Hid ((wr.setCell ⟨g, z, none⟩ (.int .i64 lbl)).ownsRow w.heap.size 2 1 (.slice A6 work.length c6) work.length (ints work)) := hide (own_setFar HO.out hglt)
            have HOS := hide (HO1.out.set z lbl (by simpa using hzn))
            have HBS := hide (HB.out.setCell (p := ⟨g, z, none⟩) hg0 (.int .i64 lbl))
            obtain ⟨K, hK⟩ : ∃ K, work.length = K := ⟨_, rfl⟩
            have HK := hide hK
            rw [hK] at HO2 HO hwd ⊢
            clear hpv hzD hv0 hneg hK
            go_wp2_with (at_builtin; refine wpList_append_own _ rfl _ _ 37 rfl w.heap.size 2 i0 (.int .i64 0) 1 8 Try.underlying37 hi hz0 hz1 hz2 rfl (by decide) _ _ _ rfl (HO2.out.alloc _) ⟨wr.heap.size, 0, none⟩ 1 1 [.int .i64 (z : Int)] rfl rfl ?c1 ?c2 ?c3 ?c4 ?c5 ?_)
            case c1 => have h := li_new (w := wr.setCell ⟨g, z, none⟩ (.int .i64 lbl)) (v := .int .i64 (z : Int)); simpa [World.setCell] using h
            case c2 => intro u hu; simp at hu; subst hu; rfl
            case c3 => unfold maxLen; omega
            case c4 => omega
            case c5 => simp [World.setCell]; omega
            intro v' w7 hown' hgrow _
            have HO' := hide hown'
            have HGR := hide hgrow
            clear hown' hgrow
            go_wp2_with fail
            go_roundw
            case rel =>
              have hB7 : Below w0.heap.size w0 w7 := (HBS.out.alloc (by simpa [World.setCell] using HB.out.size) _).grown HGR.out (by have := HB.out.size; simp [World.setCell]; omega) (fun g' hg' => by have := ((HO2.out.alloc (.cells #[.int .i64 (z : Int)] 2)).lt g' hg').1; have := HBE.out.size; omega)
              have e : ints work ++ [.int .i64 (z : Int)] = ints (work ++ [(z : Int)]) := by simp [ints]
              have hs7 : w.heap.size ≤ w7.heap.size := by have := HGR.out.size; simp [World.setCell] at this; omega
              have hl7 : (work ++ [(z : Int)]).length = K + 1 := by simp [HK.out]
              have hpush := HI.out.push hdD (show q < rows.length by have := HM.out; omega) z HZ.out hzn HZD.out HNEG.out
              have hob7 : OwnB 2 w7 g ((List.range n).map (putD f0 (D' ++ [z]) lbl)) := by
                have h := HOS.out
                rw [putD_step] at h
                have h2 : OwnB 2 ((wr.setCell ⟨g, z, none⟩ (.int .i64 lbl)).alloc (.cells #[.int .i64 (z : Int)] 2)) g ((List.range n).map (putD f0 (D' ++ [z]) lbl)) := h.of_block (Below.heap_alloc _ _ _ (by simp [World.setCell]; omega))
                refine h2.of_block (HGR.out.block g (by simp [World.setCell]; omega) ?_)
                intro e'
                have := ((HO2.out.alloc (.cells #[.int .i64 (z : Int)] 2)).lt g e'.symm).1
                omega
              have hmost7 := hpush.most
              refine ⟨D' ++ [z], work ++ [(z : Int)], q + 1, by omega, by go_num, ?_, hB7, hs7, ?_, hob7, hpush, by simp [hdD], ?_⟩
              · have := HMS.out
                have := HK.out
                rw [hl7]
                simp at hmost7 ⊢
                omega
              · have h := HO'.out
                rw [e] at h
                rw [hl7]
                exact h
              · rw [hl7]; simp; omega
            case measure => simp [intOf]; omega
        · have hqm : q = m := by omega
          subst hqm
          go_wp2_with fail
          go_roundg (2 * (n - D'.length) + work.length)
          case measure => have := HMS.out; have := HL.out; simp; omega
          case rel => exact ⟨D', work, rfl, HB.out, hsz, HO.out, HO1.out, by have h := HI.out; rw [← HM.out] at h; exact h.next, hwd⟩
end Go.Proofs.Ytaejgmdeiemhcaa
namespace Go.Proofs.Ytaejgmdeiemhcaa
open Go Go.RowKit
def RkOrb (f : List (List Int)) (zs : List Int) (code : Int) : Prop := (Rck f ∧ zs = labL f f.length f.length ∧ code = 0) ∨ (¬ Rck f ∧ zs = [] ∧ code = 1)
theorem Rck.sys {f : List (List Int)} {n : Nat} (h : Rck f) (hn : f.length = n) : Sys (n : Int) f := by
  have h1 := h.tbl.1
  have h2 := h.tbl.2.1
  refine ⟨by omega, by omega, by omega, fun i hi => ⟨?_, h.prm i hi⟩⟩
  rw [h.tbl.rows i hi, hn]
theorem RkOrb.ex (f : List (List Int)) : ∃ zs code, RkOrb f zs code ∧ zs.length ≤ 1048576 := by
  by_cases h : Rck f
  · exact ⟨_, _, .inl ⟨h, rfl, rfl⟩, by rw [labL_length]; have := h.tbl.2.1; omega⟩
  · exact ⟨_, _, .inr ⟨h, rfl, rfl⟩, by simp⟩
end Go.Proofs.Ytaejgmdeiemhcaa
namespace Go.Proofs.Ytaejgmdeiemhcaa
open Go Go.RowKit
open Classical

/-- What the specification has when the labels below o are done for a number of elements z. -/
noncomputable def spO (f : Nat → Int) (n z : Nat) (o : Nat) : List Int := (List.range o).flatMap fun a => if cnt f n a = z then [(z : Int)] else []
noncomputable def spZ (f : Nat → Int) (n G : Nat) (z : Nat) : List Int := (List.range z).flatMap fun a => spO f n (a + 1) G
theorem spO_next (f : Nat → Int) (n z o : Nat) : spO f n z (o + 1) = spO f n z o ++ (if cnt f n o = z then [(z : Int)] else []) := by
  unfold spO
  rw [List.range_succ, List.flatMap_append]
  simp
theorem spZ_next (f : Nat → Int) (n G z : Nat) : spZ f n G (z + 1) = spZ f n G z ++ spO f n (z + 1) G := by
  unfold spZ
  rw [List.range_succ, List.flatMap_append]
  simp
theorem spO_all (f : Nat → Int) (n z o : Nat) : ∀ x ∈ spO f n z o, x = (z : Int) := by
  induction o with
  | zero => simp [spO]
  | succ o ih =>
    rw [spO_next]
    intro x hx
    rcases List.mem_append.1 hx with h | h
    · exact ih x h
    · split at h
      · simpa using h
      · simp at h
theorem spO_length (f : Nat → Int) (n z o : Nat) : (spO f n z o).length ≤ o := by
  induction o with
  | zero => simp [spO]
  | succ o ih =>
    rw [spO_next, List.length_append]
    split <;> simp <;> omega
theorem spO_count (f : Nat → Int) (n z o : Nat) (v : Int) : (spO f n z o).count v = if v = (z : Int) then ((List.range o).map fun a => (cnt f n a : Int)).count v else 0 := by
  induction o with
  | zero => simp [spO]
  | succ o ih =>
    rw [spO_next, List.count_append, ih, List.range_succ, List.map_append, List.count_append]
    by_cases hv : v = (z : Int)
    · rw [if_pos hv, if_pos hv]
      congr 1
      by_cases hc : cnt f n o = z
      · rw [if_pos hc, hv]
        simp [hc]
      · rw [if_neg hc, hv]
        have : ¬ ((cnt f n o : Int) = (z : Int)) := by omega
        simp [this]
    · rw [if_neg hv, if_neg hv]
      split
      · have : ¬ ((z : Int) = v) := fun e => hv e.symm
        simp [this]
      · simp
theorem spZ_range (f : Nat → Int) (n G z : Nat) : ∀ x ∈ spZ f n G z, 1 ≤ x ∧ x ≤ (z : Int) := by
  induction z with
  | zero => simp [spZ]
  | succ z ih =>
    rw [spZ_next]
    intro x hx
    rcases List.mem_append.1 hx with h | h
    · have := ih x h; omega
    · have := spO_all f n (z + 1) G x h; omega
theorem spZ_count (f : Nat → Int) (n G z : Nat) (v : Int) : (spZ f n G z).count v = if 1 ≤ v ∧ v ≤ (z : Int) then ((List.range G).map fun a => (cnt f n a : Int)).count v else 0 := by
  induction z with
  | zero =>
    rw [if_neg (by omega)]
    simp [spZ]
  | succ z ih =>
    rw [spZ_next, List.count_append, ih, spO_count]
    by_cases h1 : v = ((z + 1 : Nat) : Int)
    · rw [if_pos h1, if_neg (by omega), if_pos (by omega), Nat.zero_add]
    · rw [if_neg h1, Nat.add_zero]
      by_cases h2 : 1 ≤ v ∧ v ≤ (z : Int)
      · rw [if_pos h2, if_pos (by omega)]
      · rw [if_neg h2, if_neg (by omega)]
theorem sorted_append {xs ys : List Int} (h1 : Sorted xs) (h2 : Sorted ys) (h : ∀ x ∈ xs, ∀ y ∈ ys, x ≤ y) : Sorted (xs ++ ys) := by
  intro a b hab hb
  rw [List.length_append] at hb
  rw [List.getD_eq_getElem?_getD, List.getD_eq_getElem?_getD]
  by_cases hb1 : b < xs.length
  · rw [List.getElem?_append_left (by omega), List.getElem?_append_left hb1, ← List.getD_eq_getElem?_getD, ← List.getD_eq_getElem?_getD]
    exact h1 a b hab hb1
  · by_cases ha1 : a < xs.length
    · rw [List.getElem?_append_left ha1, List.getElem?_append_right (by omega)]
      have e1 : xs[a]? = some xs[a] := by simp [ha1]
      have hb2 : b - xs.length < ys.length := by omega
      have e2 : ys[b - xs.length]? = some ys[b - xs.length] := by simp [hb2]
      rw [e1, e2]
      exact h _ (List.getElem_mem ha1) _ (List.getElem_mem hb2)
    · rw [List.getElem?_append_right (by omega), List.getElem?_append_right (by omega), ← List.getD_eq_getElem?_getD, ← List.getD_eq_getElem?_getD]
      exact h2 _ _ (by omega) (by omega)
theorem spO_sorted (f : Nat → Int) (n z o : Nat) : Sorted (spO f n z o) := by
  intro a b hab hb
  have h1 : (spO f n z o).getD a 0 = (z : Int) := spO_all f n z o _ (by have : a < (spO f n z o).length := (by omega); simp [this])
  have h2 : (spO f n z o).getD b 0 = (z : Int) := spO_all f n z o _ (by simp [hb])
  omega
theorem spZ_sorted (f : Nat → Int) (n G z : Nat) : Sorted (spZ f n G z) := by
  induction z with
  | zero => intro a b _ hb; simp [spZ] at hb
  | succ z ih =>
    rw [spZ_next]
    exact sorted_append ih (spO_sorted f n (z + 1) G) (fun x hx y hy => by
      have := spZ_range f n G z x hx
      have := spO_all f n (z + 1) G y hy
      omega)
theorem cnt_le (f : Nat → Int) (n o : Nat) : cnt f n o ≤ n := by
  unfold cnt
  have := List.countP_le_length (p := fun y => f y == (o : Int)) (l := List.range n)
  simpa using this
theorem spZ_perm (rows : List (List Int)) (n : Nat) (hg : Gens rows n) : (spZ (lab rows n).1 n (lab rows n).2 n).Perm (cyc rows n n) := by
  rw [List.perm_iff_count]
  intro v
  rw [spZ_count]
  have hok := lab_ok rows n n hg (Nat.le_refl _)
  unfold cyc
  split
  · rfl
  · rename_i h
    symm
    rw [List.count_eq_zero]
    intro hv
    obtain ⟨o, ho, e⟩ := List.mem_map.1 hv
    have hol := List.mem_range.1 ho
    have h1 := cnt_le (lab rows n).1 n o
    obtain ⟨y, hy, hyo⟩ := hok.onto o hol
    have h2 : 0 < cnt (lab rows n).1 n o := by
      unfold cnt
      rw [List.countP_pos_iff]
      exact ⟨y, List.mem_range.2 hy, by simp [hyo]⟩
    exact h (by omega)
end Go.Proofs.Ytaejgmdeiemhcaa
