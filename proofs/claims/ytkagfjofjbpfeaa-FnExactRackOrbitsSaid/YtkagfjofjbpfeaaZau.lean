import Derived.Test.YtkagfjofjbpfeaaZas
import Derived.Test.YtkagfjofjbpfeaaZan
namespace Go.Proofs.Ytkagfjofjbpfeaa
open Go Go.RowKit
def RkOrb (f : List (List Int)) (zs : List Int) (code : Int) : Prop := (Rck f ∧ zs = labL f f.length f.length ∧ code = 0) ∨ (¬ Rck f ∧ zs = [] ∧ code = 1)
theorem Rck.sys {f : List (List Int)} {n : Nat} (h : Rck f) (hn : f.length = n) : Sys (n : Int) f := by
  have h1 := h.tbl.1
  have h2 := h.tbl.2.1
  refine ⟨by omega, by omega, by omega, fun i hi => ⟨?_, h.prm i hi⟩⟩
  rw [h.tbl.rows i hi, hn]
theorem RkOrb.ex (f : List (List Int)) : ∃ zs code, RkOrb f zs code ∧ zs.length ≤ 1048576 := by
  by_cases h : Rck f
  · exact ⟨_, _, .inl ⟨h, rfl, rfl⟩, by rw [labL_length]; have := h.tbl.2.1; omega⟩
  · exact ⟨_, _, .inr ⟨h, rfl, rfl⟩, by simp⟩
end Go.Proofs.Ytkagfjofjbpfeaa
namespace Go.Proofs.Ytkagfjofjbpfeaa
open Go Go.RowKit
set_option maxHeartbeats 2000000

set_option maxRecDepth 100000 in
theorem firstTriple_any (F : FuncId) (lb : Array Value) (n : Nat) (q : Nat → Nat → Nat → Bool) (T : Nat) (w : World) (eg : ∀ args w, (callFunc F args).run Try.prog w = .ok (.enter F args) w) (h1 : 1 ≤ n) (h12 : n ≤ 12) (hp : BoolFn3 Try.prog F lb n q w) (hT : FirstQ q n T) :
    Calls Try.prog 129 #[.int .i64 n, .func (.func F) #[] lb] w fun e w' => (T = n * n * n ∧ e = .returned (.slice none 0 0) ∧ Below w.heap.size w w') ∨ (T < n * n * n ∧ ∃ g, e = .returned (.slice (some ⟨g, 0, none⟩) 3 3) ∧ Below w.heap.size w w' ∧ w.heap.size ≤ g ∧ OwnB 2 w' g (lst3 (trip n T))) := by
  have HPF := hide hp
  have HT := hide hT
  obtain ⟨N, hN⟩ : ∃ N, n * n = N := ⟨_, rfl⟩
  have hN144 : N ≤ 144 := by rw [← hN]; exact sq_le n h12
  have HNN := hide hN
  clear hT hN hp
  go_enter Try.func129, Try.ntmps129
  go_wp2_with fail
  refine (pairsOf_any n N _ h1 h12 HNN.out).mono ?_
  rintro e w3 ⟨g, rfl, hb3, hg3, hpa⟩
  have HB3 := hide hb3
  have HPA3 := hide hpa
  clear hb3 hpa
  go_wp2_with fail
  go_loopw [11] (fun i wr => ∃ k : Nat, k ≤ N ∧ i = .int .i64 k ∧ Below w.heap.size w wr ∧ PairsAt wr g n ∧ ∀ i, i < k * n → qAt q n i = false) (fun i _ => N - (intOf i).toNat)
  case atStart => exact ⟨0, Nat.zero_le _, rfl, HB3.out, HPA3.out, fun i hi => absurd hi (by omega)⟩
  case round =>
    obtain ⟨k, hk, rfl, hbe, hpa, hall⟩ := hrel
    have HB := hide hbe
    have HPA := hide hpa
    have HALL := hide hall
    clear hbe hpa hall
    by_cases hlt : k < N
    · have hkz : (k : Int) < N := by omega
      obtain ⟨p0, p1⟩ := HPA.out.2 k (by rw [HNN.out]; exact hlt)
      have hxn : k / n < n := div_lt_sq (by rw [HNN.out]; exact hlt)
      have hyn : k % n < n := mod_lt_sq (by rw [HNN.out]; exact hlt)
      obtain ⟨x, hx⟩ : ∃ x, k / n = x := ⟨_, rfl⟩
      obtain ⟨y, hy⟩ : ∃ y, k % n = y := ⟨_, rfl⟩
      rw [hx] at p0 hxn
      rw [hy] at p1 hyn
      have HX := hide hx
      have HY := hide hy
      clear hx hy
      go_wp2_with fail
      refine wp_gen fun w4 hw4 => ?_
      obtain ⟨P, hPe⟩ : ∃ P, wr.heap.size = P := ⟨_, rfl⟩
      have HB4 : Hid (Below w.heap.size w w4) := hide (by rw [hw4]; exact HB.out.alloc HB.out.size _)
      have HP4 : Hid (Blk w4 P 90 [.int .i64 x, .int .i64 y]) := hide (by rw [hw4, ← hPe]; exact Blk.new _ _ _)
      have HA4 : Hid (PairsAt w4 g n) := hide (by rw [hw4]; exact HPA.out.later ((Below.refl _ _).alloc (Nat.le_refl _) _))
      rw [hPe]
      clear hw4 p0 p1 hPe
      go_loopw [16] (fun i wi => ∃ z : Nat, z ≤ n ∧ i = .int .i64 z ∧ Below w.heap.size w wi ∧ Blk wi P 90 [.int .i64 x, .int .i64 y] ∧ PairsAt wi g n ∧ ∀ i, i < k * n + z → qAt q n i = false) (fun i _ => n - (intOf i).toNat)
      case atStart => exact ⟨0, Nat.zero_le _, rfl, HB4.out, HP4.out, HA4.out, HALL.out⟩
      case round =>
        obtain ⟨z, hzn, rfl, hbe, hpp, hpa, hall⟩ := hrel
        have HBc := hide hbe
        have HPc := hide hpp
        have HAc := hide hpa
        have HALLI := hide hall
        clear hbe hpp hpa hall
        by_cases hltz : z < n
        · have hzz : (z : Int) < n := by omega
          have hklt : k * n + z < n * n * n := by
            have h := trip_lt (n := n) hxn hyn hltz
            rw [← HX.out, ← HY.out, pair_eta] at h
            exact h
          have hat : qAt q n (k * n + z) = q x y z := by
            have h := qAt_at (q := q) (n := n) (x := x) hyn hltz
            rw [← HX.out, ← HY.out, pair_eta] at h
            rw [← HX.out, ← HY.out]
            exact h
          have htr : trip n (k * n + z) = (x, y, z) := by
            have h := trip_of (n := n) (x := x) hyn hltz
            rw [← HX.out, ← HY.out, pair_eta, HX.out, HY.out] at h
            exact h
          have HTR := hide htr
          have HKL := hide hklt
          clear htr hklt
          obtain ⟨bq, hbq⟩ : ∃ b, q x y z = b := ⟨_, rfl⟩
          rw [hbq] at hat
          have HAT := hide hat
          have HBQ := hide hbq
          clear hat hbq
          have k0 := HPc.out.cell 0 _ rfl
          have k1 := HPc.out.cell 1 _ rfl
          cases bq with
          | false =>
            go_wp2_with (go_at_fn F; go_must (refine calls_gen fun wc hwc => ?_; (first | have hbx := drew_below hwc | have hbx := eq_below hwc); replace HBc := hide (HBc.out.trans (hbx.mono HBc.out.size)); replace HPc := hide (HPc.out.later hbx); replace HAc := hide (HAc.out.later hbx); clear hwc hbx; refine (HPF.out _ x y z hxn hyn hltz HBc.out).mono ?_; rw [HBQ.out]; rintro e wd ⟨rfl, hbd⟩; replace HBc := hide (HBc.out.trans (hbd.mono HBc.out.size)); replace HPc := hide (HPc.out.later hbd); replace HAc := hide (HAc.out.later hbd); clear hbd; have k0 := HPc.out.cell 0 _ rfl; have k1 := HPc.out.cell 1 _ rfl; clear k0 k1))
            clear k0 k1
            go_wp2_with fail
            go_roundw
            case rel => exact ⟨z + 1, by omega, by go_num, HBc.out, HPc.out, HAc.out, fun i hi => by
              by_cases e : i = k * n + z
              · rw [e]; exact HAT.out
              · exact HALLI.out i (by omega)⟩
            case measure => simp [intOf]; omega
          | true =>
            have HTB2 := hide (HT.out.bad HALLI.out HKL.out HAT.out)
            go_wp2_with (go_at_fn F; go_must (refine calls_gen fun wc hwc => ?_; (first | have hbx := drew_below hwc | have hbx := eq_below hwc); replace HBc := hide (HBc.out.trans (hbx.mono HBc.out.size)); replace HPc := hide (HPc.out.later hbx); replace HAc := hide (HAc.out.later hbx); clear hwc hbx; refine (HPF.out _ x y z hxn hyn hltz HBc.out).mono ?_; rw [HBQ.out]; rintro e wd ⟨rfl, hbd⟩; replace HBc := hide (HBc.out.trans (hbd.mono HBc.out.size)); replace HPc := hide (HPc.out.later hbd); replace HAc := hide (HAc.out.later hbd); clear hbd; have k0 := HPc.out.cell 0 _ rfl; have k1 := HPc.out.cell 1 _ rfl; have k2 := fun o => (HPc.out.alloc o).cell 0 _ rfl; have k3 := fun o => (HPc.out.alloc o).cell 1 _ rfl))
            clear k0 k1
            go_wp2_with fail
            refine bp_gen fun wf hwf => ?_
            have HBF : Below w.heap.size w wf := by rw [hwf]; exact HBc.out.alloc HBc.out.size _
            have HLF : Hid (Blk wf wd.heap.size 2 [.int .i64 x, .int .i64 y, .int .i64 z]) := hide (by rw [hwf]; exact Blk.new _ _ _)
            have hlo : w.heap.size ≤ wd.heap.size := HBc.out.size
            clear hwf
            go_ret
            exact .inr ⟨by rw [HTB2.out]; exact HKL.out, _, rfl, HBF, hlo, _, HLF.out, fun i hi => by
              rw [HTB2.out, HTR.out] at hi ⊢
              simp [lst3] at hi
              rcases i with _ | _ | _ | i
              · rfl
              · rfl
              · rfl
              · omega⟩
        · have hzn' : z = n := by omega
          subst hzn'
          go_wp2_with fail
          go_roundw
          case rel => exact ⟨k + 1, by omega, by go_num, HBc.out, HAc.out, fun i hi => HALLI.out i (by rw [Nat.add_mul, Nat.one_mul] at hi; exact hi)⟩
          case measure => simp [intOf]; omega
    · have hkn : k = N := by omega
      subst hkn
      go_wp2_with fail
      go_ret
      exact .inl ⟨HT.out.all (fun i hi => HALL.out i (by rw [HNN.out] at hi; exact hi)), rfl, HB.out⟩
end Go.Proofs.Ytkagfjofjbpfeaa
namespace Go.Proofs.Ytkagfjofjbpfeaa
open Go Go.RowKit
open Classical
set_option maxHeartbeats 2000000

set_option maxRecDepth 20000 in
theorem labelOrbit_any (g n cu m c x0 : Nat) (A : Option Addr) (rows : List (List Int)) (lbl : Int) (f0 : Nat → Int) (w0 w : World) (hm : rows.length = m) (hb : m ≤ 64) (hn : n ≤ 12) (hx0 : x0 < n) (hl0 : 0 ≤ lbl) (_hl1 : lbl ≤ 12) (hneg : f0 x0 < 0) (hg : Gens rows n)
    (hcl : ∀ y z, y < n → stp rows y z → (0 ≤ f0 y ↔ 0 ≤ f0 z)) (hr : Rd2 w0 A rows) (hbe : Below w0.heap.size w0 w) (hg0 : w0.heap.size ≤ g) (how : OwnB 2 w g ((List.range n).map f0)) :
    Calls Try.prog 132 #[.slice (some ⟨g, 0, none⟩) n cu, .slice A m c, .int .i64 x0, .int .i64 lbl] w fun e w' => e = .returned (.tuple #[]) ∧ Below w0.heap.size w0 w' ∧ OwnB 2 w' g ((List.range n).map fun y => if Rch rows x0 y then lbl else f0 y) := by
  have HM := hide hm
  have HG := hide hg
  have HCL := hide hcl
  have HBE := hide hbe
  have hglt := how.lt
  have HW := hide how
  obtain ⟨i0, hi, hz0, hz1, hz2⟩ := info_parts liInfo
  have hcell := HW.out.cell (i := x0) (by simpa using hx0)
  have hfr := HW.out.frozen x0
  have hx0z : (x0 : Int) < n := by omega
  obtain ⟨old, hold⟩ : ∃ old, ((List.range n).map f0).getD x0 0 = old := ⟨_, rfl⟩
  rw [hold] at hcell
  have hset := HW.out.set x0 lbl (by simpa using hx0)
  have hp0 : (List.range n).map f0 = (List.range n).map (putD f0 [] lbl) := List.map_congr_left (fun y _ => by simp [putD])
  rw [hp0, putD_step] at hset
  have HS := hide hset
  have HST := hide (WInv.start rows n x0 f0 hx0 hneg)
  clear hm hg hcl hbe how hold hset hp0
  go_enter Try.func132, Try.ntmps132
  go_wp2_with fail
  clear hcell hfr
  go_loopg [8] (2 * (n - 1) + 1) (fun r v wr => ∃ (D : List Nat) (work : List Int), r = 2 * (n - D.length) + work.length ∧ Below w0.heap.size w0 wr ∧ w.heap.size ≤ wr.heap.size ∧ wr.ownsRow w.heap.size 2 1 v work.length (ints work) ∧ OwnB 2 wr g ((List.range n).map (putD f0 D lbl)) ∧ WInv rows n x0 f0 D work n 0 ∧ work.length ≤ D.length)
  case atStart =>
    refine ⟨[x0], [(x0 : Int)], rfl, (HBE.out.setCell hg0 _).alloc (by simpa [World.setCell] using HBE.out.size) _, by simp [World.setCell], ?_, ?_, HST.out, by simp⟩
    · have h := li_one (w.setCell ⟨g, x0, none⟩ (.int .i64 lbl)) 2 (.int .i64 (x0 : Int))
      simpa [World.setCell, ints] using h
    · exact OwnB.of_block HS.out (Below.heap_alloc _ _ _ (by simpa [World.setCell] using hglt))
  case round =>
    obtain ⟨D, work, rfl, hbw, hsz, hown, hob, hinv, hwd⟩ := hrel
    have HB := hide hbw
    have HO1 := hide hob
    have HI := hide hinv
    clear hbw hob hinv HS HST
    by_cases hwl : work.length = 0
    · have hw0 : work = [] := List.eq_nil_of_length_eq_zero hwl
      subst hw0
      obtain ⟨A5, c5, hv, _⟩ := own_shape hown
      subst hv
      go_wp2_with fail
      go_end0
      refine ⟨rfl, HB.out, ?_⟩
      have h := HO1.out
      have e : (List.range n).map (putD f0 D lbl) = (List.range n).map fun y => if Rch rows x0 y then lbl else f0 y := by
        refine List.map_congr_left (fun y _ => ?_)
        unfold putD
        have hd := HI.out.done y
        by_cases hy : Rch rows x0 y
        · rw [if_pos (hd.2 hy), if_pos hy]
        · rw [if_neg (fun e => hy (hd.1 e)), if_neg hy]
      rw [e] at h
      exact h
    · obtain ⟨front, u, hwk⟩ : ∃ front u, work = front ++ [u] := ⟨work.dropLast, work.getLast (fun e => hwl (by rw [e]; rfl)), (List.dropLast_concat_getLast _).symm⟩
      obtain ⟨d, hdD, hud⟩ := HI.out.wk u (by rw [hwk]; simp)
      subst hud
      subst hwk
      have hpop := HI.out.pop
      have hdn := HI.out.rng d hdD
      have HD := hide hpop.1
      have HP := hide hpop.2
      obtain ⟨L, hL⟩ : ∃ L, front.length = L := ⟨_, rfl⟩
      obtain ⟨N, hNe⟩ : ∃ N, N = L + 1 := ⟨_, rfl⟩
      have hN : (front ++ [(d : Int)]).length = N := by simp [hL, hNe]
      rw [hN] at hown
      obtain ⟨A5, c5, hv, _⟩ := own_shape hown
      subst hv
      have hcap : L < c5 := by
        obtain ⟨_, h | ⟨g5, cap, cur, hv, _, _, h5, _⟩⟩ := hown
        · exact absurd h.2 (by omega)
        · injection hv with _ _ h3
          subst h3
          omega
      have hrd := Rd.own hown
      obtain ⟨b5, o5, rfl, _, hc5⟩ := hrd (by simp)
      have hcd := hc5 L (by simp [hL])
      have hgd : (front ++ [(d : Int)]).getD L 0 = (d : Int) := by rw [← hL]; simp
      rw [hgd] at hcd
      have hfront := own_front (n := L) (by rw [hNe] at hown; exact hown)
      have hft : (ints (front ++ [(d : Int)])).take L = ints front := by rw [← hL]; simp [ints]
      rw [hft] at hfront
      have HF := hide hfront
      have HL := hide hL
      have hmostD := HI.out.most
      have hLD : L + 1 ≤ D.length := by rw [hN, hNe] at hwd; exact hwd
      have hL12 : L + 1 ≤ 12 := by omega
      have hdz : (d : Int) < n := by omega
      have hLz : (N : Int) - 1 = (L : Int) := by omega
      have hLp : (0 : Int) < (N : Int) := by omega
      have hLc : (L : Int) < (N : Int) := by omega
      have hLcap : (L : Int) ≤ (c5 : Int) := by omega
      have hdec : decide (0 < N) = true := by simp; omega
      have HNE := hide hNe
      clear hwl hpop hdD hwd hN hown hrd hc5 hgd hfront hft hL HI hNe
      go_wp2_with fail
      obtain ⟨wo, rfl⟩ : ∃ wo : World, wo = wr := ⟨_, rfl⟩
      clear hcd hLz hLp hLc hLcap
      go_loopw [8, 34] (fun v i wi => ∃ (D' : List Nat) (work : List Int) (q : Nat), q ≤ m ∧ i = .int .i64 q ∧ 2 * (n - D'.length) + work.length < 2 * (n - D.length) + (L + 1) ∧ Below w0.heap.size w0 wi ∧ w.heap.size ≤ wi.heap.size ∧ wi.ownsRow w.heap.size 2 1 v work.length (ints work) ∧ OwnB 2 wi g ((List.range n).map (putD f0 D' lbl)) ∧ WInv rows n x0 f0 D' work d q ∧ d ∈ D' ∧ work.length ≤ D'.length) (fun _ i _ => m - (intOf i).toNat)
      case atStart => exact ⟨D, front, 0, Nat.zero_le _, rfl, by have := HL.out; omega, HB.out, hsz, by rw [HL.out]; exact HF.out, HO1.out, HP.out, HD.out, by have := HL.out; omega⟩
      case round =>
        clear HF HO1 HP HD HB hsz
        obtain ⟨D', work, q, hq, rfl, hms, hbw, hsz, hown, hob, hinv, hdD, hwd⟩ := hrel
        have HB := hide hbw
        have HO := hide hown
        have HO1 := hide hob
        have HI := hide hinv
        have hmost' := hinv.most
        have HMS := hide hms
        clear hbw hob hinv hms
        obtain ⟨A6, c6, hv, _⟩ := own_shape hown
        subst hv
        clear hown
        by_cases hltq : q < m
        · have hltqz : (q : Int) < m := by omega
          obtain ⟨b, o, rfl, hbw, hc⟩ := hr (by have := HM.out; omega)
          obtain ⟨Aq, cq, hcell, hrq⟩ := hc q (by have := HM.out; omega)
          have hlq := (HG.out q (by have := HM.out; omega)).1
          rw [hlq] at hcell
          have hcell' : wr.cell? ⟨b, o + q, none⟩ = some (.slice Aq n cq) := (HB.out.cell (p := ⟨b, o + q, none⟩) hbw).trans hcell
          obtain ⟨b3, o3, rfl, hbw3, hc3⟩ := hrq (by omega)
          have hcz0 := hc3 d (by omega)
          have hzr := HG.out.at (v := d) (show q < rows.length by have := HM.out; omega) hdn
          obtain ⟨z, hz⟩ := Int.eq_ofNat_of_zero_le hzr.1
          rw [hz] at hcz0 hzr
          have hzn : z < n := by have := hzr.2; omega
          have HZ : Hid (((rows.getD q []).getD d 0).toNat = z) := hide (by rw [hz]; simp)
          have hcz : wr.cell? ⟨b3, o3 + d, none⟩ = some (.int .i64 z) := (HB.out.cell (p := ⟨b3, o3 + d, none⟩) hbw3).trans hcz0
          have hczs : (wr.setCell ⟨g, z, none⟩ (.int .i64 lbl)).cell? ⟨b3, o3 + d, none⟩ = some (.int .i64 z) := ((HB.out.setCell (p := ⟨g, z, none⟩) hg0 _).cell (p := ⟨b3, o3 + d, none⟩) hbw3).trans hcz0
          have hcg := HO1.out.cell (i := z) (by simpa using hzn)
          have hfg := HO1.out.frozen z
          have hgv : ((List.range n).map (putD f0 D' lbl)).getD z 0 = putD f0 D' lbl z := by simp [hzn]
          rw [hgv] at hcg
          have hzz : (z : Int) < n := by omega
          have hstp : stp rows d z := ⟨q, by have := HM.out; omega, HZ.out⟩
          have hneg : f0 z < 0 := by
            have h1 := HI.out.neg d hdD
            have h2 := HCL.out d z hdn hstp
            rcases Int.lt_or_le (f0 z) 0 with h | h
            · exact h
            · have := h2.2 h; omega
          clear hc hcell hlq hc3 hcz0 hzr hz hgv hrq hstp
          by_cases hzD : z ∈ D'
          · have hpv : putD f0 D' lbl z = lbl := by unfold putD; rw [if_pos hzD]
            rw [hpv] at hcg
            have hl0' : ¬ lbl < 0 := by omega
            have HZD := hide hzD
            clear hpv hzD
            go_wp2_with fail
            go_roundw
            case rel =>
              exact ⟨D', work, q + 1, by omega, by go_num, HMS.out, HB.out, hsz, HO.out, HO1.out, HI.out.seen (by rw [HZ.out]; exact HZD.out), hdD, hwd⟩
            case measure => simp [intOf]; omega
          · have hpv : putD f0 D' lbl z = f0 z := by unfold putD; rw [if_neg hzD]
            rw [hpv] at hcg
            obtain ⟨v0, hv0⟩ : ∃ v0, f0 z = v0 := ⟨_, rfl⟩
            rw [hv0] at hcg
            have hv0n : v0 < 0 := by omega
            have HNEG := hide hneg
            have HZD := hide hzD
            have HO2 : Hid ((wr.setCell ⟨g, z, none⟩ (.int .i64 lbl)).ownsRow w.heap.size 2 1 (.slice A6 work.length c6) work.length (ints work)) := hide (own_setFar HO.out hglt)
            have HOS := hide (HO1.out.set z lbl (by simpa using hzn))
            have HBS := hide (HB.out.setCell (p := ⟨g, z, none⟩) hg0 (.int .i64 lbl))
            obtain ⟨K, hK⟩ : ∃ K, work.length = K := ⟨_, rfl⟩
            have HK := hide hK
            rw [hK] at HO2 HO hwd ⊢
            clear hpv hzD hv0 hneg hK
            go_wp2_with (at_builtin; refine wpList_append_own _ rfl _ _ 31 rfl w.heap.size 2 i0 (.int .i64 0) 1 8 Try.underlying31 hi hz0 hz1 hz2 rfl (by decide) _ _ _ rfl (HO2.out.alloc _) ⟨wr.heap.size, 0, none⟩ 1 1 [.int .i64 (z : Int)] rfl rfl ?c1 ?c2 ?c3 ?c4 ?c5 ?_)
            case c1 => have h := li_new (w := wr.setCell ⟨g, z, none⟩ (.int .i64 lbl)) (v := .int .i64 (z : Int)); simpa [World.setCell] using h
            case c2 => intro u hu; simp at hu; subst hu; rfl
            case c3 => unfold maxLen; omega
            case c4 => omega
            case c5 => simp [World.setCell]; omega
            intro v' w7 hown' hgrow _
            have HO' := hide hown'
            have HGR := hide hgrow
            clear hown' hgrow
            go_wp2_with fail
            go_roundw
            case rel =>
              have hB7 : Below w0.heap.size w0 w7 := (HBS.out.alloc (by simpa [World.setCell] using HB.out.size) _).grown HGR.out (by have := HB.out.size; simp [World.setCell]; omega) (fun g' hg' => by have := ((HO2.out.alloc (.cells #[.int .i64 (z : Int)] 2)).lt g' hg').1; have := HBE.out.size; omega)
              have e : ints work ++ [.int .i64 (z : Int)] = ints (work ++ [(z : Int)]) := by simp [ints]
              have hs7 : w.heap.size ≤ w7.heap.size := by have := HGR.out.size; simp [World.setCell] at this; omega
              have hl7 : (work ++ [(z : Int)]).length = K + 1 := by simp [HK.out]
              have hpush := HI.out.push hdD (show q < rows.length by have := HM.out; omega) z HZ.out hzn HZD.out HNEG.out
              have hob7 : OwnB 2 w7 g ((List.range n).map (putD f0 (D' ++ [z]) lbl)) := by
                have h := HOS.out
                rw [putD_step] at h
                have h2 : OwnB 2 ((wr.setCell ⟨g, z, none⟩ (.int .i64 lbl)).alloc (.cells #[.int .i64 (z : Int)] 2)) g ((List.range n).map (putD f0 (D' ++ [z]) lbl)) := h.of_block (Below.heap_alloc _ _ _ (by simp [World.setCell]; omega))
                refine h2.of_block (HGR.out.block g (by simp [World.setCell]; omega) ?_)
                intro e'
                have := ((HO2.out.alloc (.cells #[.int .i64 (z : Int)] 2)).lt g e'.symm).1
                omega
              have hmost7 := hpush.most
              refine ⟨D' ++ [z], work ++ [(z : Int)], q + 1, by omega, by go_num, ?_, hB7, hs7, ?_, hob7, hpush, by simp [hdD], ?_⟩
              · have := HMS.out
                have := HK.out
                rw [hl7]
                simp at hmost7 ⊢
                omega
              · have h := HO'.out
                rw [e] at h
                rw [hl7]
                exact h
              · rw [hl7]; simp; omega
            case measure => simp [intOf]; omega
        · have hqm : q = m := by omega
          subst hqm
          go_wp2_with fail
          go_roundg (2 * (n - D'.length) + work.length)
          case measure => have := HMS.out; have := HL.out; simp; omega
          case rel => exact ⟨D', work, rfl, HB.out, hsz, HO.out, HO1.out, by have h := HI.out; rw [← HM.out] at h; exact h.next, hwd⟩
end Go.Proofs.Ytkagfjofjbpfeaa
