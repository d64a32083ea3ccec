import Derived.Test.YtbhlcfcmjildmaaGq
import Derived.Test.YtbhlcfcmjildmaaGp
import Derived.Test.YtbhlcfcmjildmaaGn
import Derived.Test.YtbhlcfcmjildmaaGe
import Derived.Test.YtbhlcfcmjildmaaGr
import Derived.RangeFuncBound
import Derived.RangeFuncCalls
import Derived.Shelf.Abstract
import Derived.Shelf.Lay
import Derived.WalkKit
import Derived.OwnWalkIn
import Derived.TacticsInMore
import Derived.LoopNIn
import Derived.LoopIn
import Derived.RegionIn
import Derived.Maps.RangeWalk
import Derived.DeepKeys
import Derived.Deep.Cut
import Derived.Deep.DeepCutAuto
import Derived.Test.YtbhlcfcmjildmaaGc
import Derived.Test.YtbhlcfcmjildmaaGb
import Derived.RangeFuncLeaves
import Derived.RangeFuncBox
import Derived.Maps.AppendAt
import Derived.Maps.OwnIn
namespace Go.Proofs.Ytbhlcfcmjildmaa
open Go Go.RowKit
open Classical
set_option maxHeartbeats 8000000
theorem Rd.sameB {w W : World} {A : Option Addr} {xs : List Int} (h : Rd w A xs) (hs : w.heap.size ≤ W.heap.size) (he : ∀ b, b < w.heap.size → W.heap[b]? = w.heap[b]?) : Rd W A xs := by
  intro h0
  obtain ⟨b, o, rfl, hb, hc⟩ := h h0
  exact ⟨b, o, rfl, by omega, fun i hi => (World.cell?_of_block (a := ⟨b, o + i, none⟩) (he b hb)).trans (hc i hi)⟩
theorem Rd2.sameB {w W : World} {A : Option Addr} {rows : List (List Int)} (h : Rd2 w A rows) (hs : w.heap.size ≤ W.heap.size) (he : ∀ b, b < w.heap.size → W.heap[b]? = w.heap[b]?) : Rd2 W A rows := by
  intro h0
  obtain ⟨b, o, rfl, hb, hc⟩ := h h0
  refine ⟨b, o, rfl, by omega, fun i hi => ?_⟩
  obtain ⟨Ai, ci, h1, h2⟩ := hc i hi
  exact ⟨Ai, ci, (World.cell?_of_block (a := ⟨b, o + i, none⟩) (he b hb)).trans h1, h2.sameB hs he⟩
/-- What a round over the orbits is told: the first tuple and the orbit. -/
def OrbT (f s : List (List Int)) (Ls : List (List Int)) (k L : Nat) (v : Array Value) (U : Nat → Prop) (W : World) : Prop :=
  ∃ bm C, v = #[tkey ((frs (leH f) (leH s) Ls).getD k []), .map (some bm)] ∧ U bm ∧ Cls (leH f) (leH s) ((frs (leH f) (leH s) Ls).getD k []) C ∧ MetN W bm C ∧ L < W.heap.size ∧ ∀ b, U b → b < W.heap.size
theorem KeepU.of_step {U : Nat → Prop} {L : Nat} {W W' : World} (h : StepL L W W') (hL : ¬ U L) : KeepU U W W' := ⟨h.size, fun b hb hu => h.same b hb (fun e => hL (e ▸ hu))⟩
theorem StepL.grown {L : Nat} {W W' V : World} (h : StepL L W W') (hg : W'.grownBy V (some L)) : StepL L W V :=
  ⟨hg.os.trans h.os, hg.tape.trans h.tape, hg.output.trans h.output, Nat.le_trans h.size hg.size, fun b hb hn => (hg.block b (Nat.lt_of_lt_of_le hb h.size) (fun e => hn (by cases e; rfl))).trans (h.same b hb hn)⟩
theorem StepL.grownNew {L r : Nat} {W W' V : World} (h : StepL L W W') (hg : W'.grownBy V (some r)) (hr : W.heap.size ≤ r) : StepL L W V :=
  ⟨hg.os.trans h.os, hg.tape.trans h.tape, hg.output.trans h.output, Nat.le_trans h.size hg.size, fun b hb hn => (hg.block b (Nat.lt_of_lt_of_le hb h.size) (fun e => by cases e; omega)).trans (h.same b hb hn)⟩
/-- The words to which words of a list lead. -/
def MetF (h1 h2 : Nat → Nat → Int) (R Fm : List (List Int)) : Prop := Fm.Nodup ∧ ∀ y, y ∈ Fm ↔ ∃ z, z ∈ R ∧ Tch h1 h2 z y
theorem MetF.nil (h1 h2 : Nat → Nat → Int) : MetF h1 h2 [] [] := ⟨List.nodup_nil, fun y => by simp⟩
theorem MetF.more {h1 h2 b1 b2 : Nat → Nat → Int} {n : Nat} (hp : PB n h1 h2 b1 b2) {R Fm C got : List (List Int)} {t : List Int} (h : MetF h1 h2 R Fm) (ht : Tup n t) (hC : Cls h1 h2 t C) (hno : t ∉ Fm) (hg : got.Nodup) (hall : ∀ y, y ∈ C ↔ y ∈ got) : MetF h1 h2 (R ++ [t]) (Fm ++ got) := by
  refine ⟨List.nodup_append.2 ⟨h.1, hg, fun a ha b hb e => ?_⟩, fun y => ?_⟩
  · subst e
    obtain ⟨z, hz, hT⟩ := (h.2 a).1 ha
    have h2 := (hC.2 a).1 ((hall a).2 hb)
    exact hno ((h.2 t).2 ⟨z, hz, hT.trans (h2.symm hp ht)⟩)
  · rw [List.mem_append, h.2, ← hall, hC.2]
    constructor
    · rintro (⟨z, hz, hT⟩ | hT)
      · exact ⟨z, List.mem_append_left _ hz, hT⟩
      · exact ⟨t, List.mem_append_right _ (by simp), hT⟩
    · rintro ⟨z, hz, hT⟩
      rcases List.mem_append.1 hz with hz | hz
      · exact .inl ⟨z, hz, hT⟩
      · obtain rfl : z = t := by simpa using hz
        exact .inr hT
theorem MetF.part {h1 h2 b1 b2 : Nat → Nat → Int} {n : Nat} (hp : PB n h1 h2 b1 b2) {R Fm C : List (List Int)} {t p : List Int} (h : MetF h1 h2 R Fm) (ht : Tup n t) (hC : Cls h1 h2 t C) (hno : t ∉ Fm) (hpC : p ∈ C) : p ∉ Fm := fun hpf => by
  obtain ⟨z, hz, hT⟩ := (h.2 p).1 hpf
  exact hno ((h.2 t).2 ⟨z, hz, hT.trans (((hC.2 p).1 hpC).symm hp ht)⟩)
set_option maxRecDepth 100000 in
theorem orbI_any (A : Option Addr) (n c : Nat) (f : List (List Int)) (B : Option Addr) (d : Nat) (s : List (List Int)) (K N g cg pl ps pk B0 : Nat) (Ls : List (List Int)) (U0 : Nat → Prop) (w00 w0 : World) (hz : ZArg 1048576 w00 A n f B n s) (hs : SolF f s) (hK : K ≤ 12) (hN : Ls.length = N) (hNb : N ≤ 5000) (hlk : ∀ t, t ∈ Ls → t.length = K) (htu : ∀ t, t ∈ Ls → Tup n t) (hcl : ∀ t, t ∈ Ls → ∀ y, Tch (leH f) (leH s) t y → y ∈ Ls)
    (hb00 : Below w00.heap.size w00 w0) (hU : ∀ b, b < w00.heap.size → U0 b) (hU2 : ∀ b, U0 b → b < w0.heap.size) (hUl : U0 pl) (hUs : U0 ps) (hUk : U0 pk) (hUg : U0 g) (hkl : Blk w0 pl 54 [.slice (some ⟨g, 0, none⟩) N cg]) (hks : Blk w0 ps 29 [.slice A n c, .slice B n d]) (hkk : Blk w0 pk 3 [.int .i64 K]) (hvl : TupS w0 B0 (.slice (some ⟨g, 0, none⟩) N cg) Ls) (mm : Nat) :
    IterN Try.prog mm 69 #[.pointer (some ⟨pl, 0, none⟩), .pointer (some ⟨ps, 0, none⟩), .pointer (some ⟨pk, 0, none⟩)] (frs (leH f) (leH s) Ls).length (OrbT f s Ls) U0 w0 := by
  intro l J Jx V0 hW hJ hY h0
  have h12 := (hz.small hs.1).2
  have HPB := hide (hs.pb hz.sz.fl)
  have HZ := hide hz
  have HS := hide hs
  have HN := hide hN
  have HLK := hide hlk
  have HTU := hide htu
  have HCLO := hide hcl
  have HJ := hide hJ
  have HY := hide hY
  have HU := hide hU
  have HKL := hide (hkl.later hW)
  have HKS := hide (hks.later hW)
  have HKK := hide (hkk.later hW)
  have HVL := hide (hvl.later hW)
  have HUL := hide hUl
  have HUS := hide hUs
  have HUK := hide hUk
  have HUG := hide hUg
  have H0 := hide (h0 V0.heap.size (Nat.le_refl _))
  have HU2 : Hid (∀ b, U0 b → b < V0.heap.size) := hide (fun b hb => Nat.lt_of_lt_of_le (hU2 b hb) hW.size)
  have HC : Hid (∀ b, b < w00.heap.size → V0.heap[b]? = w00.heap[b]?) := hide fun b hb => (hW.block b (Nat.lt_of_lt_of_le hb hb00.size)).trans (hb00.block b hb)
  have HS0 : Hid (w00.heap.size ≤ V0.heap.size) := hide (Nat.le_trans hb00.size hW.size)
  have hmm := @run_makeMap Try.prog
  clear hz hs hN hlk htu hcl hJ hY hU hU2 hkl hks hkk hvl hUl hUs hUk hUg h0 hb00 hW
  show Calls Try.prog 69 #[.func (.yield l) #[] #[], .pointer (some ⟨pl, 0, none⟩), .pointer (some ⟨ps, 0, none⟩), .pointer (some ⟨pk, 0, none⟩)] V0 _
  obtain ⟨bL, hbL⟩ : ∃ b, V0.heap.size = b := ⟨_, rfl⟩
  have HBL := hide hbL
  go_enter Try.func69, Try.ntmps69
  go_upto_region 1 with fail
  refine wp_gen fun w1 hw1 => ?_
  have hb1 : Below V0.heap.size V0 w1 := by rw [hw1]; exact (Below.refl _ _).alloc (Nat.le_refl _) _
  have HM1 : Hid (MetN w1 bL []) := hide (by
    rw [hw1, ← hbL]
    have h := MapN.made 61 V0
    exact h.congr (fun k => congrFun metV_nil k))
  have HKU1 : Hid (KeepU U0 V0 w1) := hide (KeepU.below hb1)
  have HJ1 : Hid (J 0 bL (fun b => U0 b ∨ b = bL) w1) := hide (HJ.out 0 bL U0 _ V0 w1 (by rw [← hbL]; exact H0.out) (StepL.of bL hb1) (fun b hb => by
    rcases hb with h | h
    · exact .inl h
    · exact .inr (by omega)))
  clear hw1 hb1 hbL H0 hmm
  have k0 := (HKL.out.cell 0 _ rfl)
  have k0' : w1.cell? ⟨pl, 0, none⟩ = some (.slice (some ⟨g, 0, none⟩) N cg) := (World.cell?_of_block (a := ⟨pl, 0, none⟩) (HKU1.out.2 pl HKL.out.lt HUL.out)).trans k0
  clear k0
  go_wp2_with fail
  clear k0'
  go_loopw [7, 8, 9, 10, 14] (fun _ _ _ _ iv wr => ∃ (i : Nat) (Fm : List (List Int)) (U : Nat → Prop), i ≤ N ∧ iv = .int .i64 i ∧ J (frs (leH f) (leH s) (Ls.take i)).length bL U wr ∧ (∀ b, U0 b → U b) ∧ U bL ∧ KeepU U0 V0 wr ∧ bL < wr.heap.size ∧ MetN wr bL Fm ∧ MetF (leH f) (leH s) (frs (leH f) (leH s) (Ls.take i)) Fm) (fun _ _ _ _ iv _ => N - (intOf iv).toNat)
  case atStart => exact ⟨0, [], _, Nat.zero_le _, rfl, HJ1.out, fun b hb => .inl hb, .inr rfl, HKU1.out, HM1.out.lt, HM1.out, MetF.nil _ _⟩
  case round =>
    obtain ⟨wx, rfl⟩ : ∃ x, x = wr := ⟨wr, rfl⟩
    obtain ⟨i, Fm, U, hi, rfl, hj, hu1, hu2, hku, hbs, hme, hmf⟩ := hrel
    have HJX := hide hj
    have HU1 := hide hu1
    have HU3 := hide hu2
    have HKU := hide hku
    have HME := hide hme
    have HMF := hide hmf
    clear HJ1 HKU1 HM1 hj hu1 hu2 hku hme hmf
    have HKLx : Hid (Blk wx pl 54 [.slice (some ⟨g, 0, none⟩) N cg]) := hide ((HKU.out.2 pl HKL.out.lt HUL.out).trans HKL.out)
    have HKSx : Hid (Blk wx ps 29 [.slice A n c, .slice B n d]) := hide ((HKU.out.2 ps HKS.out.lt HUS.out).trans HKS.out)
    have HKKx : Hid (Blk wx pk 3 [.int .i64 K]) := hide ((HKU.out.2 pk HKK.out.lt HUK.out).trans HKK.out)
    have HZx : Hid (ZArg 1048576 wx A n f B n s) := hide (by
      have hsz : w00.heap.size ≤ wx.heap.size := Nat.le_trans HS0.out HKU.out.1
      have he : ∀ b, b < w00.heap.size → wx.heap[b]? = w00.heap[b]? := fun b hb => (HKU.out.2 b (Nat.lt_of_lt_of_le hb HS0.out) (HU.out b hb)).trans (HC.out b hb)
      exact ⟨HZ.out.sz, HZ.out.fst.sameB hsz he, HZ.out.snd.sameB hsz he⟩)
    by_cases hlt : i < N
    · have hiz : (i : Int) < N := by omega
      have hiL : i < Ls.length := by rw [HN.out]; exact hlt
      have hlen : ∀ t, t ∈ Ls → t.length ≤ 12 := fun t ht => by rw [HLK.out t ht]; exact hK
      obtain ⟨g', cg', hv', _, _, _, hgl, hcl⟩ := HVL.out.at hlen hiL
      injection hv' with hv1 hv2 hv3
      injection hv1 with hv1
      injection hv1 with hv1
      subst hv1
      clear hv2 hv3
      obtain ⟨t, ht⟩ : ∃ t, Ls.getD i [] = t := ⟨_, rfl⟩
      rw [ht] at hcl
      have htm : t ∈ Ls := by rw [← ht]; exact tgetD_mem _ i [] hiL
      have HTM := hide htm
      have HTK : Hid (Ls.take (i + 1) = Ls.take i ++ [t]) := hide (by rw [take_next hiL, ht])
      have htl := HLK.out t htm
      have HTL := hide htl
      have htp := pad12_length (xs := t) (by omega)
      obtain ⟨tp, htpe⟩ : ∃ tp, pad12 t = tp := ⟨_, rfl⟩
      rw [htpe] at htp hcl
      obtain ⟨t0, t1, t2, t3, t4, t5, t6, t7, t8, t9, t10, t11, rfl⟩ := list12 htp
      have hkt : tkey t = .agg #[.int .i64 t0, .int .i64 t1, .int .i64 t2, .int .i64 t3, .int .i64 t4, .int .i64 t5, .int .i64 t6, .int .i64 t7, .int .i64 t8, .int .i64 t9, .int .i64 t10, .int .i64 t11] := by unfold tkey; rw [htpe]; rfl
      have HKT := hide hkt
      have hgx : ∀ o, wx.cell? ⟨g, o, none⟩ = V0.cell? ⟨g, o, none⟩ := fun o => World.cell?_of_block (a := ⟨g, o, none⟩) (HKU.out.2 g hgl HUG.out)
      have kc0 : wx.cell? ⟨g, i * 12 + 0, none⟩ = some (.int .i64 t0) := (hgx _).trans (hcl 0 (by omega))
      have kc1 : wx.cell? ⟨g, i * 12 + 1, none⟩ = some (.int .i64 t1) := (hgx _).trans (hcl 1 (by omega))
      have kc2 : wx.cell? ⟨g, i * 12 + 2, none⟩ = some (.int .i64 t2) := (hgx _).trans (hcl 2 (by omega))
      have kc3 : wx.cell? ⟨g, i * 12 + 3, none⟩ = some (.int .i64 t3) := (hgx _).trans (hcl 3 (by omega))
      have kc4 : wx.cell? ⟨g, i * 12 + 4, none⟩ = some (.int .i64 t4) := (hgx _).trans (hcl 4 (by omega))
      have kc5 : wx.cell? ⟨g, i * 12 + 5, none⟩ = some (.int .i64 t5) := (hgx _).trans (hcl 5 (by omega))
      have kc6 : wx.cell? ⟨g, i * 12 + 6, none⟩ = some (.int .i64 t6) := (hgx _).trans (hcl 6 (by omega))
      have kc7 : wx.cell? ⟨g, i * 12 + 7, none⟩ = some (.int .i64 t7) := (hgx _).trans (hcl 7 (by omega))
      have kc8 : wx.cell? ⟨g, i * 12 + 8, none⟩ = some (.int .i64 t8) := (hgx _).trans (hcl 8 (by omega))
      have kc9 : wx.cell? ⟨g, i * 12 + 9, none⟩ = some (.int .i64 t9) := (hgx _).trans (hcl 9 (by omega))
      have kc10 : wx.cell? ⟨g, i * 12 + 10, none⟩ = some (.int .i64 t10) := (hgx _).trans (hcl 10 (by omega))
      have kc11 : wx.cell? ⟨g, i * 12 + 11, none⟩ = some (.int .i64 t11) := (hgx _).trans (hcl 11 (by omega))
      rw [Nat.add_zero] at kc0
      clear htp htpe hcl hgx ht htm htl hkt hlen
      go_upto_region 4 with fail
      refine wp_gen fun wa hwa => ?_
      obtain ⟨tb, htb⟩ : ∃ tb, wx.heap.size = tb := ⟨_, rfl⟩
      have hba : Below wx.heap.size wx wa := by rw [hwa]; exact (Below.refl _ _).alloc (Nat.le_refl _) _
      have HTB : Hid (Blk wa tb 61 [.int .i64 t0, .int .i64 t1, .int .i64 t2, .int .i64 t3, .int .i64 t4, .int .i64 t5, .int .i64 t6, .int .i64 t7, .int .i64 t8, .int .i64 t9, .int .i64 t10, .int .i64 t11]) := hide (by rw [hwa, ← htb]; exact Blk.new _ _ _)
      have HBa := hide hba
      have HMa := hide (HME.out.later hba)
      have hbl : bL < tb := by omega
      rw [htb]
      clear hwa hba kc0 kc1 kc2 kc3 kc4 kc5 kc6 kc7 kc8 kc9 kc10 kc11
      obtain ⟨kl, hkl⟩ := tkey_ex ((HTU.out t HTM.out).sm h12)
      have hfm : ∀ p, p ∈ Fm → p.length = K := fun p hp => by
        obtain ⟨z, hz, hT⟩ := (HMF.out.2 p).1 hp
        rw [hT.len]
        exact HLK.out z (List.mem_of_mem_take (frs_sub _ z hz))
      have hlook := MapN.look1 tk_keyed HMa.out Try.underlying62 (z := .bool false) (by kernel_rfl) hkl
      rw [metV_at hfm HTL.out, HKT.out] at hlook
      have HFM := hide hfm
      clear hfm hkl htb
      have kt0 := HTB.out.cell 0 _ rfl
      have kt1 := HTB.out.cell 1 _ rfl
      have kt2 := HTB.out.cell 2 _ rfl
      have kt3 := HTB.out.cell 3 _ rfl
      have kt4 := HTB.out.cell 4 _ rfl
      have kt5 := HTB.out.cell 5 _ rfl
      have kt6 := HTB.out.cell 6 _ rfl
      have kt7 := HTB.out.cell 7 _ rfl
      have kt8 := HTB.out.cell 8 _ rfl
      have kt9 := HTB.out.cell 9 _ rfl
      have kt10 := HTB.out.cell 10 _ rfl
      have kt11 := HTB.out.cell 11 _ rfl
      by_cases hin : t ∈ Fm
      · have HIN := hide hin
        rw [decide_eq_true hin] at hlook
        have hfr : frs (leH f) (leH s) (Ls.take (i + 1)) = frs (leH f) (leH s) (Ls.take i) := by
          rw [HTK.out, frs_old]
          exact (HMF.out.2 t).1 hin
        have HFR := hide hfr
        have HJn : Hid (J (frs (leH f) (leH s) (Ls.take i)).length bL U wa) := hide (HJ.out _ bL U U wx wa HJX.out (StepL.of bL HBa.out) (fun b hb => .inl hb))
        have HKn := hide (HKU.out.trans (KeepU.below HBa.out))
        have hsa := HMa.out.lt
        clear hin hfr
        go_wp2_with fail
        go_roundw
        case rel => exact ⟨i + 1, Fm, U, by omega, by go_num, by rw [HFR.out]; exact HJn.out, HU1.out, HU3.out, HKn.out, hsa, HMa.out, by rw [HFR.out]; exact HMF.out⟩
        case measure => simp [intOf]; omega
      · have HIN := hide hin
        rw [decide_eq_false hin] at hlook
        have hfr : frs (leH f) (leH s) (Ls.take (i + 1)) = frs (leH f) (leH s) (Ls.take i) ++ [t] := by
          rw [HTK.out, frs_new]
          exact fun h => hin ((HMF.out.2 t).2 h)
        have HFR := hide hfr
        have HFEW : Hid (FewT (leH f) (leH s) t N) := hide (by
          obtain ⟨C, hC⟩ := Cls.ex HPB.out (HTU.out t HTM.out)
          refine ⟨C, hC, ?_⟩
          have h := tnodup_le hC.1 (fun y hy => HCLO.out t HTM.out y ((hC.2 y).1 hy))
          rw [HN.out] at h
          exact h)
        have kl0 := (HKLx.out.later HBa.out).cell 0 _ rfl
        have ks0 := (HKSx.out.later HBa.out).cell 0 _ rfl
        have ks1 := (HKSx.out.later HBa.out).cell 1 _ rfl
        have kk0 := (HKKx.out.later HBa.out).cell 0 _ rfl
        clear hin hfr
        go_wp2_with fail
        have hcall := orbitOf_yes A n c f B d s t K N wa (HZx.out.later HBa.out) HS.out (HTU.out t HTM.out) HTL.out (by omega) hNb HFEW.out
        rw [HKT.out] at hcall
        refine hcall.mono ?_
        clear hcall kl0 ks0 ks1 kk0 kt0 kt1 kt2 kt3 kt4 kt5 kt6 kt7 kt8 kt9 kt10 kt11 hlook
        rintro e w3 ⟨C, bm, hC, hCl, rfl, hb3, hbm, hmet⟩
        have hsa : wx.heap.size ≤ wa.heap.size := HBa.out.size
        have hba3 : bL < wa.heap.size := HMa.out.lt
        have htb3 := HTB.out.lt
        have HBx3 := hide (HBa.out.trans (hb3.mono hsa))
        have HTB3 := hide (HTB.out.later hb3)
        have HM3 := hide (HMa.out.later hb3)
        have HCC := hide hC
        have HMET := hide hmet
        have hbm3 := hmet.lt
        obtain ⟨w4, cnt0, hrun, hR4, hg4, hs4⟩ := MetN.range hmet Try.underlying62
        have hb4 : Below w3.heap.size w3 w4 := (Below.refl _ w3).grown hg4 (Nat.le_refl _) (fun g hg => by cases hg)
        have hs3 : wa.heap.size ≤ w3.heap.size := hb3.size
        have HBx4 := hide (HBx3.out.trans (hb4.mono (by omega)))
        have HTB4 := hide (HTB3.out.later hb4)
        have HM4 := hide (HM3.out.later hb4)
        have HE4 : Hid (w4.heap[bm]? = w3.heap[bm]?) := hide (hb4.block bm hbm3)
        obtain ⟨r, hr⟩ : ∃ r, w3.heap.size = r := ⟨_, rfl⟩
        rw [hr] at hrun hR4
        have HR4 := hide hR4
        have hrx : wx.heap.size ≤ r := by omega
        have hrb : bL < r := by omega
        have hrt : tb < r := by omega
        have hrm : bm < r := by omega
        clear hC hb3 hmet hR4 hg4 hs4 hb4 hr HBx3 HTB3 HM3 HBa HMa HTB
        go_wp2_with fail
        clear hrun
        have HLM : Hid (∀ p, p ∈ C → p.length = K) := hide (fun p hp => by rw [((HCC.out.2 p).1 hp).len]; exact HTL.out)
        have HSM : Hid (∀ p, p ∈ C → Sm p) := hide (fun p hp => (((HCC.out.2 p).1 hp).tup HPB.out (HTU.out t HTM.out)).sm h12)
        go_loopw [10] (fun _ wi => ∃ (got : List (List Int)) (cnt : Nat), StepL bL wx wi ∧ Blk wi tb 61 [.int .i64 t0, .int .i64 t1, .int .i64 t2, .int .i64 t3, .int .i64 t4, .int .i64 t5, .int .i64 t6, .int .i64 t7, .int .i64 t8, .int .i64 t9, .int .i64 t10, .int .i64 t11] ∧ wi.heap[bm]? = w3.heap[bm]? ∧ MetR wi bm r C got cnt ∧ MetN wi bL (Fm ++ got)) (fun _ wi => wi.rangeLeft bm r)
        case atStart => exact ⟨[], cnt0, StepL.of bL HBx4.out, HTB4.out, HE4.out, HR4.out, by rw [List.append_nil]; exact HM4.out⟩
        case round =>
          obtain ⟨wi, rfl⟩ : ∃ x, x = wr := ⟨wr, rfl⟩
          obtain ⟨got, cnt, hst, htb, heb, hmr, hmn⟩ := hrel
          clear HBx4 HTB4 HE4 HR4 HM4
          have HST := hide hst
          have HTB := hide htb
          have HEB := hide heb
          have HMN := hide hmn
          have hleft := hmr.left_eq
          have hgn : got.Nodup := by obtain ⟨_, _, _, _, h, _⟩ := hmr; exact h
          have hgs : ∀ y, y ∈ got → y ∈ C := by obtain ⟨_, _, _, _, _, h, _⟩ := hmr; exact h
          have HGN := hide hgn
          have HGS := hide hgs
          have HMR := hide hmr
          rcases hmr.next HLM.out HSM.out 0 with ⟨hall, hnx⟩ | ⟨p, v, w5, cnt3, hp, hpg, hnx, hr5, hlt5, hg5, hs5, hen⟩
          · have HALL := hide hall
            obtain ⟨R, hR⟩ := frs_take (h1 := leH f) (h2 := leH s) (L := Ls) (i + 1) (by rw [HN.out]; omega)
            rw [HFR.out] at hR
            obtain ⟨k, hk⟩ : ∃ k, (frs (leH f) (leH s) (Ls.take i)).length = k := ⟨_, rfl⟩
            have hkN : k < (frs (leH f) (leH s) Ls).length := by rw [hR, ← hk]; simp
            have hkt : (frs (leH f) (leH s) Ls).getD k [] = t := by
              rw [hR, ← hk, List.append_assoc]
              simp [List.getD_eq_getElem?_getD]
            have hmb : MetN wi bm C := MapN.of_block HMET.out HEB.out
            have hjw : J k bL (fun b => U0 b ∨ b = bL ∨ b = bm) wi := by
              rw [← hk]
              exact HJ.out _ bL U _ wx wi HJX.out HST.out (fun b hb => by
                rcases hb with h | h | h
                · exact .inl (HU1.out b h)
                · subst h; exact .inl HU3.out
                · exact .inr (by omega))
            have hyy := HY.out k bL #[tkey t, .map (some bm)] _ wi hkN hjw ⟨bm, C, by rw [hkt], .inr (.inr rfl), by rw [hkt]; exact HCC.out, hmb, HMN.out.lt, fun b hb => by
              rcases hb with h | h | h
              · exact Nat.lt_of_lt_of_le (HU2.out b h) (Nat.le_trans HKU.out.1 HST.out.size)
              · subst h; exact HMN.out.lt
              · subst h; exact hmb.lt⟩
            rw [HKT.out] at hyy
            obtain ⟨fn, tmps, assign, body, hy, hRR⟩ := hyy
            have HRR := hide hRR
            have HKE := hide hk
            have HMF2 := hide (HMF.out.more HPB.out (HTU.out t HTM.out) HCC.out HIN.out HGN.out HALL.out)
            have HKW : Hid (KeepU U0 V0 wi) := hide (HKU.out.trans (KeepU.of_step HST.out (fun h => by have h1 := HU2.out _ h; have h2 := HBL.out; omega)))
            have kt0 := HTB.out.cell 0 _ rfl
            have kt1 := HTB.out.cell 1 _ rfl
            have kt2 := HTB.out.cell 2 _ rfl
            have kt3 := HTB.out.cell 3 _ rfl
            have kt4 := HTB.out.cell 4 _ rfl
            have kt5 := HTB.out.cell 5 _ rfl
            have kt6 := HTB.out.cell 6 _ rfl
            have kt7 := HTB.out.cell 7 _ rfl
            have kt8 := HTB.out.cell 8 _ rfl
            have kt9 := HTB.out.cell 9 _ rfl
            have kt10 := HTB.out.cell 10 _ rfl
            have kt11 := HTB.out.cell 11 _ rfl
            clear hst htb heb hmr hmn hgn hgs hR hk hkN hkt hmb hjw hRR hall
            go_upto_region 10 with fail
            refine (wpIn_wide (n := mm + 1)).1 ?_
            gi_wp2
            refine HRR.out.mono ?_
            clear kt0 kt1 kt2 kt3 kt4 kt5 kt6 kt7 kt8 kt9 kt10 kt11 HRR
            rintro e W3 (⟨rfl, hj3, hku3⟩ | ⟨rfl, hjx⟩)
            · have HJ3 := hide hj3
              have HKn := hide (HKW.out.trans (hku3.less (U' := U0) (fun b hb => .inl (.inl hb))))
              have hbn := HMN.out.lt
              have hb3 : bL < W3.heap.size := Nat.lt_of_lt_of_le hbn hku3.1
              have HMn : Hid (MetN W3 bL (Fm ++ got)) := hide (MapN.of_block HMN.out (hku3.2 bL hbn (.inr (.inl rfl))))
              clear hj3 hku3
              gi_wp2
              go_wp2_with fail
              go_roundw
              case rel =>
                refine ⟨i + 1, Fm ++ got, fun b => U0 b ∨ b = bL ∨ b = bm, by omega, by go_num, ?_, fun b hb => .inl hb, .inr (.inl rfl), HKn.out, hb3, HMn.out, by rw [HFR.out]; exact HMF2.out⟩
                rw [HFR.out, List.length_append, HKE.out]
                exact HJ3.out
              case measure => simp [intOf]; omega
            · gi_wp2
              go_wp2_with fail
              refine bodyPost_ret (results_none rfl _ _ _) rfl ?_
              refine ⟨⟨_, rfl⟩, .inr ⟨_, bL, _, ?_, hjx⟩⟩
              obtain ⟨R, hR⟩ := frs_take (h1 := leH f) (h2 := leH s) (L := Ls) (i + 1) (by rw [HN.out]; omega)
              rw [HFR.out] at hR
              rw [hR, ← HKE.out]
              simp
          · have hpF := HMF.out.part HPB.out (HTU.out t HTM.out) HCC.out HIN.out hp
            have hpl := HLM.out p hp
            have hpp := pad12_length (xs := p) (by rw [hpl]; exact hK)
            obtain ⟨pp, hppe⟩ : ∃ pp, pad12 p = pp := ⟨_, rfl⟩
            rw [hppe] at hpp
            obtain ⟨p0, p1, p2, p3, p4, p5, p6, p7, p8, p9, p10, p11, rfl⟩ := list12 hpp
            have hkp : tkey p = .agg #[.int .i64 p0, .int .i64 p1, .int .i64 p2, .int .i64 p3, .int .i64 p4, .int .i64 p5, .int .i64 p6, .int .i64 p7, .int .i64 p8, .int .i64 p9, .int .i64 p10, .int .i64 p11] := by unfold tkey; rw [hppe]; rfl
            rw [hkp] at hnx hen
            have hnoF : p ∉ Fm ++ got := fun h => by
              rcases List.mem_append.1 h with h | h
              · exact hpF h
              · exact hpg h
            obtain ⟨kl2, hkl2⟩ := tkey_ex (HSM.out p hp)
            have HST5 := hide (HST.out.grownNew hg5 hrx)
            have hlb := HMN.out.lt
            have HTB5 : Hid (Blk w5 tb 61 [.int .i64 t0, .int .i64 t1, .int .i64 t2, .int .i64 t3, .int .i64 t4, .int .i64 t5, .int .i64 t6, .int .i64 t7, .int .i64 t8, .int .i64 t9, .int .i64 t10, .int .i64 t11]) := hide ((hg5.block tb HTB.out.lt (fun e => by cases e; omega)).trans HTB.out)
            have HEB5 : Hid (w5.heap[bm]? = w3.heap[bm]?) := hide ((hg5.block bm HMR.out.ltb (fun e => by cases e; omega)).trans HEB.out)
            have HMN5 : Hid (MetN w5 bL (Fm ++ got)) := hide (MapN.of_block HMN.out (hg5.block bL hlb (fun e => by cases e; omega)))
            have HR5 := hide hr5
            have HKP := hide hkp
            have HPL := hide hpl
            have HP := hide hp
            have HPG := hide hpg
            have HNF := hide hnoF
            have HKL2 := hide hkl2
            clear hst htb heb hmr hmn hgn hgs hpl hpp hppe hkp hp hpg hpF hnoF hkl2 hr5 hg5 hs5 HST HTB HEB HMN HMR
            go_upto_region 9 with fail
            refine wp_gen fun w6 hw6 => ?_
            obtain ⟨pb, hpb⟩ : ∃ pb, w5.heap.size = pb := ⟨_, rfl⟩
            have hb6 : Below w5.heap.size w5 w6 := by rw [hw6]; exact (Below.refl _ _).alloc (Nat.le_refl _) _
            have HPB6 : Hid (Blk w6 pb 61 [.int .i64 p0, .int .i64 p1, .int .i64 p2, .int .i64 p3, .int .i64 p4, .int .i64 p5, .int .i64 p6, .int .i64 p7, .int .i64 p8, .int .i64 p9, .int .i64 p10, .int .i64 p11]) := hide (by rw [hw6, ← hpb]; exact Blk.new _ _ _)
            rw [hpb]
            have HST6 := hide (HST5.out.trans (StepL.of bL hb6))
            have HTB6 := hide (HTB5.out.later hb6)
            have HEB6 : Hid (w6.heap[bm]? = w3.heap[bm]?) := hide ((hb6.block bm HR5.out.ltb).trans HEB5.out)
            have HMN6 := hide (HMN5.out.later hb6)
            have HR6 := hide (HR5.out.later hb6)
            clear hw6 hb6 hpb hnx hen HST5 HTB5 HEB5 HMN5 HR5
            have hfm2 : ∀ q, q ∈ Fm ++ got → q.length = K := fun q hq => by
              rcases List.mem_append.1 hq with h | h
              · exact HFM.out q h
              · exact HLM.out q (HGS.out q h)
            have hfl : (Fm ++ got).length < maxLen := by
              have h1 := tnodup_le HMF.out.1 (fun y hy => by
                obtain ⟨z, hz, hT⟩ := (HMF.out.2 y).1 hy
                exact HCLO.out z (List.mem_of_mem_take (frs_sub _ z hz)) y hT)
              have h2 := tnodup_le HGN.out HGS.out
              rw [HN.out] at h1
              rw [List.length_append]
              unfold maxLen
              omega
            obtain ⟨w7, hup, hm7, hg7⟩ := MapN.add tk_keyed HMN6.out Try.underlying62 (z := .bool false) (by kernel_rfl) hfl HKL2.out (metV_none hfm2 HPL.out HNF.out) (.bool true)
            rw [HKP.out] at hup
            have HST7 := hide (HST6.out.grown hg7)
            have HTB7 : Hid (Blk w7 tb 61 [.int .i64 t0, .int .i64 t1, .int .i64 t2, .int .i64 t3, .int .i64 t4, .int .i64 t5, .int .i64 t6, .int .i64 t7, .int .i64 t8, .int .i64 t9, .int .i64 t10, .int .i64 t11]) := hide ((hg7.block tb HTB6.out.lt (fun e => by cases e; omega)).trans HTB6.out)
            have HEB7 : Hid (w7.heap[bm]? = w3.heap[bm]?) := hide ((hg7.block bm HR6.out.ltb (fun e => by cases e; omega)).trans HEB6.out)
            have HR7 : Hid (MetR w7 bm r C (got ++ [p]) cnt3) := hide (HR6.out.of_blocks (hg7.block bm HR6.out.ltb (fun e => by cases e; omega)) (hg7.block r HR6.out.ltr (fun e => by cases e; omega)))
            have HMN7 : Hid (MetN w7 bL (Fm ++ (got ++ [p]))) := hide (by
              rw [← List.append_assoc]
              unfold MetN
              rw [List.length_append]
              exact hm7.congr (fun k => metV_add (Fm ++ got) p k))
            have hlt7 : cnt3 < cnt := hlt5
            clear hm7 hg7 hfm2 hfl HST6 HTB6 HEB6 HMN6 HR6
            have kp0 := HPB6.out.cell 0 _ rfl
            have kp1 := HPB6.out.cell 1 _ rfl
            have kp2 := HPB6.out.cell 2 _ rfl
            have kp3 := HPB6.out.cell 3 _ rfl
            have kp4 := HPB6.out.cell 4 _ rfl
            have kp5 := HPB6.out.cell 5 _ rfl
            have kp6 := HPB6.out.cell 6 _ rfl
            have kp7 := HPB6.out.cell 7 _ rfl
            have kp8 := HPB6.out.cell 8 _ rfl
            have kp9 := HPB6.out.cell 9 _ rfl
            have kp10 := HPB6.out.cell 10 _ rfl
            have kp11 := HPB6.out.cell 11 _ rfl
            go_wp2_with fail
            go_roundw
            case rel => exact ⟨got ++ [p], cnt3, HST7.out, HTB7.out, HEB7.out, HR7.out, HMN7.out⟩
            case measure => rw [HR7.out.left_eq]; omega
    · have hiN : i = N := by omega
      have hiz : ¬ (i : Int) < N := by omega
      have hall : Ls.take i = Ls := List.take_of_length_le (by rw [HN.out]; omega)
      rw [hall] at HJX
      clear HMF
      go_wp2_with fail
      go_end0
      exact ⟨⟨_, rfl⟩, .inl ⟨_, _, HJX.out⟩⟩
end Go.Proofs.Ytbhlcfcmjildmaa
namespace Go.Proofs.Ytbhlcfcmjildmaa
open Go Go.RowKit
open Classical
set_option maxHeartbeats 1000000
/-- What the Garside word is told. -/
def GwR (f s : List (List Int)) (zs : List Int) (code : Int) : Prop :=
  (¬ SolF f s ∧ zs = [] ∧ code = 1) ∨ (SolF f s ∧ ¬ (NonF f s ∧ InvF f s) ∧ zs = [] ∧ code = 5) ∨ (SolF f s ∧ (NonF f s ∧ InvF f s) ∧ 5 < f.length ∧ zs = [] ∧ code = 3) ∨
  (SolF f s ∧ (NonF f s ∧ InvF f s) ∧ f.length ≤ 5 ∧ code = 0 ∧ ∃ i, i < (nws (leH f) (leH s) (wds f.length f.length)).length ∧ Full (leH f) (leH s) f.length ((nws (leH f) (leH s) (wds f.length f.length)).getD i []) ∧ (∀ j, j < (nws (leH f) (leH s) (wds f.length f.length)).length → Full (leH f) (leH s) f.length ((nws (leH f) (leH s) (wds f.length f.length)).getD j []) → j = i) ∧ zs = (nws (leH f) (leH s) (wds f.length f.length)).getD i [])
theorem GwR.ex (f s : List (List Int)) : ∃ zs code, GwR f s zs code ∧ zs.length ≤ 1048576 := by
  by_cases h : SolF f s
  · by_cases h2 : NonF f s ∧ InvF f s
    · by_cases h3 : f.length ≤ 5
      · have h1 : 1 ≤ f.length := h.1.1.1
        obtain ⟨i, hi, hf, hu⟩ := garside_one (lamS_of h rfl h2.1.1 h2.2) (h.pb rfl) h1 (by omega)
        refine ⟨_, 0, .inr (.inr (.inr ⟨h, h2, h3, rfl, i, hi, hf, hu, rfl⟩)), ?_⟩
        have hm := ((nws_mem _ _).1 (tgetD_mem (nws (leH f) (leH s) (wds f.length f.length)) i [] hi)).1
        have := ((wds_mem _ _).1 hm).1
        omega
      · exact ⟨[], 3, .inr (.inr (.inl ⟨h, h2, by omega, rfl, rfl⟩)), by simp⟩
    · exact ⟨[], 5, .inr (.inl ⟨h, h2, rfl, rfl⟩), by simp⟩
  · exact ⟨[], 1, .inl ⟨h, rfl, rfl⟩, by simp⟩
/-- The first letters of some words of a class. -/
def FstL (L : List (List Int)) (k : Nat) (fl : List Int) : Prop := fl.Nodup ∧ ∀ v, v ∈ fl ↔ ∃ r, r < k ∧ (L.getD r []).getD 0 0 = v
theorem FstL.nil (L : List (List Int)) : FstL L 0 [] := ⟨List.nodup_nil, fun v => ⟨fun h => absurd h List.not_mem_nil, fun ⟨r, h, _⟩ => by omega⟩⟩
theorem FstL.old {L : List (List Int)} {k : Nat} {fl : List Int} (h : FstL L k fl) (hm : (L.getD k []).getD 0 0 ∈ fl) : FstL L (k + 1) fl := ⟨h.1, fun v => by
  rw [h.2]
  constructor
  · rintro ⟨r, h1, h2⟩; exact ⟨r, by omega, h2⟩
  · rintro ⟨r, h1, h2⟩
    by_cases e : r = k
    · subst e; rw [h2] at hm; exact (h.2 v).1 hm
    · exact ⟨r, by omega, h2⟩⟩
theorem FstL.new {L : List (List Int)} {k : Nat} {fl : List Int} (h : FstL L k fl) (hm : (L.getD k []).getD 0 0 ∉ fl) : FstL L (k + 1) (fl ++ [(L.getD k []).getD 0 0]) := by
  refine ⟨List.nodup_append.2 ⟨h.1, by simp, fun a ha b hb e => ?_⟩, fun v => ?_⟩
  · have e2 : b = (L.getD k []).getD 0 0 := by simpa using hb
    subst e
    rw [e2] at ha
    exact hm ha
  · rw [List.mem_append, h.2]
    constructor
    · rintro (⟨r, h1, h2⟩ | h2)
      · exact ⟨r, by omega, h2⟩
      · exact ⟨k, by omega, (List.mem_singleton.1 h2).symm⟩
    · rintro ⟨r, h1, h2⟩
      by_cases e : r = k
      · subst e; exact .inr (by simpa using h2.symm)
      · exact .inl ⟨r, by omega, h2⟩
theorem FstL.full {h1 h2 : Nat → Nat → Int} {n : Nat} (hl : LamS n h1 h2) (hn : 1 ≤ n) {t : List Int} {L : List (List Int)} {fl : List Int} (ht : Inn n t) (htl : t.length = n) (hL : Cls h1 h2 t L) (h : FstL L L.length fl) : fl.length ≤ n ∧ (fl.length = n ↔ Full h1 h2 n t) := by
  have hin : ∀ v, v ∈ fl → v ∈ elsI n := fun v hv => by
    obtain ⟨r, hr, e⟩ := (h.2 v).1 hv
    have hT := (hL.2 _).1 (tgetD_mem L r [] hr)
    have hlen := hT.len
    have hw := hl.tch_in ht hT
    rw [elsI_mem, ← e]
    exact hw _ (tgetD_mem _ 0 0 (by omega))
  have hle : fl.length ≤ n := by
    have := tnodup_le h.1 hin
    simpa [elsI] using this
  refine ⟨hle, ?_, ?_⟩
  · intro hfl x hx hx2
    have hp := perm_of_sub fl (elsI n) h.1 hin (by rw [hfl]; simp [elsI])
    have hxm : x ∈ fl := hp.mem_iff.2 ((elsI_mem x).2 ⟨hx, hx2⟩)
    obtain ⟨r, hr, e⟩ := (h.2 x).1 hxm
    exact ⟨_, (hL.2 _).1 (tgetD_mem L r [] hr), e⟩
  · intro hf
    have hge : (elsI n).length ≤ fl.length := tnodup_le elsI_nodup (fun x hx => by
      obtain ⟨h3, h4⟩ := (elsI_mem x).1 hx
      obtain ⟨w', hT, e⟩ := hf x h3 h4
      obtain ⟨r, hr, e2⟩ := List.getElem_of_mem ((hL.2 w').2 hT)
      exact (h.2 x).2 ⟨r, hr, by rw [show L.getD r [] = w' by simp [hr, e2]]; exact e⟩)
    have : (elsI n).length = n := by simp [elsI]
    omega
end Go.Proofs.Ytbhlcfcmjildmaa
namespace Go.Proofs.Ytbhlcfcmjildmaa
open Go Go.RowKit Go.Shelf
open Classical
attribute [local go_sem] Oper.semAt_some
attribute [-go_sem] Builtin.append_
set_option maxHeartbeats 4000000
/-- Neither the list nor one of its rows lies in block X. -/
def LFar (v : Value) (vals : List Value) (X : Nat) : Prop := v.ownBlock ≠ some X ∧ ∀ u, u ∈ vals → u.ownBlock ≠ some X
theorem LstV.skip {ts t : TypeId} {B X : Nat} {w w' : World} {v : Value} {rows : List (List Int)} {vals : List Value} (h : LstV ts t B w v rows vals) (hf : LFar v vals X) (hs : w.heap.size ≤ w'.heap.size) (he : ∀ b, b < w.heap.size → b ≠ X → w'.heap[b]? = w.heap[b]?) : LstV ts t B w' v rows vals := by
  refine ⟨⟨h.own.1, ?_⟩, fun i hi => ?_, h.ne⟩
  · rcases h.own.2 with h2 | ⟨g, cap, cur, hv, hg, hh, r⟩
    · exact .inl h2
    · exact .inr ⟨g, cap, cur, hv, hg, (he g (Array.getElem?_eq_some_iff.1 hh).1 (fun e => hf.1 (by rw [hv, ← e]; rfl))).trans hh, r⟩
  · obtain ⟨A, c, h1, h2⟩ := h.row i hi
    refine ⟨A, c, h1, ?_⟩
    rcases h2 with h2 | ⟨g, e1, e2, e3, e4⟩
    · exact .inl h2
    · refine .inr ⟨g, e1, e2, by omega, e4.of_block (he g e3 (fun e => ?_))⟩
      obtain ⟨hlt, h5⟩ := List.getElem?_eq_some_iff.1 h1
      exact hf.2 _ (List.mem_of_getElem h5) (by rw [e1, ← e]; rfl)
/-- Each block of the list holds cells. -/
theorem LstV.cellsF {ts t : TypeId} {B X : Nat} {w : World} {v : Value} {rows : List (List Int)} {vals : List Value} {o : Obj} (h : LstV ts t B w v rows vals) (ho : w.heap[X]? = some o) (hc : o.isCells = false) : LFar v vals X := by
  refine ⟨fun e => ?_, fun u hu e => ?_⟩
  · rcases h.own.2 with ⟨h2, _⟩ | ⟨g, cap, cur, hv, _, hh, _⟩
    · rw [h2] at e; simp [Value.ownBlock] at e
    · rw [hv] at e
      have e2 : g = X := by simpa [Value.ownBlock] using e
      subst e2
      rw [hh] at ho; injection ho with ho; subst ho; cases hc
  · obtain ⟨i, hi, hu2⟩ := List.getElem_of_mem hu
    have hil : i < rows.length := by have := ownsRow_len h.own; omega
    obtain ⟨A, c, h1, h2⟩ := h.row i hil
    have h3 : vals[i]? = some u := by rw [List.getElem?_eq_getElem hi, hu2]
    rw [h3] at h1; injection h1 with h1; subst h1
    rcases h2 with ⟨rfl, _⟩ | ⟨g, rfl, e2, e3, cur, e4, _⟩
    · simp [Value.ownBlock] at e
    · have e5 : g = X := by simpa [Value.ownBlock] using e
      subst e5
      rw [e4] at ho; injection ho with ho; subst ho; cases hc
theorem LstV.ltF {ts t : TypeId} {B X : Nat} {w : World} {v : Value} {rows : List (List Int)} {vals : List Value} (h : LstV ts t B w v rows vals) (hX : w.heap.size ≤ X ∨ X < B) : LFar v vals X := by
  refine ⟨fun e => ?_, fun u hu e => ?_⟩
  · rcases h.own.2 with ⟨h2, _⟩ | ⟨g, cap, cur, hv, hB, hh, _⟩
    · rw [h2] at e; simp [Value.ownBlock] at e
    · rw [hv] at e
      have e2 : g = X := by simpa [Value.ownBlock] using e
      have := (Array.getElem?_eq_some_iff.1 hh).1
      omega
  · obtain ⟨i, hi, hu2⟩ := List.getElem_of_mem hu
    have hil : i < rows.length := by have := ownsRow_len h.own; omega
    obtain ⟨A, c, h1, h2⟩ := h.row i hil
    have h3 : vals[i]? = some u := by rw [List.getElem?_eq_getElem hi, hu2]
    rw [h3] at h1; injection h1 with h1; subst h1
    rcases h2 with ⟨rfl, _⟩ | ⟨g, rfl, e2, e3, _⟩
    · simp [Value.ownBlock] at e
    · have e5 : g = X := by simpa [Value.ownBlock] using e
      omega
/-- What the loop over the orbits holds: the rows so far, in a box; and the number of letters. -/
structure NaI (w : World) (D bx kb base K : Nat) (rows : List (List Int)) (L : Nat) (U : Nat → Prop) (W : World) : Prop where
  below : Below w.heap.size w W
  ex : ∃ v vals, Blk W bx 22 [v] ∧ LstV 26 2 base W v rows vals ∧ LFar v vals L ∧ ∀ g, v.ownBlock = some g → ¬ U g ∧ (g < D ∨ D + 2 ≤ g)
  kk : Blk W kb 3 [.int .i64 K]
  nU : ¬ U bx
  nL : bx ≠ L
  nK : kb ≠ L
theorem NaI.step {w W W' : World} {D bx kb base K : Nat} {rows : List (List Int)} {L : Nat} {U U' : Nat → Prop} (h : NaI w D bx kb base K rows L U W) (hL : w.heap.size ≤ L) (hs : StepL L W W') (hu : ∀ b, U' b → U b ∨ W.heap.size ≤ b) : NaI w D bx kb base K rows L U' W' := by
  obtain ⟨v, vals, h1, h2, h3, h4⟩ := h.ex
  have hlt := h1.lt
  refine ⟨hs.below h.below h.below.size hL, ⟨v, vals, (hs.same _ hlt h.nL).trans h1, h2.skip h3 hs.size (fun b hb hn => hs.same b hb hn), h3, fun g hg => ⟨fun hg2 => ?_, (h4 g hg).2⟩⟩, (hs.same _ h.kk.lt h.nK).trans h.kk, fun h5 => ?_, h.nL, h.nK⟩
  · obtain ⟨_, cur, hc⟩ : base ≤ g ∧ ∃ cur, W.heap[g]? = some (.cells cur 26 (0, 0)) := by
      rcases h2.own.2 with ⟨h6, _⟩ | ⟨g2, cap, cur, hv, hB, hh, _⟩
      · rw [h6] at hg; simp [Value.ownBlock] at hg
      · rw [hv] at hg
        have e : g2 = g := by simpa [Value.ownBlock] using hg
        subst e
        exact ⟨hB, cur, hh⟩
    have := (Array.getElem?_eq_some_iff.1 hc).1
    rcases hu g hg2 with h5 | h5
    · exact (h4 g hg).1 h5
    · omega
  · rcases hu _ h5 with h6 | h6
    · exact h.nU h6
    · omega
theorem NaI.put {w W : World} {D bx kb base K : Nat} {rows : List (List Int)} {L b : Nat} {U : Nat → Prop} {o : Obj} (o' : Obj) (h : NaI w D bx kb base K rows L U W) (hb : w.heap.size ≤ b) (ho : W.heap[b]? = some o) (hc : o.isCells = false) : NaI w D bx kb base K rows L U (W.putObj b o') := by
  obtain ⟨v, vals, h1, h2, h3, h4⟩ := h.ex
  have hne : ∀ g cs ty, Blk W g ty cs → g ≠ b := fun g cs ty hg e => by
    subst e
    unfold Blk at hg
    rw [hg] at ho
    injection ho with ho
    subst ho
    cases hc
  refine ⟨h.below.grown (grownBy_putObj' W b o') h.below.size (fun k e => by cases e; exact hb), ⟨v, vals, (World.putObj_heap_other (hne _ _ _ h1)).trans h1, h2.skip (h2.cellsF ho hc) (by simp) (fun b2 _ hn => World.putObj_heap_other hn), h3, h4⟩, (World.putObj_heap_other (hne _ _ _ h.kk)).trans h.kk, h.nU, h.nL, h.nK⟩
/-- One row more is appended. -/
theorem nas_put {i2 : TypeInfo} (hi : Try.prog.info? 26 = some i2) (hz0 : i2.zero = some (.slice none 0 0)) (hz1 : i2.size = 1) (hz2 : i2.bytes = 24) {W W1 : World} {bx base : Nat} {vr : Value} {rows : List (List Int)} {vals : List Value} {A5 : Option Addr} {m c5 kl : Nat} {r : List Int}
    (hbx : Blk W bx 22 [vr]) (hr : LstV 26 2 base W vr rows vals) (hB : base ≤ W.heap.size) (hb : Below W.heap.size W W1) (hkl : rows.length = kl) (hk : kl ≤ 5000) (hn : ∀ g, vr.ownBlock = some g → g ≠ bx) (hm : r.length = m) (ho : Obj1 2 W.heap.size W1.heap.size W1 A5 r) :
    ∃ g9 c9 W2, (Builtin.append_ #[22, 22] 22 #[vr, .slice (some ⟨W1.heap.size, 0, none⟩) 1 1]).run Try.prog (W1.alloc (.cells #[.slice A5 m c5] 26)) = .ok (.slice (some ⟨g9, 0, none⟩) (kl + 1) c9) W2 ∧
      (W1.alloc (.cells #[.slice A5 m c5] 26)).grownBy W2 vr.ownBlock ∧ ((Value.slice (some ⟨g9, 0, none⟩) (kl + 1) c9).ownBlock = vr.ownBlock ∨ (Value.slice (some ⟨g9, 0, none⟩) (kl + 1) c9).ownBlock = some (W1.heap.size + 1)) ∧ LstV 26 2 base W2 (.slice (some ⟨g9, 0, none⟩) (kl + 1) c9) (rows ++ [r]) (vals ++ [.slice A5 r.length c5]) ∧ Blk W2 bx 22 [vr] := by
  subst hkl
  have hsz := hb.size
  have hr1 : (W1.alloc (.cells #[.slice A5 m c5] 26)).ownsRow base 26 1 vr rows.length vals := ownsRow_below (ownsRow_below hr.own hb) ((Below.refl _ _).alloc (Nat.le_refl _) _)
  obtain ⟨v', W2, hrun, hown, hgrow, _, hat⟩ := run_append_own_at (P := Try.prog) (W1.alloc (.cells #[.slice A5 m c5] 26)) base 22 22 26 i2 (.slice none 0 0) 1 24 Try.underlying22 hi hz0 hz1 hz2 rfl (by decide) vr rows.length vals hr1
    ⟨W1.heap.size, 0, none⟩ 1 1 [.slice A5 m c5] rfl (fun j u hj => by
      match j, hj with
      | 0, hj => simp at hj; subst hj; exact (Blk.new W1 26 [.slice A5 m c5]).cell 0 _ rfl) (fun u hu => by simp at hu; subst hu; rfl) (by unfold maxLen; omega) (by omega) (by simp; omega)
  obtain ⟨g9, c9, rfl, _, _⟩ := own_look hown (by omega)
  refine ⟨g9, c9, W2, hrun, hgrow, by simpa using hat, LstV.push (tmp := .cells #[.slice A5 m c5] 26) (by decide) hB hr hb ho (by rw [hm]; exact hown) hgrow, ?_⟩
  have h1 : Blk (W1.alloc (.cells #[.slice A5 m c5] 26)) bx 22 [vr] := (hbx.later hb).later ((Below.refl _ _).alloc (Nat.le_refl _) _)
  have hl := h1.lt
  exact (hgrow.block bx hl (fun e => hn bx e.symm rfl)).trans h1
theorem nas_fin {w W W1 W2 : World} {D bx kb base K L m c5 : Nat} {U : Nat → Prop} {vr v' : Value} {rows : List (List Int)} {vals : List Value} {A5 : Option Addr} {r : List Int} (hbw : Below w.heap.size w W) (hrow : LstV 26 2 base W vr rows vals) (hfl : LFar vr vals L) (hkk : Blk W kb 3 [.int .i64 K])
    (hfar : ∀ g, vr.ownBlock = some g → ¬ U g ∧ (g < D ∨ D + 2 ≤ g)) (hL : L < W.heap.size) (hU : ∀ b, U b → b < W.heap.size) (hnU : ¬ U bx) (hnL : bx ≠ L) (hnK : kb ≠ L) (hkx : kb ≠ bx) (hbase : w.heap.size ≤ base) (hbxw : w.heap.size ≤ bx) (hbxD : bx < D) (hkb : kb < base) (hD2 : D + 2 ≤ W.heap.size)
    (hb1 : Below W.drew.heap.size W.drew W1) (ho : Obj1 2 W.heap.size W1.heap.size W1 A5 r) (hgr : (W1.alloc (.cells #[.slice A5 m c5] 26)).grownBy W2 vr.ownBlock) (hat : v'.ownBlock = vr.ownBlock ∨ v'.ownBlock = some (W1.heap.size + 1)) (hl : LstV 26 2 base W2 v' (rows ++ [r]) (vals ++ [.slice A5 r.length c5])) (hx2 : Blk W2 bx 22 [vr])
    (hnot : ∀ g, vr.ownBlock = some g → g ≠ bx) (hnotv : ∀ u, u ∈ vals → u.ownBlock ≠ some bx) :
    KeepR D W (W2.setCell ⟨bx, 0, none⟩ v') ∧ KeepU U W (W2.setCell ⟨bx, 0, none⟩ v') ∧ NaI w D bx kb base K (rows ++ [r]) L U (W2.setCell ⟨bx, 0, none⟩ v') := by
  have hbb : Below W.heap.size W W1 := (Below.refl _ W).drew.trans hb1
  have hs1 := hbb.size
  have hs2 : W1.heap.size + 1 ≤ W2.heap.size := by have h := hgr.size; simpa using h
  have hsf : (W2.setCell ⟨bx, 0, none⟩ v').heap.size = W2.heap.size := by simp [World.setCell]
  have hbs := hbw.size
  have hg1 : ∀ g, vr.ownBlock = some g → base ≤ g ∧ g < W.heap.size := fun g hg => by
    rcases hrow.own.2 with ⟨h6, _⟩ | ⟨g2, cap, cur, hv, hB, hh, _⟩
    · rw [h6] at hg; simp [Value.ownBlock] at hg
    · rw [hv] at hg
      have e : g2 = g := by simpa [Value.ownBlock] using hg
      subst e
      exact ⟨hB, (Array.getElem?_eq_some_iff.1 hh).1⟩
  have hst : ∀ b, b < W.heap.size → b ≠ bx → (∀ g, vr.ownBlock = some g → g ≠ b) → (W2.setCell ⟨bx, 0, none⟩ v').heap[b]? = W.heap[b]? := fun b hb hn hg => by
    have h1 := Below.heap_setCell W2 ⟨bx, 0, none⟩ v' b hn
    have h2 := hgr.block b (by simp; omega) (fun e => hg b e.symm rfl)
    have h3 := hb_same ((Below.refl _ W1).alloc (Nat.le_refl _) (.cells #[.slice A5 m c5] 26)) (b := b) (by omega)
    exact h1.trans (h2.trans (h3.trans (hbb.block b hb)))
  have hbxl := hx2.lt
  have hro : ∀ g, (Value.slice A5 r.length c5).ownBlock = some g → W.heap.size ≤ g := fun g hg => by
    rcases ho with ⟨rfl, _⟩ | ⟨g2, rfl, h1, h2, _⟩
    · simp [Value.ownBlock] at hg
    · have e : g2 = g := by simpa [Value.ownBlock] using hg
      omega
  have hbxW : bx < W.heap.size := by omega
  have hfb : LFar v' (vals ++ [.slice A5 r.length c5]) bx := by
    refine ⟨fun e => ?_, fun u hu e => ?_⟩
    · rcases hat with h | h
      · rw [h] at e; exact hnot bx e rfl
      · rw [h] at e; injection e with e; omega
    · rcases List.mem_append.1 hu with h | h
      · exact hnotv u h e
      · have h9 : u = .slice A5 r.length c5 := by simpa using h
        subst h9
        have := hro _ e
        omega
  refine ⟨⟨by omega, fun b h1 h2 => hst b (by omega) (by omega) fun g hg e => ?_⟩, ⟨by omega, fun b h1 h2 => hst b h1 (fun e => hnU (e ▸ h2)) fun g hg e => (hfar g hg).1 (e ▸ h2)⟩, ?_, ⟨v', _, hx2.set 0 _, hl.skip hfb (by omega) (fun b hb hn => Below.heap_setCell W2 ⟨bx, 0, none⟩ v' b hn), ?_, fun g hg => ?_⟩, (hst kb hkk.lt hkx (fun g hg e => by have := (hg1 g hg).1; omega)).trans hkk, hnU, hnL, hnK⟩
  · have := (hfar g hg).2; omega
  · refine Below.setCell ?_ (by simpa using hbxw) _
    refine Below.grown ?_ hgr (by simp; omega) (fun g hg => by have := (hg1 g hg).1; omega)
    exact (hbw.trans (hbb.mono hbs)).alloc (by omega) _
  · refine ⟨fun e => ?_, fun u hu e => ?_⟩
    · rcases hat with h | h
      · rw [h] at e; exact hfl.1 e
      · rw [h] at e; injection e with e; omega
    · rcases List.mem_append.1 hu with h | h
      · exact hfl.2 u h e
      · have h9 : u = .slice A5 r.length c5 := by simpa using h
        subst h9
        have := hro _ e
        omega
  · rcases hat with h | h
    · exact hfar g (h ▸ hg)
    · rw [hg] at h
      injection h with h
      subst h
      exact ⟨fun h4 => by have := hU _ h4; omega, .inr (by omega)⟩
theorem orbC_any (A B C : Option Addr) (n c n2 d N cg : Nat) (K : Int) (w : World) :
    Calls Try.prog 39 #[.agg #[.slice A n c, .slice B n2 d], .slice C N cg, .int .i64 K] w fun e w' => e = .returned (.func (.func 69) #[] #[.pointer (some ⟨w.heap.size + 1, 0, none⟩), .pointer (some ⟨w.heap.size, 0, none⟩), .pointer (some ⟨w.heap.size + 2, 0, none⟩)]) ∧ w' = ((w.alloc (.cells #[.slice A n c, .slice B n2 d] 29)).alloc (.cells #[.slice C N cg] 54)).alloc (.cells #[.int .i64 K] 3) := by
  go_enter Try.func39, Try.ntmps39
  go_wp2_with fail
  go_ret
  exact ⟨rfl, rfl⟩
end Go.Proofs.Ytbhlcfcmjildmaa
