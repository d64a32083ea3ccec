import Derived.Test.YtgmloaemnbnbgaaZba
import Derived.Test.YtgmloaemnbnbgaaZv
import Derived.Test.YtgmloaemnbnbgaaZap
import Derived.Test.YtgmloaemnbnbgaaZaw
import Derived.Test.YtgmloaemnbnbgaaZh
import Derived.Deep.Cut
import Derived.Deep.DeepCutAuto
import Derived.Deep.RegionHeld3
import Derived.RangeFuncBound
import Derived.RangeFuncCalls
import Derived.Shelf.Abstract
import Derived.Shelf.Lay
import Derived.Shelf.RegionOpen
import Derived.WalkKit
import Derived.OwnWalkIn
import Derived.TacticsInMore
import Derived.Test.YtgmloaemnbnbgaaZaq
import Derived.Deep.OwnRows
namespace Go.Proofs.Ytgmloaemnbnbgaa
open Go Go.RowKit
set_option maxHeartbeats 4000000
def lenIn8 (L : Nat) (w : World) : Nat := match w.cell? ⟨L, 0, none⟩ with | some (.slice _ n _) => n | _ => 0
/-- Between two rounds of the iterator. -/
structure SerI (f s : List (List Int)) (t tz : TypeId) (lo n0 L : Nat) (U0 : Nat → Prop) (J : Nat → Nat → (Nat → Prop) → World → Prop) (k m1 m2 : Nat) (A B : Option Addr) (c d g : Nat) (W : World) : Prop where
  jj : J k L (serU U0 L m1 m2) W
  box : Blk W L tz [.slice A (siz f s k) c, .slice B (siz f s k) d]
  dat : SerD f s t k A B g (fun b => serU U0 L m1 m2 b ∧ b ≠ L) W
  low : lo ≤ g
  new : n0 ≤ L
  up : m2 ≤ W.heap.size
theorem SerI.next {f s : List (List Int)} {ts t tz : TypeId} {lo n0 L : Nat} {U0 : Nat → Prop} {J : Nat → Nat → (Nat → Prop) → World → Prop} {k i1 i2 m2 c4 d4 lo5 N gR : Nat} {A4 B4 : Option Addr} {u v : Value} {W3 wd Wf : World}
    (hJ : ∀ k L U U' W W', J k L U W → StepL L W W' → (∀ b, U' b → U b ∨ W.heap.size ≤ b) → J k L U' W')
    (hW : Wf = (wd.setCell ⟨L, 0, none⟩ (.slice A4 m2 c4)).setCell ⟨L, 1, none⟩ (.slice B4 m2 d4) ∨ Wf = ((wd.setCell ⟨L, 0, none⟩ (.slice A4 m2 c4)).setCell ⟨L, 1, none⟩ (.slice B4 m2 d4)).drew)
    (hj : J (k + 1) L (serU U0 L i1 i2) W3) (hs : StepL L W3 wd) (hbox : Blk wd L tz [u, v]) (ho : ObjZ ts t lo5 N wd A4 (ser f s (k + 1)).1 B4 (ser f s (k + 1)).2) (hlo : W3.heap.size ≤ lo5) (hN : N ≤ wd.heap.size) (how : OwnB t wd gR (sLb f s (k + 1))) (hgR : W3.heap.size ≤ gR) (hL : L < W3.heap.size) (hlow : lo ≤ W3.heap.size) (hn0 : n0 ≤ L) (hsz : siz f s (k + 1) = m2) :
    L < Wf.heap.size ∧ SerI f s t tz lo n0 L U0 J (k + 1) W3.heap.size Wf.heap.size A4 B4 c4 d4 gR Wf ∧ lenIn8 L Wf = m2 := by
  have hsame : ∀ b, b ≠ L → Wf.heap[b]? = wd.heap[b]? := fun b hb => by
    have e : ((wd.setCell ⟨L, 0, none⟩ (.slice A4 m2 c4)).setCell ⟨L, 1, none⟩ (.slice B4 m2 d4)).heap[b]? = wd.heap[b]? := (Below.heap_setCell _ ⟨L, 1, none⟩ _ b hb).trans (Below.heap_setCell _ ⟨L, 0, none⟩ _ b hb)
    rcases hW with rfl | rfl
    · exact e
    · exact e
  have hsize : Wf.heap.size = wd.heap.size := by
    rcases hW with rfl | rfl <;> simp [World.setCell, World.drew]
  have hst : StepL L wd Wf := by
    rcases hW with rfl | rfl
    · exact ⟨rfl, rfl, rfl, by rw [hsize]; exact Nat.le_refl _, fun b _ hb => hsame b hb⟩
    · have h : StepL L wd ((wd.setCell ⟨L, 0, none⟩ (.slice A4 m2 c4)).setCell ⟨L, 1, none⟩ (.slice B4 m2 d4)) := ⟨rfl, rfl, rfl, by simp [World.setCell], fun b _ hb => hsame b hb⟩
      exact h.trans (StepL.of L (Below.refl _ _).drew)
  have hb2 : Blk Wf L tz [.slice A4 m2 c4, .slice B4 m2 d4] := by
    have h := (hbox.set 0 (.slice A4 m2 c4)).set 1 (.slice B4 m2 d4)
    rcases hW with rfl | rfl
    · exact h
    · exact h
  have hsz3 := hs.size
  refine ⟨by omega, ⟨hJ (k + 1) L _ _ W3 Wf hj (hs.trans hst) (fun b hb => ?_), by rw [hsz]; exact hb2, fun W2 h2 => ?_, by omega, hn0, Nat.le_refl _⟩, ?_⟩
  · rcases hb with h | h | h
    · exact .inl (.inl h)
    · exact .inl (.inr (.inl h))
    · exact .inr h.1
  · have hk : ∀ b, W3.heap.size ≤ b → b < wd.heap.size → W2.heap[b]? = wd.heap[b]? := fun b h3 h4 => (h2.2 b (by omega) ⟨.inr (.inr ⟨h3, by omega⟩), by omega⟩).trans (hsame b (by omega))
    obtain ⟨a1, a2⟩ := ho.weak
    refine ⟨(a1.like fun b h3 h4 => hk b (by omega) (by omega)).rd, (a2.like fun b h3 h4 => hk b (by omega) (by omega)).rd, how.of_block (hk gR hgR how.lt)⟩
  · unfold lenIn8
    rw [hb2.cell 0 _ rfl]
set_option maxRecDepth 100000 in
theorem serI_any (n c : Nat) (f : List (List Int)) (A B : Option Addr) (d : Nat) (s : List (List Int)) (pz : Nat) (U0 : Nat → Prop) (w00 w0 : World) (hz : ZArg 1048576 w00 A n f B n s) (hg : NdS f s) (hb00 : Below w00.heap.size w00 w0) (hU : ∀ b, b < w00.heap.size → U0 b) (hU2 : ∀ b, U0 b → b < w0.heap.size) (hk : Blk w0 pz 29 [.slice A n c, .slice B n d]) (mm : Nat) :
    IterU Try.prog mm 93 #[.pointer (some ⟨pz, 0, none⟩)] (serK f s) (SerT f s 2 w00.heap.size) U0 w0 := by
  intro l J Jx V0 hW hJ hY h0
  have h1 := (hg.sizes hz.sz.fl).1
  have h12 := (hg.sizes hz.sz.fl).2.1
  have HZ := hide hz
  have HG := hide hg
  have HK1 := hide (hk.later hW)
  have HWB := hide hW
  have HJ := hide hJ
  have HY := hide hY
  have HU := hide hU
  have HU2 := hide hU2
  have H0 := hide h0
  have HB00 := hide hb00
  have hFL := hz.sz.fl
  clear hz hg hk hW hJ hY hU hU2 h0 hb00
  show Calls Try.prog 93 #[.func (.yield l) #[] #[], .pointer (some ⟨pz, 0, none⟩)] V0 _
  have HF : Hid (FC V0 V0 V0.heap.size [(pz, 29, [.slice A n c, .slice B n d])]) := hide (FC.of (Below.refl _ _) (by simp only [List.forall_mem_cons]; exact ⟨HK1.out, fun q hq => absurd hq (List.not_mem_nil)⟩))
  have k0 := (HF.out.blk (b := pz) (t := 29) (cs := [.slice A n c, .slice B n d]) (by simp)).cell 0 _ rfl
  have k1 := (HF.out.blk (b := pz) (t := 29) (cs := [.slice A n c, .slice B n d]) (by simp)).cell 1 _ rfl
  have gn0 : V0.heap.size ≠ pz := (by have h1 := HF.out.sz; have h2 := HF.out.le (b := pz) (t := 29) (cs := [.slice A n c, .slice B n d]) (by simp); omega)
  have gm0 := gn0.symm
  have HPB : Hid True := hide trivial
  go_enter Try.func93, Try.ntmps93
  go_upto_region 0 with fail
  go_cut [3, 4] (fun v3 v4 wx => ∃ L g, v3 = .pointer (some ⟨L, 0, none⟩) ∧ v4 = .slice (some ⟨g, 0, none⟩) n n ∧ FC V0 wx (L + 1) ((L, 29, [.slice A n c, .slice B n d]) :: [(pz, 29, [.slice A n c, .slice B n d])]) ∧ V0.heap.size ≤ g ∧ V0.heap.size ≤ L ∧ L ≠ g ∧ OwnB 2 wx g (unitL n))
  case first =>
    go_region_held3 (fun w' => w'.cell? ⟨pz, 0, none⟩ = some (.slice A n c) ∧ w'.cell? ⟨pz, 1, none⟩ = some (.slice B n d)) (first | exact ⟨k0, k1⟩ | go_keep) (first | (go_at_call 58; go_must (refine calls_gen fun wc hwc => ?_; (first | (have hbx := al_drew_below hwc; have HPB := hide (And.intro (blk_al_drew hwc) HF.out.sz)) | (have hbx := al_below hwc; have HPB := hide (And.intro (blk_al hwc) HF.out.sz)) | (have hbx := drew_below hwc; (first | replace HPB := hide (And.intro (HPB.out.1.later hbx) HPB.out.2) | skip)) | (have hbx := eq_below hwc; (first | replace HPB := hide (And.intro (HPB.out.1.later hbx) HPB.out.2) | skip))); replace HF := hide (HF.out.later hbx); clear hwc hbx; skip; refine (size_any _ n _ _ _ _ _ HZ.out.sz.nb).mono ?_; rintro e wd ⟨rfl, hbd⟩; replace HF := hide (HF.out.later hbd); (first | replace HPB := hide (And.intro (HPB.out.1.later hbd) HPB.out.2) | skip); clear hbd; skip; have gn0 : wd.heap.size ≠ pz := (by have h1 := HF.out.sz; have h2 := HF.out.le (b := pz) (t := 29) (cs := [.slice A n c, .slice B n d]) (by simp); omega); have gm0 := gn0.symm; have k0 := (HF.out.blk (b := pz) (t := 29) (cs := [.slice A n c, .slice B n d]) (by simp)).cell 0 _ rfl; have k1 := (HF.out.blk (b := pz) (t := 29) (cs := [.slice A n c, .slice B n d]) (by simp)).cell 1 _ rfl; (first | (have bb0 := HPB.out.1.cell 0 _ rfl; have bb1 := HPB.out.1.cell 1 _ rfl; have bf0 := HPB.out.1.frozen 0; have bf1 := HPB.out.1.frozen 1) | skip))) | (go_at_call 85; go_must (refine calls_gen fun wc hwc => ?_; (first | (have hbx := al_drew_below hwc; have HPB := hide (And.intro (blk_al_drew hwc) HF.out.sz)) | (have hbx := al_below hwc; have HPB := hide (And.intro (blk_al hwc) HF.out.sz)) | (have hbx := drew_below hwc; (first | replace HPB := hide (And.intro (HPB.out.1.later hbx) HPB.out.2) | skip)) | (have hbx := eq_below hwc; (first | replace HPB := hide (And.intro (HPB.out.1.later hbx) HPB.out.2) | skip))); replace HF := hide (HF.out.later hbx); clear hwc hbx; (first | have HLL := hide HPB.out.1.lt | have HLL : Hid True := hide trivial); have HGW : Hid (V0.heap.size ≤ wc.heap.size) := hide HF.out.below.size; refine (identityOf_any n _ (by omega)).mono ?_; rintro e wd ⟨rfl, hbd, hrow, hsz⟩; replace HF := hide (HF.out.later hbd); (first | replace HPB := hide (And.intro (HPB.out.1.later hbd) HPB.out.2) | skip); clear hbd; have HOW := hide hrow.own; clear hrow hsz; have gn0 : wd.heap.size ≠ pz := (by have h1 := HF.out.sz; have h2 := HF.out.le (b := pz) (t := 29) (cs := [.slice A n c, .slice B n d]) (by simp); omega); have gm0 := gn0.symm; have k0 := (HF.out.blk (b := pz) (t := 29) (cs := [.slice A n c, .slice B n d]) (by simp)).cell 0 _ rfl; have k1 := (HF.out.blk (b := pz) (t := 29) (cs := [.slice A n c, .slice B n d]) (by simp)).cell 1 _ rfl; (first | (have bb0 := HPB.out.1.cell 0 _ rfl; have bb1 := HPB.out.1.cell 1 _ rfl; have bf0 := HPB.out.1.frozen 0; have bf1 := HPB.out.1.frozen 1) | skip))))
    all_goals go_wp2_with fail
    all_goals go_meet
    all_goals refine ⟨_, _, rfl, rfl, ?_, HGW.out, ?_, ?_, ?_⟩
    all_goals first | exact HF.out.new _ _ | exact ((HF.out.set (p := ⟨_, 0, none⟩) HPB.out.2 _).set (p := ⟨_, 1, none⟩) HPB.out.2 _).push ((HPB.out.1.set 0 _).set 1 _) HPB.out.2 | exact HF.out.below.size | exact HPB.out.2 | (have := HOW.out.lt; omega) | (have := HLL.out; omega) | exact HOW.out.later ((Below.refl _ _).alloc (Nat.le_refl _) _) HOW.out.lt | exact (HOW.out.far (p := ⟨_, 0, none⟩) (by have := HLL.out; simp; omega) _).far (p := ⟨_, 1, none⟩) (by have := HLL.out; simp; omega) _
  case rest =>
    obtain ⟨L, g, rfl, rfl, hf0, hgV, hLV, hLg, hown⟩ := hcut
    have hLs : L < wc.heap.size := (hf0.blk (b := L) (t := 29) (cs := [.slice A n c, .slice B n d]) (by simp)).lt
    have hst0 : StepL L V0 wc := StepL.of L hf0.below
    have hs0 : SerI f s 2 29 w00.heap.size V0.heap.size L U0 J 0 V0.heap.size wc.heap.size A B c d g wc := by
      have hzn : siz f s 0 = n := hFL
      refine ⟨HJ.out 0 L U0 _ V0 wc (H0.out L hLV) hst0 (fun b hb => ?_), ?_, fun W2 h2 => ?_, ?_, hLV, Nat.le_refl _⟩
      · rcases hb with h | h | h
        · exact .inl h
        · exact .inr (by omega)
        · exact .inr h.1
      · rw [hzn]
        exact hf0.blk (b := L) (t := 29) (cs := [.slice A n c, .slice B n d]) (by simp)
      · have hA : ∀ b, b < w00.heap.size → W2.heap[b]? = w00.heap[b]? := fun b hb => by
          have e1 := HB00.out.block b hb
          have e2 := HWB.out.block b (by have := HB00.out.size; omega)
          have e3 := hf0.below.block b (by have := HB00.out.size; have := HWB.out.size; omega)
          have e4 := h2.2 b (by have := HB00.out.size; have := HWB.out.size; have := hf0.below.size; omega) ⟨.inl (HU.out b hb), by have := HB00.out.size; have := HWB.out.size; omega⟩
          exact e4.trans (e3.trans (e2.trans e1))
        have hsz : w00.heap.size ≤ W2.heap.size := by have := HB00.out.size; have := HWB.out.size; have := hf0.below.size; have := h2.1; omega
        refine ⟨HZ.out.fst.same hsz hA, HZ.out.snd.same hsz hA, ?_⟩
        show OwnB 2 W2 g (unitN f.length)
        rw [hFL, ← unit_same]
        exact hown.of_block (h2.2 g hown.lt ⟨.inr (.inr ⟨hgV, hown.lt⟩), fun e => hLg e.symm⟩)
      · have := HB00.out.size; have := HWB.out.size; omega
    have HS0 := hide hs0
    have HLS := hide hLs
    clear hf0 hown hst0 hs0 hLs
    clear HPB k0 k1 gn0 gm0
    go_wp2_with fail
    go_loopw [4] (fun v4 wr => ∃ (k m1 m2 : Nat) (A2 B2 : Option Addr) (c2 d2 g cl : Nat), k ≤ serK f s ∧ v4 = .slice (some ⟨g, 0, none⟩) n cl ∧ L < wr.heap.size ∧ SerI f s 2 29 w00.heap.size V0.heap.size L U0 J k m1 m2 A2 B2 c2 d2 g wr) (fun _ wr => lenIn8 L wr)
    case atStart => exact ⟨0, _, _, _, _, _, _, _, _, Nat.zero_le _, rfl, HLS.out, HS0.out⟩
    case round =>
      clear HS0 HLS
      obtain ⟨k, i1, i2, A2, B2, c2, d2, g2, cl, hk, rfl, hLr, hsi⟩ := hrel
      have HSI := hide hsi
      have hyy := HY.out k L #[.agg #[.slice A2 (siz f s k) c2, .slice B2 (siz f s k) d2], .slice (some ⟨g2, 0, none⟩) n cl] _ wr hk hsi.jj ⟨A2, c2, B2, d2, g2, cl, by rw [hFL], hsi.low, hsi.dat, hLr, fun b hb => by
        have h1 := hsi.new
        have h2 := hsi.up
        have h3 := HWB.out.size
        rcases hb with h | h | h
        · have := HU2.out b h; omega
        · omega
        · omega⟩
      obtain ⟨fn, tmps, assign, body, hy, hR⟩ := hyy
      have HRR := hide hR
      have l0 := hsi.box.cell 0 _ rfl
      have l1 := hsi.box.cell 1 _ rfl
      have hmeas : lenIn8 L wr = siz f s k := by unfold lenIn8; rw [l0]
      have HME := hide hmeas
      clear hsi hR hmeas
      go_upto_region 1 with fail
      refine (wpIn_wide (n := mm + 1)).1 ?_
      gi_wp2
      refine HRR.out.mono ?_
      rintro e W3 (⟨rfl, hj3, hku⟩ | ⟨rfl, hjx⟩)
      · have hLU : serU U0 L i1 i2 L := .inr (.inl rfl)
        have hW3 : wr.heap.size ≤ W3.heap.size := hku.1
        have hbox3 : Blk W3 L 29 [.slice A2 (siz f s k) c2, .slice B2 (siz f s k) d2] := (hku.2 L hLr hLU).trans HSI.out.box
        have hdat3 := HSI.out.dat.later (hku.less (U' := fun b => serU U0 L i1 i2 b ∧ b ≠ L) fun b hb => .inl hb.1)
        have HJ3 := hide hj3
        have HL := hide hbox3
        have hnow := hdat3.now
        have HD3 := hide hdat3
        have hzk := ser_arg HG.out hnow.1 hnow.2.1
        have HZK := hide hzk
        have HNK := hide (ser_nds HG.out k)
        have HDK := hide hnow.2.2
        have HLN : Hid ((sLb f s k).length = n) := hide (by rw [sLb_length]; exact hFL)
        have HRG := hide (sLb_rng f s k)
        rw [hFL] at HRG
        have hsk := siz_12 HG.out k
        have hsk0 := siz_pos HG.out k
        have hnext := siz_succ f s k
        have hiff := serK_iff HG.out (k := k) hk
        have hdec := serK_not (f := f) (s := s) (k := k)
        have HSUC : Hid ((ser f s (k + 1)).1 = rt1 (ser f s k).1 (ser f s k).2 ∧ (ser f s (k + 1)).2 = rt2 (ser f s k).1 (ser f s k).2) := hide ⟨rfl, rfl⟩
        have HCN : Hid ((alC (ser f s k).1 (ser f s k).2).length = siz f s k) := hide (alC_length _ _)
        obtain ⟨m, hm⟩ : ∃ m, siz f s k = m := ⟨_, rfl⟩
        rw [hm] at HL HZK HRG HCN hsk hsk0 hiff hdec HME
        obtain ⟨m2, hm2⟩ : ∃ m, siz f s (k + 1) = m := ⟨_, rfl⟩
        rw [hm2] at hnext hiff hdec
        have HIFF := hide hiff
        have HDEC := hide hdec
        have HM := hide hm
        have HM2 := hide hm2
        have HNX := hide hnext
        have HS := hide (StepL.of L (Below.refl W3.heap.size W3))
        clear hj3 hku hbox3 hdat3 hnow hzk hnext hiff hdec hm hm2 l0 l1 hy
        have l0 := HL.out.cell 0 _ rfl
        have l1 := HL.out.cell 1 _ rfl
        have hL3 : L < W3.heap.size := HL.out.lt
        gi_wp2
        go_wp2_with fail
        refine (alikeI_any _ _ _ (ser f s k).1 _ _ (ser f s k).2 _ HZK.out HNK.out).mono ?_
        rintro e W4 ⟨g4, c4', rfl, hb4, hg4, hcl4⟩
        replace HS := hide (HS.out.trans (StepL.of L hb4))
        replace HL := hide (HL.out.later hb4)
        replace HZK := hide (HZK.out.later hb4)
        have HD4 := hide (HDK.out.later hb4 HDK.out.lt)
        have HC4 := hide hcl4
        clear hb4 hcl4 l0 l1
        have l0 := HL.out.cell 0 _ rfl
        have l1 := HL.out.cell 1 _ rfl
        go_wp2_with fail
        refine (retI_any _ _ _ (ser f s k).1 _ _ (ser f s k).2 _ _ _ HZK.out HNK.out HC4.out.rd).mono ?_
        rw [← HNX.out]
        rintro e W5 ⟨A4, c4, B4, d4, rfl, hb5, ho5⟩
        have HS4 := hide HS.out.size
        replace HS := hide (HS.out.trans (StepL.of L hb5))
        replace HL := hide (HL.out.later hb5)
        replace HD4 := hide (HD4.out.later hb5 HD4.out.lt)
        replace HC4 := hide (HC4.out.later hb5 HC4.out.lt)
        have HO5 := hide ho5
        have hz35 : W3.heap.size ≤ W5.heap.size := HS.out.size
        clear hb5 ho5 l0 l1
        go_upto_region 4 with fail
        refine wp_gen fun W6 hW6 => ?_
        have hb6 : Below W5.heap.size W5 W6 := by rw [hW6]; exact (Below.refl _ _).alloc (Nat.le_refl _) _
        replace HS := hide (HS.out.trans (StepL.of L hb6))
        replace HL := hide (HL.out.later hb6)
        replace HD4 := hide (HD4.out.later hb6 HD4.out.lt)
        replace HC4 := hide (HC4.out.later hb6 HC4.out.lt)
        have HO4 := hide (HO5.out.later hb6)
        have HS5 := hide (StepL.of L hb6)
        have HN : Hid (Blk W6 W5.heap.size 29 [.slice A4 m2 c4, .slice B4 m2 d4]) := hide (by rw [hW6]; exact Blk.new _ _ _)
        obtain ⟨N, hN⟩ : ∃ N, W5.heap.size = N := ⟨_, rfl⟩
        rw [hN] at HN HO4 hz35 ⊢
        obtain ⟨lo5, hlo⟩ : ∃ q, W4.heap.size = q := ⟨_, rfl⟩
        rw [hlo] at HO4
        have hlo5 : W3.heap.size ≤ lo5 := by rw [← hlo]; exact HS4.out
        have HNS : Hid (∀ W, StepL L W5 W → N ≤ W.heap.size) := hide fun W h => by rw [← hN]; exact h.size
        clear hW6 hb6 HO5 hN hlo
        have hNL : N ≠ L := by omega
        have hLN := hNL.symm
        have l0 := HL.out.cell 0 _ rfl
        have l1 := HL.out.cell 1 _ rfl
        have q0 := HN.out.cell 0 _ rfl
        have q1 := HN.out.cell 1 _ rfl
        have f0 := HL.out.frozen 0
        have f1 := HL.out.frozen 1
        have tok0 : True := trivial
        by_cases hKk : k = serK f s
        · have he : m2 = m := HIFF.out.2 hKk
          subst he
          have HKK := hide hKk
          clear hKk
          go_region_held3 (fun w' => w'.cell? ⟨L, 0, none⟩ = some (.slice A2 m2 c2) ∧ w'.cell? ⟨L, 1, none⟩ = some (.slice B2 m2 d2) ∧ w'.cell? ⟨N, 0, none⟩ = some (.slice A4 m2 c4) ∧ w'.cell? ⟨N, 1, none⟩ = some (.slice B4 m2 d4)) (first | exact ⟨l0, l1, q0, q1⟩ | go_keep) (first | (go_at_call 58; have _t := tok0; clear _t tok0; go_must (refine calls_gen fun wc hwc => ?_; (first | have hbx := drew_below hwc | have hbx := eq_below hwc); replace HS := hide (HS.out.trans (StepL.of L hbx)); replace HS5 := hide (HS5.out.trans (StepL.of L hbx)); replace HL := hide (HL.out.later hbx); replace HN := hide (HN.out.later hbx); replace HD4 := hide (HD4.out.later hbx HD4.out.lt); replace HC4 := hide (HC4.out.later hbx HC4.out.lt); replace HO4 := hide (HO4.out.later hbx); clear hwc hbx; refine (size_any _ m2 _ _ _ _ _ (by omega)).mono ?_; rintro e wd ⟨rfl, hbd⟩; replace HS := hide (HS.out.trans (StepL.of L hbd)); replace HS5 := hide (HS5.out.trans (StepL.of L hbd)); replace HL := hide (HL.out.later hbd); replace HN := hide (HN.out.later hbd); replace HD4 := hide (HD4.out.later hbd HD4.out.lt); replace HC4 := hide (HC4.out.later hbd HC4.out.lt); replace HO4 := hide (HO4.out.later hbd); clear hbd; have l0 := HL.out.cell 0 _ rfl; have l1 := HL.out.cell 1 _ rfl; have q0 := HN.out.cell 0 _ rfl; have q1 := HN.out.cell 1 _ rfl; have f0 := HL.out.frozen 0; have f1 := HL.out.frozen 1)) | (go_at_call 58; go_must (refine calls_gen fun wc hwc => ?_; (first | have hbx := drew_below hwc | have hbx := eq_below hwc); replace HS := hide (HS.out.trans (StepL.of L hbx)); replace HS5 := hide (HS5.out.trans (StepL.of L hbx)); replace HL := hide (HL.out.later hbx); replace HN := hide (HN.out.later hbx); replace HD4 := hide (HD4.out.later hbx HD4.out.lt); replace HC4 := hide (HC4.out.later hbx HC4.out.lt); replace HO4 := hide (HO4.out.later hbx); clear hwc hbx; refine (size_any _ m2 _ _ _ _ _ (by omega)).mono ?_; rintro e wd ⟨rfl, hbd⟩; replace HS := hide (HS.out.trans (StepL.of L hbd)); replace HS5 := hide (HS5.out.trans (StepL.of L hbd)); replace HL := hide (HL.out.later hbd); replace HN := hide (HN.out.later hbd); replace HD4 := hide (HD4.out.later hbd HD4.out.lt); replace HC4 := hide (HC4.out.later hbd HC4.out.lt); replace HO4 := hide (HO4.out.later hbd); clear hbd; have l0 := HL.out.cell 0 _ rfl; have l1 := HL.out.cell 1 _ rfl; have q0 := HN.out.cell 0 _ rfl; have q1 := HN.out.cell 1 _ rfl; have f0 := HL.out.frozen 0; have f1 := HL.out.frozen 1)))
          all_goals (
            clear l0 l1 q0 q1 f0 f1
            go_wp2_with fail
            refine bodyPost_ret (results_none rfl _ _ _) rfl ?_
            exact ⟨⟨_, rfl⟩, .inl ⟨L, _, by rw [← HKK.out]; exact HJ.out (k + 1) L _ _ W3 _ HJ3.out HS.out (fun _ h => .inl h)⟩⟩)
        · have he : ¬ m2 = m := fun e => hKk (HIFF.out.1 e)
          have hez : ((m2 : Int) == (m : Int)) = false := by simpa using (by omega : ¬ (m2 : Int) = (m : Int))
          have hlt2 : m2 < m := HDEC.out (by omega)
          have HKK := hide hKk
          clear hKk
          go_region_held3 (fun w' => w'.cell? ⟨L, 0, none⟩ = some (.slice A2 m c2) ∧ w'.cell? ⟨L, 1, none⟩ = some (.slice B2 m d2) ∧ w'.cell? ⟨N, 0, none⟩ = some (.slice A4 m2 c4) ∧ w'.cell? ⟨N, 1, none⟩ = some (.slice B4 m2 d4)) (first | exact ⟨l0, l1, q0, q1⟩ | go_keep) (first | (go_at_call 58; have _t := tok0; clear _t tok0; go_must (refine calls_gen fun wc hwc => ?_; (first | have hbx := drew_below hwc | have hbx := eq_below hwc); replace HS := hide (HS.out.trans (StepL.of L hbx)); replace HS5 := hide (HS5.out.trans (StepL.of L hbx)); replace HL := hide (HL.out.later hbx); replace HN := hide (HN.out.later hbx); replace HD4 := hide (HD4.out.later hbx HD4.out.lt); replace HC4 := hide (HC4.out.later hbx HC4.out.lt); replace HO4 := hide (HO4.out.later hbx); clear hwc hbx; refine (size_any _ m2 _ _ _ _ _ (by omega)).mono ?_; rintro e wd ⟨rfl, hbd⟩; replace HS := hide (HS.out.trans (StepL.of L hbd)); replace HS5 := hide (HS5.out.trans (StepL.of L hbd)); replace HL := hide (HL.out.later hbd); replace HN := hide (HN.out.later hbd); replace HD4 := hide (HD4.out.later hbd HD4.out.lt); replace HC4 := hide (HC4.out.later hbd HC4.out.lt); replace HO4 := hide (HO4.out.later hbd); clear hbd; have l0 := HL.out.cell 0 _ rfl; have l1 := HL.out.cell 1 _ rfl; have q0 := HN.out.cell 0 _ rfl; have q1 := HN.out.cell 1 _ rfl; have f0 := HL.out.frozen 0; have f1 := HL.out.frozen 1)) | (go_at_call 58; go_must (refine calls_gen fun wc hwc => ?_; (first | have hbx := drew_below hwc | have hbx := eq_below hwc); replace HS := hide (HS.out.trans (StepL.of L hbx)); replace HS5 := hide (HS5.out.trans (StepL.of L hbx)); replace HL := hide (HL.out.later hbx); replace HN := hide (HN.out.later hbx); replace HD4 := hide (HD4.out.later hbx HD4.out.lt); replace HC4 := hide (HC4.out.later hbx HC4.out.lt); replace HO4 := hide (HO4.out.later hbx); clear hwc hbx; refine (size_any _ m _ _ _ _ _ (by omega)).mono ?_; rintro e wd ⟨rfl, hbd⟩; replace HS := hide (HS.out.trans (StepL.of L hbd)); replace HS5 := hide (HS5.out.trans (StepL.of L hbd)); replace HL := hide (HL.out.later hbd); replace HN := hide (HN.out.later hbd); replace HD4 := hide (HD4.out.later hbd HD4.out.lt); replace HC4 := hide (HC4.out.later hbd HC4.out.lt); replace HO4 := hide (HO4.out.later hbd); clear hbd; have l0 := HL.out.cell 0 _ rfl; have l1 := HL.out.cell 1 _ rfl; have q0 := HN.out.cell 0 _ rfl; have q1 := HN.out.cell 1 _ rfl; have f0 := HL.out.frozen 0; have f1 := HL.out.frozen 1)))
          all_goals (
            go_upto_region 5 with fail
            go_region_held3 (fun w' => w'.cell? ⟨N, 0, none⟩ = some (.slice A4 m2 c4) ∧ w'.cell? ⟨N, 1, none⟩ = some (.slice B4 m2 d4)) (first | exact ⟨q0, q1⟩ | go_keep) (first | (go_at_call 94; go_must (refine calls_gen fun wc hwc => ?_; (first | have hbx := drew_below hwc | have hbx := eq_below hwc); replace HS := hide (HS.out.trans (StepL.of L hbx)); replace HS5 := hide (HS5.out.trans (StepL.of L hbx)); replace HL := hide (HL.out.later hbx); replace HN := hide (HN.out.later hbx); replace HD4 := hide (HD4.out.later hbx HD4.out.lt); replace HC4 := hide (HC4.out.later hbx HC4.out.lt); replace HO4 := hide (HO4.out.later hbx); clear hwc hbx; have HGW := hide HS.out.size; refine (relI_any _ n _ (sLb f s k) _ m _ (alC (ser f s k).1 (ser f s k).2) _ HLN.out (by omega) HCN.out (by omega) HD4.out.rd HC4.out.rd HRG.out).mono ?_; rintro e wd ⟨rfl, hbd, hrow, hsz⟩; have HOW := hide hrow.own; replace HS := hide (HS.out.trans (StepL.of L hbd)); replace HS5 := hide (HS5.out.trans (StepL.of L hbd)); replace HL := hide (HL.out.later hbd); replace HN := hide (HN.out.later hbd); replace HD4 := hide (HD4.out.later hbd HD4.out.lt); replace HC4 := hide (HC4.out.later hbd HC4.out.lt); replace HO4 := hide (HO4.out.later hbd); clear hbd hrow hsz; have l0 := HL.out.cell 0 _ rfl; have l1 := HL.out.cell 1 _ rfl; have q0 := HN.out.cell 0 _ rfl; have q1 := HN.out.cell 1 _ rfl; have f0 := HL.out.frozen 0; have f1 := HL.out.frozen 1)))
            all_goals (
              clear l0 l1 q0 q1 f0 f1
              go_wp2_with fail
              have hnx := fun Wf hW => SerI.next (f := f) (s := s) (lo := w00.heap.size) (n0 := V0.heap.size) (c4 := c4) (d4 := d4) (Wf := Wf) HJ.out hW HJ3.out HS.out HL.out (by rw [HSUC.out.1, HSUC.out.2]; exact HO4.out) hlo5 (HNS.out _ HS5.out) HOW.out HGW.out hL3 (by have := HB00.out.size; have := HWB.out.size; have := HSI.out.new; omega) HSI.out.new HM2.out
              have HNX2 := hide hnx
              clear hnx
              go_roundw
              case rel =>
                first
                  | (have h9 := HNX2.out _ (.inl rfl); exact ⟨k + 1, _, _, A4, B4, c4, d4, _, n, by have := HKK.out; omega, rfl, h9.1, h9.2.1⟩)
                  | (have h9 := HNX2.out _ (.inr rfl); exact ⟨k + 1, _, _, A4, B4, c4, d4, _, n, by have := HKK.out; omega, rfl, h9.1, h9.2.1⟩)
              case measure =>
                rw [HME.out]
                first
                  | (have h9 := HNX2.out _ (.inl rfl); rw [h9.2.2]; exact hlt2)
                  | (have h9 := HNX2.out _ (.inr rfl); rw [h9.2.2]; exact hlt2)))
      · gi_wp2
        go_wp2_with fail
        go_end0
        exact ⟨⟨_, rfl⟩, .inr ⟨k, L, _, hk, hjx⟩⟩
end Go.Proofs.Ytgmloaemnbnbgaa
namespace Go.Proofs.Ytgmloaemnbnbgaa
open Go Go.RowKit
/-! A list of solutions that is being filled. -/
def qpC (R S : Nat → Option Addr) (C D : Nat → Nat) (zs : Nat → SolV) (k i : Nat) : Value :=
  if i / 2 < k then (if i % 2 = 0 then .slice (R (i / 2)) (zs (i / 2)).1.length (C (i / 2)) else .slice (S (i / 2)) (zs (i / 2)).2.length (D (i / 2))) else .slice none 0 0
structure QP (ts t tq : TypeId) (w : World) (g q k : Nat) (R S : Nat → Option Addr) (C D p : Nat → Nat) (zs : Nat → SolV) : Prop where
  row : w.rowIs g tq (q * 2) (qpC R S C D zs k)
  low : g < p 0
  mono : ∀ i, i < k → p i ≤ p (i + 1)
  top : p k ≤ w.heap.size
  obj : ∀ i, i < k → ObjZ ts t (p i) (p (i + 1)) w (R i) (zs i).1 (S i) (zs i).2
def upd {α : Type} (f : Nat → α) (k : Nat) (v : α) : Nat → α := fun i => if i = k then v else f i
section
variable {ts t tq : TypeId} {w w' : World} {g q k : Nat} {R S : Nat → Option Addr} {C D p : Nat → Nat} {zs : Nat → SolV}
theorem QP.later (h : QP ts t tq w g q k R S C D p zs) (hb : Below w.heap.size w w') : QP ts t tq w' g q k R S C D p zs :=
  ⟨h.row.of_block (hb.block g h.row.lt), h.low, h.mono, Nat.le_trans h.top hb.size, fun i hi => (h.obj i hi).later hb⟩
theorem QP.le (h : QP ts t tq w g q k R S C D p zs) {i j : Nat} (hij : i ≤ j) (hj : j ≤ k) : p i ≤ p j := by
  induction j with
  | zero => rw [show i = 0 by omega]; exact Nat.le_refl _
  | succ j ih =>
    by_cases e : i = j + 1
    · rw [e]; exact Nat.le_refl _
    · exact Nat.le_trans (ih (by omega) (by omega)) (h.mono j (by omega))
theorem qp_set {vA vB : Option Addr} {cA cB k : Nat} {R S : Nat → Option Addr} {C D : Nat → Nat} {zs : Nat → SolV} (i : Nat) :
    (if i = k * 2 + 1 then Value.slice vB (zs k).2.length cB else if i = k * 2 then Value.slice vA (zs k).1.length cA else qpC R S C D zs k i) = qpC (upd R k vA) (upd S k vB) (upd C k cA) (upd D k cB) zs (k + 1) i := by
  unfold qpC upd
  by_cases h1 : i = k * 2 + 1
  · subst h1
    rw [if_pos rfl, if_pos (show (k * 2 + 1) / 2 < k + 1 by omega), if_neg (show ¬ (k * 2 + 1) % 2 = 0 by omega), show (k * 2 + 1) / 2 = k by omega]
    simp
  · rw [if_neg h1]
    by_cases h2 : i = k * 2
    · subst h2
      rw [if_pos rfl, if_pos (show k * 2 / 2 < k + 1 by omega), if_pos (show k * 2 % 2 = 0 by omega), show k * 2 / 2 = k by omega]
      simp
    · rw [if_neg h2]
      have hne : i / 2 ≠ k := by omega
      by_cases h3 : i / 2 < k
      · rw [if_pos h3, if_pos (show i / 2 < k + 1 by omega)]
        simp [hne]
      · rw [if_neg h3, if_neg (show ¬ i / 2 < k + 1 by omega)]
/-- The next solution is made and put into its place. -/
theorem QP.step {vA vB : Option Addr} {cA cB l : Nat} (h : QP ts t tq w g q k R S C D p zs) (hk : k < q) (hl : p k ≤ l) (hl2 : l ≤ w.heap.size) (hz : ObjZ ts t l w.heap.size w vA (zs k).1 vB (zs k).2) :
    QP ts t tq (((w.setCell ⟨g, k * 2, none⟩ (.slice vA (zs k).1.length cA)).setCell ⟨g, k * 2 + 1, none⟩ (.slice vB (zs k).2.length cB))) g q (k + 1) (upd R k vA) (upd S k vB) (upd C k cA) (upd D k cB) (upd p (k + 1) w.heap.size) zs := by
  have hsz : (((w.setCell ⟨g, k * 2, none⟩ (.slice vA (zs k).1.length cA)).setCell ⟨g, k * 2 + 1, none⟩ (.slice vB (zs k).2.length cB))).heap.size = w.heap.size := by simp [World.setCell]
  have ht : Touch g (g + 1) w (((w.setCell ⟨g, k * 2, none⟩ (.slice vA (zs k).1.length cA)).setCell ⟨g, k * 2 + 1, none⟩ (.slice vB (zs k).2.length cB))) :=
    ⟨rfl, rfl, rfl, by rw [hsz]; exact Nat.le_refl _, fun j hj hne => by
      rw [Below.heap_setCell _ _ _ j (by show j ≠ g; omega), Below.heap_setCell _ _ _ j (by show j ≠ g; omega)]⟩
  refine ⟨((h.row.set (k * 2) _).set (k * 2 + 1) _).congr fun i _ => qp_set i, ?_, fun i hi => ?_, ?_, fun i hi => ?_⟩
  · have := h.low
    unfold upd
    rw [if_neg (by omega)]
    exact this
  · unfold upd
    by_cases e : i = k
    · subst e
      rw [if_neg (by omega), if_pos rfl]
      omega
    · rw [if_neg (by omega), if_neg (by omega)]
      exact h.mono i (by omega)
  · unfold upd
    rw [if_pos rfl, hsz]
    exact Nat.le_refl _
  · have hlow := h.low
    unfold upd
    by_cases e : i = k
    · subst e
      rw [if_neg (by omega), if_pos rfl, if_pos rfl, if_pos rfl]
      exact (hz.mono hl (Nat.le_refl _)).far ht (.inr (by have := h.le (Nat.zero_le i) (Nat.le_refl _); omega))
    · rw [if_neg (by omega), if_neg (by omega), if_neg e, if_neg e]
      exact (h.obj i (by omega)).far ht (.inr (by have := h.le (Nat.zero_le i) (by omega); omega))
theorem QP.done {f s : List (List Int)} (h : QP ts t tq w g q q R S C D p (osZ f s)) : QW ts t tq w g R S C D p (osL f s q) := by
  have hl := osL_length f s q
  obtain ⟨c, h1, h2, h3⟩ := h.row
  refine ⟨⟨c, h1, fun i hi => ?_⟩, h.low, fun i hi => h.mono i (by omega), fun i hi => ?_⟩
  · rw [osL_at f s q i (by omega), h3 _ (by omega), h3 _ (by omega)]
    unfold qpC
    rw [if_pos (show i * 2 / 2 < q by omega), if_pos (show i * 2 % 2 = 0 by omega), if_pos (show (i * 2 + 1) / 2 < q by omega), if_neg (show ¬ (i * 2 + 1) % 2 = 0 by omega), show i * 2 / 2 = i by omega, show (i * 2 + 1) / 2 = i by omega]
    exact ⟨rfl, rfl⟩
  · rw [osL_at f s q i (by omega)]
    exact h.obj i (by omega)
end
end Go.Proofs.Ytgmloaemnbnbgaa
