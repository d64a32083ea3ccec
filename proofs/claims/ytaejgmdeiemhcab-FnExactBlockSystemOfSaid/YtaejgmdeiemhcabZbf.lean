import Derived.Test.YtaejgmdeiemhcabZaz
import Derived.Test.YtaejgmdeiemhcabZbd
import Derived.Test.YtaejgmdeiemhcabZag
import Derived.Test.YtaejgmdeiemhcabZak
import Derived.Test.YtaejgmdeiemhcabZbe
import Derived.Test.YtaejgmdeiemhcabZaf
import Derived.Test.YtaejgmdeiemhcabZaa
import Derived.Deep.QuietTactic
import Derived.BigQuiet
import Derived.Test.YtaejgmdeiemhcabZbb
import Derived.Test.YtaejgmdeiemhcabZaw
import Derived.Test.YtaejgmdeiemhcabZbc
import Derived.Deep.Cut
import Derived.Deep.RegionHeld3
namespace Go.Proofs.Ytaejgmdeiemhcab
open Go Go.RowKit
open Classical
/-- What BlockSystemOf answers. -/
def BkRes7 (f s : List (List Int)) (x y : Int) (zs : List Int) (code : Int) : Prop :=
  (NdS f s ∧ (((0 ≤ x ∧ x < (f.length : Int)) ∧ (0 ≤ y ∧ y < (f.length : Int))) ∧ x ≠ y) ∧ orbN f s = 1 ∧ zs = blL f s x.toNat y.toNat ∧ code = 0) ∨
  (NdS f s ∧ (((0 ≤ x ∧ x < (f.length : Int)) ∧ (0 ≤ y ∧ y < (f.length : Int))) ∧ x ≠ y) ∧ orbN f s ≠ 1 ∧ zs = [] ∧ code = 5) ∨
  (NdS f s ∧ ¬ (((0 ≤ x ∧ x < (f.length : Int)) ∧ (0 ≤ y ∧ y < (f.length : Int))) ∧ x ≠ y) ∧ zs = [] ∧ code = 2) ∨
  (¬ NdS f s ∧ zs = [] ∧ code = 1)
theorem BkRes7.ex (f s : List (List Int)) (x y : Int) : ∃ zs code, BkRes7 f s x y zs code ∧ zs.length ≤ 1048576 := by
  by_cases hg : NdS f s
  · by_cases hin : (((0 ≤ x ∧ x < (f.length : Int)) ∧ (0 ≤ y ∧ y < (f.length : Int))) ∧ x ≠ y)
    · by_cases ho : orbN f s = 1
      · exact ⟨_, _, .inl ⟨hg, hin, ho, rfl, rfl⟩, by rw [blL_length]; have := (hg.sizes rfl).2.1; omega⟩
      · exact ⟨_, _, .inr (.inl ⟨hg, hin, ho, rfl, rfl⟩), by simp⟩
    · exact ⟨_, _, .inr (.inr (.inl ⟨hg, hin, rfl, rfl⟩)), by simp⟩
  · exact ⟨_, _, .inr (.inr (.inr ⟨hg, rfl, rfl⟩)), by simp⟩
/-- A primitive solution. -/
def OneB (f s : List (List Int)) (x y : Nat) : Prop := ∀ z, z < f.length → (blL f s x y).getD z 0 = 0
def PmF (f s : List (List Int)) : Prop := orbN f s = 1 ∧ ∀ y, 1 ≤ y → y < f.length → OneB f s 0 y
def PmRes (f s : List (List Int)) : Bool → Int → Prop := BRes (NdS f s) (PmF f s)
theorem PmRes.ex (f s : List (List Int)) : ∃ r code, PmRes f s r code := BRes.ex _ _
theorem oneB_max {f s : List (List Int)} {x y : Nat} {m : Int} (h : IsMax (blL f s x y) m) : 0 < m ↔ ¬ OneB f s x y := by
  have hl := blL_length f s x y
  obtain ⟨⟨i, hi, e⟩, hall⟩ := h
  constructor
  · intro hm h1
    have := h1 i (by omega)
    omega
  · intro hno
    rcases Int.lt_or_le 0 m with h1 | h1
    · exact h1
    · exact absurd (fun z hz => by
        have h2 := hall z (by omega)
        have h4 : 0 ≤ (blL f s x y).getD z 0 := numL_nonneg _ z
        omega) hno
end Go.Proofs.Ytaejgmdeiemhcab
namespace Go.Proofs.Ytaejgmdeiemhcab
open Go Go.RowKit
set_option maxHeartbeats 4000000
/-- The cells of a list of pairs of which k are made. -/
def ldC (mp : Nat → Nat → Nat) (a b k i : Nat) : Value := .int .i64 (if i / 2 < k then ((if i % 2 = 0 then mp (i / 2) a else mp (i / 2) b : Nat) : Int) else 0)
theorem ldC_set (mp : Nat → Nat → Nat) (a b k i : Nat) : (if i = k * 2 + 1 then Value.int .i64 (mp k b : Int) else if i = k * 2 then Value.int .i64 (mp k a : Int) else ldC mp a b k i) = ldC mp a b (k + 1) i := by
  unfold ldC
  by_cases h1 : i = k * 2 + 1
  · subst h1
    rw [if_pos rfl, if_pos (by omega), if_neg (by omega), show (k * 2 + 1) / 2 = k by omega]
  · rw [if_neg h1]
    by_cases h2 : i = k * 2
    · subst h2
      rw [if_pos rfl, if_pos (by omega), if_pos (by omega), show k * 2 / 2 = k by omega]
    · rw [if_neg h2]
      by_cases h3 : i / 2 < k
      · rw [if_pos h3, if_pos (show i / 2 < k + 1 by omega)]
      · rw [if_neg h3, if_neg (show ¬ i / 2 < k + 1 by omega)]
theorem flatP_at (mp : Nat → Nat → Nat) (K a b j : Nat) (u : Value) (h : (flatP (folP mp K a b))[j]? = some u) : j < K * 2 ∧ u = ldC mp a b K j := by
  have hl : (flatP (folP mp K a b)).length = K * 2 := by rw [flatP_length, folP_length]
  have hj : j < K * 2 := by have := (List.getElem?_eq_some_iff.1 h).1; omega
  refine ⟨hj, ?_⟩
  induction K with
  | zero => omega
  | succ K ih =>
    rw [folP_succ, flatP_app] at h
    have hlK : (flatP (folP mp K a b)).length = K * 2 := by rw [flatP_length, folP_length]
    by_cases h2 : j < K * 2
    · rw [List.getElem?_append_left (by omega)] at h
      rw [ih h hlK h2]
      unfold ldC
      rw [if_pos (show j / 2 < K by omega), if_pos (show j / 2 < K + 1 by omega)]
    · rw [List.getElem?_append_right (by omega), hlK] at h
      unfold ldC
      rw [if_pos (show j / 2 < K + 1 by omega), show j / 2 = K by omega]
      rcases (show j = K * 2 ∨ j = K * 2 + 1 by omega) with e | e
      · subst e
        simp [flatP] at h
        rw [if_pos (by omega)]
        exact h.symm
      · subst e
        rw [show K * 2 + 1 - K * 2 = 1 by omega] at h
        simp [flatP] at h
        rw [if_neg (by omega)]
        exact h.symm
set_option maxRecDepth 100000 in
theorem led_any (bx bt ot n K c7 : Nat) (mp : Nat → Nat → Nat) (w0 : World) (hK : K ≤ 64) (hbx : Blk w0 bx 22 [.slice (some ⟨bt, ot, none⟩) K c7]) (hbt : bt < w0.heap.size)
    (hrows : ∀ i, i < K → ∃ bi oi ci, w0.cell? ⟨bt, ot + i, none⟩ = some (.slice (some ⟨bi, oi, none⟩) n ci) ∧ bi < w0.heap.size ∧ ∀ a, a < n → w0.cell? ⟨bi, oi + a, none⟩ = some (.int .i64 ((mp i a : Nat) : Int))) :
    FolFn Try.prog 86 #[] #[.pointer (some ⟨bx, 0, none⟩)] n K mp w0 := by
  intro W a b ha hb hbe
  obtain ⟨i0, hinf, hz0, hz1, hz2⟩ := info_parts shInfo
  have hmk := make2 Try.prog 99 71 (.int .i64 0) (.int .i64 0) i0 _ Try.underlying99 hinf hz0 hz1 hz2 rfl K (by omega)
  have haz : (a : Int) < n := by omega
  have hbz : (b : Int) < n := by omega
  have HX := hide (hbx.later hbe)
  have HW := hide hbe
  have hbxl := hbx.lt
  have HB0 := hide ((Below.refl W.heap.size W).alloc (Nat.le_refl _) (Obj.cells #[Value.int .i64 (a : Int), Value.int .i64 (b : Int)] 71))
  have HK0 := hide (Blk.new W 71 [.int .i64 (a : Int), .int .i64 (b : Int)])
  have HROWS := hide hrows
  have HX0 := hide (HX.out.later HB0.out)
  have hsW := hbe.size
  clear hbx hbe hrows
  have x0 := HX0.out.cell 0 _ rfl
  show Calls Try.prog 86 #[.agg #[.int .i64 (a : Int), .int .i64 (b : Int)], .pointer (some ⟨bx, 0, none⟩)] W _
  go_enter Try.func86, Try.ntmps86
  go_upto_region 2 with fail
  refine wp_gen fun w1 hw1 => ?_
  obtain ⟨gl, hgl⟩ : ∃ gl, gl = W.heap.size + 1 := ⟨_, rfl⟩
  have hs0 : (W.alloc (Obj.cells #[Value.int .i64 (a : Int), Value.int .i64 (b : Int)] 71)).heap.size = gl := by rw [hgl]; simp
  have HB1 : Hid (Below W.heap.size W w1) := hide (by rw [hw1]; exact HB0.out.alloc (by simp) _)
  have HK1 : Hid (Blk w1 W.heap.size 71 [.int .i64 (a : Int), .int .i64 (b : Int)]) := hide (by rw [hw1]; exact HK0.out.alloc _)
  have HX1 : Hid (Blk w1 bx 22 [.slice (some ⟨bt, ot, none⟩) K c7]) := hide (by rw [hw1]; exact HX0.out.alloc _)
  have HL1 : Hid (w1.rowIs gl 71 (K * 2) (ldC mp a b 0)) := hide (by
    rw [hw1, ← hs0]
    exact (made2_row _ _ _ _ K).congr fun i _ => by
      unfold ldC
      rw [if_neg (show ¬ i / 2 < 0 by omega)]
      by_cases h : i % 2 = 0
      · rw [if_pos h]
      · rw [if_neg h])
  have hgl2 : W.heap.size + 1 = gl := hgl.symm
  try rw [hgl2]
  clear hw1 hs0 x0 hmk HB0 HK0 HX0 hgl
  have x0 := HX1.out.cell 0 _ rfl
  go_wp2_with fail
  clear x0
  go_loopw [12] (fun i wr => ∃ k : Nat, k ≤ K ∧ i = .int .i64 (k : Int) ∧ Below W.heap.size W wr ∧ Blk wr W.heap.size 71 [.int .i64 (a : Int), .int .i64 (b : Int)] ∧ wr.rowIs gl 71 (K * 2) (ldC mp a b k)) (fun i _ => K - (intOf i).toNat)
  case atStart => exact ⟨0, Nat.zero_le _, rfl, HB1.out, HK1.out, HL1.out⟩
  case round =>
    clear HB1 HK1 HX1 HL1
    obtain ⟨k, hk, rfl, hbe, hkk, hrow⟩ := hrel
    have HB := hide hbe
    have HK := hide hkk
    have HR := hide hrow
    clear hbe hkk hrow
    by_cases hlt : k < K
    · have hltz : (k : Int) < K := by omega
      obtain ⟨bk, ok, ck, r0, r1, r2⟩ := HROWS.out k hlt
      have r3 := r2 a ha
      have r4 := r2 b hb
      have HWB := hide (HW.out.trans (HB.out.mono hsW))
      have f0 : wr.cell? ⟨bt, ot + k, none⟩ = some (.slice (some ⟨bk, ok, none⟩) n ck) := (HWB.out.cell (p := ⟨bt, ot + k, none⟩) hbt).trans r0
      have f1 : wr.cell? ⟨bk, ok + a, none⟩ = some (.int .i64 (mp k a : Int)) := (HWB.out.cell (p := ⟨bk, ok + a, none⟩) r1).trans r3
      have f2 : wr.cell? ⟨bk, ok + b, none⟩ = some (.int .i64 (mp k b : Int)) := (HWB.out.cell (p := ⟨bk, ok + b, none⟩) r1).trans r4
      have k0 := HK.out.cell 0 _ rfl
      have k1 := HK.out.cell 1 _ rfl
      have g0 := HR.out.cell (i := k * 2) (by omega)
      have g1 := HR.out.cell (i := k * 2 + 1) (by omega)
      have z0 := HR.out.frozen (k * 2)
      have z1 := HR.out.frozen (k * 2 + 1)
      obtain ⟨ma, hma⟩ : ∃ m, mp k a = m := ⟨_, rfl⟩
      obtain ⟨mb, hmb⟩ : ∃ m, mp k b = m := ⟨_, rfl⟩
      rw [hma] at f1
      rw [hmb] at f2
      have HMA := hide hma
      have HMB := hide hmb
      have HS : Hid ((((wr.setCell ⟨gl, k * 2, none⟩ (.int .i64 (ma : Int))).setCell ⟨gl, k * 2 + 1, none⟩ (.int .i64 (mb : Int))).drew).rowIs gl 71 (K * 2) (ldC mp a b (k + 1))) := hide (((HR.out.set (k * 2) (.int .i64 (ma : Int))).set (k * 2 + 1) (.int .i64 (mb : Int))).congr fun i _ => by rw [← hma, ← hmb]; exact ldC_set mp a b k i)
      have HB2 := hide (((HB.out.setCell (p := ⟨gl, k * 2, none⟩) (by show W.heap.size ≤ gl; omega) (.int .i64 (ma : Int))).setCell (p := ⟨gl, k * 2 + 1, none⟩) (by show W.heap.size ≤ gl; omega) (.int .i64 (mb : Int))).drew)
      have HK2 : Hid (Blk (((wr.setCell ⟨gl, k * 2, none⟩ (.int .i64 (ma : Int))).setCell ⟨gl, k * 2 + 1, none⟩ (.int .i64 (mb : Int))).drew) W.heap.size 71 [.int .i64 (a : Int), .int .i64 (b : Int)]) := hide ((HK.out.far (p := ⟨gl, k * 2, none⟩) (by show W.heap.size ≠ gl; omega) _).far (p := ⟨gl, k * 2 + 1, none⟩) (by show W.heap.size ≠ gl; omega) _)
      clear r0 r2 r3 r4 hma hmb
      go_wp2_with fail
      go_still_tail 14, (by kernel_rfl)
      change wpList _ _ _ _ _ wr.drew
      go_wp2_with fail
      go_roundw
      case rel => exact ⟨k + 1, by omega, by go_num, HB2.out, HK2.out, HS.out⟩
      case measure => simp [intOf]; omega
    · have hkn : k = K := by omega
      subst hkn
      go_wp2_with fail
      go_ret
      refine ⟨gl, k, rfl, HB.out, fun j u hj => ?_⟩
      obtain ⟨h1, h2⟩ := flatP_at mp k a b j u hj
      rw [HR.out.cell h1, h2]
end Go.Proofs.Ytaejgmdeiemhcab
namespace Go.Proofs.Ytaejgmdeiemhcab
open Go Go.RowKit
set_option maxHeartbeats 2000000
set_option maxRecDepth 100000 in
theorem orbS_any (A : Option Addr) (n c : Nat) (f : List (List Int)) (B : Option Addr) (d : Nat) (s : List (List Int)) (w : World) (hz : ZArg 1048576 w A n f B n s) (hg : NdS f s) :
    Calls Try.prog 45 #[.agg #[.slice A n c, .slice B n d]] w fun e w' => ∃ A' c', e = .returned (.slice A' n c') ∧ Below w.heap.size w w' ∧ Res 2 w.heap.size w' A' (orbS f s) := by
  have h12 := hz.small hg.map
  have h1 : 1 ≤ n := by have := hg.map.1.1; have := hz.sz.fl; omega
  have HZ := hide hz
  have HG := hide hg
  have HBc := hide ((Below.refl _ w).alloc (Nat.le_refl _) (Obj.cells #[Value.slice A n c, Value.slice B n d] 35))
  have HKc := hide (Blk.new w 35 [.slice A n c, .slice B n d])
  clear hz hg
  go_enter Try.func45, Try.ntmps45
  go_upto_region 1 with fail
  refine wp_gen fun w0 hw0 => ?_
  have HB0 := hide (show Below w.heap.size w w0 by rw [hw0]; exact HBc.out)
  replace HKc := hide (show Blk w0 w.heap.size 35 [.slice A n c, .slice B n d] by rw [hw0]; exact HKc.out)
  clear hw0 HBc
  have HBc := HB0
  clear HB0
  have k0 := HKc.out.cell 0 _ rfl
  have k1 := HKc.out.cell 1 _ rfl
  go_region_held3 (fun w' => w'.cell? ⟨w.heap.size, 0, none⟩ = some (.slice A n c) ∧ w'.cell? ⟨w.heap.size, 1, none⟩ = some (.slice B n d)) (first | exact ⟨k0, k1⟩ | go_keep) (first | (go_at_call 76; go_must (refine calls_gen fun wc hwc => ?_; (first | have hbx := drew_below hwc | have hbx := eq_below hwc); replace HBc := hide (HBc.out.trans (hbx.mono HBc.out.size)); replace HKc := hide (HKc.out.later hbx); clear hwc hbx; refine (bothS_any _ n _ f _ _ s _ (HZ.out.later HBc.out) HG.out.map).mono ?_; rintro e wd ⟨A2, c2, rfl, hbd, hrd⟩; replace HBc := hide (HBc.out.trans (hbd.mono HBc.out.size)); replace HKc := hide (HKc.out.later hbd); clear hbd; have k0 := HKc.out.cell 0 _ rfl; have k1 := HKc.out.cell 1 _ rfl; have HRD := hide hrd; clear hrd)) | (go_at_call 75; go_must (refine calls_gen fun wc hwc => ?_; (first | have hbx := drew_below hwc | have hbx := eq_below hwc); replace HBc := hide (HBc.out.trans (hbx.mono HBc.out.size)); replace HKc := hide (HKc.out.later hbx); replace HRD := hide (HRD.out.later hbx); clear hwc hbx; have HLO := hide HBc.out.size; refine (l01Orbits_any _ (n + n) _ n (bothL f s) _ (bothL_length HZ.out.sz.fl HZ.out.sz.sl) (by omega) h1 h12.2 (HG.out.both HZ.out.sz.fl) HRD.out).mono ?_; rintro e wd ⟨A3, c3, rfl, hbd, hres⟩; replace HBc := hide (HBc.out.trans (hbd.mono HBc.out.size)); replace HKc := hide (HKc.out.later hbd); clear hbd; have k0 := HKc.out.cell 0 _ rfl; have k1 := HKc.out.cell 1 _ rfl; have HRS := hide (hres.mono HLO.out); clear hres)))
  clear k0 k1
  go_wp2_with fail
  go_ret
  refine ⟨_, _, rfl, HBc.out, ?_⟩
  unfold orbS
  rw [HZ.out.sz.fl]
  exact HRS.out
/-- One more than the greatest number of an orbit. -/
theorem orb_great {f s : List (List Int)} {n : Nat} (hg : NdS f s) (hn : f.length = n) : gI (orbS f s) n = (orbN f s : Int) := by
  subst hn
  exact gI_lab (bothL f s) f.length (hg.both rfl)
theorem orb_12 {f s : List (List Int)} {n : Nat} (hg : NdS f s) (hn : f.length = n) : ∀ j, j < n → (orbS f s).getD j 0 ≤ 12 := by
  subst hn
  intro j hj
  have h1 := (orb_rng hg j hj).2
  have h2 := @orb_le f s
  have h3 := (hg.sizes rfl).2.1
  omega
end Go.Proofs.Ytaejgmdeiemhcab
