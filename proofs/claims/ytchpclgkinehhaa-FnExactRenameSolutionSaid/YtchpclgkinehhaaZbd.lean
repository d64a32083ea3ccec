import Derived.Test.YtchpclgkinehhaaZbb
import Derived.Test.YtchpclgkinehhaaZba
import Derived.Test.YtchpclgkinehhaaZl
import Derived.Test.YtchpclgkinehhaaZj
import Derived.Test.YtchpclgkinehhaaZh
import Derived.Test.YtchpclgkinehhaaZc
import Derived.Test.YtchpclgkinehhaaZk
import Derived.Test.YtchpclgkinehhaaZb
import Derived.StillTailTactics
import Derived.Test.YtchpclgkinehhaaProg
import Derived.Test.YtchpclgkinehhaaZax

namespace Go.Proofs.Ytchpclgkinehhaa
open Go Go.RowKit
set_option maxHeartbeats 1000000

theorem mapI_any (A : Option Addr) (n c : Nat) (f : List (List Int)) (B : Option Addr) (m d : Nat) (s : List (List Int)) (r : Bool) (w : World) (hz : ZArg 1048576 w A n f B m s) (hr : r = true ↔ PMap f s) :
    Calls Try.prog 86 #[.agg #[.slice A n c, .slice B m d]] w fun e w' => e = .returned (.bool r) ∧ Below w.heap.size w w' := by
  have HZ := hide hz
  have HR := hide hr
  clear hz hr
  have HB0 := hide ((Below.refl _ w).alloc (Nat.le_refl _) (Obj.cells #[Value.slice A n c, Value.slice B m d] 40))
  have HK0 := hide (Blk.new w 40 [.slice A n c, .slice B m d])
  by_cases h1 : Tbl f
  · have H1 := hide h1
    clear h1
    by_cases h2 : Tbl s
    · have H2 := hide h2
      clear h2
      have HEQ : Hid (r = true ↔ n = m) := hide (by rw [HR.out, ← HZ.out.sz.fl, ← HZ.out.sz.sl]; exact ⟨fun h => h.2.2, fun h => ⟨H1.out, H2.out, h⟩⟩)
      have hfin : r = decide (n = m) := by
        have h := HEQ.out
        cases r <;> simp at h ⊢ <;> exact h
      by_cases hnm : n = m
      · subst hnm
        simp at hfin
        subst hfin
        go_enter Try.func86, Try.ntmps86
        go_wp2_with fail
        refine (isTable_any _ _ _ f true _ HZ.out.sz.fl (by have := HZ.out.sz.nb; omega) (fun i hi => by have := HZ.out.sz.nr i hi; omega) (HZ.out.fst.later HB0.out) (by simp [H1.out])).mono ?_
        rintro e w1 ⟨rfl, hq1⟩
        have HB1 := hide (HB0.out.trans (hq1.below _))
        have HK1 := hide (HK0.out.later (hq1.below _))
        have k0 := HK1.out.cell 0 _ rfl
        have k1 := HK1.out.cell 1 _ rfl
        clear hq1
        go_wp2_with fail
        clear k0 k1
        refine (isTable_any _ _ _ s true _ HZ.out.sz.sl (by have := HZ.out.sz.mb; omega) (fun i hi => by have := HZ.out.sz.mr i hi; omega) (HZ.out.snd.later HB1.out) (by simp [H2.out])).mono ?_
        rintro e w2 ⟨rfl, hq2⟩
        have HB2 := hide (HB1.out.trans (hq2.below _))
        have HK2 := hide (HK1.out.later (hq2.below _))
        have k0 := HK2.out.cell 0 _ rfl
        have k1 := HK2.out.cell 1 _ rfl
        have hnb := HZ.out.sz.nb
        clear hq2
        go_wp2_with fail
        go_ret
        exact ⟨rfl, HB2.out⟩
      · have hne : decide ((n : Int) = (m : Int)) = false := by simp; omega
        have hne2 : ((n : Int) == (m : Int)) = false := by simp; omega
        simp [hnm] at hfin
        subst hfin
        clear hnm
        go_enter Try.func86, Try.ntmps86
        go_wp2_with fail
        refine (isTable_any _ _ _ f true _ HZ.out.sz.fl (by have := HZ.out.sz.nb; omega) (fun i hi => by have := HZ.out.sz.nr i hi; omega) (HZ.out.fst.later HB0.out) (by simp [H1.out])).mono ?_
        rintro e w1 ⟨rfl, hq1⟩
        have HB1 := hide (HB0.out.trans (hq1.below _))
        have HK1 := hide (HK0.out.later (hq1.below _))
        have k0 := HK1.out.cell 0 _ rfl
        have k1 := HK1.out.cell 1 _ rfl
        clear hq1
        go_wp2_with fail
        clear k0 k1
        refine (isTable_any _ _ _ s true _ HZ.out.sz.sl (by have := HZ.out.sz.mb; omega) (fun i hi => by have := HZ.out.sz.mr i hi; omega) (HZ.out.snd.later HB1.out) (by simp [H2.out])).mono ?_
        rintro e w2 ⟨rfl, hq2⟩
        have HB2 := hide (HB1.out.trans (hq2.below _))
        have HK2 := hide (HK1.out.later (hq2.below _))
        have k0 := HK2.out.cell 0 _ rfl
        have k1 := HK2.out.cell 1 _ rfl
        have hnb := HZ.out.sz.nb
        have hmb := HZ.out.sz.mb
        clear hq2
        go_wp2_with fail
        go_ret
        exact ⟨rfl, HB2.out⟩
    · have hrt : r = false := by
        cases r
        · rfl
        · exact absurd (HR.out.1 rfl).2.1 h2
      have H2 := hide h2
      subst hrt
      clear h2
      go_enter Try.func86, Try.ntmps86
      go_wp2_with fail
      refine (isTable_any _ _ _ f true _ HZ.out.sz.fl (by have := HZ.out.sz.nb; omega) (fun i hi => by have := HZ.out.sz.nr i hi; omega) (HZ.out.fst.later HB0.out) (by simp [H1.out])).mono ?_
      rintro e w1 ⟨rfl, hq1⟩
      have HB1 := hide (HB0.out.trans (hq1.below _))
      have HK1 := hide (HK0.out.later (hq1.below _))
      have k0 := HK1.out.cell 0 _ rfl
      have k1 := HK1.out.cell 1 _ rfl
      clear hq1
      go_wp2_with fail
      refine (isTable_any _ _ _ s false _ HZ.out.sz.sl (by have := HZ.out.sz.mb; omega) (fun i hi => by have := HZ.out.sz.mr i hi; omega) (HZ.out.snd.later HB1.out) (by simp [H2.out])).mono ?_
      rintro e w2 ⟨rfl, hq2⟩
      have HB2 := hide (HB1.out.trans (hq2.below _))
      clear hq2
      go_wp2_with fail
      go_ret
      exact ⟨rfl, HB2.out⟩
  · have hrt : r = false := by
      cases r
      · rfl
      · exact absurd (HR.out.1 rfl).1 h1
    have H1 := hide h1
    subst hrt
    clear h1
    go_enter Try.func86, Try.ntmps86
    go_wp2_with fail
    refine (isTable_any _ _ _ f false _ HZ.out.sz.fl (by have := HZ.out.sz.nb; omega) (fun i hi => by have := HZ.out.sz.nr i hi; omega) (HZ.out.fst.later HB0.out) (by simp [H1.out])).mono ?_
    rintro e w1 ⟨rfl, hq1⟩
    have HB1 := hide (HB0.out.trans (hq1.below _))
    clear hq1
    go_wp2_with fail
    go_ret
    exact ⟨rfl, HB1.out⟩
end Go.Proofs.Ytchpclgkinehhaa
namespace Go.Proofs.Ytchpclgkinehhaa
open Go Go.RowKit

theorem grid_sz {n : Nat} (h : n ≤ 1048576) (f g : Nat → Nat → Int) : ZSz 1048576 (grid n f) (grid n f).length (grid n g) (grid n g).length :=
  ⟨rfl, by rw [grid_length]; exact h, fun i hi => by rw [grid_length] at hi; rw [grid_row_length _ _ _ hi]; exact h, rfl, by rw [grid_length]; exact h, fun i hi => by rw [grid_length] at hi; rw [grid_row_length _ _ _ hi]; exact h⟩
theorem nil_sz : ZSz 1048576 [] ([] : List (List Int)).length [] ([] : List (List Int)).length := ⟨rfl, by simp, by simp, rfl, by simp, by simp⟩

/-- A pair of tables where all is well, else a code. -/
def GRes (good : Prop) (n : Nat) (h1 h2 : Nat → Nat → Int) (err : Int) (zf zg : List (List Int)) (code : Int) : Prop := (good ∧ zf = grid n h1 ∧ zg = grid n h2 ∧ code = 0) ∨ (¬ good ∧ zf = [] ∧ zg = [] ∧ code = err)
theorem GRes.ex (good : Prop) (n : Nat) (h1 h2 : Nat → Nat → Int) (err : Int) (hn : good → n ≤ 1048576) : ∃ zf zg code, GRes good n h1 h2 err zf zg code ∧ ZSz 1048576 zf zf.length zg zg.length := by
  by_cases h : good
  · exact ⟨_, _, _, .inl ⟨h, rfl, rfl, rfl⟩, grid_sz (hn h) _ _⟩
  · exact ⟨_, _, _, .inr ⟨h, rfl, rfl, rfl⟩, nil_sz⟩

def mir1 (s : List (List Int)) : Nat → Nat → Int := fun x y => ((ap s y x : Nat) : Int)
def MirRes (f s : List (List Int)) : List (List Int) → List (List Int) → Int → Prop := GRes (PMap f s) f.length (mir1 s) (mir1 f) 1
theorem MirRes.ex (f s : List (List Int)) : ∃ zf zg code, MirRes f s zf zg code ∧ ZSz 1048576 zf zf.length zg zg.length := GRes.ex _ _ _ _ _ (fun h => by have := h.1.2.1; omega)
theorem mir_turn {s : List (List Int)} (h : Tbl s) : grid s.length (mir1 s) = turnL s := by
  unfold turnL
  refine grid_congr _ _ _ fun a b ha hb => ?_
  unfold mir1
  rw [h.ap_eq rfl hb ha]
def FlipRes (n : Int) : List (List Int) → List (List Int) → Int → Prop := GRes (1 ≤ n ∧ n ≤ 12) n.toNat (fun _ y => (y : Int)) (fun x _ => (x : Int)) 2
theorem FlipRes.ex (n : Int) : ∃ zf zg code, FlipRes n zf zg code ∧ ZSz 1048576 zf zf.length zg zg.length := GRes.ex _ _ _ _ _ (fun h => by omega)
end Go.Proofs.Ytchpclgkinehhaa
namespace Go.Proofs.Ytchpclgkinehhaa
open Go Go.RowKit
set_option maxHeartbeats 2000000

set_option maxRecDepth 100000 in
theorem renameInto_gen (g lo hi : Nat) (G : Nat → Nat) (n cu : Nat) (f : Nat → Nat → Int) (A : Option Addr) (c : Nat) (rows : List (List Int)) (D : Option Addr) (d : Nat) (p : List Int) (w0 w : World)
    (hn : rows.length = n) (hm : p.length = n) (hb : n ≤ 1048576) (hbs : ∀ i, i < rows.length → (rows.getD i []).length = n) (hin : ∀ i j, i < n → j < n → 0 ≤ (rows.getD i []).getD j 0 ∧ (rows.getD i []).getD j 0 < (n : Int)) (hpin : ∀ x ∈ p, 0 ≤ x ∧ x < (n : Int))
    (hr : Rd2 w0 A rows) (hp : ∀ w3, Touch lo hi w w3 → Rd w3 D p) (hbe : Below w0.heap.size w0 w) (hlo : w0.heap.size ≤ lo) (hG : ∀ i, i < n → lo ≤ G i ∧ G i < hi) (htab : TabF 31 2 w g G n f) :
    Calls Try.prog 108 #[.slice (some ⟨g, 0, none⟩) n cu, .slice A n c, .slice D n d] w fun e w' => e = .returned (.tuple #[]) ∧ Touch lo hi w w' ∧ TabF 31 2 w' g G n (renTo rows p n n f) ∧ w'.heap.size = w.heap.size := by
  have HN := hide hn
  have HM := hide hm
  have HBE := hide hbe
  have HT := hide htab
  clear hn hm hbe htab
  go_enter Try.func108, Try.ntmps108
  go_wp2_with fail
  go_loopw [12] (fun i wr => ∃ x : Nat, x ≤ n ∧ i = .int .i64 x ∧ Touch lo hi w wr ∧ TabF 31 2 wr g G n (renTo rows p n x f) ∧ wr.heap.size = w.heap.size) (fun i _ => n - (intOf i).toNat)
  case atStart => exact ⟨0, Nat.zero_le _, rfl, Touch.refl _ _ _, HT.out, rfl⟩
  case round =>
    obtain ⟨x, hx, rfl, ht, htab, hsz⟩ := hrel
    have HTC := hide ht
    have HT2 := hide htab
    have HS2 := hide hsz
    clear ht htab hsz
    by_cases hlt : x < n
    · have HB2 : Hid (Below w0.heap.size w0 wr) := hide (HTC.out.below HBE.out HBE.out.size hlo)
      obtain ⟨b, o, rfl, hbw, hc⟩ := hr (by have := HN.out; omega)
      obtain ⟨Ax, cx, hcell, hrd⟩ := hc x (by have := HN.out; omega)
      have hl := hbs x (by have := HN.out; omega)
      obtain ⟨r, hx'⟩ : ∃ r, r = rows.getD x [] := ⟨_, rfl⟩
      rw [← hx'] at hcell hrd hl
      rw [hl] at hcell
      have HX := hide hx'
      have HL := hide hl
      have hcell' : wr.cell? ⟨b, o + x, none⟩ = some (.slice Ax n cx) := (HB2.out.cell (p := ⟨b, o + x, none⟩) hbw).trans hcell
      obtain ⟨px, hpx, hpxn⟩ := elem_range hpin (i := x) (by have := HM.out; omega)
      have HPX := hide hpx
      obtain ⟨b3, o3, rfl, _, _⟩ := hp wr HTC.out (by have := HM.out; omega)
      have HP3 := hide hp
      have HHIN := hide hin
      have HPIN := hide hpin
      have HHG := hide hG
      clear hx' hc hl hcell hbs hpx hp hin hpin hG
      have hltz : (x : Int) < n := by omega
      have hpxz : (px : Int) < n := by omega
      go_wp2_with fail
      obtain ⟨wo, rfl⟩ : ∃ wo : World, wo = wr := ⟨_, rfl⟩
      go_loopw [19] (fun i wi => ∃ y : Nat, y ≤ n ∧ i = .int .i64 y ∧ Touch lo hi w wi ∧ TabF 31 2 wi g G n (renRow rows p x y (renTo rows p n x f)) ∧ wi.heap.size = w.heap.size) (fun i _ => n - (intOf i).toNat)
      case atStart => exact ⟨0, Nat.zero_le _, rfl, HTC.out, HT2.out, HS2.out⟩
      case round =>
        obtain ⟨y, hy, rfl, hti, htabi, hsi⟩ := hrel
        have HTI := hide hti
        have HTB := hide htabi
        have HSI := hide hsi
        clear hti htabi hsi
        by_cases hlty : y < n
        · have HB3 : Hid (Below w0.heap.size w0 wr) := hide (HTI.out.below HBE.out HBE.out.size hlo)
          obtain ⟨b2, o2, rfl, hbw2, hc2⟩ := hrd (by have := HL.out; omega)
          have hv : wr.cell? ⟨b2, o2 + y, none⟩ = some (.int .i64 (r.getD y 0)) := (HB3.out.cell (p := ⟨b2, o2 + y, none⟩) hbw2).trans (hc2 y (by have := HL.out; omega))
          have hzr := HHIN.out x y hlt hlty
          rw [← HX.out] at hzr
          obtain ⟨z, hz⟩ := Int.eq_ofNat_of_zero_le hzr.1
          rw [hz] at hv
          have hzn : z < n := by have := hzr.2; omega
          have HZ := hide hz
          obtain ⟨py, hpy, hpyn⟩ := elem_range HPIN.out (i := y) (by have := HM.out; omega)
          have HPY := hide hpy
          obtain ⟨q, hq⟩ : ∃ q, p.getD z 0 = q := ⟨_, rfl⟩
          have HQ := hide hq
          obtain ⟨b4, o4, e0, _, hc4⟩ := HP3.out wr HTI.out (by have := HM.out; omega)
          cases e0
          have e1 : wr.cell? ⟨b3, o3 + x, none⟩ = some (.int .i64 px) := by rw [← HPX.out]; exact hc4 x (by have := HM.out; omega)
          have e2 : wr.cell? ⟨b3, o3 + y, none⟩ = some (.int .i64 py) := by rw [← hpy]; exact hc4 y (by have := HM.out; omega)
          have e3 : wr.cell? ⟨b3, o3 + z, none⟩ = some (.int .i64 q) := by rw [← hq]; exact hc4 z (by have := HM.out; omega)
          obtain ⟨C, htop⟩ := HTB.out.top
          have e4 : wr.cell? ⟨g, px, none⟩ = some (.slice (some ⟨G px, 0, none⟩) n (C px)) := htop.cell hpxn
          have e5 := (HTB.out.row px hpxn).cell hpyn
          obtain ⟨old, hold⟩ : ∃ q, renRow rows p x y (renTo rows p n x f) px py = q := ⟨_, rfl⟩
          rw [hold] at e5
          have e6 : wr.frozen? ⟨G px, py, none⟩ = false := (HTB.out.row px hpxn).frozen py
          clear hz hzr hold hc2 hrd hcell' htop hpy hq hc4
          have hltyz : (y : Int) < n := by omega
          have hpyz : (py : Int) < n := by omega
          have hzz : (z : Int) < n := by omega
          go_wp2_with fail
          go_still_tail 16, (by kernel_rfl)
          change wpList _ _ _ _ _ wr.drew
          go_wp2_with fail
          go_roundw
          case rel =>
            have hset := HTB.out.set px py q hpxn
            refine ⟨y + 1, by omega, by go_num, ?_, ?_, by have := HSI.out; simpa [World.setCell, World.drew] using this⟩
            · have h1 := HTI.out
              have hg := HHG.out px hpxn
              exact ⟨h1.os, h1.tape, h1.output, by have := h1.size; simpa [World.setCell, World.drew] using this, fun i hi hne => (Below.heap_setCell _ _ _ _ (by show i ≠ G px; omega)).trans (h1.block i hi hne)⟩
            · have h2 : TabF 31 2 ((wr.setCell ⟨G px, py, none⟩ (.int .i64 q)).drew) g G n (fun a b => if a = px ∧ b = py then q else renRow rows p x y (renTo rows p n x f) a b) := ⟨hset.top, hset.row, hset.ne, hset.inj⟩
              refine h2.congr (fun a b _ _ => ?_)
              have e1 : (p.getD x 0).toNat = px := by rw [HPX.out]; simp
              have e2 : (p.getD y 0).toNat = py := by rw [HPY.out]; simp
              have e3 : ((rows.getD x []).getD y 0).toNat = z := by rw [← HX.out, HZ.out]; simp
              simp only [renRow]
              rw [e1, e2, e3, HQ.out]
          case measure => simp [intOf]; omega
        · have hyn : y = n := by omega
          subst hyn
          go_wp2_with fail
          go_roundw
          case rel => exact ⟨x + 1, by omega, by go_num, HTI.out, HTB.out, HSI.out⟩
          case measure => simp [intOf]; omega
    · have hxn : x = n := by omega
      subst hxn
      go_wp2_with fail
      go_end0
      exact ⟨rfl, HTC.out, HT2.out, HS2.out⟩
end Go.Proofs.Ytchpclgkinehhaa
namespace Go.Proofs.Ytchpclgkinehhaa
open Go Go.RowKit
set_option maxHeartbeats 1000000

theorem mapS_any (A : Option Addr) (n c : Nat) (f : List (List Int)) (B : Option Addr) (m d : Nat) (s : List (List Int)) (r : Bool) (w : World) (hz : ZArg 1048576 w A n f B m s) (hr : r = true ↔ PMap f s) :
    Calls Try.prog 84 #[.agg #[.slice A n c, .slice B m d]] w fun e w' => e = .returned (.bool r) ∧ Below w.heap.size w w' := by
  have HZ := hide hz
  have HR := hide hr
  clear hz hr
  have HB0 := hide ((Below.refl _ w).alloc (Nat.le_refl _) (Obj.cells #[Value.slice A n c, Value.slice B m d] 40))
  have HK0 := hide (Blk.new w 40 [.slice A n c, .slice B m d])
  by_cases h1 : Tbl f
  · have H1 := hide h1
    clear h1
    by_cases h2 : Tbl s
    · have H2 := hide h2
      clear h2
      have HEQ : Hid (r = true ↔ n = m) := hide (by rw [HR.out, ← HZ.out.sz.fl, ← HZ.out.sz.sl]; exact ⟨fun h => h.2.2, fun h => ⟨H1.out, H2.out, h⟩⟩)
      have hfin : r = decide (n = m) := by
        have h := HEQ.out
        cases r <;> simp at h ⊢ <;> exact h
      by_cases hnm : n = m
      · subst hnm
        simp at hfin
        subst hfin
        go_enter Try.func84, Try.ntmps84
        go_wp2_with fail
        refine (l01Table_any _ _ _ f true _ HZ.out.sz.fl (by have := HZ.out.sz.nb; omega) (fun i hi => by have := HZ.out.sz.nr i hi; omega) (HZ.out.fst.later HB0.out) (by simp [H1.out])).mono ?_
        rintro e w1 ⟨rfl, hq1⟩
        have HB1 := hide (HB0.out.trans (hq1.below _))
        have HK1 := hide (HK0.out.later (hq1.below _))
        have k0 := HK1.out.cell 0 _ rfl
        have k1 := HK1.out.cell 1 _ rfl
        clear hq1
        go_wp2_with fail
        clear k0 k1
        refine (l01Table_any _ _ _ s true _ HZ.out.sz.sl (by have := HZ.out.sz.mb; omega) (fun i hi => by have := HZ.out.sz.mr i hi; omega) (HZ.out.snd.later HB1.out) (by simp [H2.out])).mono ?_
        rintro e w2 ⟨rfl, hq2⟩
        have HB2 := hide (HB1.out.trans (hq2.below _))
        have HK2 := hide (HK1.out.later (hq2.below _))
        have k0 := HK2.out.cell 0 _ rfl
        have k1 := HK2.out.cell 1 _ rfl
        have hnb := HZ.out.sz.nb
        clear hq2
        go_wp2_with fail
        go_ret
        exact ⟨rfl, HB2.out⟩
      · have hne : decide ((n : Int) = (m : Int)) = false := by simp; omega
        have hne2 : ((n : Int) == (m : Int)) = false := by simp; omega
        simp [hnm] at hfin
        subst hfin
        clear hnm
        go_enter Try.func84, Try.ntmps84
        go_wp2_with fail
        refine (l01Table_any _ _ _ f true _ HZ.out.sz.fl (by have := HZ.out.sz.nb; omega) (fun i hi => by have := HZ.out.sz.nr i hi; omega) (HZ.out.fst.later HB0.out) (by simp [H1.out])).mono ?_
        rintro e w1 ⟨rfl, hq1⟩
        have HB1 := hide (HB0.out.trans (hq1.below _))
        have HK1 := hide (HK0.out.later (hq1.below _))
        have k0 := HK1.out.cell 0 _ rfl
        have k1 := HK1.out.cell 1 _ rfl
        clear hq1
        go_wp2_with fail
        clear k0 k1
        refine (l01Table_any _ _ _ s true _ HZ.out.sz.sl (by have := HZ.out.sz.mb; omega) (fun i hi => by have := HZ.out.sz.mr i hi; omega) (HZ.out.snd.later HB1.out) (by simp [H2.out])).mono ?_
        rintro e w2 ⟨rfl, hq2⟩
        have HB2 := hide (HB1.out.trans (hq2.below _))
        have HK2 := hide (HK1.out.later (hq2.below _))
        have k0 := HK2.out.cell 0 _ rfl
        have k1 := HK2.out.cell 1 _ rfl
        have hnb := HZ.out.sz.nb
        have hmb := HZ.out.sz.mb
        clear hq2
        go_wp2_with fail
        go_ret
        exact ⟨rfl, HB2.out⟩
    · have hrt : r = false := by
        cases r
        · rfl
        · exact absurd (HR.out.1 rfl).2.1 h2
      have H2 := hide h2
      subst hrt
      clear h2
      go_enter Try.func84, Try.ntmps84
      go_wp2_with fail
      refine (l01Table_any _ _ _ f true _ HZ.out.sz.fl (by have := HZ.out.sz.nb; omega) (fun i hi => by have := HZ.out.sz.nr i hi; omega) (HZ.out.fst.later HB0.out) (by simp [H1.out])).mono ?_
      rintro e w1 ⟨rfl, hq1⟩
      have HB1 := hide (HB0.out.trans (hq1.below _))
      have HK1 := hide (HK0.out.later (hq1.below _))
      have k0 := HK1.out.cell 0 _ rfl
      have k1 := HK1.out.cell 1 _ rfl
      clear hq1
      go_wp2_with fail
      refine (l01Table_any _ _ _ s false _ HZ.out.sz.sl (by have := HZ.out.sz.mb; omega) (fun i hi => by have := HZ.out.sz.mr i hi; omega) (HZ.out.snd.later HB1.out) (by simp [H2.out])).mono ?_
      rintro e w2 ⟨rfl, hq2⟩
      have HB2 := hide (HB1.out.trans (hq2.below _))
      clear hq2
      go_wp2_with fail
      go_ret
      exact ⟨rfl, HB2.out⟩
  · have hrt : r = false := by
      cases r
      · rfl
      · exact absurd (HR.out.1 rfl).1 h1
    have H1 := hide h1
    subst hrt
    clear h1
    go_enter Try.func84, Try.ntmps84
    go_wp2_with fail
    refine (l01Table_any _ _ _ f false _ HZ.out.sz.fl (by have := HZ.out.sz.nb; omega) (fun i hi => by have := HZ.out.sz.nr i hi; omega) (HZ.out.fst.later HB0.out) (by simp [H1.out])).mono ?_
    rintro e w1 ⟨rfl, hq1⟩
    have HB1 := hide (HB0.out.trans (hq1.below _))
    clear hq1
    go_wp2_with fail
    go_ret
    exact ⟨rfl, HB1.out⟩
end Go.Proofs.Ytchpclgkinehhaa
namespace Go.Proofs.Ytchpclgkinehhaa
open Go Go.RowKit
set_option maxHeartbeats 2000000
set_option maxRecDepth 100000

theorem rsInfo : (Try.prog.info? 2).map (fun i => (i.zero, i.size, i.bytes)) = some (some (.int .i64 0), 1, 8) := by kernel_rfl
theorem rsInfo2 : (Try.prog.info? 31).map (fun i => (i.zero, i.size, i.bytes)) = some (some (.slice none 0 0), 1, 24) := by kernel_rfl
theorem rs_new {w : World} {v : Value} {t : TypeId} : ∀ j u, [v][j]? = some u → (w.alloc (.cells #[v] t)).cell? ((⟨w.heap.size, 0, none⟩ : Addr).add j) = some u := by
  intro j u hj
  match j, hj with
  | 0, hj => simp at hj; subst hj; simp [Addr.add, World.cell?_alloc_new]

def zeros (n : Nat) : List Int := List.replicate n 0
theorem zeros_length (n : Nat) : (zeros n).length = n := by simp [zeros]

theorem l01Rename_any (A : Option Addr) (n c : Nat) (rows : List (List Int)) (D : Option Addr) (d : Nat) (p : List Int) (w : World)
    (hn : rows.length = n) (hm : p.length = n) (h1 : 1 ≤ n) (hb : n ≤ 1048576) (hbs : ∀ i, i < rows.length → (rows.getD i []).length = n) (hin : ∀ i j, i < n → j < n → 0 ≤ (rows.getD i []).getD j 0 ∧ (rows.getD i []).getD j 0 < (n : Int)) (hpin : ∀ x ∈ p, 0 ≤ x ∧ x < (n : Int))
    (hr : Rd2 w A rows) (hp : Rd w D p) :
    Calls Try.prog 106 #[.slice A n c, .slice D n d] w fun e w' => ∃ A' c', e = .returned (.slice A' n c') ∧ Below w.heap.size w w' ∧ Obj2 31 2 w.heap.size w'.heap.size w' A' (renL rows p) := by
  have HN := hide hn
  have HM := hide hm
  clear hn hm
  have hmk := run_make_row' (P := Try.prog) 31 2 (.int .i64 0) 8 Try.underlying31 rsInfo rfl .i64 .i64 n (by omega) (by omega)
  obtain ⟨i0, hi, hz0, hz1, hz2⟩ := info_parts rsInfo2
  go_enter Try.func106, Try.ntmps106
  go_wp2_with fail
  go_loopw [5, 6] (fun v i wr => ∃ (k : Nat) (vals : List Value), k ≤ n ∧ i = .int .i64 k ∧ Below w.heap.size w wr ∧ LstV 31 2 w.heap.size wr v (List.replicate k (zeros n)) vals ∧ w.heap.size ≤ wr.heap.size) (fun _ i _ => n - (intOf i).toNat)
  case atStart => exact ⟨0, [], Nat.zero_le _, rfl, (Below.refl _ _).alloc (Nat.le_refl _) _, by simpa using LstV.start w _ _, by simp⟩
  case round =>
    obtain ⟨k, vals, hk, rfl, hbe, hlst, hsz⟩ := hrel
    have HB := hide hbe
    have HL := hide hlst
    clear hbe hlst
    by_cases hlt : k < n
    · have hltz : (k : Int) < n := by omega
      have hown : (wr.alloc (.cells (madeCells #[.int .i64 0] n) 2)).ownsRow w.heap.size 31 1 u5 k vals := by have := (HL.out.later ((Below.refl _ _).alloc (Nat.le_refl _) (.cells (madeCells #[.int .i64 0] n) 2))).own; simpa using this
      have HO := hide hown
      clear hown
      go_wp2_with (at_builtin; refine wpList_append_own _ rfl _ _ 22 rfl w.heap.size 31 i0 (.slice none 0 0) 1 24 Try.underlying22 hi hz0 hz1 hz2 rfl (by decide) _ _ _ rfl (HO.out.alloc _) ⟨wr.heap.size + 1, 0, none⟩ 1 1 [.slice (some ⟨wr.heap.size, 0, none⟩) n n] rfl rfl ?c1 ?c2 ?c3 ?c4 ?c5 ?_)
      case c1 => have h := rs_new (w := wr.alloc (.cells (madeCells #[.int .i64 0] n) 2)) (v := .slice (some ⟨wr.heap.size, 0, none⟩) n n) (t := 31); simpa using h
      case c2 => intro u hu; simp at hu; subst hu; rfl
      case c3 => unfold maxLen; omega
      case c4 => omega
      case c5 => simp; omega
      intro v' w3 hown' hgrow _
      have HO' := hide hown'
      have HG := hide hgrow
      clear hown' hgrow
      go_wp2_with fail
      go_roundw
      case rel =>
        have hnew : Obj1 2 wr.heap.size (wr.alloc (.cells (madeCells #[.int .i64 0] n) 2)).heap.size (wr.alloc (.cells (madeCells #[.int .i64 0] n) 2)) (some ⟨wr.heap.size, 0, none⟩) (zeros n) := .inr ⟨_, rfl, Nat.le_refl _, by simp, (Row.made 2 wr n).own⟩
        have hB3 : Below w.heap.size w w3 := ((HB.out.alloc hsz _).alloc (by simp; omega) _).grown HG.out (by simp; omega) (fun g hg => (HO.out.alloc (.cells #[.slice (some ⟨wr.heap.size, 0, none⟩) n n] 31)).lt g hg |>.1)
        have hpush := LstV.push (tmp := .cells #[.slice (some ⟨wr.heap.size, 0, none⟩) n n] 31) (A := some ⟨wr.heap.size, 0, none⟩) (c := n) (r := zeros n) (w1 := w3) (v' := v') (by decide) hsz HL.out ((Below.refl _ _).alloc (Nat.le_refl _) _) hnew (by rw [zeros_length, List.length_replicate]; exact HO'.out) HG.out
        refine ⟨k + 1, vals ++ [.slice (some ⟨wr.heap.size, 0, none⟩) (zeros n).length n], by omega, by go_num, hB3, ?_, by have := hB3.size; omega⟩
        rw [List.replicate_succ']
        exact hpush
      case measure => simp [intOf]; omega
    · have hkn : k = n := by omega
      subst hkn
      clear hmk
      obtain ⟨A', c', hv, hobj⟩ := HL.out.shape
      obtain ⟨g, G, rfl, hg1, hg2, hG, htab⟩ := hobj.tabF (by decide) h1 (by simp) (fun i hi => by simp [hi, zeros])
      have HT := hide (htab.congr (f' := fun _ _ => 0) (fun a b ha hb => by simp [zeros, ha, hb]))
      have HHG := hide hG
      rw [List.length_replicate] at hv
      clear htab hG
      rw [hv]
      clear hv
      go_wp2_with fail
      obtain ⟨w1, hw1⟩ : ∃ w1 : World, w1 = wr := ⟨_, rfl⟩
      subst hw1
      have HW1 : Hid (Below w.heap.size w w1) := HB
      clear HL HB hi
      go_loopw [7] (fun i wr => ∃ x : Nat, x ≤ k ∧ i = .int .i64 x ∧ Below w.heap.size w wr ∧ TabF 31 2 wr g G k (renTo rows p k x fun _ _ => 0) ∧ wr.heap.size = w1.heap.size) (fun i _ => k - (intOf i).toNat)
      case atStart => exact ⟨0, Nat.zero_le _, rfl, HW1.out, HT.out, rfl⟩
      case round =>
        obtain ⟨x, hx, rfl, hbx, htab, hsx⟩ := hrel
        have HBX := hide hbx
        have HT2 := hide htab
        have HS2 := hide hsx
        clear hbx htab hsx
        by_cases hlx : x < k
        · obtain ⟨b, o, rfl, hbw, hc⟩ := hr (by have := HN.out; omega)
          obtain ⟨Ax, cx, hcell, hrd⟩ := hc x (by have := HN.out; omega)
          have hl := hbs x (by have := HN.out; omega)
          obtain ⟨r, hx'⟩ : ∃ r, r = rows.getD x [] := ⟨_, rfl⟩
          rw [← hx'] at hcell hrd hl
          rw [hl] at hcell
          have HX := hide hx'
          have HL := hide hl
          have HCELL := hide hcell
          obtain ⟨px, hpx, hpxn⟩ := elem_range hpin (i := x) (by have := HM.out; omega)
          have HPX := hide hpx
          obtain ⟨b3, o3, rfl, hbw3, hc3⟩ := hp (by have := HM.out; omega)
          have HC3 := hide hc3
          have HHIN := hide hin
          have HPIN := hide hpin
          have e1 : wr.cell? ⟨b3, o3 + x, none⟩ = some (.int .i64 px) := by rw [← hpx]; exact (HBX.out.cell (p := ⟨b3, o3 + x, none⟩) hbw3).trans (hc3 x (by have := HM.out; omega))
          obtain ⟨C, htop⟩ := HT2.out.top
          have e4 : wr.cell? ⟨g, px, none⟩ = some (.slice (some ⟨G px, 0, none⟩) k (C px)) := htop.cell hpxn
          clear hx' hc hl hcell hbs hpx hc3 hin hpin htop
          have hltz : (x : Int) < k := by omega
          have hpxz : (px : Int) < k := by omega
          go_wp2_with fail
          obtain ⟨wo, rfl⟩ : ∃ wo : World, wo = wr := ⟨_, rfl⟩
          clear e1 e4
          go_loopw [9] (fun i wi => ∃ y : Nat, y ≤ k ∧ i = .int .i64 y ∧ Below w.heap.size w wi ∧ TabF 31 2 wi g G k (renRow rows p x y (renTo rows p k x fun _ _ => 0)) ∧ wi.heap.size = w1.heap.size) (fun i _ => k - (intOf i).toNat)
          case atStart => exact ⟨0, Nat.zero_le _, rfl, HBX.out, HT2.out, HS2.out⟩
          case round =>
            obtain ⟨y, hy, rfl, hti, htabi, hsi⟩ := hrel
            have HTI := hide hti
            have HTB := hide htabi
            have HSI := hide hsi
            clear hti htabi hsi
            by_cases hlty : y < k
            · obtain ⟨b2, o2, rfl, hbw2, hc2⟩ := hrd (by have := HL.out; omega)
              have hv : wr.cell? ⟨b2, o2 + y, none⟩ = some (.int .i64 (r.getD y 0)) := (HTI.out.cell (p := ⟨b2, o2 + y, none⟩) hbw2).trans (hc2 y (by have := HL.out; omega))
              have hrow : wr.cell? ⟨b, o + x, none⟩ = some (.slice (some ⟨b2, o2, none⟩) k cx) := (HTI.out.cell (p := ⟨b, o + x, none⟩) hbw).trans HCELL.out
              have hzr := HHIN.out x y hlx hlty
              rw [← HX.out] at hzr
              obtain ⟨z, hz⟩ := Int.eq_ofNat_of_zero_le hzr.1
              rw [hz] at hv
              have hzn : z < k := by have := hzr.2; omega
              have HZ := hide hz
              obtain ⟨py, hpy, hpyn⟩ := elem_range HPIN.out (i := y) (by have := HM.out; omega)
              have HPY := hide hpy
              obtain ⟨q, hq⟩ : ∃ q, p.getD z 0 = q := ⟨_, rfl⟩
              have HQ := hide hq
              have e2 : wr.cell? ⟨b3, o3 + y, none⟩ = some (.int .i64 py) := by rw [← hpy]; exact (HTI.out.cell (p := ⟨b3, o3 + y, none⟩) hbw3).trans (HC3.out y (by have := HM.out; omega))
              have e3 : wr.cell? ⟨b3, o3 + z, none⟩ = some (.int .i64 q) := by rw [← hq]; exact (HTI.out.cell (p := ⟨b3, o3 + z, none⟩) hbw3).trans (HC3.out z (by have := HM.out; omega))
              have e5 := (HTB.out.row px hpxn).cell hpyn
              obtain ⟨old, hold⟩ : ∃ q, renRow rows p x y (renTo rows p k x fun _ _ => 0) px py = q := ⟨_, rfl⟩
              rw [hold] at e5
              have e6 : wr.frozen? ⟨G px, py, none⟩ = false := (HTB.out.row px hpxn).frozen py
              clear hz hzr hold hc2 hrd hpy hq
              have hltyz : (y : Int) < k := by omega
              have hpyz : (py : Int) < k := by omega
              have hzz : (z : Int) < k := by omega
              go_wp2_with fail
              go_still_tail 16, (by kernel_rfl)
              change wpList _ _ _ _ _ wr.drew
              go_wp2_with fail
              go_roundw
              case rel =>
                have hset := HTB.out.set px py q hpxn
                have hg := HHG.out px hpxn
                refine ⟨y + 1, by omega, by go_num, (HTI.out.setCell (p := ⟨G px, py, none⟩) hg.1 _).drew, ?_, by have := HSI.out; simpa [World.setCell, World.drew] using this⟩
                have h2 : TabF 31 2 ((wr.setCell ⟨G px, py, none⟩ (.int .i64 q)).drew) g G k (fun a b => if a = px ∧ b = py then q else renRow rows p x y (renTo rows p k x fun _ _ => 0) a b) := ⟨hset.top, hset.row, hset.ne, hset.inj⟩
                refine h2.congr (fun a b _ _ => ?_)
                have e1 : (p.getD x 0).toNat = px := by rw [HPX.out]; simp
                have e2 : (p.getD y 0).toNat = py := by rw [HPY.out]; simp
                have e3 : ((rows.getD x []).getD y 0).toNat = z := by rw [← HX.out, HZ.out]; simp
                simp only [renRow]
                rw [e1, e2, e3, HQ.out]
              case measure => simp [intOf]; omega
            · have hyn : y = k := by omega
              subst hyn
              go_wp2_with fail
              go_roundw
              case rel => exact ⟨x + 1, by omega, by go_num, HTI.out, HTB.out, HSI.out⟩
              case measure => simp [intOf]; omega
        · have hxn : x = k := by omega
          subst hxn
          go_wp2_with fail
          go_ret
          refine ⟨_, _, rfl, HBX.out, ?_⟩
          have e := HN.out
          unfold renL
          rw [e]
          have hs := HS2.out
          exact HT2.out.obj hg1 (by omega) (fun i hi => by have := HHG.out i hi; omega)
end Go.Proofs.Ytchpclgkinehhaa
