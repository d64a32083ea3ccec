import Derived.Test.YtpnlmmilnglmkaaZal
import Derived.Test.YtpnlmmilnglmkaaZl
import Derived.Test.YtpnlmmilnglmkaaZah
import Derived.Test.YtpnlmmilnglmkaaZc
import Derived.WalkSpells
import Derived.Test.YtpnlmmilnglmkaaProg
import Derived.Test.YtpnlmmilnglmkaaZg
import Derived.Test.YtpnlmmilnglmkaaZag
import Derived.Test.YtpnlmmilnglmkaaZb
import Derived.StillTailTactics
namespace Go.Proofs.Ytpnlmmilnglmkaa
open Go Go.RowKit
/-- The twisted solution of a rack by a permutation. -/
def tdH1 (p : List Int) : Nat → Nat → Int := fun _ y => ((pq p y : Nat) : Int)
def tdH2 (f : List (List Int)) (p : List Int) : Nat → Nat → Int := fun x y => ((pq (backTo p p.length) (ap f (pq p y) x) : Nat) : Int)
/-- What TwistedSolution answers. -/
def TdRes (f : List (List Int)) (p : List Int) (zf zg : List (List Int)) (code : Int) : Prop :=
  (Rck f ∧ (Prm p ∧ p.length = f.length) ∧ AutF f p ∧ zf = grid f.length (tdH1 p) ∧ zg = grid f.length (tdH2 f p) ∧ code = 0) ∨
  (Rck f ∧ (Prm p ∧ p.length = f.length) ∧ ¬ AutF f p ∧ zf = [] ∧ zg = [] ∧ code = 5) ∨
  (Rck f ∧ ¬ (Prm p ∧ p.length = f.length) ∧ zf = [] ∧ zg = [] ∧ code = 2) ∨ (¬ Rck f ∧ zf = [] ∧ zg = [] ∧ code = 1)
theorem TdRes.ex (f : List (List Int)) (p : List Int) : ∃ zf zg code, TdRes f p zf zg code ∧ ZSz 1048576 zf zf.length zg zg.length := by
  by_cases h : Rck f
  · by_cases h2 : Prm p ∧ p.length = f.length
    · by_cases h3 : AutF f p
      · exact ⟨_, _, _, .inl ⟨h, h2, h3, rfl, rfl, rfl⟩, grid_sz (by have := h.tbl.2.1; omega) _ _⟩
      · exact ⟨_, _, _, .inr (.inl ⟨h, h2, h3, rfl, rfl, rfl⟩), nil_sz⟩
    · exact ⟨_, _, _, .inr (.inr (.inl ⟨h, h2, rfl, rfl, rfl⟩)), nil_sz⟩
  · exact ⟨_, _, _, .inr (.inr (.inr ⟨h, rfl, rfl, rfl⟩)), nil_sz⟩
theorem TdRes.at0 {f : List (List Int)} {p : List Int} {zf zg : List (List Int)} {code : Int} (h : TdRes f p zf zg code) (h1 : Rck f) (h2 : Prm p) (h3 : p.length = f.length) (h4 : AutF f p) : zf = grid f.length (tdH1 p) ∧ zg = grid f.length (tdH2 f p) ∧ code = 0 := by
  rcases h with ⟨_, _, _, h⟩ | ⟨_, _, h, _⟩ | ⟨_, h, _⟩ | ⟨h, _⟩
  · exact h
  · exact absurd h4 h
  · exact absurd ⟨h2, h3⟩ h
  · exact absurd h1 h
theorem TdRes.at5 {f : List (List Int)} {p : List Int} {zf zg : List (List Int)} {code : Int} (h : TdRes f p zf zg code) (h1 : Rck f) (h2 : Prm p) (h3 : p.length = f.length) (h4 : ¬ AutF f p) : zf = [] ∧ zg = [] ∧ code = 5 := by
  rcases h with ⟨_, _, h, _⟩ | ⟨_, _, _, h⟩ | ⟨_, h, _⟩ | ⟨h, _⟩
  · exact absurd h h4
  · exact h
  · exact absurd ⟨h2, h3⟩ h
  · exact absurd h1 h
theorem TdRes.at2 {f : List (List Int)} {p : List Int} {zf zg : List (List Int)} {code : Int} (h : TdRes f p zf zg code) (h1 : Rck f) (h2 : ¬ (Prm p ∧ p.length = f.length)) : zf = [] ∧ zg = [] ∧ code = 2 := by
  rcases h with ⟨_, h, _⟩ | ⟨_, h, _⟩ | ⟨_, _, h⟩ | ⟨h, _⟩
  · exact absurd h h2
  · exact absurd h h2
  · exact h
  · exact absurd h1 h
theorem TdRes.at1 {f : List (List Int)} {p : List Int} {zf zg : List (List Int)} {code : Int} (h : TdRes f p zf zg code) (h1 : ¬ Rck f) : zf = [] ∧ zg = [] ∧ code = 1 := by
  rcases h with ⟨h, _⟩ | ⟨h, _⟩ | ⟨h, _⟩ | ⟨_, h⟩
  · exact absurd h h1
  · exact absurd h h1
  · exact absurd h h1
  · exact h
theorem backTo_pq {p : List Int} (h : Prm p) {a : Nat} (ha : a < p.length) : (backTo p p.length).getD a 0 = ((pq (backTo p p.length) a : Nat) : Int) ∧ pq (backTo p p.length) a < p.length := by
  obtain ⟨x, hx, rfl⟩ := pq_sur h ha
  have e := backTo_hit h p.length (Nat.le_refl _) x hx
  unfold pq at e ⊢
  rw [e]
  omega
end Go.Proofs.Ytpnlmmilnglmkaa
namespace Go.Proofs.Ytpnlmmilnglmkaa
open Go Go.RowKit
set_option maxHeartbeats 2000000

set_option maxRecDepth 100000 in
theorem isRackI (A : Option Addr) (n c : Nat) (f : List (List Int)) (r : Bool) (w : World) (hn : f.length = n) (hb : n ≤ 1048576) (hbs : ∀ i, i < f.length → (f.getD i []).length ≤ 1048576) (hr : Rd2 w A f) (hres : RkRes f r) :
    Calls Try.prog 72 #[.agg #[.slice A n c]] w fun e w' => e = .returned (.bool r) ∧ Below w.heap.size w w' := by
  have HN := hide hn
  have HBS := hide hbs
  have HRD := hide hr
  have HR := hide hres
  have hnil : ∀ (u : World) (a : Option Addr) (n c : Nat), (binOp .eql 37 (.slice a n c) (.slice none 0 0)).run Try.prog u = .ok (.bool a.isNone) u := fun u a n c => Lib.run_eql_slice_nil u 37 _ a n c 0 0 Try.underlying37
  have HB0 := hide ((Below.refl _ w).alloc (Nat.le_refl _) (Obj.cells #[Value.slice A n c] 27))
  have HK0 := hide (Blk.new w 27 [.slice A n c])
  by_cases ht : Tbl f
  · have HTB := hide ht
    have hTm : ∃ T, FirstK f n T := FirstK.ex f n
    by_cases hp : AllPrm f
    · have HP := hide hp
      obtain ⟨T, hT⟩ := hTm
      have HT := hide hT
      have hiff : r = true ↔ T = n * n * n := by
        have hrr : r = true ↔ Rck f := HR.out
        rw [hrr, hT.iff, ← hn]
        exact ⟨fun h => h.2, fun h => ⟨⟨ht, hp⟩, h⟩⟩
      have HI := hide hiff
      clear hn hbs hr hres ht hp hT hiff
      go_enter Try.func72, Try.ntmps72
      go_wp2_with fail
      refine (isTable_any _ _ _ f true _ HN.out (by omega) (fun i hi => by have := HBS.out i hi; omega) (HRD.out.later HB0.out) (by simp [HTB.out])).mono ?_
      rintro e w1 ⟨rfl, hq1⟩
      have HB1 := hide (HB0.out.trans (hq1.below _))
      have HK1 := hide (HK0.out.later (hq1.below _))
      clear hq1
      have k0 := HK1.out.cell 0 _ rfl
      go_wp2_with fail
      clear k0
      refine (rowsI_any _ _ _ f true _ HN.out hb HBS.out (HRD.out.later HB1.out) ⟨fun _ => HP.out, fun _ => rfl⟩).mono ?_
      rintro e w2 ⟨rfl, hb2⟩
      have HB2 := hide (HB1.out.trans (hb2.mono HB1.out.size))
      have HK2 := hide (HK1.out.later hb2)
      clear hb2
      have k0 := HK2.out.cell 0 _ rfl
      go_wp2_with fail
      clear k0
      refine (kfault_any _ _ _ f T _ HN.out HTB.out (HRD.out.later HB2.out) HT.out).mono ?_
      rintro e w3 (⟨hTe, rfl, hb3⟩ | ⟨hTl, g, rfl, hb3, hg, hob⟩)
      · have hrt : r = true := HI.out.2 hTe
        subst hrt
        have HB3 := hide (HB2.out.trans (hb3.mono HB2.out.size))
        clear hb3 hTe
        go_wp2_with fail
        go_ret
        exact ⟨rfl, HB3.out⟩
      · have hrf : r = false := by
          cases r
          · rfl
          · have := HI.out.1 rfl; omega
        subst hrf
        have HB3 := hide (HB2.out.trans (hb3.mono HB2.out.size))
        clear hb3 hTl hob
        go_wp2_with fail
        go_ret
        exact ⟨rfl, HB3.out⟩
    · have hrf : r = false := by
        cases r
        · rfl
        · exact absurd (HR.out.1 rfl).prm hp
      subst hrf
      have HP := hide hp
      clear hn hbs hr hres ht hp
      go_enter Try.func72, Try.ntmps72
      go_wp2_with fail
      refine (isTable_any _ _ _ f true _ HN.out (by omega) (fun i hi => by have := HBS.out i hi; omega) (HRD.out.later HB0.out) (by simp [HTB.out])).mono ?_
      rintro e w1 ⟨rfl, hq1⟩
      have HB1 := hide (HB0.out.trans (hq1.below _))
      have HK1 := hide (HK0.out.later (hq1.below _))
      clear hq1
      have k0 := HK1.out.cell 0 _ rfl
      go_wp2_with fail
      clear k0
      refine (rowsI_any _ _ _ f false _ HN.out hb HBS.out (HRD.out.later HB1.out) ⟨fun h => (by cases h), fun h => absurd h HP.out⟩).mono ?_
      rintro e w2 ⟨rfl, hb2⟩
      have HB2 := hide (HB1.out.trans (hb2.mono HB1.out.size))
      clear hb2
      go_wp2_with fail
      go_ret
      exact ⟨rfl, HB2.out⟩
  · have hrf : r = false := by
      cases r
      · rfl
      · exact absurd (HR.out.1 rfl).tbl ht
    subst hrf
    have HTB := hide ht
    clear hn hbs hr hres ht
    go_enter Try.func72, Try.ntmps72
    go_wp2_with fail
    refine (isTable_any _ _ _ f false _ HN.out (by omega) (fun i hi => by have := HBS.out i hi; omega) (HRD.out.later HB0.out) (by simp [HTB.out])).mono ?_
    rintro e w1 ⟨rfl, hq1⟩
    have HB1 := hide (HB0.out.trans (hq1.below _))
    clear hq1
    go_wp2_with fail
    go_ret
    exact ⟨rfl, HB1.out⟩
end Go.Proofs.Ytpnlmmilnglmkaa
namespace Go.Proofs.Ytpnlmmilnglmkaa
open Go Go.RowKit
set_option maxHeartbeats 2000000
def tabF (rows : List (List Int)) : Nat → Nat → Int := fun a b => (rows.getD a []).getD b 0

set_option maxRecDepth 100000 in
theorem imageS_any (A : Option Addr) (n c : Nat) (rows : List (List Int)) (D : Option Addr) (d : Nat) (p : List Int) (w : World)
    (hn : rows.length = n) (hm : p.length = n) (h1 : 1 ≤ n) (hb : n ≤ 1048576) (hbs : ∀ i, i < rows.length → (rows.getD i []).length = n) (hin : ∀ i j, i < n → j < n → 0 ≤ (rows.getD i []).getD j 0 ∧ (rows.getD i []).getD j 0 < (n : Int)) (hpin : ∀ x ∈ p, 0 ≤ x ∧ x < (n : Int))
    (hr : Rd2 w A rows) (hp : Rd w D p) :
    Calls Try.prog 83 #[.slice A n c, .slice D n d] w fun e w' => ∃ A' c', e = .returned (.slice A' n c') ∧ Below w.heap.size w w' ∧ Obj2 37 2 w.heap.size w'.heap.size w' A' (grid n (renTo rows p n n (tabF rows))) := by
  obtain ⟨k, hkn0⟩ : ∃ k, n = k := ⟨_, rfl⟩
  subst hkn0
  have HN := hide hn
  have HM := hide hm
  clear hn hm
  go_enter Try.func83, Try.ntmps83
  go_wp2_with fail
  refine (ownk_any A n c rows _ HN.out h1 hb hbs hr).mono ?_
  rintro e wr ⟨A1, c1, rfl, hb1, hobj⟩
  obtain ⟨g, G, rfl, hg1, hg2, hG, htab⟩ := hobj.tabF (by decide) h1 HN.out (fun i hi => hbs i (by have := HN.out; omega))
  have HT := hide htab
  have HHG := hide hG
  have HB := hide hb1
  clear htab hG hobj hb1
  go_wp2_with fail
  obtain ⟨w1, hw1⟩ : ∃ w1 : World, w1 = wr := ⟨_, rfl⟩
  subst hw1
  have HW1 : Hid (Below w.heap.size w w1) := HB
  clear HB
  go_loopw [6] (fun i wr => ∃ x : Nat, x ≤ n ∧ i = .int .i64 x ∧ Below w.heap.size w wr ∧ TabF 37 2 wr g G n (renTo rows p n x (tabF rows)) ∧ wr.heap.size = w1.heap.size) (fun i _ => n - (intOf i).toNat)
  case atStart => exact ⟨0, Nat.zero_le _, rfl, HW1.out, HT.out, rfl⟩
  case round =>
    obtain ⟨x, hx, rfl, hbx, htab, hsx⟩ := hrel
    have HBX := hide hbx
    have HT2 := hide htab
    have HS2 := hide hsx
    clear hbx htab hsx
    by_cases hlx : x < n
    · obtain ⟨b, o, rfl, hbw, hc⟩ := hr (by have := HN.out; omega)
      obtain ⟨Ax, cx, hcell, hrd⟩ := hc x (by have := HN.out; omega)
      have hl := hbs x (by have := HN.out; omega)
      obtain ⟨r, hx'⟩ : ∃ r, r = rows.getD x [] := ⟨_, rfl⟩
      rw [← hx'] at hcell hrd hl
      rw [hl] at hcell
      have HX := hide hx'
      have HL := hide hl
      have HCELL := hide hcell
      obtain ⟨px, hpx, hpxn⟩ := elem_range hpin (i := x) (by have := HM.out; omega)
      have HPX := hide hpx
      obtain ⟨b3, o3, rfl, hbw3, hc3⟩ := hp (by have := HM.out; omega)
      have HC3 := hide hc3
      have HHIN := hide hin
      have HPIN := hide hpin
      have e1 : wr.cell? ⟨b3, o3 + x, none⟩ = some (.int .i64 px) := by rw [← hpx]; exact (HBX.out.cell (p := ⟨b3, o3 + x, none⟩) hbw3).trans (hc3 x (by have := HM.out; omega))
      obtain ⟨C, htop⟩ := HT2.out.top
      have e4 : wr.cell? ⟨g, px, none⟩ = some (.slice (some ⟨G px, 0, none⟩) n (C px)) := htop.cell hpxn
      clear hx' hc hl hcell hbs hpx hc3 hin hpin htop
      have hltz : (x : Int) < n := by omega
      have hpxz : (px : Int) < n := by omega
      go_wp2_with fail
      obtain ⟨wo, rfl⟩ : ∃ wo : World, wo = wr := ⟨_, rfl⟩
      clear e1 e4
      go_loopw [7] (fun i wi => ∃ y : Nat, y ≤ n ∧ i = .int .i64 y ∧ Below w.heap.size w wi ∧ TabF 37 2 wi g G n (renRow rows p x y (renTo rows p n x (tabF rows))) ∧ wi.heap.size = w1.heap.size) (fun i _ => n - (intOf i).toNat)
      case atStart => exact ⟨0, Nat.zero_le _, rfl, HBX.out, HT2.out, HS2.out⟩
      case round =>
        obtain ⟨y, hy, rfl, hti, htabi, hsi⟩ := hrel
        have HTI := hide hti
        have HTB := hide htabi
        have HSI := hide hsi
        clear hti htabi hsi
        by_cases hlty : y < n
        · obtain ⟨b2, o2, rfl, hbw2, hc2⟩ := hrd (by have := HL.out; omega)
          have hv : wr.cell? ⟨b2, o2 + y, none⟩ = some (.int .i64 (r.getD y 0)) := (HTI.out.cell (p := ⟨b2, o2 + y, none⟩) hbw2).trans (hc2 y (by have := HL.out; omega))
          have hrow : wr.cell? ⟨b, o + x, none⟩ = some (.slice (some ⟨b2, o2, none⟩) n cx) := (HTI.out.cell (p := ⟨b, o + x, none⟩) hbw).trans HCELL.out
          have hzr := HHIN.out x y hlx hlty
          rw [← HX.out] at hzr
          obtain ⟨z, hz⟩ := Int.eq_ofNat_of_zero_le hzr.1
          rw [hz] at hv
          have hzn : z < n := by have := hzr.2; omega
          have HZ := hide hz
          obtain ⟨py, hpy, hpyn⟩ := elem_range HPIN.out (i := y) (by have := HM.out; omega)
          have HPY := hide hpy
          obtain ⟨q, hq⟩ : ∃ q, p.getD z 0 = q := ⟨_, rfl⟩
          have HQ := hide hq
          have e1 : wr.cell? ⟨b3, o3 + x, none⟩ = some (.int .i64 px) := by rw [← HPX.out]; exact (HTI.out.cell (p := ⟨b3, o3 + x, none⟩) hbw3).trans (HC3.out x (by have := HM.out; omega))
          obtain ⟨C, htop⟩ := HTB.out.top
          have e4 : wr.cell? ⟨g, px, none⟩ = some (.slice (some ⟨G px, 0, none⟩) n (C px)) := htop.cell hpxn
          clear htop
          have e2 : wr.cell? ⟨b3, o3 + y, none⟩ = some (.int .i64 py) := by rw [← hpy]; exact (HTI.out.cell (p := ⟨b3, o3 + y, none⟩) hbw3).trans (HC3.out y (by have := HM.out; omega))
          have e3 : wr.cell? ⟨b3, o3 + z, none⟩ = some (.int .i64 q) := by rw [← hq]; exact (HTI.out.cell (p := ⟨b3, o3 + z, none⟩) hbw3).trans (HC3.out z (by have := HM.out; omega))
          have e5 := (HTB.out.row px hpxn).cell hpyn
          obtain ⟨old, hold⟩ : ∃ q, renRow rows p x y (renTo rows p n x (tabF rows)) px py = q := ⟨_, rfl⟩
          rw [hold] at e5
          have e6 : wr.frozen? ⟨G px, py, none⟩ = false := (HTB.out.row px hpxn).frozen py
          clear hz hzr hold hc2 hrd hpy hq
          have hltyz : (y : Int) < n := by omega
          have hpyz : (py : Int) < n := by omega
          have hzz : (z : Int) < n := by omega
          go_wp2_with fail
          go_still_tail 21, (by kernel_rfl)
          change wpList _ _ _ _ _ wr.drew
          go_wp2_with fail
          go_roundw
          case rel =>
            have hset := HTB.out.set px py q hpxn
            have hg := HHG.out px hpxn
            refine ⟨y + 1, by omega, by go_num, (HTI.out.setCell (p := ⟨G px, py, none⟩) hg.1 _).drew, ?_, by have := HSI.out; simpa [World.setCell, World.drew] using this⟩
            have h2 : TabF 37 2 ((wr.setCell ⟨G px, py, none⟩ (.int .i64 q)).drew) g G n (fun a b => if a = px ∧ b = py then q else renRow rows p x y (renTo rows p n x (tabF rows)) a b) := ⟨hset.top, hset.row, hset.ne, hset.inj⟩
            refine h2.congr (fun a b _ _ => ?_)
            have e1 : (p.getD x 0).toNat = px := by rw [HPX.out]; simp
            have e2 : (p.getD y 0).toNat = py := by rw [HPY.out]; simp
            have e3 : ((rows.getD x []).getD y 0).toNat = z := by rw [← HX.out, HZ.out]; simp
            simp only [renRow]
            rw [e1, e2, e3, HQ.out]
          case measure => simp [intOf]; omega
        · have hyn : y = n := by omega
          subst hyn
          go_wp2_with fail
          go_roundw
          case rel => exact ⟨x + 1, by omega, by go_num, HTI.out, HTB.out, HSI.out⟩
          case measure => simp [intOf]; omega
    · have hxn : x = n := by omega
      subst hxn
      go_wp2_with fail
      go_ret
      refine ⟨_, _, rfl, HBX.out, ?_⟩
      have e := HN.out
      have hs := HS2.out
      exact HT2.out.obj hg1 (by omega) (fun i hi => by have := HHG.out i hi; omega)
end Go.Proofs.Ytpnlmmilnglmkaa
