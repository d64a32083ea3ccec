import Derived.Test.YthkhkehpmolfaaaZao
import Derived.Test.YthkhkehpmolfaaaZas
import Derived.Test.YthkhkehpmolfaaaZab
import Derived.Test.YthkhkehpmolfaaaZh
import Derived.Test.YthkhkehpmolfaaaZi
import Derived.Test.YthkhkehpmolfaaaZb
import Derived.StillTailTactics
import Derived.Test.YthkhkehpmolfaaaZal
import Derived.Test.YthkhkehpmolfaaaZl
import Derived.Test.YthkhkehpmolfaaaProg
namespace Go.Proofs.Ythkhkehpmolfaaa
open Go Go.RowKit

theorem renRow_far (rows : List (List Int)) (p : List Int) (x : Nat) (y : Nat) (f : Nat → Nat → Int) (a b : Nat) (h : a ≠ (p.getD x 0).toNat) : renRow rows p x y f a b = f a b := by
  induction y with
  | zero => rfl
  | succ y ih => unfold renRow; rw [if_neg (fun e => h e.1), ih]
theorem renRow_congr (rows : List (List Int)) (p : List Int) (x y : Nat) (f g : Nat → Nat → Int) (a b : Nat) (h : f a b = g a b) : renRow rows p x y f a b = renRow rows p x y g a b := by
  induction y with
  | zero => exact h
  | succ y ih => unfold renRow; rw [ih]
theorem renRow_hit (rows : List (List Int)) (p : List Int) (x y : Nat) (f g : Nat → Nat → Int) (a b y0 : Nat) (h0 : y0 < y) (ha : a = (p.getD x 0).toNat) (hb : b = (p.getD y0 0).toNat) : renRow rows p x y f a b = renRow rows p x y g a b := by
  induction y with
  | zero => omega
  | succ y ih =>
    unfold renRow
    by_cases h : a = (p.getD x 0).toNat ∧ b = (p.getD y 0).toNat
    · rw [if_pos h, if_pos h]
    · rw [if_neg h, if_neg h]
      have hne : y0 ≠ y := fun e => h ⟨ha, by rw [hb, e]⟩
      exact ih (by omega)
theorem renTo_congr (rows : List (List Int)) (p : List Int) (n x : Nat) (f g : Nat → Nat → Int) (a b : Nat) (h : f a b = g a b) : renTo rows p n x f a b = renTo rows p n x g a b := by
  induction x with
  | zero => exact h
  | succ x ih => exact renRow_congr _ _ _ _ _ _ _ _ ih
theorem renTo_cover (rows : List (List Int)) (p : List Int) (n x : Nat) (f g : Nat → Nat → Int) (a b x0 y0 : Nat) (h0 : x0 < x) (ha : (p.getD x0 0).toNat = a) (hy : y0 < n) (hb : (p.getD y0 0).toNat = b) : renTo rows p n x f a b = renTo rows p n x g a b := by
  induction x with
  | zero => omega
  | succ x ih =>
    unfold renTo
    by_cases h : x0 = x
    · subst h
      exact renRow_hit _ _ _ _ _ _ _ _ y0 hy ha.symm hb.symm
    · exact renRow_congr _ _ _ _ _ _ _ _ (ih (by omega))

theorem unit_getD (n k : Nat) (h : k < n) : (unit n).getD k 0 = (k : Int) := by simp [unit, h]
theorem unit_length (n : Nat) : (unit n).length = n := by simp [unit]
theorem renRow_unit (rows : List (List Int)) (n x y : Nat) (f : Nat → Nat → Int) (a b : Nat) (hx : x < n) (hy : y ≤ n) (hin : ∀ i j, i < n → j < n → 0 ≤ (rows.getD i []).getD j 0 ∧ (rows.getD i []).getD j 0 < (n : Int)) :
    renRow rows (unit n) x y f a b = if a = x ∧ b < y then (rows.getD x []).getD b 0 else f a b := by
  induction y with
  | zero => rw [if_neg (by omega)]; rfl
  | succ y ih =>
    unfold renRow
    rw [ih (by omega), unit_getD n x hx, unit_getD n y (by omega), Int.toNat_natCast, Int.toNat_natCast]
    by_cases h : a = x ∧ b = y
    · rw [if_pos h, if_pos (by omega)]
      have hr := hin x y hx (by omega)
      obtain ⟨z, hz⟩ := Int.eq_ofNat_of_zero_le hr.1
      rw [h.2, hz, Int.toNat_natCast, unit_getD n z (by omega)]
    · rw [if_neg h]
      by_cases h2 : a = x ∧ b < y
      · rw [if_pos h2, if_pos (by omega)]
      · rw [if_neg h2, if_neg (by omega)]
theorem renTo_unit (rows : List (List Int)) (n x : Nat) (f : Nat → Nat → Int) (a b : Nat) (hx : x ≤ n) (hb : b < n) (hin : ∀ i j, i < n → j < n → 0 ≤ (rows.getD i []).getD j 0 ∧ (rows.getD i []).getD j 0 < (n : Int)) :
    renTo rows (unit n) n x f a b = if a < x then (rows.getD a []).getD b 0 else f a b := by
  induction x with
  | zero => rw [if_neg (by omega)]; rfl
  | succ x ih =>
    unfold renTo
    rw [renRow_unit rows n x n _ a b (by omega) (Nat.le_refl _) hin, ih (by omega)]
    by_cases h : a = x
    · subst h
      rw [if_pos ⟨rfl, hb⟩, if_pos (by omega)]
    · rw [if_neg (fun e => h e.1)]
      by_cases h2 : a < x
      · rw [if_pos h2, if_pos (by omega)]
      · rw [if_neg h2, if_neg (by omega)]
theorem grid_self (rows : List (List Int)) (n : Nat) (hn : rows.length = n) (hl : ∀ i, i < n → (rows.getD i []).length = n) : grid n (fun a b => (rows.getD a []).getD b 0) = rows := by
  apply List.ext_getElem
  · simp [grid, hn]
  · intro i h1 h2
    have hi : i < n := by omega
    have hl' := hl i hi
    have e : rows.getD i [] = rows[i] := by simp [h2]
    rw [e] at hl'
    simp only [grid, List.getElem_map, List.getElem_range]
    apply List.ext_getElem
    · simp [hl']
    · intro j h3 h4
      simp only [List.getElem_map, List.getElem_range]
      rw [e]
      simp [h4]
theorem renL_unit (rows : List (List Int)) (n : Nat) (hn : rows.length = n) (hl : ∀ i, i < n → (rows.getD i []).length = n) (hin : ∀ i j, i < n → j < n → 0 ≤ (rows.getD i []).getD j 0 ∧ (rows.getD i []).getD j 0 < (n : Int)) : renL rows (unit n) = rows := by
  unfold renL
  rw [hn, grid_congr n _ (fun a b => (rows.getD a []).getD b 0) (fun a b ha hb => by rw [renTo_unit rows n n _ a b (Nat.le_refl _) hb hin, if_pos ha]), grid_self rows n hn hl]
theorem renL_cover (rows : List (List Int)) (n k : Nat) (f : Nat → Nat → Int) (hn : rows.length = n) (h1 : 1 ≤ n) (h7 : n ≤ 7) (hk : k < (permsS n).length) : grid n (renTo rows ((permsS n).getD k []) n n f) = renL rows ((permsS n).getD k []) := by
  unfold renL
  rw [hn]
  refine grid_congr n _ _ (fun a b ha hb => ?_)
  have hc := (perms_isP n h1 h7 k hk).2
  obtain ⟨x0, hx0, e0⟩ := hc a ha
  obtain ⟨y0, hy0, e1⟩ := hc b hb
  exact renTo_cover rows _ n n _ _ a b x0 y0 hx0 e0 hy0 e1

/-- The least one of the table and its first k renamed ones. -/
def bestS (rows : List (List Int)) (n : Nat) : Nat → List (List Int)
  | 0 => rows
  | k + 1 => if lessT (renL rows ((permsS n).getD k [])) (bestS rows n k) then renL rows ((permsS n).getD k []) else bestS rows n k
theorem bestS_shape (rows : List (List Int)) (n k : Nat) (hn : rows.length = n) (hl : ∀ i, i < n → (rows.getD i []).length = n) : (bestS rows n k).length = n ∧ ∀ i, i < n → ((bestS rows n k).getD i []).length = n := by
  induction k with
  | zero => exact ⟨hn, hl⟩
  | succ k ih =>
    unfold bestS
    split
    · refine ⟨by rw [renL_length, hn], fun i hi => ?_⟩
      unfold renL
      rw [hn, grid_row_length n _ i hi]
    · exact ih
theorem bestS_one (rows : List (List Int)) (n : Nat) (hn : rows.length = n) (h1 : 1 ≤ n) (h7 : n ≤ 7) (hl : ∀ i, i < n → (rows.getD i []).length = n) (hin : ∀ i j, i < n → j < n → 0 ≤ (rows.getD i []).getD j 0 ∧ (rows.getD i []).getD j 0 < (n : Int)) : bestS rows n 1 = renL rows ((permsS n).getD 0 []) := by
  unfold bestS
  rw [(perms_all n h1 h7).first, renL_unit rows n hn hl hin]
  unfold bestS
  split <;> rfl
def LeastRes (rows : List (List Int)) (zs : List (List Int)) (code : Int) : Prop :=
  (Tbl rows ∧ rows.length ≤ 7 ∧ zs = bestS rows rows.length (permsS rows.length).length ∧ code = 0) ∨ (Tbl rows ∧ 7 < rows.length ∧ zs = [] ∧ code = 3) ∨ (¬ Tbl rows ∧ zs = [] ∧ code = 1)
theorem LeastRes.ex (rows : List (List Int)) : ∃ zs code, LeastRes rows zs code ∧ zs.length ≤ 1048576 ∧ ∀ i, i < zs.length → (zs.getD i []).length ≤ 1048576 := by
  by_cases h : Tbl rows
  · by_cases h7 : rows.length ≤ 7
    · have hs := bestS_shape rows rows.length (permsS rows.length).length rfl (fun i hi => h.rows i hi)
      exact ⟨_, _, .inl ⟨h, h7, rfl, rfl⟩, by omega, fun i hi => by rw [hs.2 i (by omega)]; omega⟩
    · exact ⟨_, _, .inr (.inl ⟨h, by omega, rfl, rfl⟩), by simp, fun i hi => by simp at hi⟩
  · exact ⟨_, _, .inr (.inr ⟨h, rfl, rfl⟩), by simp, fun i hi => by simp at hi⟩
end Go.Proofs.Ythkhkehpmolfaaa
namespace Go.Proofs.Ythkhkehpmolfaaa
open Go Go.RowKit
set_option maxHeartbeats 2000000

set_option maxRecDepth 100000 in
theorem renameInto_gen (g lo hi : Nat) (G : Nat → Nat) (n cu : Nat) (f : Nat → Nat → Int) (A : Option Addr) (c : Nat) (rows : List (List Int)) (D : Option Addr) (d : Nat) (p : List Int) (w0 w : World)
    (hn : rows.length = n) (hm : p.length = n) (hb : n ≤ 1048576) (hbs : ∀ i, i < rows.length → (rows.getD i []).length = n) (hin : ∀ i j, i < n → j < n → 0 ≤ (rows.getD i []).getD j 0 ∧ (rows.getD i []).getD j 0 < (n : Int)) (hpin : ∀ x ∈ p, 0 ≤ x ∧ x < (n : Int))
    (hr : Rd2 w0 A rows) (hp : ∀ w3, Touch lo hi w w3 → Rd w3 D p) (hbe : Below w0.heap.size w0 w) (hlo : w0.heap.size ≤ lo) (hG : ∀ i, i < n → lo ≤ G i ∧ G i < hi) (htab : TabF 31 2 w g G n f) :
    Calls Try.prog 115 #[.slice (some ⟨g, 0, none⟩) n cu, .slice A n c, .slice D n d] w fun e w' => e = .returned (.tuple #[]) ∧ Touch lo hi w w' ∧ TabF 31 2 w' g G n (renTo rows p n n f) ∧ w'.heap.size = w.heap.size := by
  have HN := hide hn
  have HM := hide hm
  have HBE := hide hbe
  have HT := hide htab
  clear hn hm hbe htab
  go_enter Try.func115, Try.ntmps115
  go_wp2_with fail
  go_loopw [12] (fun i wr => ∃ x : Nat, x ≤ n ∧ i = .int .i64 x ∧ Touch lo hi w wr ∧ TabF 31 2 wr g G n (renTo rows p n x f) ∧ wr.heap.size = w.heap.size) (fun i _ => n - (intOf i).toNat)
  case atStart => exact ⟨0, Nat.zero_le _, rfl, Touch.refl _ _ _, HT.out, rfl⟩
  case round =>
    obtain ⟨x, hx, rfl, ht, htab, hsz⟩ := hrel
    have HTC := hide ht
    have HT2 := hide htab
    have HS2 := hide hsz
    clear ht htab hsz
    by_cases hlt : x < n
    · have HB2 : Hid (Below w0.heap.size w0 wr) := hide (HTC.out.below HBE.out HBE.out.size hlo)
      obtain ⟨b, o, rfl, hbw, hc⟩ := hr (by have := HN.out; omega)
      obtain ⟨Ax, cx, hcell, hrd⟩ := hc x (by have := HN.out; omega)
      have hl := hbs x (by have := HN.out; omega)
      obtain ⟨r, hx'⟩ : ∃ r, r = rows.getD x [] := ⟨_, rfl⟩
      rw [← hx'] at hcell hrd hl
      rw [hl] at hcell
      have HX := hide hx'
      have HL := hide hl
      have hcell' : wr.cell? ⟨b, o + x, none⟩ = some (.slice Ax n cx) := (HB2.out.cell (p := ⟨b, o + x, none⟩) hbw).trans hcell
      obtain ⟨px, hpx, hpxn⟩ := elem_range hpin (i := x) (by have := HM.out; omega)
      have HPX := hide hpx
      obtain ⟨b3, o3, rfl, _, _⟩ := hp wr HTC.out (by have := HM.out; omega)
      have HP3 := hide hp
      have HHIN := hide hin
      have HPIN := hide hpin
      have HHG := hide hG
      clear hx' hc hl hcell hbs hpx hp hin hpin hG
      have hltz : (x : Int) < n := by omega
      have hpxz : (px : Int) < n := by omega
      go_wp2_with fail
      obtain ⟨wo, rfl⟩ : ∃ wo : World, wo = wr := ⟨_, rfl⟩
      go_loopw [19] (fun i wi => ∃ y : Nat, y ≤ n ∧ i = .int .i64 y ∧ Touch lo hi w wi ∧ TabF 31 2 wi g G n (renRow rows p x y (renTo rows p n x f)) ∧ wi.heap.size = w.heap.size) (fun i _ => n - (intOf i).toNat)
      case atStart => exact ⟨0, Nat.zero_le _, rfl, HTC.out, HT2.out, HS2.out⟩
      case round =>
        obtain ⟨y, hy, rfl, hti, htabi, hsi⟩ := hrel
        have HTI := hide hti
        have HTB := hide htabi
        have HSI := hide hsi
        clear hti htabi hsi
        by_cases hlty : y < n
        · have HB3 : Hid (Below w0.heap.size w0 wr) := hide (HTI.out.below HBE.out HBE.out.size hlo)
          obtain ⟨b2, o2, rfl, hbw2, hc2⟩ := hrd (by have := HL.out; omega)
          have hv : wr.cell? ⟨b2, o2 + y, none⟩ = some (.int .i64 (r.getD y 0)) := (HB3.out.cell (p := ⟨b2, o2 + y, none⟩) hbw2).trans (hc2 y (by have := HL.out; omega))
          have hzr := HHIN.out x y hlt hlty
          rw [← HX.out] at hzr
          obtain ⟨z, hz⟩ := Int.eq_ofNat_of_zero_le hzr.1
          rw [hz] at hv
          have hzn : z < n := by have := hzr.2; omega
          have HZ := hide hz
          obtain ⟨py, hpy, hpyn⟩ := elem_range HPIN.out (i := y) (by have := HM.out; omega)
          have HPY := hide hpy
          obtain ⟨q, hq⟩ : ∃ q, p.getD z 0 = q := ⟨_, rfl⟩
          have HQ := hide hq
          obtain ⟨b4, o4, e0, _, hc4⟩ := HP3.out wr HTI.out (by have := HM.out; omega)
          cases e0
          have e1 : wr.cell? ⟨b3, o3 + x, none⟩ = some (.int .i64 px) := by rw [← HPX.out]; exact hc4 x (by have := HM.out; omega)
          have e2 : wr.cell? ⟨b3, o3 + y, none⟩ = some (.int .i64 py) := by rw [← hpy]; exact hc4 y (by have := HM.out; omega)
          have e3 : wr.cell? ⟨b3, o3 + z, none⟩ = some (.int .i64 q) := by rw [← hq]; exact hc4 z (by have := HM.out; omega)
          obtain ⟨C, htop⟩ := HTB.out.top
          have e4 : wr.cell? ⟨g, px, none⟩ = some (.slice (some ⟨G px, 0, none⟩) n (C px)) := htop.cell hpxn
          have e5 := (HTB.out.row px hpxn).cell hpyn
          obtain ⟨old, hold⟩ : ∃ q, renRow rows p x y (renTo rows p n x f) px py = q := ⟨_, rfl⟩
          rw [hold] at e5
          have e6 : wr.frozen? ⟨G px, py, none⟩ = false := (HTB.out.row px hpxn).frozen py
          clear hz hzr hold hc2 hrd hcell' htop hpy hq hc4
          have hltyz : (y : Int) < n := by omega
          have hpyz : (py : Int) < n := by omega
          have hzz : (z : Int) < n := by omega
          go_wp2_with fail
          go_still_tail 16, (by kernel_rfl)
          change wpList _ _ _ _ _ wr.drew
          go_wp2_with fail
          go_roundw
          case rel =>
            have hset := HTB.out.set px py q hpxn
            refine ⟨y + 1, by omega, by go_num, ?_, ?_, by have := HSI.out; simpa [World.setCell, World.drew] using this⟩
            · have h1 := HTI.out
              have hg := HHG.out px hpxn
              exact ⟨h1.os, h1.tape, h1.output, by have := h1.size; simpa [World.setCell, World.drew] using this, fun i hi hne => (Below.heap_setCell _ _ _ _ (by show i ≠ G px; omega)).trans (h1.block i hi hne)⟩
            · have h2 : TabF 31 2 ((wr.setCell ⟨G px, py, none⟩ (.int .i64 q)).drew) g G n (fun a b => if a = px ∧ b = py then q else renRow rows p x y (renTo rows p n x f) a b) := ⟨hset.top, hset.row, hset.ne, hset.inj⟩
              refine h2.congr (fun a b _ _ => ?_)
              have e1 : (p.getD x 0).toNat = px := by rw [HPX.out]; simp
              have e2 : (p.getD y 0).toNat = py := by rw [HPY.out]; simp
              have e3 : ((rows.getD x []).getD y 0).toNat = z := by rw [← HX.out, HZ.out]; simp
              simp only [renRow]
              rw [e1, e2, e3, HQ.out]
          case measure => simp [intOf]; omega
        · have hyn : y = n := by omega
          subst hyn
          go_wp2_with fail
          go_roundw
          case rel => exact ⟨x + 1, by omega, by go_num, HTI.out, HTB.out, HSI.out⟩
          case measure => simp [intOf]; omega
    · have hxn : x = n := by omega
      subst hxn
      go_wp2_with fail
      go_end0
      exact ⟨rfl, HTC.out, HT2.out, HS2.out⟩
end Go.Proofs.Ythkhkehpmolfaaa
namespace Go.Proofs.Ythkhkehpmolfaaa
open Go Go.RowKit
set_option maxHeartbeats 2000000

theorem o2Info2 : (Try.prog.info? 31).map (fun i => (i.zero, i.size, i.bytes)) = some (some (.slice none 0 0), 1, 24) := by kernel_rfl

theorem own2_any (A : Option Addr) (n c : Nat) (rows : List (List Int)) (w : World)
    (hn : rows.length = n) (h1 : 1 ≤ n) (hb : n ≤ 1048576) (hbs : ∀ i, i < rows.length → (rows.getD i []).length = n) (hr : Rd2 w A rows) :
    Calls Try.prog 112 #[.slice A n c] w fun e w' => ∃ A' c', e = .returned (.slice A' n c') ∧ Below w.heap.size w w' ∧ Obj2 31 2 w.heap.size w'.heap.size w' A' rows := by
  have HN := hide hn
  clear hn
  obtain ⟨i0, hi, hz0, hz1, hz2⟩ := info_parts o2Info2
  go_enter Try.func112, Try.ntmps112
  go_wp2_with fail
  go_loopw [3, 4] (fun v i wr => ∃ (k : Nat) (vals : List Value), k ≤ n ∧ i = .int .i64 k ∧ Below w.heap.size w wr ∧ LstV 31 2 w.heap.size wr v (rows.take k) vals ∧ w.heap.size ≤ wr.heap.size) (fun _ i _ => n - (intOf i).toNat)
  case atStart => exact ⟨0, [], Nat.zero_le _, rfl, (Below.refl _ _).alloc (Nat.le_refl _) _, by simpa using LstV.start w _ _, by simp⟩
  case round =>
    obtain ⟨k, vals, hk, rfl, hbe, hlst, hsz⟩ := hrel
    have HB := hide hbe
    have HL := hide hlst
    clear hbe hlst
    by_cases hlt : k < n
    · have hltz : (k : Int) < n := by omega
      obtain ⟨b, o, rfl, hbw, hc⟩ := hr (by have := HN.out; omega)
      obtain ⟨Ax, cx, hcell, hrd⟩ := hc k (by have := HN.out; omega)
      have hl := hbs k (by have := HN.out; omega)
      obtain ⟨r, hx'⟩ : ∃ r, r = rows.getD k [] := ⟨_, rfl⟩
      rw [← hx'] at hcell hrd hl
      rw [hl] at hcell
      have hcell' : wr.cell? ⟨b, o + k, none⟩ = some (.slice Ax n cx) := (HB.out.cell (p := ⟨b, o + k, none⟩) hbw).trans hcell
      have HX := hide hx'
      have HLL := hide hl
      obtain ⟨b2, o2, rfl, hbw2, hc2⟩ := hrd (by have := HLL.out; omega)
      have HC2 := hide hc2
      clear hx' hc hl hcell hbs hc2 hrd
      go_wp2_with fail
      refine (own_any b2 o2 n cx r _ HLL.out hb (by have := HB.out.size; omega) (fun i hi => (HB.out.cell (p := ⟨b2, o2 + i, none⟩) hbw2).trans (HC2.out i hi))).mono ?_
      rintro e w2 ⟨v2, rfl, hb2, how2⟩
      have HB2 := hide hb2
      have HOW2 := hide how2
      clear hb2 how2
      obtain ⟨A4, c4, hv4, hres4⟩ := own_shape HOW2.out
      rw [← HLL.out] at hv4
      subst hv4
      have HR4 := hide hres4.obj
      have hs4 := HB2.out.size
      have hlen : (ints r).length = n := by rw [ints_length]; exact HLL.out
      clear hres4
      have hlt0 : (rows.take k).length = k := by have := HN.out; simp; omega
      have HLT := hide hlt0
      have hown : w2.ownsRow w.heap.size 31 1 u3 k vals := by have := (HL.out.later HB2.out).own; rwa [hlt0] at this
      have HO := hide hown
      clear hown hlt0 hlen
      go_wp2_with (at_builtin; refine wpList_append_own _ rfl _ _ 22 rfl w.heap.size 31 i0 (.slice none 0 0) 1 24 Try.underlying22 hi hz0 hz1 hz2 rfl (by decide) _ _ _ rfl (HO.out.alloc _) ⟨w2.heap.size, 0, none⟩ 1 1 [.slice A4 r.length c4] rfl rfl ?c1 ?c2 ?c3 ?c4 ?c5 ?_)
      case c1 => exact ne_new
      case c2 => intro u hu; simp at hu; subst hu; rfl
      case c3 => unfold maxLen; omega
      case c4 => omega
      case c5 => simp; omega
      intro v' w3 hown' hgrow _
      have HO' := hide hown'
      have HG := hide hgrow
      clear hown' hgrow
      go_wp2_with fail
      go_roundw
      case rel =>
        have hB3 : Below w.heap.size w w3 := ((HB.out.trans (HB2.out.mono hsz)).alloc (by omega) _).grown HG.out (by simp; omega) (fun g hg => ((HO.out.alloc (.cells #[.slice A4 r.length c4] 31)).lt g hg).1)
        have hpush := LstV.push (tmp := .cells #[.slice A4 r.length c4] 31) (A := A4) (c := c4) (r := r) (w1 := w3) (v' := v') (by decide) hsz HL.out HB2.out HR4.out (by rw [HLT.out]; exact HO'.out) HG.out
        have e : rows.take (k + 1) = rows.take k ++ [r] := by
          have hl : k < rows.length := by have := HN.out; omega
          rw [List.take_succ_eq_append_getElem hl, HX.out]
          simp [hl]
        refine ⟨k + 1, vals ++ [.slice A4 r.length c4], by omega, by go_num, hB3, by rw [e]; exact hpush, by have := hB3.size; omega⟩
      case measure => simp [intOf]; omega
    · have hkn : k = n := by omega
      subst hkn
      go_wp2_with fail
      go_ret
      obtain ⟨A', c', hv, hobj⟩ := HL.out.shape
      have e : rows.take k = rows := List.take_of_length_le (by have := HN.out; omega)
      rw [e] at hv hobj
      exact ⟨A', c', by rw [← HN.out, ← hv]; rfl, HB.out, hobj⟩
end Go.Proofs.Ythkhkehpmolfaaa
namespace Go.Proofs.Ythkhkehpmolfaaa
open Go Go.RowKit
set_option maxHeartbeats 2000000

theorem l01Perms_any (n : Nat) (w : World) (h1 : 1 ≤ n) (h7 : n ≤ 7) :
    Calls Try.prog 111 #[.int .i64 n] w fun e w' => ∃ A' c', e = .returned (.slice A' (permsS n).length c') ∧ Below w.heap.size w w' ∧ Obj2 31 2 w.heap.size w'.heap.size w' A' (permsS n) := by
  have HP := hide (perms_all n h1 h7)
  go_enter Try.func111, Try.ntmps111
  go_wp2_with fail
  have hal : Below w.heap.size w ((w.alloc (.cells #[] 2)).alloc (.cells #[] 31)) := ((Below.refl _ _).alloc (Nat.le_refl _) _).alloc (by simp) _
  have HAL := hide hal
  have hlst : LstV 31 2 w.heap.size ((w.alloc (.cells #[] 2)).alloc (.cells #[] 31)) (.slice (some ⟨w.heap.size + 1, 0, none⟩) 0 0) [] [] := by
    have h := LstV.start (w.alloc (.cells #[] 2)) 31 2
    obtain ⟨h1, h2, h3⟩ := h
    obtain ⟨h4, h5⟩ := h1
    refine ⟨⟨h4, ?_⟩, fun i hi => by simp at hi, fun i j u u' g _ hu => by simp at hu⟩
    rcases h5 with ⟨h5, _⟩ | ⟨g, cap, cur, hv, hg, r⟩
    · cases h5
    · exact .inr ⟨g, cap, cur, by simpa using hv, by simp at hg; omega, r⟩
  have HL := hide hlst
  have hob : Obj1 2 w.heap.size ((w.alloc (.cells #[] 2)).alloc (.cells #[] 31)).heap.size ((w.alloc (.cells #[] 2)).alloc (.cells #[] 31)) (some ⟨w.heap.size, 0, none⟩) [] :=
    .inr ⟨w.heap.size, rfl, Nat.le_refl _, by simp; omega, #[], (Below.heap_alloc _ _ _ (by simp)).trans (heap_alloc_new _ _), fun i hi => by simp at hi⟩
  have HO := hide hob
  clear hal hlst hob
  refine (grow_any w.heap.size n n 0 0 w.heap.size [] _ [] [] _ rfl (by omega) (by omega) (by simp; omega) HO.out HL.out (fun i u g hu => by simp at hu) (by have := HP.out.most; show 0 + (permsS n).length ≤ _; omega)).mono ?_
  rintro e w1 ⟨v', vals', rfl, hk, hb, hB, hl⟩
  have HL1 := hide hl
  have HB1 := hide hb
  clear hk hb hl
  go_wp2_with fail
  go_ret
  obtain ⟨A', c', hv, hobj⟩ := HL1.out.shape
  exact ⟨A', c', by rw [show [] ++ growS n n [] = permsS n from rfl] at hv; rw [← hv]; rfl, HAL.out.trans HB1.out, hobj⟩
end Go.Proofs.Ythkhkehpmolfaaa
namespace Go.Proofs.Ythkhkehpmolfaaa
open Go Go.RowKit
set_option maxHeartbeats 2000000
set_option maxRecDepth 100000

theorem rsInfo : (Try.prog.info? 2).map (fun i => (i.zero, i.size, i.bytes)) = some (some (.int .i64 0), 1, 8) := by kernel_rfl
theorem rsInfo2 : (Try.prog.info? 31).map (fun i => (i.zero, i.size, i.bytes)) = some (some (.slice none 0 0), 1, 24) := by kernel_rfl
theorem rs_new {w : World} {v : Value} {t : TypeId} : ∀ j u, [v][j]? = some u → (w.alloc (.cells #[v] t)).cell? ((⟨w.heap.size, 0, none⟩ : Addr).add j) = some u := by
  intro j u hj
  match j, hj with
  | 0, hj => simp at hj; subst hj; simp [Addr.add, World.cell?_alloc_new]

def zeros (n : Nat) : List Int := List.replicate n 0
theorem zeros_length (n : Nat) : (zeros n).length = n := by simp [zeros]

theorem l01Rename_any (A : Option Addr) (n c : Nat) (rows : List (List Int)) (D : Option Addr) (d : Nat) (p : List Int) (w : World)
    (hn : rows.length = n) (hm : p.length = n) (h1 : 1 ≤ n) (hb : n ≤ 1048576) (hbs : ∀ i, i < rows.length → (rows.getD i []).length = n) (hin : ∀ i j, i < n → j < n → 0 ≤ (rows.getD i []).getD j 0 ∧ (rows.getD i []).getD j 0 < (n : Int)) (hpin : ∀ x ∈ p, 0 ≤ x ∧ x < (n : Int))
    (hr : Rd2 w A rows) (hp : Rd w D p) :
    Calls Try.prog 113 #[.slice A n c, .slice D n d] w fun e w' => ∃ A' c', e = .returned (.slice A' n c') ∧ Below w.heap.size w w' ∧ Obj2 31 2 w.heap.size w'.heap.size w' A' (renL rows p) := by
  have HN := hide hn
  have HM := hide hm
  clear hn hm
  have hmk := run_make_row' (P := Try.prog) 31 2 (.int .i64 0) 8 Try.underlying31 rsInfo rfl .i64 .i64 n (by omega) (by omega)
  obtain ⟨i0, hi, hz0, hz1, hz2⟩ := info_parts rsInfo2
  go_enter Try.func113, Try.ntmps113
  go_wp2_with fail
  go_loopw [5, 6] (fun v i wr => ∃ (k : Nat) (vals : List Value), k ≤ n ∧ i = .int .i64 k ∧ Below w.heap.size w wr ∧ LstV 31 2 w.heap.size wr v (List.replicate k (zeros n)) vals ∧ w.heap.size ≤ wr.heap.size) (fun _ i _ => n - (intOf i).toNat)
  case atStart => exact ⟨0, [], Nat.zero_le _, rfl, (Below.refl _ _).alloc (Nat.le_refl _) _, by simpa using LstV.start w _ _, by simp⟩
  case round =>
    obtain ⟨k, vals, hk, rfl, hbe, hlst, hsz⟩ := hrel
    have HB := hide hbe
    have HL := hide hlst
    clear hbe hlst
    by_cases hlt : k < n
    · have hltz : (k : Int) < n := by omega
      have hown : (wr.alloc (.cells (madeCells #[.int .i64 0] n) 2)).ownsRow w.heap.size 31 1 u5 k vals := by have := (HL.out.later ((Below.refl _ _).alloc (Nat.le_refl _) (.cells (madeCells #[.int .i64 0] n) 2))).own; simpa using this
      have HO := hide hown
      clear hown
      go_wp2_with (at_builtin; refine wpList_append_own _ rfl _ _ 22 rfl w.heap.size 31 i0 (.slice none 0 0) 1 24 Try.underlying22 hi hz0 hz1 hz2 rfl (by decide) _ _ _ rfl (HO.out.alloc _) ⟨wr.heap.size + 1, 0, none⟩ 1 1 [.slice (some ⟨wr.heap.size, 0, none⟩) n n] rfl rfl ?c1 ?c2 ?c3 ?c4 ?c5 ?_)
      case c1 => have h := rs_new (w := wr.alloc (.cells (madeCells #[.int .i64 0] n) 2)) (v := .slice (some ⟨wr.heap.size, 0, none⟩) n n) (t := 31); simpa using h
      case c2 => intro u hu; simp at hu; subst hu; rfl
      case c3 => unfold maxLen; omega
      case c4 => omega
      case c5 => simp; omega
      intro v' w3 hown' hgrow _
      have HO' := hide hown'
      have HG := hide hgrow
      clear hown' hgrow
      go_wp2_with fail
      go_roundw
      case rel =>
        have hnew : Obj1 2 wr.heap.size (wr.alloc (.cells (madeCells #[.int .i64 0] n) 2)).heap.size (wr.alloc (.cells (madeCells #[.int .i64 0] n) 2)) (some ⟨wr.heap.size, 0, none⟩) (zeros n) := .inr ⟨_, rfl, Nat.le_refl _, by simp, (Row.made 2 wr n).own⟩
        have hB3 : Below w.heap.size w w3 := ((HB.out.alloc hsz _).alloc (by simp; omega) _).grown HG.out (by simp; omega) (fun g hg => (HO.out.alloc (.cells #[.slice (some ⟨wr.heap.size, 0, none⟩) n n] 31)).lt g hg |>.1)
        have hpush := LstV.push (tmp := .cells #[.slice (some ⟨wr.heap.size, 0, none⟩) n n] 31) (A := some ⟨wr.heap.size, 0, none⟩) (c := n) (r := zeros n) (w1 := w3) (v' := v') (by decide) hsz HL.out ((Below.refl _ _).alloc (Nat.le_refl _) _) hnew (by rw [zeros_length, List.length_replicate]; exact HO'.out) HG.out
        refine ⟨k + 1, vals ++ [.slice (some ⟨wr.heap.size, 0, none⟩) (zeros n).length n], by omega, by go_num, hB3, ?_, by have := hB3.size; omega⟩
        rw [List.replicate_succ']
        exact hpush
      case measure => simp [intOf]; omega
    · have hkn : k = n := by omega
      subst hkn
      clear hmk
      obtain ⟨A', c', hv, hobj⟩ := HL.out.shape
      obtain ⟨g, G, rfl, hg1, hg2, hG, htab⟩ := hobj.tabF (by decide) h1 (by simp) (fun i hi => by simp [hi, zeros])
      have HT := hide (htab.congr (f' := fun _ _ => 0) (fun a b ha hb => by simp [zeros, ha, hb]))
      have HHG := hide hG
      rw [List.length_replicate] at hv
      clear htab hG
      rw [hv]
      clear hv
      go_wp2_with fail
      obtain ⟨w1, hw1⟩ : ∃ w1 : World, w1 = wr := ⟨_, rfl⟩
      subst hw1
      have HW1 : Hid (Below w.heap.size w w1) := HB
      clear HL HB hi
      go_loopw [7] (fun i wr => ∃ x : Nat, x ≤ k ∧ i = .int .i64 x ∧ Below w.heap.size w wr ∧ TabF 31 2 wr g G k (renTo rows p k x fun _ _ => 0) ∧ wr.heap.size = w1.heap.size) (fun i _ => k - (intOf i).toNat)
      case atStart => exact ⟨0, Nat.zero_le _, rfl, HW1.out, HT.out, rfl⟩
      case round =>
        obtain ⟨x, hx, rfl, hbx, htab, hsx⟩ := hrel
        have HBX := hide hbx
        have HT2 := hide htab
        have HS2 := hide hsx
        clear hbx htab hsx
        by_cases hlx : x < k
        · obtain ⟨b, o, rfl, hbw, hc⟩ := hr (by have := HN.out; omega)
          obtain ⟨Ax, cx, hcell, hrd⟩ := hc x (by have := HN.out; omega)
          have hl := hbs x (by have := HN.out; omega)
          obtain ⟨r, hx'⟩ : ∃ r, r = rows.getD x [] := ⟨_, rfl⟩
          rw [← hx'] at hcell hrd hl
          rw [hl] at hcell
          have HX := hide hx'
          have HL := hide hl
          have HCELL := hide hcell
          obtain ⟨px, hpx, hpxn⟩ := elem_range hpin (i := x) (by have := HM.out; omega)
          have HPX := hide hpx
          obtain ⟨b3, o3, rfl, hbw3, hc3⟩ := hp (by have := HM.out; omega)
          have HC3 := hide hc3
          have HHIN := hide hin
          have HPIN := hide hpin
          have e1 : wr.cell? ⟨b3, o3 + x, none⟩ = some (.int .i64 px) := by rw [← hpx]; exact (HBX.out.cell (p := ⟨b3, o3 + x, none⟩) hbw3).trans (hc3 x (by have := HM.out; omega))
          obtain ⟨C, htop⟩ := HT2.out.top
          have e4 : wr.cell? ⟨g, px, none⟩ = some (.slice (some ⟨G px, 0, none⟩) k (C px)) := htop.cell hpxn
          clear hx' hc hl hcell hbs hpx hc3 hin hpin htop
          have hltz : (x : Int) < k := by omega
          have hpxz : (px : Int) < k := by omega
          go_wp2_with fail
          obtain ⟨wo, rfl⟩ : ∃ wo : World, wo = wr := ⟨_, rfl⟩
          clear e1 e4
          go_loopw [9] (fun i wi => ∃ y : Nat, y ≤ k ∧ i = .int .i64 y ∧ Below w.heap.size w wi ∧ TabF 31 2 wi g G k (renRow rows p x y (renTo rows p k x fun _ _ => 0)) ∧ wi.heap.size = w1.heap.size) (fun i _ => k - (intOf i).toNat)
          case atStart => exact ⟨0, Nat.zero_le _, rfl, HBX.out, HT2.out, HS2.out⟩
          case round =>
            obtain ⟨y, hy, rfl, hti, htabi, hsi⟩ := hrel
            have HTI := hide hti
            have HTB := hide htabi
            have HSI := hide hsi
            clear hti htabi hsi
            by_cases hlty : y < k
            · obtain ⟨b2, o2, rfl, hbw2, hc2⟩ := hrd (by have := HL.out; omega)
              have hv : wr.cell? ⟨b2, o2 + y, none⟩ = some (.int .i64 (r.getD y 0)) := (HTI.out.cell (p := ⟨b2, o2 + y, none⟩) hbw2).trans (hc2 y (by have := HL.out; omega))
              have hrow : wr.cell? ⟨b, o + x, none⟩ = some (.slice (some ⟨b2, o2, none⟩) k cx) := (HTI.out.cell (p := ⟨b, o + x, none⟩) hbw).trans HCELL.out
              have hzr := HHIN.out x y hlx hlty
              rw [← HX.out] at hzr
              obtain ⟨z, hz⟩ := Int.eq_ofNat_of_zero_le hzr.1
              rw [hz] at hv
              have hzn : z < k := by have := hzr.2; omega
              have HZ := hide hz
              obtain ⟨py, hpy, hpyn⟩ := elem_range HPIN.out (i := y) (by have := HM.out; omega)
              have HPY := hide hpy
              obtain ⟨q, hq⟩ : ∃ q, p.getD z 0 = q := ⟨_, rfl⟩
              have HQ := hide hq
              have e2 : wr.cell? ⟨b3, o3 + y, none⟩ = some (.int .i64 py) := by rw [← hpy]; exact (HTI.out.cell (p := ⟨b3, o3 + y, none⟩) hbw3).trans (HC3.out y (by have := HM.out; omega))
              have e3 : wr.cell? ⟨b3, o3 + z, none⟩ = some (.int .i64 q) := by rw [← hq]; exact (HTI.out.cell (p := ⟨b3, o3 + z, none⟩) hbw3).trans (HC3.out z (by have := HM.out; omega))
              have e5 := (HTB.out.row px hpxn).cell hpyn
              obtain ⟨old, hold⟩ : ∃ q, renRow rows p x y (renTo rows p k x fun _ _ => 0) px py = q := ⟨_, rfl⟩
              rw [hold] at e5
              have e6 : wr.frozen? ⟨G px, py, none⟩ = false := (HTB.out.row px hpxn).frozen py
              clear hz hzr hold hc2 hrd hpy hq
              have hltyz : (y : Int) < k := by omega
              have hpyz : (py : Int) < k := by omega
              have hzz : (z : Int) < k := by omega
              go_wp2_with fail
              go_still_tail 16, (by kernel_rfl)
              change wpList _ _ _ _ _ wr.drew
              go_wp2_with fail
              go_roundw
              case rel =>
                have hset := HTB.out.set px py q hpxn
                have hg := HHG.out px hpxn
                refine ⟨y + 1, by omega, by go_num, (HTI.out.setCell (p := ⟨G px, py, none⟩) hg.1 _).drew, ?_, by have := HSI.out; simpa [World.setCell, World.drew] using this⟩
                have h2 : TabF 31 2 ((wr.setCell ⟨G px, py, none⟩ (.int .i64 q)).drew) g G k (fun a b => if a = px ∧ b = py then q else renRow rows p x y (renTo rows p k x fun _ _ => 0) a b) := ⟨hset.top, hset.row, hset.ne, hset.inj⟩
                refine h2.congr (fun a b _ _ => ?_)
                have e1 : (p.getD x 0).toNat = px := by rw [HPX.out]; simp
                have e2 : (p.getD y 0).toNat = py := by rw [HPY.out]; simp
                have e3 : ((rows.getD x []).getD y 0).toNat = z := by rw [← HX.out, HZ.out]; simp
                simp only [renRow]
                rw [e1, e2, e3, HQ.out]
              case measure => simp [intOf]; omega
            · have hyn : y = k := by omega
              subst hyn
              go_wp2_with fail
              go_roundw
              case rel => exact ⟨x + 1, by omega, by go_num, HTI.out, HTB.out, HSI.out⟩
              case measure => simp [intOf]; omega
        · have hxn : x = k := by omega
          subst hxn
          go_wp2_with fail
          go_ret
          refine ⟨_, _, rfl, HBX.out, ?_⟩
          have e := HN.out
          unfold renL
          rw [e]
          have hs := HS2.out
          exact HT2.out.obj hg1 (by omega) (fun i hi => by have := HHG.out i hi; omega)
end Go.Proofs.Ythkhkehpmolfaaa
