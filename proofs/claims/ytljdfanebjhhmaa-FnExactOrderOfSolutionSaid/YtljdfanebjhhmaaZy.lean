import Derived.Test.YtljdfanebjhhmaaZm
import Derived.Test.YtljdfanebjhhmaaZs
import Derived.Test.YtljdfanebjhhmaaZf
import Derived.Test.YtljdfanebjhhmaaZj
import Derived.Test.YtljdfanebjhhmaaZk
import Derived.Test.YtljdfanebjhhmaaZb
import Derived.StillTailTactics
namespace Go.Proofs.Ytljdfanebjhhmaa
open Go Go.RowKit

theorem renRow_far (rows : List (List Int)) (p : List Int) (x : Nat) (y : Nat) (f : Nat → Nat → Int) (a b : Nat) (h : a ≠ (p.getD x 0).toNat) : renRow rows p x y f a b = f a b := by
  induction y with
  | zero => rfl
  | succ y ih => unfold renRow; rw [if_neg (fun e => h e.1), ih]
theorem renRow_congr (rows : List (List Int)) (p : List Int) (x y : Nat) (f g : Nat → Nat → Int) (a b : Nat) (h : f a b = g a b) : renRow rows p x y f a b = renRow rows p x y g a b := by
  induction y with
  | zero => exact h
  | succ y ih => unfold renRow; rw [ih]
theorem renRow_hit (rows : List (List Int)) (p : List Int) (x y : Nat) (f g : Nat → Nat → Int) (a b y0 : Nat) (h0 : y0 < y) (ha : a = (p.getD x 0).toNat) (hb : b = (p.getD y0 0).toNat) : renRow rows p x y f a b = renRow rows p x y g a b := by
  induction y with
  | zero => omega
  | succ y ih =>
    unfold renRow
    by_cases h : a = (p.getD x 0).toNat ∧ b = (p.getD y 0).toNat
    · rw [if_pos h, if_pos h]
    · rw [if_neg h, if_neg h]
      have hne : y0 ≠ y := fun e => h ⟨ha, by rw [hb, e]⟩
      exact ih (by omega)
theorem renTo_congr (rows : List (List Int)) (p : List Int) (n x : Nat) (f g : Nat → Nat → Int) (a b : Nat) (h : f a b = g a b) : renTo rows p n x f a b = renTo rows p n x g a b := by
  induction x with
  | zero => exact h
  | succ x ih => exact renRow_congr _ _ _ _ _ _ _ _ ih
theorem renTo_cover (rows : List (List Int)) (p : List Int) (n x : Nat) (f g : Nat → Nat → Int) (a b x0 y0 : Nat) (h0 : x0 < x) (ha : (p.getD x0 0).toNat = a) (hy : y0 < n) (hb : (p.getD y0 0).toNat = b) : renTo rows p n x f a b = renTo rows p n x g a b := by
  induction x with
  | zero => omega
  | succ x ih =>
    unfold renTo
    by_cases h : x0 = x
    · subst h
      exact renRow_hit _ _ _ _ _ _ _ _ y0 hy ha.symm hb.symm
    · exact renRow_congr _ _ _ _ _ _ _ _ (ih (by omega))

theorem unit_getD (n k : Nat) (h : k < n) : (unit n).getD k 0 = (k : Int) := by simp [unit, h]
theorem unit_length (n : Nat) : (unit n).length = n := by simp [unit]
theorem renRow_unit (rows : List (List Int)) (n x y : Nat) (f : Nat → Nat → Int) (a b : Nat) (hx : x < n) (hy : y ≤ n) (hin : ∀ i j, i < n → j < n → 0 ≤ (rows.getD i []).getD j 0 ∧ (rows.getD i []).getD j 0 < (n : Int)) :
    renRow rows (unit n) x y f a b = if a = x ∧ b < y then (rows.getD x []).getD b 0 else f a b := by
  induction y with
  | zero => rw [if_neg (by omega)]; rfl
  | succ y ih =>
    unfold renRow
    rw [ih (by omega), unit_getD n x hx, unit_getD n y (by omega), Int.toNat_natCast, Int.toNat_natCast]
    by_cases h : a = x ∧ b = y
    · rw [if_pos h, if_pos (by omega)]
      have hr := hin x y hx (by omega)
      obtain ⟨z, hz⟩ := Int.eq_ofNat_of_zero_le hr.1
      rw [h.2, hz, Int.toNat_natCast, unit_getD n z (by omega)]
    · rw [if_neg h]
      by_cases h2 : a = x ∧ b < y
      · rw [if_pos h2, if_pos (by omega)]
      · rw [if_neg h2, if_neg (by omega)]
theorem renTo_unit (rows : List (List Int)) (n x : Nat) (f : Nat → Nat → Int) (a b : Nat) (hx : x ≤ n) (hb : b < n) (hin : ∀ i j, i < n → j < n → 0 ≤ (rows.getD i []).getD j 0 ∧ (rows.getD i []).getD j 0 < (n : Int)) :
    renTo rows (unit n) n x f a b = if a < x then (rows.getD a []).getD b 0 else f a b := by
  induction x with
  | zero => rw [if_neg (by omega)]; rfl
  | succ x ih =>
    unfold renTo
    rw [renRow_unit rows n x n _ a b (by omega) (Nat.le_refl _) hin, ih (by omega)]
    by_cases h : a = x
    · subst h
      rw [if_pos ⟨rfl, hb⟩, if_pos (by omega)]
    · rw [if_neg (fun e => h e.1)]
      by_cases h2 : a < x
      · rw [if_pos h2, if_pos (by omega)]
      · rw [if_neg h2, if_neg (by omega)]
theorem grid_self (rows : List (List Int)) (n : Nat) (hn : rows.length = n) (hl : ∀ i, i < n → (rows.getD i []).length = n) : grid n (fun a b => (rows.getD a []).getD b 0) = rows := by
  apply List.ext_getElem
  · simp [grid, hn]
  · intro i h1 h2
    have hi : i < n := by omega
    have hl' := hl i hi
    have e : rows.getD i [] = rows[i] := by simp [h2]
    rw [e] at hl'
    simp only [grid, List.getElem_map, List.getElem_range]
    apply List.ext_getElem
    · simp [hl']
    · intro j h3 h4
      simp only [List.getElem_map, List.getElem_range]
      rw [e]
      simp [h4]
theorem renL_unit (rows : List (List Int)) (n : Nat) (hn : rows.length = n) (hl : ∀ i, i < n → (rows.getD i []).length = n) (hin : ∀ i j, i < n → j < n → 0 ≤ (rows.getD i []).getD j 0 ∧ (rows.getD i []).getD j 0 < (n : Int)) : renL rows (unit n) = rows := by
  unfold renL
  rw [hn, grid_congr n _ (fun a b => (rows.getD a []).getD b 0) (fun a b ha hb => by rw [renTo_unit rows n n _ a b (Nat.le_refl _) hb hin, if_pos ha]), grid_self rows n hn hl]
theorem renL_cover (rows : List (List Int)) (n k : Nat) (f : Nat → Nat → Int) (hn : rows.length = n) (h1 : 1 ≤ n) (h7 : n ≤ 7) (hk : k < (permsS n).length) : grid n (renTo rows ((permsS n).getD k []) n n f) = renL rows ((permsS n).getD k []) := by
  unfold renL
  rw [hn]
  refine grid_congr n _ _ (fun a b ha hb => ?_)
  have hc := (perms_isP n h1 h7 k hk).2
  obtain ⟨x0, hx0, e0⟩ := hc a ha
  obtain ⟨y0, hy0, e1⟩ := hc b hb
  exact renTo_cover rows _ n n _ _ a b x0 y0 hx0 e0 hy0 e1

/-- The least one of the table and its first k renamed ones. -/
def bestS (rows : List (List Int)) (n : Nat) : Nat → List (List Int)
  | 0 => rows
  | k + 1 => if lessT (renL rows ((permsS n).getD k [])) (bestS rows n k) then renL rows ((permsS n).getD k []) else bestS rows n k
theorem bestS_shape (rows : List (List Int)) (n k : Nat) (hn : rows.length = n) (hl : ∀ i, i < n → (rows.getD i []).length = n) : (bestS rows n k).length = n ∧ ∀ i, i < n → ((bestS rows n k).getD i []).length = n := by
  induction k with
  | zero => exact ⟨hn, hl⟩
  | succ k ih =>
    unfold bestS
    split
    · refine ⟨by rw [renL_length, hn], fun i hi => ?_⟩
      unfold renL
      rw [hn, grid_row_length n _ i hi]
    · exact ih
theorem bestS_one (rows : List (List Int)) (n : Nat) (hn : rows.length = n) (h1 : 1 ≤ n) (h7 : n ≤ 7) (hl : ∀ i, i < n → (rows.getD i []).length = n) (hin : ∀ i j, i < n → j < n → 0 ≤ (rows.getD i []).getD j 0 ∧ (rows.getD i []).getD j 0 < (n : Int)) : bestS rows n 1 = renL rows ((permsS n).getD 0 []) := by
  unfold bestS
  rw [(perms_all n h1 h7).first, renL_unit rows n hn hl hin]
  unfold bestS
  split <;> rfl
def LeastRes (rows : List (List Int)) (zs : List (List Int)) (code : Int) : Prop :=
  (Tbl rows ∧ rows.length ≤ 7 ∧ zs = bestS rows rows.length (permsS rows.length).length ∧ code = 0) ∨ (Tbl rows ∧ 7 < rows.length ∧ zs = [] ∧ code = 3) ∨ (¬ Tbl rows ∧ zs = [] ∧ code = 1)
theorem LeastRes.ex (rows : List (List Int)) : ∃ zs code, LeastRes rows zs code ∧ zs.length ≤ 1048576 ∧ ∀ i, i < zs.length → (zs.getD i []).length ≤ 1048576 := by
  by_cases h : Tbl rows
  · by_cases h7 : rows.length ≤ 7
    · have hs := bestS_shape rows rows.length (permsS rows.length).length rfl (fun i hi => h.rows i hi)
      exact ⟨_, _, .inl ⟨h, h7, rfl, rfl⟩, by omega, fun i hi => by rw [hs.2 i (by omega)]; omega⟩
    · exact ⟨_, _, .inr (.inl ⟨h, by omega, rfl, rfl⟩), by simp, fun i hi => by simp at hi⟩
  · exact ⟨_, _, .inr (.inr ⟨h, rfl, rfl⟩), by simp, fun i hi => by simp at hi⟩
end Go.Proofs.Ytljdfanebjhhmaa
namespace Go.Proofs.Ytljdfanebjhhmaa
open Go Go.RowKit
set_option maxHeartbeats 2000000

set_option maxRecDepth 100000 in
theorem renameInto_gen (g lo hi : Nat) (G : Nat → Nat) (n cu : Nat) (f : Nat → Nat → Int) (A : Option Addr) (c : Nat) (rows : List (List Int)) (D : Option Addr) (d : Nat) (p : List Int) (w0 w : World)
    (hn : rows.length = n) (hm : p.length = n) (hb : n ≤ 1048576) (hbs : ∀ i, i < rows.length → (rows.getD i []).length = n) (hin : ∀ i j, i < n → j < n → 0 ≤ (rows.getD i []).getD j 0 ∧ (rows.getD i []).getD j 0 < (n : Int)) (hpin : ∀ x ∈ p, 0 ≤ x ∧ x < (n : Int))
    (hr : Rd2 w0 A rows) (hp : ∀ w3, Touch lo hi w w3 → Rd w3 D p) (hbe : Below w0.heap.size w0 w) (hlo : w0.heap.size ≤ lo) (hG : ∀ i, i < n → lo ≤ G i ∧ G i < hi) (htab : TabF 33 2 w g G n f) :
    Calls Try.prog 89 #[.slice (some ⟨g, 0, none⟩) n cu, .slice A n c, .slice D n d] w fun e w' => e = .returned (.tuple #[]) ∧ Touch lo hi w w' ∧ TabF 33 2 w' g G n (renTo rows p n n f) ∧ w'.heap.size = w.heap.size := by
  have HN := hide hn
  have HM := hide hm
  have HBE := hide hbe
  have HT := hide htab
  clear hn hm hbe htab
  go_enter Try.func89, Try.ntmps89
  go_wp2_with fail
  go_loopw [12] (fun i wr => ∃ x : Nat, x ≤ n ∧ i = .int .i64 x ∧ Touch lo hi w wr ∧ TabF 33 2 wr g G n (renTo rows p n x f) ∧ wr.heap.size = w.heap.size) (fun i _ => n - (intOf i).toNat)
  case atStart => exact ⟨0, Nat.zero_le _, rfl, Touch.refl _ _ _, HT.out, rfl⟩
  case round =>
    obtain ⟨x, hx, rfl, ht, htab, hsz⟩ := hrel
    have HTC := hide ht
    have HT2 := hide htab
    have HS2 := hide hsz
    clear ht htab hsz
    by_cases hlt : x < n
    · have HB2 : Hid (Below w0.heap.size w0 wr) := hide (HTC.out.below HBE.out HBE.out.size hlo)
      obtain ⟨b, o, rfl, hbw, hc⟩ := hr (by have := HN.out; omega)
      obtain ⟨Ax, cx, hcell, hrd⟩ := hc x (by have := HN.out; omega)
      have hl := hbs x (by have := HN.out; omega)
      obtain ⟨r, hx'⟩ : ∃ r, r = rows.getD x [] := ⟨_, rfl⟩
      rw [← hx'] at hcell hrd hl
      rw [hl] at hcell
      have HX := hide hx'
      have HL := hide hl
      have hcell' : wr.cell? ⟨b, o + x, none⟩ = some (.slice Ax n cx) := (HB2.out.cell (p := ⟨b, o + x, none⟩) hbw).trans hcell
      obtain ⟨px, hpx, hpxn⟩ := elem_range hpin (i := x) (by have := HM.out; omega)
      have HPX := hide hpx
      obtain ⟨b3, o3, rfl, _, _⟩ := hp wr HTC.out (by have := HM.out; omega)
      have HP3 := hide hp
      have HHIN := hide hin
      have HPIN := hide hpin
      have HHG := hide hG
      clear hx' hc hl hcell hbs hpx hp hin hpin hG
      have hltz : (x : Int) < n := by omega
      have hpxz : (px : Int) < n := by omega
      go_wp2_with fail
      obtain ⟨wo, rfl⟩ : ∃ wo : World, wo = wr := ⟨_, rfl⟩
      go_loopw [19] (fun i wi => ∃ y : Nat, y ≤ n ∧ i = .int .i64 y ∧ Touch lo hi w wi ∧ TabF 33 2 wi g G n (renRow rows p x y (renTo rows p n x f)) ∧ wi.heap.size = w.heap.size) (fun i _ => n - (intOf i).toNat)
      case atStart => exact ⟨0, Nat.zero_le _, rfl, HTC.out, HT2.out, HS2.out⟩
      case round =>
        obtain ⟨y, hy, rfl, hti, htabi, hsi⟩ := hrel
        have HTI := hide hti
        have HTB := hide htabi
        have HSI := hide hsi
        clear hti htabi hsi
        by_cases hlty : y < n
        · have HB3 : Hid (Below w0.heap.size w0 wr) := hide (HTI.out.below HBE.out HBE.out.size hlo)
          obtain ⟨b2, o2, rfl, hbw2, hc2⟩ := hrd (by have := HL.out; omega)
          have hv : wr.cell? ⟨b2, o2 + y, none⟩ = some (.int .i64 (r.getD y 0)) := (HB3.out.cell (p := ⟨b2, o2 + y, none⟩) hbw2).trans (hc2 y (by have := HL.out; omega))
          have hzr := HHIN.out x y hlt hlty
          rw [← HX.out] at hzr
          obtain ⟨z, hz⟩ := Int.eq_ofNat_of_zero_le hzr.1
          rw [hz] at hv
          have hzn : z < n := by have := hzr.2; omega
          have HZ := hide hz
          obtain ⟨py, hpy, hpyn⟩ := elem_range HPIN.out (i := y) (by have := HM.out; omega)
          have HPY := hide hpy
          obtain ⟨q, hq⟩ : ∃ q, p.getD z 0 = q := ⟨_, rfl⟩
          have HQ := hide hq
          obtain ⟨b4, o4, e0, _, hc4⟩ := HP3.out wr HTI.out (by have := HM.out; omega)
          cases e0
          have e1 : wr.cell? ⟨b3, o3 + x, none⟩ = some (.int .i64 px) := by rw [← HPX.out]; exact hc4 x (by have := HM.out; omega)
          have e2 : wr.cell? ⟨b3, o3 + y, none⟩ = some (.int .i64 py) := by rw [← hpy]; exact hc4 y (by have := HM.out; omega)
          have e3 : wr.cell? ⟨b3, o3 + z, none⟩ = some (.int .i64 q) := by rw [← hq]; exact hc4 z (by have := HM.out; omega)
          obtain ⟨C, htop⟩ := HTB.out.top
          have e4 : wr.cell? ⟨g, px, none⟩ = some (.slice (some ⟨G px, 0, none⟩) n (C px)) := htop.cell hpxn
          have e5 := (HTB.out.row px hpxn).cell hpyn
          obtain ⟨old, hold⟩ : ∃ q, renRow rows p x y (renTo rows p n x f) px py = q := ⟨_, rfl⟩
          rw [hold] at e5
          have e6 : wr.frozen? ⟨G px, py, none⟩ = false := (HTB.out.row px hpxn).frozen py
          clear hz hzr hold hc2 hrd hcell' htop hpy hq hc4
          have hltyz : (y : Int) < n := by omega
          have hpyz : (py : Int) < n := by omega
          have hzz : (z : Int) < n := by omega
          go_wp2_with fail
          go_still_tail 16, (by kernel_rfl)
          change wpList _ _ _ _ _ wr.drew
          go_wp2_with fail
          go_roundw
          case rel =>
            have hset := HTB.out.set px py q hpxn
            refine ⟨y + 1, by omega, by go_num, ?_, ?_, by have := HSI.out; simpa [World.setCell, World.drew] using this⟩
            · have h1 := HTI.out
              have hg := HHG.out px hpxn
              exact ⟨h1.os, h1.tape, h1.output, by have := h1.size; simpa [World.setCell, World.drew] using this, fun i hi hne => (Below.heap_setCell _ _ _ _ (by show i ≠ G px; omega)).trans (h1.block i hi hne)⟩
            · have h2 : TabF 33 2 ((wr.setCell ⟨G px, py, none⟩ (.int .i64 q)).drew) g G n (fun a b => if a = px ∧ b = py then q else renRow rows p x y (renTo rows p n x f) a b) := ⟨hset.top, hset.row, hset.ne, hset.inj⟩
              refine h2.congr (fun a b _ _ => ?_)
              have e1 : (p.getD x 0).toNat = px := by rw [HPX.out]; simp
              have e2 : (p.getD y 0).toNat = py := by rw [HPY.out]; simp
              have e3 : ((rows.getD x []).getD y 0).toNat = z := by rw [← HX.out, HZ.out]; simp
              simp only [renRow]
              rw [e1, e2, e3, HQ.out]
          case measure => simp [intOf]; omega
        · have hyn : y = n := by omega
          subst hyn
          go_wp2_with fail
          go_roundw
          case rel => exact ⟨x + 1, by omega, by go_num, HTI.out, HTB.out, HSI.out⟩
          case measure => simp [intOf]; omega
    · have hxn : x = n := by omega
      subst hxn
      go_wp2_with fail
      go_end0
      exact ⟨rfl, HTC.out, HT2.out, HS2.out⟩
end Go.Proofs.Ytljdfanebjhhmaa
namespace Go.Proofs.Ytljdfanebjhhmaa
open Go Go.RowKit
set_option maxHeartbeats 2000000

theorem l01Perms_any (n : Nat) (w : World) (h1 : 1 ≤ n) (h7 : n ≤ 7) :
    Calls Try.prog 85 #[.int .i64 n] w fun e w' => ∃ A' c', e = .returned (.slice A' (permsS n).length c') ∧ Below w.heap.size w w' ∧ Obj2 33 2 w.heap.size w'.heap.size w' A' (permsS n) := by
  have HP := hide (perms_all n h1 h7)
  go_enter Try.func85, Try.ntmps85
  go_wp2_with fail
  have hal : Below w.heap.size w ((w.alloc (.cells #[] 2)).alloc (.cells #[] 33)) := ((Below.refl _ _).alloc (Nat.le_refl _) _).alloc (by simp) _
  have HAL := hide hal
  have hlst : LstV 33 2 w.heap.size ((w.alloc (.cells #[] 2)).alloc (.cells #[] 33)) (.slice (some ⟨w.heap.size + 1, 0, none⟩) 0 0) [] [] := by
    have h := LstV.start (w.alloc (.cells #[] 2)) 33 2
    obtain ⟨h1, h2, h3⟩ := h
    obtain ⟨h4, h5⟩ := h1
    refine ⟨⟨h4, ?_⟩, fun i hi => by simp at hi, fun i j u u' g _ hu => by simp at hu⟩
    rcases h5 with ⟨h5, _⟩ | ⟨g, cap, cur, hv, hg, r⟩
    · cases h5
    · exact .inr ⟨g, cap, cur, by simpa using hv, by simp at hg; omega, r⟩
  have HL := hide hlst
  have hob : Obj1 2 w.heap.size ((w.alloc (.cells #[] 2)).alloc (.cells #[] 33)).heap.size ((w.alloc (.cells #[] 2)).alloc (.cells #[] 33)) (some ⟨w.heap.size, 0, none⟩) [] :=
    .inr ⟨w.heap.size, rfl, Nat.le_refl _, by simp; omega, #[], (Below.heap_alloc _ _ _ (by simp)).trans (heap_alloc_new _ _), fun i hi => by simp at hi⟩
  have HO := hide hob
  clear hal hlst hob
  refine (grow_any w.heap.size n n 0 0 w.heap.size [] _ [] [] _ rfl (by omega) (by omega) (by simp; omega) HO.out HL.out (fun i u g hu => by simp at hu) (by have := HP.out.most; show 0 + (permsS n).length ≤ _; omega)).mono ?_
  rintro e w1 ⟨v', vals', rfl, hk, hb, hB, hl⟩
  have HL1 := hide hl
  have HB1 := hide hb
  clear hk hb hl
  go_wp2_with fail
  go_ret
  obtain ⟨A', c', hv, hobj⟩ := HL1.out.shape
  exact ⟨A', c', by rw [show [] ++ growS n n [] = permsS n from rfl] at hv; rw [← hv]; rfl, HAL.out.trans HB1.out, hobj⟩
end Go.Proofs.Ytljdfanebjhhmaa
