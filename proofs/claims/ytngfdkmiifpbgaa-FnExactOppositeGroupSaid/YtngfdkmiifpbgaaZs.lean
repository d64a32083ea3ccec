import Derived.Test.YtngfdkmiifpbgaaZp
import Derived.Test.YtngfdkmiifpbgaaProg
namespace Go.Proofs.Ytngfdkmiifpbgaa
open Go Go.RowKit
set_option maxHeartbeats 1000000

/-- Between the rounds: what has been written after x rows and y values of the next one. -/
def turnTo (rows : List (List Int)) (x y : Nat) : Nat → Nat → Int := fun a b => if b < x ∨ (b = x ∧ a < y) then (rows.getD b []).getD a 0 else 0

theorem turnTo_set (rows : List (List Int)) (x y : Nat) (v : Int) (hv : (rows.getD x []).getD y 0 = v) : ∀ a b, (if a = y ∧ b = x then v else turnTo rows x y a b) = turnTo rows x (y + 1) a b := by
  intro a b
  unfold turnTo
  by_cases h : a = y ∧ b = x
  · obtain ⟨rfl, rfl⟩ := h
    rw [if_pos ⟨rfl, rfl⟩, if_pos (.inr ⟨rfl, by omega⟩), hv]
  · rw [if_neg h]
    by_cases h2 : b < x ∨ (b = x ∧ a < y)
    · rw [if_pos h2, if_pos (by omega)]
    · rw [if_neg h2, if_neg (by omega)]

theorem turnTo_next (rows : List (List Int)) (x n : Nat) : ∀ a b, a < n → turnTo rows x n a b = turnTo rows (x + 1) 0 a b := by
  intro a b ha
  unfold turnTo
  by_cases h2 : b < x ∨ (b = x ∧ a < n)
  · rw [if_pos h2, if_pos (by omega)]
  · rw [if_neg h2, if_neg (by omega)]

theorem turnI_any (A : Option Addr) (n c : Nat) (rows : List (List Int)) (w : World) (hn : rows.length = n) (hb : n ≤ 1048576) (hbs : ∀ i, i < rows.length → (rows.getD i []).length = n) (hr : Rd2 w A rows) :
    Calls Try.prog 66 #[.slice A n c] w fun e w' => ∃ A' c', e = .returned (.slice A' n c') ∧ Below w.heap.size w w' ∧ Obj2 42 2 w.heap.size w'.heap.size w' A' (turnL rows) := by
  have HN := hide hn
  clear hn
  go_enter Try.func66, Try.ntmps66
  go_wp2_with fail
  refine (newTable_any n _ hb).mono ?_
  rintro e w1 ⟨rfl, hb1, htab, hsz⟩
  have HB1 := hide hb1
  have HT := hide htab
  have HS := hide hsz
  clear hb1 htab hsz
  go_wp2_with fail
  go_loopw [13] (fun i wr => ∃ x : Nat, x ≤ n ∧ i = .int .i64 x ∧ Below w.heap.size w wr ∧ TabF 42 2 wr w.heap.size (fun i => w.heap.size + 1 + i) n (turnTo rows x 0) ∧ wr.heap.size = w.heap.size + 1 + n) (fun i _ => n - (intOf i).toNat)
  case atStart => exact ⟨0, Nat.zero_le _, rfl, HB1.out, HT.out.congr (fun a b _ _ => by simp [turnTo]), HS.out⟩
  case round =>
    obtain ⟨x, hx, rfl, hbe, htab, hsz⟩ := hrel
    have HB := hide hbe
    have HT2 := hide htab
    have HS2 := hide hsz
    clear hbe htab hsz
    by_cases hlt : x < n
    · obtain ⟨b, o, rfl, hbw, hc⟩ := hr (by have := HN.out; omega)
      obtain ⟨Ax, cx, hcell, hrd⟩ := hc x (by have := HN.out; omega)
      have hl := hbs x (by have := HN.out; omega)
      obtain ⟨r, hx'⟩ : ∃ r, r = rows.getD x [] := ⟨_, rfl⟩
      rw [← hx'] at hcell hrd hl
      rw [hl] at hcell
      have HX := hide hx'
      have HL := hide hl
      have hcell' : wr.cell? ⟨b, o + x, none⟩ = some (.slice Ax n cx) := (HB.out.cell (p := ⟨b, o + x, none⟩) hbw).trans hcell
      have hrd' : Rd w Ax r := hrd
      clear hx' hc hl hcell hrd hbs
      have hltz : (x : Int) < n := by omega
      go_wp2_with fail
      obtain ⟨wo, rfl⟩ : ∃ wo : World, wo = wr := ⟨_, rfl⟩
      go_loopw [20] (fun i wi => ∃ y : Nat, y ≤ n ∧ i = .int .i64 y ∧ Below w.heap.size w wi ∧ TabF 42 2 wi w.heap.size (fun i => w.heap.size + 1 + i) n (turnTo rows x y) ∧ wi.heap.size = w.heap.size + 1 + n) (fun i _ => n - (intOf i).toNat)
      case atStart => exact ⟨0, Nat.zero_le _, rfl, HB.out, HT2.out, HS2.out⟩
      case round =>
        obtain ⟨y, hy, rfl, hbi, hti, hsi⟩ := hrel
        have HBI := hide hbi
        have HTI := hide hti
        have HSI := hide hsi
        clear hbi hti hsi
        by_cases hlty : y < n
        · obtain ⟨b2, o2, rfl, hbw2, hc2⟩ := hrd' (by have := HL.out; omega)
          have hv : wr.cell? ⟨b2, o2 + y, none⟩ = some (.int .i64 (r.getD y 0)) := (HBI.out.cell (p := ⟨b2, o2 + y, none⟩) hbw2).trans (hc2 y (by have := HL.out; omega))
          obtain ⟨z, hz⟩ : ∃ z, r.getD y 0 = z := ⟨_, rfl⟩
          rw [hz] at hv
          have HZ := hide hz
          obtain ⟨C, htop⟩ := HTI.out.top
          have ho : wr.cell? ⟨w.heap.size, y, none⟩ = some (.slice (some ⟨w.heap.size + 1 + y, 0, none⟩) n (C y)) := htop.cell hlty
          clear htop
          have hi1 : wr.cell? ⟨w.heap.size + 1 + y, x, none⟩ = some (.int .i64 (turnTo rows x y y x)) := (HTI.out.row y hlty).cell hlt
          obtain ⟨old, hold⟩ : ∃ q, turnTo rows x y y x = q := ⟨_, rfl⟩
          rw [hold] at hi1
          have hi2 : wr.frozen? ⟨w.heap.size + 1 + y, x, none⟩ = false := (HTI.out.row y hlty).frozen x
          clear hz hold hc2 hrd' hcell'
          have hltyz : (y : Int) < n := by omega
          go_wp2_with fail
          go_roundw
          case rel =>
            refine ⟨y + 1, by omega, by go_num, HBI.out.setCell (p := ⟨w.heap.size + 1 + y, x, none⟩) (by show w.heap.size ≤ w.heap.size + 1 + y; omega) _, ?_, by have := HSI.out; simpa [World.setCell] using this⟩
            refine (HTI.out.set y x z hlty).congr (fun a b _ _ => turnTo_set rows x y z ?_ a b)
            rw [← HX.out]
            exact HZ.out
          case measure => simp [intOf]; omega
        · have hyn : y = n := by omega
          subst hyn
          go_wp2_with fail
          go_roundw
          case rel => exact ⟨x + 1, by omega, by go_num, HBI.out, HTI.out.congr (fun a b ha _ => turnTo_next rows x y a b ha), HSI.out⟩
          case measure => simp [intOf]; omega
    · have hxn : x = n := by omega
      subst hxn
      go_wp2_with fail
      go_ret
      refine ⟨_, _, rfl, HB.out, ?_⟩
      have h := HT2.out.congr (f' := fun a b => (rows.getD b []).getD a 0) (fun a b _ hb => by simp [turnTo, hb])
      have e := HN.out
      unfold turnL
      rw [e]
      exact h.obj (Nat.le_refl _) (by have := HS2.out; omega) (fun i hi => by have := HS2.out; omega)
end Go.Proofs.Ytngfdkmiifpbgaa
namespace Go.Proofs.Ytngfdkmiifpbgaa
open Go Go.RowKit
set_option maxHeartbeats 1000000

def colL (rows : List (List Int)) (j : Nat) : List Int := (List.range rows.length).map fun (x : Nat) => (rows.getD x []).getD j 0
theorem colL_length (rows : List (List Int)) (j : Nat) : (colL rows j).length = rows.length := by simp [colL]
theorem colL_getD (rows : List (List Int)) (j k : Nat) (h : k < rows.length) : (colL rows j).getD k 0 = (rows.getD k []).getD j 0 := by simp [colL, h]
theorem turnL_row (rows : List (List Int)) (j : Nat) (h : j < rows.length) : (turnL rows).getD j [] = colL rows j := by
  unfold turnL
  rw [grid_row _ _ _ h]
  rfl

theorem ints_take_succ (zs : List Int) (k : Nat) (y : Int) (h : k < zs.length) (hy : zs.getD k 0 = y) : ints (zs.take k) ++ [.int .i64 y] = ints (zs.take (k + 1)) := by
  rw [List.take_succ_eq_append_getElem h]
  have : zs[k] = y := by simpa [h] using hy
  simp [ints, this]

theorem colInfo : (Try.prog.info? 2).map (fun i => (i.zero, i.size, i.bytes)) = some (some (.int .i64 0), 1, 8) := by kernel_rfl
theorem colsInfo2 : (Try.prog.info? 42).map (fun i => (i.zero, i.size, i.bytes)) = some (some (.slice none 0 0), 1, 24) := by kernel_rfl

theorem row_empty (w : World) (t : TypeId) : (w.alloc (.cells #[] t)).ownsRow w.heap.size t 1 (.slice (some ⟨w.heap.size, 0, none⟩) 0 0) 0 [] :=
  ⟨by simp, .inr ⟨w.heap.size, 0, #[], rfl, Nat.le_refl _, heap_alloc_new _ _, Nat.le_refl _, by unfold maxLen; omega, by simp, by simp⟩⟩

theorem one_new {w : World} {v : Value} {t : TypeId} : ∀ j u, [v][j]? = some u → (w.alloc (.cells #[v] t)).cell? ((⟨w.heap.size, 0, none⟩ : Addr).add j) = some u := by
  intro j u hj
  match j, hj with
  | 0, hj => simp at hj; subst hj; simp [Addr.add, World.cell?_alloc_new]

theorem l01Column_any (A : Option Addr) (n c m j : Nat) (rows : List (List Int)) (w : World) (hn : rows.length = n) (hb : n ≤ 1048576) (hm : m ≤ 1048576) (hbs : ∀ i, i < rows.length → (rows.getD i []).length = m) (hj : j < m) (hr : Rd2 w A rows) :
    Calls Try.prog 96 #[.slice A n c, .int .i64 j] w fun e w' => ∃ A' c', e = .returned (.slice A' n c') ∧ Below w.heap.size w w' ∧ Res 2 w.heap.size w' A' (colL rows j) := by
  have HN := hide hn
  have HZ : Hid ((colL rows j).length = n) := hide ((colL_length rows j).trans hn)
  clear hn
  obtain ⟨i0, hi, hz0, hz1, hz2⟩ := info_parts colInfo
  go_enter Try.func96, Try.ntmps96
  go_wp2_with fail
  go_loopw [5, 6] (fun v i wr => ∃ k : Nat, k ≤ n ∧ i = .int .i64 k ∧ Below w.heap.size w wr ∧ wr.ownsRow w.heap.size 2 1 v k (ints ((colL rows j).take k)) ∧ w.heap.size ≤ wr.heap.size) (fun _ i _ => n - (intOf i).toNat)
  case atStart => exact ⟨0, Nat.zero_le _, rfl, (Below.refl _ _).alloc (Nat.le_refl _) _, by simpa [ints] using row_empty w _, by simp⟩
  case round =>
    obtain ⟨k, hk, rfl, hbe, hown, hsz⟩ := hrel
    have HB := hide hbe
    have HO := hide hown
    clear hbe hown
    by_cases hlt : k < n
    · obtain ⟨b, o, rfl, hbw, hc⟩ := hr (by have := HN.out; omega)
      obtain ⟨Ak, ck, hcell, hrd⟩ := hc k (by have := HN.out; omega)
      have hl := hbs k (by have := HN.out; omega)
      obtain ⟨r, hx'⟩ : ∃ r, r = rows.getD k [] := ⟨_, rfl⟩
      rw [← hx'] at hcell hrd hl
      rw [hl] at hcell
      have HX := hide hx'
      have HL := hide hl
      have hcell' : wr.cell? ⟨b, o + k, none⟩ = some (.slice Ak m ck) := (HB.out.cell (p := ⟨b, o + k, none⟩) hbw).trans hcell
      obtain ⟨b2, o2, rfl, hbw2, hc2⟩ := hrd (by omega)
      have hc3 : wr.cell? ⟨b2, o2 + j, none⟩ = some (.int .i64 (r.getD j 0)) := (HB.out.cell (p := ⟨b2, o2 + j, none⟩) hbw2).trans (hc2 j (by omega))
      obtain ⟨y, hy'⟩ : ∃ y, r.getD j 0 = y := ⟨_, rfl⟩
      rw [hy'] at hc3
      have HY : Hid ((colL rows j).getD k 0 = y) := hide (by rw [colL_getD rows j k (by have := HN.out; omega), ← HX.out]; exact hy')
      clear hx' hc hc2 hy' hcell hrd hl hbs hr
      have hltz : (k : Int) < n := by omega
      have hjz : (j : Int) < m := by omega
      go_wp2_with (at_builtin; refine wpList_append_own _ rfl _ _ 42 rfl w.heap.size 2 i0 (.int .i64 0) 1 8 Try.underlying42 hi hz0 hz1 hz2 rfl (by decide) _ _ _ rfl (HO.out.alloc _) ⟨wr.heap.size, 0, none⟩ 1 1 [.int .i64 y] rfl rfl ?c1 ?c2 ?c3 ?c4 ?c5 ?_)
      case c1 => exact one_new
      case c2 => intro u hu; simp at hu; subst hu; rfl
      case c3 => unfold maxLen; omega
      case c4 => omega
      case c5 => simp; omega
      intro v' w1 hown' hgrow _
      have HO' := hide hown'
      have HG := hide hgrow
      clear hown' hgrow
      go_wp2_with fail
      go_roundw
      case rel =>
        have hB1 : Below w.heap.size w w1 := (HB.out.alloc hsz _).grown HG.out (by simp; omega) (fun g hg => (HO.out.alloc (.cells #[.int .i64 y] 2)).lt g hg |>.1)
        refine ⟨k + 1, by omega, by go_num, hB1, ?_, by have := hB1.size; omega⟩
        have h := HO'.out
        rw [ints_take_succ _ k y (by have := HZ.out; omega) HY.out] at h
        exact h
      case measure => simp [intOf]; omega
    · have hkn : k = n := by omega
      subst hkn
      go_wp2_with fail
      have h := HO.out
      rw [List.take_of_length_le (by have := HZ.out; omega)] at h
      go_ret
      obtain ⟨A', c', hv, hres⟩ := own_shape h
      exact ⟨A', c', by rw [← hv]; rfl, HB.out, hres⟩

theorem l01Turn_any (A : Option Addr) (n c : Nat) (rows : List (List Int)) (w : World) (hn : rows.length = n) (hb : n ≤ 1048576) (hbs : ∀ i, i < rows.length → (rows.getD i []).length = n) (hr : Rd2 w A rows) :
    Calls Try.prog 65 #[.slice A n c] w fun e w' => ∃ A' c', e = .returned (.slice A' n c') ∧ Below w.heap.size w w' ∧ Obj2 42 2 w.heap.size w'.heap.size w' A' (turnL rows) := by
  have HN := hide hn
  have HZ : Hid ((turnL rows).length = n) := hide ((turnL_length rows).trans hn)
  clear hn
  obtain ⟨i0, hi, hz0, hz1, hz2⟩ := info_parts colsInfo2
  go_enter Try.func65, Try.ntmps65
  go_wp2_with fail
  go_loopw [3, 4] (fun v i wr => ∃ (k : Nat) (vals : List Value), k ≤ n ∧ i = .int .i64 k ∧ Below w.heap.size w wr ∧ LstV 42 2 w.heap.size wr v ((turnL rows).take k) vals ∧ w.heap.size ≤ wr.heap.size) (fun _ i _ => n - (intOf i).toNat)
  case atStart => exact ⟨0, [], Nat.zero_le _, rfl, (Below.refl _ _).alloc (Nat.le_refl _) _, by simpa using LstV.start w _ _, by simp⟩
  case round =>
    obtain ⟨k, vals, hk, rfl, hbe, hlst, hsz⟩ := hrel
    have HB := hide hbe
    have HL := hide hlst
    clear hbe hlst
    by_cases hlt : k < n
    · have hltz : (k : Int) < n := by omega
      go_wp2_with fail
      refine (l01Column_any _ _ _ n k rows _ HN.out hb hb hbs hlt (hr.later HB.out)).mono ?_
      rintro e w2 ⟨A2, c2, rfl, hb2, hres⟩
      have HB2 := hide hb2
      have HR2 := hide hres.obj
      clear hb2 hres
      have HL2 := hide (HL.out.later HB2.out)
      have hlen : ((turnL rows).take k).length = k := by have := HZ.out; simp; omega
      have hown : w2.ownsRow w.heap.size 42 1 u3 k vals := by have := HL2.out.own; rwa [hlen] at this
      have HO := hide hown
      have hs2 : w.heap.size ≤ w2.heap.size := by have := HB2.out.size; omega
      clear hown hlen
      go_wp2_with (at_builtin; refine wpList_append_own _ rfl _ _ 22 rfl w.heap.size 42 i0 (.slice none 0 0) 1 24 Try.underlying22 hi hz0 hz1 hz2 rfl (by decide) _ _ _ rfl (HO.out.alloc _) ⟨w2.heap.size, 0, none⟩ 1 1 [.slice A2 n c2] rfl rfl ?c1 ?c2 ?c3 ?c4 ?c5 ?_)
      case c1 => exact one_new
      case c2 => intro u hu; simp at hu; subst hu; rfl
      case c3 => unfold maxLen; omega
      case c4 => omega
      case c5 => simp; omega
      intro v' w3 hown' hgrow _
      have HO' := hide hown'
      have HG := hide hgrow
      clear hown' hgrow
      go_wp2_with fail
      go_roundw
      case rel =>
        have hB3 : Below w.heap.size w w3 := ((HB.out.trans (HB2.out.mono hsz)).alloc hs2 _).grown HG.out (by simp; omega) (fun g hg => (HO.out.alloc (.cells #[.slice A2 n c2] 42)).lt g hg |>.1)
        have hN := HN.out
        have hlen : ((turnL rows).take k).length = k := by have := HZ.out; simp; omega
        have hrow : (turnL rows).getD k [] = colL rows k := turnL_row rows k (by omega)
        have hcl : (colL rows k).length = n := by rw [colL_length]; exact hN
        have hpush := LstV.push (tmp := .cells #[.slice A2 n c2] 42) (A := A2) (c := c2) (r := colL rows k) (w1 := w3) (v' := v') (by decide) hsz HL.out HB2.out HR2.out (by rw [hlen, hcl]; exact HO'.out) HG.out
        refine ⟨k + 1, vals ++ [.slice A2 (colL rows k).length c2], by omega, by go_num, hB3, ?_, by have := hB3.size; omega⟩
        have e : (turnL rows).take (k + 1) = (turnL rows).take k ++ [colL rows k] := by
          have hl : k < (turnL rows).length := by have := HZ.out; omega
          rw [List.take_succ_eq_append_getElem hl, ← hrow]
          simp [hl]
        rw [e]
        exact hpush
      case measure => simp [intOf]; omega
    · have hkn : k = n := by omega
      subst hkn
      go_wp2_with fail
      have h := HL.out
      rw [List.take_of_length_le (by have := HZ.out; omega)] at h
      go_ret
      obtain ⟨A', c', hv, hobj⟩ := h.shape
      have hz := HZ.out
      exact ⟨A', c', by rw [hz] at hv; rw [← hv]; rfl, HB.out, hobj⟩
end Go.Proofs.Ytngfdkmiifpbgaa
