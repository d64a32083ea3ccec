import Derived.Test.YtchpclgkinehhaaZx
import Derived.Test.YtchpclgkinehhaaZt
import Derived.Test.YtchpclgkinehhaaZc
namespace Go.Proofs.Ytchpclgkinehhaa
open Go Go.RowKit
set_option maxHeartbeats 1000000

def colK (rows : List (List Int)) (j : Nat) : List Int := (List.range rows.length).map fun (x : Nat) => (rows.getD x []).getD j 0
theorem colK_length (rows : List (List Int)) (j : Nat) : (colK rows j).length = rows.length := by simp [colK]
theorem colK_getD (rows : List (List Int)) (j k : Nat) (h : k < rows.length) : (colK rows j).getD k 0 = (rows.getD k []).getD j 0 := by simp [colK, h]
theorem turnL_colK (rows : List (List Int)) (j : Nat) (h : j < rows.length) : (turnL rows).getD j [] = colK rows j := by
  unfold turnL
  rw [grid_row _ _ _ h]
  rfl

set_option maxRecDepth 100000 in
theorem ltS_any (A : Option Addr) (n c : Nat) (f : List (List Int)) (r : Bool) (w : World) (hn : f.length = n) (ht : Tbl f) (hr : Rd2 w A f) (hrc : r = true ↔ LtF f) :
    Calls Try.prog 70 #[.slice A n c] w fun e w' => e = .returned (.bool r) ∧ Below w.heap.size w w' := by
  have h1 : 1 ≤ n := by rw [← hn]; exact ht.1
  have h12 : n ≤ 12 := by rw [← hn]; exact ht.2.1
  obtain ⟨b, o, rfl, hb, hc⟩ := ht.cells hr hn
  have HC := hide hc
  have HN := hide hn
  have HTB := hide ht
  have HRC : Hid (r = true ↔ ∀ y, y < n → Prm (colK f y)) := hide (by
    rw [hrc]
    unfold LtF AllPrm
    rw [turnL_length, hn]
    exact ⟨fun h y hy => by rw [← turnL_colK f y (by omega)]; exact h y hy, fun h y hy => by rw [turnL_colK f y (by omega)]; exact h y hy⟩)
  obtain ⟨i0, hi, hz0, hz1, hz2⟩ := info_parts kqInfo
  clear hn ht hr hc hrc
  go_enter Try.func70, Try.ntmps70
  go_wp2_with fail
  go_loopw [3] (fun i wr => ∃ y : Nat, y ≤ n ∧ i = .int .i64 y ∧ Below w.heap.size w wr ∧ ∀ i, i < y → Prm (colK f i)) (fun i _ => n - (intOf i).toNat)
  case atStart => exact ⟨0, Nat.zero_le _, rfl, Below.refl _ _, fun i hi => absurd hi (Nat.not_lt_zero _)⟩
  case round =>
    obtain ⟨y, hy, rfl, hbe, hall⟩ := hrel
    have HB := hide hbe
    have HALL := hide hall
    clear hbe hall
    by_cases hlty : y < n
    · have hyz : (y : Int) < n := by omega
      have HCL : Hid ((colK f y).length = n) := hide ((colK_length f y).trans HN.out)
      have hlo := HB.out.size
      have HE0 := hide (kq_empty wr 2)
      have HBA := hide (HB.out.alloc HB.out.size (Obj.cells #[] 2))
      go_wp2_with fail
      obtain ⟨L0, hL0⟩ : ∃ L0, wr.heap.size = L0 := ⟨_, rfl⟩
      rw [hL0] at hlo
      rw [hL0] at HE0 ⊢
      have HL0 := hide hL0
      clear hL0
      go_loopw [4, 5] (fun v i wi => ∃ k : Nat, k ≤ n ∧ i = .int .i64 k ∧ Below w.heap.size w wi ∧ wi.ownsRow L0 2 1 v k (ints ((colK f y).take k)) ∧ L0 ≤ wi.heap.size) (fun _ i _ => n - (intOf i).toNat)
      case atStart => exact ⟨0, Nat.zero_le _, rfl, HBA.out, by simpa [ints] using HE0.out, by have := HL0.out; simp; omega⟩
      case round =>
        obtain ⟨k, hk, rfl, hbi, hown, hsz⟩ := hrel
        have HBI := hide hbi
        have HO := hide hown
        clear hbi hown
        by_cases hlt : k < n
        · obtain ⟨bx, ox, cx, r1, r2, r3⟩ := HC.out k hlt
          have e1 := r3 y hlty
          obtain ⟨u, hu⟩ : ∃ u, ap f k y = u := ⟨_, rfl⟩
          rw [hu] at e1
          have HU : Hid ((colK f y).getD k 0 = (u : Int)) := hide (by rw [colK_getD f y k (by have := HN.out; omega), HTB.out.ap_eq HN.out hlt hlty, hu])
          replace r1 := (HBI.out.cell (p := ⟨b, o + k, none⟩) hb).trans r1
          replace e1 := (HBI.out.cell (p := ⟨bx, ox + y, none⟩) r2).trans e1
          clear r3 hu
          have hltz : (k : Int) < n := by omega
          go_wp2_with (at_builtin; refine wpList_append_own _ rfl _ _ 31 rfl L0 2 i0 (.int .i64 0) 1 8 Try.underlying31 hi hz0 hz1 hz2 rfl (by decide) _ _ _ rfl (HO.out.alloc _) ⟨_, 0, none⟩ 1 1 [.int .i64 (u : Int)] rfl rfl ?c1 ?c2 ?c3 ?c4 ?c5 ?_)
          case c1 => exact kq_new
          case c2 => intro u hu; simp at hu; subst hu; rfl
          case c3 => unfold maxLen; omega
          case c4 => omega
          case c5 => simp; omega
          intro v' w1 hown' hgrow _
          have HO' := hide hown'
          have HG := hide hgrow
          clear hown' hgrow
          go_wp2_with fail
          go_roundw
          case rel =>
            have hB1 : Below w.heap.size w w1 := (HBI.out.alloc (by omega) _).grown HG.out (by simp; omega) (fun g hg => by have h := ((HO.out.alloc (.cells #[.int .i64 (u : Int)] 2)).lt g hg).1; omega)
            have hB2 : Below L0 (wr.alloc (.cells #[.int .i64 (u : Int)] 2)) w1 := (Below.refl _ _).grown HG.out (by simp; omega) (fun g hg => ((HO.out.alloc (.cells #[.int .i64 (u : Int)] 2)).lt g hg).1)
            refine ⟨k + 1, by omega, by go_num, hB1, ?_, by have := hB2.size; simp at this; omega⟩
            have h := HO'.out
            rw [kq_take _ k (u : Int) (by have := HCL.out; omega) HU.out] at h
            exact h
          case measure => simp [intOf]; omega
        · have hkn : k = n := by omega
          subst hkn
          have h := HO.out
          rw [List.take_of_length_le (by have := HCL.out; omega)] at h
          obtain ⟨A', c', hv, hres⟩ := own_shape h
          have HRES := hide hres
          subst hv
          clear h hres HO
          by_cases hp : Prm (colK f y)
          · have HP := hide hp
            clear hp
            go_wp2_with fail
            refine (prmS_below _ _ _ (colK f y) true _ HCL.out (by omega) HRES.out.rd (by simp [HP.out])).mono ?_
            rintro e w2 ⟨rfl, hq1⟩
            have HQ1 := hide hq1
            clear hq1
            go_wp2_with fail
            go_roundw
            case rel =>
              refine ⟨y + 1, by omega, by go_num, HBI.out.trans (HQ1.out.mono HBI.out.size), fun i hi => ?_⟩
              by_cases e : i = y
              · subst e; exact HP.out
              · exact HALL.out i (by omega)
            case measure => simp [intOf]; omega
          · have hrf : r = false := by
              cases r
              · rfl
              · exact absurd (HRC.out.1 rfl y hlty) hp
            subst hrf
            have HP := hide hp
            clear hp
            go_wp2_with fail
            refine (prmS_below _ _ _ (colK f y) false _ HCL.out (by omega) HRES.out.rd (by simp [HP.out])).mono ?_
            rintro e w2 ⟨rfl, hq1⟩
            have HQ1 := hide hq1
            clear hq1
            go_wp2_with fail
            go_ret
            exact ⟨rfl, HBI.out.trans (HQ1.out.mono HBI.out.size)⟩
    · have hyn : y = n := by omega
      subst hyn
      have hrt : r = true := HRC.out.2 HALL.out
      subst hrt
      go_wp2_with fail
      go_ret
      exact ⟨rfl, HB.out⟩
end Go.Proofs.Ytchpclgkinehhaa
