import Derived.Test.YtkflmhmbkilmpabDoorProg
import Derived.Test.YtkflmhmbkilmpabDoorRdF
import Derived.Test.YtkflmhmbkilmpabDoorIn
import Derived.Test.YtkflmhmbkilmpabDoorSplS
import Derived.Test.YtkflmhmbkilmpabDoorLst
import Derived.Test.YtkflmhmbkilmpabDoorNe
import Derived.Test.YtkflmhmbkilmpabDoorRkF
import Derived.Test.YtkflmhmbkilmpabDoorHeld
import Derived.Test.YtkflmhmbkilmpabDoorBlk
import Derived.Test.YtkflmhmbkilmpabDoorObj
import Derived.Test.YtkflmhmbkilmpabDoorReads
import Derived.Test.YtkflmhmbkilmpabDoorMem
import Derived.Test.YtkflmhmbkilmpabDoorPig
import Derived.Test.YtkflmhmbkilmpabDoorPrkF
import Derived.Test.YtkflmhmbkilmpabDoorLst1
namespace Go.Proofs.YtkflmhmbkilmpabDoor
open Go Go.RowKit
set_option maxHeartbeats 2000000

theorem rdsInfo : (Tryd.prog.info? 2).map (fun i => (i.zero, i.size, i.bytes)) = some (some (.int .i64 0), 1, 8) := by kernel_rfl
theorem rds_new {w : World} {v : Value} {t : TypeId} : ∀ j u, [v][j]? = some u → (w.alloc (.cells #[v] t)).cell? ((⟨w.heap.size, 0, none⟩ : Addr).add j) = some u := by
  intro j u hj
  match j, hj with
  | 0, hj => simp at hj; subst hj; simp [Addr.add, World.cell?_alloc_new]
theorem rds_empty (w : World) (t : TypeId) : (w.alloc (.cells #[] t)).ownsRow w.heap.size t 1 (.slice (some ⟨w.heap.size, 0, none⟩) 0 0) 0 [] :=
  ⟨by simp, .inr ⟨w.heap.size, 0, #[], rfl, Nat.le_refl _, heap_alloc_new _ _, Nat.le_refl _, by unfold maxLen; omega, by simp, by simp⟩⟩
theorem rds_take (zs : List Int) (k : Nat) (y : Int) (h : k < zs.length) (hy : zs.getD k 0 = y) : ints (zs.take k) ++ [.int .i64 y] = ints (zs.take (k + 1)) := by
  rw [List.take_succ_eq_append_getElem h]
  have : zs[k] = y := by simpa [h] using hy
  simp [ints, this]

theorem l01Read_any (s : ByteArray) (xs : List Int) (ok : Bool) (k : Nat) (w : World) (hb : s.size ≤ 1048576) (hr : ReadRes s xs ok) (hk : xs.length = k) :
    Calls Tryd.prog 17 #[.string s] w (BPost 2 k xs ok w) := by
  obtain ⟨i0, hi, hz0, hz1, hz2⟩ := info_parts rdsInfo
  have HR := hide hr
  have HK := hide hk
  clear hr hk
  have HZ : Hid ((readL s).length = s.size) := hide (readL_length s)
  go_enter Tryd.func17, Tryd.ntmps17
  go_wp2_with fail
  go_loopw [4, 5] (fun v i wr => ∃ k : Nat, k ≤ s.size ∧ i = .int .i64 k ∧ Below w.heap.size w wr ∧ wr.ownsRow w.heap.size 2 1 v k (ints ((readL s).take k)) ∧ w.heap.size ≤ wr.heap.size ∧ ∀ j, j < k → 0 ≤ (readL s).getD j 0) (fun _ i _ => s.size - (intOf i).toNat)
  case atStart => exact ⟨0, Nat.zero_le _, rfl, (Below.refl _ _).alloc (Nat.le_refl _) _, by simpa [ints] using rds_empty w _, by simp, fun j hj => absurd hj (Nat.not_lt_zero _)⟩
  case round =>
    obtain ⟨i, hi', rfl, hbe, hown, hsz, hall⟩ := hrel
    have HB := hide hbe
    have HO := hide hown
    have HALL := hide hall
    clear hbe hown hall
    by_cases hlt : i < s.size
    · have hg := readL_getD s i hlt
      have hbt : (s[i].toNat : Int) < 256 := by have := s[i].toNat_lt; omega
      have HG := hide hg
      clear hg
      have hltz : (i : Int) < s.size := by omega
      by_cases h1 : 48 ≤ s[i].toNat ∧ s[i].toNat ≤ 57
      · obtain ⟨h1a, h1b⟩ := h1
        have hu : ub s[i].toNat = (s[i].toNat : Int) - 48 := by unfold ub; rw [if_pos ⟨h1a, h1b⟩]
        have HU := hide hu
        clear hu
        go_wp2_with fail
        refine (in_any _ _ _ true _ (by simp; omega)).mono ?_
        rintro e w1 ⟨rfl, hq1⟩
        have HQ1 := hide hq1
        have HO1 : Hid (w1.ownsRow w.heap.size 2 1 u4 i (ints ((readL s).take i))) := hide (by
          obtain ⟨q, rfl⟩ := hq1
          exact HO.out)
        have hsz1 : w.heap.size ≤ w1.heap.size := by have := hq1.size; omega
        clear hq1
        go_wp2_with (at_builtin; refine wpList_append_own _ rfl _ _ 39 rfl w.heap.size 2 i0 (.int .i64 0) 1 8 Tryd.underlying39 hi hz0 hz1 hz2 rfl (by decide) _ _ _ rfl (HO1.out.alloc _) ⟨w1.heap.size, 0, none⟩ 1 1 [.int .i64 ((s[i].toNat : Int) - 48)] rfl rfl ?c1 ?c2 ?c3 ?c4 ?c5 ?_)
        case c1 => exact rds_new
        case c2 => intro u hu; simp at hu; subst hu; rfl
        case c3 => unfold maxLen; omega
        case c4 => omega
        case c5 => simp; omega
        intro v' w2 hown' hgrow _
        have HO' := hide hown'
        have HGR := hide hgrow
        clear hown' hgrow
        go_wp2_with fail
        go_roundw
        case rel =>
          have hB1 : Below w.heap.size w w2 := ((HB.out.trans (HQ1.out.below _)).alloc hsz1 _).grown HGR.out (by simp; omega) (fun g hg => (HO1.out.alloc (.cells #[.int .i64 ((s[i].toNat : Int) - 48)] 2)).lt g hg |>.1)
          have h := HO'.out
          rw [rds_take _ i _ (by have := HZ.out; omega) (HG.out.trans HU.out)] at h
          refine ⟨i + 1, by omega, by go_num, hB1, h, by have := hB1.size; omega, fun j hj => ?_⟩
          by_cases e : j = i
          · subst e; rw [HG.out, HU.out]; omega
          · exact HALL.out j (by omega)
        case measure => simp [intOf]; omega
      · by_cases h2 : 97 ≤ s[i].toNat ∧ s[i].toNat ≤ 98
        · obtain ⟨h2a, h2b⟩ := h2
          have hu : ub s[i].toNat = (s[i].toNat : Int) - 97 + 10 := by unfold ub; rw [if_neg h1, if_pos ⟨h2a, h2b⟩]; omega
          have HU := hide hu
          clear hu h1
          go_wp2_with fail
          refine (in_any _ _ _ false _ (by simp; omega)).mono ?_
          rintro e w1 ⟨rfl, hq1⟩
          have HQ1 := hide hq1
          clear hq1
          go_wp2_with fail
          refine (in_any _ _ _ true _ (by simp; omega)).mono ?_
          rintro e w3 ⟨rfl, hq3⟩
          have HQ3 := hide (HQ1.out.trans hq3)
          have HO1 : Hid (w3.ownsRow w.heap.size 2 1 u4 i (ints ((readL s).take i))) := hide (by
            obtain ⟨q, h⟩ := HQ3.out
            rw [h]
            exact HO.out)
          have hsz1 : w.heap.size ≤ w3.heap.size := by have := HQ3.out.size; omega
          clear hq3
          go_wp2_with (at_builtin; refine wpList_append_own _ rfl _ _ 39 rfl w.heap.size 2 i0 (.int .i64 0) 1 8 Tryd.underlying39 hi hz0 hz1 hz2 rfl (by decide) _ _ _ rfl (HO1.out.alloc _) ⟨w3.heap.size, 0, none⟩ 1 1 [.int .i64 ((s[i].toNat : Int) - 97 + 10)] rfl rfl ?d1 ?d2 ?d3 ?d4 ?d5 ?_)
          case d1 => exact rds_new
          case d2 => intro u hu; simp at hu; subst hu; rfl
          case d3 => unfold maxLen; omega
          case d4 => omega
          case d5 => simp; omega
          intro v' w2 hown' hgrow _
          have HO' := hide hown'
          have HGR := hide hgrow
          clear hown' hgrow
          go_wp2_with fail
          go_roundw
          case rel =>
            have hB1 : Below w.heap.size w w2 := ((HB.out.trans (HQ3.out.below _)).alloc hsz1 _).grown HGR.out (by simp; omega) (fun g hg => (HO1.out.alloc (.cells #[.int .i64 ((s[i].toNat : Int) - 97 + 10)] 2)).lt g hg |>.1)
            have h := HO'.out
            rw [rds_take _ i _ (by have := HZ.out; omega) (HG.out.trans HU.out)] at h
            refine ⟨i + 1, by omega, by go_num, hB1, h, by have := hB1.size; omega, fun j hj => ?_⟩
            by_cases e : j = i
            · subst e; rw [HG.out, HU.out]; omega
            · exact HALL.out j (by omega)
          case measure => simp [intOf]; omega
        · have hu : ub s[i].toNat = -1 := by unfold ub; rw [if_neg h1, if_neg h2]
          have HU := hide hu
          have f1 : ¬ ((48 : Int) ≤ (s[i].toNat : Int) ∧ (s[i].toNat : Int) ≤ 57) := by omega
          have f2 : ¬ ((97 : Int) ≤ (s[i].toNat : Int) ∧ (s[i].toNat : Int) ≤ 98) := by omega
          have F1 := hide f1
          have F2 := hide f2
          clear hu h1 h2 f1 f2
          go_wp2_with fail
          refine (in_any _ _ _ false _ ⟨fun h => (by cases h), fun h => absurd h F1.out⟩).mono ?_
          rintro e w1 ⟨rfl, hq1⟩
          have HQ1 := hide hq1
          clear hq1
          go_wp2_with fail
          refine (in_any _ _ _ false _ ⟨fun h => (by cases h), fun h => absurd h F2.out⟩).mono ?_
          rintro e w3 ⟨rfl, hq3⟩
          have HQ3 := hide (HQ1.out.trans hq3)
          clear hq3
          go_wp2_with fail
          go_ret2
          have hno : ¬ AllDig s := fun h => by have := h i hlt; rw [HG.out, HU.out] at this; omega
          rcases HR.out with ⟨h, _⟩ | ⟨_, h1, h2⟩
          · exact absurd h hno
          · subst h1
            subst h2
            have hk := HK.out
            simp at hk
            subst hk
            exact ⟨_, _, rfl, HB.out.trans (HQ3.out.below _), .inl ⟨rfl, rfl⟩⟩
    · have hin : i = s.size := by omega
      subst hin
      go_wp2_with fail
      go_ret2
      rcases HR.out with ⟨_, h1, h2⟩ | ⟨h, _⟩
      · subst h1
        subst h2
        have h := HO.out
        have hk := HK.out
        have hz := HZ.out
        rw [List.take_of_length_le (by omega)] at h
        rw [hz] at hk
        subst hk
        obtain ⟨A', c', hv, hres⟩ := own_shape h
        exact ⟨A', c', by rw [← hv]; rfl, HB.out, hres⟩
      · exact absurd HALL.out h
end Go.Proofs.YtkflmhmbkilmpabDoor
namespace Go.Proofs.YtkflmhmbkilmpabDoor
open Go Go.RowKit
set_option maxHeartbeats 400000

theorem l01Table_any (A : Option Addr) (n c : Nat) (rows : List (List Int)) (r : Bool) (w : World) (hn : rows.length = n) (hb : n ≤ 9223372036854775807) (hbs : ∀ i, i < rows.length → (rows.getD i []).length ≤ 9223372036854775807) (hr : Rd2 w A rows) (hrr : r = true ↔ Tbl rows) :
    Calls Tryd.prog 18 #[.slice A n c] w fun e w' => e = .returned (.bool r) ∧ Quiet w w' := by
  have HN := hide hn
  have HR := hide hrr
  clear hn hrr
  by_cases h12 : 1 ≤ n ∧ n ≤ 12
  · obtain ⟨h1, h2⟩ := h12
    have hno : ¬ Tbl rows → r = false := fun h => by
      cases r
      · rfl
      · exact absurd (HR.out.1 rfl) h
    have HNO := hide hno
    clear hno
    go_enter Tryd.func18, Tryd.ntmps18
    go_wp2_with (go_at_call 29; refine (in_any _ _ _ true _ (by simp; omega)).mono ?_; rintro e w1 ⟨rfl, hq1⟩)
    have HQ1 := hide hq1
    clear hq1
    go_loopw [4] (fun i wr => ∃ k : Nat, k ≤ n ∧ i = .int .i64 k ∧ Quiet w wr ∧ ∀ i, i < k → RowOk n (rows.getD i [])) (fun i _ => n - (intOf i).toNat)
    case atStart => exact ⟨0, Nat.zero_le _, rfl, HQ1.out, fun i hi => absurd hi (Nat.not_lt_zero _)⟩
    case round =>
      obtain ⟨k, hk, rfl, hq, hall⟩ := hrel
      have HQ := hide hq
      have HALL := hide hall
      clear hq hall
      by_cases hlt : k < n
      · obtain ⟨b, o, rfl, _, hc⟩ := HQ.out.rd2 hr (by have := HN.out; omega)
        obtain ⟨Ak, ck, hcell, hrd⟩ := hc k (by have := HN.out; omega)
        have hbk := hbs k (by have := HN.out; omega)
        obtain ⟨x, hx⟩ : ∃ x, x = rows.getD k [] := ⟨_, rfl⟩
        obtain ⟨m, hm⟩ : ∃ m, x.length = m := ⟨_, rfl⟩
        rw [← hx] at hcell hrd hbk
        rw [hm] at hcell hbk
        have HX := hide hx
        have HM := hide hm
        clear hx hm hc hbs
        have hltz : (k : Int) < n := by omega
        by_cases hmn : m = n
        · subst hmn
          go_wp2_with fail
          obtain ⟨wo, rfl⟩ : ∃ wo : World, wo = wr := ⟨_, rfl⟩
          go_loopw [5] (fun i wi => ∃ j : Nat, j ≤ m ∧ i = .int .i64 j ∧ Quiet wo wi ∧ ∀ i, i < j → 0 ≤ x.getD i 0 ∧ x.getD i 0 < (m : Int)) (fun i _ => m - (intOf i).toNat)
          case atStart => exact ⟨0, Nat.zero_le _, rfl, Quiet.refl _, fun i hi => absurd hi (Nat.not_lt_zero _)⟩
          case round =>
            obtain ⟨j, hj, rfl, hqi, hin⟩ := hrel
            have HIN := hide hin
            have HQI := hide hqi
            clear hin
            by_cases hjm : j < m
            · obtain ⟨b2, o2, rfl, _, hc2⟩ := hqi.rd hrd (by have := HM.out; omega)
              have hcell2 := (hqi.cell ⟨b, o + k, none⟩).trans hcell
              have hv := hc2 j (by have := HM.out; omega)
              obtain ⟨y, hy⟩ : ∃ y, y = x.getD j 0 := ⟨_, rfl⟩
              rw [← hy] at hv
              have HY := hide hy
              clear hy hc2 hqi hcell
              have hjz : (j : Int) < m := by omega
              by_cases hyr : 0 ≤ y ∧ y ≤ (m : Int) - 1
              · have HYR := hide hyr
                clear hyr
                go_wp2_with (go_at_call 29; refine (in_any _ _ _ true _ (by simp [HYR.out.1, HYR.out.2])).mono ?_; rintro e w1 ⟨rfl, hq1⟩)
                go_roundw
                case rel =>
                  refine ⟨j + 1, by omega, by go_num, HQI.out.trans hq1, fun i hi => ?_⟩
                  by_cases e : i = j
                  · subst e; rw [← HY.out]; have := HYR.out; exact ⟨this.1, by omega⟩
                  · exact HIN.out i (by omega)
                case measure => simp [intOf]; omega
              · have HYR := hide hyr
                clear hyr
                go_wp2_with (go_at_call 29; refine (in_any _ _ _ false _ (by simpa using HYR.out)).mono ?_; rintro e w1 ⟨rfl, hq1⟩)
                go_ret
                have : r = false := HNO.out fun h => HYR.out (by
                  have h := (h.2.2 k (by have := HN.out; omega)).2 j (by have := HN.out; omega)
                  rw [← HX.out, ← HY.out, HN.out] at h
                  exact ⟨h.1, by omega⟩)
                exact ⟨by subst this; rfl, HQ.out.trans (HQI.out.trans hq1)⟩
            · have hjm' : j = m := by omega
              subst hjm'
              go_wp2_with fail
              go_roundw
              case rel => 
                refine ⟨k + 1, by omega, by go_num, HQ.out.trans HQI.out, fun i hi => ?_⟩
                by_cases e : i = k
                · subst e; rw [← HX.out]; exact ⟨HM.out, HIN.out⟩
                · exact HALL.out i (by omega)
              case measure => simp [intOf]; omega
        · have hne : ((m : Int) != (n : Int)) = true := by simp; omega
          have HMN := hide hmn
          clear hmn
          go_wp2_with fail
          go_ret
          have : r = false := HNO.out fun h => HMN.out (by
            have h := (h.2.2 k (by have := HN.out; omega)).1
            rw [← HX.out, HM.out, HN.out] at h
            exact h)
          exact ⟨by subst this; rfl, by first | exact HQ.out | exact HQ.out.drewN _⟩
      · have hkn : k = n := by omega
        subst hkn
        go_wp2_with fail
        go_ret
        have : r = true := HR.out.2 ⟨by have := HN.out; omega, by have := HN.out; omega, fun i hi => by
          have h := HALL.out i (by have := HN.out; omega)
          rw [HN.out]
          exact h⟩
        exact ⟨by subst this; rfl, HQ.out⟩
  · have : r = false := by
      cases r
      · rfl
      · have := HR.out.1 rfl
        have h := HN.out
        unfold Tbl at this
        omega
    subst this
    go_enter Tryd.func18, Tryd.ntmps18
    go_wp2_with (go_at_call 29; refine (in_any _ _ _ false _ (by simp; omega)).mono ?_; rintro e w1 ⟨rfl, hq1⟩)
    go_ret
    exact ⟨rfl, hq1⟩

end Go.Proofs.YtkflmhmbkilmpabDoor
namespace Go.Proofs.YtkflmhmbkilmpabDoor
open Go Go.RowKit
set_option maxHeartbeats 4000000

/-- The cells of a slice of texts. -/
theorem str_cells {w : World} {B n : Nat} {t : TypeId} {v : Value} {ps : List ByteArray} (h : w.ownsRow B t 1 v n (ps.map Value.string)) (h1 : 1 ≤ n) :
    ∃ g cap, v = .slice (some ⟨g, 0, none⟩) n cap ∧ g < w.heap.size ∧ ∀ i, i < n → w.cell? ⟨g, i, none⟩ = some (.string (ps.getD i ByteArray.empty)) := by
  have h0 := h
  obtain ⟨hl, h⟩ := h
  rcases h with ⟨hv, h0⟩ | ⟨g, cap, cur, hv, hg, hh, h2, h3, h4, h5⟩
  · omega
  · subst hv
    refine ⟨g, cap, rfl, (Array.getElem?_eq_some_iff.1 hh).1, fun i hi => ?_⟩
    rw [World.ownsRow.cellAt h0 i (by omega)]
    simp at hl
    have hi2 : i < ps.length := by omega
    simp [hi2]
set_option maxRecDepth 100000 in
theorem l01Parse_any (s : ByteArray) (zs : List (List Int)) (code : Int) (ok : Bool) (k : Nat) (w : World) (hb : s.size ≤ 1048576) (hres : PtRes s zs code) (hok : ok = true ↔ code = 0) (hk : zs.length = k) :
    Calls Tryd.prog 9 #[.string s] w (fun e w' => ∃ A' c', e = .returned (.tuple #[.slice A' k c', .bool ok]) ∧ Below w.heap.size w w' ∧ Obj2 39 2 w.heap.size w'.heap.size w' A' zs) := by
  have HRES := hide hres
  have HOKK := hide hok
  have HKK := hide hk
  obtain ⟨N, hN⟩ : ∃ N, (parts 47 s).length = N := ⟨_, rfl⟩
  have h1N : 1 ≤ N := by rw [← hN]; exact parts_pos 47 s
  have hNs : N ≤ s.size + 1 := by rw [← hN]; exact (parts_sz 47 s).1
  have HN := hide hN
  clear hres hok hk hN
  obtain ⟨i2, hj, hy0, hy1, hy2⟩ := info_parts neInfo2
  go_enter Tryd.func9, Tryd.ntmps9
  go_wp2_with fail
  refine (l01Split_any s 47 _ hb).mono ?_
  rintro e w1 ⟨v0, rfl, hb1, ho1⟩
  rw [HN.out] at ho1
  obtain ⟨g, cap, rfl, hg, hcl⟩ := str_cells ho1 h1N
  have HB1 := hide hb1
  have HC := hide hcl
  clear hb1 ho1 hcl
  go_wp2_with fail
  go_loopw [5, 6] (fun v i wr => ∃ (x : Nat) (vals : List Value), x ≤ N ∧ i = .int .i64 x ∧ Below w1.heap.size w1 wr ∧ LstV 39 2 w1.heap.size wr v ((rowsL s).take x) vals ∧ w1.heap.size ≤ wr.heap.size ∧ ∀ i, i < x → AllDig ((parts 47 s).getD i ByteArray.empty)) (fun _ i _ => N - (intOf i).toNat)
  case atStart => exact ⟨0, [], Nat.zero_le _, rfl, (Below.refl _ _).alloc (Nat.le_refl _) _, by simpa using LstV.start w1 _ _, by simp, fun i hi => absurd hi (Nat.not_lt_zero _)⟩
  case round =>
    obtain ⟨x, vals, hx, rfl, hbe, hlst, hsz, hall⟩ := hrel
    have HB := hide hbe
    have HL := hide hlst
    have HALL := hide hall
    clear hbe hlst hall
    by_cases hlt : x < N
    · have hxz : (x : Int) < N := by omega
      have c0 := (HB.out.cell (p := ⟨g, x, none⟩) hg).trans (HC.out x hlt)
      obtain ⟨p, hp⟩ : ∃ p, (parts 47 s).getD x ByteArray.empty = p := ⟨_, rfl⟩
      rw [hp] at c0
      have HP := hide hp
      have hps : p.size ≤ s.size := by
        have h := (parts_sz 47 s).2 p (by rw [← hp]; have := HN.out; simp [List.getD_eq_getElem?_getD, this, hlt])
        exact h
      clear hp
      by_cases hd : AllDig p
      · have HD := hide hd
        have HRR : Hid (ReadRes p (readL p) true) := hide (.inl ⟨hd, rfl, rfl⟩)
        obtain ⟨m, hm⟩ : ∃ m, (readL p).length = m := ⟨_, rfl⟩
        have hms : m ≤ 1048576 := by rw [← hm, readL_length]; omega
        have HM := hide hm
        clear hd hm
        go_wp2_with fail
        refine (l01Read_any p (readL p) true m _ (by omega) HRR.out HM.out).mono ?_
        rintro e w2 ⟨A2, c2, rfl, hb2, hr2⟩
        have HB2 := hide hb2
        have HR2 := hide hr2.obj
        clear c0 hb2 hr2
        have HTM : Hid (((rowsL s).take x).length = x) := hide (by rw [List.length_take, (rowsL_at (by rw [HN.out]; exact hlt)).2, HN.out]; omega)
        have HL2 := hide (HL.out.later HB2.out)
        have HOW2 : Hid (w2.ownsRow w1.heap.size 39 1 u5 x vals) := hide (by have h := HL2.out.own; rw [HTM.out] at h; exact h)
        have hs3 : w1.heap.size ≤ w2.heap.size := by have := HB2.out.size; omega
        go_wp2_with (at_builtin; refine wpList_append_own _ rfl _ _ 22 rfl w1.heap.size 39 i2 (.slice none 0 0) 1 24 Tryd.underlying22 hj hy0 hy1 hy2 rfl (by decide) _ _ _ rfl (HOW2.out.alloc _) ⟨w2.heap.size, 0, none⟩ 1 1 [.slice A2 m c2] rfl rfl ?c1 ?c2 ?c3 ?c4 ?c5 ?_)
        case c1 => exact ne_new
        case c2 => intro u hu; simp at hu; subst hu; rfl
        case c3 => unfold maxLen; omega
        case c4 => omega
        case c5 => simp; omega
        intro v' w7 hown7 hgrow7 _
        have HO7 := hide hown7
        have HG7 := hide hgrow7
        clear hown7 hgrow7
        go_wp2_with fail
        go_roundw
        case rel =>
          have hB7 : Below w1.heap.size w1 w7 := ((HB.out.trans (HB2.out.mono HB.out.size)).alloc hs3 _).grown HG7.out (by simp; omega) (fun g hg => (HOW2.out.alloc (.cells #[.slice A2 m c2] 39)).lt g hg |>.1)
          have hpush := LstV.push (tmp := .cells #[.slice A2 m c2] 39) (A := A2) (c := c2) (r := readL p) (w1 := w7) (v' := v') (by decide) hsz HL.out HB2.out HR2.out (by rw [HTM.out, HM.out]; exact HO7.out) HG7.out
          refine ⟨x + 1, vals ++ [.slice A2 (readL p).length c2], by omega, by go_num, hB7, ?_, by have := hB7.size; omega, fun i hi => ?_⟩
          · rw [rowsL_take (by rw [HN.out]; exact hlt), HP.out]
            exact hpush
          · by_cases e : i = x
            · rw [e, HP.out]; exact HD.out
            · exact HALL.out i (by omega)
        case measure => simp [intOf]; omega
      · have HRR : Hid (ReadRes p [] false) := hide (.inr ⟨hd, rfl, rfl⟩)
        have HBAD : Hid (zs = [] ∧ ok = false) := hide (by
          rcases HRES.out with ⟨hgd, _, _⟩ | ⟨_, h2, h3⟩
          · exact absurd ((allP_iff N HN.out).1 hgd.1 x hlt) (by rw [HP.out]; exact hd)
          · refine ⟨h2, ?_⟩
            cases ok
            · rfl
            · exact absurd (HOKK.out.1 rfl) (by rw [h3]; decide))
        clear hd
        go_wp2_with fail
        refine (l01Read_any p [] false 0 _ (by omega) HRR.out rfl).mono ?_
        rintro e w2 ⟨A2, c2, rfl, hb2, hr2⟩
        have HB2 := hide ((HB1.out.trans (HB.out.mono HB1.out.size)).trans (hb2.mono (by have := HB1.out.size; omega)))
        clear c0 hb2 hr2
        obtain ⟨hz, hk0⟩ := HBAD.out
        subst hz
        subst hk0
        have hk0 : k = 0 := by rw [← HKK.out]; rfl
        subst hk0
        go_wp2_with fail
        exact bodyPost_ret (v := .tuple #[.slice none 0 0, .bool false]) (by simp [results, Tryd.results9, go_sem]) rfl ⟨none, 0, rfl, HB2.out, .inl ⟨rfl, rfl⟩⟩
    · have hxn : x = N := by omega
      subst hxn
      have HLEN : Hid ((rowsL s).length = x) := hide (by rw [(rowsL_at (i := 0) (by rw [HN.out]; omega)).2, HN.out])
      have hl := HL.out
      rw [List.take_of_length_le (by rw [HLEN.out]; exact Nat.le_refl _)] at hl
      obtain ⟨A', c', hv, hobj⟩ := hl.shape
      rw [HLEN.out] at hv
      subst hv
      have HOBJ := hide hobj
      have HBT := hide (HB1.out.trans (HB.out.mono HB1.out.size))
      clear hl hobj
      have hs1 := HB1.out.size
      have HRB : Hid (∀ i, i < (rowsL s).length → ((rowsL s).getD i []).length ≤ 1048576) := hide (fun i hi => by
        have h := rowsL_at (s := s) (i := i) (by rw [HN.out]; have := HLEN.out; omega)
        rw [h.1, readL_length]
        have h2 := (parts_sz 47 s).2 ((parts 47 s).getD i ByteArray.empty) (by have := HN.out; have := HLEN.out; simp [List.getD_eq_getElem?_getD, show i < (parts 47 s).length by omega])
        omega)
      by_cases ht : Tbl (rowsL s)
      · have HT := hide ht
        have HGOOD : Hid (zs = rowsL s ∧ ok = true) := hide (by
          rcases HRES.out with ⟨_, h2, h3⟩ | ⟨hgd, _, _⟩
          · exact ⟨h2, HOKK.out.2 h3⟩
          · exact absurd ⟨(allP_iff x HN.out).2 HALL.out, ht⟩ hgd)
        clear ht
        go_wp2_with fail
        refine (l01Table_any _ x _ (rowsL s) true _ HLEN.out (by omega) (fun i hi => by have := HRB.out i hi; omega) HOBJ.out.rd ⟨fun _ => HT.out, fun _ => rfl⟩).mono ?_
        rintro e w3 ⟨rfl, hq⟩
        have HQ := hide hq
        clear hq
        obtain ⟨hz, hk0⟩ := HGOOD.out
        subst hz
        subst hk0
        have hk0 : k = x := by rw [← HKK.out]; exact HLEN.out
        subst hk0
        go_wp2_with fail
        exact bodyPost_ret (v := .tuple #[.slice A' k c', .bool true]) (by simp [results, Tryd.results9, go_sem]) rfl ⟨_, _, rfl, HBT.out.trans (HQ.out.below _), ((HOBJ.out.later (HQ.out.below _)).mono hs1 (HQ.out.below 0).size)⟩
      · have HT := hide ht
        have HBAD : Hid (zs = [] ∧ ok = false) := hide (by
          rcases HRES.out with ⟨hgd, _, _⟩ | ⟨_, h2, h3⟩
          · exact absurd hgd.2 ht
          · refine ⟨h2, ?_⟩
            cases ok
            · rfl
            · exact absurd (HOKK.out.1 rfl) (by rw [h3]; decide))
        clear ht
        go_wp2_with fail
        refine (l01Table_any _ x _ (rowsL s) false _ HLEN.out (by omega) (fun i hi => by have := HRB.out i hi; omega) HOBJ.out.rd ⟨fun h => (by cases h), fun h => absurd h HT.out⟩).mono ?_
        rintro e w3 ⟨rfl, hq⟩
        have HQ := hide hq
        clear hq
        obtain ⟨hz, hk0⟩ := HBAD.out
        subst hz
        subst hk0
        have hk0 : k = 0 := by rw [← HKK.out]; rfl
        subst hk0
        go_wp2_with fail
        exact bodyPost_ret (v := .tuple #[.slice none 0 0, .bool false]) (by simp [results, Tryd.results9, go_sem]) rfl ⟨none, 0, rfl, HBT.out.trans (HQ.out.below _), .inl ⟨rfl, rfl⟩⟩
end Go.Proofs.YtkflmhmbkilmpabDoor
namespace Go.Proofs.YtkflmhmbkilmpabDoor
open Go Go.RowKit
set_option maxHeartbeats 2000000

set_option maxRecDepth 100000 in
theorem faultK_any (A : Option Addr) (n c : Nat) (f : List (List Int)) (T : Nat) (w : World) (hn : f.length = n) (ht : Tbl f) (hr : Rd2 w A f) (hT : FirstK f n T) :
    Calls Tryd.prog 20 #[.slice A n c] w fun e w' => (T = n * n * n ∧ e = .returned (.slice none 0 0) ∧ Below w.heap.size w w') ∨ (T < n * n * n ∧ ∃ g, e = .returned (.slice (some ⟨g, 0, none⟩) 3 3) ∧ Below w.heap.size w w' ∧ w.heap.size ≤ g ∧ OwnB 2 w' g (lst3 (trip n T))) := by
  have h1 : 1 ≤ n := by rw [← hn]; exact ht.1
  have h12 : n ≤ 12 := by rw [← hn]; exact ht.2.1
  obtain ⟨b, o, rfl, hb, hc⟩ := ht.cells hr hn
  have HC := hide hc
  have HN := hide hn
  have HTB := hide ht
  have HT := hide hT
  clear hn ht hr hT hc
  go_enter Tryd.func20, Tryd.ntmps20
  go_wp2_with fail
  go_loopw [4] (fun i wr => ∃ x : Nat, x ≤ n ∧ i = .int .i64 x ∧ Quiet w wr ∧ ∀ i, i < x * n * n → Rk3 f n i) (fun i _ => n - (intOf i).toNat)
  case atStart => exact ⟨0, Nat.zero_le _, rfl, Quiet.refl _, fun i hi => absurd hi (by omega)⟩
  case round =>
    obtain ⟨x, hx, rfl, hq, hall⟩ := hrel
    have HQ := hide hq
    clear hq
    have HALL := hide hall
    clear hall
    by_cases hlt : x < n
    · have hxz : (x : Int) < n := by omega
      go_wp2_with fail
      go_loopw [5] (fun i wi => ∃ y : Nat, y ≤ n ∧ i = .int .i64 y ∧ Quiet w wi ∧ ∀ i, i < (x * n + y) * n → Rk3 f n i) (fun i _ => n - (intOf i).toNat)
      case atStart => exact ⟨0, Nat.zero_le _, rfl, HQ.out, fun i hi => HALL.out i (by rw [Nat.add_zero] at hi; exact hi)⟩
      case round =>
        obtain ⟨y, hy, rfl, hq, halli⟩ := hrel
        have HQI := hide hq
        clear hq
        have HALLI := hide halli
        clear halli
        by_cases hlty : y < n
        · have hyz : (y : Int) < n := by omega
          go_wp2_with fail
          go_loopw [6] (fun i wi => ∃ z : Nat, z ≤ n ∧ i = .int .i64 z ∧ Quiet w wi ∧ ∀ i, i < (x * n + y) * n + z → Rk3 f n i) (fun i _ => n - (intOf i).toNat)
          case atStart => exact ⟨0, Nat.zero_le _, rfl, HQI.out, HALLI.out⟩
          case round =>
            obtain ⟨z, hzn, rfl, hq, hallj⟩ := hrel
            have HQJ := hide hq
            clear hq
            have HALLJ := hide hallj
            clear hallj
            by_cases hltz : z < n
            · have hzz : (z : Int) < n := by omega
              have hq1 := HTB.out.ap_lt HN.out hlty hltz
              have hq2 := HTB.out.ap_lt HN.out hlt hlty
              have hq3 := HTB.out.ap_lt HN.out hlt hltz
              have hat := Rk3.at (f := f) (n := n) (x := x) hlty hltz
              have HTR := hide (trip_of (n := n) (x := x) hlty hltz)
              have HKL := hide (trip_lt (n := n) hlt hlty hltz)
              obtain ⟨q1, h_1⟩ : ∃ u, ap f y z = u := ⟨_, rfl⟩
              obtain ⟨q2, h_2⟩ : ∃ u, ap f x y = u := ⟨_, rfl⟩
              obtain ⟨q3, h_3⟩ : ∃ u, ap f x z = u := ⟨_, rfl⟩
              rw [h_1, h_2, h_3] at hat
              rw [h_1] at hq1
              rw [h_2] at hq2
              rw [h_3] at hq3
              obtain ⟨q4, h_4⟩ : ∃ u, ap f x q1 = u := ⟨_, rfl⟩
              obtain ⟨q5, h_5⟩ : ∃ u, ap f q2 q3 = u := ⟨_, rfl⟩
              rw [h_4, h_5] at hat
              have HAT := hide hat
              obtain ⟨bx, ox, cx, r1, r2, r3⟩ := HC.out x hlt
              obtain ⟨by', oy, cy, s1, s2, s3⟩ := HC.out y hlty
              obtain ⟨bq, oq, cq, t1, t2, t3⟩ := HC.out q2 hq2
              have e1 := s3 z hltz
              rw [h_1] at e1
              have e2 := r3 y hlty
              rw [h_2] at e2
              have e3 := r3 z hltz
              rw [h_3] at e3
              have e4 := r3 q1 hq1
              rw [h_4] at e4
              have e5 := t3 q3 hq3
              rw [h_5] at e5
              have z1 : (q1 : Int) < n := by omega
              have z2 : (q2 : Int) < n := by omega
              have z3 : (q3 : Int) < n := by omega
              have hbl := HQJ.out.below w.heap.size
              replace r1 := (hbl.cell (p := ⟨b, o + x, none⟩) hb).trans r1
              replace s1 := (hbl.cell (p := ⟨b, o + y, none⟩) hb).trans s1
              replace t1 := (hbl.cell (p := ⟨b, o + q2, none⟩) hb).trans t1
              replace e1 := (hbl.cell (p := ⟨by', oy + z, none⟩) s2).trans e1
              replace e2 := (hbl.cell (p := ⟨bx, ox + y, none⟩) r2).trans e2
              replace e3 := (hbl.cell (p := ⟨bx, ox + z, none⟩) r2).trans e3
              replace e4 := (hbl.cell (p := ⟨bx, ox + q1, none⟩) r2).trans e4
              replace e5 := (hbl.cell (p := ⟨bq, oq + q3, none⟩) t2).trans e5
              clear hbl h_1 h_2 h_3 h_4 h_5 hat r3 s3 t3
              by_cases hcs : q4 = q5
              · have HGOOD := hide (HAT.out.2 hcs)
                subst hcs
                go_wp2_with fail
                go_quiet (fail)
                go_wp2_with fail
                go_roundw
                case rel => exact ⟨z + 1, by omega, by go_num, HQJ.out.drewN _, fun i hi => by
                  by_cases e : i = (x * n + y) * n + z
                  · rw [e]; exact HGOOD.out
                  · exact HALLJ.out i (by omega)⟩
                case measure => simp [intOf]; omega
              · have hbad : ¬ Rk3 f n ((x * n + y) * n + z) := fun h => hcs (HAT.out.1 h)
                have HTB2 := hide (HT.out.bad HALLJ.out HKL.out hbad)
                have hcz : ¬ (q4 : Int) = q5 := by omega
                clear hbad
                go_wp2_with fail
                go_quiet (fail)
                go_wp2_with fail
                refine bp_gen fun wf hwf => ?_
                have HBF : Below w.heap.size w wf := by rw [hwf]; exact ((HQJ.out.drewN nq).below _).alloc ((HQJ.out.drewN nq).below 0).size _
                have HLF : Hid (Blk wf (wr.drewN nq).heap.size 2 [.int .i64 x, .int .i64 y, .int .i64 z]) := hide (by rw [hwf]; exact Blk.new _ _ _)
                have hlo : w.heap.size ≤ (wr.drewN nq).heap.size := ((HQJ.out.drewN nq).below 0).size
                clear hwf
                go_ret
                exact .inr ⟨by rw [HTB2.out]; exact HKL.out, _, rfl, HBF, hlo, _, HLF.out, fun i hi => by
                  rw [HTB2.out, HTR.out] at hi ⊢
                  simp [lst3] at hi
                  rcases i with _ | _ | _ | i
                  · rfl
                  · rfl
                  · rfl
                  · omega⟩
            · have hzn' : z = n := by omega
              subst hzn'
              go_wp2_with fail
              go_roundw
              case rel => exact ⟨y + 1, by omega, by go_num, HQJ.out, fun i hi => HALLJ.out i (by rw [← Nat.add_assoc, Nat.add_mul _ 1, Nat.one_mul] at hi; exact hi)⟩
              case measure => simp [intOf]; omega
        · have hyn' : y = n := by omega
          subst hyn'
          go_wp2_with fail
          go_roundw
          case rel => exact ⟨x + 1, by omega, by go_num, HQI.out, fun i hi => HALLI.out i (by rw [Nat.add_mul x 1, Nat.one_mul] at hi; exact hi)⟩
          case measure => simp [intOf]; omega
    · have hxn : x = n := by omega
      subst hxn
      go_wp2_with fail
      go_ret
      exact .inl ⟨HT.out.all HALL.out, rfl, HQ.out.below _⟩
end Go.Proofs.YtkflmhmbkilmpabDoor
namespace Go.Proofs.YtkflmhmbkilmpabDoor
open Go Go.RowKit
set_option maxHeartbeats 400000

/-- The first index, or -1. -/
def ixOf (xs : List Int) (v : Int) : Int := if v ∈ xs then (xs.idxOf v : Int) else -1

theorem ixOf_at (xs : List Int) (v : Int) (k : Nat) (hk : k < xs.length) (hv : xs.getD k 0 = v) (hno : v ∉ xs.take k) : ixOf xs v = k := by
  have e : xs = xs.take k ++ v :: xs.drop (k + 1) := by
    rw [← hv]
    simp [hk]
  have hm : v ∈ xs := by rw [e]; simp
  unfold ixOf
  rw [if_pos hm]
  rw [e, List.idxOf_append, if_neg hno]
  simp
  omega

theorem ixOf_no (xs : List Int) (v : Int) (hno : v ∉ xs) : ixOf xs v = -1 := by
  unfold ixOf
  rw [if_neg hno]

theorem index_any (A : Option Addr) (n c : Nat) (xs : List Int) (v : Int) (w : World) (hn : xs.length = n) (hb : n ≤ 9223372036854775807) (hr : Rd w A xs) :
    Calls Tryd.prog 38 #[.slice A n c, .int .i64 v] w fun e w' => e = .returned (.int .i64 (ixOf xs v)) ∧ Quiet w w' := by
  have HN := hide hn
  clear hn
  go_enter Tryd.func38, Tryd.ntmps38
  go_wp2_with fail
  go_loopw [5] (fun i wr => ∃ k : Nat, k ≤ n ∧ i = .int .i64 k ∧ Quiet w wr ∧ v ∉ xs.take k) (fun i _ => n - (intOf i).toNat)
  case atStart => exact ⟨0, Nat.zero_le _, rfl, Quiet.refl _, by simp⟩
  case round =>
    obtain ⟨k, hk, rfl, hq, hno⟩ := hrel
    have HNO := hide hno
    have HQ := hide hq
    clear hno hq
    by_cases hlt : k < n
    · obtain ⟨b, o, rfl, hbw, hc⟩ := HQ.out.rd hr (by have := HN.out; omega)
      have hc1 := hc k (by have := HN.out; omega)
      have hl : k < xs.length := by have := HN.out; omega
      have HL := hide hl
      obtain ⟨x, hx⟩ : ∃ x, xs.getD k 0 = x := ⟨_, rfl⟩
      rw [hx] at hc1
      have HX := hide hx
      clear hx hc hl
      have hltz : (k : Int) < n := by omega
      by_cases hxv : x = v
      · have HXV := hide hxv
        have hxb : (x == v) = true := by simpa using hxv
        clear hxv
        go_wp2_with fail
        go_ret
        have e := ixOf_at xs v k HL.out (HX.out.trans HXV.out) HNO.out
        exact ⟨by rw [e]; rfl, HQ.out⟩
      · have HXV := hide hxv
        have hxb : (x == v) = false := by simpa using hxv
        clear hxv
        go_wp2_with fail
        go_roundw
        case rel =>
          refine ⟨k + 1, by omega, by go_num, HQ.out, ?_⟩
          rw [List.take_succ_eq_append_getElem HL.out]
          intro h
          rcases List.mem_append.1 h with h | h
          · exact HNO.out h
          · have := HX.out
            have hl := HL.out
            simp [hl] at this
            simp [this] at h
            exact HXV.out h.symm
        case measure => simp [intOf]; omega
    · have hkn : k = n := by omega
      subst hkn
      go_wp2_with fail
      go_ret
      have h := HNO.out
      rw [List.take_of_length_le (by have := HN.out; omega)] at h
      exact ⟨by rw [ixOf_no xs v h]; rfl, HQ.out⟩

theorem has_any (A : Option Addr) (n c : Nat) (xs : List Int) (v : Int) (r : Bool) (w : World) (hn : xs.length = n) (hb : n ≤ 9223372036854775807) (hr : Rd w A xs) (hrr : r = true ↔ v ∈ xs) :
    Calls Tryd.prog 30 #[.slice A n c, .int .i64 v] w fun e w' => e = .returned (.bool r) ∧ Quiet w w' := by
  have HN := hide hn
  have HR := hide hrr
  clear hn hrr
  obtain ⟨x, hx⟩ : ∃ x, ixOf xs v = x := ⟨_, rfl⟩
  have hxr : r = decide (0 ≤ x) := by
    unfold ixOf at hx
    cases r
    · have hno : v ∉ xs := fun h => by have := HR.out.2 h; cases this
      rw [if_neg hno] at hx
      subst hx
      rfl
    · have h := HR.out.1 rfl
      rw [if_pos h] at hx
      subst hx
      simp
  have HX := hide hx
  have HXR := hide hxr
  clear hx hxr
  go_enter Tryd.func30, Tryd.ntmps30
  go_wp2_with fail
  refine (index_any _ _ _ xs v _ HN.out hb hr).mono ?_
  rintro e w1 ⟨rfl, hq⟩
  rw [HX.out]
  have HQ := hide hq
  clear hq
  go_wp2_with fail
  go_ret
  exact ⟨by rw [HXR.out]; rfl, HQ.out⟩
end Go.Proofs.YtkflmhmbkilmpabDoor
namespace Go.Proofs.YtkflmhmbkilmpabDoor
open Go Go.RowKit
set_option maxHeartbeats 400000

theorem l01Perm_any (A : Option Addr) (n c : Nat) (xs : List Int) (r : Bool) (w : World) (hn : xs.length = n) (hb : n ≤ 9223372036854775807) (hr : Rd w A xs) (hrr : r = true ↔ 1 ≤ n ∧ n ≤ 12 ∧ ∀ x : Int, 0 ≤ x → x < (n : Int) → x ∈ xs) :
    Calls Tryd.prog 19 #[.slice A n c] w fun e w' => e = .returned (.bool r) ∧ Quiet w w' := by
  have HN := hide hn
  have HR := hide hrr
  clear hn hrr
  by_cases h12 : 1 ≤ n ∧ n ≤ 12
  · obtain ⟨h1, h2⟩ := h12
    go_enter Tryd.func19, Tryd.ntmps19
    go_wp2_with (go_at_call 29; refine (in_any _ _ _ true _ (by simp; omega)).mono ?_; rintro e w1 ⟨rfl, hq1⟩)
    have HQ1 := hide hq1
    clear hq1
    go_loopw [4] (fun i wr => ∃ k : Nat, k ≤ n ∧ i = .int .i64 k ∧ Quiet w wr ∧ ∀ x : Int, 0 ≤ x → x < (k : Int) → x ∈ xs) (fun i _ => n - (intOf i).toNat)
    case atStart => exact ⟨0, Nat.zero_le _, rfl, HQ1.out, fun x h0 h1 => by omega⟩
    case round =>
      obtain ⟨k, hk, rfl, hq, hall⟩ := hrel
      have HQ := hide hq
      have HALL := hide hall
      clear hq hall
      by_cases hlt : k < n
      · have hltz : (k : Int) < n := by omega
        by_cases hm : (k : Int) ∈ xs
        · have HM := hide hm
          clear hm
          go_wp2_with (go_at_call 30; refine (has_any _ _ _ xs _ true _ HN.out hb (HQ.out.rd hr) (by simp [HM.out])).mono ?_; rintro e w2 ⟨rfl, hq2⟩)
          have HQ2 := hide hq2
          clear hq2
          go_roundw
          case rel =>
            refine ⟨k + 1, by omega, by go_num, HQ.out.trans HQ2.out, fun x h0 h1 => ?_⟩
            by_cases e : x = (k : Int)
            · subst e; exact HM.out
            · exact HALL.out x h0 (by omega)
          case measure => simp [intOf]; omega
        · have HM := hide hm
          clear hm
          go_wp2_with (go_at_call 30; refine (has_any _ _ _ xs _ false _ HN.out hb (HQ.out.rd hr) (by simp [HM.out])).mono ?_; rintro e w2 ⟨rfl, hq2⟩)
          go_ret
          have : r = false := by
            cases r
            · rfl
            · exact absurd ((HR.out.1 rfl).2.2 k (by omega) (by omega)) HM.out
          exact ⟨by subst this; rfl, HQ.out.trans hq2⟩
      · have hkn : k = n := by omega
        subst hkn
        go_wp2_with fail
        go_ret
        have : r = true := HR.out.2 ⟨h1, h2, HALL.out⟩
        exact ⟨by subst this; rfl, HQ.out⟩
  · have : r = false := by
      cases r
      · rfl
      · have := HR.out.1 rfl
        omega
    subst this
    go_enter Tryd.func19, Tryd.ntmps19
    go_wp2_with (go_at_call 29; refine (in_any _ _ _ false _ (by simp; omega)).mono ?_; rintro e w1 ⟨rfl, hq1⟩)
    go_ret
    exact ⟨rfl, hq1⟩

theorem prmS_any (A : Option Addr) (n c : Nat) (xs : List Int) (r : Bool) (w : World) (hn : xs.length = n) (hb : n ≤ 9223372036854775807) (hr : Rd w A xs) (hrr : r = true ↔ Prm xs) :
    Calls Tryd.prog 19 #[.slice A n c] w fun e w' => e = .returned (.bool r) ∧ Quiet w w' :=
  l01Perm_any A n c xs r w hn hb hr (by rw [hrr, prm_iff, hn])
theorem prmS_below (A : Option Addr) (n c : Nat) (xs : List Int) (r : Bool) (w : World) (hn : xs.length = n) (hb : n ≤ 9223372036854775807) (hr : Rd w A xs) (hrr : r = true ↔ Prm xs) :
    Calls Tryd.prog 19 #[.slice A n c] w fun e w' => e = .returned (.bool r) ∧ Below w.heap.size w w' :=
  (prmS_any A n c xs r w hn hb hr hrr).mono fun _ _ ⟨he, hq⟩ => ⟨he, hq.below _⟩
end Go.Proofs.YtkflmhmbkilmpabDoor
namespace Go.Proofs.YtkflmhmbkilmpabDoor
open Go Go.RowKit
set_option maxHeartbeats 2000000

set_option maxRecDepth 100000 in
theorem isRackS (A : Option Addr) (n c : Nat) (f : List (List Int)) (r : Bool) (w : World) (hn : f.length = n) (hb : n ≤ 1048576) (hbs : ∀ i, i < f.length → (f.getD i []).length ≤ 1048576) (hr : Rd2 w A f) (hres : RkRes f r) :
    Calls Tryd.prog 10 #[.agg #[.slice A n c]] w fun e w' => e = .returned (.bool r) ∧ Below w.heap.size w w' := by
  have HN := hide hn
  have HBS := hide hbs
  have HRD := hide hr
  have HR := hide hres
  have HB0 := hide ((Below.refl _ w).alloc (Nat.le_refl _) (Obj.cells #[Value.slice A n c] 24))
  have HK0 := hide (Blk.new w 24 [.slice A n c])
  by_cases ht : Tbl f
  · have HTB := hide ht
    obtain ⟨T, hT⟩ := FirstK.ex f n
    have HT := hide hT
    clear hn hbs hr hres ht hT
    go_enter Tryd.func10, Tryd.ntmps10
    go_wp2_with fail
    refine (l01Table_any _ _ _ f true _ HN.out (by omega) (fun i hi => by have := HBS.out i hi; omega) (HRD.out.later HB0.out) (by simp [HTB.out])).mono ?_
    rintro e w1 ⟨rfl, hq1⟩
    have HB1 := hide (HB0.out.trans (hq1.below _))
    have HK1 := hide (HK0.out.later (hq1.below _))
    clear hq1
    go_wp2_with fail
    go_loopw [3] (fun i wr => ∃ k : Nat, k ≤ n ∧ i = .int .i64 k ∧ Below w.heap.size w wr ∧ Blk wr w.heap.size 24 [.slice A n c] ∧ ∀ i, i < k → Prm (f.getD i [])) (fun i _ => n - (intOf i).toNat)
    case atStart => exact ⟨0, Nat.zero_le _, rfl, HB1.out, HK1.out, fun i hi => absurd hi (Nat.not_lt_zero _)⟩
    case round =>
      obtain ⟨k, hk, rfl, hbe, hkk, hall⟩ := hrel
      have HB := hide hbe
      have HK := hide hkk
      have HALL := hide hall
      clear hbe hkk hall
      have k0 := HK.out.cell 0 _ rfl
      by_cases hlt : k < n
      · obtain ⟨b, o, hA, _, hc⟩ := (HRD.out.later HB.out) (by have := HN.out; omega)
        obtain ⟨Ak, ck, hcell, hrd⟩ := hc k (by have := HN.out; omega)
        have hbk := HBS.out k (by have := HN.out; omega)
        obtain ⟨x, hx⟩ : ∃ x, x = f.getD k [] := ⟨_, rfl⟩
        obtain ⟨m, hm⟩ : ∃ m, x.length = m := ⟨_, rfl⟩
        rw [← hx] at hcell hrd hbk
        rw [hm] at hcell hbk
        have HX := hide hx
        have HM := hide hm
        have hltz : (k : Int) < n := by omega
        clear hx hm hc
        subst hA
        by_cases hp : Prm x
        · have HP := hide hp
          clear hp
          go_wp2_with fail
          clear k0
          refine (prmS_below _ _ _ x true _ HM.out (by omega) hrd (by simp [HP.out])).mono ?_
          rintro e w2 ⟨rfl, hq1⟩
          have HQ1 := hide hq1
          clear hq1
          go_wp2_with fail
          go_roundw
          case rel =>
            refine ⟨k + 1, by omega, by go_num, HB.out.trans (HQ1.out.mono HB.out.size), HK.out.later HQ1.out, fun i hi => ?_⟩
            by_cases e : i = k
            · subst e; rw [← HX.out]; exact HP.out
            · exact HALL.out i (by omega)
          case measure => simp [intOf]; omega
        · have HP := hide hp
          clear hp
          go_wp2_with fail
          clear k0
          refine (prmS_below _ _ _ x false _ HM.out (by omega) hrd (by simp [HP.out])).mono ?_
          rintro e w2 ⟨rfl, hq1⟩
          have HQ1 := hide hq1
          clear hq1
          have hnp : ¬ AllPrm f := fun h => by
            have h := h k (by have := HN.out; omega)
            rw [← HX.out] at h
            exact HP.out h
          have hrf : r = false := by
            cases r
            · rfl
            · have hrr : true = true ↔ Rck f := HR.out
              exact absurd (hrr.1 rfl).prm hnp
          subst hrf
          clear hnp
          go_wp2_with fail
          go_ret
          exact ⟨rfl, HB.out.trans (HQ1.out.mono HB.out.size)⟩
      · have hkn : k = n := by omega
        subst hkn
        have HAP : Hid (AllPrm f) := hide (fun i hi => HALL.out i (by have := HN.out; omega))
        go_wp2_with fail
        clear k0
        refine (faultK_any _ _ _ f T _ HN.out HTB.out (HRD.out.later HB.out) HT.out).mono ?_
        rintro e w3 (⟨hTe, rfl, hb3⟩ | ⟨hTl, g, rfl, hb3, hg, hob⟩)
        · have hrt : r = true := by
            have hrr : r = true ↔ Rck f := HR.out
            rw [hrr]
            refine ⟨⟨HTB.out, HAP.out⟩, ?_⟩
            rw [HN.out]
            exact HT.out.iff.1 hTe
          subst hrt
          have HB3 := hide (HB.out.trans (hb3.mono HB.out.size))
          clear hb3 hTe
          go_wp2_with fail
          go_ret
          exact ⟨rfl, HB3.out⟩
        · have hrf : r = false := by
            cases r
            · rfl
            · have hrr : true = true ↔ Rck f := HR.out
              have h := (hrr.1 rfl).2
              rw [HN.out] at h
              have := HT.out.iff.2 h
              omega
          subst hrf
          have HB3 := hide (HB.out.trans (hb3.mono HB.out.size))
          clear hb3 hTl hob
          go_wp2_with fail
          go_ret
          exact ⟨rfl, HB3.out⟩
  · have HTB := hide ht
    have hrf : r = false := by
      cases r
      · rfl
      · have hrr : true = true ↔ Rck f := HR.out
        exact absurd (hrr.1 rfl).tbl ht
    subst hrf
    clear hn hbs hr hres ht
    go_enter Tryd.func10, Tryd.ntmps10
    go_wp2_with fail
    refine (l01Table_any _ _ _ f false _ HN.out (by omega) (fun i hi => by have := HBS.out i hi; omega) (HRD.out.later HB0.out) (by simp [HTB.out])).mono ?_
    rintro e w1 ⟨rfl, hq1⟩
    have HB1 := hide (HB0.out.trans (hq1.below _))
    clear hq1
    go_wp2_with fail
    go_ret
    exact ⟨rfl, HB1.out⟩

end Go.Proofs.YtkflmhmbkilmpabDoor
namespace Go.Proofs.YtkflmhmbkilmpabDoor
open Go Go.RowKit
set_option maxHeartbeats 4000000

set_option maxRecDepth 100000 in
theorem parseRackS (s : ByteArray) (zs : List (List Int)) (code : Int) (k : Nat) (w : World) (hb : s.size ≤ 1048576) (hres : PrRes s zs code) (hk : zs.length = k) :
    Calls Tryd.prog 4 #[.string s] w (fun e w' => ∃ A' c', e = .returned (.tuple #[.agg #[.slice A' k c'], .int .i64 code]) ∧ Below w.heap.size w w' ∧ Obj2 39 2 w.heap.size w'.heap.size w' A' zs) := by
  obtain ⟨rows, code0, hpt, hl0, hrl0⟩ := PtRes.ex s
  obtain ⟨n, hn⟩ : ∃ n, rows.length = n := ⟨_, rfl⟩
  have HPT := hide hpt
  have HN := hide hn
  have HRL := hide hrl0
  skip
  rw [hn] at hl0
  have HB0 := hide ((Below.refl _ w).alloc (Nat.le_refl _) (Obj.cells #[.slice none 0 0] 24))
  have HK0 := hide (Blk.new w 24 [.slice none 0 0])
  rcases hres with ⟨hg, rfl, rfl⟩ | ⟨hg, rfl, rfl⟩
  · obtain ⟨hz, hc0⟩ := hpt.eq hg
    have hkn : n = k := by rw [← hn, ← hk, hz]
    subst hkn
    subst hc0
    have HRK : Hid (RkRes rows true) := hide ⟨fun _ => hpt.rck.2 hg, fun _ => rfl⟩
    rw [← hz]
    clear hg hz hpt hn hrl0 hk
    go_enter Tryd.func4, Tryd.ntmps4
    go_wp2_with fail
    refine calls_gen fun wp hwp => ?_
    replace HB0 : Hid (Below w.heap.size w wp) := hide (by rw [hwp]; exact HB0.out)
    replace HK0 : Hid (Blk wp w.heap.size 24 [.slice none 0 0]) := hide (by rw [hwp]; exact HK0.out)
    clear hwp
    refine (l01Parse_any s rows 0 true n _ hb HPT.out (by simp) HN.out).mono ?_
    rintro e w1 ⟨A1, c1, rfl, hb1, ho1⟩
    have HLOW : Hid (w.heap.size < wp.heap.size) := hide HK0.out.lt
    have HLO : Hid (w.heap.size ≤ wp.heap.size) := hide (Nat.le_of_lt HLOW.out)
    have HB1 := hide (HB0.out.trans (hb1.mono HB0.out.size))
    have HK1 := hide (HK0.out.later hb1)
    have HO1 := hide ho1
    clear hb1 ho1
    go_wp2_with fail
    refine calls_gen fun w2 hw2 => ?_
    have hb2 : Below w1.heap.size w1 w2 := by rw [hw2]; exact (Below.refl _ _).alloc (Nat.le_refl _) _
    have HB2 := hide (HB1.out.trans (hb2.mono HB1.out.size))
    have HK2 := hide (HK1.out.later hb2)
    have HO2 := hide (HO1.out.later hb2)
    have HR2 : Hid (Blk w2 w1.heap.size 24 [.slice A1 n c1]) := hide (by rw [hw2]; exact Blk.new _ _ _)
    have hs2 := hb2.size
    clear hw2 hb2
    refine (isRackS _ n _ rows true _ HN.out (by omega) HRL.out HO2.out.rd HRK.out).mono ?_
    rintro e w3 ⟨rfl, hb3⟩
    have HB3 := hide (HB2.out.trans (hb3.mono HB2.out.size))
    have HK3 := hide (HK2.out.later hb3)
    have HO3 := hide (HO2.out.later hb3)
    have HR3 := hide (HR2.out.later hb3)
    have hs3 := hb3.size
    clear hb3
    have k0 := HR3.out.cell 0 _ rfl
    have k2 := HK3.out.cell 0 _ rfl
    have k3 := HK3.out.frozen 0
    have hlow : w.heap.size < w1.heap.size := HK1.out.lt
    go_wp2_with fail
    refine bp_gen fun wf hwf => ?_
    obtain ⟨q0, hbf, hof⟩ := kend hwf HK3.out (Nat.le_refl _) HB3.out (HO3.out) HLO.out HLOW.out (by omega)
    clear hwf k0 k2 k3
    exact bodyPost_ret (v := .tuple #[.agg #[.slice A1 n c1], .int .i64 0]) (by simp [results, Tryd.results4, go_sem, q0]) rfl ⟨_, _, rfl, hbf, hof⟩
  · have hk0 : k = 0 := by rw [← hk]; rfl
    subst hk0
    have HRK : Hid (RkRes rows false) := hide ⟨fun h => (by cases h), fun h => absurd (hpt.rck.1 h) hg⟩
    clear hg hpt hn hrl0 hk
    rcases HPT.out with ⟨_, _, hcd⟩ | ⟨_, hrw, hcd⟩
    · subst hcd
      go_enter Tryd.func4, Tryd.ntmps4
      go_wp2_with fail
      refine calls_gen fun wp hwp => ?_
      replace HB0 : Hid (Below w.heap.size w wp) := hide (by rw [hwp]; exact HB0.out)
      replace HK0 : Hid (Blk wp w.heap.size 24 [.slice none 0 0]) := hide (by rw [hwp]; exact HK0.out)
      clear hwp
      refine (l01Parse_any s rows 0 true n _ hb HPT.out (by simp) HN.out).mono ?_
      rintro e w1 ⟨A1, c1, rfl, hb1, ho1⟩
      have HLOW : Hid (w.heap.size < wp.heap.size) := hide HK0.out.lt
      have HLO : Hid (w.heap.size ≤ wp.heap.size) := hide (Nat.le_of_lt HLOW.out)
      have HB1 := hide (HB0.out.trans (hb1.mono HB0.out.size))
      have HK1 := hide (HK0.out.later hb1)
      have HO1 := hide ho1
      clear hb1 ho1
      go_wp2_with fail
      refine calls_gen fun w2 hw2 => ?_
      have hb2 : Below w1.heap.size w1 w2 := by rw [hw2]; exact (Below.refl _ _).alloc (Nat.le_refl _) _
      have HB2 := hide (HB1.out.trans (hb2.mono HB1.out.size))
      have HK2 := hide (HK1.out.later hb2)
      have HO2 := hide (HO1.out.later hb2)
      have HR2 : Hid (Blk w2 w1.heap.size 24 [.slice A1 n c1]) := hide (by rw [hw2]; exact Blk.new _ _ _)
      have hs2 := hb2.size
      clear hw2 hb2
      refine (isRackS _ n _ rows false _ HN.out (by omega) HRL.out HO2.out.rd HRK.out).mono ?_
      rintro e w3 ⟨rfl, hb3⟩
      have HB3 := hide (HB2.out.trans (hb3.mono HB2.out.size))
      have HK3 := hide (HK2.out.later hb3)
      have HO3 := hide (HO2.out.later hb3)
      have HR3 := hide (HR2.out.later hb3)
      have hs3 := hb3.size
      clear hb3
      have k2 := HK3.out.cell 0 _ rfl
      have k3 := HK3.out.frozen 0
      go_wp2_with fail
      refine bp_gen fun wf hwf => ?_
      have HRF : Blk wf w.heap.size 24 [.slice none 0 0] := by rw [hwf]; first | exact HK3.out | exact HK3.out.set 0 _
      have hbf : Below w.heap.size w wf := by rw [hwf]; first | exact HB3.out | exact HB3.out.setCell (p := ⟨w.heap.size, 0, none⟩) (Nat.le_refl _) _
      have q0 := HRF.cell 0 _ rfl
      clear hwf k2 k3
      exact bodyPost_ret (v := .tuple #[.agg #[.slice none 0 0], .int .i64 6]) (by simp [results, Tryd.results4, go_sem, q0]) rfl ⟨_, _, rfl, hbf, .inl ⟨rfl, rfl⟩⟩
    · subst hcd
      go_enter Tryd.func4, Tryd.ntmps4
      go_wp2_with fail
      refine calls_gen fun wp hwp => ?_
      replace HB0 : Hid (Below w.heap.size w wp) := hide (by rw [hwp]; exact HB0.out)
      replace HK0 : Hid (Blk wp w.heap.size 24 [.slice none 0 0]) := hide (by rw [hwp]; exact HK0.out)
      clear hwp
      refine (l01Parse_any s rows 6 false n _ hb HPT.out (by simp) HN.out).mono ?_
      rintro e w1 ⟨A1, c1, rfl, hb1, ho1⟩
      have HLOW : Hid (w.heap.size < wp.heap.size) := hide HK0.out.lt
      have HLO : Hid (w.heap.size ≤ wp.heap.size) := hide (Nat.le_of_lt HLOW.out)
      have HB1 := hide (HB0.out.trans (hb1.mono HB0.out.size))
      have HK1 := hide (HK0.out.later hb1)
      have HO1 := hide ho1
      clear hb1 ho1
      have k2 := fun o => (HK1.out.alloc o).cell 0 _ rfl
      have k3 := fun o => (HK1.out.alloc o).frozen 0
      go_wp2_with fail
      refine bp_gen fun wf hwf => ?_
      have HRF : Blk wf w.heap.size 24 [.slice none 0 0] := by rw [hwf]; exact (HK1.out.alloc _).set 0 _
      have hbf : Below w.heap.size w wf := by rw [hwf]; exact (HB1.out.alloc HB1.out.size _).setCell (p := ⟨w.heap.size, 0, none⟩) (Nat.le_refl _) _
      have q0 := HRF.cell 0 _ rfl
      clear hwf k2 k3
      exact bodyPost_ret (v := .tuple #[.agg #[.slice none 0 0], .int .i64 6]) (by simp [results, Tryd.results4, go_sem, q0]) rfl ⟨_, _, rfl, hbf, .inl ⟨rfl, rfl⟩⟩
end Go.Proofs.YtkflmhmbkilmpabDoor
