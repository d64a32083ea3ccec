import Derived.Test.YtaejgmdeiemhcaaZbi
import Derived.Test.YtaejgmdeiemhcaaSortLaid
import Derived.Test.YtaejgmdeiemhcaaZh
import Derived.Test.YtaejgmdeiemhcaaZe
namespace Go.Proofs.Ytaejgmdeiemhcaa
open Go Go.RowKit Go.Sort Go.Lib Go.Shelf
set_option maxHeartbeats 2000000
/-- slices.SortFunc by slices.Compare over different rows of one length that lie in memory of their own. -/
theorem sortRows_any (n : Nat) (B : Nat) (v : Value) (rows : List (List Int)) (vals : List Value) (w : World) (hb : n ≤ 1048576) (hr0 : 0 < rows.length) (hrb : rows.length ≤ 1048576) (hls : ∀ i, i < rows.length → (rows.getD i []).length = n) (hnd : rows.Nodup) (hB : B ≤ w.heap.size) (h : LstV 37 2 B w v rows vals) :
    Calls Try.prog 93 #[v, .func (.func 94) #[] #[]] w fun e w' => e = .returned (.tuple #[]) ∧ Go.RowKit.Below B w w' ∧ ∃ rows' vals', LstV 37 2 B w' v rows' vals' ∧ Asc rows' ∧ rows'.length = rows.length ∧ ∀ x, x ∈ rows' ↔ x ∈ rows := by
  obtain ⟨M, hM⟩ : ∃ M, rows.length = M + 1 := ⟨rows.length - 1, by omega⟩
  have hvl : vals.length = M + 1 := by rw [ownsRow_len h.own, hM]
  rcases h.own.2 with ⟨_, hz⟩ | ⟨g, cap, cur, rfl, hBg, hh, hcap, hmx, hsz, htk⟩
  · omega
  · have hgl : g < w.heap.size := (Array.getElem?_eq_some_iff.1 hh).1
    let R : Fin (M + 1) → List Int := fun i => rows.getD i.val []
    let V : Fin (M + 1) → Value := fun i => vals.getD i.val (.slice none 0 0)
    have hV : ∀ i : Fin (M + 1), vals[i.val]? = some (V i) := fun i => by
      have : i.val < vals.length := by omega
      simp [V, this]
    have hrow : ∀ i : Fin (M + 1), ∃ A c, V i = .slice A n c ∧ Obj1 2 B w.heap.size w A (R i) := fun i => by
      obtain ⟨A, c, e1, e2⟩ := h.row i.val (by omega)
      rw [hV i] at e1
      rw [hls i.val (by omega)] at e1
      exact ⟨A, c, Option.some.inj e1, e2⟩
    have hone : OneCell V := fun i => by
      obtain ⟨A, c, e, _⟩ := hrow i
      rw [e]; rfl
    have hinj : ∀ x y, R x = R y → x = y := fun x y e => by
      have h1 : x.val < rows.length := by omega
      have h2 : y.val < rows.length := by omega
      have e2 : rows[x.val] = rows[y.val] := by simpa [R, h1, h2] using e
      exact Fin.ext ((List.getElem_inj (h₀ := h1) (h₁ := h2) hnd).1 e2)
    have hcur : ∀ i : Fin (M + 1), cur[i.val]? = some (V i) := fun i => by
      have h5 := hV i
      rw [← htk, List.getElem?_take, if_pos (by omega)] at h5
      simpa using h5
    have hts : (37 : TypeId) ≠ 2 := by decide
    have hkeep : ∀ (k : Nat) (d : Array (Fin (M + 1))) (os : Array Obj), KeepT 2 w (sortWorld V w g 0 k d os) := fun k d os => sortWorld_keep V w g k d os hts hh
    have hdsz : (Array.ofFn (n := M + 1) id).size = M + 1 := by simp
    have hH : Holds V w g 0 (Array.ofFn (n := M + 1) id) := fun j hj => by
      rw [hdsz] at hj
      have e : (Array.ofFn (n := M + 1) id)[j]! = ⟨j, hj⟩ := by
        rw [getElem!_pos _ j (by simpa using hj)]
        simp
      rw [e, Nat.zero_add]
      exact ⟨by rw [cell_of_row w g j cur 37 (0, 0) hh]; exact hcur ⟨j, hj⟩, by simp [World.frozen?, hh]⟩
    have hcmp : CmpLays1 Try.prog 94 #[] V (fun i j => cmpW (R i) (R j)) g 0 (Array.ofFn (n := M + 1) id).size w := fun m os dk _ x y => by
      obtain ⟨A, c, e1, o1⟩ := hrow x
      obtain ⟨A2, c2, e2, o2⟩ := hrow y
      have hx := ((hkeep m dk os).obj o1).rd
      have hy := ((hkeep m dk os).obj o2).rd
      have hc := cmpRow_any n A A2 c c2 (R x) (R y) (sortWorld V w g 0 m dk os) (hls x.val (by omega)) (hls y.val (by omega)) hb hx hy
      rw [e1, e2]
      exact hc.mono fun e w' hh2 => ⟨hh2.1, 0, #[], by rw [hh2.2, grow_empty]; rfl⟩
    have hS := Any.slices_SortFunc_total Try.sortR V hone (fun i j => cmpW (R i) (R j)) (rowSwo R) 94 #[] g 0 cap (Array.ofFn (n := M + 1) id) w (enters_of Try.func94 (by kernel_rfl) rfl) hcmp hH hgl (by rw [hdsz]; omega) (rowTot R hinj)
    rw [hdsz] at hS
    change Calls Try.prog 93 _ _ _ at hS
    rw [hM]
    refine hS.mono ?_
    rintro e w' ⟨rfl, k, os, hw'⟩
    have hsrt : ((Array.ofFn (n := M + 1) id).toList.mergeSort fun x y => !(ltOf (fun i j => cmpW (R i) (R j))) y x) = srtI R := rfl
    rw [hsrt] at hw'
    have hK := hkeep k (srtI R).toArray os
    rw [← hw'] at hK
    have hlow : Go.RowKit.Below B w w' := by rw [hw']; exact sortWorld_low V w g k _ os B hBg hB
    have htop : w'.heap[g]? = some (.cells (putCells V 0 (srtI R).toArray cur) 37 (0, 0)) := by rw [hw']; exact sortWorld_top V w g k _ os cur _ _ hh
    have hlen := srtI_len R
    have hnds := srtI_nd R
    refine ⟨rfl, hlow, (srtI R).map R, (srtI R).map V, ⟨⟨by simp [hlen], .inr ⟨g, cap, _, by rw [List.length_map, hlen], hBg, htop, ?_, hmx, ?_, ?_⟩⟩, fun i hi => ?_, fun i j u u' g' hij hu hu' hg' => ?_⟩, srtI_asc R hinj, by simp [hlen], fun x => ?_⟩
    · simp [hlen]; omega
    · simp [putCells, hsz]
    · apply List.ext_getElem?
      intro j
      rw [List.getElem?_take]
      by_cases hj : j < M + 1
      · have hj2 : j < cur.size := by omega
        have e1 : j < ((srtI R).map R).length * 1 := by simp [hlen]; omega
        rw [if_pos e1]
        have hjs : j < (srtI R).length := by omega
        simp only [putCells, Array.getElem?_toList, Array.getElem?_mapIdx, List.getElem?_map]
        rw [Array.getElem?_eq_getElem hj2, List.getElem?_eq_getElem hjs]
        simp [hlen, hj]
      · have e1 : ¬ j < ((srtI R).map R).length * 1 := by simp [hlen]; omega
        rw [if_neg e1, List.getElem?_eq_none (by simp [hlen]; omega)]
    · have hi2 : i < (srtI R).length := by simpa using hi
      obtain ⟨A, c, e1, o1⟩ := hrow (srtI R)[i]
      have e2 : ((srtI R).map R).getD i [] = R (srtI R)[i] := by simp [hi2]
      refine ⟨A, c, ?_, ?_⟩
      · rw [List.getElem?_map, List.getElem?_eq_getElem hi2, e2]
        show some (V (srtI R)[i]) = _
        rw [e1, show (R (srtI R)[i]).length = n from hls _ (by omega)]
      · rw [e2]
        exact (hK.obj o1).mono (Nat.le_refl _) hlow.size
    · have hj2 : j < (srtI R).length := by have := (List.getElem?_eq_some_iff.1 hu').1; simpa using this
      have hi2 : i < (srtI R).length := by omega
      rw [List.getElem?_map, List.getElem?_eq_getElem hi2] at hu
      rw [List.getElem?_map, List.getElem?_eq_getElem hj2] at hu'
      have hu1 : V (srtI R)[i] = u := Option.some.inj hu
      have hu2 : V (srtI R)[j] = u' := Option.some.inj hu'
      have hne : (srtI R)[i] ≠ (srtI R)[j] := fun e => by
        have := (List.getElem_inj (h₀ := hi2) (h₁ := hj2) hnds).1 e
        omega
      have hne2 : (srtI R)[i].val ≠ (srtI R)[j].val := fun e => hne (Fin.ext e)
      intro e
      rcases Nat.lt_or_gt_of_ne hne2 with hlt | hlt
      · exact h.ne _ _ u u' g' hlt (by rw [hV, hu1]) (by rw [hV, hu2]) hg' e
      · exact h.ne _ _ u' u g' hlt (by rw [hV, hu2]) (by rw [hV, hu1]) e hg'
    · constructor
      · intro hx
        obtain ⟨i, _, rfl⟩ := List.mem_map.1 hx
        have : i.val < rows.length := by omega
        simp [R, this]
      · intro hx
        obtain ⟨j, hj, rfl⟩ := List.getElem_of_mem hx
        refine List.mem_map.2 ⟨⟨j, by omega⟩, srtI_mem R _, ?_⟩
        simp [R, hj]
end Go.Proofs.Ytaejgmdeiemhcaa
namespace Go.Proofs.Ytaejgmdeiemhcaa
open Go Go.RowKit
set_option maxHeartbeats 1000000

theorem isSystem_any (N : Int) (A : Option Addr) (n c : Nat) (rows : List (List Int)) (r : Bool) (w : World) (hlo : -9223372036854775808 ≤ N) (hhi : N ≤ 9223372036854775807) (hn : rows.length = n) (hb : n ≤ 1048576) (hbs : ∀ i, i < rows.length → (rows.getD i []).length ≤ 1048576) (hr : Rd2 w A rows) (hrr : r = true ↔ Sys N rows) :
    Calls Try.prog 91 #[.int .i64 N, .slice A n c] w fun e w' => e = .returned (.bool r) ∧ Below w.heap.size w w' := by
  have HN := hide hn
  have HR := hide hrr
  clear hn hrr
  have hno : ¬ Sys N rows → r = false := fun h => by
    cases r
    · rfl
    · exact absurd (HR.out.1 rfl) h
  have HNO := hide hno
  clear hno
  by_cases h1 : N < 1
  · have hf := HNO.out (fun h => by have := h.1; omega)
    subst hf
    go_enter Try.func91, Try.ntmps91
    go_wp2_with fail
    go_ret
    exact ⟨rfl, Below.refl _ _⟩
  · by_cases h12 : 12 < N
    · have hf := HNO.out (fun h => by have := h.2.1; omega)
      subst hf
      go_enter Try.func91, Try.ntmps91
      go_wp2_with fail
      go_ret
      exact ⟨rfl, Below.refl _ _⟩
    · by_cases h16 : 16 < n
      · have hf := HNO.out (fun h => by have := h.2.2.1; have := HN.out; omega)
        subst hf
        have h16z : (16 : Int) < (n : Int) := by omega
        go_enter Try.func91, Try.ntmps91
        go_wp2_with fail
        go_ret
        exact ⟨rfl, Below.refl _ _⟩
      · have h16z : ¬ (16 : Int) < (n : Int) := by omega
        go_enter Try.func91, Try.ntmps91
        go_wp2_with fail
        go_loopw [20] (fun i wr => ∃ k : Nat, k ≤ n ∧ i = .int .i64 k ∧ Below w.heap.size w wr ∧ ∀ i, i < k → ((rows.getD i []).length : Int) = N) (fun i _ => n - (intOf i).toNat)
        case atStart => exact ⟨0, Nat.zero_le _, rfl, Below.refl _ _, fun i hi => absurd hi (Nat.not_lt_zero _)⟩
        case round =>
          obtain ⟨k, hk, rfl, hbe, hall⟩ := hrel
          have HB := hide hbe
          have HALL := hide hall
          clear hbe hall
          by_cases hlt : k < n
          · obtain ⟨b, o, rfl, _, hc⟩ := (hr.later HB.out) (by have := HN.out; omega)
            obtain ⟨Ak, ck, hcell, hrd⟩ := hc k (by have := HN.out; omega)
            have hbk := hbs k (by have := HN.out; omega)
            obtain ⟨x, hx⟩ : ∃ x, x = rows.getD k [] := ⟨_, rfl⟩
            obtain ⟨m, hm⟩ : ∃ m, x.length = m := ⟨_, rfl⟩
            rw [← hx] at hcell hbk
            rw [hm] at hcell hbk
            have HX := hide hx
            have HM := hide hm
            clear hx hm hc hbs hrd
            have hltz : (k : Int) < n := by omega
            by_cases hmn : (m : Int) = N
            · have hne : ((m : Int) != N) = false := by simp [hmn]
              have HMN := hide hmn
              clear hmn
              go_wp2_with fail
              go_roundw
              case rel =>
                refine ⟨k + 1, by omega, by go_num, HB.out, fun i hi => ?_⟩
                by_cases e : i = k
                · subst e; rw [← HX.out, HM.out]; exact HMN.out
                · exact HALL.out i (by omega)
              case measure => simp [intOf]; omega
            · have hne : ((m : Int) != N) = true := by simpa using hmn
              have hf := HNO.out (fun h => by have := (h.2.2.2 k (by have := HN.out; omega)).1; rw [← HX.out, HM.out] at this; exact hmn this)
              subst hf
              have HMN := hide hmn
              clear hmn
              go_wp2_with fail
              go_ret
              exact ⟨rfl, HB.out⟩
          · have hkn : k = n := by omega
            subst hkn
            go_wp2_with fail
            refine (rowsI_any _ _ _ rows r _ HN.out hb hbs (hr.later HB.out) ?_).mono ?_
            · constructor
              · intro h
                exact fun i hi => ((HR.out.1 h).2.2.2 i hi).2
              · intro h
                exact HR.out.2 ⟨by omega, by omega, by have := HN.out; omega, fun i hi => ⟨HALL.out i (by have := HN.out; omega), h i hi⟩⟩
            rintro e w1 ⟨rfl, hq1⟩
            have HQ1 := hide hq1
            clear hq1
            go_wp2_with fail
            go_ret
            exact ⟨rfl, HB.out.trans (HQ1.out.mono HB.out.size)⟩
end Go.Proofs.Ytaejgmdeiemhcaa
