import Derived.Test.YtiaebilcgmahlaaProg
import Derived.Test.YtiaebilcgmahlaaXa
import Derived.Test.YtiaebilcgmahlaaXd
import Derived.Test.YtiaebilcgmahlaaXc
import Derived.Test.YtiaebilcgmahlaaXb
import Derived.Test.YtiaebilcgmahlaaSortLaid
import Derived.Test.YtiaebilcgmahlaaXe
import Derived.OwnWalk
import Derived.Deep.AppendLies
import Derived.Shelf.Abstract
import Derived.Shelf.Lay
namespace Go.Proofs.Ytiaebilcgmahlaa
open Go Go.RowKit
set_option maxHeartbeats 1000000

theorem cell_other {w : World} {b o k j : Nat} (h : b ≠ k) (v : Value) : (w.setCell ⟨k, j, none⟩ v).cell? ⟨b, o, none⟩ = w.cell? ⟨b, o, none⟩ :=
  World.cell?_of_block (a := ⟨b, o, none⟩) (Below.heap_setCell w ⟨k, j, none⟩ v b h)

theorem lead_any (A : Option Addr) (n c : Nat) (f : List (List Int)) (B : Option Addr) (m d : Nat) (s : List (List Int)) (x y : Nat) (w : World) (hz : ZArg 1048576 w A n f B m s) (hp : PMap f s) (hx : x < n) (hy : y < n) :
    Calls Try.prog 80 #[.agg #[.slice A n c, .slice B m d], .agg #[.int .i64 x, .int .i64 y]] w fun e w' => e = .returned (.agg #[.int .i64 (ap f x y : Nat), .int .i64 (ap s x y : Nat)]) ∧ Below w.heap.size w w' := by
  obtain ⟨b, o, rfl, hb, hc⟩ := hp.1.cells hz.fst hz.sz.fl
  have hm : s.length = n := by rw [← hp.2.2]; exact hz.sz.fl
  obtain ⟨b2, o2, rfl, hb2, hc2⟩ := hp.2.1.cells hz.snd hm
  obtain ⟨bx, ox, cx, h1, h2, h3⟩ := hc x hx
  obtain ⟨by', oy, cy, h4, h5, h6⟩ := hc2 x hx
  have h7 := h3 y hy
  have h8 := h6 y hy
  have hmn : m = n := by rw [← hz.sz.sl]; exact hm
  subst hmn
  have hnb := hz.sz.nb
  obtain ⟨u, hu⟩ : ∃ u, ap f x y = u := ⟨_, rfl⟩
  obtain ⟨v, hv⟩ : ∃ v, ap s x y = v := ⟨_, rfl⟩
  rw [hu] at h7 ⊢
  rw [hv] at h8 ⊢
  have H1 := hide h1
  have H4 := hide h4
  have H7 := hide h7
  have H8 := hide h8
  clear h1 h3 h4 h6 h7 h8 hc hc2 hu hv hm hz hp
  go_enter Try.func80, Try.ntmps80
  go_wp2_with fail
  refine wp_gen fun w1 hw1 => ?_
  have hbb : Below w.heap.size w w1 := by rw [hw1]; exact (((Below.refl _ _).alloc (Nat.le_refl _) _).alloc (by simp) _).alloc (by simp; omega) _
  have HBB := hide hbb
  have hk0 : Blk w1 w.heap.size 29 [.slice (some ⟨b, o, none⟩) m c, .slice (some ⟨b2, o2, none⟩) m d] := by rw [hw1]; exact ((Blk.new _ _ _).alloc _).alloc _
  have hk1 : Blk w1 (w.heap.size + 1) 94 [.int .i64 x, .int .i64 y] := by rw [hw1]; have h := (Blk.new (w.alloc (Obj.cells #[.slice (some ⟨b, o, none⟩) m c, .slice (some ⟨b2, o2, none⟩) m d] 29)) 94 [.int .i64 x, .int .i64 y]).alloc (Obj.cells #[Value.int IntKind.i64 0, Value.int IntKind.i64 0] 94); simpa using h
  have hk2 : Blk w1 (w.heap.size + 1 + 1) 94 [.int .i64 0, .int .i64 0] := by rw [hw1]; have h := (Blk.new ((w.alloc (Obj.cells #[.slice (some ⟨b, o, none⟩) m c, .slice (some ⟨b2, o2, none⟩) m d] 29)).alloc (Obj.cells #[Value.int IntKind.i64 x, Value.int IntKind.i64 y] 94)) 94 [.int .i64 0, .int .i64 0]); simpa using h
  have HK2 := hide hk2
  have a0 := hk0.cell 0 _ rfl
  have a1 := hk0.cell 1 _ rfl
  have a2 := hk1.cell 0 _ rfl
  have a3 := hk1.cell 1 _ rfl
  have a4 : w1.cell? ⟨b, o + x, none⟩ = some (.slice (some ⟨bx, ox, none⟩) m cx) := (hbb.cell (p := ⟨b, o + x, none⟩) hb).trans H1.out
  have a5 : w1.cell? ⟨b2, o2 + x, none⟩ = some (.slice (some ⟨by', oy, none⟩) m cy) := (hbb.cell (p := ⟨b2, o2 + x, none⟩) hb2).trans H4.out
  have a6 : w1.cell? ⟨bx, ox + y, none⟩ = some (.int .i64 u) := (hbb.cell (p := ⟨bx, ox + y, none⟩) h2).trans H7.out
  have a7 : w1.cell? ⟨by', oy + y, none⟩ = some (.int .i64 v) := (hbb.cell (p := ⟨by', oy + y, none⟩) h5).trans H8.out
  have a8 := hk2.cell 0 _ rfl
  have a9 := hk2.cell 1 _ rfl
  have b0 := hk2.frozen 0
  have b1 := hk2.frozen 1
  have hxz : (x : Int) < m := by omega
  have hyz : (y : Int) < m := by omega
  have hxz0 : (0 : Int) ≤ x := by omega
  have hyz0 : (0 : Int) ≤ y := by omega
  have k1 : w.heap.size + 1 + 1 ≠ w.heap.size := by omega
  have k2 : w.heap.size + 1 + 1 ≠ b := by omega
  have k3 : w.heap.size + 1 + 1 ≠ b2 := by omega
  have k4 : w.heap.size + 1 + 1 ≠ bx := by omega
  have k5 : w.heap.size + 1 + 1 ≠ by' := by omega
  have j1 := k1.symm
  have j2 := k2.symm
  have j3 := k3.symm
  have j4 := k4.symm
  have j5 := k5.symm
  clear hw1 hk0 hk1 hk2 hbb hb hb2 h2 h5
  go_region_held3 (fun w' => w'.cell? ⟨w.heap.size, 0, none⟩ = some (.slice (some ⟨b, o, none⟩) m c) ∧ w'.cell? ⟨w.heap.size, 1, none⟩ = some (.slice (some ⟨b2, o2, none⟩) m d) ∧ w'.cell? ⟨w.heap.size + 1, 0, none⟩ = some (.int .i64 x) ∧ w'.cell? ⟨w.heap.size + 1, 1, none⟩ = some (.int .i64 y) ∧ w'.cell? ⟨b, o + x, none⟩ = some (.slice (some ⟨bx, ox, none⟩) m cx) ∧ w'.cell? ⟨b2, o2 + x, none⟩ = some (.slice (some ⟨by', oy, none⟩) m cy) ∧ w'.cell? ⟨bx, ox + y, none⟩ = some (.int .i64 u) ∧ w'.cell? ⟨by', oy + y, none⟩ = some (.int .i64 v)) (first | exact ⟨a0, a1, a2, a3, a4, a5, a6, a7⟩ | go_keep) (first | fail)
  clear k1 k2 k3 k4 k5 j1 j2 j3 j4 j5 a0 a1 a2 a3 a4 a5 a6 a7 a8 a9 b0 b1
  go_wp2_with fail
  refine bp_gen fun wf hwf => ?_
  have HRF : Blk wf (w.heap.size + 1 + 1) 94 [.int .i64 u, .int .i64 v] := by rw [hwf]; exact ((HK2.out.set 0 _).set 1 _).drew
  have HBF : Below w.heap.size w wf := by rw [hwf]; exact ((HBB.out.setCell (by show w.heap.size ≤ w.heap.size + 1 + 1; omega) _).setCell (by show w.heap.size ≤ w.heap.size + 1 + 1; omega) _).drew
  have q0 := HRF.cell 0 _ rfl
  have q1 := HRF.cell 1 _ rfl
  clear hwf
  exact bodyPost_ret (v := .agg #[.int .i64 u, .int .i64 v]) (by simp [results, Try.results80, go_sem, q0, q1]) rfl ⟨rfl, HBF⟩
end Go.Proofs.Ytiaebilcgmahlaa
namespace Go.Proofs.Ytiaebilcgmahlaa
open Go Go.RowKit
set_option maxHeartbeats 1000000

theorem mapS_any (A : Option Addr) (n c : Nat) (f : List (List Int)) (B : Option Addr) (m d : Nat) (s : List (List Int)) (r : Bool) (w : World) (hz : ZArg 1048576 w A n f B m s) (hr : r = true ↔ PMap f s) :
    Calls Try.prog 88 #[.agg #[.slice A n c, .slice B m d]] w fun e w' => e = .returned (.bool r) ∧ Below w.heap.size w w' := by
  have HZ := hide hz
  have HR := hide hr
  clear hz hr
  have HB0 := hide ((Below.refl _ w).alloc (Nat.le_refl _) (Obj.cells #[Value.slice A n c, Value.slice B m d] 29))
  have HK0 := hide (Blk.new w 29 [.slice A n c, .slice B m d])
  by_cases h1 : Tbl f
  · have H1 := hide h1
    clear h1
    by_cases h2 : Tbl s
    · have H2 := hide h2
      clear h2
      have HEQ : Hid (r = true ↔ n = m) := hide (by rw [HR.out, ← HZ.out.sz.fl, ← HZ.out.sz.sl]; exact ⟨fun h => h.2.2, fun h => ⟨H1.out, H2.out, h⟩⟩)
      have hfin : r = decide (n = m) := by
        have h := HEQ.out
        cases r <;> simp at h ⊢ <;> exact h
      by_cases hnm : n = m
      · subst hnm
        simp at hfin
        subst hfin
        go_enter Try.func88, Try.ntmps88
        go_wp2_with fail
        refine (l01Table_any _ _ _ f true _ HZ.out.sz.fl (by have := HZ.out.sz.nb; omega) (fun i hi => by have := HZ.out.sz.nr i hi; omega) (HZ.out.fst.later HB0.out) (by simp [H1.out])).mono ?_
        rintro e w1 ⟨rfl, hq1⟩
        have HB1 := hide (HB0.out.trans (hq1.below _))
        have HK1 := hide (HK0.out.later (hq1.below _))
        have k0 := HK1.out.cell 0 _ rfl
        have k1 := HK1.out.cell 1 _ rfl
        clear hq1
        go_wp2_with fail
        clear k0 k1
        refine (l01Table_any _ _ _ s true _ HZ.out.sz.sl (by have := HZ.out.sz.mb; omega) (fun i hi => by have := HZ.out.sz.mr i hi; omega) (HZ.out.snd.later HB1.out) (by simp [H2.out])).mono ?_
        rintro e w2 ⟨rfl, hq2⟩
        have HB2 := hide (HB1.out.trans (hq2.below _))
        have HK2 := hide (HK1.out.later (hq2.below _))
        have k0 := HK2.out.cell 0 _ rfl
        have k1 := HK2.out.cell 1 _ rfl
        have hnb := HZ.out.sz.nb
        clear hq2
        go_wp2_with fail
        go_ret
        exact ⟨rfl, HB2.out⟩
      · have hne : decide ((n : Int) = (m : Int)) = false := by simp; omega
        have hne2 : ((n : Int) == (m : Int)) = false := by simp; omega
        simp [hnm] at hfin
        subst hfin
        clear hnm
        go_enter Try.func88, Try.ntmps88
        go_wp2_with fail
        refine (l01Table_any _ _ _ f true _ HZ.out.sz.fl (by have := HZ.out.sz.nb; omega) (fun i hi => by have := HZ.out.sz.nr i hi; omega) (HZ.out.fst.later HB0.out) (by simp [H1.out])).mono ?_
        rintro e w1 ⟨rfl, hq1⟩
        have HB1 := hide (HB0.out.trans (hq1.below _))
        have HK1 := hide (HK0.out.later (hq1.below _))
        have k0 := HK1.out.cell 0 _ rfl
        have k1 := HK1.out.cell 1 _ rfl
        clear hq1
        go_wp2_with fail
        clear k0 k1
        refine (l01Table_any _ _ _ s true _ HZ.out.sz.sl (by have := HZ.out.sz.mb; omega) (fun i hi => by have := HZ.out.sz.mr i hi; omega) (HZ.out.snd.later HB1.out) (by simp [H2.out])).mono ?_
        rintro e w2 ⟨rfl, hq2⟩
        have HB2 := hide (HB1.out.trans (hq2.below _))
        have HK2 := hide (HK1.out.later (hq2.below _))
        have k0 := HK2.out.cell 0 _ rfl
        have k1 := HK2.out.cell 1 _ rfl
        have hnb := HZ.out.sz.nb
        have hmb := HZ.out.sz.mb
        clear hq2
        go_wp2_with fail
        go_ret
        exact ⟨rfl, HB2.out⟩
    · have hrt : r = false := by
        cases r
        · rfl
        · exact absurd (HR.out.1 rfl).2.1 h2
      have H2 := hide h2
      subst hrt
      clear h2
      go_enter Try.func88, Try.ntmps88
      go_wp2_with fail
      refine (l01Table_any _ _ _ f true _ HZ.out.sz.fl (by have := HZ.out.sz.nb; omega) (fun i hi => by have := HZ.out.sz.nr i hi; omega) (HZ.out.fst.later HB0.out) (by simp [H1.out])).mono ?_
      rintro e w1 ⟨rfl, hq1⟩
      have HB1 := hide (HB0.out.trans (hq1.below _))
      have HK1 := hide (HK0.out.later (hq1.below _))
      have k0 := HK1.out.cell 0 _ rfl
      have k1 := HK1.out.cell 1 _ rfl
      clear hq1
      go_wp2_with fail
      refine (l01Table_any _ _ _ s false _ HZ.out.sz.sl (by have := HZ.out.sz.mb; omega) (fun i hi => by have := HZ.out.sz.mr i hi; omega) (HZ.out.snd.later HB1.out) (by simp [H2.out])).mono ?_
      rintro e w2 ⟨rfl, hq2⟩
      have HB2 := hide (HB1.out.trans (hq2.below _))
      clear hq2
      go_wp2_with fail
      go_ret
      exact ⟨rfl, HB2.out⟩
  · have hrt : r = false := by
      cases r
      · rfl
      · exact absurd (HR.out.1 rfl).1 h1
    have H1 := hide h1
    subst hrt
    clear h1
    go_enter Try.func88, Try.ntmps88
    go_wp2_with fail
    refine (l01Table_any _ _ _ f false _ HZ.out.sz.fl (by have := HZ.out.sz.nb; omega) (fun i hi => by have := HZ.out.sz.nr i hi; omega) (HZ.out.fst.later HB0.out) (by simp [H1.out])).mono ?_
    rintro e w1 ⟨rfl, hq1⟩
    have HB1 := hide (HB0.out.trans (hq1.below _))
    clear hq1
    go_wp2_with fail
    go_ret
    exact ⟨rfl, HB1.out⟩
end Go.Proofs.Ytiaebilcgmahlaa
namespace Go.Proofs.Ytiaebilcgmahlaa
open Go Go.RowKit Go.Sort Go.Lib Go.Shelf
set_option maxHeartbeats 2000000
/-- slices.SortFunc by slices.Compare over different rows of one length that lie in memory of their own. -/
theorem sortRows_any (n : Nat) (B : Nat) (v : Value) (rows : List (List Int)) (vals : List Value) (w : World) (hb : n ≤ 1048576) (hr0 : 0 < rows.length) (hrb : rows.length ≤ 1048576) (hls : ∀ i, i < rows.length → (rows.getD i []).length = n) (hnd : rows.Nodup) (hB : B ≤ w.heap.size) (h : LstV 25 2 B w v rows vals) :
    Calls Try.prog 101 #[v, .func (.func 102) #[] #[]] w fun e w' => e = .returned (.tuple #[]) ∧ Go.RowKit.Below B w w' ∧ ∃ rows' vals', LstV 25 2 B w' v rows' vals' ∧ Asc rows' ∧ rows'.length = rows.length ∧ ∀ x, x ∈ rows' ↔ x ∈ rows := by
  obtain ⟨M, hM⟩ : ∃ M, rows.length = M + 1 := ⟨rows.length - 1, by omega⟩
  have hvl : vals.length = M + 1 := by rw [ownsRow_len h.own, hM]
  rcases h.own.2 with ⟨_, hz⟩ | ⟨g, cap, cur, rfl, hBg, hh, hcap, hmx, hsz, htk⟩
  · omega
  · have hgl : g < w.heap.size := (Array.getElem?_eq_some_iff.1 hh).1
    let R : Fin (M + 1) → List Int := fun i => rows.getD i.val []
    let V : Fin (M + 1) → Value := fun i => vals.getD i.val (.slice none 0 0)
    have hV : ∀ i : Fin (M + 1), vals[i.val]? = some (V i) := fun i => by
      have : i.val < vals.length := by omega
      simp [V, this]
    have hrow : ∀ i : Fin (M + 1), ∃ A c, V i = .slice A n c ∧ Obj1 2 B w.heap.size w A (R i) := fun i => by
      obtain ⟨A, c, e1, e2⟩ := h.row i.val (by omega)
      rw [hV i] at e1
      rw [hls i.val (by omega)] at e1
      exact ⟨A, c, Option.some.inj e1, e2⟩
    have hone : OneCell V := fun i => by
      obtain ⟨A, c, e, _⟩ := hrow i
      rw [e]; rfl
    have hinj : ∀ x y, R x = R y → x = y := fun x y e => by
      have h1 : x.val < rows.length := by omega
      have h2 : y.val < rows.length := by omega
      have e2 : rows[x.val] = rows[y.val] := by simpa [R, h1, h2] using e
      exact Fin.ext ((List.getElem_inj (h₀ := h1) (h₁ := h2) hnd).1 e2)
    have hcur : ∀ i : Fin (M + 1), cur[i.val]? = some (V i) := fun i => by
      have h5 := hV i
      rw [← htk, List.getElem?_take, if_pos (by omega)] at h5
      simpa using h5
    have hts : (25 : TypeId) ≠ 2 := by decide
    have hkeep : ∀ (k : Nat) (d : Array (Fin (M + 1))) (os : Array Obj), KeepT 2 w (sortWorld V w g 0 k d os) := fun k d os => sortWorld_keep V w g k d os hts hh
    have hdsz : (Array.ofFn (n := M + 1) id).size = M + 1 := by simp
    have hH : Holds V w g 0 (Array.ofFn (n := M + 1) id) := fun j hj => by
      rw [hdsz] at hj
      have e : (Array.ofFn (n := M + 1) id)[j]! = ⟨j, hj⟩ := by
        rw [getElem!_pos _ j (by simpa using hj)]
        simp
      rw [e, Nat.zero_add]
      exact ⟨by rw [cell_of_row w g j cur 25 (0, 0) hh]; exact hcur ⟨j, hj⟩, by simp [World.frozen?, hh]⟩
    have hcmp : CmpLays1 Try.prog 102 #[] V (fun i j => cmpW (R i) (R j)) g 0 (Array.ofFn (n := M + 1) id).size w := fun m os dk _ x y => by
      obtain ⟨A, c, e1, o1⟩ := hrow x
      obtain ⟨A2, c2, e2, o2⟩ := hrow y
      have hx := ((hkeep m dk os).obj o1).rd
      have hy := ((hkeep m dk os).obj o2).rd
      have hc := cmpRow_any n A A2 c c2 (R x) (R y) (sortWorld V w g 0 m dk os) (hls x.val (by omega)) (hls y.val (by omega)) hb hx hy
      rw [e1, e2]
      exact hc.mono fun e w' hh2 => ⟨hh2.1, 0, #[], by rw [hh2.2, grow_empty]; rfl⟩
    have hS := Any.slices_SortFunc_total Try.sortR V hone (fun i j => cmpW (R i) (R j)) (rowSwo R) 102 #[] g 0 cap (Array.ofFn (n := M + 1) id) w (enters_of Try.func102 (by kernel_rfl) rfl) hcmp hH hgl (by rw [hdsz]; omega) (rowTot R hinj)
    rw [hdsz] at hS
    change Calls Try.prog 101 _ _ _ at hS
    rw [hM]
    refine hS.mono ?_
    rintro e w' ⟨rfl, k, os, hw'⟩
    have hsrt : ((Array.ofFn (n := M + 1) id).toList.mergeSort fun x y => !(ltOf (fun i j => cmpW (R i) (R j))) y x) = srtI R := rfl
    rw [hsrt] at hw'
    have hK := hkeep k (srtI R).toArray os
    rw [← hw'] at hK
    have hlow : Go.RowKit.Below B w w' := by rw [hw']; exact sortWorld_low V w g k _ os B hBg hB
    have htop : w'.heap[g]? = some (.cells (putCells V 0 (srtI R).toArray cur) 25 (0, 0)) := by rw [hw']; exact sortWorld_top V w g k _ os cur _ _ hh
    have hlen := srtI_len R
    have hnds := srtI_nd R
    refine ⟨rfl, hlow, (srtI R).map R, (srtI R).map V, ⟨⟨by simp [hlen], .inr ⟨g, cap, _, by rw [List.length_map, hlen], hBg, htop, ?_, hmx, ?_, ?_⟩⟩, fun i hi => ?_, fun i j u u' g' hij hu hu' hg' => ?_⟩, srtI_asc R hinj, by simp [hlen], fun x => ?_⟩
    · simp [hlen]; omega
    · simp [putCells, hsz]
    · apply List.ext_getElem?
      intro j
      rw [List.getElem?_take]
      by_cases hj : j < M + 1
      · have hj2 : j < cur.size := by omega
        have e1 : j < ((srtI R).map R).length * 1 := by simp [hlen]; omega
        rw [if_pos e1]
        have hjs : j < (srtI R).length := by omega
        simp only [putCells, Array.getElem?_toList, Array.getElem?_mapIdx, List.getElem?_map]
        rw [Array.getElem?_eq_getElem hj2, List.getElem?_eq_getElem hjs]
        simp [hlen, hj]
      · have e1 : ¬ j < ((srtI R).map R).length * 1 := by simp [hlen]; omega
        rw [if_neg e1, List.getElem?_eq_none (by simp [hlen]; omega)]
    · have hi2 : i < (srtI R).length := by simpa using hi
      obtain ⟨A, c, e1, o1⟩ := hrow (srtI R)[i]
      have e2 : ((srtI R).map R).getD i [] = R (srtI R)[i] := by simp [hi2]
      refine ⟨A, c, ?_, ?_⟩
      · rw [List.getElem?_map, List.getElem?_eq_getElem hi2, e2]
        show some (V (srtI R)[i]) = _
        rw [e1, show (R (srtI R)[i]).length = n from hls _ (by omega)]
      · rw [e2]
        exact (hK.obj o1).mono (Nat.le_refl _) hlow.size
    · have hj2 : j < (srtI R).length := by have := (List.getElem?_eq_some_iff.1 hu').1; simpa using this
      have hi2 : i < (srtI R).length := by omega
      rw [List.getElem?_map, List.getElem?_eq_getElem hi2] at hu
      rw [List.getElem?_map, List.getElem?_eq_getElem hj2] at hu'
      have hu1 : V (srtI R)[i] = u := Option.some.inj hu
      have hu2 : V (srtI R)[j] = u' := Option.some.inj hu'
      have hne : (srtI R)[i] ≠ (srtI R)[j] := fun e => by
        have := (List.getElem_inj (h₀ := hi2) (h₁ := hj2) hnds).1 e
        omega
      have hne2 : (srtI R)[i].val ≠ (srtI R)[j].val := fun e => hne (Fin.ext e)
      intro e
      rcases Nat.lt_or_gt_of_ne hne2 with hlt | hlt
      · exact h.ne _ _ u u' g' hlt (by rw [hV, hu1]) (by rw [hV, hu2]) hg' e
      · exact h.ne _ _ u' u g' hlt (by rw [hV, hu2]) (by rw [hV, hu1]) e hg'
    · constructor
      · intro hx
        obtain ⟨i, _, rfl⟩ := List.mem_map.1 hx
        have : i.val < rows.length := by omega
        simp [R, this]
      · intro hx
        obtain ⟨j, hj, rfl⟩ := List.getElem_of_mem hx
        refine List.mem_map.2 ⟨⟨j, by omega⟩, srtI_mem R _, ?_⟩
        simp [R, hj]
end Go.Proofs.Ytiaebilcgmahlaa
namespace Go.Proofs.Ytiaebilcgmahlaa
open Go Go.RowKit
set_option maxHeartbeats 1000000

theorem paInfo : (Try.prog.info? 94).map (fun i => (i.zero, i.size, i.bytes)) = some (some (.agg #[.int .i64 0, .int .i64 0]), 2, 16) := by kernel_rfl

/-- The cells of the first k pairs. -/
def pcells (n k : Nat) : List Value := (List.range k).flatMap fun i => [.int .i64 ((i / n : Nat) : Int), .int .i64 ((i % n : Nat) : Int)]
theorem pcells_succ (n k : Nat) : pcells n (k + 1) = pcells n k ++ [.int .i64 ((k / n : Nat) : Int), .int .i64 ((k % n : Nat) : Int)] := by
  unfold pcells
  rw [List.range_succ, List.flatMap_append]
  simp
theorem pcells_length (n k : Nat) : (pcells n k).length = k * 2 := by
  induction k with
  | zero => rfl
  | succ k ih => rw [pcells_succ, List.length_append, ih]; simp; omega
theorem pcells_at (n k i : Nat) (h : i < k) : (pcells n k)[i * 2]? = some (.int .i64 ((i / n : Nat) : Int)) ∧ (pcells n k)[i * 2 + 1]? = some (.int .i64 ((i % n : Nat) : Int)) := by
  induction k with
  | zero => omega
  | succ k ih =>
    have hl := pcells_length n k
    rw [pcells_succ]
    by_cases e : i < k
    · rw [List.getElem?_append_left (by omega), List.getElem?_append_left (by omega)]
      exact ih e
    · have e2 : i = k := by omega
      subst e2
      rw [List.getElem?_append_right (by omega), List.getElem?_append_right (by omega), hl]
      simp
/-- Block g holds all pairs of n elements. -/
def PairsAt (w : World) (g n : Nat) : Prop := g < w.heap.size ∧ ∀ k, k < n * n → w.cell? ⟨g, k * 2, none⟩ = some (.int .i64 ((k / n : Nat) : Int)) ∧ w.cell? ⟨g, k * 2 + 1, none⟩ = some (.int .i64 ((k % n : Nat) : Int))
theorem PairsAt.later {w w' : World} {g n : Nat} (h : PairsAt w g n) (hb : Below w.heap.size w w') : PairsAt w' g n :=
  ⟨Nat.lt_of_lt_of_le h.1 hb.size, fun k hk => ⟨(hb.cell (p := ⟨g, k * 2, none⟩) h.1).trans (h.2 k hk).1, (hb.cell (p := ⟨g, k * 2 + 1, none⟩) h.1).trans (h.2 k hk).2⟩⟩
theorem PairsAt.touch {w w' : World} {g n lo hi : Nat} (h : PairsAt w g n) (ht : Touch lo hi w w') (hs : g < lo ∨ hi ≤ g) : PairsAt w' g n :=
  ⟨Nat.lt_of_lt_of_le h.1 ht.size, fun k hk => ⟨(World.cell?_of_block (a := ⟨g, k * 2, none⟩) (ht.block g h.1 hs)).trans (h.2 k hk).1, (World.cell?_of_block (a := ⟨g, k * 2 + 1, none⟩) (ht.block g h.1 hs)).trans (h.2 k hk).2⟩⟩
theorem pairs_of_owns {w : World} {B g n N : Nat} {t : TypeId} (hN : n * n = N) (h : w.ownsRow B t 2 (.slice (some ⟨g, 0, none⟩) N N) N (pcells n N)) : PairsAt w g n := by
  obtain ⟨h1, h2⟩ := h
  rcases h2 with ⟨hv, _⟩ | ⟨g', cap, cur, hv, hg, hh, a1, a2, a3, a4⟩
  · cases hv
  · cases hv
    refine ⟨(Array.getElem?_eq_some_iff.1 hh).1, fun k hk => ?_⟩
    have hp := pcells_at n N k (by omega)
    rw [← a4, List.getElem?_take, List.getElem?_take, if_pos (by omega), if_pos (by omega)] at hp
    rw [cell_of_row w g (k * 2) cur t (0, 0) hh, cell_of_row w g (k * 2 + 1) cur t (0, 0) hh]
    simpa using hp

set_option maxRecDepth 100000 in
theorem pairsOf_any (n N : Nat) (w : World) (h1 : 1 ≤ n) (h12 : n ≤ 12) (hN : n * n = N) :
    Calls Try.prog 79 #[.int .i64 n] w fun e w' => ∃ g, e = .returned (.slice (some ⟨g, 0, none⟩) N N) ∧ Below w.heap.size w w' ∧ w.heap.size ≤ g ∧ PairsAt w' g n := by
  obtain ⟨i0, hi, hz0, hz1, hz2⟩ := info_parts paInfo
  have hsq : (n : Int) * (n : Int) = (N : Int) := by rw [← hN]; simp
  have hN144 : N ≤ 144 := by rw [← hN]; exact sq_le n h12
  have HN := hide hN
  have hby : i0.bytes = 16 := hz2
  clear hN
  go_enter Try.func79, Try.ntmps79
  go_wp2_with (refine wpList_make_own _ rfl _ _ 91 rfl w.heap.size 94 i0 (.agg #[.int .i64 0, .int .i64 0]) 2 Try.underlying91 hi hz0 hz1 .i64 .i64 (N : Int) N rfl rfl rfl (by rw [hby]; omega) (by unfold maxLen; omega) (Nat.le_refl _) ?_; intro w1 hown1 hgrow1)
  have HO1 := hide hown1
  have HB1 : Hid (Below w.heap.size w w1) := hide ((Below.refl _ w).grown hgrow1 (Nat.le_refl _) (fun g hg => by cases hg))
  clear hown1 hgrow1
  go_wp2_with fail
  have hwl : w.heap.size < w1.heap.size := by have h := HO1.out.2; rcases h with ⟨h, _⟩ | ⟨g, cap, cur, hv, _, hh, _⟩; · cases h
                                              · cases hv; exact (Array.getElem?_eq_some_iff.1 hh).1
  go_loopw [3, 11] (fun v i wr => ∃ x q : Nat, x ≤ n ∧ q = x * n ∧ i = .int .i64 x ∧ v = .slice (some ⟨w.heap.size, 0, none⟩) q N ∧ Below w.heap.size w wr ∧ wr.ownsRow w.heap.size 94 2 (.slice (some ⟨w.heap.size, 0, none⟩) q N) q (pcells n q)) (fun _ i _ => n - (intOf i).toNat)
  case atStart => exact ⟨0, 0, Nat.zero_le _, by simp, rfl, rfl, HB1.out, HO1.out⟩
  case round =>
    obtain ⟨x, q, hx, hq, rfl, rfl, hbe, hown⟩ := hrel
    have HQ := hide hq
    have HB := hide hbe
    have HO := hide hown
    clear hq hbe hown
    by_cases hlt : x < n
    · have hxz : (x : Int) < n := by omega
      go_wp2_with fail
      obtain ⟨wo, rfl⟩ : ∃ wo : World, wo = wr := ⟨_, rfl⟩
      go_loopw [3, 15] (fun v i wi => ∃ y p : Nat, y ≤ n ∧ p = x * n + y ∧ i = .int .i64 y ∧ v = .slice (some ⟨w.heap.size, 0, none⟩) p N ∧ Below w.heap.size w wi ∧ wi.ownsRow w.heap.size 94 2 (.slice (some ⟨w.heap.size, 0, none⟩) p N) p (pcells n p)) (fun _ i _ => n - (intOf i).toNat)
      case atStart => exact ⟨0, q, Nat.zero_le _, by rw [HQ.out]; rfl, rfl, rfl, HB.out, HO.out⟩
      case round =>
        obtain ⟨y, p, hy, hp, rfl, rfl, hbi, hoi⟩ := hrel
        have HP := hide hp
        have HBI := hide hbi
        have HOI := hide hoi
        clear hp hbi hoi
        by_cases hlty : y < n
        · have hyz : (y : Int) < n := by omega
          have hpN : p + 1 ≤ N := by have h := pair_lt n x y hlt hlty; rw [HN.out, ← HP.out] at h; omega
          go_wp2_with (at_builtin; refine wpList_append_fits _ rfl _ _ 91 rfl w.heap.size 94 i0 2 Try.underlying91 hi hz1 w.heap.size p N (pcells n p) rfl (HOI.out.alloc _) ⟨wr.heap.size, 0, none⟩ 1 1 [.int .i64 x, .int .i64 y] rfl rfl (World.news_of_block (cs := #[.int .i64 x, .int .i64 y]) (t := 94) (fr := (0, 0)) (heap_alloc_new wr _)) (by simp [Value.oneCell']) hpN ?_)
          intro w3 hown3 hgrow3
          have hb3 : Below w.heap.size w w3 := (HBI.out.alloc HBI.out.size _).grown hgrow3 (by have := HBI.out.size; simp; omega) (fun g hg => by cases hg; exact Nat.le_refl _)
          have HB3 := hide hb3
          have HO3 := hide hown3
          clear hown3 hgrow3 hb3
          go_wp2_with fail
          go_roundw
          case rel =>
            refine ⟨y + 1, p + 1, by omega, by rw [HP.out]; omega, by go_num, rfl, HB3.out, ?_⟩
            have h := HO3.out
            rw [pcells_succ, HP.out, pair_div n x y hlty, pair_mod n x y hlty, ← HP.out]
            exact h
          case measure => simp [intOf]; omega
        · have hyn : y = n := by omega
          subst hyn
          go_wp2_with fail
          go_roundw
          case rel => exact ⟨x + 1, p, by omega, by rw [HP.out, Nat.add_mul]; omega, by go_num, rfl, HBI.out, HOI.out⟩
          case measure => simp [intOf]; omega
    · have hxn : x = n := by omega
      subst hxn
      have hqn : q = N := by rw [HQ.out, HN.out]
      subst hqn
      go_wp2_with fail
      go_ret
      exact ⟨w.heap.size, rfl, HB.out, Nat.le_refl _, pairs_of_owns HN.out HO.out⟩
end Go.Proofs.Ytiaebilcgmahlaa
namespace Go.Proofs.Ytiaebilcgmahlaa
open Go Go.RowKit
/-- Three elements, and what doing a pair map at a place makes of them. -/
def at0 (f s : List (List Int)) (t : Nat × Nat × Nat) : Nat × Nat × Nat := (ap f t.1 t.2.1, ap s t.1 t.2.1, t.2.2)
def at1 (f s : List (List Int)) (t : Nat × Nat × Nat) : Nat × Nat × Nat := (t.1, ap f t.2.1 t.2.2, ap s t.2.1 t.2.2)
def doAt (f s : List (List Int)) (i : Nat) (t : Nat × Nat × Nat) : Nat × Nat × Nat := if i = 0 then at0 f s t else at1 f s t
def In3 (n : Nat) (t : Nat × Nat × Nat) : Prop := t.1 < n ∧ t.2.1 < n ∧ t.2.2 < n
def lef (f s : List (List Int)) (t : Nat × Nat × Nat) : Nat × Nat × Nat := doAt f s 0 (doAt f s 1 (doAt f s 0 t))
def rig (f s : List (List Int)) (t : Nat × Nat × Nat) : Nat × Nat × Nat := doAt f s 1 (doAt f s 0 (doAt f s 1 t))
/-- The list of number T. -/
def trip (n T : Nat) : Nat × Nat × Nat := (T / n / n, T / n % n, T % n)
def Eq3 (f s : List (List Int)) (n T : Nat) : Prop := lef f s (trip n T) = rig f s (trip n T)
def lst3 (t : Nat × Nat × Nat) : List Int := [(t.1 : Int), (t.2.1 : Int), (t.2.2 : Int)]
/-- The first list at which the equation does not hold: its number, or the number of all lists. -/
def First (f s : List (List Int)) (n T : Nat) : Prop := (∀ i, i < T → Eq3 f s n i) ∧ T ≤ n * n * n ∧ (T < n * n * n → ¬ Eq3 f s n T)
theorem First.ex (f s : List (List Int)) (n : Nat) : ∃ T, First f s n T := by
  have h : ∀ k, k ≤ n * n * n → (∀ i, i < k → Eq3 f s n i) ∨ ∃ T, First f s n T := by
    intro k
    induction k with
    | zero => intro _; exact .inl (fun i hi => absurd hi (Nat.not_lt_zero _))
    | succ k ih =>
      intro hk
      rcases ih (by omega) with h | h
      · by_cases e : Eq3 f s n k
        · refine .inl (fun i hi => ?_)
          by_cases e2 : i = k
          · subst e2; exact e
          · exact h i (by omega)
        · exact .inr ⟨k, h, by omega, fun _ => e⟩
      · exact .inr h
  rcases h _ (Nat.le_refl _) with h | h
  · exact ⟨_, h, Nat.le_refl _, fun h2 => absurd h2 (by omega)⟩
  · exact h
/-- The first one is where it first fails. -/
theorem First.bad {f s : List (List Int)} {n T k : Nat} (h : First f s n T) (h1 : ∀ i, i < k → Eq3 f s n i) (hk : k < n * n * n) (h2 : ¬ Eq3 f s n k) : T = k := by
  have a : ¬ k < T := fun h3 => h2 (h.1 k h3)
  have b : ¬ T < k := fun h3 => h.2.2 (by omega) (h1 T h3)
  omega
theorem First.all {f s : List (List Int)} {n T : Nat} (h : First f s n T) (h1 : ∀ i, i < n * n * n → Eq3 f s n i) : T = n * n * n := by
  have a := h.2.1
  have b : ¬ T < n * n * n := fun h3 => h.2.2 h3 (h1 T h3)
  omega
theorem trip_of {n x y z : Nat} (hy : y < n) (hz : z < n) : trip n ((x * n + y) * n + z) = (x, y, z) := by
  unfold trip
  rw [pair_div n _ z hz, pair_mod n _ z hz, pair_div n x y hy, pair_mod n x y hy]
theorem trip_lt {n x y z : Nat} (hx : x < n) (hy : y < n) (hz : z < n) : (x * n + y) * n + z < n * n * n := by
  have h := pair_lt n x y hx hy
  have h2 : (x * n + y + 1) * n ≤ n * n * n := Nat.mul_le_mul_right n h
  rw [Nat.add_mul, Nat.one_mul] at h2
  omega
theorem In3.do {f s : List (List Int)} (hp : PMap f s) {n : Nat} (hn : f.length = n) {t : Nat × Nat × Nat} (h : In3 n t) (i : Nat) : In3 n (doAt f s i t) := by
  have hm : s.length = n := by rw [← hp.2.2]; exact hn
  obtain ⟨h1, h2, h3⟩ := h
  unfold doAt
  by_cases e : i = 0
  · rw [if_pos e]; exact ⟨hp.1.ap_lt hn h1 h2, hp.2.1.ap_lt hm h1 h2, h3⟩
  · rw [if_neg e]; exact ⟨h1, hp.1.ap_lt hn h2 h3, hp.2.1.ap_lt hm h2 h3⟩
def EqRes (f s : List (List Int)) (zs : List Int) (code : Int) : Prop :=
  (PMap f s ∧ ∃ T, First f s f.length T ∧ ((T < f.length * f.length * f.length ∧ zs = lst3 (trip f.length T) ∧ code = 0) ∨ (T = f.length * f.length * f.length ∧ zs = [] ∧ code = 4))) ∨ (¬ PMap f s ∧ zs = [] ∧ code = 1)
theorem EqRes.ex (f s : List (List Int)) : ∃ zs code, EqRes f s zs code ∧ zs.length ≤ 1048576 := by
  by_cases h : PMap f s
  · obtain ⟨T, hT⟩ := First.ex f s f.length
    by_cases h2 : T < f.length * f.length * f.length
    · exact ⟨_, _, .inl ⟨h, T, hT, .inl ⟨h2, rfl, rfl⟩⟩, by simp [lst3]⟩
    · exact ⟨_, _, .inl ⟨h, T, hT, .inr ⟨by have := hT.2.1; omega, rfl, rfl⟩⟩, by simp⟩
  · exact ⟨_, _, .inr ⟨h, rfl, rfl⟩, by simp⟩
end Go.Proofs.Ytiaebilcgmahlaa
namespace Go.Proofs.Ytiaebilcgmahlaa
open Go Go.RowKit
/-- The pair to which pair number k is led. -/
def ledK (f s : List (List Int)) (n k : Nat) : Nat × Nat := (ap f (k / n) (k % n), ap s (k / n) (k % n))
/-- The numbers below k that are led to q. -/
def ledL (f s : List (List Int)) (n k : Nat) (q : Nat × Nat) : List Nat := (List.range k).filter (fun j => decide (ledK f s n j = q))
theorem ledL_succ (f s : List (List Int)) (n k : Nat) (q : Nat × Nat) : ledL f s n (k + 1) q = if ledK f s n k = q then ledL f s n k q ++ [k] else ledL f s n k q := by
  unfold ledL
  rw [List.range_succ, List.filter_append]
  by_cases h : ledK f s n k = q
  · simp [h]
  · simp [h]
theorem ledL_mem {f s : List (List Int)} {n k : Nat} {q : Nat × Nat} {j : Nat} : j ∈ ledL f s n k q ↔ j < k ∧ ledK f s n j = q := by
  unfold ledL
  simp
theorem ledL_sorted (f s : List (List Int)) (n k : Nat) (q : Nat × Nat) : (ledL f s n k q).Pairwise (· < ·) := by
  unfold ledL
  exact List.Pairwise.filter _ List.pairwise_lt_range
theorem ledL_len (f s : List (List Int)) (n k : Nat) (q : Nat × Nat) : (ledL f s n k q).length ≤ k := by
  have h := List.length_filter_le (fun j => decide (ledK f s n j = q)) (List.range k)
  unfold ledL
  simpa using h
def NoCol (f s : List (List Int)) (n : Nat) : Prop := ∀ i j, i < n * n → j < n * n → i ≠ j → ledK f s n i ≠ ledK f s n j
/-- The first two that are led to one. -/
def FstCol (f s : List (List Int)) (n a b : Nat) : Prop := a < n * n ∧ b < n * n ∧ a ≠ b ∧ ledK f s n a = ledK f s n b ∧ (∀ i, i < a → ∀ j, j < n * n → j ≠ i → ledK f s n i ≠ ledK f s n j) ∧ (∀ j, j < b → j ≠ a → ledK f s n a ≠ ledK f s n j)
theorem FstCol.uniq {f s : List (List Int)} {n a b a' b' : Nat} (h : FstCol f s n a b) (h' : FstCol f s n a' b') : a = a' ∧ b = b' := by
  obtain ⟨h1, h2, h3, h4, h5, h6⟩ := h
  obtain ⟨g1, g2, g3, g4, g5, g6⟩ := h'
  have e : a = a' := by
    rcases Nat.lt_trichotomy a a' with hl | hl | hl
    · exact absurd h4 (g5 a hl b h2 h3.symm)
    · exact hl
    · exact absurd g4 (h5 a' hl b' g2 g3.symm)
  subst e
  refine ⟨rfl, ?_⟩
  rcases Nat.lt_trichotomy b b' with hl | hl | hl
  · exact absurd h4 (g6 b hl h3.symm)
  · exact hl
  · exact absurd g4 (h6 b' hl g3.symm)
theorem FstCol.not {f s : List (List Int)} {n a b : Nat} (h : FstCol f s n a b) : ¬ NoCol f s n := fun hn => hn a b h.1 h.2.1 h.2.2.1 h.2.2.2.1
/-- At the first one whose list has two, the second one of the list. -/
theorem FstCol.of_list {f s : List (List Int)} {n k : Nat} (hk : k < n * n) (h1 : ∀ i, i < k → (ledL f s n (n * n) (ledK f s n i)).length ≤ 1) (h2 : 1 < (ledL f s n (n * n) (ledK f s n k)).length) :
    FstCol f s n k ((ledL f s n (n * n) (ledK f s n k)).getD 1 0) := by
  have hnone : ∀ i, i < k → ∀ j, j < n * n → j ≠ i → ledK f s n i ≠ ledK f s n j := by
    intro i hi j hj hne e
    have m1 : i ∈ ledL f s n (n * n) (ledK f s n i) := ledL_mem.2 ⟨by omega, rfl⟩
    have m2 : j ∈ ledL f s n (n * n) (ledK f s n i) := ledL_mem.2 ⟨hj, e.symm⟩
    have hl := h1 i hi
    match hL : ledL f s n (n * n) (ledK f s n i), m1, m2 with
    | [x], m1, m2 => simp at m1 m2; omega
    | x :: y :: r, _, _ => rw [hL] at hl; simp at hl
  match hL : ledL f s n (n * n) (ledK f s n k), h2 with
  | x :: y :: r, _ =>
    have hs := ledL_sorted f s n (n * n) (ledK f s n k)
    rw [hL] at hs
    have hxy : x < y := by
      have := (List.pairwise_cons.1 hs).1 y (by simp)
      exact this
    have mx : x < n * n ∧ ledK f s n x = ledK f s n k := ledL_mem.1 (by rw [hL]; simp)
    have my : y < n * n ∧ ledK f s n y = ledK f s n k := ledL_mem.1 (by rw [hL]; simp)
    have mk : k ∈ ledL f s n (n * n) (ledK f s n k) := ledL_mem.2 ⟨hk, rfl⟩
    have hxk : x = k := by
      rcases Nat.lt_trichotomy x k with hl | hl | hl
      · exact absurd mx.2 (hnone x hl k hk (by omega))
      · exact hl
      · rw [hL] at mk
        rcases List.mem_cons.1 mk with e | e
        · omega
        · have := (List.pairwise_cons.1 hs).1 k e; omega
    subst hxk
    simp only [List.getD_cons_succ, List.getD_cons_zero]
    refine ⟨hk, my.1, by omega, my.2.symm, hnone, fun j hj hne e => ?_⟩
    have mj : j ∈ ledL f s n (n * n) (ledK f s n x) := ledL_mem.2 ⟨by have := my.1; omega, e.symm⟩
    rw [hL] at mj
    rcases List.mem_cons.1 mj with e1 | e1
    · exact hne e1
    · rcases List.mem_cons.1 e1 with e2 | e2
      · omega
      · have h3 := (List.pairwise_cons.1 hs).2
        have := (List.pairwise_cons.1 h3).1 j e2
        omega
theorem NoCol.of_list {f s : List (List Int)} {n : Nat} (h1 : ∀ i, i < n * n → (ledL f s n (n * n) (ledK f s n i)).length ≤ 1) : NoCol f s n := by
  intro i j hi hj hne e
  have m1 : i ∈ ledL f s n (n * n) (ledK f s n i) := ledL_mem.2 ⟨hi, rfl⟩
  have m2 : j ∈ ledL f s n (n * n) (ledK f s n i) := ledL_mem.2 ⟨hj, e.symm⟩
  have hl := h1 i hi
  match hL : ledL f s n (n * n) (ledK f s n i), m1, m2 with
  | [x], m1, m2 => simp at m1 m2; omega
  | x :: y :: r, _, _ => rw [hL] at hl; simp at hl
theorem col_or (f s : List (List Int)) (n : Nat) : NoCol f s n ∨ ∃ a b, FstCol f s n a b := by
  have key : ∀ k, k ≤ n * n → (∀ i, i < k → (ledL f s n (n * n) (ledK f s n i)).length ≤ 1) ∨ ∃ a b, FstCol f s n a b := by
    intro k
    induction k with
    | zero => intro _; exact .inl (fun i hi => absurd hi (Nat.not_lt_zero _))
    | succ k ih =>
      intro hk
      rcases ih (by omega) with h | h
      · by_cases e : 1 < (ledL f s n (n * n) (ledK f s n k)).length
        · exact .inr ⟨_, _, FstCol.of_list (by omega) h e⟩
        · exact .inl (fun i hi => by
            by_cases e2 : i = k
            · subst e2; omega
            · exact h i (by omega))
      · exact .inr h
  rcases key _ (Nat.le_refl _) with h | h
  · exact .inl (NoCol.of_list h)
  · exact .inr h
/-- The cells of pairs, given by their numbers. -/
def pcs (n : Nat) (l : List Nat) : List Value := l.flatMap (fun j => [.int .i64 ((j / n : Nat) : Int), .int .i64 ((j % n : Nat) : Int)])
theorem pcs_length (n : Nat) (l : List Nat) : (pcs n l).length = l.length * 2 := by
  induction l with
  | nil => rfl
  | cons a r ih => simp only [pcs, List.flatMap_cons, List.length_append, List.length_cons, List.length_nil] at ih ⊢; omega
theorem pcs_snoc (n : Nat) (l : List Nat) (k : Nat) : pcs n (l ++ [k]) = pcs n l ++ [.int .i64 ((k / n : Nat) : Int), .int .i64 ((k % n : Nat) : Int)] := by simp [pcs]
theorem pcs_second (n : Nat) (l : List Nat) (h : 1 < l.length) : (pcs n l)[2]? = some (.int .i64 ((l.getD 1 0 / n : Nat) : Int)) ∧ (pcs n l)[3]? = some (.int .i64 ((l.getD 1 0 % n : Nat) : Int)) := by
  match l, h with
  | a :: b :: r, _ => simp [pcs]
def CoRes (f s : List (List Int)) (zs : List Int) (code : Int) : Prop :=
  (∃ a b, PMap f s ∧ FstCol f s f.length a b ∧ zs = [((a / f.length : Nat) : Int), ((a % f.length : Nat) : Int), ((b / f.length : Nat) : Int), ((b % f.length : Nat) : Int)] ∧ code = 0) ∨ (PMap f s ∧ NoCol f s f.length ∧ zs = [] ∧ code = 4) ∨ (¬ PMap f s ∧ zs = [] ∧ code = 1)
theorem CoRes.ex (f s : List (List Int)) : ∃ zs code, CoRes f s zs code ∧ zs.length ≤ 1048576 := by
  by_cases h : PMap f s
  · rcases col_or f s f.length with h1 | ⟨a, b, h1⟩
    · exact ⟨_, _, .inr (.inl ⟨h, h1, rfl, rfl⟩), by simp⟩
    · exact ⟨_, _, .inl ⟨a, b, h, h1, rfl, rfl⟩, by simp⟩
  · exact ⟨_, _, .inr (.inr ⟨h, rfl, rfl⟩), by simp⟩
end Go.Proofs.Ytiaebilcgmahlaa
namespace Go.Proofs.Ytiaebilcgmahlaa
open Go Go.RowKit
open Classical

theorem Rch.trans {rows : List (List Int)} {x y z : Nat} (h : Rch rows x y) (k : Rch rows y z) : Rch rows x z := by
  induction k with
  | start => exact h
  | step _ hs ih => exact .step ih hs

/-- The labels when the elements below k are done, and the number of the next orbit. -/
noncomputable def lab (rows : List (List Int)) : Nat → (Nat → Int) × Nat
  | 0 => (fun _ => -1, 0)
  | x + 1 => if 0 ≤ (lab rows x).1 x then lab rows x else (fun y => if Rch rows x y then ((lab rows x).2 : Int) else (lab rows x).1 y, (lab rows x).2 + 1)
noncomputable def labL (rows : List (List Int)) (n k : Nat) : List Int := (List.range n).map (lab rows k).1
theorem labL_length (rows : List (List Int)) (n k : Nat) : (labL rows n k).length = n := by simp [labL]
theorem labL_at (rows : List (List Int)) (n k y : Nat) (h : y < n) : (labL rows n k).getD y 0 = (lab rows k).1 y := by simp [labL, h]
theorem lab_le (rows : List (List Int)) (k : Nat) : (lab rows k).2 ≤ k := by
  induction k with
  | zero => simp [lab]
  | succ k ih =>
    unfold lab
    split
    · omega
    · show (lab rows k).2 + 1 ≤ k + 1; omega
theorem lab_lo (rows : List (List Int)) (k y : Nat) : -1 ≤ (lab rows k).1 y ∧ (lab rows k).1 y ≤ k := by
  induction k with
  | zero => simp [lab]
  | succ k ih =>
    unfold lab
    split
    · omega
    · have := lab_le rows k
      show -1 ≤ (if Rch rows k y then ((lab rows k).2 : Int) else (lab rows k).1 y) ∧ (if Rch rows k y then ((lab rows k).2 : Int) else (lab rows k).1 y) ≤ _
      split <;> omega

/-- Rows of permutations of n elements. -/
def Gens (rows : List (List Int)) (n : Nat) : Prop := ∀ r, r < rows.length → (rows.getD r []).length = n ∧ Prm (rows.getD r [])
theorem Gens.at {rows : List (List Int)} {n : Nat} (h : Gens rows n) {r v : Nat} (hr : r < rows.length) (hv : v < n) : 0 ≤ (rows.getD r []).getD v 0 ∧ (rows.getD r []).getD v 0 < (n : Int) := by
  obtain ⟨hl, hp⟩ := h r hr
  obtain ⟨p, hpe⟩ : ∃ p, p = rows.getD r [] := ⟨_, rfl⟩
  rw [← hpe] at hl hp ⊢
  have hm : p.getD v 0 ∈ p := by have : v < p.length := (by omega); simp [this]
  have := hp.2.2.1 _ hm
  rw [hl] at this
  exact this
theorem Gens.inj {rows : List (List Int)} {n : Nat} (h : Gens rows n) {r u v : Nat} (hr : r < rows.length) (hu : u < n) (hv : v < n) (e : ((rows.getD r []).getD u 0).toNat = ((rows.getD r []).getD v 0).toNat) : u = v := by
  have h1 := h.at hr hu
  have h2 := h.at hr hv
  obtain ⟨hl, hp⟩ := h r hr
  obtain ⟨p, hpe⟩ : ∃ p, p = rows.getD r [] := ⟨_, rfl⟩
  rw [← hpe] at hl hp e h1 h2
  have e2 : p.getD u 0 = p.getD v 0 := by omega
  have hul : u < p.length := by omega
  have hvl : v < p.length := by omega
  have e3 : p[u] = p[v] := by simpa [hul, hvl] using e2
  have hpw := List.pairwise_iff_getElem.1 hp.2.2.2
  rcases Nat.lt_trichotomy u v with h | h | h
  · exact absurd e3 (hpw u v hul hvl h)
  · exact h
  · exact absurd e3.symm (hpw v u hvl hul h)
theorem Gens.stay {rows : List (List Int)} {n : Nat} (h : Gens rows n) {x y : Nat} (hx : x < n) (hr : Rch rows x y) : y < n := by
  induction hr with
  | start => exact hx
  | step _ hs ih =>
    obtain ⟨r, hr, e⟩ := hs
    have := h.at hr ih
    omega
theorem Gens.back {rows : List (List Int)} {n : Nat} (h : Gens rows n) {x y z : Nat} (hx : x < n) (hy : y < n) (hs : stp rows y z) (hz : Rch rows x z) : Rch rows x y := by
  obtain ⟨r, hr, e⟩ := hs
  let l : List Nat := (List.range n).filter (fun v => decide (Rch rows x v))
  have hl : l.Nodup := List.Pairwise.filter _ List.nodup_range
  have hml : ∀ v, v ∈ l ↔ v < n ∧ Rch rows x v := fun v => by simp [l]
  let f : Nat → Nat := fun v => ((rows.getD r []).getD v 0).toNat
  have hnd : (l.map f).Nodup := by
    rw [List.nodup_iff_pairwise_ne, List.pairwise_map]
    refine List.Pairwise.imp_of_mem ?_ (List.nodup_iff_pairwise_ne.1 hl)
    intro a b ha hb hne e2
    exact hne (h.inj hr ((hml a).1 ha).1 ((hml b).1 hb).1 e2)
  have hsub : ∀ a ∈ l.map f, a ∈ l := by
    intro a ha
    obtain ⟨v, hv, rfl⟩ := List.mem_map.1 ha
    have hv' := (hml v).1 hv
    have hr' : Rch rows x (f v) := .step hv'.2 ⟨r, hr, rfl⟩
    exact (hml _).2 ⟨h.stay hx hr', hr'⟩
  obtain ⟨l', hl'⟩ := subset_perm (l.map f) l hnd hsub
  have hlen := hl'.length_eq
  rw [List.length_append, List.length_map] at hlen
  have h0 : l' = [] := List.eq_nil_of_length_eq_zero (by omega)
  subst h0
  rw [List.append_nil] at hl'
  have hzl : z ∈ l := (hml z).2 ⟨h.stay hx hz, hz⟩
  obtain ⟨y', hy', e'⟩ := List.mem_map.1 (hl'.mem_iff.1 hzl)
  have hy2 := (hml y').1 hy'
  have : y = y' := h.inj hr hy hy2.1 (by rw [e]; exact e'.symm)
  rw [this]
  exact hy2.2
theorem lab_closed {rows : List (List Int)} {n : Nat} (h : Gens rows n) (k : Nat) (hk : k ≤ n) (y z : Nat) (hy : y < n) (hs : stp rows y z) : 0 ≤ (lab rows k).1 y ↔ 0 ≤ (lab rows k).1 z := by
  induction k with
  | zero => simp [lab]
  | succ k ih =>
    have ih := ih (by omega)
    unfold lab
    split
    · exact ih
    · show 0 ≤ (if Rch rows k y then ((lab rows k).2 : Int) else (lab rows k).1 y) ↔ 0 ≤ (if Rch rows k z then ((lab rows k).2 : Int) else (lab rows k).1 z)
      by_cases h1 : Rch rows k y
      · rw [if_pos h1, if_pos (.step h1 hs)]
      · have h2 : ¬ Rch rows k z := fun h2 => h1 (h.back (by omega) hy hs h2)
        rw [if_neg h1, if_neg h2]
        exact ih
theorem Sys.gens {n : Nat} {rows : List (List Int)} (h : Sys (n : Int) rows) : Gens rows n := fun r hr => ⟨by have := (h.2.2.2 r hr).1; omega, (h.2.2.2 r hr).2⟩
def OrbRes (n : Int) (rows : List (List Int)) (zs : List Int) (code : Int) : Prop := (Sys n rows ∧ zs = labL rows n.toNat n.toNat ∧ code = 0) ∨ (¬ Sys n rows ∧ zs = [] ∧ code = 1)
theorem OrbRes.ex (n : Int) (rows : List (List Int)) : ∃ zs code, OrbRes n rows zs code ∧ zs.length ≤ 4194304 := by
  by_cases h : Sys n rows
  · exact ⟨_, _, .inl ⟨h, rfl, rfl⟩, by rw [labL_length]; have := h.2.1; omega⟩
  · exact ⟨_, _, .inr ⟨h, rfl, rfl⟩, by simp⟩
end Go.Proofs.Ytiaebilcgmahlaa
namespace Go.Proofs.Ytiaebilcgmahlaa
open Go Go.RowKit
set_option maxHeartbeats 1000000

def hdr (G : Nat → Nat) (n x : Nat) : List Value := (List.range x).map fun i => .slice (some ⟨G i, 0, none⟩) n n
theorem hdr_length (G : Nat → Nat) (n x : Nat) : (hdr G n x).length = x := by simp [hdr]
theorem hdr_succ (G : Nat → Nat) (n x R : Nat) : hdr (fun i => if i = x then R else G i) n (x + 1) = hdr G n x ++ [.slice (some ⟨R, 0, none⟩) n n] := by
  unfold hdr
  rw [List.range_succ, List.map_append]
  congr 1
  · refine List.map_congr_left fun i hi => ?_
    have := List.mem_range.1 hi
    show Value.slice (some ⟨if i = x then R else G i, 0, none⟩) n n = _
    rw [if_neg (by omega)]
  · simp
section
variable {ts t tz : TypeId} {B : Nat} {w w' w1 : World} {ob : Nat} {v1 v2 v' : Value} {x1 x2 n : Nat} {G1 G2 : Nat → Nat}
/-- Two tables of zeros that the call builds row by row, in the box ob. -/
structure Emp (ts t : TypeId) (B : Nat) (w : World) (ob : Nat) (v1 v2 : Value) (x1 x2 n : Nat) (G1 G2 : Nat → Nat) : Prop where
  low : ob < B
  bsz : B ≤ w.heap.size
  o1 : w.ownsRow B ts 1 v1 x1 (hdr G1 n x1)
  o2 : w.ownsRow B ts 1 v2 x2 (hdr G2 n x2)
  ne : ∀ g, v1.ownBlock = some g → v2.ownBlock ≠ some g
  r1 : ∀ i, i < x1 → B ≤ G1 i ∧ PreIs w (G1 i) t n (fun _ => .int .i64 0)
  r2 : ∀ i, i < x2 → B ≤ G2 i ∧ PreIs w (G2 i) t n (fun _ => .int .i64 0)
  i1 : ∀ i j, i < x1 → j < x1 → i ≠ j → G1 i ≠ G1 j
  i2 : ∀ i j, i < x2 → j < x2 → i ≠ j → G2 i ≠ G2 j
  i12 : ∀ i j, i < x1 → j < x2 → G1 i ≠ G2 j

theorem Emp.start (w : World) (ts t : TypeId) (n : Nat) (h : ob < w.heap.size) : Emp ts t w.heap.size w ob (.slice none 0 0) (.slice none 0 0) 0 0 n (fun _ => 0) (fun _ => 0) :=
  ⟨h, Nat.le_refl _, World.ownsRow_nil _ _ _ _, World.ownsRow_nil _ _ _ _, fun g hg => by simp [Value.ownBlock] at hg, fun i hi => absurd hi (Nat.not_lt_zero _), fun i hi => absurd hi (Nat.not_lt_zero _), fun i j hi => absurd hi (Nat.not_lt_zero _), fun i j hi => absurd hi (Nat.not_lt_zero _), fun i j hi => absurd hi (Nat.not_lt_zero _)⟩

theorem PreIs.later' {b : Nat} {f : Nat → Value} (r : PreIs w b t n f) (hb : Below w.heap.size w w') : PreIs w' b t n f := r.of_block (hb.block b r.lt)

theorem Emp.swapped (h : Emp ts t B w ob v1 v2 x1 x2 n G1 G2) : Emp ts t B w ob v2 v1 x2 x1 n G2 G1 :=
  ⟨h.low, h.bsz, h.o2, h.o1, fun g h1 h2 => h.ne g h2 h1, h.r2, h.r1, h.i2, h.i1, fun i j hi hj e => h.i12 j i hj hi e.symm⟩

theorem pre_ne_own {b g : Nat} {f : Nat → Value} {v : Value} {k : Nat} {xs : List Value} (hne : ts ≠ t) (r : PreIs w b t n f) (h : w.ownsRow B ts 1 v k xs) (hg : v.ownBlock = some g) : b ≠ g := by
  intro e
  subst e
  obtain ⟨_, _, cur, h1⟩ := own_type h hg
  obtain ⟨cur', h2, _⟩ := r
  rw [h1] at h2
  injection h2 with h2
  injection h2 with _ h2
  exact hne h2

theorem Emp.kept (h : Emp ts t B w ob v1 v2 x1 x2 n G1 G2) {cs : List Value} (hk : Blk w ob tz cs) {W : World} (hbw : Below w.heap.size w W) (hg : W.grownBy w1 v1.ownBlock) : Blk w1 ob tz cs :=
  (hg.block ob (Nat.lt_of_lt_of_le hk.lt hbw.size) (fun e => by
    have := (own_type h.o1 e.symm).2.1
    have := h.low
    omega)).trans (hk.later hbw)
theorem Emp.keptR (h : Emp ts t B w ob v1 v2 x1 x2 n G1 G2) {b : Nat} {cs : List Value} (hk : Blk w b tz cs) (hb : b < B) (hne : b ≠ ob) {W : World} (hbw : Below w.heap.size w W) (hg : W.grownBy w1 v1.ownBlock) (q : Nat) (u : Value) : Blk (w1.setCell ⟨ob, q, none⟩ u) b tz cs :=
  (Below.heap_setCell w1 ⟨ob, q, none⟩ u b hne).trans ((hg.block b (Nat.lt_of_lt_of_le hk.lt hbw.size) (fun e => by
    have := (own_type h.o1 e.symm).2.1
    omega)).trans (hk.later hbw))
/-- What a row more in one list leaves. -/
theorem Emp.push (hne : ts ≠ t) (h : Emp ts t B w ob v1 v2 x1 x2 n G1 G2) {q : Nat} {W : World} (hbw : Below w.heap.size w W) (hWs : W.heap.size = w.heap.size + 1 + 1) (hWr : PreIs W w.heap.size t n (fun _ => .int .i64 0))
    (hown : w1.ownsRow B ts 1 v' (x1 + 1) (hdr G1 n x1 ++ [.slice (some ⟨w.heap.size, 0, none⟩) n n])) (hg : W.grownBy w1 v1.ownBlock)
    (hat : v'.ownBlock = v1.ownBlock ∨ v'.ownBlock = some (w.heap.size + 1 + 1)) :
    Emp ts t B (w1.setCell ⟨ob, q, none⟩ v') ob v' v2 (x1 + 1) x2 n (fun i => if i = x1 then w.heap.size else G1 i) G2 := by
  have hsz := hg.size
  rw [hWs] at hsz
  have hlow := h.low
  have hbsz := h.bsz
  have keep : ∀ b, b < w.heap.size → v1.ownBlock ≠ some b → b ≠ ob → (w1.setCell ⟨ob, q, none⟩ v').heap[b]? = w.heap[b]? := fun b h1 h2 h3 =>
    (Below.heap_setCell w1 ⟨ob, q, none⟩ v' b h3).trans ((hg.block b (by omega) (fun e => h2 e.symm)).trans (hbw.block b h1))
  have krow : ∀ b, B ≤ b → PreIs w b t n (fun _ => .int .i64 0) → PreIs (w1.setCell ⟨ob, q, none⟩ v') b t n (fun _ => .int .i64 0) := fun b hB r =>
    r.of_block (keep b r.lt (fun e => pre_ne_own hne r h.o1 e rfl) (by omega))
  have hnew : PreIs (w1.setCell ⟨ob, q, none⟩ v') w.heap.size t n (fun _ => .int .i64 0) := by
    refine hWr.of_block ((Below.heap_setCell w1 ⟨ob, q, none⟩ v' w.heap.size (by show w.heap.size ≠ ob; omega)).trans (hg.block _ (by omega) (fun e => ?_)))
    have := (own_type h.o1 e.symm).1
    omega
  refine ⟨hlow, by simp [World.setCell]; omega, ownsRow_setCell_below (by rw [hdr_succ]; exact hown) hlow _, ownsRow_setCell_below ((ownsRow_below h.o2 hbw).kept hg ?_) hlow _, fun g h1 h2 => ?_, fun i hi => ?_, fun i hi => ?_, fun i j hi hj hij => ?_, h.i2, fun i j hi hj => ?_⟩
  · by_cases e : v2.ownBlock = none
    · exact .inl e
    · refine .inr (fun e2 => ?_)
      cases e3 : v2.ownBlock with
      | none => exact e e3
      | some g => exact h.ne g (e2.symm.trans e3) e3
  · rcases hat with e | e
    · exact h.ne g (e.symm.trans h1) h2
    · rw [h1] at e
      injection e with e
      have := (own_type h.o2 h2).1
      omega
  · by_cases e : i = x1
    · rw [if_pos e]; exact ⟨hbsz, hnew⟩
    · simp only [if_neg e]
      have hr := h.r1 i (by omega)
      exact ⟨hr.1, krow _ hr.1 hr.2⟩
  · have hr := h.r2 i hi
    exact ⟨hr.1, krow _ hr.1 hr.2⟩
  · by_cases e : i = x1
    · by_cases e2 : j = x1
      · omega
      · simp only [if_pos e, if_neg e2]
        have := (h.r1 j (by omega)).2.lt
        omega
    · by_cases e2 : j = x1
      · simp only [if_neg e, if_pos e2]
        have := (h.r1 i (by omega)).2.lt
        omega
      · simp only [if_neg e, if_neg e2]
        exact h.i1 i j (by omega) (by omega) hij
  · by_cases e : i = x1
    · simp only [if_pos e]
      have := (h.r2 j hj).2.lt
      omega
    · simp only [if_neg e]
      exact h.i12 i j (by omega) hj

theorem Emp.lowset (h : Emp ts t B w ob v1 v2 x1 x2 n G1 G2) {p : Addr} (hp : p.block < B) (u : Value) : Emp ts t B (w.setCell p u) ob v1 v2 x1 x2 n G1 G2 :=
  ⟨h.low, by simpa [World.setCell] using h.bsz, ownsRow_setCell_below h.o1 hp _, ownsRow_setCell_below h.o2 hp _, h.ne, fun i hi => ⟨(h.r1 i hi).1, (h.r1 i hi).2.far (by have := (h.r1 i hi).1; omega) _⟩, fun i hi => ⟨(h.r2 i hi).1, (h.r2 i hi).2.far (by have := (h.r2 i hi).1; omega) _⟩, h.i1, h.i2, h.i12⟩
/-- Two tables that have no block in common, all from lo on. -/
structure Duo (ts t : TypeId) (lo : Nat) (w : World) (n : Nat) (g1 : Nat) (G1 : Nat → Nat) (f1 : Nat → Nat → Int) (g2 : Nat) (G2 : Nat → Nat) (f2 : Nat → Nat → Int) : Prop where
  t1 : TabF ts t w g1 G1 n f1
  t2 : TabF ts t w g2 G2 n f2
  l1 : lo ≤ g1 ∧ ∀ i, i < n → lo ≤ G1 i
  l2 : lo ≤ g2 ∧ ∀ i, i < n → lo ≤ G2 i
  ne : g1 ≠ g2
  n12 : ∀ i, i < n → g1 ≠ G2 i
  n21 : ∀ i, i < n → g2 ≠ G1 i
  rows : ∀ i j, i < n → j < n → G1 i ≠ G2 j
theorem tabF_of {g c : Nat} (hne : ts ≠ t) (ho : w.ownsRow B ts 1 (.slice (some ⟨g, 0, none⟩) n c) n (hdr G1 n n)) (hr : ∀ i, i < n → B ≤ G1 i ∧ PreIs w (G1 i) t n (fun _ => .int .i64 0)) (hi : ∀ i j, i < n → j < n → i ≠ j → G1 i ≠ G1 j) : TabF ts t w g G1 n (fun _ _ => 0) := by
  obtain ⟨_, _, cur, hh⟩ := own_type ho (g := g) rfl
  refine ⟨⟨fun _ => n, cur, hh, fun i hin => ?_⟩, fun i hin => (hr i hin).2, fun i hin e => pre_ne_own hne (hr i hin).2 ho rfl e.symm, hi⟩
  have h := ho.cells (g := g) rfl i (.slice (some ⟨G1 i, 0, none⟩) n n) (by unfold hdr; simp [hin])
  have e : ((⟨g, 0, none⟩ : Addr).add i) = ⟨g, i, none⟩ := by
    unfold Addr.add
    split
    · rename_i e; rw [e]
    · simp
  rw [e, cell_of_row w g i cur ts (0, 0) hh] at h
  exact h
theorem Emp.duo {g1 g2 c1 c2 lo : Nat} (h : Emp ts t B w ob (.slice (some ⟨g1, 0, none⟩) n c1) (.slice (some ⟨g2, 0, none⟩) n c2) n n n G1 G2) (hne : ts ≠ t) (hlo : lo ≤ B) : Duo ts t lo w n g1 G1 (fun _ _ => 0) g2 G2 (fun _ _ => 0) :=
  ⟨tabF_of hne h.o1 h.r1 h.i1, tabF_of hne h.o2 h.r2 h.i2, ⟨Nat.le_trans hlo (own_type h.o1 (g := g1) rfl).2.1, fun i hi => Nat.le_trans hlo (h.r1 i hi).1⟩, ⟨Nat.le_trans hlo (own_type h.o2 (g := g2) rfl).2.1, fun i hi => Nat.le_trans hlo (h.r2 i hi).1⟩, fun e => h.ne g1 rfl (by rw [e]; rfl), fun i hi e => pre_ne_own hne (h.r2 i hi).2 h.o1 rfl e.symm, fun i hi e => pre_ne_own hne (h.r1 i hi).2 h.o2 rfl e.symm, h.i12⟩
end
end Go.Proofs.Ytiaebilcgmahlaa
namespace Go.Proofs.Ytiaebilcgmahlaa
open Go Go.RowKit
set_option maxHeartbeats 1000000

set_option maxRecDepth 100000 in
theorem nonZ_any (A : Option Addr) (n c : Nat) (f : List (List Int)) (B : Option Addr) (d : Nat) (s : List (List Int)) (r : Bool) (w : World) (hz : ZArg 1048576 w A n f B n s) (hp : PMap f s) (hrr : r = true ↔ NonF f s) :
    Calls Try.prog 84 #[.agg #[.slice A n c, .slice B n d]] w fun e w' => e = .returned (.bool r) ∧ Below w.heap.size w w' := by
  have hnb := hz.sz.nb
  have HZ := hide hz
  have HB0 := hide ((Below.refl _ w).alloc (Nat.le_refl _) (Obj.cells #[Value.slice A n c, Value.slice B n d] 29))
  have HK0 := hide (Blk.new w 29 [.slice A n c, .slice B n d])
  have HP := hide hp
  have HR := hide hrr
  have h12 := hz.small hp
  clear hp hrr hz
  by_cases h1 : AllPrm f
  · have H1 := hide h1
    have hr2 : r = true ↔ AllPrm (turnL s) := by rw [HR.out]; unfold NonF; exact ⟨fun h => h.2, fun h => ⟨h1, h⟩⟩
    have HR2 := hide hr2
    clear h1 hr2
    go_enter Try.func84, Try.ntmps84
    go_wp2_with fail
    refine (rowsI_any _ _ _ f true _ HZ.out.sz.fl hnb HZ.out.sz.nr (HZ.out.later HB0.out).fst ⟨fun _ => H1.out, fun _ => rfl⟩).mono ?_
    rintro e w2 ⟨rfl, hb2⟩
    have HB2 := hide (HB0.out.trans (hb2.mono HB0.out.size))
    have HK2 := hide (HK0.out.later hb2)
    have k0 := HK2.out.cell 0 _ rfl
    have k1 := HK2.out.cell 1 _ rfl
    clear hb2
    go_wp2_with fail
    refine (turnI_any _ _ _ s _ HZ.out.sz.sl hnb (fun i hi => by rw [HP.out.2.1.rows i hi]; exact HZ.out.sz.sl) (HZ.out.later HB2.out).snd).mono ?_
    rintro e w3 ⟨A3, c3, rfl, hb3, hobj⟩
    have HB3 := hide (HB2.out.trans (hb3.mono HB2.out.size))
    have HOBJ := hide hobj
    clear hb3 hobj
    go_wp2_with fail
    refine (rowsI_any _ _ _ (turnL s) r _ (by rw [turnL_length]; exact HZ.out.sz.sl) hnb (fun i hi => by rw [turnL_length] at hi; unfold turnL; rw [grid_row_length _ _ _ hi, HZ.out.sz.sl]; exact hnb) HOBJ.out.rd HR2.out).mono ?_
    rintro e w4 ⟨rfl, hb4⟩
    have HB4 := hide (HB3.out.trans (hb4.mono HB3.out.size))
    clear hb4
    go_wp2_with fail
    go_ret
    exact ⟨rfl, HB4.out⟩
  · have hrf : r = false := by
      cases r
      · rfl
      · exact absurd (HR.out.1 rfl).1 h1
    subst hrf
    have H1 := hide h1
    clear h1
    go_enter Try.func84, Try.ntmps84
    go_wp2_with fail
    refine (rowsI_any _ _ _ f false _ HZ.out.sz.fl hnb HZ.out.sz.nr (HZ.out.later HB0.out).fst ⟨fun h => absurd h (by simp), fun h => absurd h H1.out⟩).mono ?_
    rintro e w2 ⟨rfl, hb2⟩
    have HB2 := hide (HB0.out.trans (hb2.mono HB0.out.size))
    clear hb2
    go_wp2_with fail
    go_ret
    exact ⟨rfl, HB2.out⟩

end Go.Proofs.Ytiaebilcgmahlaa
namespace Go.Proofs.Ytiaebilcgmahlaa
open Go Go.RowKit

/-- What is asked of the function value: for each three elements, in each later world, it says whether they are as asked, and leaves what there was. -/
def BoolFn3 (P : Program) (F : FuncId) (lb : Array Value) (n : Nat) (q : Nat → Nat → Nat → Bool) (w : World) : Prop :=
  ∀ (W : World) (x y z : Nat), x < n → y < n → z < n → Below w.heap.size w W → Calls P F (#[.int .i64 x, .int .i64 y, .int .i64 z] ++ lb) W fun e w' => e = .returned (.bool (q x y z)) ∧ Below W.heap.size W w'
theorem BoolFn3.later {P : Program} {F : FuncId} {lb : Array Value} {n : Nat} {q : Nat → Nat → Nat → Bool} {w w' : World} (hc : BoolFn3 P F lb n q w) (hb : Below w.heap.size w w') : BoolFn3 P F lb n q w' :=
  fun W x y z hx hy hz hw => hc W x y z hx hy hz (hb.trans (hw.mono hb.size))

/-- What is said of the list of number T. -/
def qAt (q : Nat → Nat → Nat → Bool) (n T : Nat) : Bool := q (trip n T).1 (trip n T).2.1 (trip n T).2.2
theorem qAt_at {q : Nat → Nat → Nat → Bool} {n x y z : Nat} (hy : y < n) (hz : z < n) : qAt q n ((x * n + y) * n + z) = q x y z := by
  unfold qAt
  rw [trip_of hy hz]
/-- T is the first that is as asked, or behind all. -/
def FirstQ (q : Nat → Nat → Nat → Bool) (n T : Nat) : Prop := (∀ i, i < T → qAt q n i = false) ∧ T ≤ n * n * n ∧ (T < n * n * n → qAt q n T = true)
theorem FirstQ.bad {q : Nat → Nat → Nat → Bool} {n T k : Nat} (h : FirstQ q n T) (h1 : ∀ i, i < k → qAt q n i = false) (hk : k < n * n * n) (h2 : qAt q n k = true) : T = k := by
  have a : ¬ k < T := fun h3 => by have := h.1 k h3; rw [h2] at this; exact absurd this (by simp)
  have b : ¬ T < k := fun h3 => by have := h1 T h3; rw [h.2.2 (by omega)] at this; exact absurd this (by simp)
  omega
theorem FirstQ.all {q : Nat → Nat → Nat → Bool} {n T : Nat} (h : FirstQ q n T) (h1 : ∀ i, i < n * n * n → qAt q n i = false) : T = n * n * n := by
  have a := h.2.1
  have b : ¬ T < n * n * n := fun h3 => by have := h1 T h3; rw [h.2.2 h3] at this; exact absurd this (by simp)
  omega
theorem FirstQ.ex (q : Nat → Nat → Nat → Bool) (n : Nat) : ∃ T, FirstQ q n T := by
  have h : ∀ k, k ≤ n * n * n → (∀ i, i < k → qAt q n i = false) ∨ ∃ T, FirstQ q n T := by
    intro k
    induction k with
    | zero => intro _; exact .inl (fun i hi => absurd hi (Nat.not_lt_zero _))
    | succ k ih =>
      intro hk
      rcases ih (by omega) with h | h
      · rcases e : qAt q n k with _ | _
        · refine .inl (fun i hi => ?_)
          by_cases e2 : i = k
          · subst e2; exact e
          · exact h i (by omega)
        · exact .inr ⟨k, h, by omega, fun _ => e⟩
      · exact .inr h
  rcases h _ (Nat.le_refl _) with h | h
  · exact ⟨_, h, Nat.le_refl _, fun h2 => absurd h2 (by omega)⟩
  · exact h
theorem FirstQ.iff {q : Nat → Nat → Nat → Bool} {n T : Nat} (h : FirstQ q n T) : T = n * n * n ↔ ∀ i, i < n * n * n → qAt q n i = false :=
  ⟨fun e i hi => h.1 i (by omega), h.all⟩
end Go.Proofs.Ytiaebilcgmahlaa
