import Derived.Test.YthnkhljgealjdaaDe
import Derived.Test.YthnkhljgealjdaaDd
import Derived.Test.YthnkhljgealjdaaSortLaid
import Derived.Test.YthnkhljgealjdaaDc
import Derived.Test.YthnkhljgealjdaaDb
import Derived.Test.YthnkhljgealjdaaDa
import Derived.Deep.Cut
import Derived.Test.YthnkhljgealjdaaProg
import Derived.OwnWalk
import Derived.Deep.AppendLies
namespace Go.Proofs.Ythnkhljgealjdaa
open Go Go.RowKit

section
variable {ts t tz : TypeId} {B : Nat} {w w' w1 : World} {v v' : Value} {rows : List (List Int)} {vals : List Value} {ob : Nat}

/-- A list of rows that the call builds by append, in cell s of the box ob, whose other cells are cs. -/
structure One (ts t tz : TypeId) (B : Nat) (w : World) (ob s : Nat) (cs : List Value) (v : Value) (rows : List (List Int)) (vals : List Value) : Prop where
  box : Blk w ob tz (cs.set s v)
  low : ob < B
  bsz : B ≤ w.heap.size
  l : LstV ts t B w v rows vals

variable {s : Nat} {cs : List Value}
theorem One.later (h : One ts t tz B w ob s cs v rows vals) (hb : Below w.heap.size w w') : One ts t tz B w' ob s cs v rows vals :=
  ⟨h.box.later hb, h.low, Nat.le_trans h.bsz hb.size, h.l.later hb⟩
theorem One.kept {tmp : Obj} (h : One ts t tz B w ob s cs v rows vals) (hg : (w.alloc tmp).grownBy w1 v.ownBlock) : Blk w1 ob tz (cs.set s v) :=
  (hg.block ob (by have := h.box.lt; simp; omega) (fun e => by
    have := (own_type h.l.own e.symm).2.1
    have := h.low
    omega)).trans (h.box.later ((Below.refl _ _).alloc (Nat.le_refl _) _))
theorem One.push {A : Option Addr} {c : Nat} {r : List Int} {tmp : Obj} (hne : ts ≠ t) (h : One ts t tz B w ob s cs v rows vals) (hA : Obj1 t B w.heap.size w A r)
    (hdis : ∀ (i : Nat) (u : Value) (g : Nat), vals[i]? = some u → u.ownBlock = some g → ∀ a, A = some a → a.block ≠ g)
    (hown : w1.ownsRow B ts 1 v' (rows.length + 1) (vals ++ [.slice A r.length c])) (hg : (w.alloc tmp).grownBy w1 v.ownBlock) :
    One ts t tz B (w1.setCell ⟨ob, s, none⟩ v') ob s cs v' (rows ++ [r]) (vals ++ [.slice A r.length c]) := by
  refine ⟨?_, h.low, by have h1 := hg.size; have h2 := h.bsz; simp at h1; simp [World.setCell]; omega, store_low (h.l.push2 hne hA hdis hown hg) h.low _ _⟩
  have hb1 : Blk w1 ob tz (cs.set s v) := h.kept hg
  have h2 := hb1.set s v'
  rw [List.set_set] at h2
  exact h2
theorem One.start (w : World) (ts t tz : TypeId) (hb : Blk w ob tz (cs.set s (.slice none 0 0))) (hB : ob < B) (hw : B ≤ w.heap.size) : One ts t tz B w ob s cs (.slice none 0 0) [] [] :=
  ⟨hb, hB, hw, LstV.nil _ _ _ _⟩
theorem One.frame {tmp : Obj} (h : One ts t tz B w ob s cs v rows vals) (hg : (w.alloc tmp).grownBy w1 v.ownBlock) (u : Value) {k : Nat} (hk : k < B) (hne : k ≠ ob) (hkw : k < w.heap.size) : (w1.setCell ⟨ob, s, none⟩ u).heap[k]? = w.heap[k]? :=
  (Below.heap_setCell w1 ⟨ob, s, none⟩ u k hne).trans ((hg.block k (by simp; omega) (fun e => by
    have := (own_type h.l.own e.symm).2.1
    omega)).trans (((Below.refl w.heap.size w).alloc (Nat.le_refl _) tmp).block k hkw))
theorem One.below {tmp : Obj} {b0 : Nat} {w0 : World} (h : One ts t tz B w ob s cs v rows vals) (hg : (w.alloc tmp).grownBy w1 v.ownBlock) (u : Value) (hb : Below b0 w0 w) (h0 : b0 ≤ ob) : Below b0 w0 (w1.setCell ⟨ob, s, none⟩ u) :=
  ((hb.alloc (by have := h.box.lt; omega) tmp).grown hg (by have := h.box.lt; simp; omega) (fun g e => by
    have := (own_type h.l.own e).2.1
    have := h.low
    omega)).setCell (p := ⟨ob, s, none⟩) h0 u
/-- A row that a call has made behind the world w0, in which the list lay already, is appended and stored. -/
theorem One.add {w0 : World} {A : Option Addr} {c k x gg cap : Nat} {r : List Int} {tmp : Obj} {lo : Nat} (hne : ts ≠ t) (h0 : One ts t tz B w0 ob s cs v rows vals) (h : One ts t tz B w ob s cs v rows vals) (hlo : w0.heap.size ≤ lo) (hA : Obj1 t lo w.heap.size w A r) (hl : rows.length = x) (hr : r.length = k)
    (hown : w1.ownsRow B ts 1 (.slice (some ⟨gg, 0, none⟩) (x + 1) cap) (x + 1) (vals ++ [.slice A k c])) (hg : (w.alloc tmp).grownBy w1 v.ownBlock) :
    One ts t tz B (w1.setCell ⟨ob, s, none⟩ (.slice (some ⟨gg, 0, none⟩) (x + 1) cap)) ob s cs (.slice (some ⟨gg, 0, none⟩) (x + 1) cap) (rows ++ [r]) (vals ++ [.slice A k c]) := by
  have hB := h0.bsz
  subst hr
  subst hl
  refine h.push hne (hA.mono (by omega) (Nat.le_refl _)) (fun i u g hu hug a ha => ?_) hown hg
  have h1 := h0.l.low i u g hu hug
  have h2 := (hA.bounds a ha).1
  omega
end

/-- The table of a result is laid into its box. -/
theorem kend {ts t tz : TypeId} {w w3 wf : World} {r lo hi : Nat} {A : Option Addr} {n c : Nat} {f : List (List Int)} {u : Value} (hwf : wf = w3.setCell ⟨r, 0, none⟩ (.slice A n c)) (hr : Blk w3 r tz [u]) (hr0 : w.heap.size ≤ r) (hb : Below w.heap.size w w3) (ho : Obj2 ts t lo hi w3 A f) (hlo : w.heap.size ≤ lo) (hrl : r < lo) (hhi : hi ≤ w3.heap.size) :
    wf.cell? ⟨r, 0, none⟩ = some (.slice A n c) ∧ Below w.heap.size w wf ∧ Obj2 ts t w.heap.size wf.heap.size wf A f := by
  have hR : Blk wf r tz [.slice A n c] := by rw [hwf]; exact hr.set 0 _
  refine ⟨hR.cell 0 _ rfl, ?_, ?_⟩
  · rw [hwf]; exact hb.setCell (p := ⟨r, 0, none⟩) hr0 _
  · rw [hwf]; exact (ho.set (p := ⟨r, 0, none⟩) (.inl hrl) _).mono hlo (by simp [World.setCell]; exact hhi)
end Go.Proofs.Ythnkhljgealjdaa
namespace Go.Proofs.Ythnkhljgealjdaa
open Go Go.RowKit Go.Sort Go.Lib Go.Shelf
set_option maxHeartbeats 2000000
/-- slices.SortFunc by slices.Compare over different rows of one length that lie in memory of their own. -/
theorem sortRows_any (n : Nat) (B : Nat) (v : Value) (rows : List (List Int)) (vals : List Value) (w : World) (hb : n ≤ 1048576) (hr0 : 0 < rows.length) (hrb : rows.length ≤ 1048576) (hls : ∀ i, i < rows.length → (rows.getD i []).length = n) (hnd : rows.Nodup) (hB : B ≤ w.heap.size) (h : LstV 25 2 B w v rows vals) :
    Calls Try.prog 45 #[v, .func (.func 46) #[] #[]] w fun e w' => e = .returned (.tuple #[]) ∧ Go.RowKit.Below B w w' ∧ ∃ rows' vals', LstV 25 2 B w' v rows' vals' ∧ Asc rows' ∧ rows'.length = rows.length ∧ ∀ x, x ∈ rows' ↔ x ∈ rows := by
  obtain ⟨M, hM⟩ : ∃ M, rows.length = M + 1 := ⟨rows.length - 1, by omega⟩
  have hvl : vals.length = M + 1 := by rw [ownsRow_len h.own, hM]
  rcases h.own.2 with ⟨_, hz⟩ | ⟨g, cap, cur, rfl, hBg, hh, hcap, hmx, hsz, htk⟩
  · omega
  · have hgl : g < w.heap.size := (Array.getElem?_eq_some_iff.1 hh).1
    let R : Fin (M + 1) → List Int := fun i => rows.getD i.val []
    let V : Fin (M + 1) → Value := fun i => vals.getD i.val (.slice none 0 0)
    have hV : ∀ i : Fin (M + 1), vals[i.val]? = some (V i) := fun i => by
      have : i.val < vals.length := by omega
      simp [V, this]
    have hrow : ∀ i : Fin (M + 1), ∃ A c, V i = .slice A n c ∧ Obj1 2 B w.heap.size w A (R i) := fun i => by
      obtain ⟨A, c, e1, e2⟩ := h.row i.val (by omega)
      rw [hV i] at e1
      rw [hls i.val (by omega)] at e1
      exact ⟨A, c, Option.some.inj e1, e2⟩
    have hone : OneCell V := fun i => by
      obtain ⟨A, c, e, _⟩ := hrow i
      rw [e]; rfl
    have hinj : ∀ x y, R x = R y → x = y := fun x y e => by
      have h1 : x.val < rows.length := by omega
      have h2 : y.val < rows.length := by omega
      have e2 : rows[x.val] = rows[y.val] := by simpa [R, h1, h2] using e
      exact Fin.ext ((List.getElem_inj (h₀ := h1) (h₁ := h2) hnd).1 e2)
    have hcur : ∀ i : Fin (M + 1), cur[i.val]? = some (V i) := fun i => by
      have h5 := hV i
      rw [← htk, List.getElem?_take, if_pos (by omega)] at h5
      simpa using h5
    have hts : (25 : TypeId) ≠ 2 := by decide
    have hkeep : ∀ (k : Nat) (d : Array (Fin (M + 1))) (os : Array Obj), KeepT 2 w (sortWorld V w g 0 k d os) := fun k d os => sortWorld_keep V w g k d os hts hh
    have hdsz : (Array.ofFn (n := M + 1) id).size = M + 1 := by simp
    have hH : Holds V w g 0 (Array.ofFn (n := M + 1) id) := fun j hj => by
      rw [hdsz] at hj
      have e : (Array.ofFn (n := M + 1) id)[j]! = ⟨j, hj⟩ := by
        rw [getElem!_pos _ j (by simpa using hj)]
        simp
      rw [e, Nat.zero_add]
      exact ⟨by rw [cell_of_row w g j cur 25 (0, 0) hh]; exact hcur ⟨j, hj⟩, by simp [World.frozen?, hh]⟩
    have hcmp : CmpLays1 Try.prog 46 #[] V (fun i j => cmpW (R i) (R j)) g 0 (Array.ofFn (n := M + 1) id).size w := fun m os dk _ x y => by
      obtain ⟨A, c, e1, o1⟩ := hrow x
      obtain ⟨A2, c2, e2, o2⟩ := hrow y
      have hx := ((hkeep m dk os).obj o1).rd
      have hy := ((hkeep m dk os).obj o2).rd
      have hc := cmpRow_any n A A2 c c2 (R x) (R y) (sortWorld V w g 0 m dk os) (hls x.val (by omega)) (hls y.val (by omega)) hb hx hy
      rw [e1, e2]
      exact hc.mono fun e w' hh2 => ⟨hh2.1, 0, #[], by rw [hh2.2, grow_empty]; rfl⟩
    have hS := Any.slices_SortFunc_total Try.sortR V hone (fun i j => cmpW (R i) (R j)) (rowSwo R) 46 #[] g 0 cap (Array.ofFn (n := M + 1) id) w (enters_of Try.func46 (by kernel_rfl) rfl) hcmp hH hgl (by rw [hdsz]; omega) (rowTot R hinj)
    rw [hdsz] at hS
    change Calls Try.prog 45 _ _ _ at hS
    rw [hM]
    refine hS.mono ?_
    rintro e w' ⟨rfl, k, os, hw'⟩
    have hsrt : ((Array.ofFn (n := M + 1) id).toList.mergeSort fun x y => !(ltOf (fun i j => cmpW (R i) (R j))) y x) = srtI R := rfl
    rw [hsrt] at hw'
    have hK := hkeep k (srtI R).toArray os
    rw [← hw'] at hK
    have hlow : Go.RowKit.Below B w w' := by rw [hw']; exact sortWorld_low V w g k _ os B hBg hB
    have htop : w'.heap[g]? = some (.cells (putCells V 0 (srtI R).toArray cur) 25 (0, 0)) := by rw [hw']; exact sortWorld_top V w g k _ os cur _ _ hh
    have hlen := srtI_len R
    have hnds := srtI_nd R
    refine ⟨rfl, hlow, (srtI R).map R, (srtI R).map V, ⟨⟨by simp [hlen], .inr ⟨g, cap, _, by rw [List.length_map, hlen], hBg, htop, ?_, hmx, ?_, ?_⟩⟩, fun i hi => ?_, fun i j u u' g' hij hu hu' hg' => ?_⟩, srtI_asc R hinj, by simp [hlen], fun x => ?_⟩
    · simp [hlen]; omega
    · simp [putCells, hsz]
    · apply List.ext_getElem?
      intro j
      rw [List.getElem?_take]
      by_cases hj : j < M + 1
      · have hj2 : j < cur.size := by omega
        have e1 : j < ((srtI R).map R).length * 1 := by simp [hlen]; omega
        rw [if_pos e1]
        have hjs : j < (srtI R).length := by omega
        simp only [putCells, Array.getElem?_toList, Array.getElem?_mapIdx, List.getElem?_map]
        rw [Array.getElem?_eq_getElem hj2, List.getElem?_eq_getElem hjs]
        simp [hlen, hj]
      · have e1 : ¬ j < ((srtI R).map R).length * 1 := by simp [hlen]; omega
        rw [if_neg e1, List.getElem?_eq_none (by simp [hlen]; omega)]
    · have hi2 : i < (srtI R).length := by simpa using hi
      obtain ⟨A, c, e1, o1⟩ := hrow (srtI R)[i]
      have e2 : ((srtI R).map R).getD i [] = R (srtI R)[i] := by simp [hi2]
      refine ⟨A, c, ?_, ?_⟩
      · rw [List.getElem?_map, List.getElem?_eq_getElem hi2, e2]
        show some (V (srtI R)[i]) = _
        rw [e1, show (R (srtI R)[i]).length = n from hls _ (by omega)]
      · rw [e2]
        exact (hK.obj o1).mono (Nat.le_refl _) hlow.size
    · have hj2 : j < (srtI R).length := by have := (List.getElem?_eq_some_iff.1 hu').1; simpa using this
      have hi2 : i < (srtI R).length := by omega
      rw [List.getElem?_map, List.getElem?_eq_getElem hi2] at hu
      rw [List.getElem?_map, List.getElem?_eq_getElem hj2] at hu'
      have hu1 : V (srtI R)[i] = u := Option.some.inj hu
      have hu2 : V (srtI R)[j] = u' := Option.some.inj hu'
      have hne : (srtI R)[i] ≠ (srtI R)[j] := fun e => by
        have := (List.getElem_inj (h₀ := hi2) (h₁ := hj2) hnds).1 e
        omega
      have hne2 : (srtI R)[i].val ≠ (srtI R)[j].val := fun e => hne (Fin.ext e)
      intro e
      rcases Nat.lt_or_gt_of_ne hne2 with hlt | hlt
      · exact h.ne _ _ u u' g' hlt (by rw [hV, hu1]) (by rw [hV, hu2]) hg' e
      · exact h.ne _ _ u' u g' hlt (by rw [hV, hu2]) (by rw [hV, hu1]) e hg'
    · constructor
      · intro hx
        obtain ⟨i, _, rfl⟩ := List.mem_map.1 hx
        have : i.val < rows.length := by omega
        simp [R, this]
      · intro hx
        obtain ⟨j, hj, rfl⟩ := List.getElem_of_mem hx
        refine List.mem_map.2 ⟨⟨j, by omega⟩, srtI_mem R _, ?_⟩
        simp [R, hj]
end Go.Proofs.Ythnkhljgealjdaa
namespace Go.Proofs.Ythnkhljgealjdaa
open Go Go.RowKit
set_option maxHeartbeats 1000000

theorem mapS_any (A : Option Addr) (n c : Nat) (f : List (List Int)) (B : Option Addr) (m d : Nat) (s : List (List Int)) (r : Bool) (w : World) (hz : ZArg 1048576 w A n f B m s) (hr : r = true ↔ PMap f s) :
    Calls Try.prog 48 #[.agg #[.slice A n c, .slice B m d]] w fun e w' => e = .returned (.bool r) ∧ Below w.heap.size w w' := by
  have HZ := hide hz
  have HR := hide hr
  clear hz hr
  have HB0 := hide ((Below.refl _ w).alloc (Nat.le_refl _) (Obj.cells #[Value.slice A n c, Value.slice B m d] 29))
  have HK0 := hide (Blk.new w 29 [.slice A n c, .slice B m d])
  by_cases h1 : Tbl f
  · have H1 := hide h1
    clear h1
    by_cases h2 : Tbl s
    · have H2 := hide h2
      clear h2
      have HEQ : Hid (r = true ↔ n = m) := hide (by rw [HR.out, ← HZ.out.sz.fl, ← HZ.out.sz.sl]; exact ⟨fun h => h.2.2, fun h => ⟨H1.out, H2.out, h⟩⟩)
      have hfin : r = decide (n = m) := by
        have h := HEQ.out
        cases r <;> simp at h ⊢ <;> exact h
      by_cases hnm : n = m
      · subst hnm
        simp at hfin
        subst hfin
        go_enter Try.func48, Try.ntmps48
        go_wp2_with fail
        refine (l01Table_any _ _ _ f true _ HZ.out.sz.fl (by have := HZ.out.sz.nb; omega) (fun i hi => by have := HZ.out.sz.nr i hi; omega) (HZ.out.fst.later HB0.out) (by simp [H1.out])).mono ?_
        rintro e w1 ⟨rfl, hq1⟩
        have HB1 := hide (HB0.out.trans (hq1.below _))
        have HK1 := hide (HK0.out.later (hq1.below _))
        have k0 := HK1.out.cell 0 _ rfl
        have k1 := HK1.out.cell 1 _ rfl
        clear hq1
        go_wp2_with fail
        clear k0 k1
        refine (l01Table_any _ _ _ s true _ HZ.out.sz.sl (by have := HZ.out.sz.mb; omega) (fun i hi => by have := HZ.out.sz.mr i hi; omega) (HZ.out.snd.later HB1.out) (by simp [H2.out])).mono ?_
        rintro e w2 ⟨rfl, hq2⟩
        have HB2 := hide (HB1.out.trans (hq2.below _))
        have HK2 := hide (HK1.out.later (hq2.below _))
        have k0 := HK2.out.cell 0 _ rfl
        have k1 := HK2.out.cell 1 _ rfl
        have hnb := HZ.out.sz.nb
        clear hq2
        go_wp2_with fail
        go_ret
        exact ⟨rfl, HB2.out⟩
      · have hne : decide ((n : Int) = (m : Int)) = false := by simp; omega
        have hne2 : ((n : Int) == (m : Int)) = false := by simp; omega
        simp [hnm] at hfin
        subst hfin
        clear hnm
        go_enter Try.func48, Try.ntmps48
        go_wp2_with fail
        refine (l01Table_any _ _ _ f true _ HZ.out.sz.fl (by have := HZ.out.sz.nb; omega) (fun i hi => by have := HZ.out.sz.nr i hi; omega) (HZ.out.fst.later HB0.out) (by simp [H1.out])).mono ?_
        rintro e w1 ⟨rfl, hq1⟩
        have HB1 := hide (HB0.out.trans (hq1.below _))
        have HK1 := hide (HK0.out.later (hq1.below _))
        have k0 := HK1.out.cell 0 _ rfl
        have k1 := HK1.out.cell 1 _ rfl
        clear hq1
        go_wp2_with fail
        clear k0 k1
        refine (l01Table_any _ _ _ s true _ HZ.out.sz.sl (by have := HZ.out.sz.mb; omega) (fun i hi => by have := HZ.out.sz.mr i hi; omega) (HZ.out.snd.later HB1.out) (by simp [H2.out])).mono ?_
        rintro e w2 ⟨rfl, hq2⟩
        have HB2 := hide (HB1.out.trans (hq2.below _))
        have HK2 := hide (HK1.out.later (hq2.below _))
        have k0 := HK2.out.cell 0 _ rfl
        have k1 := HK2.out.cell 1 _ rfl
        have hnb := HZ.out.sz.nb
        have hmb := HZ.out.sz.mb
        clear hq2
        go_wp2_with fail
        go_ret
        exact ⟨rfl, HB2.out⟩
    · have hrt : r = false := by
        cases r
        · rfl
        · exact absurd (HR.out.1 rfl).2.1 h2
      have H2 := hide h2
      subst hrt
      clear h2
      go_enter Try.func48, Try.ntmps48
      go_wp2_with fail
      refine (l01Table_any _ _ _ f true _ HZ.out.sz.fl (by have := HZ.out.sz.nb; omega) (fun i hi => by have := HZ.out.sz.nr i hi; omega) (HZ.out.fst.later HB0.out) (by simp [H1.out])).mono ?_
      rintro e w1 ⟨rfl, hq1⟩
      have HB1 := hide (HB0.out.trans (hq1.below _))
      have HK1 := hide (HK0.out.later (hq1.below _))
      have k0 := HK1.out.cell 0 _ rfl
      have k1 := HK1.out.cell 1 _ rfl
      clear hq1
      go_wp2_with fail
      refine (l01Table_any _ _ _ s false _ HZ.out.sz.sl (by have := HZ.out.sz.mb; omega) (fun i hi => by have := HZ.out.sz.mr i hi; omega) (HZ.out.snd.later HB1.out) (by simp [H2.out])).mono ?_
      rintro e w2 ⟨rfl, hq2⟩
      have HB2 := hide (HB1.out.trans (hq2.below _))
      clear hq2
      go_wp2_with fail
      go_ret
      exact ⟨rfl, HB2.out⟩
  · have hrt : r = false := by
      cases r
      · rfl
      · exact absurd (HR.out.1 rfl).1 h1
    have H1 := hide h1
    subst hrt
    clear h1
    go_enter Try.func48, Try.ntmps48
    go_wp2_with fail
    refine (l01Table_any _ _ _ f false _ HZ.out.sz.fl (by have := HZ.out.sz.nb; omega) (fun i hi => by have := HZ.out.sz.nr i hi; omega) (HZ.out.fst.later HB0.out) (by simp [H1.out])).mono ?_
    rintro e w1 ⟨rfl, hq1⟩
    have HB1 := hide (HB0.out.trans (hq1.below _))
    clear hq1
    go_wp2_with fail
    go_ret
    exact ⟨rfl, HB1.out⟩
end Go.Proofs.Ythnkhljgealjdaa
namespace Go.Proofs.Ythnkhljgealjdaa
open Go Go.RowKit
set_option maxHeartbeats 4000000
theorem half (lo hi : Nat) : ((lo : Int) + (hi : Int)).tdiv 2 = (((lo + hi) / 2 : Nat) : Int) := by
  rw [Int.tdiv_eq_ediv_of_nonneg (by omega)]; omega
end Go.Proofs.Ythnkhljgealjdaa
namespace Go.Proofs.Ythnkhljgealjdaa
open Go Go.RowKit
set_option maxHeartbeats 2000000

theorem o2Info2q : (Try.prog.info? 25).map (fun i => (i.zero, i.size, i.bytes)) = some (some (.slice none 0 0), 1, 24) := by kernel_rfl

/-- Each slice of a list has a block of its own and room for its elements. -/
def CapsV (vals : List Value) : Prop := ∀ (i : Nat) (A : Option Addr) (l c : Nat), vals[i]? = some (.slice A l c) → l ≤ c ∧ ∃ g, A = some ⟨g, 0, none⟩
theorem CapsV.nil : CapsV [] := fun i A l c h => by simp at h
theorem CapsV.push {vals : List Value} {A : Option Addr} {l c : Nat} (h : CapsV vals) (hlc : l ≤ c ∧ ∃ g, A = some ⟨g, 0, none⟩) : CapsV (vals ++ [.slice A l c]) := by
  intro i A' l' c' hi
  by_cases e : i < vals.length
  · rw [List.getElem?_append_left e] at hi
    exact h i A' l' c' hi
  · have hlt := (List.getElem?_eq_some_iff.1 hi).1
    simp at hlt
    have e2 : i = vals.length := by omega
    subst e2
    rw [List.getElem?_append_right (by omega)] at hi
    simp at hi
    obtain ⟨rfl, rfl, rfl⟩ := hi
    exact hlc
theorem own_cap {B n c : Nat} {A : Option Addr} {t : TypeId} {w : World} {xs : List Value} (h0 : 0 < n) (h : w.ownsRow B t 1 (.slice A n c) n xs) : n ≤ c ∧ ∃ g, A = some ⟨g, 0, none⟩ := by
  rcases h.2 with ⟨h1, h2⟩ | ⟨g, cap, cur, h1, _, _, h2, _⟩
  · omega
  · injection h1 with h1 _ h3
    exact ⟨by omega, g, h1⟩
theorem own2c_any (A : Option Addr) (n c q : Nat) (rows : List (List Int)) (w : World)
    (hn : rows.length = n) (h1 : 1 ≤ n) (hb : n ≤ 1048576) (hq1 : 1 ≤ q) (hqb : q ≤ 1048576) (hbs : ∀ i, i < rows.length → (rows.getD i []).length = q) (hr : Rd2 w A rows) :
    Calls Try.prog 40 #[.slice A n c] w fun e w' => ∃ v vals, e = .returned v ∧ Below w.heap.size w w' ∧ LstV 25 2 w.heap.size w' v rows vals ∧ CapsV vals := by
  have HN := hide hn
  clear hn
  obtain ⟨i0, hi, hz0, hz1, hz2⟩ := info_parts o2Info2q
  go_enter Try.func40, Try.ntmps40
  go_wp2_with fail
  go_loopw [3, 4] (fun v i wr => ∃ (k : Nat) (vals : List Value), k ≤ n ∧ i = .int .i64 k ∧ Below w.heap.size w wr ∧ LstV 25 2 w.heap.size wr v (rows.take k) vals ∧ w.heap.size ≤ wr.heap.size ∧ CapsV vals) (fun _ i _ => n - (intOf i).toNat)
  case atStart => exact ⟨0, [], Nat.zero_le _, rfl, (Below.refl _ _).alloc (Nat.le_refl _) _, by simpa using LstV.start w _ _, by simp, CapsV.nil⟩
  case round =>
    obtain ⟨k, vals, hk, rfl, hbe, hlst, hsz, hcv⟩ := hrel
    have HCV := hide hcv
    have HB := hide hbe
    have HL := hide hlst
    clear hbe hlst hcv
    by_cases hlt : k < n
    · have hltz : (k : Int) < n := by omega
      obtain ⟨b, o, rfl, hbw, hc⟩ := hr (by have := HN.out; omega)
      obtain ⟨Ax, cx, hcell, hrd⟩ := hc k (by have := HN.out; omega)
      have hl := hbs k (by have := HN.out; omega)
      obtain ⟨r, hx'⟩ : ∃ r, r = rows.getD k [] := ⟨_, rfl⟩
      rw [← hx'] at hcell hrd hl
      rw [hl] at hcell
      have hcell' : wr.cell? ⟨b, o + k, none⟩ = some (.slice Ax q cx) := (HB.out.cell (p := ⟨b, o + k, none⟩) hbw).trans hcell
      have HX := hide hx'
      have HLL := hide hl
      obtain ⟨b2, o2, rfl, hbw2, hc2⟩ := hrd (by have := HLL.out; omega)
      have HC2 := hide hc2
      clear hx' hc hl hcell hbs hc2 hrd
      go_wp2_with fail
      refine (own_any b2 o2 q cx r _ HLL.out hqb (by have := HB.out.size; omega) (fun i hi => (HB.out.cell (p := ⟨b2, o2 + i, none⟩) hbw2).trans (HC2.out i hi))).mono ?_
      rintro e w2 ⟨v2, rfl, hb2, how2⟩
      have HB2 := hide hb2
      have HOW2 := hide how2
      clear hb2 how2
      obtain ⟨A4, c4, hv4, hres4⟩ := own_shape HOW2.out
      rw [← HLL.out] at hv4
      subst hv4
      have HC4 : Hid (r.length ≤ c4 ∧ ∃ g, A4 = some ⟨g, 0, none⟩) := hide (own_cap (by have := HLL.out; omega) (by have h := HOW2.out; rw [← HLL.out] at h; exact h))
      have HR4 := hide hres4.obj
      have hs4 := HB2.out.size
      have hlen : (ints r).length = q := by rw [ints_length]; exact HLL.out
      clear hres4
      have hlt0 : (rows.take k).length = k := by have := HN.out; simp; omega
      have HLT := hide hlt0
      have hown : w2.ownsRow w.heap.size 25 1 u3 k vals := by have := (HL.out.later HB2.out).own; rwa [hlt0] at this
      have HO := hide hown
      clear hown hlt0 hlen
      go_wp2_with (at_builtin; refine wpList_append_own _ rfl _ _ 22 rfl w.heap.size 25 i0 (.slice none 0 0) 1 24 Try.underlying22 hi hz0 hz1 hz2 rfl (by decide) _ _ _ rfl (HO.out.alloc _) ⟨w2.heap.size, 0, none⟩ 1 1 [.slice A4 r.length c4] rfl rfl ?c1 ?c2 ?c3 ?c4 ?c5 ?_)
      case c1 => exact ne_new
      case c2 => intro u hu; simp at hu; subst hu; rfl
      case c3 => unfold maxLen; omega
      case c4 => omega
      case c5 => simp; omega
      intro v' w3 hown' hgrow _
      have HO' := hide hown'
      have HG := hide hgrow
      clear hown' hgrow
      go_wp2_with fail
      go_roundw
      case rel =>
        have hB3 : Below w.heap.size w w3 := ((HB.out.trans (HB2.out.mono hsz)).alloc (by omega) _).grown HG.out (by simp; omega) (fun g hg => ((HO.out.alloc (.cells #[.slice A4 r.length c4] 25)).lt g hg).1)
        have hpush := LstV.push (tmp := .cells #[.slice A4 r.length c4] 25) (A := A4) (c := c4) (r := r) (w1 := w3) (v' := v') (by decide) hsz HL.out HB2.out HR4.out (by rw [HLT.out]; exact HO'.out) HG.out
        have e : rows.take (k + 1) = rows.take k ++ [r] := by
          have hl : k < rows.length := by have := HN.out; omega
          rw [List.take_succ_eq_append_getElem hl, HX.out]
          simp [hl]
        refine ⟨k + 1, vals ++ [.slice A4 r.length c4], by omega, by go_num, hB3, by rw [e]; exact hpush, by have := hB3.size; omega, HCV.out.push HC4.out⟩
      case measure => simp [intOf]; omega
    · have hkn : k = n := by omega
      subst hkn
      go_wp2_with fail
      go_ret
      have e : rows.take k = rows := List.take_of_length_le (by have := HN.out; omega)
      have h := HL.out
      rw [e] at h
      exact ⟨_, _, rfl, HB.out, h, HCV.out⟩
theorem own2v_any (A : Option Addr) (n c q : Nat) (rows : List (List Int)) (w : World)
    (hn : rows.length = n) (h1 : 1 ≤ n) (hb : n ≤ 1048576) (hq1 : 1 ≤ q) (hqb : q ≤ 1048576) (hbs : ∀ i, i < rows.length → (rows.getD i []).length = q) (hr : Rd2 w A rows) :
    Calls Try.prog 40 #[.slice A n c] w fun e w' => ∃ v vals, e = .returned v ∧ Below w.heap.size w w' ∧ LstV 25 2 w.heap.size w' v rows vals := by
  refine (own2c_any A n c q rows w hn h1 hb hq1 hqb hbs hr).mono ?_
  rintro e w2 ⟨v, vals, rfl, hb2, hl, _⟩
  exact ⟨v, vals, rfl, hb2, hl⟩
theorem own2q_any (A : Option Addr) (n c q : Nat) (rows : List (List Int)) (w : World)
    (hn : rows.length = n) (h1 : 1 ≤ n) (hb : n ≤ 1048576) (hq1 : 1 ≤ q) (hqb : q ≤ 1048576) (hbs : ∀ i, i < rows.length → (rows.getD i []).length = q) (hr : Rd2 w A rows) :
    Calls Try.prog 40 #[.slice A n c] w fun e w' => ∃ A' c', e = .returned (.slice A' n c') ∧ Below w.heap.size w w' ∧ Obj2 25 2 w.heap.size w'.heap.size w' A' rows := by
  refine (own2v_any A n c q rows w hn h1 hb hq1 hqb hbs hr).mono ?_
  rintro e w2 ⟨v, vals, rfl, hb2, hl⟩
  obtain ⟨A', c', hv, hobj⟩ := hl.shape
  exact ⟨A', c', by rw [← hn, ← hv], hb2, hobj⟩
end Go.Proofs.Ythnkhljgealjdaa
namespace Go.Proofs.Ythnkhljgealjdaa
open Go Go.RowKit
section
variable {t : TypeId} {w w' : World} {g : Nat} {xs : List Int}
theorem own_read {B n c : Nat} {A : Option Addr} (h : w.ownsRow B t 1 (.slice A n c) n (ints xs)) (hn : 0 < n) : ∃ g, A = some ⟨g, 0, none⟩ ∧ OwnB t w g xs := by
  have hl := h.1
  rw [ints_length] at hl
  rcases ownB_of_ownsRow h with ⟨_, h0⟩ | ⟨g, h1, _, h2⟩
  · subst h0; simp at hl; omega
  · exact ⟨g, h1, h2⟩
theorem OwnB.keep (h : OwnB t w g xs) (hb : Below w.heap.size w w') : OwnB t w' g xs := h.later hb h.lt
theorem OwnB.cell1 (h : OwnB t w g xs) (i : Nat) (hi : i < xs.length) {v : Int} (hv : xs.getD i 0 = v) : w.cell? ⟨g, i, none⟩ = some (.int .i64 v) := by rw [← hv]; exact h.cell hi
end
theorem ints_snoc (xs : List Int) (x : Int) : ints (xs ++ [x]) = ints xs ++ [.int .i64 x] := by simp [ints]
end Go.Proofs.Ythnkhljgealjdaa
namespace Go.Proofs.Ythnkhljgealjdaa
open Go Go.RowKit
set_option maxHeartbeats 1000000

theorem paInfo : (Try.prog.info? 76).map (fun i => (i.zero, i.size, i.bytes)) = some (some (.agg #[.int .i64 0, .int .i64 0]), 2, 16) := by kernel_rfl

/-- The cells of the first k pairs. -/
def pcells (n k : Nat) : List Value := (List.range k).flatMap fun i => [.int .i64 ((i / n : Nat) : Int), .int .i64 ((i % n : Nat) : Int)]
theorem pcells_succ (n k : Nat) : pcells n (k + 1) = pcells n k ++ [.int .i64 ((k / n : Nat) : Int), .int .i64 ((k % n : Nat) : Int)] := by
  unfold pcells
  rw [List.range_succ, List.flatMap_append]
  simp
theorem pcells_length (n k : Nat) : (pcells n k).length = k * 2 := by
  induction k with
  | zero => rfl
  | succ k ih => rw [pcells_succ, List.length_append, ih]; simp; omega
theorem pcells_at (n k i : Nat) (h : i < k) : (pcells n k)[i * 2]? = some (.int .i64 ((i / n : Nat) : Int)) ∧ (pcells n k)[i * 2 + 1]? = some (.int .i64 ((i % n : Nat) : Int)) := by
  induction k with
  | zero => omega
  | succ k ih =>
    have hl := pcells_length n k
    rw [pcells_succ]
    by_cases e : i < k
    · rw [List.getElem?_append_left (by omega), List.getElem?_append_left (by omega)]
      exact ih e
    · have e2 : i = k := by omega
      subst e2
      rw [List.getElem?_append_right (by omega), List.getElem?_append_right (by omega), hl]
      simp
/-- Block g holds all pairs of n elements. -/
def PairsAt (w : World) (g n : Nat) : Prop := g < w.heap.size ∧ ∀ k, k < n * n → w.cell? ⟨g, k * 2, none⟩ = some (.int .i64 ((k / n : Nat) : Int)) ∧ w.cell? ⟨g, k * 2 + 1, none⟩ = some (.int .i64 ((k % n : Nat) : Int))
theorem PairsAt.later {w w' : World} {g n : Nat} (h : PairsAt w g n) (hb : Below w.heap.size w w') : PairsAt w' g n :=
  ⟨Nat.lt_of_lt_of_le h.1 hb.size, fun k hk => ⟨(hb.cell (p := ⟨g, k * 2, none⟩) h.1).trans (h.2 k hk).1, (hb.cell (p := ⟨g, k * 2 + 1, none⟩) h.1).trans (h.2 k hk).2⟩⟩
theorem PairsAt.touch {w w' : World} {g n lo hi : Nat} (h : PairsAt w g n) (ht : Touch lo hi w w') (hs : g < lo ∨ hi ≤ g) : PairsAt w' g n :=
  ⟨Nat.lt_of_lt_of_le h.1 ht.size, fun k hk => ⟨(World.cell?_of_block (a := ⟨g, k * 2, none⟩) (ht.block g h.1 hs)).trans (h.2 k hk).1, (World.cell?_of_block (a := ⟨g, k * 2 + 1, none⟩) (ht.block g h.1 hs)).trans (h.2 k hk).2⟩⟩
theorem pairs_of_owns {w : World} {B g n N : Nat} {t : TypeId} (hN : n * n = N) (h : w.ownsRow B t 2 (.slice (some ⟨g, 0, none⟩) N N) N (pcells n N)) : PairsAt w g n := by
  obtain ⟨h1, h2⟩ := h
  rcases h2 with ⟨hv, _⟩ | ⟨g', cap, cur, hv, hg, hh, a1, a2, a3, a4⟩
  · cases hv
  · cases hv
    refine ⟨(Array.getElem?_eq_some_iff.1 hh).1, fun k hk => ?_⟩
    have hp := pcells_at n N k (by omega)
    rw [← a4, List.getElem?_take, List.getElem?_take, if_pos (by omega), if_pos (by omega)] at hp
    rw [cell_of_row w g (k * 2) cur t (0, 0) hh, cell_of_row w g (k * 2 + 1) cur t (0, 0) hh]
    simpa using hp

set_option maxRecDepth 100000 in
theorem pairsOf_any (n N : Nat) (w : World) (h1 : 1 ≤ n) (h12 : n ≤ 12) (hN : n * n = N) :
    Calls Try.prog 64 #[.int .i64 n] w fun e w' => ∃ g, e = .returned (.slice (some ⟨g, 0, none⟩) N N) ∧ Below w.heap.size w w' ∧ w.heap.size ≤ g ∧ PairsAt w' g n := by
  obtain ⟨i0, hi, hz0, hz1, hz2⟩ := info_parts paInfo
  have hsq : (n : Int) * (n : Int) = (N : Int) := by rw [← hN]; simp
  have hN144 : N ≤ 144 := by rw [← hN]; exact sq_le n h12
  have HN := hide hN
  have hby : i0.bytes = 16 := hz2
  clear hN
  go_enter Try.func64, Try.ntmps64
  go_wp2_with (refine wpList_make_own _ rfl _ _ 86 rfl w.heap.size 76 i0 (.agg #[.int .i64 0, .int .i64 0]) 2 Try.underlying86 hi hz0 hz1 .i64 .i64 (N : Int) N rfl rfl rfl (by rw [hby]; omega) (by unfold maxLen; omega) (Nat.le_refl _) ?_; intro w1 hown1 hgrow1)
  have HO1 := hide hown1
  have HB1 : Hid (Below w.heap.size w w1) := hide ((Below.refl _ w).grown hgrow1 (Nat.le_refl _) (fun g hg => by cases hg))
  clear hown1 hgrow1
  go_wp2_with fail
  have hwl : w.heap.size < w1.heap.size := by have h := HO1.out.2; rcases h with ⟨h, _⟩ | ⟨g, cap, cur, hv, _, hh, _⟩; · cases h
                                              · cases hv; exact (Array.getElem?_eq_some_iff.1 hh).1
  go_loopw [3, 11] (fun v i wr => ∃ x q : Nat, x ≤ n ∧ q = x * n ∧ i = .int .i64 x ∧ v = .slice (some ⟨w.heap.size, 0, none⟩) q N ∧ Below w.heap.size w wr ∧ wr.ownsRow w.heap.size 76 2 (.slice (some ⟨w.heap.size, 0, none⟩) q N) q (pcells n q)) (fun _ i _ => n - (intOf i).toNat)
  case atStart => exact ⟨0, 0, Nat.zero_le _, by simp, rfl, rfl, HB1.out, HO1.out⟩
  case round =>
    obtain ⟨x, q, hx, hq, rfl, rfl, hbe, hown⟩ := hrel
    have HQ := hide hq
    have HB := hide hbe
    have HO := hide hown
    clear hq hbe hown
    by_cases hlt : x < n
    · have hxz : (x : Int) < n := by omega
      go_wp2_with fail
      obtain ⟨wo, rfl⟩ : ∃ wo : World, wo = wr := ⟨_, rfl⟩
      go_loopw [3, 15] (fun v i wi => ∃ y p : Nat, y ≤ n ∧ p = x * n + y ∧ i = .int .i64 y ∧ v = .slice (some ⟨w.heap.size, 0, none⟩) p N ∧ Below w.heap.size w wi ∧ wi.ownsRow w.heap.size 76 2 (.slice (some ⟨w.heap.size, 0, none⟩) p N) p (pcells n p)) (fun _ i _ => n - (intOf i).toNat)
      case atStart => exact ⟨0, q, Nat.zero_le _, by rw [HQ.out]; rfl, rfl, rfl, HB.out, HO.out⟩
      case round =>
        obtain ⟨y, p, hy, hp, rfl, rfl, hbi, hoi⟩ := hrel
        have HP := hide hp
        have HBI := hide hbi
        have HOI := hide hoi
        clear hp hbi hoi
        by_cases hlty : y < n
        · have hyz : (y : Int) < n := by omega
          have hpN : p + 1 ≤ N := by have h := pair_lt n x y hlt hlty; rw [HN.out, ← HP.out] at h; omega
          go_wp2_with (at_builtin; refine wpList_append_fits _ rfl _ _ 86 rfl w.heap.size 76 i0 2 Try.underlying86 hi hz1 w.heap.size p N (pcells n p) rfl (HOI.out.alloc _) ⟨wr.heap.size, 0, none⟩ 1 1 [.int .i64 x, .int .i64 y] rfl rfl (World.news_of_block (cs := #[.int .i64 x, .int .i64 y]) (t := 76) (fr := (0, 0)) (heap_alloc_new wr _)) (by simp [Value.oneCell']) hpN ?_)
          intro w3 hown3 hgrow3
          have hb3 : Below w.heap.size w w3 := (HBI.out.alloc HBI.out.size _).grown hgrow3 (by have := HBI.out.size; simp; omega) (fun g hg => by cases hg; exact Nat.le_refl _)
          have HB3 := hide hb3
          have HO3 := hide hown3
          clear hown3 hgrow3 hb3
          go_wp2_with fail
          go_roundw
          case rel =>
            refine ⟨y + 1, p + 1, by omega, by rw [HP.out]; omega, by go_num, rfl, HB3.out, ?_⟩
            have h := HO3.out
            rw [pcells_succ, HP.out, pair_div n x y hlty, pair_mod n x y hlty, ← HP.out]
            exact h
          case measure => simp [intOf]; omega
        · have hyn : y = n := by omega
          subst hyn
          go_wp2_with fail
          go_roundw
          case rel => exact ⟨x + 1, p, by omega, by rw [HP.out, Nat.add_mul]; omega, by go_num, rfl, HBI.out, HOI.out⟩
          case measure => simp [intOf]; omega
    · have hxn : x = n := by omega
      subst hxn
      have hqn : q = N := by rw [HQ.out, HN.out]
      subst hqn
      go_wp2_with fail
      go_ret
      exact ⟨w.heap.size, rfl, HB.out, Nat.le_refl _, pairs_of_owns HN.out HO.out⟩
end Go.Proofs.Ythnkhljgealjdaa
namespace Go.Proofs.Ythnkhljgealjdaa
open Go Go.RowKit
/-- Three elements, and what doing a pair map at a place makes of them. -/
def at0 (f s : List (List Int)) (t : Nat × Nat × Nat) : Nat × Nat × Nat := (ap f t.1 t.2.1, ap s t.1 t.2.1, t.2.2)
def at1 (f s : List (List Int)) (t : Nat × Nat × Nat) : Nat × Nat × Nat := (t.1, ap f t.2.1 t.2.2, ap s t.2.1 t.2.2)
def doAt (f s : List (List Int)) (i : Nat) (t : Nat × Nat × Nat) : Nat × Nat × Nat := if i = 0 then at0 f s t else at1 f s t
def In3 (n : Nat) (t : Nat × Nat × Nat) : Prop := t.1 < n ∧ t.2.1 < n ∧ t.2.2 < n
def lef (f s : List (List Int)) (t : Nat × Nat × Nat) : Nat × Nat × Nat := doAt f s 0 (doAt f s 1 (doAt f s 0 t))
def rig (f s : List (List Int)) (t : Nat × Nat × Nat) : Nat × Nat × Nat := doAt f s 1 (doAt f s 0 (doAt f s 1 t))
/-- The list of number T. -/
def trip (n T : Nat) : Nat × Nat × Nat := (T / n / n, T / n % n, T % n)
def Eq3 (f s : List (List Int)) (n T : Nat) : Prop := lef f s (trip n T) = rig f s (trip n T)
def lst3 (t : Nat × Nat × Nat) : List Int := [(t.1 : Int), (t.2.1 : Int), (t.2.2 : Int)]
/-- The first list at which the equation does not hold: its number, or the number of all lists. -/
def First (f s : List (List Int)) (n T : Nat) : Prop := (∀ i, i < T → Eq3 f s n i) ∧ T ≤ n * n * n ∧ (T < n * n * n → ¬ Eq3 f s n T)
theorem First.ex (f s : List (List Int)) (n : Nat) : ∃ T, First f s n T := by
  have h : ∀ k, k ≤ n * n * n → (∀ i, i < k → Eq3 f s n i) ∨ ∃ T, First f s n T := by
    intro k
    induction k with
    | zero => intro _; exact .inl (fun i hi => absurd hi (Nat.not_lt_zero _))
    | succ k ih =>
      intro hk
      rcases ih (by omega) with h | h
      · by_cases e : Eq3 f s n k
        · refine .inl (fun i hi => ?_)
          by_cases e2 : i = k
          · subst e2; exact e
          · exact h i (by omega)
        · exact .inr ⟨k, h, by omega, fun _ => e⟩
      · exact .inr h
  rcases h _ (Nat.le_refl _) with h | h
  · exact ⟨_, h, Nat.le_refl _, fun h2 => absurd h2 (by omega)⟩
  · exact h
/-- The first one is where it first fails. -/
theorem First.bad {f s : List (List Int)} {n T k : Nat} (h : First f s n T) (h1 : ∀ i, i < k → Eq3 f s n i) (hk : k < n * n * n) (h2 : ¬ Eq3 f s n k) : T = k := by
  have a : ¬ k < T := fun h3 => h2 (h.1 k h3)
  have b : ¬ T < k := fun h3 => h.2.2 (by omega) (h1 T h3)
  omega
theorem First.all {f s : List (List Int)} {n T : Nat} (h : First f s n T) (h1 : ∀ i, i < n * n * n → Eq3 f s n i) : T = n * n * n := by
  have a := h.2.1
  have b : ¬ T < n * n * n := fun h3 => h.2.2 h3 (h1 T h3)
  omega
theorem trip_of {n x y z : Nat} (hy : y < n) (hz : z < n) : trip n ((x * n + y) * n + z) = (x, y, z) := by
  unfold trip
  rw [pair_div n _ z hz, pair_mod n _ z hz, pair_div n x y hy, pair_mod n x y hy]
theorem trip_lt {n x y z : Nat} (hx : x < n) (hy : y < n) (hz : z < n) : (x * n + y) * n + z < n * n * n := by
  have h := pair_lt n x y hx hy
  have h2 : (x * n + y + 1) * n ≤ n * n * n := Nat.mul_le_mul_right n h
  rw [Nat.add_mul, Nat.one_mul] at h2
  omega
theorem In3.do {f s : List (List Int)} (hp : PMap f s) {n : Nat} (hn : f.length = n) {t : Nat × Nat × Nat} (h : In3 n t) (i : Nat) : In3 n (doAt f s i t) := by
  have hm : s.length = n := by rw [← hp.2.2]; exact hn
  obtain ⟨h1, h2, h3⟩ := h
  unfold doAt
  by_cases e : i = 0
  · rw [if_pos e]; exact ⟨hp.1.ap_lt hn h1 h2, hp.2.1.ap_lt hm h1 h2, h3⟩
  · rw [if_neg e]; exact ⟨h1, hp.1.ap_lt hn h2 h3, hp.2.1.ap_lt hm h2 h3⟩
def EqRes (f s : List (List Int)) (zs : List Int) (code : Int) : Prop :=
  (PMap f s ∧ ∃ T, First f s f.length T ∧ ((T < f.length * f.length * f.length ∧ zs = lst3 (trip f.length T) ∧ code = 0) ∨ (T = f.length * f.length * f.length ∧ zs = [] ∧ code = 4))) ∨ (¬ PMap f s ∧ zs = [] ∧ code = 1)
theorem EqRes.ex (f s : List (List Int)) : ∃ zs code, EqRes f s zs code ∧ zs.length ≤ 1048576 := by
  by_cases h : PMap f s
  · obtain ⟨T, hT⟩ := First.ex f s f.length
    by_cases h2 : T < f.length * f.length * f.length
    · exact ⟨_, _, .inl ⟨h, T, hT, .inl ⟨h2, rfl, rfl⟩⟩, by simp [lst3]⟩
    · exact ⟨_, _, .inl ⟨h, T, hT, .inr ⟨by have := hT.2.1; omega, rfl, rfl⟩⟩, by simp⟩
  · exact ⟨_, _, .inr ⟨h, rfl, rfl⟩, by simp⟩
end Go.Proofs.Ythnkhljgealjdaa
namespace Go.Proofs.Ythnkhljgealjdaa
open Go Go.RowKit
/-- The pair to which pair number k is led. -/
def ledK (f s : List (List Int)) (n k : Nat) : Nat × Nat := (ap f (k / n) (k % n), ap s (k / n) (k % n))
/-- The numbers below k that are led to q. -/
def ledL (f s : List (List Int)) (n k : Nat) (q : Nat × Nat) : List Nat := (List.range k).filter (fun j => decide (ledK f s n j = q))
theorem ledL_succ (f s : List (List Int)) (n k : Nat) (q : Nat × Nat) : ledL f s n (k + 1) q = if ledK f s n k = q then ledL f s n k q ++ [k] else ledL f s n k q := by
  unfold ledL
  rw [List.range_succ, List.filter_append]
  by_cases h : ledK f s n k = q
  · simp [h]
  · simp [h]
theorem ledL_mem {f s : List (List Int)} {n k : Nat} {q : Nat × Nat} {j : Nat} : j ∈ ledL f s n k q ↔ j < k ∧ ledK f s n j = q := by
  unfold ledL
  simp
theorem ledL_sorted (f s : List (List Int)) (n k : Nat) (q : Nat × Nat) : (ledL f s n k q).Pairwise (· < ·) := by
  unfold ledL
  exact List.Pairwise.filter _ List.pairwise_lt_range
theorem ledL_len (f s : List (List Int)) (n k : Nat) (q : Nat × Nat) : (ledL f s n k q).length ≤ k := by
  have h := List.length_filter_le (fun j => decide (ledK f s n j = q)) (List.range k)
  unfold ledL
  simpa using h
def NoCol (f s : List (List Int)) (n : Nat) : Prop := ∀ i j, i < n * n → j < n * n → i ≠ j → ledK f s n i ≠ ledK f s n j
/-- The first two that are led to one. -/
def FstCol (f s : List (List Int)) (n a b : Nat) : Prop := a < n * n ∧ b < n * n ∧ a ≠ b ∧ ledK f s n a = ledK f s n b ∧ (∀ i, i < a → ∀ j, j < n * n → j ≠ i → ledK f s n i ≠ ledK f s n j) ∧ (∀ j, j < b → j ≠ a → ledK f s n a ≠ ledK f s n j)
theorem FstCol.uniq {f s : List (List Int)} {n a b a' b' : Nat} (h : FstCol f s n a b) (h' : FstCol f s n a' b') : a = a' ∧ b = b' := by
  obtain ⟨h1, h2, h3, h4, h5, h6⟩ := h
  obtain ⟨g1, g2, g3, g4, g5, g6⟩ := h'
  have e : a = a' := by
    rcases Nat.lt_trichotomy a a' with hl | hl | hl
    · exact absurd h4 (g5 a hl b h2 h3.symm)
    · exact hl
    · exact absurd g4 (h5 a' hl b' g2 g3.symm)
  subst e
  refine ⟨rfl, ?_⟩
  rcases Nat.lt_trichotomy b b' with hl | hl | hl
  · exact absurd h4 (g6 b hl h3.symm)
  · exact hl
  · exact absurd g4 (h6 b' hl g3.symm)
theorem FstCol.not {f s : List (List Int)} {n a b : Nat} (h : FstCol f s n a b) : ¬ NoCol f s n := fun hn => hn a b h.1 h.2.1 h.2.2.1 h.2.2.2.1
/-- At the first one whose list has two, the second one of the list. -/
theorem FstCol.of_list {f s : List (List Int)} {n k : Nat} (hk : k < n * n) (h1 : ∀ i, i < k → (ledL f s n (n * n) (ledK f s n i)).length ≤ 1) (h2 : 1 < (ledL f s n (n * n) (ledK f s n k)).length) :
    FstCol f s n k ((ledL f s n (n * n) (ledK f s n k)).getD 1 0) := by
  have hnone : ∀ i, i < k → ∀ j, j < n * n → j ≠ i → ledK f s n i ≠ ledK f s n j := by
    intro i hi j hj hne e
    have m1 : i ∈ ledL f s n (n * n) (ledK f s n i) := ledL_mem.2 ⟨by omega, rfl⟩
    have m2 : j ∈ ledL f s n (n * n) (ledK f s n i) := ledL_mem.2 ⟨hj, e.symm⟩
    have hl := h1 i hi
    match hL : ledL f s n (n * n) (ledK f s n i), m1, m2 with
    | [x], m1, m2 => simp at m1 m2; omega
    | x :: y :: r, _, _ => rw [hL] at hl; simp at hl
  match hL : ledL f s n (n * n) (ledK f s n k), h2 with
  | x :: y :: r, _ =>
    have hs := ledL_sorted f s n (n * n) (ledK f s n k)
    rw [hL] at hs
    have hxy : x < y := by
      have := (List.pairwise_cons.1 hs).1 y (by simp)
      exact this
    have mx : x < n * n ∧ ledK f s n x = ledK f s n k := ledL_mem.1 (by rw [hL]; simp)
    have my : y < n * n ∧ ledK f s n y = ledK f s n k := ledL_mem.1 (by rw [hL]; simp)
    have mk : k ∈ ledL f s n (n * n) (ledK f s n k) := ledL_mem.2 ⟨hk, rfl⟩
    have hxk : x = k := by
      rcases Nat.lt_trichotomy x k with hl | hl | hl
      · exact absurd mx.2 (hnone x hl k hk (by omega))
      · exact hl
      · rw [hL] at mk
        rcases List.mem_cons.1 mk with e | e
        · omega
        · have := (List.pairwise_cons.1 hs).1 k e; omega
    subst hxk
    simp only [List.getD_cons_succ, List.getD_cons_zero]
    refine ⟨hk, my.1, by omega, my.2.symm, hnone, fun j hj hne e => ?_⟩
    have mj : j ∈ ledL f s n (n * n) (ledK f s n x) := ledL_mem.2 ⟨by have := my.1; omega, e.symm⟩
    rw [hL] at mj
    rcases List.mem_cons.1 mj with e1 | e1
    · exact hne e1
    · rcases List.mem_cons.1 e1 with e2 | e2
      · omega
      · have h3 := (List.pairwise_cons.1 hs).2
        have := (List.pairwise_cons.1 h3).1 j e2
        omega
theorem NoCol.of_list {f s : List (List Int)} {n : Nat} (h1 : ∀ i, i < n * n → (ledL f s n (n * n) (ledK f s n i)).length ≤ 1) : NoCol f s n := by
  intro i j hi hj hne e
  have m1 : i ∈ ledL f s n (n * n) (ledK f s n i) := ledL_mem.2 ⟨hi, rfl⟩
  have m2 : j ∈ ledL f s n (n * n) (ledK f s n i) := ledL_mem.2 ⟨hj, e.symm⟩
  have hl := h1 i hi
  match hL : ledL f s n (n * n) (ledK f s n i), m1, m2 with
  | [x], m1, m2 => simp at m1 m2; omega
  | x :: y :: r, _, _ => rw [hL] at hl; simp at hl
theorem col_or (f s : List (List Int)) (n : Nat) : NoCol f s n ∨ ∃ a b, FstCol f s n a b := by
  have key : ∀ k, k ≤ n * n → (∀ i, i < k → (ledL f s n (n * n) (ledK f s n i)).length ≤ 1) ∨ ∃ a b, FstCol f s n a b := by
    intro k
    induction k with
    | zero => intro _; exact .inl (fun i hi => absurd hi (Nat.not_lt_zero _))
    | succ k ih =>
      intro hk
      rcases ih (by omega) with h | h
      · by_cases e : 1 < (ledL f s n (n * n) (ledK f s n k)).length
        · exact .inr ⟨_, _, FstCol.of_list (by omega) h e⟩
        · exact .inl (fun i hi => by
            by_cases e2 : i = k
            · subst e2; omega
            · exact h i (by omega))
      · exact .inr h
  rcases key _ (Nat.le_refl _) with h | h
  · exact .inl (NoCol.of_list h)
  · exact .inr h
/-- The cells of pairs, given by their numbers. -/
def pcs (n : Nat) (l : List Nat) : List Value := l.flatMap (fun j => [.int .i64 ((j / n : Nat) : Int), .int .i64 ((j % n : Nat) : Int)])
theorem pcs_length (n : Nat) (l : List Nat) : (pcs n l).length = l.length * 2 := by
  induction l with
  | nil => rfl
  | cons a r ih => simp only [pcs, List.flatMap_cons, List.length_append, List.length_cons, List.length_nil] at ih ⊢; omega
theorem pcs_snoc (n : Nat) (l : List Nat) (k : Nat) : pcs n (l ++ [k]) = pcs n l ++ [.int .i64 ((k / n : Nat) : Int), .int .i64 ((k % n : Nat) : Int)] := by simp [pcs]
theorem pcs_second (n : Nat) (l : List Nat) (h : 1 < l.length) : (pcs n l)[2]? = some (.int .i64 ((l.getD 1 0 / n : Nat) : Int)) ∧ (pcs n l)[3]? = some (.int .i64 ((l.getD 1 0 % n : Nat) : Int)) := by
  match l, h with
  | a :: b :: r, _ => simp [pcs]
def CoRes (f s : List (List Int)) (zs : List Int) (code : Int) : Prop :=
  (∃ a b, PMap f s ∧ FstCol f s f.length a b ∧ zs = [((a / f.length : Nat) : Int), ((a % f.length : Nat) : Int), ((b / f.length : Nat) : Int), ((b % f.length : Nat) : Int)] ∧ code = 0) ∨ (PMap f s ∧ NoCol f s f.length ∧ zs = [] ∧ code = 4) ∨ (¬ PMap f s ∧ zs = [] ∧ code = 1)
theorem CoRes.ex (f s : List (List Int)) : ∃ zs code, CoRes f s zs code ∧ zs.length ≤ 1048576 := by
  by_cases h : PMap f s
  · rcases col_or f s f.length with h1 | ⟨a, b, h1⟩
    · exact ⟨_, _, .inr (.inl ⟨h, h1, rfl, rfl⟩), by simp⟩
    · exact ⟨_, _, .inl ⟨a, b, h, h1, rfl, rfl⟩, by simp⟩
  · exact ⟨_, _, .inr (.inr ⟨h, rfl, rfl⟩), by simp⟩
end Go.Proofs.Ythnkhljgealjdaa
namespace Go.Proofs.Ythnkhljgealjdaa
open Go Go.RowKit
open Classical

theorem Rch.trans {rows : List (List Int)} {x y z : Nat} (h : Rch rows x y) (k : Rch rows y z) : Rch rows x z := by
  induction k with
  | start => exact h
  | step _ hs ih => exact .step ih hs

/-- The labels when the elements below k are done, and the number of the next orbit. -/
noncomputable def lab (rows : List (List Int)) : Nat → (Nat → Int) × Nat
  | 0 => (fun _ => -1, 0)
  | x + 1 => if 0 ≤ (lab rows x).1 x then lab rows x else (fun y => if Rch rows x y then ((lab rows x).2 : Int) else (lab rows x).1 y, (lab rows x).2 + 1)
noncomputable def labL (rows : List (List Int)) (n k : Nat) : List Int := (List.range n).map (lab rows k).1
theorem labL_length (rows : List (List Int)) (n k : Nat) : (labL rows n k).length = n := by simp [labL]
theorem labL_at (rows : List (List Int)) (n k y : Nat) (h : y < n) : (labL rows n k).getD y 0 = (lab rows k).1 y := by simp [labL, h]
theorem lab_le (rows : List (List Int)) (k : Nat) : (lab rows k).2 ≤ k := by
  induction k with
  | zero => simp [lab]
  | succ k ih =>
    unfold lab
    split
    · omega
    · show (lab rows k).2 + 1 ≤ k + 1; omega
theorem lab_lo (rows : List (List Int)) (k y : Nat) : -1 ≤ (lab rows k).1 y ∧ (lab rows k).1 y ≤ k := by
  induction k with
  | zero => simp [lab]
  | succ k ih =>
    unfold lab
    split
    · omega
    · have := lab_le rows k
      show -1 ≤ (if Rch rows k y then ((lab rows k).2 : Int) else (lab rows k).1 y) ∧ (if Rch rows k y then ((lab rows k).2 : Int) else (lab rows k).1 y) ≤ _
      split <;> omega

/-- Rows of permutations of n elements. -/
def Gens (rows : List (List Int)) (n : Nat) : Prop := ∀ r, r < rows.length → (rows.getD r []).length = n ∧ Prm (rows.getD r [])
theorem Gens.at {rows : List (List Int)} {n : Nat} (h : Gens rows n) {r v : Nat} (hr : r < rows.length) (hv : v < n) : 0 ≤ (rows.getD r []).getD v 0 ∧ (rows.getD r []).getD v 0 < (n : Int) := by
  obtain ⟨hl, hp⟩ := h r hr
  obtain ⟨p, hpe⟩ : ∃ p, p = rows.getD r [] := ⟨_, rfl⟩
  rw [← hpe] at hl hp ⊢
  have hm : p.getD v 0 ∈ p := by have : v < p.length := (by omega); simp [this]
  have := hp.2.2.1 _ hm
  rw [hl] at this
  exact this
theorem Gens.inj {rows : List (List Int)} {n : Nat} (h : Gens rows n) {r u v : Nat} (hr : r < rows.length) (hu : u < n) (hv : v < n) (e : ((rows.getD r []).getD u 0).toNat = ((rows.getD r []).getD v 0).toNat) : u = v := by
  have h1 := h.at hr hu
  have h2 := h.at hr hv
  obtain ⟨hl, hp⟩ := h r hr
  obtain ⟨p, hpe⟩ : ∃ p, p = rows.getD r [] := ⟨_, rfl⟩
  rw [← hpe] at hl hp e h1 h2
  have e2 : p.getD u 0 = p.getD v 0 := by omega
  have hul : u < p.length := by omega
  have hvl : v < p.length := by omega
  have e3 : p[u] = p[v] := by simpa [hul, hvl] using e2
  have hpw := List.pairwise_iff_getElem.1 hp.2.2.2
  rcases Nat.lt_trichotomy u v with h | h | h
  · exact absurd e3 (hpw u v hul hvl h)
  · exact h
  · exact absurd e3.symm (hpw v u hvl hul h)
theorem Gens.stay {rows : List (List Int)} {n : Nat} (h : Gens rows n) {x y : Nat} (hx : x < n) (hr : Rch rows x y) : y < n := by
  induction hr with
  | start => exact hx
  | step _ hs ih =>
    obtain ⟨r, hr, e⟩ := hs
    have := h.at hr ih
    omega
theorem Gens.back {rows : List (List Int)} {n : Nat} (h : Gens rows n) {x y z : Nat} (hx : x < n) (hy : y < n) (hs : stp rows y z) (hz : Rch rows x z) : Rch rows x y := by
  obtain ⟨r, hr, e⟩ := hs
  let l : List Nat := (List.range n).filter (fun v => decide (Rch rows x v))
  have hl : l.Nodup := List.Pairwise.filter _ List.nodup_range
  have hml : ∀ v, v ∈ l ↔ v < n ∧ Rch rows x v := fun v => by simp [l]
  let f : Nat → Nat := fun v => ((rows.getD r []).getD v 0).toNat
  have hnd : (l.map f).Nodup := by
    rw [List.nodup_iff_pairwise_ne, List.pairwise_map]
    refine List.Pairwise.imp_of_mem ?_ (List.nodup_iff_pairwise_ne.1 hl)
    intro a b ha hb hne e2
    exact hne (h.inj hr ((hml a).1 ha).1 ((hml b).1 hb).1 e2)
  have hsub : ∀ a ∈ l.map f, a ∈ l := by
    intro a ha
    obtain ⟨v, hv, rfl⟩ := List.mem_map.1 ha
    have hv' := (hml v).1 hv
    have hr' : Rch rows x (f v) := .step hv'.2 ⟨r, hr, rfl⟩
    exact (hml _).2 ⟨h.stay hx hr', hr'⟩
  obtain ⟨l', hl'⟩ := subset_perm (l.map f) l hnd hsub
  have hlen := hl'.length_eq
  rw [List.length_append, List.length_map] at hlen
  have h0 : l' = [] := List.eq_nil_of_length_eq_zero (by omega)
  subst h0
  rw [List.append_nil] at hl'
  have hzl : z ∈ l := (hml z).2 ⟨h.stay hx hz, hz⟩
  obtain ⟨y', hy', e'⟩ := List.mem_map.1 (hl'.mem_iff.1 hzl)
  have hy2 := (hml y').1 hy'
  have : y = y' := h.inj hr hy hy2.1 (by rw [e]; exact e'.symm)
  rw [this]
  exact hy2.2
theorem lab_closed {rows : List (List Int)} {n : Nat} (h : Gens rows n) (k : Nat) (hk : k ≤ n) (y z : Nat) (hy : y < n) (hs : stp rows y z) : 0 ≤ (lab rows k).1 y ↔ 0 ≤ (lab rows k).1 z := by
  induction k with
  | zero => simp [lab]
  | succ k ih =>
    have ih := ih (by omega)
    unfold lab
    split
    · exact ih
    · show 0 ≤ (if Rch rows k y then ((lab rows k).2 : Int) else (lab rows k).1 y) ↔ 0 ≤ (if Rch rows k z then ((lab rows k).2 : Int) else (lab rows k).1 z)
      by_cases h1 : Rch rows k y
      · rw [if_pos h1, if_pos (.step h1 hs)]
      · have h2 : ¬ Rch rows k z := fun h2 => h1 (h.back (by omega) hy hs h2)
        rw [if_neg h1, if_neg h2]
        exact ih
theorem Sys.gens {n : Nat} {rows : List (List Int)} (h : Sys (n : Int) rows) : Gens rows n := fun r hr => ⟨by have := (h.2.2.2 r hr).1; omega, (h.2.2.2 r hr).2⟩
def OrbRes (n : Int) (rows : List (List Int)) (zs : List Int) (code : Int) : Prop := (Sys n rows ∧ zs = labL rows n.toNat n.toNat ∧ code = 0) ∨ (¬ Sys n rows ∧ zs = [] ∧ code = 1)
theorem OrbRes.ex (n : Int) (rows : List (List Int)) : ∃ zs code, OrbRes n rows zs code ∧ zs.length ≤ 4194304 := by
  by_cases h : Sys n rows
  · exact ⟨_, _, .inl ⟨h, rfl, rfl⟩, by rw [labL_length]; have := h.2.1; omega⟩
  · exact ⟨_, _, .inr ⟨h, rfl, rfl⟩, by simp⟩
end Go.Proofs.Ythnkhljgealjdaa
namespace Go.Proofs.Ythnkhljgealjdaa
open Go Go.RowKit
set_option maxHeartbeats 1000000

end Go.Proofs.Ythnkhljgealjdaa
