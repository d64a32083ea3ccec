import Derived.Test.YtiaebilcgmahlaaZt
import Derived.Test.YtiaebilcgmahlaaZr
import Derived.Test.YtiaebilcgmahlaaSortLaid
import Derived.Test.YtiaebilcgmahlaaZj
import Derived.Test.YtiaebilcgmahlaaZk
import Derived.Test.YtiaebilcgmahlaaZs
import Derived.Test.YtiaebilcgmahlaaZe
import Derived.Deep.Cut
import Derived.Test.YtiaebilcgmahlaaZo
import Derived.Test.YtiaebilcgmahlaaZc
namespace Go.Proofs.Ytiaebilcgmahlaa
open Go Go.RowKit

/-- As FB, of a call that may begin without a box of its own: all boxes lie below top. -/
structure FC (w wx : World) (top : Nat) (bs : List (Nat × TypeId × List Value)) : Prop where
  below : Below w.heap.size w wx
  blks : ∀ q, q ∈ bs → Blk wx q.1 q.2.1 q.2.2 ∧ q.1 < top
  low : w.heap.size ≤ top
  sz : top ≤ wx.heap.size

section
variable {w wx wy : World} {top : Nat} {bs : List (Nat × TypeId × List Value)}
theorem FC.of (hb : Below w.heap.size w wx) (h : ∀ q, q ∈ bs → Blk wx q.1 q.2.1 q.2.2) : FC w wx wx.heap.size bs :=
  ⟨hb, fun q hq => ⟨h q hq, (h q hq).lt⟩, hb.size, Nat.le_refl _⟩
theorem FC.later (h : FC w wx top bs) (hb : Below wx.heap.size wx wy) : FC w wy top bs :=
  ⟨h.below.trans (hb.mono h.below.size), fun q hq => ⟨(h.blks q hq).1.later hb, (h.blks q hq).2⟩, h.low, Nat.le_trans h.sz hb.size⟩
theorem FC.set (h : FC w wx top bs) {p : Addr} (hp : top ≤ p.block) (v : Value) : FC w (wx.setCell p v) top bs :=
  ⟨h.below.setCell (Nat.le_trans h.low hp) v, fun q hq => ⟨(h.blks q hq).1.far (by have := (h.blks q hq).2; omega) v, (h.blks q hq).2⟩, h.low, by have := h.sz; simp [World.setCell]; omega⟩
theorem FC.push (h : FC w wx top bs) {L : Nat} {t : TypeId} {cs : List Value} (hb : Blk wx L t cs) (hL : top ≤ L) : FC w wx (L + 1) ((L, t, cs) :: bs) :=
  ⟨h.below, fun q hq => by
    rcases List.mem_cons.1 hq with rfl | hq
    · exact ⟨hb, Nat.lt_succ_self _⟩
    · exact ⟨(h.blks q hq).1, by have := (h.blks q hq).2; omega⟩, by have := h.low; omega, hb.lt⟩
theorem FC.new (h : FC w wx top bs) (t : TypeId) (cs : List Value) : FC w (wx.alloc (.cells cs.toArray t)) (wx.heap.size + 1) ((wx.heap.size, t, cs) :: bs) :=
  (h.later ((Below.refl _ _).alloc (Nat.le_refl _) _)).push (Blk.new _ _ _) h.sz
theorem FC.blk (h : FC w wx top bs) {b : Nat} {t : TypeId} {cs : List Value} (hm : (b, t, cs) ∈ bs) : Blk wx b t cs := (h.blks _ hm).1
theorem FC.le (h : FC w wx top bs) {b : Nat} {t : TypeId} {cs : List Value} (hm : (b, t, cs) ∈ bs) : b < top := (h.blks _ hm).2
end
end Go.Proofs.Ytiaebilcgmahlaa
namespace Go.Proofs.Ytiaebilcgmahlaa
open Go Go.RowKit

section
variable {ts t tz : TypeId} {B : Nat} {w w' w1 : World} {v v' : Value} {rows : List (List Int)} {vals : List Value} {ob : Nat}

/-- A list of rows that the call builds by append, in cell s of the box ob, whose other cells are cs. -/
structure One (ts t tz : TypeId) (B : Nat) (w : World) (ob s : Nat) (cs : List Value) (v : Value) (rows : List (List Int)) (vals : List Value) : Prop where
  box : Blk w ob tz (cs.set s v)
  low : ob < B
  bsz : B ≤ w.heap.size
  l : LstV ts t B w v rows vals

variable {s : Nat} {cs : List Value}
theorem One.later (h : One ts t tz B w ob s cs v rows vals) (hb : Below w.heap.size w w') : One ts t tz B w' ob s cs v rows vals :=
  ⟨h.box.later hb, h.low, Nat.le_trans h.bsz hb.size, h.l.later hb⟩
theorem One.kept {tmp : Obj} (h : One ts t tz B w ob s cs v rows vals) (hg : (w.alloc tmp).grownBy w1 v.ownBlock) : Blk w1 ob tz (cs.set s v) :=
  (hg.block ob (by have := h.box.lt; simp; omega) (fun e => by
    have := (own_type h.l.own e.symm).2.1
    have := h.low
    omega)).trans (h.box.later ((Below.refl _ _).alloc (Nat.le_refl _) _))
theorem One.push {A : Option Addr} {c : Nat} {r : List Int} {tmp : Obj} (hne : ts ≠ t) (h : One ts t tz B w ob s cs v rows vals) (hA : Obj1 t B w.heap.size w A r)
    (hdis : ∀ (i : Nat) (u : Value) (g : Nat), vals[i]? = some u → u.ownBlock = some g → ∀ a, A = some a → a.block ≠ g)
    (hown : w1.ownsRow B ts 1 v' (rows.length + 1) (vals ++ [.slice A r.length c])) (hg : (w.alloc tmp).grownBy w1 v.ownBlock) :
    One ts t tz B (w1.setCell ⟨ob, s, none⟩ v') ob s cs v' (rows ++ [r]) (vals ++ [.slice A r.length c]) := by
  refine ⟨?_, h.low, by have h1 := hg.size; have h2 := h.bsz; simp at h1; simp [World.setCell]; omega, store_low (h.l.push2 hne hA hdis hown hg) h.low _ _⟩
  have hb1 : Blk w1 ob tz (cs.set s v) := h.kept hg
  have h2 := hb1.set s v'
  rw [List.set_set] at h2
  exact h2
theorem One.start (w : World) (ts t tz : TypeId) (hb : Blk w ob tz (cs.set s (.slice none 0 0))) (hB : ob < B) (hw : B ≤ w.heap.size) : One ts t tz B w ob s cs (.slice none 0 0) [] [] :=
  ⟨hb, hB, hw, LstV.nil _ _ _ _⟩
theorem One.frame {tmp : Obj} (h : One ts t tz B w ob s cs v rows vals) (hg : (w.alloc tmp).grownBy w1 v.ownBlock) (u : Value) {k : Nat} (hk : k < B) (hne : k ≠ ob) (hkw : k < w.heap.size) : (w1.setCell ⟨ob, s, none⟩ u).heap[k]? = w.heap[k]? :=
  (Below.heap_setCell w1 ⟨ob, s, none⟩ u k hne).trans ((hg.block k (by simp; omega) (fun e => by
    have := (own_type h.l.own e.symm).2.1
    omega)).trans (((Below.refl w.heap.size w).alloc (Nat.le_refl _) tmp).block k hkw))
theorem One.below {tmp : Obj} {b0 : Nat} {w0 : World} (h : One ts t tz B w ob s cs v rows vals) (hg : (w.alloc tmp).grownBy w1 v.ownBlock) (u : Value) (hb : Below b0 w0 w) (h0 : b0 ≤ ob) : Below b0 w0 (w1.setCell ⟨ob, s, none⟩ u) :=
  ((hb.alloc (by have := h.box.lt; omega) tmp).grown hg (by have := h.box.lt; simp; omega) (fun g e => by
    have := (own_type h.l.own e).2.1
    have := h.low
    omega)).setCell (p := ⟨ob, s, none⟩) h0 u
/-- A row that a call has made behind the world w0, in which the list lay already, is appended and stored. -/
theorem One.add {w0 : World} {A : Option Addr} {c k x gg cap : Nat} {r : List Int} {tmp : Obj} {lo : Nat} (hne : ts ≠ t) (h0 : One ts t tz B w0 ob s cs v rows vals) (h : One ts t tz B w ob s cs v rows vals) (hlo : w0.heap.size ≤ lo) (hA : Obj1 t lo w.heap.size w A r) (hl : rows.length = x) (hr : r.length = k)
    (hown : w1.ownsRow B ts 1 (.slice (some ⟨gg, 0, none⟩) (x + 1) cap) (x + 1) (vals ++ [.slice A k c])) (hg : (w.alloc tmp).grownBy w1 v.ownBlock) :
    One ts t tz B (w1.setCell ⟨ob, s, none⟩ (.slice (some ⟨gg, 0, none⟩) (x + 1) cap)) ob s cs (.slice (some ⟨gg, 0, none⟩) (x + 1) cap) (rows ++ [r]) (vals ++ [.slice A k c]) := by
  have hB := h0.bsz
  subst hr
  subst hl
  refine h.push hne (hA.mono (by omega) (Nat.le_refl _)) (fun i u g hu hug a ha => ?_) hown hg
  have h1 := h0.l.low i u g hu hug
  have h2 := (hA.bounds a ha).1
  omega
end

/-- The table of a result is laid into its box. -/
theorem kend {ts t tz : TypeId} {w w3 wf : World} {r lo hi : Nat} {A : Option Addr} {n c : Nat} {f : List (List Int)} {u : Value} (hwf : wf = w3.setCell ⟨r, 0, none⟩ (.slice A n c)) (hr : Blk w3 r tz [u]) (hr0 : w.heap.size ≤ r) (hb : Below w.heap.size w w3) (ho : Obj2 ts t lo hi w3 A f) (hlo : w.heap.size ≤ lo) (hrl : r < lo) (hhi : hi ≤ w3.heap.size) :
    wf.cell? ⟨r, 0, none⟩ = some (.slice A n c) ∧ Below w.heap.size w wf ∧ Obj2 ts t w.heap.size wf.heap.size wf A f := by
  have hR : Blk wf r tz [.slice A n c] := by rw [hwf]; exact hr.set 0 _
  refine ⟨hR.cell 0 _ rfl, ?_, ?_⟩
  · rw [hwf]; exact hb.setCell (p := ⟨r, 0, none⟩) hr0 _
  · rw [hwf]; exact (ho.set (p := ⟨r, 0, none⟩) (.inl hrl) _).mono hlo (by simp [World.setCell]; exact hhi)
end Go.Proofs.Ytiaebilcgmahlaa
namespace Go.Proofs.Ytiaebilcgmahlaa
open Go Go.RowKit Go.Sort Go.Lib Go.Shelf
set_option maxHeartbeats 2000000
/-- slices.SortFunc by slices.Compare over different rows of one length that lie in memory of their own. -/
theorem sortRows_any (n : Nat) (B : Nat) (v : Value) (rows : List (List Int)) (vals : List Value) (w : World) (hb : n ≤ 1048576) (hr0 : 0 < rows.length) (hrb : rows.length ≤ 1048576) (hls : ∀ i, i < rows.length → (rows.getD i []).length = n) (hnd : rows.Nodup) (hB : B ≤ w.heap.size) (h : LstV 25 2 B w v rows vals) :
    Calls Try.prog 101 #[v, .func (.func 102) #[] #[]] w fun e w' => e = .returned (.tuple #[]) ∧ Go.RowKit.Below B w w' ∧ ∃ rows' vals', LstV 25 2 B w' v rows' vals' ∧ Asc rows' ∧ rows'.length = rows.length ∧ ∀ x, x ∈ rows' ↔ x ∈ rows := by
  obtain ⟨M, hM⟩ : ∃ M, rows.length = M + 1 := ⟨rows.length - 1, by omega⟩
  have hvl : vals.length = M + 1 := by rw [ownsRow_len h.own, hM]
  rcases h.own.2 with ⟨_, hz⟩ | ⟨g, cap, cur, rfl, hBg, hh, hcap, hmx, hsz, htk⟩
  · omega
  · have hgl : g < w.heap.size := (Array.getElem?_eq_some_iff.1 hh).1
    let R : Fin (M + 1) → List Int := fun i => rows.getD i.val []
    let V : Fin (M + 1) → Value := fun i => vals.getD i.val (.slice none 0 0)
    have hV : ∀ i : Fin (M + 1), vals[i.val]? = some (V i) := fun i => by
      have : i.val < vals.length := by omega
      simp [V, this]
    have hrow : ∀ i : Fin (M + 1), ∃ A c, V i = .slice A n c ∧ Obj1 2 B w.heap.size w A (R i) := fun i => by
      obtain ⟨A, c, e1, e2⟩ := h.row i.val (by omega)
      rw [hV i] at e1
      rw [hls i.val (by omega)] at e1
      exact ⟨A, c, Option.some.inj e1, e2⟩
    have hone : OneCell V := fun i => by
      obtain ⟨A, c, e, _⟩ := hrow i
      rw [e]; rfl
    have hinj : ∀ x y, R x = R y → x = y := fun x y e => by
      have h1 : x.val < rows.length := by omega
      have h2 : y.val < rows.length := by omega
      have e2 : rows[x.val] = rows[y.val] := by simpa [R, h1, h2] using e
      exact Fin.ext ((List.getElem_inj (h₀ := h1) (h₁ := h2) hnd).1 e2)
    have hcur : ∀ i : Fin (M + 1), cur[i.val]? = some (V i) := fun i => by
      have h5 := hV i
      rw [← htk, List.getElem?_take, if_pos (by omega)] at h5
      simpa using h5
    have hts : (25 : TypeId) ≠ 2 := by decide
    have hkeep : ∀ (k : Nat) (d : Array (Fin (M + 1))) (os : Array Obj), KeepT 2 w (sortWorld V w g 0 k d os) := fun k d os => sortWorld_keep V w g k d os hts hh
    have hdsz : (Array.ofFn (n := M + 1) id).size = M + 1 := by simp
    have hH : Holds V w g 0 (Array.ofFn (n := M + 1) id) := fun j hj => by
      rw [hdsz] at hj
      have e : (Array.ofFn (n := M + 1) id)[j]! = ⟨j, hj⟩ := by
        rw [getElem!_pos _ j (by simpa using hj)]
        simp
      rw [e, Nat.zero_add]
      exact ⟨by rw [cell_of_row w g j cur 25 (0, 0) hh]; exact hcur ⟨j, hj⟩, by simp [World.frozen?, hh]⟩
    have hcmp : CmpLays1 Try.prog 102 #[] V (fun i j => cmpW (R i) (R j)) g 0 (Array.ofFn (n := M + 1) id).size w := fun m os dk _ x y => by
      obtain ⟨A, c, e1, o1⟩ := hrow x
      obtain ⟨A2, c2, e2, o2⟩ := hrow y
      have hx := ((hkeep m dk os).obj o1).rd
      have hy := ((hkeep m dk os).obj o2).rd
      have hc := cmpRow_any n A A2 c c2 (R x) (R y) (sortWorld V w g 0 m dk os) (hls x.val (by omega)) (hls y.val (by omega)) hb hx hy
      rw [e1, e2]
      exact hc.mono fun e w' hh2 => ⟨hh2.1, 0, #[], by rw [hh2.2, grow_empty]; rfl⟩
    have hS := Any.slices_SortFunc_total Try.sortR V hone (fun i j => cmpW (R i) (R j)) (rowSwo R) 102 #[] g 0 cap (Array.ofFn (n := M + 1) id) w (enters_of Try.func102 (by kernel_rfl) rfl) hcmp hH hgl (by rw [hdsz]; omega) (rowTot R hinj)
    rw [hdsz] at hS
    change Calls Try.prog 101 _ _ _ at hS
    rw [hM]
    refine hS.mono ?_
    rintro e w' ⟨rfl, k, os, hw'⟩
    have hsrt : ((Array.ofFn (n := M + 1) id).toList.mergeSort fun x y => !(ltOf (fun i j => cmpW (R i) (R j))) y x) = srtI R := rfl
    rw [hsrt] at hw'
    have hK := hkeep k (srtI R).toArray os
    rw [← hw'] at hK
    have hlow : Go.RowKit.Below B w w' := by rw [hw']; exact sortWorld_low V w g k _ os B hBg hB
    have htop : w'.heap[g]? = some (.cells (putCells V 0 (srtI R).toArray cur) 25 (0, 0)) := by rw [hw']; exact sortWorld_top V w g k _ os cur _ _ hh
    have hlen := srtI_len R
    have hnds := srtI_nd R
    refine ⟨rfl, hlow, (srtI R).map R, (srtI R).map V, ⟨⟨by simp [hlen], .inr ⟨g, cap, _, by rw [List.length_map, hlen], hBg, htop, ?_, hmx, ?_, ?_⟩⟩, fun i hi => ?_, fun i j u u' g' hij hu hu' hg' => ?_⟩, srtI_asc R hinj, by simp [hlen], fun x => ?_⟩
    · simp [hlen]; omega
    · simp [putCells, hsz]
    · apply List.ext_getElem?
      intro j
      rw [List.getElem?_take]
      by_cases hj : j < M + 1
      · have hj2 : j < cur.size := by omega
        have e1 : j < ((srtI R).map R).length * 1 := by simp [hlen]; omega
        rw [if_pos e1]
        have hjs : j < (srtI R).length := by omega
        simp only [putCells, Array.getElem?_toList, Array.getElem?_mapIdx, List.getElem?_map]
        rw [Array.getElem?_eq_getElem hj2, List.getElem?_eq_getElem hjs]
        simp [hlen, hj]
      · have e1 : ¬ j < ((srtI R).map R).length * 1 := by simp [hlen]; omega
        rw [if_neg e1, List.getElem?_eq_none (by simp [hlen]; omega)]
    · have hi2 : i < (srtI R).length := by simpa using hi
      obtain ⟨A, c, e1, o1⟩ := hrow (srtI R)[i]
      have e2 : ((srtI R).map R).getD i [] = R (srtI R)[i] := by simp [hi2]
      refine ⟨A, c, ?_, ?_⟩
      · rw [List.getElem?_map, List.getElem?_eq_getElem hi2, e2]
        show some (V (srtI R)[i]) = _
        rw [e1, show (R (srtI R)[i]).length = n from hls _ (by omega)]
      · rw [e2]
        exact (hK.obj o1).mono (Nat.le_refl _) hlow.size
    · have hj2 : j < (srtI R).length := by have := (List.getElem?_eq_some_iff.1 hu').1; simpa using this
      have hi2 : i < (srtI R).length := by omega
      rw [List.getElem?_map, List.getElem?_eq_getElem hi2] at hu
      rw [List.getElem?_map, List.getElem?_eq_getElem hj2] at hu'
      have hu1 : V (srtI R)[i] = u := Option.some.inj hu
      have hu2 : V (srtI R)[j] = u' := Option.some.inj hu'
      have hne : (srtI R)[i] ≠ (srtI R)[j] := fun e => by
        have := (List.getElem_inj (h₀ := hi2) (h₁ := hj2) hnds).1 e
        omega
      have hne2 : (srtI R)[i].val ≠ (srtI R)[j].val := fun e => hne (Fin.ext e)
      intro e
      rcases Nat.lt_or_gt_of_ne hne2 with hlt | hlt
      · exact h.ne _ _ u u' g' hlt (by rw [hV, hu1]) (by rw [hV, hu2]) hg' e
      · exact h.ne _ _ u' u g' hlt (by rw [hV, hu2]) (by rw [hV, hu1]) e hg'
    · constructor
      · intro hx
        obtain ⟨i, _, rfl⟩ := List.mem_map.1 hx
        have : i.val < rows.length := by omega
        simp [R, this]
      · intro hx
        obtain ⟨j, hj, rfl⟩ := List.getElem_of_mem hx
        refine List.mem_map.2 ⟨⟨j, by omega⟩, srtI_mem R _, ?_⟩
        simp [R, hj]
end Go.Proofs.Ytiaebilcgmahlaa
namespace Go.Proofs.Ytiaebilcgmahlaa
open Go Go.RowKit
set_option maxHeartbeats 4000000
theorem half (lo hi : Nat) : ((lo : Int) + (hi : Int)).tdiv 2 = (((lo + hi) / 2 : Nat) : Int) := by
  rw [Int.tdiv_eq_ediv_of_nonneg (by omega)]; omega
set_option maxRecDepth 100000 in
theorem search_any (A B : Option Addr) (m c n d : Nat) (l : List (List Int)) (p : List Int) (w : World) (hm : l.length = m) (hmb : m ≤ 1048576) (hll : ∀ i, i < l.length → (l.getD i []).length = n) (hp : p.length = n) (hn : n ≤ 12) (hasc : Asc l) (hr : Rd2 w A l) (hrp : Rd w B p) :
    Calls Try.prog 93 #[.slice A m c, .slice B n d] w fun e w' => ∃ k : Nat, e = .returned (.int .i64 k) ∧ Plc l p k k ∧ Quiet w w' := by
  have HM := hide hm
  have HLL := hide hll
  have HP := hide hp
  have HA := hide hasc
  have HR := hide hr
  have HRP := hide hrp
  clear hm hll hp hasc hr hrp
  go_enter Try.func93, Try.ntmps93
  go_wp2_with fail
  go_loopw [5, 6] (fun v i wr => ∃ lo hi : Nat, v = .int .i64 lo ∧ i = .int .i64 hi ∧ Plc l p lo hi ∧ Quiet w wr) (fun v i _ => (intOf i).toNat - (intOf v).toNat)
  case atStart => exact ⟨0, m, rfl, rfl, by have h := Plc.start l p; rw [HM.out] at h; exact h, Quiet.refl w⟩
  case round =>
    obtain ⟨lo, hi, rfl, rfl, hpl, hq⟩ := hrel
    have hle := hpl.le
    have htop := hpl.top
    rw [HM.out] at htop
    have HPLC := hide hpl
    have HQ := hide hq
    clear hpl hq
    by_cases hlt : lo < hi
    · have hltz : (lo : Int) < hi := by omega
      obtain ⟨mid, hmid⟩ : ∃ mid, (lo + hi) / 2 = mid := ⟨_, rfl⟩
      have hhalf := half lo hi
      rw [hmid] at hhalf
      have hm1 : lo ≤ mid := by omega
      have hm2 : mid < hi := by omega
      have HMID := hide hmid
      clear hmid
      have hmidz : (mid : Int) < m := by omega
      obtain ⟨bA, oA, rfl, hbA, hcA⟩ := (HQ.out.rd2 HR.out) (by rw [HM.out]; omega)
      obtain ⟨Am, cm, hcm, hrm⟩ := hcA mid (by rw [HM.out]; omega)
      rw [HLL.out mid (by rw [HM.out]; omega)] at hcm
      have HRM := hide hrm
      clear hrm hcA
      go_wp2_with fail
      refine (less_any Am B n cm d (l.getD mid []) p _ (HLL.out mid (by rw [HM.out]; omega)) HP.out (by omega) HRM.out (HQ.out.rd HRP.out)).mono ?_
      rintro e w2 ⟨rfl, hq2⟩
      have HQ2 := hide (HQ.out.trans hq2)
      clear hq2
      cases hls : lessL (l.getD mid []) p with
      | true =>
        have HLS := hide hls
        clear hls
        go_wp2_with fail
        go_roundw
        case rel => exact ⟨mid + 1, hi, by go_num, rfl, HPLC.out.up HA.out ⟨hm1, hm2⟩ HLS.out, HQ2.out⟩
        case measure => simp [intOf]; omega
      | false =>
        have HLS := hide hls
        clear hls
        go_wp2_with fail
        go_roundw
        case rel => exact ⟨lo, mid, rfl, rfl, HPLC.out.down HA.out ⟨hm1, hm2⟩ HLS.out, HQ2.out⟩
        case measure => simp [intOf]; omega
    · have hee : lo = hi := by omega
      subst hee
      go_wp2_with fail
      go_ret
      exact ⟨lo, rfl, HPLC.out, HQ.out⟩
end Go.Proofs.Ytiaebilcgmahlaa
namespace Go.Proofs.Ytiaebilcgmahlaa
open Go Go.RowKit
set_option maxHeartbeats 2000000

theorem o2Info2q : (Try.prog.info? 25).map (fun i => (i.zero, i.size, i.bytes)) = some (some (.slice none 0 0), 1, 24) := by kernel_rfl

theorem own2v_any (A : Option Addr) (n c q : Nat) (rows : List (List Int)) (w : World)
    (hn : rows.length = n) (h1 : 1 ≤ n) (hb : n ≤ 1048576) (hq1 : 1 ≤ q) (hqb : q ≤ 1048576) (hbs : ∀ i, i < rows.length → (rows.getD i []).length = q) (hr : Rd2 w A rows) :
    Calls Try.prog 54 #[.slice A n c] w fun e w' => ∃ v vals, e = .returned v ∧ Below w.heap.size w w' ∧ LstV 25 2 w.heap.size w' v rows vals := by
  have HN := hide hn
  clear hn
  obtain ⟨i0, hi, hz0, hz1, hz2⟩ := info_parts o2Info2q
  go_enter Try.func54, Try.ntmps54
  go_wp2_with fail
  go_loopw [3, 4] (fun v i wr => ∃ (k : Nat) (vals : List Value), k ≤ n ∧ i = .int .i64 k ∧ Below w.heap.size w wr ∧ LstV 25 2 w.heap.size wr v (rows.take k) vals ∧ w.heap.size ≤ wr.heap.size) (fun _ i _ => n - (intOf i).toNat)
  case atStart => exact ⟨0, [], Nat.zero_le _, rfl, (Below.refl _ _).alloc (Nat.le_refl _) _, by simpa using LstV.start w _ _, by simp⟩
  case round =>
    obtain ⟨k, vals, hk, rfl, hbe, hlst, hsz⟩ := hrel
    have HB := hide hbe
    have HL := hide hlst
    clear hbe hlst
    by_cases hlt : k < n
    · have hltz : (k : Int) < n := by omega
      obtain ⟨b, o, rfl, hbw, hc⟩ := hr (by have := HN.out; omega)
      obtain ⟨Ax, cx, hcell, hrd⟩ := hc k (by have := HN.out; omega)
      have hl := hbs k (by have := HN.out; omega)
      obtain ⟨r, hx'⟩ : ∃ r, r = rows.getD k [] := ⟨_, rfl⟩
      rw [← hx'] at hcell hrd hl
      rw [hl] at hcell
      have hcell' : wr.cell? ⟨b, o + k, none⟩ = some (.slice Ax q cx) := (HB.out.cell (p := ⟨b, o + k, none⟩) hbw).trans hcell
      have HX := hide hx'
      have HLL := hide hl
      obtain ⟨b2, o2, rfl, hbw2, hc2⟩ := hrd (by have := HLL.out; omega)
      have HC2 := hide hc2
      clear hx' hc hl hcell hbs hc2 hrd
      go_wp2_with fail
      refine (own_any b2 o2 q cx r _ HLL.out hqb (by have := HB.out.size; omega) (fun i hi => (HB.out.cell (p := ⟨b2, o2 + i, none⟩) hbw2).trans (HC2.out i hi))).mono ?_
      rintro e w2 ⟨v2, rfl, hb2, how2⟩
      have HB2 := hide hb2
      have HOW2 := hide how2
      clear hb2 how2
      obtain ⟨A4, c4, hv4, hres4⟩ := own_shape HOW2.out
      rw [← HLL.out] at hv4
      subst hv4
      have HR4 := hide hres4.obj
      have hs4 := HB2.out.size
      have hlen : (ints r).length = q := by rw [ints_length]; exact HLL.out
      clear hres4
      have hlt0 : (rows.take k).length = k := by have := HN.out; simp; omega
      have HLT := hide hlt0
      have hown : w2.ownsRow w.heap.size 25 1 u3 k vals := by have := (HL.out.later HB2.out).own; rwa [hlt0] at this
      have HO := hide hown
      clear hown hlt0 hlen
      go_wp2_with (at_builtin; refine wpList_append_own _ rfl _ _ 22 rfl w.heap.size 25 i0 (.slice none 0 0) 1 24 Try.underlying22 hi hz0 hz1 hz2 rfl (by decide) _ _ _ rfl (HO.out.alloc _) ⟨w2.heap.size, 0, none⟩ 1 1 [.slice A4 r.length c4] rfl rfl ?c1 ?c2 ?c3 ?c4 ?c5 ?_)
      case c1 => exact ne_new
      case c2 => intro u hu; simp at hu; subst hu; rfl
      case c3 => unfold maxLen; omega
      case c4 => omega
      case c5 => simp; omega
      intro v' w3 hown' hgrow _
      have HO' := hide hown'
      have HG := hide hgrow
      clear hown' hgrow
      go_wp2_with fail
      go_roundw
      case rel =>
        have hB3 : Below w.heap.size w w3 := ((HB.out.trans (HB2.out.mono hsz)).alloc (by omega) _).grown HG.out (by simp; omega) (fun g hg => ((HO.out.alloc (.cells #[.slice A4 r.length c4] 25)).lt g hg).1)
        have hpush := LstV.push (tmp := .cells #[.slice A4 r.length c4] 25) (A := A4) (c := c4) (r := r) (w1 := w3) (v' := v') (by decide) hsz HL.out HB2.out HR4.out (by rw [HLT.out]; exact HO'.out) HG.out
        have e : rows.take (k + 1) = rows.take k ++ [r] := by
          have hl : k < rows.length := by have := HN.out; omega
          rw [List.take_succ_eq_append_getElem hl, HX.out]
          simp [hl]
        refine ⟨k + 1, vals ++ [.slice A4 r.length c4], by omega, by go_num, hB3, by rw [e]; exact hpush, by have := hB3.size; omega⟩
      case measure => simp [intOf]; omega
    · have hkn : k = n := by omega
      subst hkn
      go_wp2_with fail
      go_ret
      have e : rows.take k = rows := List.take_of_length_le (by have := HN.out; omega)
      have h := HL.out
      rw [e] at h
      exact ⟨_, _, rfl, HB.out, h⟩
theorem own2q_any (A : Option Addr) (n c q : Nat) (rows : List (List Int)) (w : World)
    (hn : rows.length = n) (h1 : 1 ≤ n) (hb : n ≤ 1048576) (hq1 : 1 ≤ q) (hqb : q ≤ 1048576) (hbs : ∀ i, i < rows.length → (rows.getD i []).length = q) (hr : Rd2 w A rows) :
    Calls Try.prog 54 #[.slice A n c] w fun e w' => ∃ A' c', e = .returned (.slice A' n c') ∧ Below w.heap.size w w' ∧ Obj2 25 2 w.heap.size w'.heap.size w' A' rows := by
  refine (own2v_any A n c q rows w hn h1 hb hq1 hqb hbs hr).mono ?_
  rintro e w2 ⟨v, vals, rfl, hb2, hl⟩
  obtain ⟨A', c', hv, hobj⟩ := hl.shape
  exact ⟨A', c', by rw [← hn, ← hv], hb2, hobj⟩
end Go.Proofs.Ytiaebilcgmahlaa
namespace Go.Proofs.Ytiaebilcgmahlaa
open Go Go.RowKit
section
variable {t : TypeId} {w w' : World} {g : Nat} {xs : List Int}
theorem own_read {B n c : Nat} {A : Option Addr} (h : w.ownsRow B t 1 (.slice A n c) n (ints xs)) (hn : 0 < n) : ∃ g, A = some ⟨g, 0, none⟩ ∧ OwnB t w g xs := by
  have hl := h.1
  rw [ints_length] at hl
  rcases ownB_of_ownsRow h with ⟨_, h0⟩ | ⟨g, h1, _, h2⟩
  · subst h0; simp at hl; omega
  · exact ⟨g, h1, h2⟩
theorem OwnB.keep (h : OwnB t w g xs) (hb : Below w.heap.size w w') : OwnB t w' g xs := h.later hb h.lt
theorem OwnB.cell1 (h : OwnB t w g xs) (i : Nat) (hi : i < xs.length) {v : Int} (hv : xs.getD i 0 = v) : w.cell? ⟨g, i, none⟩ = some (.int .i64 v) := by rw [← hv]; exact h.cell hi
end
theorem ints_snoc (xs : List Int) (x : Int) : ints (xs ++ [x]) = ints xs ++ [.int .i64 x] := by simp [ints]
end Go.Proofs.Ytiaebilcgmahlaa
