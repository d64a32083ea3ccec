import Derived.Test.YtbhlcfcmjildmaaGc
import Derived.Test.YtbhlcfcmjildmaaGj
import Derived.Test.YtbhlcfcmjildmaaGh
import Derived.Test.YtbhlcfcmjildmaaGi
import Derived.Test.YtbhlcfcmjildmaaGd
import Derived.Test.YtbhlcfcmjildmaaGa
import Derived.Test.YtbhlcfcmjildmaaGf
import Derived.Test.YtbhlcfcmjildmaaGk
import Derived.Test.YtbhlcfcmjildmaaGb
import Derived.Maps.AppendAt
import Derived.Deep.Cut
import Derived.Deep.RegionHeld3
import Derived.Deep.DeepCutAuto
import Derived.Test.YtbhlcfcmjildmaaGe
import Derived.Test.YtbhlcfcmjildmaaGg
import Derived.StillTailTactics
namespace Go.Proofs.Ytbhlcfcmjildmaa
open Go Go.RowKit
/-! A queue of rows that grows, and beside it a list of the same rows in order. -/
theorem ins_at {α : Type} (l : List α) (k : Nat) (x : α) (hk : k ≤ l.length) (i : Nat) : (l.take k ++ x :: l.drop k)[i]? = if i < k then l[i]? else if i = k then some x else l[i - 1]? := by
  rw [List.getElem?_append, List.length_take, Nat.min_eq_left hk]
  by_cases h : i < k
  · rw [if_pos h, if_pos h, List.getElem?_take, if_pos h]
  · rw [if_neg h, if_neg h]
    by_cases e : i = k
    · subst e; simp
    · rw [if_neg e, show i - k = (i - 1 - k) + 1 by omega, List.getElem?_cons_succ, List.getElem?_drop, show k + (i - 1 - k) = i - 1 by omega]
theorem insL_at (l : List (List Int)) (k : Nat) (p : List Int) (hk : k ≤ l.length) (i : Nat) : (insL l k p).getD i [] = if i < k then l.getD i [] else if i = k then p else l.getD (i - 1) [] := by
  rw [List.getD_eq_getElem?_getD, insL, ins_at l k p hk i]
  by_cases h : i < k
  · rw [if_pos h, if_pos h, List.getD_eq_getElem?_getD]
  · rw [if_neg h, if_neg h]
    by_cases e : i = k
    · rw [if_pos e, if_pos e]; rfl
    · rw [if_neg e, if_neg e, List.getD_eq_getElem?_getD]
section
variable {ts t : TypeId} {B : Nat} {w w' w1 : World} {v v' vq vs : Value} {rows queue srt : List (List Int)} {vals qvals svals : List Value}
/-- The values are slices that read as the rows. -/
def RowsV (t : TypeId) (B : Nat) (w : World) (rows : List (List Int)) (vals : List Value) : Prop :=
  vals.length = rows.length ∧ ∀ i, i < rows.length → ∃ A c, vals[i]? = some (.slice A (rows.getD i []).length c) ∧ Obj1 t B w.heap.size w A (rows.getD i [])
theorem RowsV.kept (h : RowsV t B w rows vals) (hk : KeepT t w w') (hs : w.heap.size ≤ w'.heap.size) : RowsV t B w' rows vals :=
  ⟨h.1, fun i hi => by
    obtain ⟨A, c, h1, h2⟩ := h.2 i hi
    exact ⟨A, c, h1, (hk.obj h2).mono (Nat.le_refl _) hs⟩⟩
theorem RowsV.ins {A : Option Addr} {c k : Nat} {r : List Int} (h : RowsV t B w rows vals) (hk : k ≤ rows.length) (hA : Obj1 t B w.heap.size w A r) : RowsV t B w (insL rows k r) (vals.take k ++ .slice A r.length c :: vals.drop k) := by
  refine ⟨by simp [insL, h.1], fun i hi => ?_⟩
  rw [insL_length] at hi
  rw [insL_at _ _ _ hk, ins_at _ _ _ (by rw [h.1]; exact hk)]
  by_cases h1 : i < k
  · rw [if_pos h1, if_pos h1]
    exact h.2 i (by omega)
  · rw [if_neg h1, if_neg h1]
    by_cases h2 : i = k
    · rw [if_pos h2, if_pos h2]
      exact ⟨A, c, rfl, hA⟩
    · rw [if_neg h2, if_neg h2]
      exact h.2 (i - 1) (by omega)
/-- The queue and the sorted list. -/
structure Qs (ts t : TypeId) (B : Nat) (w : World) (vq vs : Value) (queue srt : List (List Int)) (qvals svals : List Value) : Prop where
  q : LstV ts t B w vq queue qvals
  s : w.ownsRow B ts 1 vs srt.length svals
  r : RowsV t B w srt svals
  d : ∀ g, vq.ownBlock = some g → vs.ownBlock ≠ some g
theorem Qs.later (h : Qs ts t B w vq vs queue srt qvals svals) (hb : Below w.heap.size w w') : Qs ts t B w' vq vs queue srt qvals svals :=
  ⟨h.q.later hb, ownsRow_below h.s hb, h.r.kept (KeepT.of_below hb) hb.size, h.d⟩
theorem Qs.slen (h : Qs ts t B w vq vs queue srt qvals svals) : svals.length = srt.length := h.r.1
/-- How the sorted list looks. -/
theorem Qs.look (h : Qs ts t B w vq vs queue srt qvals svals) (h0 : 0 < srt.length) : ∃ g c, vs = .slice (some ⟨g, 0, none⟩) srt.length c ∧ srt.length ≤ c ∧ c ≤ maxLen ∧ g < w.heap.size ∧ (∀ i u, svals[i]? = some u → w.cell? ⟨g, i, none⟩ = some u) ∧ Rd2 w (some ⟨g, 0, none⟩) srt := by
  rcases h.s.2 with ⟨_, h2⟩ | ⟨g, cap, cur, hv, hg, hh, h1, h2, h3, h4⟩
  · omega
  · have hc : ∀ i u, svals[i]? = some u → w.cell? ⟨g, i, none⟩ = some u := by
      intro i u hu
      rw [cell_of_row w g i cur ts (0, 0) hh]
      rw [← h4, List.getElem?_take] at hu
      by_cases e : i < srt.length * 1
      · rw [if_pos e] at hu; simpa using hu
      · rw [if_neg e] at hu; cases hu
    refine ⟨g, cap, hv, h1, h2, (Array.getElem?_eq_some_iff.1 hh).1, hc, fun _ => ⟨g, 0, rfl, (Array.getElem?_eq_some_iff.1 hh).1, fun i hi => ?_⟩⟩
    obtain ⟨A, c, e1, e2⟩ := h.r.2 i hi
    exact ⟨A, c, by rw [Nat.zero_add]; exact hc i _ e1, e2.rd⟩
theorem own_lt {n : Nat} {xs : List Value} (h : w.ownsRow B ts 1 v n xs) {g : Nat} (hg : v.ownBlock = some g) : B ≤ g ∧ g < w.heap.size := by
  rcases h.2 with ⟨hv, _⟩ | ⟨g', cap, cur, hv, hb, hh, _⟩
  · subst hv; simp [Value.ownBlock] at hg
  · subst hv
    simp [Value.ownBlock] at hg
    subst hg
    exact ⟨hb, (Array.getElem?_eq_some_iff.1 hh).1⟩
/-- A new sorted list in memory of its own, with one row more. -/
theorem Qs.sorted {A : Option Addr} {c k n : Nat} {p : List Int} (h : Qs ts t B w vq vs queue srt qvals svals) (hb : Below w.heap.size w w') (hB : B ≤ w.heap.size) (hk : k ≤ srt.length) (hA : Obj1 t B w'.heap.size w' A p) (hn : n = (insL srt k p).length)
    (hown : w'.ownsRow w.heap.size ts 1 v' n (svals.take k ++ .slice A p.length c :: svals.drop k)) : Qs ts t B w' vq v' queue (insL srt k p) qvals (svals.take k ++ .slice A p.length c :: svals.drop k) := by
  have h2 := h.later hb
  refine ⟨h2.q, ?_, h2.r.ins hk hA, fun g hg e => ?_⟩
  · subst hn
    refine ⟨hown.1, ?_⟩
    rcases hown.2 with h3 | ⟨g, cap, cur, hv, hg, rest⟩
    · exact .inl h3
    · exact .inr ⟨g, cap, cur, hv, Nat.le_trans hB hg, rest⟩
  · have h3 := (own_lt h.q.own hg).2
    have h4 := (own_lt hown e).1
    omega
/-- The row is put at the end of the queue. -/
theorem Qs.queued {A : Option Addr} {c : Nat} {p : List Int} {tmp : Obj} (hne : ts ≠ t) (h : Qs ts t B w vq vs queue srt qvals svals) (hA : Obj1 t B w.heap.size w A p)
    (hdis : ∀ (i : Nat) (u : Value) (g : Nat), qvals[i]? = some u → u.ownBlock = some g → ∀ a, A = some a → a.block ≠ g)
    (hown : w1.ownsRow B ts 1 v' (queue.length + 1) (qvals ++ [.slice A p.length c])) (hg : (w.alloc tmp).grownBy w1 vq.ownBlock) (hat : v'.ownBlock = vq.ownBlock ∨ v'.ownBlock = some (w.alloc tmp).heap.size) :
    Qs ts t B w1 v' vs (queue ++ [p]) srt (qvals ++ [.slice A p.length c]) svals := by
  have hal : Below w.heap.size w (w.alloc tmp) := (Below.refl _ _).alloc (Nat.le_refl _) _
  have hk : KeepT t w w1 := (KeepT.of_below hal).trans (KeepT.of_grown hne (ownsRow_below h.q.own hal) hg)
  have hsz1 : w.heap.size ≤ w1.heap.size := Nat.le_trans hal.size hg.size
  have hvs : vs.ownBlock = none ∨ vs.ownBlock ≠ vq.ownBlock := by
    cases e : vs.ownBlock with
    | none => exact .inl rfl
    | some g => exact .inr (fun e2 => h.d g e2.symm e)
  refine ⟨h.q.push2 hne hA hdis hown hg, (ownsRow_below h.s hal).kept hg hvs, h.r.kept hk hsz1, fun g hg1 e => ?_⟩
  rcases hat with e2 | e2
  · exact h.d g (e2 ▸ hg1) e
  · rw [hg1] at e2
    injection e2 with e2
    have := (own_lt h.s e).2
    simp at e2
    omega
end
end Go.Proofs.Ytbhlcfcmjildmaa
namespace Go.Proofs.Ytbhlcfcmjildmaa
open Go Go.RowKit
set_option maxHeartbeats 4000000

section
variable {ts t : TypeId} {lo n g1 g2 : Nat} {w w' : World} {G1 G2 : Nat → Nat} {f1 f2 : Nat → Nat → Int}
theorem Duo.later (h : Duo ts t lo w n g1 G1 f1 g2 G2 f2) (hb : Below w.heap.size w w') : Duo ts t lo w' n g1 G1 f1 g2 G2 f2 :=
  ⟨h.t1.later hb, h.t2.later hb, h.l1, h.l2, h.ne, h.n12, h.n21, h.rows⟩
theorem Duo.set1 (h : Duo ts t lo w n g1 G1 f1 g2 G2 f2) (i j : Nat) (v : Int) (hi : i < n) : Duo ts t lo (w.setCell ⟨G1 i, j, none⟩ (.int .i64 v)) n g1 G1 (fun a b => if a = i ∧ b = j then v else f1 a b) g2 G2 f2 :=
  ⟨h.t1.set i j v hi, h.t2.far1 (p := ⟨G1 i, j, none⟩) (h.n21 i hi) (fun a ha e => h.rows i a hi ha e.symm) _, h.l1, h.l2, h.ne, h.n12, h.n21, h.rows⟩
theorem Duo.set2 (h : Duo ts t lo w n g1 G1 f1 g2 G2 f2) (i j : Nat) (v : Int) (hi : i < n) : Duo ts t lo (w.setCell ⟨G2 i, j, none⟩ (.int .i64 v)) n g1 G1 f1 g2 G2 (fun a b => if a = i ∧ b = j then v else f2 a b) :=
  ⟨h.t1.far1 (p := ⟨G2 i, j, none⟩) (h.n12 i hi) (fun a ha e => h.rows a i ha hi e) _, h.t2.set i j v hi, h.l1, h.l2, h.ne, h.n12, h.n21, h.rows⟩
theorem Duo.congr {h1 h2 : Nat → Nat → Int} (h : Duo ts t lo w n g1 G1 f1 g2 G2 f2) (e1 : ∀ a b, a < n → b < n → f1 a b = h1 a b) (e2 : ∀ a b, a < n → b < n → f2 a b = h2 a b) : Duo ts t lo w n g1 G1 h1 g2 G2 h2 :=
  ⟨h.t1.congr e1, h.t2.congr e2, h.l1, h.l2, h.ne, h.n12, h.n21, h.rows⟩
theorem Duo.objW (h : Duo ts t lo w n g1 G1 f1 g2 G2 f2) {hi : Nat} (hhi : w.heap.size ≤ hi) : ObjW ts t lo hi w (some ⟨g1, 0, none⟩) (grid n f1) (some ⟨g2, 0, none⟩) (grid n f2) :=
  ⟨h.t1.obj h.l1.1 (Nat.lt_of_lt_of_le h.t1.lt hhi) (fun i hin => ⟨h.l1.2 i hin, Nat.lt_of_lt_of_le (h.t1.row i hin).lt hhi⟩), h.t2.obj h.l2.1 (Nat.lt_of_lt_of_le h.t2.lt hhi) (fun i hin => ⟨h.l2.2 i hin, Nat.lt_of_lt_of_le (h.t2.row i hin).lt hhi⟩)⟩
end
/-- After k pairs. -/
def bkTo (f s : List (List Int)) (n k : Nat) (h : Nat → Nat → Int) : Nat → Nat → Int := fun a b => if bk f s n a b < k then h a b else 0
theorem bkTo_zero (f s : List (List Int)) (n : Nat) (h : Nat → Nat → Int) (a b : Nat) : (0 : Int) = bkTo f s n 0 h a b := by unfold bkTo; simp
theorem bkTo_all {f s : List (List Int)} {n : Nat} (hp : PMap f s) (hn : f.length = n) (hc : NoCol f s n) (h : Nat → Nat → Int) (a b : Nat) (ha : a < n) (hb : b < n) : bkTo f s n (n * n) h a b = h a b := by
  unfold bkTo
  rw [if_pos (bk_spec hp hn hc ha hb).1]
theorem bkTo_next {f s : List (List Int)} {n : Nat} (hp : PMap f s) (hn : f.length = n) (hc : NoCol f s n) (h : Nat → Nat → Int) {k u v : Nat} (hk : k < n * n) (hq : ledK f s n k = (u, v)) {z : Int} (hz : h u v = z) (a b : Nat) (ha : a < n) (hb : b < n) : (if a = u ∧ b = v then z else bkTo f s n k h a b) = bkTo f s n (k + 1) h a b := by
  have hbk := bk_led hc hk hq
  by_cases e : a = u ∧ b = v
  · obtain ⟨rfl, rfl⟩ := e
    rw [if_pos ⟨rfl, rfl⟩]
    unfold bkTo
    rw [hbk, if_pos (by omega)]
    exact hz.symm
  · rw [if_neg e]
    unfold bkTo
    have hne : bk f s n a b ≠ k := fun e2 => e (by
      have h2 := (bk_spec hp hn hc ha hb).2
      rw [e2, hq] at h2
      injection h2 with h3 h4
      exact ⟨h3.symm, h4.symm⟩)
    by_cases e3 : bk f s n a b < k
    · rw [if_pos e3, if_pos (by omega)]
    · rw [if_neg e3, if_neg (by omega)]

def BkPost (n : Nat) (zf zg : List (List Int)) (w : World) (e : Ending) (w' : World) : Prop := ∃ A c B d, e = .returned (.agg #[.slice A n c, .slice B n d]) ∧ Below w.heap.size w w' ∧ ObjW 26 2 w.heap.size w'.heap.size w' A zf B zg
set_option maxRecDepth 100000 in
theorem bkS_any (A : Option Addr) (n c : Nat) (f : List (List Int)) (B : Option Addr) (m d : Nat) (s : List (List Int)) (w : World) (hz : ZArg 1048576 w A n f B m s) (hp : PMap f s) (hc : NoCol f s n) :
    Calls Try.prog 57 #[.agg #[.slice A n c, .slice B m d]] w (BkPost n (grid n (bk1 f s n)) (grid n (bk2 f s n)) w) := by
  have HZ := hide hz
  have HFL := hide hz.sz.fl
  have HP := hide hp
  have h12 := hz.small hp
  obtain rfl := hz.same hp
  have HC := hide hc
  clear hz hp hc
  go_enter Try.func57, Try.ntmps57
  go_wp2_with fail
  refine calls_gen fun w0 hw0 => ?_
  have hb0 : Below w.heap.size w w0 := by rw [hw0]; exact ((Below.refl _ _).alloc (Nat.le_refl _) _).alloc (by simp) _
  have HB0 := hide hb0
  have HK0 : Hid (Blk w0 w.heap.size 29 [.slice A m c, .slice B m d]) := hide (by rw [hw0]; exact (Blk.new _ _ _).alloc _)
  have HR0 : Hid (Blk w0 (w.heap.size + 1) 29 [.slice none 0 0, .slice none 0 0]) := hide (by rw [hw0]; have h := Blk.new (w.alloc (Obj.cells #[Value.slice A m c, Value.slice B m d] 29)) 29 [.slice none 0 0, .slice none 0 0]; simpa using h)
  clear hw0 hb0
  refine (emptyS_any m _ h12.1 h12.2).mono ?_
  unfold EmPost
  rintro e w1 ⟨g1, c1, g2, c2, G1, G2, rfl, hb1, hd⟩
  have HB1 := hide (HB0.out.trans (hb1.mono HB0.out.size))
  have HK1 := hide (HK0.out.later hb1)
  have HR1 := hide (HR0.out.later hb1)
  have HD1 := hide hd
  have hlo : w.heap.size + 1 < w0.heap.size := HR0.out.lt
  have hG1 : ∀ i, i < m → G1 i < w1.heap.size := fun i hi => (hd.t1.row i hi).lt
  have hG2 : ∀ i, i < m → G2 i < w1.heap.size := fun i hi => (hd.t2.row i hi).lt
  have HG1 := hide hG1
  have HG2 := hide hG2
  clear hb1 hd hG1 hG2
  go_wp2_with fail
  refine wp_gen fun w2 hw2 => ?_
  have hb2 : Below w1.heap.size w1 w2 := by rw [hw2]; exact (Below.refl _ _).alloc (Nat.le_refl _) _
  have HO2 : Hid (Blk w2 w1.heap.size 29 [.slice (some ⟨g1, 0, none⟩) m c1, .slice (some ⟨g2, 0, none⟩) m c2]) := hide (by rw [hw2]; exact Blk.new _ _ _)
  have HB2 := hide (HB1.out.trans (hb2.mono HB1.out.size))
  have HK2 := hide (HK1.out.later hb2)
  have HR2 := hide (HR1.out.later hb2)
  have HD2 := hide ((HD1.out.later hb2).congr (fun a b _ _ => bkTo_zero f s m (bk1 f s m) a b) (fun a b _ _ => bkTo_zero f s m (bk2 f s m) a b))
  clear hw2 hb2
  go_loopw [5] (fun i wr => ∃ x : Nat, x ≤ m ∧ i = .int .i64 x ∧ Below w.heap.size w wr ∧ Blk wr w.heap.size 29 [.slice A m c, .slice B m d] ∧ Blk wr (w.heap.size + 1) 29 [.slice none 0 0, .slice none 0 0] ∧ Blk wr w1.heap.size 29 [.slice (some ⟨g1, 0, none⟩) m c1, .slice (some ⟨g2, 0, none⟩) m c2] ∧ Duo 26 2 w0.heap.size wr m g1 G1 (bkTo f s m (x * m) (bk1 f s m)) g2 G2 (bkTo f s m (x * m) (bk2 f s m))) (fun i _ => m - (intOf i).toNat)
  case atStart => exact ⟨0, Nat.zero_le _, rfl, HB2.out, HK2.out, HR2.out, HO2.out, by rw [Nat.zero_mul]; exact HD2.out⟩
  case round =>
    obtain ⟨x, hx, rfl, hbe, hkk, hrr, hoo, hdd⟩ := hrel
    have HB := hide hbe
    have HK := hide hkk
    have HR := hide hrr
    have HO := hide hoo
    have HD := hide hdd
    clear hbe hkk hrr hoo hdd
    by_cases hlt : x < m
    · have hxz : (x : Int) < m := by omega
      go_wp2_with fail
      obtain ⟨wo, rfl⟩ : ∃ wo : World, wo = wr := ⟨_, rfl⟩
      go_loopw [6] (fun i wi => ∃ y : Nat, y ≤ m ∧ i = .int .i64 y ∧ Below w.heap.size w wi ∧ Blk wi w.heap.size 29 [.slice A m c, .slice B m d] ∧ Blk wi (w.heap.size + 1) 29 [.slice none 0 0, .slice none 0 0] ∧ Blk wi w1.heap.size 29 [.slice (some ⟨g1, 0, none⟩) m c1, .slice (some ⟨g2, 0, none⟩) m c2] ∧ Duo 26 2 w0.heap.size wi m g1 G1 (bkTo f s m (x * m + y) (bk1 f s m)) g2 G2 (bkTo f s m (x * m + y) (bk2 f s m))) (fun i _ => m - (intOf i).toNat)
      case atStart => exact ⟨0, Nat.zero_le _, rfl, HB.out, HK.out, HR.out, HO.out, HD.out⟩
      case round =>
        obtain ⟨y, hy, rfl, hbi, hki, hri, hoi, hdi⟩ := hrel
        have HBI := hide hbi
        have HKI := hide hki
        have HRI := hide hri
        have HOI := hide hoi
        have HDI := hide hdi
        clear hbi hki hri hoi hdi
        by_cases hlty : y < m
        · have hyz : (y : Int) < m := by omega
          obtain ⟨b, o, b2, o2, bx, ox, cx, by', oy, cy, rfl, rfl, h1, h2, h3, h4, l1, l2, l3, l4⟩ := HZ.out.reads HP.out hlt hlty
          have hu := HP.out.lt1 HFL.out hlt hlty
          have hv := HP.out.lt2 HFL.out hlt hlty
          have hKN : x * m + y < m * m := by
            have h9 := Nat.mul_le_mul_right m (show x + 1 ≤ m from hlt)
            rw [Nat.add_mul, Nat.one_mul] at h9
            omega
          have hq : ledK f s m (x * m + y) = (ap f x y, ap s x y) := by unfold ledK; rw [pair_div m x y hlty, pair_mod m x y hlty]
          obtain ⟨u, hue⟩ : ∃ u, ap f x y = u := ⟨_, rfl⟩
          obtain ⟨v, hve⟩ : ∃ v, ap s x y = v := ⟨_, rfl⟩
          rw [hue] at h3 hu hq
          rw [hve] at h4 hv hq
          have hb9 := bk_led HC.out hKN hq
          have z1 : bk1 f s m u v = (x : Int) := by unfold bk1; rw [hb9, pair_div m x y hlty]
          have z2 : bk2 f s m u v = (y : Int) := by unfold bk2; rw [hb9, pair_mod m x y hlty]
          have HQ := hide hq
          have HZ1 := hide z1
          have HZ2 := hide z2
          have huz : (u : Int) < m := by omega
          have hvz : (v : Int) < m := by omega
          obtain ⟨C1, r1⟩ := HDI.out.t1.top
          obtain ⟨C2, r2⟩ := HDI.out.t2.top
          have c1' := r1.cell hu
          have c2' := r2.cell hu
          have j1 := (HDI.out.t1.row u hu).cell hv
          have j2 := (HDI.out.t1.row u hu).frozen v
          have j3 := (HDI.out.t2.row u hu).cell hv
          have j4 := (HDI.out.t2.row u hu).frozen v
          have lG1 := HDI.out.l1.2 u hu
          have lG2 := HDI.out.l2.2 u hu
          have n1 : w.heap.size ≠ G1 u := by omega
          have n2 := n1.symm
          have n3 : b2 ≠ G1 u := by omega
          have n4 := n3.symm
          have n5 : by' ≠ G1 u := by omega
          have n6 := n5.symm
          have n7 : G2 u ≠ G1 u := fun e => HDI.out.rows u u hu hu e.symm
          have n8 := n7.symm
          have h1' := (HBI.out.cell (p := ⟨b, o + x, none⟩) l1).trans h1
          have h2' := (HBI.out.cell (p := ⟨b2, o2 + x, none⟩) l2).trans h2
          have h3' := (HBI.out.cell (p := ⟨bx, ox + y, none⟩) l3).trans h3
          have h4' := (HBI.out.cell (p := ⟨by', oy + y, none⟩) l4).trans h4
          have k0 := HKI.out.cell 0 _ rfl
          have k1 := HKI.out.cell 1 _ rfl
          have k2 := HOI.out.cell 0 _ rfl
          have k3 := HOI.out.cell 1 _ rfl
          have HN8 := hide n8
          clear hue hve hq hb9 z1 z2 h1 h2 h3 h4 l1 l2 l3 l4 r1 r2
          go_wp2_with fail
          go_quiet (fail)
          go_wp2_with fail
          clear c1' c2' j1 j2 j3 j4 h1' h2' h3' h4' k0 k1 k2 k3
          have hW : Below wr.heap.size wr (wr.drewN nq) := (Quiet.of wr nq).below _
          have hgu1 := HG1.out u hu
          have hgu2 := HG2.out u hu
          go_roundw
          case rel =>
            refine ⟨y + 1, by omega, by go_num, ((HBI.out.trans (hW.mono HBI.out.size)).setCell (p := ⟨G1 u, v, none⟩) (by show w.heap.size ≤ G1 u; omega) _).setCell (p := ⟨G2 u, v, none⟩) (by show w.heap.size ≤ G2 u; omega) _, ((HKI.out.later hW).far (p := ⟨G1 u, v, none⟩) (by show w.heap.size ≠ G1 u; omega) _).far (p := ⟨G2 u, v, none⟩) (by show w.heap.size ≠ G2 u; omega) _, ((HRI.out.later hW).far (p := ⟨G1 u, v, none⟩) (by show w.heap.size + 1 ≠ G1 u; omega) _).far (p := ⟨G2 u, v, none⟩) (by show w.heap.size + 1 ≠ G2 u; omega) _, ((HOI.out.later hW).far (p := ⟨G1 u, v, none⟩) (by show w1.heap.size ≠ G1 u; omega) _).far (p := ⟨G2 u, v, none⟩) (by show w1.heap.size ≠ G2 u; omega) _, ?_⟩
            have hd := ((HDI.out.later hW).set1 u v (x : Int) hu).set2 u v (y : Int) hu
            exact hd.congr (bkTo_next HP.out HFL.out HC.out (bk1 f s m) hKN HQ.out HZ1.out) (bkTo_next HP.out HFL.out HC.out (bk2 f s m) hKN HQ.out HZ2.out)
          case measure => simp [intOf]; omega
        · have hyn : y = m := by omega
          subst hyn
          go_wp2_with fail
          go_roundw
          case rel => exact ⟨x + 1, by omega, by go_num, HBI.out, HKI.out, HRI.out, HOI.out, by rw [Nat.add_mul, Nat.one_mul]; exact HDI.out⟩
          case measure => simp [intOf]; omega
    · have hxn : x = m := by omega
      subst hxn
      have k0 := HO.out.cell 0 _ rfl
      have k1 := HO.out.cell 1 _ rfl
      have k2 := HR.out.cell 0 _ rfl
      have k3 := HR.out.cell 1 _ rfl
      have k4 := HR.out.frozen 0
      have k5 := HR.out.frozen 1
      go_wp2_with fail
      refine bp_gen fun wf hwf => ?_
      have HDF := HD.out.congr (bkTo_all HP.out HFL.out HC.out (bk1 f s x)) (bkTo_all HP.out HFL.out HC.out (bk2 f s x))
      obtain ⟨q0, q1, hbf, hof⟩ := wend hwf HR.out (by omega) hlo HB.out HB0.out.size (HDF.objW (Nat.le_refl _))
      clear hwf k0 k1 k2 k3 k4 k5
      exact bodyPost_ret (v := .agg #[.slice (some ⟨g1, 0, none⟩) x c1, .slice (some ⟨g2, 0, none⟩) x c2]) (by simp [results, Try.results57, go_sem, q0, q1]) rfl (by unfold BkPost; exact ⟨_, _, _, _, rfl, hbf, hof⟩)
end Go.Proofs.Ytbhlcfcmjildmaa
namespace Go.Proofs.Ytbhlcfcmjildmaa
open Go Go.RowKit
/-- The place at which row x has z. -/
def sol (f : List (List Int)) (x z : Nat) : Nat := (ixOf (f.getD x []) (z : Int)).toNat
theorem sol_spec {f : List (List Int)} (ht : Tbl f) (hp : AllPrm f) {n x z : Nat} (hn : f.length = n) (hx : x < n) (hz : z < n) :
    sol f x z < n ∧ ixOf (f.getD x []) (z : Int) = ((sol f x z : Nat) : Int) ∧ (f.getD x []).getD (sol f x z) 0 = (z : Int) ∧ ap f x (sol f x z) = z := by
  have hl : (f.getD x []).length = n := ht.row_len hn hx
  have hpx : Prm (f.getD x []) := hp x (by omega)
  have hm : (z : Int) ∈ f.getD x [] := (prm_iff _).1 hpx |>.2.2 z (by omega) (by omega)
  have hi := List.idxOf_lt_length_iff.2 hm
  have e1 : ixOf (f.getD x []) (z : Int) = (((f.getD x []).idxOf (z : Int) : Nat) : Int) := by unfold ixOf; rw [if_pos hm]
  have e2 : sol f x z = (f.getD x []).idxOf (z : Int) := by unfold sol; rw [e1]; simp
  have e3 : (f.getD x []).getD ((f.getD x []).idxOf (z : Int)) 0 = (z : Int) := by
    generalize f.getD x [] = p at hi
    rw [List.getD_eq_getElem?_getD, List.getElem?_eq_getElem hi]
    simp
  rw [e2]
  refine ⟨by omega, e1, e3, ?_⟩
  unfold ap
  rw [e3]
  simp
theorem sol_lt {f : List (List Int)} (ht : Tbl f) (hp : AllPrm f) {n x z : Nat} (hn : f.length = n) (hx : x < n) (hz : z < n) : sol f x z < n := (sol_spec ht hp hn hx hz).1
theorem sol_ix {f : List (List Int)} (ht : Tbl f) (hp : AllPrm f) {n x z : Nat} (hn : f.length = n) (hx : x < n) (hz : z < n) : ixOf (f.getD x []) (z : Int) = ((sol f x z : Nat) : Int) := (sol_spec ht hp hn hx hz).2.1
theorem dual_row {f : List (List Int)} {n x : Nat} (hn : f.length = n) (hx : x < n) : (dualL f).getD x [] = backTo (f.getD x []) n := by
  unfold dualL
  rw [rowsL_at f _ x (by omega), hn]
theorem sol_dual {f : List (List Int)} (ht : Tbl f) (hp : AllPrm f) {n x z : Nat} (hn : f.length = n) (hx : x < n) (hz : z < n) : ((dualL f).getD x []).getD z 0 = ((sol f x z : Nat) : Int) := by
  have hl : (f.getD x []).length = n := ht.row_len hn hx
  have hpx : Prm (f.getD x []) := hp x (by omega)
  obtain ⟨h1, _, h3, _⟩ := sol_spec ht hp hn hx hz
  have h := backTo_hit hpx n (by omega) (sol f x z) h1
  rw [h3] at h
  rw [dual_row hn hx]
  simpa using h
theorem dualL_len (f : List (List Int)) : (dualL f).length = f.length := by unfold dualL; rw [rowsL_length]
theorem dual_len {f : List (List Int)} (ht : Tbl f) {n x : Nat} (hn : f.length = n) (hx : x < n) : ((dualL f).getD x []).length = n := by rw [dual_row hn hx, backTo_length]; exact ht.row_len hn hx
theorem dual_tbl {f : List (List Int)} (ht : Tbl f) (hp : AllPrm f) : Tbl (dualL f) := by
  refine ⟨by rw [dualL_len]; exact ht.1, by rw [dualL_len]; exact ht.2.1, ?_⟩
  intro i hi
  rw [dualL_len] at hi
  refine ⟨by rw [dual_len ht rfl hi, dualL_len], fun j hj => ?_⟩
  rw [dualL_len] at hj
  have h := sol_lt ht hp rfl hi hj
  rw [sol_dual ht hp rfl hi hj, dualL_len]
  omega
theorem sol_ap {f : List (List Int)} (ht : Tbl f) (hp : AllPrm f) {n x z : Nat} (hn : f.length = n) (hx : x < n) (hz : z < n) : ap (dualL f) x z = sol f x z := by
  have h := sol_dual ht hp hn hx hz
  unfold ap
  rw [h]
  simp
def DsRes (f : List (List Int)) (x z v code : Int) : Prop :=
  (Cyc f ∧ (0 ≤ x ∧ x < (f.length : Int)) ∧ (0 ≤ z ∧ z < (f.length : Int)) ∧ v = ((sol f x.toNat z.toNat : Nat) : Int) ∧ code = 0) ∨ (Cyc f ∧ ¬ ((0 ≤ x ∧ x < (f.length : Int)) ∧ (0 ≤ z ∧ z < (f.length : Int))) ∧ v = 0 ∧ code = 2) ∨ (¬ Cyc f ∧ v = 0 ∧ code = 1)
theorem DsRes.ex (f : List (List Int)) (x z : Int) : ∃ v code, DsRes f x z v code := by
  by_cases h : Cyc f
  · by_cases h2 : (0 ≤ x ∧ x < (f.length : Int)) ∧ (0 ≤ z ∧ z < (f.length : Int))
    · exact ⟨_, _, .inl ⟨h, h2.1, h2.2, rfl, rfl⟩⟩
    · exact ⟨_, _, .inr (.inl ⟨h, h2, rfl, rfl⟩)⟩
  · exact ⟨_, _, .inr (.inr ⟨h, rfl, rfl⟩)⟩
end Go.Proofs.Ytbhlcfcmjildmaa
namespace Go.Proofs.Ytbhlcfcmjildmaa
open Go Go.RowKit
set_option maxHeartbeats 1000000
theorem isS_any (A : Option Addr) (n c : Nat) (f : List (List Int)) (B : Option Addr) (m d : Nat) (s : List (List Int)) (r : Bool) (w : World) (hz : ZArg 1048576 w A n f B m s) (hr : IsRes f s r) :
    Calls Try.prog 27 #[.agg #[.slice A n c, .slice B m d]] w fun e w' => e = .returned (.bool r) ∧ Below w.heap.size w w' := by
  have HZ := hide hz
  have HB0 := hide ((Below.refl _ w).alloc (Nat.le_refl _) (Obj.cells #[Value.slice A n c, Value.slice B m d] 29))
  have HK0 := hide (Blk.new w 29 [.slice A n c, .slice B m d])
  have hcs := hr.cases hz.sz.fl
  clear hr hz
  rcases hcs with ⟨hp, rfl⟩ | ⟨hp, T, hT, hq⟩
  · have HP := hide hp
    clear hp
    go_enter Try.func27, Try.ntmps27
    go_wp2_with fail
    refine (mapS_any _ _ _ f _ _ _ s false _ (HZ.out.later HB0.out) (by simp [HP.out])).mono ?_
    rintro e w1 ⟨rfl, hb1⟩
    have HB1 := hide (HB0.out.trans (hb1.mono HB0.out.size))
    have HK1 := hide (HK0.out.later hb1)
    have k0 := HK1.out.cell 0 _ rfl
    have k1 := HK1.out.cell 1 _ rfl
    clear hb1
    go_wp2_with fail
    go_ret
    exact ⟨rfl, HB1.out⟩
  · have HP := hide hp
    have HT := hide hT
    clear hp hT
    have hq2 : (Hid (∃ a b, FstCol f s n a b) ∧ r = false) ∨ (Hid (NoCol f s n) ∧ ((T < n * n * n ∧ r = false) ∨ (T = n * n * n ∧ r = true))) := by
      rcases hq with ⟨h1, ⟨h2, h⟩ | ⟨h2, h⟩⟩ | ⟨h1, ⟨h2, h⟩ | ⟨h2, h⟩⟩
      · exact .inr ⟨hide h2, .inl ⟨h1, h⟩⟩
      · exact .inl ⟨hide h2, h⟩
      · exact .inl ⟨hide h2, h⟩
      · exact .inr ⟨hide h2, .inr ⟨h1, h⟩⟩
    clear hq
    rcases hq2 with ⟨HC, rfl⟩ | ⟨HC, ⟨hlt, rfl⟩ | ⟨hte, rfl⟩⟩
    · go_enter Try.func27, Try.ntmps27
      go_wp2_with fail
      refine (mapS_any _ _ _ f _ _ _ s true _ (HZ.out.later HB0.out) (by simp [HP.out])).mono ?_
      rintro e w1 ⟨rfl, hb1⟩
      have HB1 := hide (HB0.out.trans (hb1.mono HB0.out.size))
      have HK1 := hide (HK0.out.later hb1)
      have k0 := HK1.out.cell 0 _ rfl
      have k1 := HK1.out.cell 1 _ rfl
      clear hb1
      go_wp2_with fail
      refine (collS_any _ _ _ f _ _ _ s _ (HZ.out.later HB1.out) HP.out).mono ?_
      rintro e w2 ⟨g, q, ys, rfl, hb2, _, _, hres⟩
      have HB2 := hide (HB1.out.trans (hb2.mono HB1.out.size))
      have HK2 := hide (HK1.out.later hb2)
      have hq9 : q = 4 := by obtain ⟨a, b, hf⟩ := HC.out; rcases hres with ⟨hno, _⟩ | ⟨a', b', _, _, h⟩; exact absurd hno hf.not; exact h
      subst hq9
      clear hb2 hres k0 k1
      have k0 := HK2.out.cell 0 _ rfl
      have k1 := HK2.out.cell 1 _ rfl
      go_wp2_with fail
      go_ret
      exact ⟨rfl, HB2.out⟩
    · go_enter Try.func27, Try.ntmps27
      go_wp2_with fail
      refine (mapS_any _ _ _ f _ _ _ s true _ (HZ.out.later HB0.out) (by simp [HP.out])).mono ?_
      rintro e w1 ⟨rfl, hb1⟩
      have HB1 := hide (HB0.out.trans (hb1.mono HB0.out.size))
      have HK1 := hide (HK0.out.later hb1)
      have k0 := HK1.out.cell 0 _ rfl
      have k1 := HK1.out.cell 1 _ rfl
      clear hb1
      go_wp2_with fail
      refine (collS_any _ _ _ f _ _ _ s _ (HZ.out.later HB1.out) HP.out).mono ?_
      rintro e w2 ⟨g, q, ys, rfl, hb2, _, _, hres⟩
      have HB2 := hide (HB1.out.trans (hb2.mono HB1.out.size))
      have HK2 := hide (HK1.out.later hb2)
      have hq9 : q = 0 := by rcases hres with ⟨_, _, h⟩ | ⟨a', b', hf2, _⟩; exact h; exact absurd HC.out hf2.not
      subst hq9
      clear hb2 hres k0 k1
      have k0 := HK2.out.cell 0 _ rfl
      have k1 := HK2.out.cell 1 _ rfl
      go_wp2_with fail
      refine (faultS_any _ _ _ f _ _ _ s T _ (HZ.out.later HB2.out) HP.out HT.out).mono ?_
      rintro e w3 ⟨g3, q3, ys3, rfl, hb3, _, _, hres⟩
      have HB3 := hide (HB2.out.trans (hb3.mono HB2.out.size))
      have hq9 : q3 = 3 := by rcases hres with ⟨h1, _, h2⟩ | ⟨h1, _, h2⟩ <;> omega
      subst hq9
      clear hb3 hres k0 k1
      go_wp2_with fail
      go_ret
      exact ⟨rfl, HB3.out⟩
    · go_enter Try.func27, Try.ntmps27
      go_wp2_with fail
      refine (mapS_any _ _ _ f _ _ _ s true _ (HZ.out.later HB0.out) (by simp [HP.out])).mono ?_
      rintro e w1 ⟨rfl, hb1⟩
      have HB1 := hide (HB0.out.trans (hb1.mono HB0.out.size))
      have HK1 := hide (HK0.out.later hb1)
      have k0 := HK1.out.cell 0 _ rfl
      have k1 := HK1.out.cell 1 _ rfl
      clear hb1
      go_wp2_with fail
      refine (collS_any _ _ _ f _ _ _ s _ (HZ.out.later HB1.out) HP.out).mono ?_
      rintro e w2 ⟨g, q, ys, rfl, hb2, _, _, hres⟩
      have HB2 := hide (HB1.out.trans (hb2.mono HB1.out.size))
      have HK2 := hide (HK1.out.later hb2)
      have hq9 : q = 0 := by rcases hres with ⟨_, _, h⟩ | ⟨a', b', hf2, _⟩; exact h; exact absurd HC.out hf2.not
      subst hq9
      clear hb2 hres k0 k1
      have k0 := HK2.out.cell 0 _ rfl
      have k1 := HK2.out.cell 1 _ rfl
      go_wp2_with fail
      refine (faultS_any _ _ _ f _ _ _ s T _ (HZ.out.later HB2.out) HP.out HT.out).mono ?_
      rintro e w3 ⟨g3, q3, ys3, rfl, hb3, _, _, hres⟩
      have HB3 := hide (HB2.out.trans (hb3.mono HB2.out.size))
      have hq9 : q3 = 0 := by rcases hres with ⟨h1, _, h2⟩ | ⟨h1, _, h2⟩ <;> omega
      subst hq9
      clear hb3 hres k0 k1
      go_wp2_with fail
      go_ret
      exact ⟨rfl, HB3.out⟩
end Go.Proofs.Ytbhlcfcmjildmaa
namespace Go.Proofs.Ytbhlcfcmjildmaa
open Go Go.RowKit
set_option maxHeartbeats 1000000
theorem isI_any (A : Option Addr) (n c : Nat) (f : List (List Int)) (B : Option Addr) (m d : Nat) (s : List (List Int)) (r : Bool) (w : World) (hz : ZArg 1048576 w A n f B m s) (hr : IsRes f s r) :
    Calls Try.prog 34 #[.agg #[.slice A n c, .slice B m d]] w fun e w' => e = .returned (.bool r) ∧ Below w.heap.size w w' := by
  have HZ := hide hz
  have HB0 := hide ((Below.refl _ w).alloc (Nat.le_refl _) (Obj.cells #[Value.slice A n c, Value.slice B m d] 29))
  have HK0 := hide (Blk.new w 29 [.slice A n c, .slice B m d])
  have hcs := hr.cases hz.sz.fl
  clear hr hz
  rcases hcs with ⟨hp, rfl⟩ | ⟨hp, T, hT, hq⟩
  · have HP := hide hp
    clear hp
    go_enter Try.func34, Try.ntmps34
    go_wp2_with fail
    refine (mapI_any _ _ _ f _ _ _ s false _ (HZ.out.later HB0.out) (by simp [HP.out])).mono ?_
    rintro e w1 ⟨rfl, hb1⟩
    have HB1 := hide (HB0.out.trans (hb1.mono HB0.out.size))
    have HK1 := hide (HK0.out.later hb1)
    have k0 := HK1.out.cell 0 _ rfl
    have k1 := HK1.out.cell 1 _ rfl
    clear hb1
    go_wp2_with fail
    go_ret
    exact ⟨rfl, HB1.out⟩
  · have HP := hide hp
    have HT := hide hT
    clear hp hT
    have hq2 : (T < n * n * n ∧ r = false) ∨ (T = n * n * n ∧ (Hid (∃ a b, FstCol f s n a b) ∧ r = false ∨ Hid (NoCol f s n) ∧ r = true)) := by
      rcases hq with ⟨h1, ⟨_, h⟩ | ⟨_, h⟩⟩ | ⟨h1, ⟨h2, h⟩ | ⟨h2, h⟩⟩
      · exact .inl ⟨h1, h⟩
      · exact .inl ⟨h1, h⟩
      · exact .inr ⟨h1, .inl ⟨hide h2, h⟩⟩
      · exact .inr ⟨h1, .inr ⟨hide h2, h⟩⟩
    clear hq
    rcases hq2 with ⟨hlt, rfl⟩ | ⟨hte, ⟨HC, rfl⟩ | ⟨HC, rfl⟩⟩
    · go_enter Try.func34, Try.ntmps34
      go_wp2_with fail
      refine (mapI_any _ _ _ f _ _ _ s true _ (HZ.out.later HB0.out) (by simp [HP.out])).mono ?_
      rintro e w1 ⟨rfl, hb1⟩
      have HB1 := hide (HB0.out.trans (hb1.mono HB0.out.size))
      have HK1 := hide (HK0.out.later hb1)
      have k0 := HK1.out.cell 0 _ rfl
      have k1 := HK1.out.cell 1 _ rfl
      clear hb1
      go_wp2_with fail
      refine (fault_any _ _ _ f _ _ _ s T _ (HZ.out.later HB1.out) HP.out HT.out).mono ?_
      rintro e w2 ⟨t, ok, rfl, hb2, hres⟩
      have HB2 := hide (HB1.out.trans (hb2.mono HB1.out.size))
      have HK2 := hide (HK1.out.later hb2)
      have hok : ok = true := by rcases hres with ⟨h1, h2, _⟩ | ⟨h1, h2⟩ <;> first | exact h1 | omega
      subst hok
      clear hb2 hres k0 k1
      unfold tv
      obtain ⟨x, y, z⟩ := t
      have k0 := fun o => (HK2.out.alloc o).cell 0 _ rfl
      have k1 := fun o => (HK2.out.alloc o).cell 1 _ rfl
      go_wp2_with fail
      clear k0 k1
      refine bp_gen fun wf hwf => ?_
      have HBF : Below w.heap.size w wf := by rw [hwf]; exact HB2.out.alloc HB2.out.size _
      clear hwf
      go_ret
      exact ⟨rfl, HBF⟩
    · go_enter Try.func34, Try.ntmps34
      go_wp2_with fail
      refine (mapI_any _ _ _ f _ _ _ s true _ (HZ.out.later HB0.out) (by simp [HP.out])).mono ?_
      rintro e w1 ⟨rfl, hb1⟩
      have HB1 := hide (HB0.out.trans (hb1.mono HB0.out.size))
      have HK1 := hide (HK0.out.later hb1)
      have k0 := HK1.out.cell 0 _ rfl
      have k1 := HK1.out.cell 1 _ rfl
      clear hb1
      go_wp2_with fail
      refine (fault_any _ _ _ f _ _ _ s T _ (HZ.out.later HB1.out) HP.out HT.out).mono ?_
      rintro e w2 ⟨t, ok, rfl, hb2, hres⟩
      have HB2 := hide (HB1.out.trans (hb2.mono HB1.out.size))
      have HK2 := hide (HK1.out.later hb2)
      have hok : ok = false := by rcases hres with ⟨h1, h2, _⟩ | ⟨h1, h2⟩ <;> first | exact h1 | omega
      subst hok
      clear hb2 hres k0 k1
      unfold tv
      obtain ⟨x, y, z⟩ := t
      have k0 := fun o => (HK2.out.alloc o).cell 0 _ rfl
      have k1 := fun o => (HK2.out.alloc o).cell 1 _ rfl
      go_wp2_with fail
      clear k0 k1
      refine calls_gen fun w4 hw4 => ?_
      replace HB2 : Hid (Below w.heap.size w w4) := hide (by rw [hw4]; exact HB2.out.alloc HB2.out.size _)
      clear hw4 HK2
      refine (coll_any _ _ _ f _ _ _ s _ (HZ.out.later HB2.out) HP.out).mono ?_
      rintro e w3 ⟨hb3, hres⟩
      have HB3 := hide (HB2.out.trans (hb3.mono HB2.out.size))
      clear hb3
      obtain ⟨a, b, hf⟩ := HC.out
      rcases hres with ⟨hno, _⟩ | ⟨a', b', _, rfl⟩
      · exact absurd hno hf.not
      · go_wp2_with fail
        refine bp_gen fun wf hwf => ?_
        have HBF : Below w.heap.size w wf := by rw [hwf]; exact (HB3.out.alloc HB3.out.size _).alloc (by have := HB3.out.size; simp; omega) _
        clear hwf
        go_ret
        exact ⟨rfl, HBF⟩
    · go_enter Try.func34, Try.ntmps34
      go_wp2_with fail
      refine (mapI_any _ _ _ f _ _ _ s true _ (HZ.out.later HB0.out) (by simp [HP.out])).mono ?_
      rintro e w1 ⟨rfl, hb1⟩
      have HB1 := hide (HB0.out.trans (hb1.mono HB0.out.size))
      have HK1 := hide (HK0.out.later hb1)
      have k0 := HK1.out.cell 0 _ rfl
      have k1 := HK1.out.cell 1 _ rfl
      clear hb1
      go_wp2_with fail
      refine (fault_any _ _ _ f _ _ _ s T _ (HZ.out.later HB1.out) HP.out HT.out).mono ?_
      rintro e w2 ⟨t, ok, rfl, hb2, hres⟩
      have HB2 := hide (HB1.out.trans (hb2.mono HB1.out.size))
      have HK2 := hide (HK1.out.later hb2)
      have hok : ok = false := by rcases hres with ⟨h1, h2, _⟩ | ⟨h1, h2⟩ <;> first | exact h1 | omega
      subst hok
      clear hb2 hres k0 k1
      unfold tv
      obtain ⟨x, y, z⟩ := t
      have k0 := fun o => (HK2.out.alloc o).cell 0 _ rfl
      have k1 := fun o => (HK2.out.alloc o).cell 1 _ rfl
      go_wp2_with fail
      clear k0 k1
      refine calls_gen fun w4 hw4 => ?_
      replace HB2 : Hid (Below w.heap.size w w4) := hide (by rw [hw4]; exact HB2.out.alloc HB2.out.size _)
      clear hw4 HK2
      refine (coll_any _ _ _ f _ _ _ s _ (HZ.out.later HB2.out) HP.out).mono ?_
      rintro e w3 ⟨hb3, hres⟩
      have HB3 := hide (HB2.out.trans (hb3.mono HB2.out.size))
      clear hb3
      rcases hres with ⟨_, rfl⟩ | ⟨a', b', hf2, _⟩
      · go_wp2_with fail
        refine bp_gen fun wf hwf => ?_
        have HBF : Below w.heap.size w wf := by rw [hwf]; exact (HB3.out.alloc HB3.out.size _).alloc (by have := HB3.out.size; simp; omega) _
        clear hwf
        go_ret
        exact ⟨rfl, HBF⟩
      · exact absurd HC.out hf2.not
end Go.Proofs.Ytbhlcfcmjildmaa
namespace Go.Proofs.Ytbhlcfcmjildmaa
open Go Go.RowKit
open Classical
set_option maxHeartbeats 4000000
theorem Qs.start {ts t : TypeId} {B : Nat} {w : World} {A : Option Addr} {c : Nat} {r : List Int} (hA : Obj1 t B w.heap.size w A r) (hB : B ≤ w.heap.size) :
    Qs ts t B ((w.alloc (.cells #[.slice A r.length c] ts)).alloc (.cells #[.slice A r.length c] ts)) (.slice (some ⟨w.heap.size, 0, none⟩) 1 1) (.slice (some ⟨w.heap.size + 1, 0, none⟩) 1 1) [r] [r] [.slice A r.length c] [.slice A r.length c] := by
  have h1 : Below w.heap.size w (w.alloc (.cells #[.slice A r.length c] ts)) := (Below.refl _ _).alloc (Nat.le_refl _) _
  have h2 : Below (w.alloc (.cells #[.slice A r.length c] ts)).heap.size (w.alloc (.cells #[.slice A r.length c] ts)) ((w.alloc (.cells #[.slice A r.length c] ts)).alloc (.cells #[.slice A r.length c] ts)) := (Below.refl _ _).alloc (Nat.le_refl _) _
  refine ⟨(LstV.single hA hB).later h2, ⟨rfl, .inr ⟨w.heap.size + 1, 1, #[.slice A r.length c], rfl, by omega, ?_, Nat.le_refl _, by unfold maxLen; omega, by simp, by simp⟩⟩, ⟨rfl, fun i hi => ?_⟩, fun g hg e => ?_⟩
  · have h := heap_alloc_new (w.alloc (.cells #[.slice A r.length c] ts)) (.cells #[.slice A r.length c] ts)
    simpa using h
  · simp at hi
    subst hi
    exact ⟨A, c, rfl, ((hA.later h1).later h2).mono (Nat.le_refl _) (by simp; omega)⟩
  · simp [Value.ownBlock] at hg e
    omega
theorem addr_add (g o j : Nat) : (⟨g, o, none⟩ : Addr).add j = ⟨g, o + j, none⟩ := by simp [Addr.add]
theorem own_low {ts : TypeId} {B B' n : Nat} {w : World} {v : Value} {xs : List Value} (h : w.ownsRow B ts 1 v n xs) (hB : B' ≤ B) : w.ownsRow B' ts 1 v n xs := by
  refine ⟨h.1, ?_⟩
  rcases h.2 with h3 | ⟨g, cap, cur, hv, hg, rest⟩
  · exact .inl h3
  · exact .inr ⟨g, cap, cur, hv, Nat.le_trans hB hg, rest⟩
theorem own_look {ts : TypeId} {B n : Nat} {w : World} {v : Value} {xs : List Value} (h : w.ownsRow B ts 1 v n xs) (h0 : 0 < n) : ∃ g c, v = .slice (some ⟨g, 0, none⟩) n c ∧ g < w.heap.size ∧ ∀ i u, xs[i]? = some u → w.cell? ⟨g, i, none⟩ = some u := by
  rcases h.2 with ⟨_, h2⟩ | ⟨g, cap, cur, hv, hg, hh, h1, h2, h3, h4⟩
  · omega
  · refine ⟨g, cap, hv, (Array.getElem?_eq_some_iff.1 hh).1, fun i u hu => ?_⟩
    rw [cell_of_row w g i cur ts (0, 0) hh]
    rw [← h4, List.getElem?_take] at hu
    by_cases e : i < n * 1
    · rw [if_pos e] at hu; simpa using hu
    · rw [if_neg e] at hu; cases hu
theorem own_self {ts : TypeId} {B n : Nat} {w : World} {v : Value} {xs : List Value} (h : w.ownsRow B ts 1 v n xs) : w.ownsRow B ts 1 v xs.length xs := by
  have e : xs.length = n := by have := h.1; omega
  rw [e]; exact h
theorem RowsV.one {t : TypeId} {B : Nat} {w : World} {rows : List (List Int)} {vals : List Value} (h : RowsV t B w rows vals) : ∀ u ∈ vals, u.oneCell' = true := by
  intro u hu
  obtain ⟨i, hi, e⟩ := List.getElem_of_mem hu
  obtain ⟨A, c, h1, _⟩ := h.2 i (by rw [← h.1]; exact hi)
  rw [List.getElem?_eq_getElem hi, e] at h1
  injection h1 with h1
  rw [h1]; rfl
/-- How the search stands, or that it has found too many. -/
def Wlk (n : Nat) (gs : List (List Int)) (M : Nat) (q : List (List Int)) (j k : Nat) : Prop := Srch n gs q j k ∨ (M < q.length ∧ q.Nodup ∧ ∀ y, y ∈ q → Gen n gs y)
theorem Wlk.nd {n M j k : Nat} {gs q : List (List Int)} (h : Wlk n gs M q j k) : q.Nodup := by
  rcases h with h | h
  · exact h.nd
  · exact h.2.1
theorem Wlk.gen {n M j k : Nat} {gs q : List (List Int)} (h : Wlk n gs M q j k) : ∀ y, y ∈ q → Gen n gs y := by
  rcases h with h | h
  · exact h.gen
  · exact h.2.2
theorem Wlk.srch {n M j k : Nat} {gs q : List (List Int)} (h : Wlk n gs M q j k) (hM : q.length ≤ M) : Srch n gs q j k := by
  rcases h with h | h
  · exact h
  · have := h.1; omega
theorem Wlk.over {n M j k : Nat} {gs q : List (List Int)} (h : Wlk n gs M q j k) (hM : M < q.length) (j' k' : Nat) : Wlk n gs M q j' k' := .inr ⟨hM, h.nd, h.gen⟩
theorem Wlk.many {n M j k : Nat} {gs q : List (List Int)} (h : Wlk n gs M q j k) (hM : M < q.length) : ¬ AtMost n gs M := by
  rintro ⟨L, hL, hl⟩
  have := nodup_sub h.nd (fun a ha => (hL.2 a).2 (h.gen a ha))
  omega
end Go.Proofs.Ytbhlcfcmjildmaa
namespace Go.Proofs.Ytbhlcfcmjildmaa
open Go Go.RowKit
/-- The number at a place of a list. -/
def elN (xs : List Int) (i : Nat) : Nat := (xs.getD i 0).toNat
/-- A tuple of elements of a set of n. -/
def Tup (n : Nat) (xs : List Int) : Prop := xs.length ≤ 12 ∧ ∀ j, j < xs.length → 0 ≤ xs.getD j 0 ∧ xs.getD j 0 < (n : Int)
theorem Tup.el {n : Nat} {xs : List Int} (h : Tup n xs) {j : Nat} (hj : j < xs.length) : xs.getD j 0 = (elN xs j : Int) ∧ elN xs j < n := by
  have := h.2 j hj
  unfold elN
  omega
/-- What forbids the guitar map. -/
def GuC (f s : List (List Int)) (xs : List Int) (code : Int) : Prop :=
  (SolF f s ∧ Tup f.length xs ∧ NonF f s ∧ code = 0) ∨ (SolF f s ∧ Tup f.length xs ∧ ¬ NonF f s ∧ code = 5) ∨ (SolF f s ∧ ¬ Tup f.length xs ∧ code = 2) ∨ (¬ SolF f s ∧ code = 1)
theorem GuC.ex (f s : List (List Int)) (xs : List Int) : ∃ code, GuC f s xs code := by
  by_cases h : SolF f s
  · by_cases h2 : Tup f.length xs
    · by_cases h3 : NonF f s
      · exact ⟨_, .inl ⟨h, h2, h3, rfl⟩⟩
      · exact ⟨_, .inr (.inl ⟨h, h2, h3, rfl⟩)⟩
    · exact ⟨_, .inr (.inr (.inl ⟨h, h2, rfl⟩))⟩
  · exact ⟨_, .inr (.inr (.inr ⟨h, rfl⟩))⟩
/-- What a function answers that the guitar map's faults forbid; L: the list where none is. -/
def GuL (L : List (List Int) → List Int → List Int) (f s : List (List Int)) (xs zs : List Int) (code : Int) : Prop :=
  GuC f s xs code ∧ ((code = 0 ∧ zs = L f xs) ∨ (code ≠ 0 ∧ zs = []))
/-- An element behind the undoing of the first j of bs. -/
def gbIn (f : List (List Int)) (bs : List Int) (x : Nat) : Nat → Nat
  | 0 => x
  | j + 1 => sol f (elN bs j) (gbIn f bs x j)
/-- The first k elements that the guitar map leads to xs. -/
def gbL (f : List (List Int)) (xs : List Int) : Nat → List Int
  | 0 => []
  | k + 1 => gbL f xs k ++ [((gbIn f (gbL f xs k) (elN xs k) k : Nat) : Int)]
theorem gbL_length (f : List (List Int)) (xs : List Int) (k : Nat) : (gbL f xs k).length = k := by
  induction k with
  | zero => rfl
  | succ k ih => simp [gbL, ih]
def gbA (f : List (List Int)) (xs : List Int) : List Int := gbL f xs xs.length
/-- An element behind the first t lambda, from that before it on. -/
def gmIn (f : List (List Int)) (xs : List Int) (i x : Nat) : Nat → Nat
  | 0 => x
  | t + 1 => ap f (elN xs (i - 1 - t)) (gmIn f xs i x t)
def gmL (f : List (List Int)) (xs : List Int) (k : Nat) : List Int := (List.range k).map fun i => ((gmIn f xs i (elN xs i) i : Nat) : Int)
theorem gmL_length (f : List (List Int)) (xs : List Int) (k : Nat) : (gmL f xs k).length = k := by simp [gmL]
theorem gmL_succ (f : List (List Int)) (xs : List Int) (k : Nat) : gmL f xs (k + 1) = gmL f xs k ++ [((gmIn f xs k (elN xs k) k : Nat) : Int)] := by simp [gmL, List.range_succ]
def gmA (f : List (List Int)) (xs : List Int) : List Int := gmL f xs xs.length
theorem gmA_length (f : List (List Int)) (xs : List Int) : (gmA f xs).length = xs.length := gmL_length _ _ _
theorem gbL_ok {f : List (List Int)} (ht : Tbl f) (hp : AllPrm f) {n : Nat} (hn : f.length = n) {xs : List Int} (hx : Tup n xs) : ∀ k, k ≤ xs.length → ∀ j, j < k → (gbL f xs k).getD j 0 = ((elN (gbL f xs k) j : Nat) : Int) ∧ elN (gbL f xs k) j < n := by
  intro k
  induction k with
  | zero => intro _ j hj; omega
  | succ k ih =>
    intro hk j hj
    have hin : ∀ t, t ≤ k → gbIn f (gbL f xs k) (elN xs k) t < n := by
      intro t
      induction t with
      | zero => intro _; exact (hx.el (by omega)).2
      | succ t iht => intro ht'; exact sol_lt ht hp hn (ih (by omega) t (by omega)).2 (iht (by omega))
    by_cases e : j = k
    · subst e
      have h1 : (gbL f xs (j + 1)).getD j 0 = ((gbIn f (gbL f xs j) (elN xs j) j : Nat) : Int) := by
        simp [gbL, gbL_length]
      have h2 : elN (gbL f xs (j + 1)) j = gbIn f (gbL f xs j) (elN xs j) j := by unfold elN; rw [h1]; simp [elN]
      rw [h1, h2]
      exact ⟨rfl, hin j (Nat.le_refl _)⟩
    · have h1 : (gbL f xs (k + 1)).getD j 0 = (gbL f xs k).getD j 0 := by
        have hl : j < (gbL f xs k).length := by rw [gbL_length]; omega
        simp only [gbL, List.getD_eq_getElem?_getD]
        rw [List.getElem?_append_left hl]
      have h2 : elN (gbL f xs (k + 1)) j = elN (gbL f xs k) j := by unfold elN; rw [h1]
      rw [h1, h2]
      exact ih (by omega) j (by omega)
theorem gbIn_lt {f : List (List Int)} (ht : Tbl f) (hp : AllPrm f) {n : Nat} (hn : f.length = n) {xs : List Int} (hx : Tup n xs) {k : Nat} (hk : k < xs.length) : ∀ t, t ≤ k → gbIn f (gbL f xs k) (elN xs k) t < n := by
  intro t
  induction t with
  | zero => intro _; exact (hx.el hk).2
  | succ t iht => intro ht'; exact sol_lt ht hp hn (gbL_ok ht hp hn hx k (by omega) t (by omega)).2 (iht (by omega))
theorem gmIn_lt {f : List (List Int)} (ht : Tbl f) {n : Nat} (hn : f.length = n) {xs : List Int} (hx : Tup n xs) {i : Nat} (hi : i < xs.length) : ∀ t, t ≤ i → gmIn f xs i (elN xs i) t < n := by
  intro t
  induction t with
  | zero => intro _; exact (hx.el hi).2
  | succ t iht => intro ht'; exact ht.ap_lt hn (hx.el (by omega)).2 (iht (by omega))
theorem GuL.ex (L : List (List Int) → List Int → List Int) (hL : ∀ f xs, (L f xs).length = xs.length) (f s : List (List Int)) (xs : List Int) : ∃ zs code, GuL L f s xs zs code ∧ zs.length ≤ 1048576 := by
  obtain ⟨code, h⟩ := GuC.ex f s xs
  by_cases hc : code = 0
  · refine ⟨_, _, ⟨h, .inl ⟨hc, rfl⟩⟩, ?_⟩
    rw [hL]
    rcases h with ⟨_, h, _⟩ | ⟨_, _, _, h⟩ | ⟨_, _, h⟩ | ⟨_, h⟩
    · have := h.1; omega
    · omega
    · omega
    · omega
  · exact ⟨_, _, ⟨h, .inr ⟨hc, rfl⟩⟩, by simp⟩
def GbRes := GuL gbA
def GmRes := GuL gmA
theorem GbRes.ex (f s : List (List Int)) (xs : List Int) : ∃ zs code, GbRes f s xs zs code ∧ zs.length ≤ 1048576 := GuL.ex gbA (fun f xs => gbL_length f xs _) f s xs
theorem GmRes.ex (f s : List (List Int)) (xs : List Int) : ∃ zs code, GmRes f s xs zs code ∧ zs.length ≤ 1048576 := GuL.ex gmA gmA_length f s xs
end Go.Proofs.Ytbhlcfcmjildmaa
namespace Go.Proofs.Ytbhlcfcmjildmaa
open Go Go.RowKit
set_option maxHeartbeats 2000000
theorem ivsInfo2 : (Try.prog.info? 26).map (fun i => (i.zero, i.size, i.bytes)) = some (some (.slice none 0 0), 1, 24) := by kernel_rfl

end Go.Proofs.Ytbhlcfcmjildmaa
namespace Go.Proofs.Ytbhlcfcmjildmaa
open Go Go.RowKit
/-! A list of rows that is shifted up in place. -/
/-- Of the older blocks only that of o is changed. -/
structure Chg (o : Nat) (w w' : World) : Prop where
  size : w.heap.size ≤ w'.heap.size
  block : ∀ k, k < w.heap.size → k ≠ o → w'.heap[k]? = w.heap[k]?
theorem Chg.refl (o : Nat) (w : World) : Chg o w w := ⟨Nat.le_refl _, fun _ _ _ => rfl⟩
theorem Chg.of_below {o : Nat} {w w' : World} (h : Below w.heap.size w w') : Chg o w w' := ⟨h.size, fun k hk _ => h.block k hk⟩
theorem Chg.trans {o : Nat} {a b c : World} (h : Chg o a b) (h2 : Chg o b c) : Chg o a c := ⟨Nat.le_trans h.size h2.size, fun k hk hne => (h2.block k (Nat.lt_of_lt_of_le hk h.size) hne).trans (h.block k hk hne)⟩
theorem Chg.store {o g i : Nat} {w w' : World} (h : Chg o w w') (hg : g = o ∨ w.heap.size ≤ g) (u : Value) : Chg o w (w'.setCell ⟨g, i, none⟩ u) :=
  ⟨by simpa [World.setCell] using h.size, fun k hk hne => (Below.heap_setCell w' ⟨g, i, none⟩ u k (by show k ≠ g; rcases hg with e | e <;> omega)).trans (h.block k hk hne)⟩
theorem Chg.grown {o : Nat} {w w1 w2 : World} {b : Option Nat} (h : Chg o w w1) (hg : w1.grownBy w2 b) (hb : b = some o ∨ b = none ∨ ∃ g, b = some g ∧ w.heap.size ≤ g) : Chg o w w2 :=
  ⟨Nat.le_trans h.size hg.size, fun k hk hne => (hg.block k (Nat.lt_of_lt_of_le hk h.size) (fun e => by
    rcases hb with e2 | e2 | ⟨g, e2, h2⟩
    · rw [e2] at e; injection e with e; exact hne e
    · rw [e2] at e; cases e
    · rw [e2] at e; injection e with e; omega)).trans (h.block k hk hne)⟩
theorem Chg.keepT {ts t : TypeId} {B o n : Nat} {w w' : World} {v : Value} {xs : List Value} (hne : ts ≠ t) (h : Chg o w w') (hv : v.ownBlock = some o) (hown : w.ownsRow B ts 1 v n xs) : KeepT t w w' := by
  intro k cur e
  refine (h.block k (Array.getElem?_eq_some_iff.1 e).1 (fun e2 => ?_)).trans e
  rcases hown.2 with ⟨h1, _⟩ | ⟨g, cap, cur2, h1, _, hh, _⟩
  · rw [h1] at hv; simp [Value.ownBlock] at hv
  · rw [h1] at hv
    simp [Value.ownBlock] at hv
    subst hv
    subst e2
    rw [hh] at e
    injection e with e
    injection e with _ e
    exact hne e
/-- A place of the row is written. -/
theorem own_set {ts : TypeId} {B n g cap i : Nat} {w : World} {xs : List Value} (h : w.ownsRow B ts 1 (.slice (some ⟨g, 0, none⟩) n cap) n xs) (u : Value) : (w.setCell ⟨g, i, none⟩ u).ownsRow B ts 1 (.slice (some ⟨g, 0, none⟩) n cap) n (xs.set i u) := by
  refine ⟨by simpa using h.1, ?_⟩
  rcases h.2 with ⟨h1, _⟩ | ⟨g', cap', cur, hv, hb, hh, h1, h2, h3, h4⟩
  · cases h1
  · injection hv with hv _ hc
    injection hv with hv
    injection hv with hv
    subst hv
    subst hc
    refine .inr ⟨g, cap, cur.set! i u, rfl, hb, ?_, h1, h2, by simpa using h3, ?_⟩
    · simp [World.setCell, Array.getElem?_modify, hh]
    · rw [← h4]
      simp [List.take_set]
theorem own_frozen {ts : TypeId} {B n g cap : Nat} {w : World} {xs : List Value} (h : w.ownsRow B ts 1 (.slice (some ⟨g, 0, none⟩) n cap) n xs) (i : Nat) : w.frozen? ⟨g, i, none⟩ = false := by
  rcases h.2 with ⟨h1, _⟩ | ⟨g', cap', cur, hv, hb, hh, _⟩
  · cases h1
  · injection hv with hv _ hc
    injection hv with hv
    injection hv with hv
    subst hv
    simp [World.frozen?, hh]
theorem own_cell {ts : TypeId} {B n g cap : Nat} {w : World} {xs : List Value} (h : w.ownsRow B ts 1 (.slice (some ⟨g, 0, none⟩) n cap) n xs) (i : Nat) (hi : i < n) : ∃ u, xs[i]? = some u ∧ w.cell? ⟨g, i, none⟩ = some u := by
  have hl : xs.length = n := by have := h.1; omega
  obtain ⟨g', c', hv, _, hc⟩ := own_look h (by omega)
  injection hv with hv _ _
  injection hv with hv
  injection hv with hv
  subst hv
  exact ⟨xs[i], List.getElem?_eq_getElem (by omega), hc i _ (List.getElem?_eq_getElem (by omega))⟩
/-- The places behind k hold what stood one place before. -/
structure Shf (vals : List Value) (m k : Nat) (xs : List Value) : Prop where
  len : xs.length = m + 1
  lo : ∀ i, i < k → xs[i]? = vals[i]?
  hi : ∀ i, k < i → i ≤ m → xs[i]? = vals[i - 1]?
theorem Shf.start {vals : List Value} {m : Nat} (h : vals.length = m) (u : Value) : Shf vals m m (vals ++ [u]) :=
  ⟨by simp [h], fun i hi => by rw [List.getElem?_append_left (by omega)], fun i h1 h2 => by omega⟩
theorem Shf.step {vals xs : List Value} {m k : Nat} (h : Shf vals m (k + 1) xs) (hk : k + 1 ≤ m) {u : Value} (hu : vals[k]? = some u) : Shf vals m k (xs.set (k + 1) u) :=
  ⟨by simpa using h.len, fun i hi => by rw [List.getElem?_set_ne (by omega)]; exact h.lo i (by omega), fun i h1 h2 => by
    by_cases e : i = k + 1
    · subst e
      rw [List.getElem?_set_self (by have := h.len; omega), show k + 1 - 1 = k by omega, hu]
    · rw [List.getElem?_set_ne (by omega)]; exact h.hi i (by omega) h2⟩
theorem Shf.fin {vals xs : List Value} {m k : Nat} (h : Shf vals m k xs) (hv : vals.length = m) (hk : k ≤ m) (u : Value) : xs.set k u = vals.take k ++ u :: vals.drop k := by
  apply List.ext_getElem?
  intro i
  rw [ins_at vals k u (by omega) i]
  by_cases h1 : i < k
  · rw [if_pos h1, List.getElem?_set_ne (by omega)]; exact h.lo i h1
  · rw [if_neg h1]
    by_cases e : i = k
    · subst e
      rw [if_pos rfl, List.getElem?_set_self (by have := h.len; omega)]
    · rw [if_neg e, List.getElem?_set_ne (by omega)]
      by_cases h2 : i ≤ m
      · exact h.hi i (by omega) h2
      · rw [List.getElem?_eq_none (by have := h.len; omega), List.getElem?_eq_none (by omega)]
end Go.Proofs.Ytbhlcfcmjildmaa
namespace Go.Proofs.Ytbhlcfcmjildmaa
open Go Go.RowKit
/-- A tuple behind a move. -/
def mvL (h1 h2 : Nat → Nat → Int) (xs : List Int) (k : Nat) : List Int := (xs.set k (h1 (elN xs k) (elN xs (k + 1)))).set (k + 1) (h2 (elN xs k) (elN xs (k + 1)))
theorem mvL_length (h1 h2 : Nat → Nat → Int) (xs : List Int) (k : Nat) : (mvL h1 h2 xs k).length = xs.length := by simp [mvL]
/-- What a move answers. -/
def MvR (n : Nat) (h1 h2 : Nat → Nat → Int) (xs : List Int) (k : Int) (zs : List Int) (code : Int) : Prop :=
  ((Tup n xs ∧ 0 ≤ k ∧ k + 2 ≤ (xs.length : Int)) ∧ zs = mvL h1 h2 xs k.toNat ∧ code = 0) ∨ (¬ (Tup n xs ∧ 0 ≤ k ∧ k + 2 ≤ (xs.length : Int)) ∧ zs = [] ∧ code = 2)
theorem MvR.ex (n : Nat) (h1 h2 : Nat → Nat → Int) (xs : List Int) (k : Int) : ∃ zs code, MvR n h1 h2 xs k zs code ∧ zs.length ≤ 1048576 := by
  by_cases h : Tup n xs ∧ 0 ≤ k ∧ k + 2 ≤ (xs.length : Int)
  · exact ⟨_, _, .inl ⟨h, rfl, rfl⟩, by rw [mvL_length]; have := h.1.1; omega⟩
  · exact ⟨_, _, .inr ⟨h, rfl, rfl⟩, by simp⟩
def GdR (good : Prop) (R : List Int → Int → Prop) (zs : List Int) (code : Int) : Prop := (good ∧ R zs code) ∨ (¬ good ∧ zs = [] ∧ code = 1)
theorem GdR.ex {good : Prop} {R : List Int → Int → Prop} (h : ∃ zs code, R zs code ∧ zs.length ≤ 1048576) : ∃ zs code, GdR good R zs code ∧ zs.length ≤ 1048576 := by
  by_cases hg : good
  · obtain ⟨zs, code, h1, h2⟩ := h
    exact ⟨zs, code, .inl ⟨hg, h1⟩, h2⟩
  · exact ⟨_, _, .inr ⟨hg, rfl, rfl⟩, by simp⟩
def leH (f : List (List Int)) : Nat → Nat → Int := fun x y => ((ap f x y : Nat) : Int)
def caH1 : Nat → Nat → Int := fun _ y => (y : Int)
def caH2 (f : List (List Int)) : Nat → Nat → Int := fun x y => ((ap f y x : Nat) : Int)
def TmRes (f s : List (List Int)) (xs : List Int) (k : Int) : List Int → Int → Prop := GdR (SolF f s) (MvR f.length (leH f) (leH s) xs k)
theorem TmRes.ex (f s : List (List Int)) (xs : List Int) (k : Int) : ∃ zs code, TmRes f s xs k zs code ∧ zs.length ≤ 1048576 := GdR.ex (MvR.ex _ _ _ _ _)
def RmRes (f : List (List Int)) (xs : List Int) (k : Int) : List Int → Int → Prop := GdR (Rck f) (MvR f.length caH1 (caH2 f) xs k)
theorem RmRes.ex (f : List (List Int)) (xs : List Int) (k : Int) : ∃ zs code, RmRes f xs k zs code ∧ zs.length ≤ 1048576 := GdR.ex (MvR.ex _ _ _ _ _)
end Go.Proofs.Ytbhlcfcmjildmaa
namespace Go.Proofs.Ytbhlcfcmjildmaa
open Go Go.RowKit
set_option maxHeartbeats 2000000

end Go.Proofs.Ytbhlcfcmjildmaa
