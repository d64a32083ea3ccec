import Derived.Test.YtiaebilcgmahlaaZad
import Derived.Test.YtiaebilcgmahlaaZaf
import Derived.Test.YtiaebilcgmahlaaZp
import Derived.Test.YtiaebilcgmahlaaZa
import Derived.Test.YtiaebilcgmahlaaZw
namespace Go.Proofs.Ytiaebilcgmahlaa
open Go Go.RowKit
set_option maxHeartbeats 4000000

section
variable {ts t : TypeId} {lo n g1 g2 : Nat} {w w' : World} {G1 G2 : Nat → Nat} {f1 f2 : Nat → Nat → Int}
theorem Duo.later (h : Duo ts t lo w n g1 G1 f1 g2 G2 f2) (hb : Below w.heap.size w w') : Duo ts t lo w' n g1 G1 f1 g2 G2 f2 :=
  ⟨h.t1.later hb, h.t2.later hb, h.l1, h.l2, h.ne, h.n12, h.n21, h.rows⟩
theorem Duo.set1 (h : Duo ts t lo w n g1 G1 f1 g2 G2 f2) (i j : Nat) (v : Int) (hi : i < n) : Duo ts t lo (w.setCell ⟨G1 i, j, none⟩ (.int .i64 v)) n g1 G1 (fun a b => if a = i ∧ b = j then v else f1 a b) g2 G2 f2 :=
  ⟨h.t1.set i j v hi, h.t2.far1 (p := ⟨G1 i, j, none⟩) (h.n21 i hi) (fun a ha e => h.rows i a hi ha e.symm) _, h.l1, h.l2, h.ne, h.n12, h.n21, h.rows⟩
theorem Duo.set2 (h : Duo ts t lo w n g1 G1 f1 g2 G2 f2) (i j : Nat) (v : Int) (hi : i < n) : Duo ts t lo (w.setCell ⟨G2 i, j, none⟩ (.int .i64 v)) n g1 G1 f1 g2 G2 (fun a b => if a = i ∧ b = j then v else f2 a b) :=
  ⟨h.t1.far1 (p := ⟨G2 i, j, none⟩) (h.n12 i hi) (fun a ha e => h.rows a i ha hi e) _, h.t2.set i j v hi, h.l1, h.l2, h.ne, h.n12, h.n21, h.rows⟩
theorem Duo.congr {h1 h2 : Nat → Nat → Int} (h : Duo ts t lo w n g1 G1 f1 g2 G2 f2) (e1 : ∀ a b, a < n → b < n → f1 a b = h1 a b) (e2 : ∀ a b, a < n → b < n → f2 a b = h2 a b) : Duo ts t lo w n g1 G1 h1 g2 G2 h2 :=
  ⟨h.t1.congr e1, h.t2.congr e2, h.l1, h.l2, h.ne, h.n12, h.n21, h.rows⟩
theorem Duo.objW (h : Duo ts t lo w n g1 G1 f1 g2 G2 f2) {hi : Nat} (hhi : w.heap.size ≤ hi) : ObjW ts t lo hi w (some ⟨g1, 0, none⟩) (grid n f1) (some ⟨g2, 0, none⟩) (grid n f2) :=
  ⟨h.t1.obj h.l1.1 (Nat.lt_of_lt_of_le h.t1.lt hhi) (fun i hin => ⟨h.l1.2 i hin, Nat.lt_of_lt_of_le (h.t1.row i hin).lt hhi⟩), h.t2.obj h.l2.1 (Nat.lt_of_lt_of_le h.t2.lt hhi) (fun i hin => ⟨h.l2.2 i hin, Nat.lt_of_lt_of_le (h.t2.row i hin).lt hhi⟩)⟩
end
/-- After k pairs. -/
def bkTo (f s : List (List Int)) (n k : Nat) (h : Nat → Nat → Int) : Nat → Nat → Int := fun a b => if bk f s n a b < k then h a b else 0
theorem bkTo_zero (f s : List (List Int)) (n : Nat) (h : Nat → Nat → Int) (a b : Nat) : (0 : Int) = bkTo f s n 0 h a b := by unfold bkTo; simp
theorem bkTo_all {f s : List (List Int)} {n : Nat} (hp : PMap f s) (hn : f.length = n) (hc : NoCol f s n) (h : Nat → Nat → Int) (a b : Nat) (ha : a < n) (hb : b < n) : bkTo f s n (n * n) h a b = h a b := by
  unfold bkTo
  rw [if_pos (bk_spec hp hn hc ha hb).1]
theorem bkTo_next {f s : List (List Int)} {n : Nat} (hp : PMap f s) (hn : f.length = n) (hc : NoCol f s n) (h : Nat → Nat → Int) {k u v : Nat} (hk : k < n * n) (hq : ledK f s n k = (u, v)) {z : Int} (hz : h u v = z) (a b : Nat) (ha : a < n) (hb : b < n) : (if a = u ∧ b = v then z else bkTo f s n k h a b) = bkTo f s n (k + 1) h a b := by
  have hbk := bk_led hc hk hq
  by_cases e : a = u ∧ b = v
  · obtain ⟨rfl, rfl⟩ := e
    rw [if_pos ⟨rfl, rfl⟩]
    unfold bkTo
    rw [hbk, if_pos (by omega)]
    exact hz.symm
  · rw [if_neg e]
    unfold bkTo
    have hne : bk f s n a b ≠ k := fun e2 => e (by
      have h2 := (bk_spec hp hn hc ha hb).2
      rw [e2, hq] at h2
      injection h2 with h3 h4
      exact ⟨h3.symm, h4.symm⟩)
    by_cases e3 : bk f s n a b < k
    · rw [if_pos e3, if_pos (by omega)]
    · rw [if_neg e3, if_neg (by omega)]

def BkPost (n : Nat) (zf zg : List (List Int)) (w : World) (e : Ending) (w' : World) : Prop := ∃ A c B d, e = .returned (.agg #[.slice A n c, .slice B n d]) ∧ Below w.heap.size w w' ∧ ObjW 25 2 w.heap.size w'.heap.size w' A zf B zg
set_option maxRecDepth 100000 in
theorem bkS_any (A : Option Addr) (n c : Nat) (f : List (List Int)) (B : Option Addr) (m d : Nat) (s : List (List Int)) (w : World) (hz : ZArg 1048576 w A n f B m s) (hp : PMap f s) (hc : NoCol f s n) :
    Calls Try.prog 105 #[.agg #[.slice A n c, .slice B m d]] w (BkPost n (grid n (bk1 f s n)) (grid n (bk2 f s n)) w) := by
  have HZ := hide hz
  have HFL := hide hz.sz.fl
  have HP := hide hp
  have h12 := hz.small hp
  obtain rfl := hz.same hp
  have HC := hide hc
  clear hz hp hc
  go_enter Try.func105, Try.ntmps105
  go_wp2_with fail
  refine calls_gen fun w0 hw0 => ?_
  have hb0 : Below w.heap.size w w0 := by rw [hw0]; exact ((Below.refl _ _).alloc (Nat.le_refl _) _).alloc (by simp) _
  have HB0 := hide hb0
  have HK0 : Hid (Blk w0 w.heap.size 29 [.slice A m c, .slice B m d]) := hide (by rw [hw0]; exact (Blk.new _ _ _).alloc _)
  have HR0 : Hid (Blk w0 (w.heap.size + 1) 29 [.slice none 0 0, .slice none 0 0]) := hide (by rw [hw0]; have h := Blk.new (w.alloc (Obj.cells #[Value.slice A m c, Value.slice B m d] 29)) 29 [.slice none 0 0, .slice none 0 0]; simpa using h)
  clear hw0 hb0
  refine (emptyS_any m _ h12.1 h12.2).mono ?_
  unfold EmPost
  rintro e w1 ⟨g1, c1, g2, c2, G1, G2, rfl, hb1, hd⟩
  have HB1 := hide (HB0.out.trans (hb1.mono HB0.out.size))
  have HK1 := hide (HK0.out.later hb1)
  have HR1 := hide (HR0.out.later hb1)
  have HD1 := hide hd
  have hlo : w.heap.size + 1 < w0.heap.size := HR0.out.lt
  have hG1 : ∀ i, i < m → G1 i < w1.heap.size := fun i hi => (hd.t1.row i hi).lt
  have hG2 : ∀ i, i < m → G2 i < w1.heap.size := fun i hi => (hd.t2.row i hi).lt
  have HG1 := hide hG1
  have HG2 := hide hG2
  clear hb1 hd hG1 hG2
  go_wp2_with fail
  refine wp_gen fun w2 hw2 => ?_
  have hb2 : Below w1.heap.size w1 w2 := by rw [hw2]; exact (Below.refl _ _).alloc (Nat.le_refl _) _
  have HO2 : Hid (Blk w2 w1.heap.size 29 [.slice (some ⟨g1, 0, none⟩) m c1, .slice (some ⟨g2, 0, none⟩) m c2]) := hide (by rw [hw2]; exact Blk.new _ _ _)
  have HB2 := hide (HB1.out.trans (hb2.mono HB1.out.size))
  have HK2 := hide (HK1.out.later hb2)
  have HR2 := hide (HR1.out.later hb2)
  have HD2 := hide ((HD1.out.later hb2).congr (fun a b _ _ => bkTo_zero f s m (bk1 f s m) a b) (fun a b _ _ => bkTo_zero f s m (bk2 f s m) a b))
  clear hw2 hb2
  go_loopw [5] (fun i wr => ∃ x : Nat, x ≤ m ∧ i = .int .i64 x ∧ Below w.heap.size w wr ∧ Blk wr w.heap.size 29 [.slice A m c, .slice B m d] ∧ Blk wr (w.heap.size + 1) 29 [.slice none 0 0, .slice none 0 0] ∧ Blk wr w1.heap.size 29 [.slice (some ⟨g1, 0, none⟩) m c1, .slice (some ⟨g2, 0, none⟩) m c2] ∧ Duo 25 2 w0.heap.size wr m g1 G1 (bkTo f s m (x * m) (bk1 f s m)) g2 G2 (bkTo f s m (x * m) (bk2 f s m))) (fun i _ => m - (intOf i).toNat)
  case atStart => exact ⟨0, Nat.zero_le _, rfl, HB2.out, HK2.out, HR2.out, HO2.out, by rw [Nat.zero_mul]; exact HD2.out⟩
  case round =>
    obtain ⟨x, hx, rfl, hbe, hkk, hrr, hoo, hdd⟩ := hrel
    have HB := hide hbe
    have HK := hide hkk
    have HR := hide hrr
    have HO := hide hoo
    have HD := hide hdd
    clear hbe hkk hrr hoo hdd
    by_cases hlt : x < m
    · have hxz : (x : Int) < m := by omega
      go_wp2_with fail
      obtain ⟨wo, rfl⟩ : ∃ wo : World, wo = wr := ⟨_, rfl⟩
      go_loopw [6] (fun i wi => ∃ y : Nat, y ≤ m ∧ i = .int .i64 y ∧ Below w.heap.size w wi ∧ Blk wi w.heap.size 29 [.slice A m c, .slice B m d] ∧ Blk wi (w.heap.size + 1) 29 [.slice none 0 0, .slice none 0 0] ∧ Blk wi w1.heap.size 29 [.slice (some ⟨g1, 0, none⟩) m c1, .slice (some ⟨g2, 0, none⟩) m c2] ∧ Duo 25 2 w0.heap.size wi m g1 G1 (bkTo f s m (x * m + y) (bk1 f s m)) g2 G2 (bkTo f s m (x * m + y) (bk2 f s m))) (fun i _ => m - (intOf i).toNat)
      case atStart => exact ⟨0, Nat.zero_le _, rfl, HB.out, HK.out, HR.out, HO.out, HD.out⟩
      case round =>
        obtain ⟨y, hy, rfl, hbi, hki, hri, hoi, hdi⟩ := hrel
        have HBI := hide hbi
        have HKI := hide hki
        have HRI := hide hri
        have HOI := hide hoi
        have HDI := hide hdi
        clear hbi hki hri hoi hdi
        by_cases hlty : y < m
        · have hyz : (y : Int) < m := by omega
          obtain ⟨b, o, b2, o2, bx, ox, cx, by', oy, cy, rfl, rfl, h1, h2, h3, h4, l1, l2, l3, l4⟩ := HZ.out.reads HP.out hlt hlty
          have hu := HP.out.lt1 HFL.out hlt hlty
          have hv := HP.out.lt2 HFL.out hlt hlty
          have hKN : x * m + y < m * m := by
            have h9 := Nat.mul_le_mul_right m (show x + 1 ≤ m from hlt)
            rw [Nat.add_mul, Nat.one_mul] at h9
            omega
          have hq : ledK f s m (x * m + y) = (ap f x y, ap s x y) := by unfold ledK; rw [pair_div m x y hlty, pair_mod m x y hlty]
          obtain ⟨u, hue⟩ : ∃ u, ap f x y = u := ⟨_, rfl⟩
          obtain ⟨v, hve⟩ : ∃ v, ap s x y = v := ⟨_, rfl⟩
          rw [hue] at h3 hu hq
          rw [hve] at h4 hv hq
          have hb9 := bk_led HC.out hKN hq
          have z1 : bk1 f s m u v = (x : Int) := by unfold bk1; rw [hb9, pair_div m x y hlty]
          have z2 : bk2 f s m u v = (y : Int) := by unfold bk2; rw [hb9, pair_mod m x y hlty]
          have HQ := hide hq
          have HZ1 := hide z1
          have HZ2 := hide z2
          have huz : (u : Int) < m := by omega
          have hvz : (v : Int) < m := by omega
          obtain ⟨C1, r1⟩ := HDI.out.t1.top
          obtain ⟨C2, r2⟩ := HDI.out.t2.top
          have c1' := r1.cell hu
          have c2' := r2.cell hu
          have j1 := (HDI.out.t1.row u hu).cell hv
          have j2 := (HDI.out.t1.row u hu).frozen v
          have j3 := (HDI.out.t2.row u hu).cell hv
          have j4 := (HDI.out.t2.row u hu).frozen v
          have lG1 := HDI.out.l1.2 u hu
          have lG2 := HDI.out.l2.2 u hu
          have n1 : w.heap.size ≠ G1 u := by omega
          have n2 := n1.symm
          have n3 : b2 ≠ G1 u := by omega
          have n4 := n3.symm
          have n5 : by' ≠ G1 u := by omega
          have n6 := n5.symm
          have n7 : G2 u ≠ G1 u := fun e => HDI.out.rows u u hu hu e.symm
          have n8 := n7.symm
          have h1' := (HBI.out.cell (p := ⟨b, o + x, none⟩) l1).trans h1
          have h2' := (HBI.out.cell (p := ⟨b2, o2 + x, none⟩) l2).trans h2
          have h3' := (HBI.out.cell (p := ⟨bx, ox + y, none⟩) l3).trans h3
          have h4' := (HBI.out.cell (p := ⟨by', oy + y, none⟩) l4).trans h4
          have k0 := HKI.out.cell 0 _ rfl
          have k1 := HKI.out.cell 1 _ rfl
          have k2 := HOI.out.cell 0 _ rfl
          have k3 := HOI.out.cell 1 _ rfl
          have HN8 := hide n8
          clear hue hve hq hb9 z1 z2 h1 h2 h3 h4 l1 l2 l3 l4 r1 r2
          go_wp2_with fail
          go_quiet (fail)
          go_wp2_with fail
          clear c1' c2' j1 j2 j3 j4 h1' h2' h3' h4' k0 k1 k2 k3
          have hW : Below wr.heap.size wr (wr.drewN nq) := (Quiet.of wr nq).below _
          have hgu1 := HG1.out u hu
          have hgu2 := HG2.out u hu
          go_roundw
          case rel =>
            refine ⟨y + 1, by omega, by go_num, ((HBI.out.trans (hW.mono HBI.out.size)).setCell (p := ⟨G1 u, v, none⟩) (by show w.heap.size ≤ G1 u; omega) _).setCell (p := ⟨G2 u, v, none⟩) (by show w.heap.size ≤ G2 u; omega) _, ((HKI.out.later hW).far (p := ⟨G1 u, v, none⟩) (by show w.heap.size ≠ G1 u; omega) _).far (p := ⟨G2 u, v, none⟩) (by show w.heap.size ≠ G2 u; omega) _, ((HRI.out.later hW).far (p := ⟨G1 u, v, none⟩) (by show w.heap.size + 1 ≠ G1 u; omega) _).far (p := ⟨G2 u, v, none⟩) (by show w.heap.size + 1 ≠ G2 u; omega) _, ((HOI.out.later hW).far (p := ⟨G1 u, v, none⟩) (by show w1.heap.size ≠ G1 u; omega) _).far (p := ⟨G2 u, v, none⟩) (by show w1.heap.size ≠ G2 u; omega) _, ?_⟩
            have hd := ((HDI.out.later hW).set1 u v (x : Int) hu).set2 u v (y : Int) hu
            exact hd.congr (bkTo_next HP.out HFL.out HC.out (bk1 f s m) hKN HQ.out HZ1.out) (bkTo_next HP.out HFL.out HC.out (bk2 f s m) hKN HQ.out HZ2.out)
          case measure => simp [intOf]; omega
        · have hyn : y = m := by omega
          subst hyn
          go_wp2_with fail
          go_roundw
          case rel => exact ⟨x + 1, by omega, by go_num, HBI.out, HKI.out, HRI.out, HOI.out, by rw [Nat.add_mul, Nat.one_mul]; exact HDI.out⟩
          case measure => simp [intOf]; omega
    · have hxn : x = m := by omega
      subst hxn
      have k0 := HO.out.cell 0 _ rfl
      have k1 := HO.out.cell 1 _ rfl
      have k2 := HR.out.cell 0 _ rfl
      have k3 := HR.out.cell 1 _ rfl
      have k4 := HR.out.frozen 0
      have k5 := HR.out.frozen 1
      go_wp2_with fail
      refine bp_gen fun wf hwf => ?_
      have HDF := HD.out.congr (bkTo_all HP.out HFL.out HC.out (bk1 f s x)) (bkTo_all HP.out HFL.out HC.out (bk2 f s x))
      obtain ⟨q0, q1, hbf, hof⟩ := wend hwf HR.out (by omega) hlo HB.out HB0.out.size (HDF.objW (Nat.le_refl _))
      clear hwf k0 k1 k2 k3 k4 k5
      exact bodyPost_ret (v := .agg #[.slice (some ⟨g1, 0, none⟩) x c1, .slice (some ⟨g2, 0, none⟩) x c2]) (by simp [results, Try.results105, go_sem, q0, q1]) rfl (by unfold BkPost; exact ⟨_, _, _, _, rfl, hbf, hof⟩)
end Go.Proofs.Ytiaebilcgmahlaa
