import Derived.Test.YtiaebilcgmahlaaCd
import Derived.Test.YtiaebilcgmahlaaCi
import Derived.Test.YtiaebilcgmahlaaCl
import Derived.Laws.CopyOwn
import Derived.Laws.CopyRow
import Derived.Deep.Cut
import Derived.Test.YtiaebilcgmahlaaCf
import Derived.Test.YtiaebilcgmahlaaCc
import Derived.Test.YtiaebilcgmahlaaCa
import Derived.StillTailTactics
import Derived.Test.YtiaebilcgmahlaaProg
import Derived.Test.YtiaebilcgmahlaaCb
import Derived.DeepKeys4
import Derived.WalkArith
import Derived.Maps.RangeWalk
import Derived.Test.YtiaebilcgmahlaaCk
namespace Go.Proofs.Ytiaebilcgmahlaa
open Go Go.RowKit
set_option maxHeartbeats 4000000
theorem copyInfo1 : (Try.prog.info? 2).map (·.size) = some 1 := by kernel_rfl
theorem wl_gen {P : Program} {ops : Array Oper} {Q : Exit → Act → World → Prop} {rest : List Oper} {a : Act} {w : World} (h : ∀ wf, wf = w → wpList P ops Q rest a wf) : wpList P ops Q rest a w := h w rfl
/-- A list with zeros behind it up to 12 numbers. -/
def pad12 (xs : List Int) : List Int := xs ++ List.replicate (12 - xs.length) 0
theorem pad12_length {xs : List Int} (h : xs.length ≤ 12) : (pad12 xs).length = 12 := by simp [pad12]; omega
theorem pad12_at {xs : List Int} {i : Nat} (h : i < xs.length) : (pad12 xs).getD i 0 = xs.getD i 0 := by
  simp only [pad12, List.getD_eq_getElem?_getD]
  rw [List.getElem?_append_left h]
theorem pad12_cells (xs : List Int) : (List.take 0 (ints (List.replicate 12 0)).toArray.toList ++ (ints xs ++ List.drop (0 + (ints xs).length) (ints (List.replicate 12 0)).toArray.toList)).toArray = (ints (pad12 xs)).toArray := by
  have e : ints (List.replicate 12 0) = List.replicate 12 (Value.int .i64 0) := by simp only [ints, List.map_replicate]
  have e2 : ints (pad12 xs) = ints xs ++ List.replicate (12 - xs.length) (Value.int .i64 0) := by simp only [pad12, ints, List.map_append, List.map_replicate]
  rw [e, e2]
  simp only [List.take_zero, List.nil_append, Nat.zero_add, List.drop_replicate, ints_length]

set_option maxRecDepth 100000 in
theorem tupleOf_any (A : Option Addr) (m c : Nat) (xs : List Int) (w : World) (hm : xs.length = m) (hb : m ≤ 12) (hr : Rd w A xs) :
    Calls Try.prog 60 #[.slice A m c] w fun e w' => e = .returned (.agg (ints (pad12 xs)).toArray) ∧ Below w.heap.size w w' := by
  have HM := hide hm
  have hpl := pad12_length (xs := xs) (by omega)
  have hcells := pad12_cells xs
  obtain ⟨ys, hy⟩ : ∃ ys, pad12 xs = ys := ⟨_, rfl⟩
  rw [hy] at hpl hcells ⊢
  have HY := hide hy
  obtain ⟨b0, b1, b2, b3, b4, b5, b6, b7, b8, b9, b10, b11, rfl⟩ := list12 hpl
  have HCE := hide hcells
  obtain ⟨cs, hcs⟩ : ∃ cs, ints xs = cs := ⟨_, rfl⟩
  have HCS := hide hcs
  have hcl : cs.length = m := by rw [← hcs, ints_length]; exact hm
  have HCL := hide hcl
  have h1c : ∀ v ∈ cs, v.oneCell' = true := by intro v hv; rw [← hcs] at hv; simp [ints] at hv; obtain ⟨_, _, rfl⟩ := hv; rfl
  have H1C := hide h1c
  clear hpl hcells hy hcl h1c
  show Calls Try.prog 60 #[.slice A m c] w fun e w' => e = .returned (.agg #[.int .i64 b0, .int .i64 b1, .int .i64 b2, .int .i64 b3, .int .i64 b4, .int .i64 b5, .int .i64 b6, .int .i64 b7, .int .i64 b8, .int .i64 b9, .int .i64 b10, .int .i64 b11]) ∧ Below w.heap.size w w'
  by_cases h0 : m = 0
  · subst h0
    have hx0 : xs = [] := List.length_eq_zero_iff.1 HM.out
    subst hx0
    have hz : [b0, b1, b2, b3, b4, b5, b6, b7, b8, b9, b10, b11] = List.replicate 12 0 := HY.out.symm
    injection hz with hz0 hz
    clear hr hm
    injection hz with hz1 hz
    injection hz with hz2 hz
    injection hz with hz3 hz
    injection hz with hz4 hz
    injection hz with hz5 hz
    injection hz with hz6 hz
    injection hz with hz7 hz
    injection hz with hz8 hz
    injection hz with hz9 hz
    injection hz with hz10 hz
    injection hz with hz11 hz
    subst hz0
    subst hz1
    subst hz2
    subst hz3
    subst hz4
    subst hz5
    subst hz6
    subst hz7
    subst hz8
    subst hz9
    subst hz10
    subst hz11
    go_enter Try.func60, Try.ntmps60
    go_upto_region 2 with fail
    refine wp_gen fun w2 hw2 => ?_
    have HB2 : Hid (Below w.heap.size w w2) := hide (by rw [hw2]; exact ((Below.refl _ _).alloc (Nat.le_refl _) _).alloc (by simp) _)
    have HR2 : Hid (Row 65 w2 w.heap.size (List.replicate 12 0)) := hide (by rw [hw2]; exact (row_zero 65 w).later ((Below.refl _ _).alloc (Nat.le_refl _) _) (by simp))
    have HT2 : Hid (Row 65 w2 (w.heap.size + 1) (List.replicate 12 0)) := hide (by rw [hw2]; have h := row_zero 65 (w.alloc (.cells #[Value.int IntKind.i64 0, Value.int IntKind.i64 0, Value.int IntKind.i64 0, Value.int IntKind.i64 0, Value.int IntKind.i64 0, Value.int IntKind.i64 0, Value.int IntKind.i64 0, Value.int IntKind.i64 0, Value.int IntKind.i64 0, Value.int IntKind.i64 0, Value.int IntKind.i64 0, Value.int IntKind.i64 0] 65)); have e : (w.alloc (Obj.cells #[Value.int IntKind.i64 0, Value.int IntKind.i64 0, Value.int IntKind.i64 0, Value.int IntKind.i64 0, Value.int IntKind.i64 0, Value.int IntKind.i64 0, Value.int IntKind.i64 0, Value.int IntKind.i64 0, Value.int IntKind.i64 0, Value.int IntKind.i64 0, Value.int IntKind.i64 0, Value.int IntKind.i64 0] 65)).heap.size = w.heap.size + 1 := (by simp); rw [e] at h; exact h)
    clear hw2
    obtain ⟨za0, zf0, za1, zf1, za2, zf2, za3, zf3, za4, zf4, za5, zf5, za6, zf6, za7, zf7, za8, zf8, za9, zf9, za10, zf10, za11, zf11⟩ := row12 (show Row 65 w2 (w.heap.size + 1) [0, 0, 0, 0, 0, 0, 0, 0, 0, 0, 0, 0] from HT2.out)
    obtain ⟨ya0, yf0, ya1, yf1, ya2, yf2, ya3, yf3, ya4, yf4, ya5, yf5, ya6, yf6, ya7, yf7, ya8, yf8, ya9, yf9, ya10, yf10, ya11, yf11⟩ := row12 (show Row 65 w2 w.heap.size [0, 0, 0, 0, 0, 0, 0, 0, 0, 0, 0, 0] from HR2.out)
    go_wp2_with (refine wpList_copy_nothing rfl _ _ _ _ rfl 2 Try.underlying25 copyInfo1 _ _ 12 12 0 c rfl rfl rfl ?_)
    refine bp_gen fun wf hwf => ?_
    have HRF : Row 65 wf (w.heap.size) [0, 0, 0, 0, 0, 0, 0, 0, 0, 0, 0, 0] := by rw [hwf]; exact row12_set (List.length_replicate ..) HR2.out _ _ _ _ _ _ _ _ _ _ _ _
    have HBF : Below w.heap.size w wf := by rw [hwf]; exact below12_set HB2.out (by omega) _ _ _ _ _ _ _ _ _ _ _ _
    obtain ⟨q0, _, q1, _, q2, _, q3, _, q4, _, q5, _, q6, _, q7, _, q8, _, q9, _, q10, _, q11, _⟩ := row12 HRF
    clear hwf
    exact bodyPost_ret (v := .agg #[.int .i64 0, .int .i64 0, .int .i64 0, .int .i64 0, .int .i64 0, .int .i64 0, .int .i64 0, .int .i64 0, .int .i64 0, .int .i64 0, .int .i64 0, .int .i64 0]) (by simp [results, Try.results60, go_sem, q0, q1, q2, q3, q4, q5, q6, q7, q8, q9, q10, q11]) rfl ⟨rfl, HBF⟩
  · obtain ⟨b, o, rfl, hbw, hc⟩ := hr (by omega)
    have HC : Hid (∀ i, i < m → w.cell? ⟨b, o + i, none⟩ = some (.int .i64 (xs.getD i 0))) := hide (by rw [← hm]; exact hc)
    clear hc hm
    go_enter Try.func60, Try.ntmps60
    go_upto_region 2 with fail
    refine wp_gen fun w2 hw2 => ?_
    have HB2 : Hid (Below w.heap.size w w2) := hide (by rw [hw2]; exact ((Below.refl _ _).alloc (Nat.le_refl _) _).alloc (by simp) _)
    have HR2 : Hid (Row 65 w2 w.heap.size (List.replicate 12 0)) := hide (by rw [hw2]; exact (row_zero 65 w).later ((Below.refl _ _).alloc (Nat.le_refl _) _) (by simp))
    have HT2 : Hid (Row 65 w2 (w.heap.size + 1) (List.replicate 12 0)) := hide (by rw [hw2]; have h := row_zero 65 (w.alloc (.cells #[Value.int IntKind.i64 0, Value.int IntKind.i64 0, Value.int IntKind.i64 0, Value.int IntKind.i64 0, Value.int IntKind.i64 0, Value.int IntKind.i64 0, Value.int IntKind.i64 0, Value.int IntKind.i64 0, Value.int IntKind.i64 0, Value.int IntKind.i64 0, Value.int IntKind.i64 0, Value.int IntKind.i64 0] 65)); have e : (w.alloc (Obj.cells #[Value.int IntKind.i64 0, Value.int IntKind.i64 0, Value.int IntKind.i64 0, Value.int IntKind.i64 0, Value.int IntKind.i64 0, Value.int IntKind.i64 0, Value.int IntKind.i64 0, Value.int IntKind.i64 0, Value.int IntKind.i64 0, Value.int IntKind.i64 0, Value.int IntKind.i64 0, Value.int IntKind.i64 0] 65)).heap.size = w.heap.size + 1 := (by simp); rw [e] at h; exact h)
    clear hw2
    have hsrc : ∀ j v, cs[j]? = some v → w2.cell? ((⟨b, o, none⟩ : Addr).add j) = some v := by
      intro j v hj
      have hl : j < m := by rw [← HCL.out]; exact (List.getElem?_eq_some_iff.1 hj).1
      have e : (⟨b, o, none⟩ : Addr).add j = ⟨b, o + j, none⟩ := by
        unfold Addr.add
        by_cases h : j = 0
        · subst h; simp
        · simp [h]
      rw [e, HB2.out.cell (p := ⟨b, o + j, none⟩) hbw, HC.out j hl, ← hj, ← HCS.out]
      simp [ints, HM.out, hl]
    have HSRC := hide hsrc
    have hg2 : w2.heap[w.heap.size + 1]? = some (.cells (ints (List.replicate 12 0)).toArray 65 (0, 0)) := HT2.out
    have HG2 := hide hg2
    have hmin : cs.length = Nat.min m 12 := by rw [HCL.out]; exact (Nat.min_eq_left hb).symm
    have hfit : 0 + cs.length ≤ (ints (List.replicate 12 0)).toArray.size := by rw [HCL.out]; simp [ints]; omega
    have HMIN := hide hmin
    have HFIT := hide hfit
    clear hsrc hg2 hmin hfit hcs
    go_upto_region 3 with (refine wpList_copy_own rfl _ _ _ _ rfl 2 Try.underlying25 copyInfo1 (w.heap.size + 1) 0 12 12 ⟨b, o, none⟩ m c rfl rfl (ints (List.replicate 12 0)).toArray 65 HG2.out cs HMIN.out HSRC.out HFIT.out H1C.out ?_; refine wl_gen fun w3 hw3 => ?_; have HW3 := hide hw3; clear hw3)
    have HR3 : Hid (Row 65 w3 (w.heap.size + 1) [b0, b1, b2, b3, b4, b5, b6, b7, b8, b9, b10, b11]) := hide (by
      have h := setRow_heap w2 (w.heap.size + 1) _ (List.take 0 (ints (List.replicate 12 0)).toArray.toList ++ (cs ++ List.drop (0 + cs.length) (ints (List.replicate 12 0)).toArray.toList)).toArray 65 (0, 0) HG2.out
      have e := HCE.out
      rw [HCS.out] at e
      rw [← HW3.out, e] at h
      exact h)
    have HZ3 : Hid (Row 65 w3 w.heap.size (List.replicate 12 0)) := hide (by rw [HW3.out]; exact (setRow_other w2 (w.heap.size + 1) w.heap.size _ (by omega)).trans HR2.out)
    have HB3 : Hid (Below w.heap.size w w3) := hide (by rw [HW3.out]; exact below_setRow HB2.out (by omega) _)
    clear HW3
    obtain ⟨ra0, rf0, ra1, rf1, ra2, rf2, ra3, rf3, ra4, rf4, ra5, rf5, ra6, rf6, ra7, rf7, ra8, rf8, ra9, rf9, ra10, rf10, ra11, rf11⟩ := row12 HR3.out
    obtain ⟨za0, zf0, za1, zf1, za2, zf2, za3, zf3, za4, zf4, za5, zf5, za6, zf6, za7, zf7, za8, zf8, za9, zf9, za10, zf10, za11, zf11⟩ := row12 (show Row 65 w3 w.heap.size [0, 0, 0, 0, 0, 0, 0, 0, 0, 0, 0, 0] from HZ3.out)
    go_wp2_with fail
    refine bp_gen fun wf hwf => ?_
    have HRF : Row 65 wf (w.heap.size) [b0, b1, b2, b3, b4, b5, b6, b7, b8, b9, b10, b11] := by rw [hwf]; exact row12_set (List.length_replicate ..) HZ3.out _ _ _ _ _ _ _ _ _ _ _ _
    have HBF : Below w.heap.size w wf := by rw [hwf]; exact below12_set HB3.out (by omega) _ _ _ _ _ _ _ _ _ _ _ _
    obtain ⟨q0, _, q1, _, q2, _, q3, _, q4, _, q5, _, q6, _, q7, _, q8, _, q9, _, q10, _, q11, _⟩ := row12 HRF
    clear hwf
    exact bodyPost_ret (v := .agg #[.int .i64 b0, .int .i64 b1, .int .i64 b2, .int .i64 b3, .int .i64 b4, .int .i64 b5, .int .i64 b6, .int .i64 b7, .int .i64 b8, .int .i64 b9, .int .i64 b10, .int .i64 b11]) (by simp [results, Try.results60, go_sem, q0, q1, q2, q3, q4, q5, q6, q7, q8, q9, q10, q11]) rfl ⟨rfl, HBF⟩
end Go.Proofs.Ytiaebilcgmahlaa
namespace Go.Proofs.Ytiaebilcgmahlaa
open Go Go.RowKit
section
variable {ts t : TypeId} {B g : Nat} {w w' : World} {v vq vs : Value} {rows queue srt : List (List Int)} {vals qvals svals nvals : List Value}
theorem own_chg {n : Nat} (h : w.ownsRow B ts 1 v n vals) (hc : Chg g w w') (hd : v.ownBlock ≠ some g) : w'.ownsRow B ts 1 v n vals := by
  refine ⟨h.1, ?_⟩
  rcases h.2 with h1 | ⟨g0, cap, cur, hv, hb, hh, rest⟩
  · exact .inl h1
  · refine .inr ⟨g0, cap, cur, hv, hb, ?_, rest⟩
    rw [hc.block g0 (Array.getElem?_eq_some_iff.1 hh).1 (fun e => hd (by rw [hv, ← e]; rfl))]
    exact hh
/-- A row is put into the sorted list. -/
theorem Qs.put {A : Option Addr} {c k n m cap g' cap' : Nat} {p : List Int} (hne : ts ≠ t) (h : Qs ts t B w vq (.slice (some ⟨g, 0, none⟩) m cap) queue srt qvals svals) (hc : Chg g w w') (hk : k ≤ srt.length) (hA : Obj1 t B w.heap.size w A p) (hg : g' = g ∨ w.heap.size ≤ g')
    (hn : n = (insL srt k p).length) (hown : w'.ownsRow B ts 1 (.slice (some ⟨g', 0, none⟩) n cap') n (svals.take k ++ .slice A p.length c :: svals.drop k)) : Qs ts t B w' vq (.slice (some ⟨g', 0, none⟩) n cap') queue (insL srt k p) qvals (svals.take k ++ .slice A p.length c :: svals.drop k) := by
  have hkt : KeepT t w w' := hc.keepT hne rfl h.s
  have hdq : vq.ownBlock ≠ some g := fun e => h.d g e rfl
  refine ⟨⟨own_chg h.q.own hc hdq, fun i hi => ?_, h.q.ne⟩, by rw [← hn]; exact hown, (h.r.kept hkt hc.size).ins hk ((hkt.obj hA).mono (Nat.le_refl _) hc.size), fun g0 hg0 e => ?_⟩
  · obtain ⟨A', c', h1, h2⟩ := h.q.row i hi
    exact ⟨A', c', h1, (hkt.obj h2).mono (Nat.le_refl _) hc.size⟩
  · simp [Value.ownBlock] at e
    subst e
    rcases hg with e | e
    · subst e; exact h.d _ hg0 rfl
    · have := (own_lt h.q.own hg0).2; omega
/-- Two lists of one row each. -/
theorem Qs.start2 {A A2 : Option Addr} {c c2 : Nat} {r : List Int} (hB : B ≤ w.heap.size) (hb : Below w.heap.size w w') (hs : g = w'.heap.size) (hq : LstV ts t B w' vq [r] [.slice A r.length c]) (hvq : ∀ g0, vq.ownBlock = some g0 → g0 < w'.heap.size) (hr2 : Obj1 t B w'.heap.size w' A2 r) :
    Qs ts t B (w'.alloc (.cells #[.slice A2 r.length c2] ts)) vq (.slice (some ⟨g, 0, none⟩) 1 1) [r] [r] [.slice A r.length c] [.slice A2 r.length c2] := by
  have h2 : Below w'.heap.size w' (w'.alloc (.cells #[.slice A2 r.length c2] ts)) := (Below.refl _ _).alloc (Nat.le_refl _) _
  subst hs
  refine ⟨hq.later h2, ⟨rfl, .inr ⟨w'.heap.size, 1, #[.slice A2 r.length c2], rfl, Nat.le_trans hB hb.size, heap_alloc_new _ _, Nat.le_refl _, by unfold maxLen; omega, by simp, by simp⟩⟩, ⟨rfl, fun i hi => ?_⟩, fun g0 hg0 e => ?_⟩
  · simp at hi
    subst hi
    exact ⟨A2, c2, rfl, (hr2.later h2).mono (Nat.le_refl _) h2.size⟩
  · simp [Value.ownBlock] at e
    have := hvq g0 hg0
    omega
end
end Go.Proofs.Ytiaebilcgmahlaa
namespace Go.Proofs.Ytiaebilcgmahlaa
open Go Go.RowKit
set_option maxHeartbeats 4000000

set_option maxRecDepth 100000 in
theorem doL_any (A : Option Addr) (n c : Nat) (f : List (List Int)) (B : Option Addr) (d : Nat) (s : List (List Int)) (C : Option Addr) (m e : Nat) (xs : List Int) (K : Nat) (w : World) (hz : ZArg 1048576 w A n f B n s) (hp : PMap f s) (hm : xs.length = m) (hr : Rd w C xs) (ht : Tup n xs) (hK : K + 1 < m) :
    Calls Try.prog 106 #[.agg #[.slice A n c, .slice B n d], .slice C m e, .int .i64 K] w fun e w' => ∃ A' c', e = .returned (.slice A' m c') ∧ Below w.heap.size w w' ∧ Res 2 w.heap.size w' A' (mvL (leH f) (leH s) xs K) := by
  have h12 := (hz.small hp).2
  have hm12 : m ≤ 12 := by rw [← hm]; exact ht.1
  have HM := hide hm
  obtain ⟨bt, ot, rfl, hbt, hct⟩ := hr (by omega)
  have HCT := hide hct
  have hx := ht.el (j := K) (by omega)
  have hy := ht.el (j := K + 1) (by omega)
  have ex := hct K (by omega)
  have ey := hct (K + 1) (by omega)
  rw [hx.1] at ex
  rw [hy.1] at ey
  have hxn := hx.2
  have hyn := hy.2
  have hml : mvL (leH f) (leH s) xs K = (xs.set K ((ap f (elN xs K) (elN xs (K + 1)) : Nat) : Int)).set (K + 1) ((ap s (elN xs K) (elN xs (K + 1)) : Nat) : Int) := rfl
  obtain ⟨x, hxe⟩ : ∃ x, elN xs K = x := ⟨_, rfl⟩
  obtain ⟨y, hye⟩ : ∃ y, elN xs (K + 1) = y := ⟨_, rfl⟩
  rw [hxe] at ex hxn hml
  rw [hye] at ey hyn hml
  obtain ⟨bA, oA, bB, oB, bx, ox, cx, bY, oy, cy, eA, eB, j1, j2, j3, j4, l1, l2, l3, l4⟩ := hz.reads hp hxn hyn
  obtain ⟨u, hu⟩ : ∃ u, ap f x y = u := ⟨_, rfl⟩
  obtain ⟨v, hv⟩ : ∃ v, ap s x y = v := ⟨_, rfl⟩
  rw [hu] at j3 hml
  rw [hv] at j4 hml
  rw [hml]
  subst eA
  subst eB
  obtain ⟨K1, hK1⟩ : ∃ K1, K + 1 = K1 := ⟨_, rfl⟩
  rw [hK1] at hK ey ⊢
  have HK1 := hide hK1
  have EX := hide ex
  have EY := hide ey
  have J1 := hide j1
  have J2 := hide j2
  have J3 := hide j3
  have J4 := hide j4
  have hxz : (x : Int) < n := by omega
  have hyz : (y : Int) < n := by omega
  have hKz : (K : Int) < m := by omega
  have hK1z : (K1 : Int) < m := by omega
  have hKn : (K : Int) + 1 = (K1 : Int) := by omega
  have hKw : IntKind.i64.wrap (K1 : Int) = (K1 : Int) := IntWalk.i64_in _ (by omega)
  have HB0 := hide ((Below.refl _ w).alloc (Nat.le_refl _) (Obj.cells #[Value.slice (some ⟨bA, oA, none⟩) n c, Value.slice (some ⟨bB, oB, none⟩) n d] 29))
  have HK0 := hide (Blk.new w 29 [.slice (some ⟨bA, oA, none⟩) n c, .slice (some ⟨bB, oB, none⟩) n d])
  have HSZ : Hid (w.heap.size < (w.alloc (Obj.cells #[Value.slice (some ⟨bA, oA, none⟩) n c, Value.slice (some ⟨bB, oB, none⟩) n d] 29)).heap.size) := hide HK0.out.lt
  clear hz hp hm hr ht hct hx hy ex ey j1 j2 j3 j4 hu hv hml hK1 hxe hye
  go_enter Try.func106, Try.ntmps106
  go_wp2_with fail
  refine calls_gen fun wa hwa => ?_
  rw [← hwa] at HB0 HK0 HSZ
  clear hwa
  refine (own_any bt ot m e xs _ HM.out (by omega) (by have := HB0.out.size; omega) (fun i hi => (HB0.out.cell (p := ⟨bt, ot + i, none⟩) hbt).trans (HCT.out i hi))).mono ?_
  rintro e w1 ⟨v5, rfl, hb1, ho5⟩
  obtain ⟨A5, c5, hv5, hr5⟩ := own_shape ho5
  subst hv5
  obtain ⟨g, rfl, hg, hown⟩ : ∃ g, A5 = some ⟨g, 0, none⟩ ∧ wa.heap.size ≤ g ∧ OwnB 2 w1 g xs := by
    rcases hr5 with ⟨_, h⟩ | h
    · exact absurd HM.out (by rw [h]; simp; omega)
    · exact h
  have HKL := hide (HK0.out.later hb1)
  have HB1 := hide (HB0.out.trans (hb1.mono HB0.out.size))
  have HOW := hide hown
  have hgw : w.heap.size < g := by have := HSZ.out; omega
  clear hb1 ho5 hown
  have hkl := HK0.out.lt
  have HK1_ : Hid (Blk w1 w.heap.size 29 [.slice (some ⟨bA, oA, none⟩) n c, .slice (some ⟨bB, oB, none⟩) n d]) := hide (HKL.out)
  have kf := HK1_.out.cell 0 _ rfl
  have ff0 := (HB1.out.cell (p := ⟨bt, ot + K, none⟩) hbt).trans EX.out
  have ff1 := (HB1.out.cell (p := ⟨bt, ot + K1, none⟩) hbt).trans EY.out
  have ff2 := (HB1.out.cell (p := ⟨bA, oA + x, none⟩) l1).trans J1.out
  have ff3 := (HB1.out.cell (p := ⟨bx, ox + y, none⟩) l3).trans J3.out
  have fg := HOW.out.cell (i := K) (by simp [HM.out]; omega)
  have fz := HOW.out.frozen K
  obtain ⟨old1, hold⟩ : ∃ o, List.getD xs K 0 = o := ⟨_, rfl⟩
  rw [hold] at fg
  clear hold
  go_wp2_with fail
  go_still_tail 17, (by kernel_rfl)
  change wpList _ _ _ _ _ w1.drew
  go_upto_region 3 with fail
  refine wp_gen fun w2 hw2 => ?_
  have HOW2 : Hid (OwnB 2 w2 g (xs.set K u)) := hide (by rw [hw2]; exact HOW.out.set K u (by simp [HM.out]; omega))
  have HB2 : Hid (Below w.heap.size w w2) := hide (by rw [hw2]; first | exact (HB1.out.setCell (p := ⟨g, K, none⟩) (by show w.heap.size ≤ g; omega) (.int .i64 u)).drew | exact HB1.out.setCell (p := ⟨g, K, none⟩) (by show w.heap.size ≤ g; omega) (.int .i64 u))
  have HK2_ : Hid (Blk w2 w.heap.size 29 [.slice (some ⟨bA, oA, none⟩) n c, .slice (some ⟨bB, oB, none⟩) n d]) := hide (by rw [hw2]; exact HK1_.out.far (p := ⟨g, K, none⟩) (by show w.heap.size ≠ g; omega) (.int .i64 u))
  clear hw2 kf fg fz ff0 ff1 ff2 ff3
  have kf := HK2_.out.cell 1 _ rfl
  have ff0 := (HB2.out.cell (p := ⟨bt, ot + K, none⟩) hbt).trans EX.out
  have ff1 := (HB2.out.cell (p := ⟨bt, ot + K1, none⟩) hbt).trans EY.out
  have ff2 := (HB2.out.cell (p := ⟨bB, oB + x, none⟩) l2).trans J2.out
  have ff3 := (HB2.out.cell (p := ⟨bY, oy + y, none⟩) l4).trans J4.out
  have fg := HOW2.out.cell (i := K1) (by simp [HM.out]; omega)
  have fz := HOW2.out.frozen K1
  obtain ⟨old2, hold⟩ : ∃ o, List.getD (xs.set K u) K1 0 = o := ⟨_, rfl⟩
  rw [hold] at fg
  clear hold
  go_wp2_with fail
  go_still_tail 18, (by kernel_rfl)
  change wpList _ _ _ _ _ w2.drew
  go_upto_region 4 with fail
  refine wp_gen fun w3 hw3 => ?_
  have HOW3 : Hid (OwnB 2 w3 g ((xs.set K u).set K1 v)) := hide (by rw [hw3]; exact HOW2.out.set K1 v (by simp [HM.out]; omega))
  have HB3 : Hid (Below w.heap.size w w3) := hide (by rw [hw3]; first | exact (HB2.out.setCell (p := ⟨g, K1, none⟩) (by show w.heap.size ≤ g; omega) (.int .i64 v)).drew | exact HB2.out.setCell (p := ⟨g, K1, none⟩) (by show w.heap.size ≤ g; omega) (.int .i64 v))
  have HK3_ : Hid (Blk w3 w.heap.size 29 [.slice (some ⟨bA, oA, none⟩) n c, .slice (some ⟨bB, oB, none⟩) n d]) := hide (by rw [hw3]; exact HK2_.out.far (p := ⟨g, K1, none⟩) (by show w.heap.size ≠ g; omega) (.int .i64 v))
  clear hw3 kf fg fz ff0 ff1 ff2 ff3
  go_wp2_with fail
  go_ret
  exact ⟨_, _, rfl, HB3.out, .inr ⟨g, rfl, by omega, HOW3.out⟩⟩
end Go.Proofs.Ytiaebilcgmahlaa
namespace Go.Proofs.Ytiaebilcgmahlaa
open Go Go.RowKit
set_option maxHeartbeats 4000000
set_option maxRecDepth 100000 in
theorem moveS_any (A : Option Addr) (n c : Nat) (f : List (List Int)) (B : Option Addr) (d : Nat) (s : List (List Int)) (C : Option Addr) (m e : Nat) (xs : List Int) (K : Nat) (w : World) (hz : ZArg 1048576 w A n f B n s) (hp : PMap f s) (hm : xs.length = m) (hr : Rd w C xs) (ht : Tup n xs) (hK : K + 1 < m) :
    Calls Try.prog 65 #[.agg #[.slice A n c, .slice B n d], .slice C m e, .int .i64 K] w fun e w' => ∃ A' c', e = .returned (.slice A' m c') ∧ Below w.heap.size w w' ∧ Res 2 w.heap.size w' A' (mvL (leH f) (leH s) xs K) := by
  have h12 := (hz.small hp).2
  have hm12 : m ≤ 12 := by rw [← hm]; exact ht.1
  have HM := hide hm
  obtain ⟨bt, ot, rfl, hbt, hct⟩ := hr (by omega)
  have HCT := hide hct
  have hx := ht.el (j := K) (by omega)
  have hy := ht.el (j := K + 1) (by omega)
  have ex := hct K (by omega)
  have ey := hct (K + 1) (by omega)
  rw [hx.1] at ex
  rw [hy.1] at ey
  have hxn := hx.2
  have hyn := hy.2
  have hml : mvL (leH f) (leH s) xs K = (xs.set K ((ap f (elN xs K) (elN xs (K + 1)) : Nat) : Int)).set (K + 1) ((ap s (elN xs K) (elN xs (K + 1)) : Nat) : Int) := rfl
  obtain ⟨x, hxe⟩ : ∃ x, elN xs K = x := ⟨_, rfl⟩
  obtain ⟨y, hye⟩ : ∃ y, elN xs (K + 1) = y := ⟨_, rfl⟩
  rw [hxe] at ex hxn hml
  rw [hye] at ey hyn hml
  obtain ⟨bA, oA, bB, oB, bx, ox, cx, bY, oy, cy, eA, eB, j1, j2, j3, j4, l1, l2, l3, l4⟩ := hz.reads hp hxn hyn
  obtain ⟨u, hu⟩ : ∃ u, ap f x y = u := ⟨_, rfl⟩
  obtain ⟨v, hv⟩ : ∃ v, ap s x y = v := ⟨_, rfl⟩
  rw [hu] at j3 hml
  rw [hv] at j4 hml
  rw [hml]
  subst eA
  subst eB
  obtain ⟨K1, hK1⟩ : ∃ K1, K + 1 = K1 := ⟨_, rfl⟩
  rw [hK1] at hK ey ⊢
  have HK1 := hide hK1
  have EX := hide ex
  have EY := hide ey
  have J1 := hide j1
  have J2 := hide j2
  have J3 := hide j3
  have J4 := hide j4
  have hxz : (x : Int) < n := by omega
  have hyz : (y : Int) < n := by omega
  have hKz : (K : Int) < m := by omega
  have hK1z : (K1 : Int) < m := by omega
  have hKn : (K : Int) + 1 = (K1 : Int) := by omega
  have hKw : IntKind.i64.wrap (K1 : Int) = (K1 : Int) := IntWalk.i64_in _ (by omega)
  have HB0 := hide ((Below.refl _ w).alloc (Nat.le_refl _) (Obj.cells #[Value.slice (some ⟨bA, oA, none⟩) n c, Value.slice (some ⟨bB, oB, none⟩) n d] 29))
  have HK0 := hide (Blk.new w 29 [.slice (some ⟨bA, oA, none⟩) n c, .slice (some ⟨bB, oB, none⟩) n d])
  have HSZ : Hid (w.heap.size < (w.alloc (Obj.cells #[Value.slice (some ⟨bA, oA, none⟩) n c, Value.slice (some ⟨bB, oB, none⟩) n d] 29)).heap.size) := hide HK0.out.lt
  clear hz hp hm hr ht hct hx hy ex ey j1 j2 j3 j4 hu hv hml hK1 hxe hye
  go_enter Try.func65, Try.ntmps65
  go_wp2_with fail
  refine calls_gen fun wa hwa => ?_
  rw [← hwa] at HB0 HK0 HSZ
  clear hwa
  refine (own_any bt ot m e xs _ HM.out (by omega) (by have := HB0.out.size; omega) (fun i hi => (HB0.out.cell (p := ⟨bt, ot + i, none⟩) hbt).trans (HCT.out i hi))).mono ?_
  rintro e w1 ⟨v5, rfl, hb1, ho5⟩
  obtain ⟨A5, c5, hv5, hr5⟩ := own_shape ho5
  subst hv5
  obtain ⟨g, rfl, hg, hown⟩ : ∃ g, A5 = some ⟨g, 0, none⟩ ∧ wa.heap.size ≤ g ∧ OwnB 2 w1 g xs := by
    rcases hr5 with ⟨_, h⟩ | h
    · exact absurd HM.out (by rw [h]; simp; omega)
    · exact h
  have HKL := hide (HK0.out.later hb1)
  have HB1 := hide (HB0.out.trans (hb1.mono HB0.out.size))
  have HOW := hide hown
  have hgw : w.heap.size < g := by have := HSZ.out; omega
  clear hb1 ho5 hown
  have hkl := HK0.out.lt
  have HK1_ : Hid (Blk w1 w.heap.size 29 [.slice (some ⟨bA, oA, none⟩) n c, .slice (some ⟨bB, oB, none⟩) n d]) := hide (HKL.out)
  have kf := HK1_.out.cell 0 _ rfl
  have ff0 := (HB1.out.cell (p := ⟨bt, ot + K, none⟩) hbt).trans EX.out
  have ff1 := (HB1.out.cell (p := ⟨bt, ot + K1, none⟩) hbt).trans EY.out
  have ff2 := (HB1.out.cell (p := ⟨bA, oA + x, none⟩) l1).trans J1.out
  have ff3 := (HB1.out.cell (p := ⟨bx, ox + y, none⟩) l3).trans J3.out
  have fg := HOW.out.cell (i := K) (by simp [HM.out]; omega)
  have fz := HOW.out.frozen K
  obtain ⟨old1, hold⟩ : ∃ o, List.getD xs K 0 = o := ⟨_, rfl⟩
  rw [hold] at fg
  clear hold
  go_wp2_with fail
  go_still_tail 17, (by kernel_rfl)
  change wpList _ _ _ _ _ w1.drew
  go_upto_region 3 with fail
  refine wp_gen fun w2 hw2 => ?_
  have HOW2 : Hid (OwnB 2 w2 g (xs.set K u)) := hide (by rw [hw2]; exact HOW.out.set K u (by simp [HM.out]; omega))
  have HB2 : Hid (Below w.heap.size w w2) := hide (by rw [hw2]; first | exact (HB1.out.setCell (p := ⟨g, K, none⟩) (by show w.heap.size ≤ g; omega) (.int .i64 u)).drew | exact HB1.out.setCell (p := ⟨g, K, none⟩) (by show w.heap.size ≤ g; omega) (.int .i64 u))
  have HK2_ : Hid (Blk w2 w.heap.size 29 [.slice (some ⟨bA, oA, none⟩) n c, .slice (some ⟨bB, oB, none⟩) n d]) := hide (by rw [hw2]; exact HK1_.out.far (p := ⟨g, K, none⟩) (by show w.heap.size ≠ g; omega) (.int .i64 u))
  clear hw2 kf fg fz ff0 ff1 ff2 ff3
  have kf := HK2_.out.cell 1 _ rfl
  have ff0 := (HB2.out.cell (p := ⟨bt, ot + K, none⟩) hbt).trans EX.out
  have ff1 := (HB2.out.cell (p := ⟨bt, ot + K1, none⟩) hbt).trans EY.out
  have ff2 := (HB2.out.cell (p := ⟨bB, oB + x, none⟩) l2).trans J2.out
  have ff3 := (HB2.out.cell (p := ⟨bY, oy + y, none⟩) l4).trans J4.out
  have fg := HOW2.out.cell (i := K1) (by simp [HM.out]; omega)
  have fz := HOW2.out.frozen K1
  obtain ⟨old2, hold⟩ : ∃ o, List.getD (xs.set K u) K1 0 = o := ⟨_, rfl⟩
  rw [hold] at fg
  clear hold
  go_wp2_with fail
  go_still_tail 18, (by kernel_rfl)
  change wpList _ _ _ _ _ w2.drew
  go_upto_region 4 with fail
  refine wp_gen fun w3 hw3 => ?_
  have HOW3 : Hid (OwnB 2 w3 g ((xs.set K u).set K1 v)) := hide (by rw [hw3]; exact HOW2.out.set K1 v (by simp [HM.out]; omega))
  have HB3 : Hid (Below w.heap.size w w3) := hide (by rw [hw3]; first | exact (HB2.out.setCell (p := ⟨g, K1, none⟩) (by show w.heap.size ≤ g; omega) (.int .i64 v)).drew | exact HB2.out.setCell (p := ⟨g, K1, none⟩) (by show w.heap.size ≤ g; omega) (.int .i64 v))
  have HK3_ : Hid (Blk w3 w.heap.size 29 [.slice (some ⟨bA, oA, none⟩) n c, .slice (some ⟨bB, oB, none⟩) n d]) := hide (by rw [hw3]; exact HK2_.out.far (p := ⟨g, K1, none⟩) (by show w.heap.size ≠ g; omega) (.int .i64 v))
  clear hw3 kf fg fz ff0 ff1 ff2 ff3
  go_wp2_with fail
  go_ret
  exact ⟨_, _, rfl, HB3.out, .inr ⟨g, rfl, by omega, HOW3.out⟩⟩
end Go.Proofs.Ytiaebilcgmahlaa
namespace Go.Proofs.Ytiaebilcgmahlaa
open Go Go.RowKit
/-! Words of a solution. -/
/-- A word of elements of a set of n. -/
def Wrd (n : Nat) (xs : List Int) : Prop := xs.length ≤ 8 ∧ ∀ j, j < xs.length → 0 ≤ xs.getD j 0 ∧ xs.getD j 0 < (n : Int)
theorem Wrd.tup {n : Nat} {xs : List Int} (h : Wrd n xs) : Tup n xs := ⟨by have := h.1; omega, h.2⟩
theorem Wrd.nil (n : Nat) : Wrd n [] := ⟨by simp, fun j hj => by simp at hj⟩
/-- All of some lists are words. -/
def Wrds (n : Nat) (rows : List (List Int)) : Prop := ∀ i, i < rows.length → Wrd n (rows.getD i [])
/-- What forbids something with words. -/
def WdC (f s : List (List Int)) (rows : List (List Int)) (code : Int) : Prop :=
  (SolF f s ∧ Wrds f.length rows ∧ code = 0) ∨ (SolF f s ∧ ¬ Wrds f.length rows ∧ code = 2) ∨ (¬ SolF f s ∧ code = 1)
theorem WdC.ex (f s : List (List Int)) (rows : List (List Int)) : ∃ code, WdC f s rows code := by
  by_cases h : SolF f s
  · by_cases h2 : Wrds f.length rows
    · exact ⟨_, .inl ⟨h, h2, rfl⟩⟩
    · exact ⟨_, .inr (.inl ⟨h, h2, rfl⟩)⟩
  · exact ⟨_, .inr (.inr ⟨h, rfl⟩)⟩
theorem WdC.zero {f s : List (List Int)} {rows : List (List Int)} {code : Int} (h : WdC f s rows code) (h0 : code = 0) : SolF f s ∧ Wrds f.length rows := by
  rcases h with ⟨a, b, _⟩ | ⟨_, _, c⟩ | ⟨_, c⟩
  · exact ⟨a, b⟩
  · omega
  · omega
theorem WdC.uniq {f s : List (List Int)} {rows : List (List Int)} {c c' : Int} (h : WdC f s rows c) (h' : WdC f s rows c') : c = c' := by
  rcases h with ⟨a, b, rfl⟩ | ⟨a, b, rfl⟩ | ⟨a, rfl⟩ <;> rcases h' with ⟨a', b', rfl⟩ | ⟨a', b', rfl⟩ | ⟨a', rfl⟩ <;> first | rfl | contradiction
theorem WdC.congr {f s : List (List Int)} {rows rows' : List (List Int)} {c : Int} (h : WdC f s rows c) (e : Wrds f.length rows ↔ Wrds f.length rows') : WdC f s rows' c := by
  rcases h with ⟨a, b, r⟩ | ⟨a, b, r⟩ | ⟨a, r⟩
  · exact .inl ⟨a, e.1 b, r⟩
  · exact .inr (.inl ⟨a, fun h => b (e.2 h), r⟩)
  · exact .inr (.inr ⟨a, r⟩)
theorem wrds1 {n : Nat} {xs : List Int} : Wrds n [xs] ↔ Wrd n xs := by
  constructor
  · intro h; exact h 0 (by simp)
  · intro h i hi
    have : i = 0 := by simpa using hi
    subst this; exact h
theorem wrds2 {n : Nat} {xs ys : List Int} : Wrds n [xs, ys] ↔ Wrd n xs ∧ Wrd n ys := by
  constructor
  · intro h; exact ⟨h 0 (by simp), h 1 (by simp)⟩
  · rintro ⟨h1, h2⟩ i hi
    rcases i with _ | _ | i
    · exact h1
    · exact h2
    · simp at hi; omega
/-- The tuples that are reached, in order, if there are at most M. -/
def OrbR (f s : List (List Int)) (xs : List Int) (M : Nat) (zs : List (List Int)) (code : Int) : Prop :=
  (Cls (leH f) (leH s) xs zs ∧ Asc zs ∧ zs.length ≤ M ∧ code = 0) ∨ (¬ FewT (leH f) (leH s) xs M ∧ zs = [] ∧ code = 3)
theorem Cls.sorted {h1 h2 : Nat → Nat → Int} {x : List Int} {L L' : List (List Int)} (h : Cls h1 h2 x L) (ha : Asc L') (hm : ∀ y, y ∈ L' ↔ y ∈ L) : Cls h1 h2 x L' := ⟨ha.nodup, fun y => (hm y).trans (h.2 y)⟩
theorem Cls.ascEq {h1 h2 : Nat → Nat → Int} {x : List Int} {L L' : List (List Int)} (h : Cls h1 h2 x L) (h' : Cls h1 h2 x L') (ha : Asc L) (ha' : Asc L') : L = L' := Asc.eq ha ha' (fun y => (h.2 y).trans (h'.2 y).symm)
theorem Cls.pos {h1 h2 : Nat → Nat → Int} {x : List Int} {L : List (List Int)} (h : Cls h1 h2 x L) : 0 < L.length := by
  have hm := (h.2 x).2 .refl
  cases L with
  | nil => simp at hm
  | cons a t => simp
theorem Cls.row {h1 h2 : Nat → Nat → Int} {x : List Int} {L : List (List Int)} (h : Cls h1 h2 x L) {i : Nat} (hi : i < L.length) : (L.getD i []).length = x.length := ((h.2 _).1 (tgetD_mem _ _ _ hi)).len
theorem OrbR.ex (f s : List (List Int)) (xs : List Int) (M : Nat) : ∃ zs code, OrbR f s xs M zs code := by
  by_cases h : FewT (leH f) (leH s) xs M
  · obtain ⟨L, hE, hl⟩ := h
    obtain ⟨L', ha, hl', hm⟩ := asc_ex L hE.1
    exact ⟨L', 0, .inl ⟨hE.sorted ha hm, ha, by omega, rfl⟩⟩
  · exact ⟨[], 3, .inr ⟨h, rfl, rfl⟩⟩
theorem OrbR.size {f s : List (List Int)} {xs : List Int} {M : Nat} {zs : List (List Int)} {code : Int} (hx : xs.length ≤ 12) (hM : M ≤ 5000) (h : OrbR f s xs M zs code) : zs.length ≤ 1048576 ∧ ∀ i, i < zs.length → (zs.getD i []).length ≤ 1048576 := by
  rcases h with ⟨hE, _, hl, _⟩ | ⟨_, rfl, _⟩
  · exact ⟨by omega, fun i hi => by rw [hE.row hi]; omega⟩
  · exact ⟨by simp, by simp⟩
/-- What the class of a word is told. -/
def CowR (f s : List (List Int)) (xs : List Int) (zs : List (List Int)) (code : Int) : Prop := (WdC f s [xs] 0 ∧ OrbR f s xs 1000 zs code) ∨ (WdC f s [xs] code ∧ code ≠ 0 ∧ zs = [])
theorem CowR.ex (f s : List (List Int)) (xs : List Int) : ∃ zs code, CowR f s xs zs code ∧ zs.length ≤ 1048576 ∧ ∀ i, i < zs.length → (zs.getD i []).length ≤ 1048576 := by
  obtain ⟨c, hc⟩ := WdC.ex f s [xs]
  by_cases h0 : c = 0
  · subst h0
    obtain ⟨zs, code, h⟩ := OrbR.ex f s xs 1000
    have hw := (wrds1.1 (hc.zero rfl).2).1
    exact ⟨zs, code, .inl ⟨hc, h⟩, OrbR.size (by omega) (by omega) h⟩
  · exact ⟨[], c, .inr ⟨hc, h0, rfl⟩, by simp, by simp⟩
/-- What the orbit of a tuple is told. -/
def TorR (f s : List (List Int)) (xs : List Int) (zs : List (List Int)) (code : Int) : Prop := (SolF f s ∧ Tup f.length xs ∧ OrbR f s xs 5000 zs code) ∨ (SolF f s ∧ ¬ Tup f.length xs ∧ zs = [] ∧ code = 2) ∨ (¬ SolF f s ∧ zs = [] ∧ code = 1)
theorem TorR.ex (f s : List (List Int)) (xs : List Int) : ∃ zs code, TorR f s xs zs code ∧ zs.length ≤ 1048576 ∧ ∀ i, i < zs.length → (zs.getD i []).length ≤ 1048576 := by
  by_cases h : SolF f s
  · by_cases h2 : Tup f.length xs
    · obtain ⟨zs, code, h3⟩ := OrbR.ex f s xs 5000
      exact ⟨zs, code, .inl ⟨h, h2, h3⟩, OrbR.size h2.1 (by omega) h3⟩
    · exact ⟨_, _, .inr (.inl ⟨h, h2, rfl, rfl⟩), by simp, by simp⟩
  · exact ⟨_, _, .inr (.inr ⟨h, rfl, rfl⟩), by simp, by simp⟩
end Go.Proofs.Ytiaebilcgmahlaa
namespace Go.Proofs.Ytiaebilcgmahlaa
open Go Go.RowKit Go.ChangeShapes Go.WideShapes
open Go.WideElems (Fit rg rd rd_key rg_of rd_val)
open Classical
set_option maxRecDepth 100000
/-! Tuples as keys of a map. -/
/-- A tuple with zeros behind it, as a value. -/
def tkey (xs : List Int) : Value := .agg (ints (pad12 xs)).toArray
theorem ints_inj : ∀ {xs ys : List Int}, ints xs = ints ys → xs = ys
  | [], [], _ => rfl
  | [], _ :: _, h => by simp [ints] at h
  | _ :: _, [], h => by simp [ints] at h
  | x :: xs, y :: ys, h => by
    simp only [ints, List.map_cons, List.cons.injEq] at h
    injection h.1 with _ h1
    rw [h1, ints_inj (xs := xs) (ys := ys) h.2]
theorem tkey_inj {xs ys : List Int} (hl : xs.length = ys.length) (h : tkey xs = tkey ys) : xs = ys := by
  unfold tkey at h
  injection h with h
  have h1 : ints (pad12 xs) = ints (pad12 ys) := by
    have h2 := congrArg Array.toList h
    simpa using h2
  have h2 := ints_inj h1
  unfold pad12 at h2
  exact (List.append_inj h2 hl).1
theorem tk_laid : laidOutB Try.prog = true := by kernel_rfl
theorem tk_row : (65 : TypeId) < Try.prog.types.size := of_decide_eq_true (by kernel_rfl)
theorem tk_deep : Try.prog.keyTypeAt (Try.prog.types.size + 1) 65 = true := by kernel_rfl
theorem tk_wide : (match Try.prog.underlying 65 with | some (.array _ _) | some (.struct _) => true | _ => false) = true := by rw [Try.underlying65]
theorem tk_law : WideMaps.KeyLaw Try.prog 65 := deep_law_laid tk_laid (m := 2) (by omega) tk_row (by kernel_rfl) tk_wide
theorem tk_keyed : Maps.Keyed Try.prog 65 := Maps.Keyed.of_law tk_law
theorem tk_cells : Try.prog.cellsOf 65 = 12 := by kernel_rfl
theorem tk_cellsI : Try.prog.cellsOf 2 = 1 := by kernel_rfl
theorem tk_size : ∃ m, Try.prog.types.size = m + 1 := by
  have h := tk_row
  cases hs : Try.prog.types.size with
  | zero => rw [hs] at h; exact absurd h (Nat.not_lt_zero _)
  | succ m => exact ⟨m, rfl⟩
theorem tmapM_some {α β : Type} {f : α → Option β} : ∀ {l : List α}, (∀ a ∈ l, ∃ b, f a = some b) → ∃ bs, l.mapM f = some bs
  | [], _ => ⟨[], rfl⟩
  | a :: l, h => by
    obtain ⟨b, hb⟩ := h a (by simp)
    obtain ⟨bs, hbs⟩ := tmapM_some (l := l) fun a ha => h a (by simp [ha])
    exact ⟨b :: bs, by simp [List.mapM_cons, hb, hbs]⟩
/-- Small numbers. -/
def Sm (xs : List Int) : Prop := xs.length ≤ 12 ∧ ∀ v ∈ xs, -4611686018427387904 ≤ v ∧ v < 4611686018427387904
theorem Tup.sm {n : Nat} {xs : List Int} (h : Tup n xs) (hn : n ≤ 12) : Sm xs := ⟨h.1, fun v hv => by have := h.mem v hv; omega⟩
theorem tkey_ex {xs : List Int} (h : Sm xs) : ∃ kl, keyOf Try.prog 65 (tkey xs) = some kl := by
  have hl := pad12_length h.1
  have hf : (tkey xs).formed Try.prog 65 = true := by simp [tkey, Value.formed, Try.underlying65, tk_cells, ints_length, hl]
  have hk : Try.prog.keyType 65 = true := tk_deep
  obtain ⟨m, hm⟩ := tk_size
  have hcs : (tkey xs).cells.toList = ints (pad12 xs) := by simp [tkey, Value.cells]
  have hlits : ∃ ls, Try.prog.keyLits (Try.prog.types.size + 1) 65 (tkey xs).cells.toList = some ls := by
    rw [hcs]
    unfold Program.keyLits
    rw [Try.underlying65]
    obtain ⟨bs, hbs⟩ := tmapM_some (f := fun i => Try.prog.keyLits Try.prog.types.size 2 (((ints (pad12 xs)).drop (i * Try.prog.cellsOf 2)).take (Try.prog.cellsOf 2))) (l := List.range 12) (fun i hi => by
      have hi := List.mem_range.1 hi
      rw [tk_cellsI, Nat.mul_one]
      have hil : i < (pad12 xs).length := by omega
      have e : ((ints (pad12 xs)).drop i).take 1 = [.int .i64 ((pad12 xs)[i])] := by
        rw [List.drop_eq_getElem_cons (by rw [ints_length]; exact hil)]
        simp [ints]
      rw [e, hm]
      unfold Program.keyLits
      rw [Try.underlying2]
      have hw : (Lit.int .i64 ((pad12 xs)[i])).wf = true := by
        have hv : -4611686018427387904 ≤ (pad12 xs)[i] ∧ (pad12 xs)[i] < 4611686018427387904 := by
          have hmem : (pad12 xs)[i] ∈ pad12 xs := List.getElem_mem hil
          rcases List.mem_append.1 (show (pad12 xs)[i] ∈ xs ++ List.replicate (12 - xs.length) 0 from hmem) with h9 | h9
          · exact h.2 _ h9
          · rw [(List.mem_replicate.1 h9).2]; omega
        exact WalkArith.wf_i64 (by omega)
      exact ⟨[.int .i64 ((pad12 xs)[i])], if_pos ⟨rfl, hw⟩⟩)
    refine ⟨bs.flatten, ?_⟩
    show (if (ints (pad12 xs)).length = Try.prog.cellsOf 65 then _ else none) = some bs.flatten
    rw [if_pos (by rw [tk_cells, ints_length, hl]), hbs]
    rfl
  obtain ⟨ls, hls⟩ := hlits
  unfold keyOf
  rw [Try.underlying65]
  refine ⟨.string (keyBytes ls), ?_⟩
  show (if Try.prog.keyType 65 && (tkey xs).formed Try.prog 65 then _ else none) = _
  rw [hk, hf, hls]
  rfl
/-- What a map of tuples that were met says. -/
noncomputable def metV (found : List (List Int)) : Value → Option Value := fun k => if ∃ p, p ∈ found ∧ k = tkey p then some (.bool true) else none
theorem metV_at {m : Nat} {found : List (List Int)} {q : List Int} (hf : ∀ p, p ∈ found → p.length = m) (hq : q.length = m) : (metV found (tkey q)).getD (.bool false) = .bool (decide (q ∈ found)) := by
  unfold metV
  by_cases h : q ∈ found
  · rw [if_pos ⟨q, h, rfl⟩]; simp [h]
  · rw [if_neg]
    · simp [h]
    · rintro ⟨p, hp, e⟩
      exact h (tkey_inj (hq.trans (hf p hp).symm) e ▸ hp)
theorem metV_none {m : Nat} {found : List (List Int)} {q : List Int} (hf : ∀ p, p ∈ found → p.length = m) (hq : q.length = m) (h : q ∉ found) : metV found (tkey q) = none := by
  unfold metV
  rw [if_neg]
  rintro ⟨p, hp, e⟩
  exact h (tkey_inj (hq.trans (hf p hp).symm) e ▸ hp)
theorem metV_add (found : List (List Int)) (q : List Int) (k : Value) : (if k = tkey q then some (.bool true) else metV found k) = metV (found ++ [q]) k := by
  unfold metV
  by_cases h : k = tkey q
  · rw [if_pos h, if_pos ⟨q, by simp, h⟩]
  · rw [if_neg h]
    by_cases h2 : ∃ p, p ∈ found ∧ k = tkey p
    · rw [if_pos h2]
      obtain ⟨p, hp, e⟩ := h2
      rw [if_pos ⟨p, by simp [hp], e⟩]
    · rw [if_neg h2, if_neg]
      rintro ⟨p, hp, e⟩
      rcases List.mem_append.1 hp with hp | hp
      · exact h2 ⟨p, hp, e⟩
      · simp at hp; subst hp; exact h e
theorem metV_nil : (fun _ => none : Value → Option Value) = metV [] := by
  funext k
  unfold metV
  rw [if_neg]
  rintro ⟨p, hp, _⟩
  cases hp
theorem MapN.congr {K : TypeId} {w : World} {b n : Nat} {V V' : Value → Option Value} (h : MapN K w b n V) (e : ∀ k, V k = V' k) : MapN K w b n V' := by
  have e2 : V = V' := funext e
  rw [← e2]; exact h
/-- How many entries a map has. -/
def mLen (w : World) (b : Nat) : Nat := match w.heap[b]? with | some (.map es _) => es.size | _ => 0
theorem MapN.len {K : TypeId} {w : World} {b n : Nat} {V : Value → Option Value} (h : MapN K w b n V) : mLen w b = n := by
  obtain ⟨es, clock, hb, hs⟩ := h.raw
  unfold mLen
  rw [hb]
  exact hs
/-- Block b is the map of the tuples that were met, each once. -/
def MetN (w : World) (b : Nat) (found : List (List Int)) : Prop := MapN 65 w b found.length (metV found)
/-- What a map of tuples reads as. -/
def MetD (D : DataW Value) (found : List (List Int)) : Prop := ∀ key kl, keyOf Try.prog 65 key = some kl → D.atKey kl .nil = (match metV found key with | some v => .held v | none => .nil)
/-- Block r goes over the tuples of the map b; those that it has given are got. -/
def MetR (w : World) (b r : Nat) (found got : List (List Int)) (cnt : Nat) : Prop :=
  ∃ (D : DataW Value) (left : Lit → Bool), w.ranges Try.prog 65 tokK b r found.length D left cnt ∧ MetD D found ∧ got.Nodup ∧ (∀ y, y ∈ got → y ∈ found) ∧
    (∀ y kl, y ∈ found → y ∉ got → keyOf Try.prog 65 (tkey y) = some kl → left kl = true) ∧ (∀ y kl, y ∈ got → keyOf Try.prog 65 (tkey y) = some kl → left kl = false)
section
variable {w w' : World} {b r m cnt : Nat} {found got : List (List Int)}
theorem MetN.owns (h : MetN w b found) : ∃ D, w.ownsMap Try.prog 65 tokK b found.length D ∧ MetD D found := by
  obtain ⟨es, clock, hb, F, hs, hV⟩ := h
  exact ⟨_, ⟨es, clock, hb, F, by omega, rfl⟩, hV⟩
theorem MetD.has {D : DataW Value} (h : MetD D found) {y : List Int} {kl : Lit} (hy : y ∈ found) (hk : keyOf Try.prog 65 (tkey y) = some kl) : Maps.has D kl = true := by
  have h9 := h _ _ hk
  have e : metV found (tkey y) = some (.bool true) := by unfold metV; rw [if_pos ⟨y, hy, rfl⟩]
  rw [e] at h9
  cases hh : Maps.has D kl with
  | true => rfl
  | false =>
    rw [Maps.atKey_of_not_has hh] at h9
    cases h9
theorem MetN.range {t e : TypeId} (h : MetN w b found) (ht : Try.prog.underlying t = some (.map 65 e)) :
    ∃ w' cnt, (Instr.range t (.map (some b))).run Try.prog w = .ok (.pointer (some ⟨w.heap.size, 0, none⟩)) w' ∧ MetR w' b w.heap.size found [] cnt ∧ w.grownBy w' none ∧ w'.heap.size = w.heap.size + 1 := by
  obtain ⟨D, hown, hD⟩ := h.owns
  obtain ⟨w', hrun, hrg, hg, hs⟩ := hown.range tk_keyed ht
  exact ⟨w', _, hrun, ⟨D, _, hrg, hD, List.nodup_nil, fun y hy => absurd hy List.not_mem_nil, fun y kl hy _ hk => hD.has hy hk, fun y kl hy => absurd hy List.not_mem_nil⟩, hg, hs⟩
theorem MetR.of_blocks (h : MetR w b r found got cnt) (eb : w'.heap[b]? = w.heap[b]?) (er : w'.heap[r]? = w.heap[r]?) : MetR w' b r found got cnt := by
  obtain ⟨D, left, ⟨es, clock, since, seen, c0, hb, F, hs, hD, hr, rest⟩, h2⟩ := h
  exact ⟨D, left, ⟨es, clock, since, seen, c0, eb.trans hb, F, hs, hD, er.trans hr, rest⟩, h2⟩
theorem MetR.ltb (h : MetR w b r found got cnt) : b < w.heap.size := by
  obtain ⟨D, left, hr, _⟩ := h
  exact hr.owns.lt
theorem MetR.ltr (h : MetR w b r found got cnt) : r < w.heap.size := by
  obtain ⟨D, left, hr, _⟩ := h
  exact hr.lt
theorem MetR.later (h : MetR w b r found got cnt) (hb : Below w.heap.size w w') : MetR w' b r found got cnt := h.of_blocks (hb.block b h.ltb) (hb.block r h.ltr)
theorem MetR.left_eq (h : MetR w b r found got cnt) : w.rangeLeft b r = cnt := by
  obtain ⟨D, left, hr, _⟩ := h
  exact hr.left_eq
theorem MetR.mono {got' : List (List Int)} (h : MetR w b r found got cnt) (e : got = got') : MetR w b r found got' cnt := e ▸ h
/-- The step: nothing is left, or one that was not met yet. -/
theorem MetR.next (h : MetR w b r found got cnt) (hm : ∀ p, p ∈ found → p.length = m) (hsm : ∀ p, p ∈ found → Sm p) (ty : TypeId) :
    ((∀ y, y ∈ found ↔ y ∈ got) ∧ (Instr.next (.pointer (some ⟨r, 0, none⟩)) false ty).run Try.prog w = .ok (.tuple #[.bool false]) w) ∨
    ∃ p v w' cnt', p ∈ found ∧ p ∉ got ∧ (Instr.next (.pointer (some ⟨r, 0, none⟩)) false ty).run Try.prog w = .ok (.tuple #[.bool true, tkey p, v]) w' ∧ MetR w' b r found (got ++ [p]) cnt' ∧ cnt' < cnt ∧ w.grownBy w' (some r) ∧ w'.heap.size = w.heap.size ∧ (Instr.entry (.pointer (some ⟨r, 0, none⟩))).run Try.prog w' = .ok (.tuple #[tkey p, v]) w' := by
  obtain ⟨D, left, hr, hD, hn, hs, h1, h2⟩ := h
  rcases hr.next tk_keyed ty with ⟨_, hl, hrun⟩ | ⟨key, v, kl, y, w', cnt', hkey, hlk, hv, hat, hrun, hrg, hlt, hgr, hsz, hen⟩
  · refine .inl ⟨fun y => ⟨fun hy => ?_, hs y⟩, hrun⟩
    refine Classical.byContradiction fun hno => ?_
    obtain ⟨kl, hk⟩ := tkey_ex (hsm y hy)
    have h9 := h1 y kl hy hno hk
    rw [hl kl] at h9
    cases h9
  · have h9 := hD key kl hkey
    rw [hat .nil] at h9
    have hy : y = (.held v, []) := by unfold tokK at hv; injection hv with hv; exact hv.symm
    rw [hy] at h9
    obtain ⟨p, hp, rfl⟩ : ∃ p, p ∈ found ∧ key = tkey p := by
      cases e : metV found key with
      | none => rw [e] at h9; cases h9
      | some u =>
        unfold metV at e
        by_cases hex : ∃ p, p ∈ found ∧ key = tkey p
        · exact hex
        · rw [if_neg hex] at e; cases e
    have hpg : p ∉ got := fun hg => by have h8 := h2 p kl hg hkey; rw [hlk] at h8; cases h8
    refine .inr ⟨p, v, w', cnt', hp, hpg, hrun, ⟨D, _, hrg, hD, List.nodup_append.2 ⟨hn, by simp, fun a ha c hc e => by simp at hc; subst hc; subst e; exact hpg ha⟩, fun z hz => ?_, fun z kz hz hzn hk => ?_, fun z kz hz hk => ?_⟩, hlt, hgr, hsz, hen⟩
    · rcases List.mem_append.1 hz with hz | hz
      · exact hs z hz
      · simp at hz; subst hz; exact hp
    · have hz1 : z ∉ got := fun e => hzn (List.mem_append.2 (.inl e))
      have hz2 : z ≠ p := fun e => hzn (List.mem_append.2 (.inr (by simp [e])))
      have h8 := h1 z kz hz hz1 hk
      have hne : kz.sameKey kl = false := by
        cases hc : kz.sameKey kl with
        | false => rfl
        | true =>
          have e := WideAt.sameKey_eq hc
          rw [e] at hk
          exact absurd (tkey_inj ((hm z hz).trans (hm p hp).symm) (tk_keyed.inj hk hkey)) hz2
      simp [h8, hne]
    · rcases List.mem_append.1 hz with hz | hz
      · simp [h2 z kz hz hk]
      · simp at hz
        subst hz
        rw [hkey] at hk
        injection hk with hk
        subst hk
        simp [WideAt.sameKey_self (tk_keyed.key hkey)]
end
end Go.Proofs.Ytiaebilcgmahlaa
namespace Go.Proofs.Ytiaebilcgmahlaa
open Go Go.RowKit
open Classical
set_option maxHeartbeats 1000000
/-! Quotients of words. -/
/-- The rests behind u of the words of a list that begin with u. -/
def restL (u : List Int) : List (List Int) → List (List Int)
  | [] => []
  | p :: l => if p.take u.length = u then p.drop u.length :: restL u l else restL u l
theorem restL_mem (u : List Int) : ∀ (l : List (List Int)) (r : List Int), r ∈ restL u l ↔ u ++ r ∈ l
  | [], r => by simp [restL]
  | p :: l, r => by
    unfold restL
    by_cases h : p.take u.length = u
    · rw [if_pos h, List.mem_cons, restL_mem u l r, List.mem_cons]
      have e : r = p.drop u.length ↔ u ++ r = p := by
        constructor
        · intro e; subst e
          have h2 := List.take_append_drop u.length p
          rw [h] at h2; exact h2
        · intro e; subst e; simp
      rw [e]
    · rw [if_neg h, restL_mem u l r, List.mem_cons]
      constructor
      · exact .inr
      · rintro (e | e)
        · exact absurd (by rw [← e]; simp) h
        · exact e
theorem restL_nodup (u : List Int) : ∀ (l : List (List Int)), l.Nodup → (restL u l).Nodup
  | [], _ => by simp [restL]
  | p :: l, hn => by
    rw [List.nodup_cons] at hn
    unfold restL
    by_cases h : p.take u.length = u
    · rw [if_pos h, List.nodup_cons]
      refine ⟨fun hm => hn.1 ?_, restL_nodup u l hn.2⟩
      rw [restL_mem] at hm
      have h2 := List.take_append_drop u.length p
      rw [h] at h2
      rw [h2] at hm; exact hm
    · rw [if_neg h]; exact restL_nodup u l hn.2
theorem restL_len (u : List Int) : ∀ (l : List (List Int)), (restL u l).length ≤ l.length
  | [] => by simp [restL]
  | p :: l => by
    have := restL_len u l
    unfold restL
    split <;> simp <;> omega
theorem restL_app (u : List Int) : ∀ (l : List (List Int)) (p : List Int), restL u (l ++ [p]) = restL u l ++ (if p.take u.length = u then [p.drop u.length] else [])
  | [], p => by
    simp only [List.nil_append, restL]
  | q :: l, p => by
    have ih := restL_app u l p
    simp only [List.cons_append, restL]
    split
    · rw [ih]; simp
    · exact ih
section
variable {h1 h2 : Nat → Nat → Int}
/-- Moves behind a begin. -/
theorem mv_behind (u : List Int) (r : List Int) (k : Nat) : mvL h1 h2 (u ++ r) (u.length + k) = u ++ mvL h1 h2 r k := by
  have e1 : elN (u ++ r) (u.length + k) = elN r k := by unfold elN; simp only [List.getD_eq_getElem?_getD]; rw [List.getElem?_append_right (by omega), Nat.add_sub_cancel_left]
  have e2 : elN (u ++ r) (u.length + k + 1) = elN r (k + 1) := by unfold elN; simp only [List.getD_eq_getElem?_getD]; rw [Nat.add_assoc, List.getElem?_append_right (by omega), Nat.add_sub_cancel_left]
  unfold mvL
  rw [e1, e2]
  rw [List.set_append_right _ _ (by omega), List.set_append_right _ _ (by omega)]
  congr 3 <;> omega
theorem Tch.behind (u : List Int) {r r' : List Int} (h : Tch h1 h2 r r') : Tch h1 h2 (u ++ r) (u ++ r') := by
  induction h with
  | refl => exact .refl
  | @step y j _ hk ih =>
    have h9 := Tch.step ih (k := u.length + j) (by simp; omega)
    rw [mv_behind] at h9
    exact h9
/-- The rests of a word in order. -/
def Rests (h1 h2 : Nat → Nat → Int) (u w : List Int) (L : List (List Int)) : Prop := Asc L ∧ ∀ r, r ∈ L ↔ Tch h1 h2 w (u ++ r)
end
/-- What the quotient of words is told. -/
def QtR (f s : List (List Int)) (u x : List Int) (zs : List Int) (code : Int) : Prop :=
  (WdC f s [u, x] code ∧ code ≠ 0 ∧ zs = []) ∨ (WdC f s [u, x] 0 ∧ ¬ (FewT (leH f) (leH s) u 1000 ∧ FewT (leH f) (leH s) x 1000) ∧ zs = [] ∧ code = 3) ∨
  (WdC f s [u, x] 0 ∧ FewT (leH f) (leH s) u 1000 ∧ FewT (leH f) (leH s) x 1000 ∧ ∃ L, Rests (leH f) (leH s) u x L ∧ ((L = [] ∧ zs = [] ∧ code = 4) ∨ (0 < L.length ∧ zs = L.getD 0 [] ∧ code = 0)))
/-- What the question whether a word divides another one is told. -/
def DvR (f s : List (List Int)) (u x : List Int) (v : Bool) (code : Int) : Prop := ∃ zs qc, QtR f s u x zs qc ∧ zs.length ≤ 1048576 ∧ ((qc = 4 ∧ v = false ∧ code = 0) ∨ (qc ≠ 4 ∧ (v = true ↔ qc = 0) ∧ code = qc))
end Go.Proofs.Ytiaebilcgmahlaa
namespace Go.Proofs.Ytiaebilcgmahlaa
open Go Go.RowKit
open Classical
set_option maxHeartbeats 4000000
set_option maxRecDepth 100000 in
theorem wordS_any (n : Nat) (A : Option Addr) (m c : Nat) (xs : List Int) (r : Bool) (w : World) (h1 : 1 ≤ n) (h12 : n ≤ 12) (hm : xs.length = m) (hb : m ≤ 1048576) (hr : Rd w A xs) (hrr : r = true ↔ Wrd n xs) :
    Calls Try.prog 104 #[.int .i64 n, .slice A m c] w fun e w' => e = .returned (.bool r) ∧ Quiet w w' := by
  have HM := hide hm
  have HR := hide hr
  have HRR := hide hrr
  have hnw : IntKind.i64.wrap ((n : Int) - 1) = (n : Int) - 1 := IntWalk.i64_in _ (by omega)
  clear hm hr hrr
  go_enter Try.func104, Try.ntmps104
  go_wp2_with fail
  go_loopw [5] (fun i wr => ∃ j : Nat, j ≤ m ∧ i = .int .i64 j ∧ Quiet w wr ∧ ∀ i, i < j → 0 ≤ xs.getD i 0 ∧ xs.getD i 0 < (n : Int)) (fun i _ => m - (intOf i).toNat)
  case atStart => exact ⟨0, Nat.zero_le _, rfl, Quiet.refl _, fun i hi => absurd hi (Nat.not_lt_zero _)⟩
  case round =>
    obtain ⟨j, hj, rfl, hq, hin⟩ := hrel
    have HIN := hide hin
    have HQ := hide hq
    clear hin hq
    by_cases hlt : j < m
    · obtain ⟨b, o, rfl, _, hc⟩ := HQ.out.rd HR.out (by have := HM.out; omega)
      have hv := hc j (by have := HM.out; omega)
      obtain ⟨y, hy⟩ : ∃ y, y = xs.getD j 0 := ⟨_, rfl⟩
      rw [← hy] at hv
      have HY := hide hy
      clear hy hc
      have hjz : (j : Int) < m := by omega
      obtain ⟨r1, hr1⟩ : ∃ r1 : Bool, r1 = true ↔ 0 ≤ y ∧ y ≤ (n : Int) - 1 := bool_of _
      have HR1 := hide hr1
      clear hr1
      go_wp2_with fail
      refine (in_any y 0 ((n : Int) - 1) r1 _ HR1.out).mono ?_
      rintro e w2 ⟨rfl, hq2⟩
      have HQ2 := hide (HQ.out.trans hq2)
      clear hq2
      cases r1 with
      | true =>
        have h2 := HR1.out.1 rfl
        go_wp2_with fail
        go_roundw
        case rel =>
          refine ⟨j + 1, by omega, by go_num, HQ2.out, fun i hi => ?_⟩
          by_cases e : i = j
          · subst e; rw [← HY.out]; omega
          · exact HIN.out i (by omega)
        case measure => simp [intOf]; omega
      | false =>
        have hrf : r = false := by
          cases r with
          | false => rfl
          | true =>
            have h := (HRR.out.1 rfl).2 j (by rw [HM.out]; exact hlt)
            rw [← HY.out] at h
            exact absurd (HR1.out.2 ⟨h.1, by omega⟩) (by simp)
        subst hrf
        go_wp2_with fail
        go_ret
        exact ⟨rfl, HQ2.out⟩
    · have hjm : j = m := by omega
      subst hjm
      by_cases h8 : j ≤ 8
      · have h8z : decide ((j : Int) ≤ 8) = true := by simp; omega
        have hrt : r = true := HRR.out.2 ⟨by rw [HM.out]; exact h8, fun i hi => HIN.out i (by rw [← HM.out]; exact hi)⟩
        subst hrt
        go_wp2_with fail
        go_ret
        exact ⟨rfl, HQ.out⟩
      · have h8z : decide ((j : Int) ≤ 8) = false := by simp; omega
        have hrf : r = false := by
          cases r with
          | false => rfl
          | true => have h := (HRR.out.1 rfl).1; rw [HM.out] at h; omega
        subst hrf
        go_wp2_with fail
        go_ret
        exact ⟨rfl, HQ.out⟩
set_option maxRecDepth 100000 in
theorem codeS_any (A B C D : Option Addr) (n c k d m e m2 e2 : Nat) (f s : List (List Int)) (xs ys : List Int) (code : Int) (w : World) (hz : ZArg 1048576 w A n f B k s) (hm : xs.length = m) (hb : m ≤ 1048576) (hr : Rd w C xs) (hm2 : ys.length = m2) (hb2 : m2 ≤ 1048576) (hr2 : Rd w D ys) (hc : WdC f s [xs, ys] code) :
    Calls Try.prog 68 #[.agg #[.slice A n c, .slice B k d], .slice C m e, .slice D m2 e2] w fun e w' => e = .returned (.int .i64 code) ∧ Below w.heap.size w w' := by
  have HZ := hide hz
  have HM := hide hm
  have HR := hide hr
  have HM2 := hide hm2
  have HR2 := hide hr2
  have HC := hide hc
  have HB0 := hide ((Below.refl _ w).alloc (Nat.le_refl _) (Obj.cells #[Value.slice A n c, Value.slice B k d] 29))
  have HK0 := hide (Blk.new w 29 [.slice A n c, .slice B k d])
  by_cases hs : SolF f s
  · have HS := hide hs
    obtain rfl := (hz.same hs.1).symm
    have hn := hz.sz.fl
    have h12 := hz.small hs.1
    obtain ⟨r1, hr1⟩ : ∃ r1 : Bool, r1 = true ↔ Wrd n xs := bool_of _
    obtain ⟨r3, hr3⟩ : ∃ r3 : Bool, r3 = true ↔ Wrd n ys := bool_of _
    have HR1 := hide hr1
    have HR3 := hide hr3
    have hcode : code = if r1 = true ∧ r3 = true then 0 else 2 := by
      have e : Wrds f.length [xs, ys] ↔ r1 = true ∧ r3 = true := by rw [hn, wrds2, hr1, hr3]
      rcases hc with ⟨_, h, rfl⟩ | ⟨_, h, rfl⟩ | ⟨h, _⟩
      · rw [if_pos (e.1 h)]
      · rw [if_neg (fun h2 => h (e.2 h2))]
      · exact absurd hs h
    clear hz hm hr hm2 hr2 hc hs hr1 hr3 HC hn
    go_enter Try.func68, Try.ntmps68
    have k0 := HK0.out.cell 0 _ rfl
    have k1 := HK0.out.cell 1 _ rfl
    go_wp2_with fail
    clear k0 k1
    refine (isS_any _ _ _ f _ _ _ s true _ (HZ.out.later HB0.out) ⟨fun _ => HS.out, fun _ => rfl⟩).mono ?_
    rintro e w1 ⟨rfl, hb1⟩
    have HB1 := hide (HB0.out.trans (hb1.mono HB0.out.size))
    have HK1 := hide (HK0.out.later hb1)
    clear hb1
    have k0 := HK1.out.cell 0 _ rfl
    have k1 := HK1.out.cell 1 _ rfl
    go_wp2_with fail
    clear k0 k1
    refine (wordS_any n C m _ xs r1 _ h12.1 h12.2 HM.out hb (HR.out.later HB1.out) HR1.out).mono ?_
    rintro e w2 ⟨rfl, hq2⟩
    have HB2 := hide (HB1.out.trans ((hq2.below w1.heap.size).mono HB1.out.size))
    clear hq2
    cases r1 with
    | false =>
      have hc2 : code = 2 := by rw [hcode]; simp
      subst hc2
      go_wp2_with fail
      go_ret
      exact ⟨rfl, HB2.out⟩
    | true =>
      go_wp2_with fail
      refine (wordS_any n D m2 _ ys r3 _ h12.1 h12.2 HM2.out hb2 (HR2.out.later HB2.out) HR3.out).mono ?_
      rintro e w3 ⟨rfl, hq3⟩
      have HB3 := hide (HB2.out.trans ((hq3.below w2.heap.size).mono HB2.out.size))
      clear hq3
      cases r3 with
      | false =>
        have hc2 : code = 2 := by rw [hcode]; simp
        subst hc2
        go_wp2_with fail
        go_ret
        exact ⟨rfl, HB3.out⟩
      | true =>
        have hc2 : code = 0 := by rw [hcode]; simp
        clear hcode
        subst hc2
        go_wp2_with fail
        trace_state
        go_ret
        exact ⟨rfl, HB3.out⟩
  · have HS := hide hs
    have hc2 : code = 1 := by
      rcases hc with ⟨h, _⟩ | ⟨h, _⟩ | ⟨_, h⟩
      · exact absurd h hs
      · exact absurd h hs
      · exact h
    subst hc2
    clear hz hm hr hm2 hr2 hc hs HC
    go_enter Try.func68, Try.ntmps68
    have k0 := HK0.out.cell 0 _ rfl
    have k1 := HK0.out.cell 1 _ rfl
    go_wp2_with fail
    clear k0 k1
    refine (isS_any _ _ _ f _ _ _ s false _ (HZ.out.later HB0.out) ⟨fun h => absurd h (by simp), fun h => absurd h HS.out⟩).mono ?_
    rintro e w1 ⟨rfl, hb1⟩
    have HB1 := hide (HB0.out.trans (hb1.mono HB0.out.size))
    clear hb1
    go_wp2_with fail
    go_ret
    exact ⟨rfl, HB1.out⟩
end Go.Proofs.Ytiaebilcgmahlaa
