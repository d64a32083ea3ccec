import Derived.Test.YthnkhljgealjdaaDd
import Derived.Test.YthnkhljgealjdaaDi
import Derived.Test.YthnkhljgealjdaaDl
import Derived.Laws.CopyOwn
import Derived.Laws.CopyRow
import Derived.Deep.Cut
import Derived.Test.YthnkhljgealjdaaDf
import Derived.Test.YthnkhljgealjdaaDc
import Derived.Test.YthnkhljgealjdaaDa
import Derived.Test.YthnkhljgealjdaaDe
import Derived.StillTailTactics
import Derived.Test.YthnkhljgealjdaaProg
import Derived.Test.YthnkhljgealjdaaDb
import Derived.DeepKeys4
import Derived.WalkArith
import Derived.Maps.RangeWalk
import Derived.Test.YthnkhljgealjdaaDk
namespace Go.Proofs.Ythnkhljgealjdaa
open Go Go.RowKit
set_option maxHeartbeats 4000000
theorem copyInfo1 : (Try.prog.info? 2).map (·.size) = some 1 := by kernel_rfl
theorem wl_gen {P : Program} {ops : Array Oper} {Q : Exit → Act → World → Prop} {rest : List Oper} {a : Act} {w : World} (h : ∀ wf, wf = w → wpList P ops Q rest a wf) : wpList P ops Q rest a w := h w rfl
/-- A list with zeros behind it up to 12 numbers. -/
def pad12 (xs : List Int) : List Int := xs ++ List.replicate (12 - xs.length) 0
theorem pad12_length {xs : List Int} (h : xs.length ≤ 12) : (pad12 xs).length = 12 := by simp [pad12]; omega
theorem pad12_at {xs : List Int} {i : Nat} (h : i < xs.length) : (pad12 xs).getD i 0 = xs.getD i 0 := by
  simp only [pad12, List.getD_eq_getElem?_getD]
  rw [List.getElem?_append_left h]
theorem pad12_cells (xs : List Int) : (List.take 0 (ints (List.replicate 12 0)).toArray.toList ++ (ints xs ++ List.drop (0 + (ints xs).length) (ints (List.replicate 12 0)).toArray.toList)).toArray = (ints (pad12 xs)).toArray := by
  have e : ints (List.replicate 12 0) = List.replicate 12 (Value.int .i64 0) := by simp only [ints, List.map_replicate]
  have e2 : ints (pad12 xs) = ints xs ++ List.replicate (12 - xs.length) (Value.int .i64 0) := by simp only [pad12, ints, List.map_append, List.map_replicate]
  rw [e, e2]
  simp only [List.take_zero, List.nil_append, Nat.zero_add, List.drop_replicate, ints_length]

set_option maxRecDepth 100000 in
theorem tupleOf_any (A : Option Addr) (m c : Nat) (xs : List Int) (w : World) (hm : xs.length = m) (hb : m ≤ 12) (hr : Rd w A xs) :
    Calls Try.prog 22 #[.slice A m c] w fun e w' => e = .returned (.agg (ints (pad12 xs)).toArray) ∧ Below w.heap.size w w' := by
  have HM := hide hm
  have hpl := pad12_length (xs := xs) (by omega)
  have hcells := pad12_cells xs
  obtain ⟨ys, hy⟩ : ∃ ys, pad12 xs = ys := ⟨_, rfl⟩
  rw [hy] at hpl hcells ⊢
  have HY := hide hy
  obtain ⟨b0, b1, b2, b3, b4, b5, b6, b7, b8, b9, b10, b11, rfl⟩ := list12 hpl
  have HCE := hide hcells
  obtain ⟨cs, hcs⟩ : ∃ cs, ints xs = cs := ⟨_, rfl⟩
  have HCS := hide hcs
  have hcl : cs.length = m := by rw [← hcs, ints_length]; exact hm
  have HCL := hide hcl
  have h1c : ∀ v ∈ cs, v.oneCell' = true := by intro v hv; rw [← hcs] at hv; simp [ints] at hv; obtain ⟨_, _, rfl⟩ := hv; rfl
  have H1C := hide h1c
  clear hpl hcells hy hcl h1c
  show Calls Try.prog 22 #[.slice A m c] w fun e w' => e = .returned (.agg #[.int .i64 b0, .int .i64 b1, .int .i64 b2, .int .i64 b3, .int .i64 b4, .int .i64 b5, .int .i64 b6, .int .i64 b7, .int .i64 b8, .int .i64 b9, .int .i64 b10, .int .i64 b11]) ∧ Below w.heap.size w w'
  by_cases h0 : m = 0
  · subst h0
    have hx0 : xs = [] := List.length_eq_zero_iff.1 HM.out
    subst hx0
    have hz : [b0, b1, b2, b3, b4, b5, b6, b7, b8, b9, b10, b11] = List.replicate 12 0 := HY.out.symm
    injection hz with hz0 hz
    clear hr hm
    injection hz with hz1 hz
    injection hz with hz2 hz
    injection hz with hz3 hz
    injection hz with hz4 hz
    injection hz with hz5 hz
    injection hz with hz6 hz
    injection hz with hz7 hz
    injection hz with hz8 hz
    injection hz with hz9 hz
    injection hz with hz10 hz
    injection hz with hz11 hz
    subst hz0
    subst hz1
    subst hz2
    subst hz3
    subst hz4
    subst hz5
    subst hz6
    subst hz7
    subst hz8
    subst hz9
    subst hz10
    subst hz11
    go_enter Try.func22, Try.ntmps22
    go_upto_region 2 with fail
    refine wp_gen fun w2 hw2 => ?_
    have HB2 : Hid (Below w.heap.size w w2) := hide (by rw [hw2]; exact ((Below.refl _ _).alloc (Nat.le_refl _) _).alloc (by simp) _)
    have HR2 : Hid (Row 46 w2 w.heap.size (List.replicate 12 0)) := hide (by rw [hw2]; exact (row_zero 46 w).later ((Below.refl _ _).alloc (Nat.le_refl _) _) (by simp))
    have HT2 : Hid (Row 46 w2 (w.heap.size + 1) (List.replicate 12 0)) := hide (by rw [hw2]; have h := row_zero 46 (w.alloc (.cells #[Value.int IntKind.i64 0, Value.int IntKind.i64 0, Value.int IntKind.i64 0, Value.int IntKind.i64 0, Value.int IntKind.i64 0, Value.int IntKind.i64 0, Value.int IntKind.i64 0, Value.int IntKind.i64 0, Value.int IntKind.i64 0, Value.int IntKind.i64 0, Value.int IntKind.i64 0, Value.int IntKind.i64 0] 46)); have e : (w.alloc (Obj.cells #[Value.int IntKind.i64 0, Value.int IntKind.i64 0, Value.int IntKind.i64 0, Value.int IntKind.i64 0, Value.int IntKind.i64 0, Value.int IntKind.i64 0, Value.int IntKind.i64 0, Value.int IntKind.i64 0, Value.int IntKind.i64 0, Value.int IntKind.i64 0, Value.int IntKind.i64 0, Value.int IntKind.i64 0] 46)).heap.size = w.heap.size + 1 := (by simp); rw [e] at h; exact h)
    clear hw2
    obtain ⟨za0, zf0, za1, zf1, za2, zf2, za3, zf3, za4, zf4, za5, zf5, za6, zf6, za7, zf7, za8, zf8, za9, zf9, za10, zf10, za11, zf11⟩ := row12 (show Row 46 w2 (w.heap.size + 1) [0, 0, 0, 0, 0, 0, 0, 0, 0, 0, 0, 0] from HT2.out)
    obtain ⟨ya0, yf0, ya1, yf1, ya2, yf2, ya3, yf3, ya4, yf4, ya5, yf5, ya6, yf6, ya7, yf7, ya8, yf8, ya9, yf9, ya10, yf10, ya11, yf11⟩ := row12 (show Row 46 w2 w.heap.size [0, 0, 0, 0, 0, 0, 0, 0, 0, 0, 0, 0] from HR2.out)
    go_wp2_with (refine wpList_copy_nothing rfl _ _ _ _ rfl 2 Try.underlying25 copyInfo1 _ _ 12 12 0 c rfl rfl rfl ?_)
    refine bp_gen fun wf hwf => ?_
    have HRF : Row 46 wf (w.heap.size) [0, 0, 0, 0, 0, 0, 0, 0, 0, 0, 0, 0] := by rw [hwf]; exact row12_set (List.length_replicate ..) HR2.out _ _ _ _ _ _ _ _ _ _ _ _
    have HBF : Below w.heap.size w wf := by rw [hwf]; exact below12_set HB2.out (by omega) _ _ _ _ _ _ _ _ _ _ _ _
    obtain ⟨q0, _, q1, _, q2, _, q3, _, q4, _, q5, _, q6, _, q7, _, q8, _, q9, _, q10, _, q11, _⟩ := row12 HRF
    clear hwf
    exact bodyPost_ret (v := .agg #[.int .i64 0, .int .i64 0, .int .i64 0, .int .i64 0, .int .i64 0, .int .i64 0, .int .i64 0, .int .i64 0, .int .i64 0, .int .i64 0, .int .i64 0, .int .i64 0]) (by simp [results, Try.results22, go_sem, q0, q1, q2, q3, q4, q5, q6, q7, q8, q9, q10, q11]) rfl ⟨rfl, HBF⟩
  · obtain ⟨b, o, rfl, hbw, hc⟩ := hr (by omega)
    have HC : Hid (∀ i, i < m → w.cell? ⟨b, o + i, none⟩ = some (.int .i64 (xs.getD i 0))) := hide (by rw [← hm]; exact hc)
    clear hc hm
    go_enter Try.func22, Try.ntmps22
    go_upto_region 2 with fail
    refine wp_gen fun w2 hw2 => ?_
    have HB2 : Hid (Below w.heap.size w w2) := hide (by rw [hw2]; exact ((Below.refl _ _).alloc (Nat.le_refl _) _).alloc (by simp) _)
    have HR2 : Hid (Row 46 w2 w.heap.size (List.replicate 12 0)) := hide (by rw [hw2]; exact (row_zero 46 w).later ((Below.refl _ _).alloc (Nat.le_refl _) _) (by simp))
    have HT2 : Hid (Row 46 w2 (w.heap.size + 1) (List.replicate 12 0)) := hide (by rw [hw2]; have h := row_zero 46 (w.alloc (.cells #[Value.int IntKind.i64 0, Value.int IntKind.i64 0, Value.int IntKind.i64 0, Value.int IntKind.i64 0, Value.int IntKind.i64 0, Value.int IntKind.i64 0, Value.int IntKind.i64 0, Value.int IntKind.i64 0, Value.int IntKind.i64 0, Value.int IntKind.i64 0, Value.int IntKind.i64 0, Value.int IntKind.i64 0] 46)); have e : (w.alloc (Obj.cells #[Value.int IntKind.i64 0, Value.int IntKind.i64 0, Value.int IntKind.i64 0, Value.int IntKind.i64 0, Value.int IntKind.i64 0, Value.int IntKind.i64 0, Value.int IntKind.i64 0, Value.int IntKind.i64 0, Value.int IntKind.i64 0, Value.int IntKind.i64 0, Value.int IntKind.i64 0, Value.int IntKind.i64 0] 46)).heap.size = w.heap.size + 1 := (by simp); rw [e] at h; exact h)
    clear hw2
    have hsrc : ∀ j v, cs[j]? = some v → w2.cell? ((⟨b, o, none⟩ : Addr).add j) = some v := by
      intro j v hj
      have hl : j < m := by rw [← HCL.out]; exact (List.getElem?_eq_some_iff.1 hj).1
      have e : (⟨b, o, none⟩ : Addr).add j = ⟨b, o + j, none⟩ := by
        unfold Addr.add
        by_cases h : j = 0
        · subst h; simp
        · simp [h]
      rw [e, HB2.out.cell (p := ⟨b, o + j, none⟩) hbw, HC.out j hl, ← hj, ← HCS.out]
      simp [ints, HM.out, hl]
    have HSRC := hide hsrc
    have hg2 : w2.heap[w.heap.size + 1]? = some (.cells (ints (List.replicate 12 0)).toArray 46 (0, 0)) := HT2.out
    have HG2 := hide hg2
    have hmin : cs.length = Nat.min m 12 := by rw [HCL.out]; exact (Nat.min_eq_left hb).symm
    have hfit : 0 + cs.length ≤ (ints (List.replicate 12 0)).toArray.size := by rw [HCL.out]; simp [ints]; omega
    have HMIN := hide hmin
    have HFIT := hide hfit
    clear hsrc hg2 hmin hfit hcs
    go_upto_region 3 with (refine wpList_copy_own rfl _ _ _ _ rfl 2 Try.underlying25 copyInfo1 (w.heap.size + 1) 0 12 12 ⟨b, o, none⟩ m c rfl rfl (ints (List.replicate 12 0)).toArray 46 HG2.out cs HMIN.out HSRC.out HFIT.out H1C.out ?_; refine wl_gen fun w3 hw3 => ?_; have HW3 := hide hw3; clear hw3)
    have HR3 : Hid (Row 46 w3 (w.heap.size + 1) [b0, b1, b2, b3, b4, b5, b6, b7, b8, b9, b10, b11]) := hide (by
      have h := setRow_heap w2 (w.heap.size + 1) _ (List.take 0 (ints (List.replicate 12 0)).toArray.toList ++ (cs ++ List.drop (0 + cs.length) (ints (List.replicate 12 0)).toArray.toList)).toArray 46 (0, 0) HG2.out
      have e := HCE.out
      rw [HCS.out] at e
      rw [← HW3.out, e] at h
      exact h)
    have HZ3 : Hid (Row 46 w3 w.heap.size (List.replicate 12 0)) := hide (by rw [HW3.out]; exact (setRow_other w2 (w.heap.size + 1) w.heap.size _ (by omega)).trans HR2.out)
    have HB3 : Hid (Below w.heap.size w w3) := hide (by rw [HW3.out]; exact below_setRow HB2.out (by omega) _)
    clear HW3
    obtain ⟨ra0, rf0, ra1, rf1, ra2, rf2, ra3, rf3, ra4, rf4, ra5, rf5, ra6, rf6, ra7, rf7, ra8, rf8, ra9, rf9, ra10, rf10, ra11, rf11⟩ := row12 HR3.out
    obtain ⟨za0, zf0, za1, zf1, za2, zf2, za3, zf3, za4, zf4, za5, zf5, za6, zf6, za7, zf7, za8, zf8, za9, zf9, za10, zf10, za11, zf11⟩ := row12 (show Row 46 w3 w.heap.size [0, 0, 0, 0, 0, 0, 0, 0, 0, 0, 0, 0] from HZ3.out)
    go_wp2_with fail
    refine bp_gen fun wf hwf => ?_
    have HRF : Row 46 wf (w.heap.size) [b0, b1, b2, b3, b4, b5, b6, b7, b8, b9, b10, b11] := by rw [hwf]; exact row12_set (List.length_replicate ..) HZ3.out _ _ _ _ _ _ _ _ _ _ _ _
    have HBF : Below w.heap.size w wf := by rw [hwf]; exact below12_set HB3.out (by omega) _ _ _ _ _ _ _ _ _ _ _ _
    obtain ⟨q0, _, q1, _, q2, _, q3, _, q4, _, q5, _, q6, _, q7, _, q8, _, q9, _, q10, _, q11, _⟩ := row12 HRF
    clear hwf
    exact bodyPost_ret (v := .agg #[.int .i64 b0, .int .i64 b1, .int .i64 b2, .int .i64 b3, .int .i64 b4, .int .i64 b5, .int .i64 b6, .int .i64 b7, .int .i64 b8, .int .i64 b9, .int .i64 b10, .int .i64 b11]) (by simp [results, Try.results22, go_sem, q0, q1, q2, q3, q4, q5, q6, q7, q8, q9, q10, q11]) rfl ⟨rfl, HBF⟩
end Go.Proofs.Ythnkhljgealjdaa
namespace Go.Proofs.Ythnkhljgealjdaa
open Go Go.RowKit
section
variable {ts t : TypeId} {B g : Nat} {w w' : World} {v vq vs : Value} {rows queue srt : List (List Int)} {vals qvals svals nvals : List Value}
theorem own_chg {n : Nat} (h : w.ownsRow B ts 1 v n vals) (hc : Chg g w w') (hd : v.ownBlock ≠ some g) : w'.ownsRow B ts 1 v n vals := by
  refine ⟨h.1, ?_⟩
  rcases h.2 with h1 | ⟨g0, cap, cur, hv, hb, hh, rest⟩
  · exact .inl h1
  · refine .inr ⟨g0, cap, cur, hv, hb, ?_, rest⟩
    rw [hc.block g0 (Array.getElem?_eq_some_iff.1 hh).1 (fun e => hd (by rw [hv, ← e]; rfl))]
    exact hh
/-- A row is put into the sorted list. -/
theorem Qs.put {A : Option Addr} {c k n m cap g' cap' : Nat} {p : List Int} (hne : ts ≠ t) (h : Qs ts t B w vq (.slice (some ⟨g, 0, none⟩) m cap) queue srt qvals svals) (hc : Chg g w w') (hk : k ≤ srt.length) (hA : Obj1 t B w.heap.size w A p) (hg : g' = g ∨ w.heap.size ≤ g')
    (hn : n = (insL srt k p).length) (hown : w'.ownsRow B ts 1 (.slice (some ⟨g', 0, none⟩) n cap') n (svals.take k ++ .slice A p.length c :: svals.drop k)) : Qs ts t B w' vq (.slice (some ⟨g', 0, none⟩) n cap') queue (insL srt k p) qvals (svals.take k ++ .slice A p.length c :: svals.drop k) := by
  have hkt : KeepT t w w' := hc.keepT hne rfl h.s
  have hdq : vq.ownBlock ≠ some g := fun e => h.d g e rfl
  refine ⟨⟨own_chg h.q.own hc hdq, fun i hi => ?_, h.q.ne⟩, by rw [← hn]; exact hown, (h.r.kept hkt hc.size).ins hk ((hkt.obj hA).mono (Nat.le_refl _) hc.size), fun g0 hg0 e => ?_⟩
  · obtain ⟨A', c', h1, h2⟩ := h.q.row i hi
    exact ⟨A', c', h1, (hkt.obj h2).mono (Nat.le_refl _) hc.size⟩
  · simp [Value.ownBlock] at e
    subst e
    rcases hg with e | e
    · subst e; exact h.d _ hg0 rfl
    · have := (own_lt h.q.own hg0).2; omega
/-- Two lists of one row each. -/
theorem Qs.start2 {A A2 : Option Addr} {c c2 : Nat} {r : List Int} (hB : B ≤ w.heap.size) (hb : Below w.heap.size w w') (hs : g = w'.heap.size) (hq : LstV ts t B w' vq [r] [.slice A r.length c]) (hvq : ∀ g0, vq.ownBlock = some g0 → g0 < w'.heap.size) (hr2 : Obj1 t B w'.heap.size w' A2 r) :
    Qs ts t B (w'.alloc (.cells #[.slice A2 r.length c2] ts)) vq (.slice (some ⟨g, 0, none⟩) 1 1) [r] [r] [.slice A r.length c] [.slice A2 r.length c2] := by
  have h2 : Below w'.heap.size w' (w'.alloc (.cells #[.slice A2 r.length c2] ts)) := (Below.refl _ _).alloc (Nat.le_refl _) _
  subst hs
  refine ⟨hq.later h2, ⟨rfl, .inr ⟨w'.heap.size, 1, #[.slice A2 r.length c2], rfl, Nat.le_trans hB hb.size, heap_alloc_new _ _, Nat.le_refl _, by unfold maxLen; omega, by simp, by simp⟩⟩, ⟨rfl, fun i hi => ?_⟩, fun g0 hg0 e => ?_⟩
  · simp at hi
    subst hi
    exact ⟨A2, c2, rfl, (hr2.later h2).mono (Nat.le_refl _) h2.size⟩
  · simp [Value.ownBlock] at e
    have := hvq g0 hg0
    omega
end
end Go.Proofs.Ythnkhljgealjdaa
namespace Go.Proofs.Ythnkhljgealjdaa
open Go Go.RowKit
set_option maxHeartbeats 4000000

set_option maxRecDepth 100000 in
theorem doL_any (A : Option Addr) (n c : Nat) (f : List (List Int)) (B : Option Addr) (d : Nat) (s : List (List Int)) (C : Option Addr) (m e : Nat) (xs : List Int) (K : Nat) (w : World) (hz : ZArg 1048576 w A n f B n s) (hp : PMap f s) (hm : xs.length = m) (hr : Rd w C xs) (ht : Tup n xs) (hK : K + 1 < m) :
    Calls Try.prog 39 #[.agg #[.slice A n c, .slice B n d], .slice C m e, .int .i64 K] w fun e w' => ∃ A' c', e = .returned (.slice A' m c') ∧ Below w.heap.size w w' ∧ Res 2 w.heap.size w' A' (mvL (leH f) (leH s) xs K) := by
  have h12 := (hz.small hp).2
  have hm12 : m ≤ 12 := by rw [← hm]; exact ht.1
  have HM := hide hm
  obtain ⟨bt, ot, rfl, hbt, hct⟩ := hr (by omega)
  have HCT := hide hct
  have hx := ht.el (j := K) (by omega)
  have hy := ht.el (j := K + 1) (by omega)
  have ex := hct K (by omega)
  have ey := hct (K + 1) (by omega)
  rw [hx.1] at ex
  rw [hy.1] at ey
  have hxn := hx.2
  have hyn := hy.2
  have hml : mvL (leH f) (leH s) xs K = (xs.set K ((ap f (elN xs K) (elN xs (K + 1)) : Nat) : Int)).set (K + 1) ((ap s (elN xs K) (elN xs (K + 1)) : Nat) : Int) := rfl
  obtain ⟨x, hxe⟩ : ∃ x, elN xs K = x := ⟨_, rfl⟩
  obtain ⟨y, hye⟩ : ∃ y, elN xs (K + 1) = y := ⟨_, rfl⟩
  rw [hxe] at ex hxn hml
  rw [hye] at ey hyn hml
  obtain ⟨bA, oA, bB, oB, bx, ox, cx, bY, oy, cy, eA, eB, j1, j2, j3, j4, l1, l2, l3, l4⟩ := hz.reads hp hxn hyn
  obtain ⟨u, hu⟩ : ∃ u, ap f x y = u := ⟨_, rfl⟩
  obtain ⟨v, hv⟩ : ∃ v, ap s x y = v := ⟨_, rfl⟩
  rw [hu] at j3 hml
  rw [hv] at j4 hml
  rw [hml]
  subst eA
  subst eB
  obtain ⟨K1, hK1⟩ : ∃ K1, K + 1 = K1 := ⟨_, rfl⟩
  rw [hK1] at hK ey ⊢
  have HK1 := hide hK1
  have EX := hide ex
  have EY := hide ey
  have J1 := hide j1
  have J2 := hide j2
  have J3 := hide j3
  have J4 := hide j4
  have hxz : (x : Int) < n := by omega
  have hyz : (y : Int) < n := by omega
  have hKz : (K : Int) < m := by omega
  have hK1z : (K1 : Int) < m := by omega
  have hKn : (K : Int) + 1 = (K1 : Int) := by omega
  have hKw : IntKind.i64.wrap (K1 : Int) = (K1 : Int) := IntWalk.i64_in _ (by omega)
  have HB0 := hide ((Below.refl _ w).alloc (Nat.le_refl _) (Obj.cells #[Value.slice (some ⟨bA, oA, none⟩) n c, Value.slice (some ⟨bB, oB, none⟩) n d] 29))
  have HK0 := hide (Blk.new w 29 [.slice (some ⟨bA, oA, none⟩) n c, .slice (some ⟨bB, oB, none⟩) n d])
  have HSZ : Hid (w.heap.size < (w.alloc (Obj.cells #[Value.slice (some ⟨bA, oA, none⟩) n c, Value.slice (some ⟨bB, oB, none⟩) n d] 29)).heap.size) := hide HK0.out.lt
  clear hz hp hm hr ht hct hx hy ex ey j1 j2 j3 j4 hu hv hml hK1 hxe hye
  go_enter Try.func39, Try.ntmps39
  go_wp2_with fail
  refine calls_gen fun wa hwa => ?_
  rw [← hwa] at HB0 HK0 HSZ
  clear hwa
  refine (own_any bt ot m e xs _ HM.out (by omega) (by have := HB0.out.size; omega) (fun i hi => (HB0.out.cell (p := ⟨bt, ot + i, none⟩) hbt).trans (HCT.out i hi))).mono ?_
  rintro e w1 ⟨v5, rfl, hb1, ho5⟩
  obtain ⟨A5, c5, hv5, hr5⟩ := own_shape ho5
  subst hv5
  obtain ⟨g, rfl, hg, hown⟩ : ∃ g, A5 = some ⟨g, 0, none⟩ ∧ wa.heap.size ≤ g ∧ OwnB 2 w1 g xs := by
    rcases hr5 with ⟨_, h⟩ | h
    · exact absurd HM.out (by rw [h]; simp; omega)
    · exact h
  have HKL := hide (HK0.out.later hb1)
  have HB1 := hide (HB0.out.trans (hb1.mono HB0.out.size))
  have HOW := hide hown
  have hgw : w.heap.size < g := by have := HSZ.out; omega
  clear hb1 ho5 hown
  have hkl := HK0.out.lt
  have HK1_ : Hid (Blk w1 w.heap.size 29 [.slice (some ⟨bA, oA, none⟩) n c, .slice (some ⟨bB, oB, none⟩) n d]) := hide (HKL.out)
  have kf := HK1_.out.cell 0 _ rfl
  have ff0 := (HB1.out.cell (p := ⟨bt, ot + K, none⟩) hbt).trans EX.out
  have ff1 := (HB1.out.cell (p := ⟨bt, ot + K1, none⟩) hbt).trans EY.out
  have ff2 := (HB1.out.cell (p := ⟨bA, oA + x, none⟩) l1).trans J1.out
  have ff3 := (HB1.out.cell (p := ⟨bx, ox + y, none⟩) l3).trans J3.out
  have fg := HOW.out.cell (i := K) (by simp [HM.out]; omega)
  have fz := HOW.out.frozen K
  obtain ⟨old1, hold⟩ : ∃ o, List.getD xs K 0 = o := ⟨_, rfl⟩
  rw [hold] at fg
  clear hold
  go_wp2_with fail
  go_still_tail 17, (by kernel_rfl)
  change wpList _ _ _ _ _ w1.drew
  go_upto_region 3 with fail
  refine wp_gen fun w2 hw2 => ?_
  have HOW2 : Hid (OwnB 2 w2 g (xs.set K u)) := hide (by rw [hw2]; exact HOW.out.set K u (by simp [HM.out]; omega))
  have HB2 : Hid (Below w.heap.size w w2) := hide (by rw [hw2]; first | exact (HB1.out.setCell (p := ⟨g, K, none⟩) (by show w.heap.size ≤ g; omega) (.int .i64 u)).drew | exact HB1.out.setCell (p := ⟨g, K, none⟩) (by show w.heap.size ≤ g; omega) (.int .i64 u))
  have HK2_ : Hid (Blk w2 w.heap.size 29 [.slice (some ⟨bA, oA, none⟩) n c, .slice (some ⟨bB, oB, none⟩) n d]) := hide (by rw [hw2]; exact HK1_.out.far (p := ⟨g, K, none⟩) (by show w.heap.size ≠ g; omega) (.int .i64 u))
  clear hw2 kf fg fz ff0 ff1 ff2 ff3
  have kf := HK2_.out.cell 1 _ rfl
  have ff0 := (HB2.out.cell (p := ⟨bt, ot + K, none⟩) hbt).trans EX.out
  have ff1 := (HB2.out.cell (p := ⟨bt, ot + K1, none⟩) hbt).trans EY.out
  have ff2 := (HB2.out.cell (p := ⟨bB, oB + x, none⟩) l2).trans J2.out
  have ff3 := (HB2.out.cell (p := ⟨bY, oy + y, none⟩) l4).trans J4.out
  have fg := HOW2.out.cell (i := K1) (by simp [HM.out]; omega)
  have fz := HOW2.out.frozen K1
  obtain ⟨old2, hold⟩ : ∃ o, List.getD (xs.set K u) K1 0 = o := ⟨_, rfl⟩
  rw [hold] at fg
  clear hold
  go_wp2_with fail
  go_still_tail 18, (by kernel_rfl)
  change wpList _ _ _ _ _ w2.drew
  go_upto_region 4 with fail
  refine wp_gen fun w3 hw3 => ?_
  have HOW3 : Hid (OwnB 2 w3 g ((xs.set K u).set K1 v)) := hide (by rw [hw3]; exact HOW2.out.set K1 v (by simp [HM.out]; omega))
  have HB3 : Hid (Below w.heap.size w w3) := hide (by rw [hw3]; first | exact (HB2.out.setCell (p := ⟨g, K1, none⟩) (by show w.heap.size ≤ g; omega) (.int .i64 v)).drew | exact HB2.out.setCell (p := ⟨g, K1, none⟩) (by show w.heap.size ≤ g; omega) (.int .i64 v))
  have HK3_ : Hid (Blk w3 w.heap.size 29 [.slice (some ⟨bA, oA, none⟩) n c, .slice (some ⟨bB, oB, none⟩) n d]) := hide (by rw [hw3]; exact HK2_.out.far (p := ⟨g, K1, none⟩) (by show w.heap.size ≠ g; omega) (.int .i64 v))
  clear hw3 kf fg fz ff0 ff1 ff2 ff3
  go_wp2_with fail
  go_ret
  exact ⟨_, _, rfl, HB3.out, .inr ⟨g, rfl, by omega, HOW3.out⟩⟩
end Go.Proofs.Ythnkhljgealjdaa
namespace Go.Proofs.Ythnkhljgealjdaa
open Go Go.RowKit
/-! Words of a solution. -/
/-- A word of elements of a set of n. -/
def Wrd (n : Nat) (xs : List Int) : Prop := xs.length ≤ 8 ∧ ∀ j, j < xs.length → 0 ≤ xs.getD j 0 ∧ xs.getD j 0 < (n : Int)
theorem Wrd.tup {n : Nat} {xs : List Int} (h : Wrd n xs) : Tup n xs := ⟨by have := h.1; omega, h.2⟩
theorem Wrd.nil (n : Nat) : Wrd n [] := ⟨by simp, fun j hj => by simp at hj⟩
/-- All of some lists are words. -/
def Wrds (n : Nat) (rows : List (List Int)) : Prop := ∀ i, i < rows.length → Wrd n (rows.getD i [])
/-- What forbids something with words. -/
def WdC (f s : List (List Int)) (rows : List (List Int)) (code : Int) : Prop :=
  (SolF f s ∧ Wrds f.length rows ∧ code = 0) ∨ (SolF f s ∧ ¬ Wrds f.length rows ∧ code = 2) ∨ (¬ SolF f s ∧ code = 1)
theorem WdC.ex (f s : List (List Int)) (rows : List (List Int)) : ∃ code, WdC f s rows code := by
  by_cases h : SolF f s
  · by_cases h2 : Wrds f.length rows
    · exact ⟨_, .inl ⟨h, h2, rfl⟩⟩
    · exact ⟨_, .inr (.inl ⟨h, h2, rfl⟩)⟩
  · exact ⟨_, .inr (.inr ⟨h, rfl⟩)⟩
theorem WdC.zero {f s : List (List Int)} {rows : List (List Int)} {code : Int} (h : WdC f s rows code) (h0 : code = 0) : SolF f s ∧ Wrds f.length rows := by
  rcases h with ⟨a, b, _⟩ | ⟨_, _, c⟩ | ⟨_, c⟩
  · exact ⟨a, b⟩
  · omega
  · omega
theorem WdC.uniq {f s : List (List Int)} {rows : List (List Int)} {c c' : Int} (h : WdC f s rows c) (h' : WdC f s rows c') : c = c' := by
  rcases h with ⟨a, b, rfl⟩ | ⟨a, b, rfl⟩ | ⟨a, rfl⟩ <;> rcases h' with ⟨a', b', rfl⟩ | ⟨a', b', rfl⟩ | ⟨a', rfl⟩ <;> first | rfl | contradiction
theorem WdC.congr {f s : List (List Int)} {rows rows' : List (List Int)} {c : Int} (h : WdC f s rows c) (e : Wrds f.length rows ↔ Wrds f.length rows') : WdC f s rows' c := by
  rcases h with ⟨a, b, r⟩ | ⟨a, b, r⟩ | ⟨a, r⟩
  · exact .inl ⟨a, e.1 b, r⟩
  · exact .inr (.inl ⟨a, fun h => b (e.2 h), r⟩)
  · exact .inr (.inr ⟨a, r⟩)
theorem wrds1 {n : Nat} {xs : List Int} : Wrds n [xs] ↔ Wrd n xs := by
  constructor
  · intro h; exact h 0 (by simp)
  · intro h i hi
    have : i = 0 := by simpa using hi
    subst this; exact h
theorem wrds2 {n : Nat} {xs ys : List Int} : Wrds n [xs, ys] ↔ Wrd n xs ∧ Wrd n ys := by
  constructor
  · intro h; exact ⟨h 0 (by simp), h 1 (by simp)⟩
  · rintro ⟨h1, h2⟩ i hi
    rcases i with _ | _ | i
    · exact h1
    · exact h2
    · simp at hi; omega
/-- The tuples that are reached, in order, if there are at most M. -/
def OrbR (f s : List (List Int)) (xs : List Int) (M : Nat) (zs : List (List Int)) (code : Int) : Prop :=
  (Cls (leH f) (leH s) xs zs ∧ Asc zs ∧ zs.length ≤ M ∧ code = 0) ∨ (¬ FewT (leH f) (leH s) xs M ∧ zs = [] ∧ code = 3)
theorem Cls.sorted {h1 h2 : Nat → Nat → Int} {x : List Int} {L L' : List (List Int)} (h : Cls h1 h2 x L) (ha : Asc L') (hm : ∀ y, y ∈ L' ↔ y ∈ L) : Cls h1 h2 x L' := ⟨ha.nodup, fun y => (hm y).trans (h.2 y)⟩
theorem Cls.ascEq {h1 h2 : Nat → Nat → Int} {x : List Int} {L L' : List (List Int)} (h : Cls h1 h2 x L) (h' : Cls h1 h2 x L') (ha : Asc L) (ha' : Asc L') : L = L' := Asc.eq ha ha' (fun y => (h.2 y).trans (h'.2 y).symm)
theorem Cls.pos {h1 h2 : Nat → Nat → Int} {x : List Int} {L : List (List Int)} (h : Cls h1 h2 x L) : 0 < L.length := by
  have hm := (h.2 x).2 .refl
  cases L with
  | nil => simp at hm
  | cons a t => simp
theorem Cls.row {h1 h2 : Nat → Nat → Int} {x : List Int} {L : List (List Int)} (h : Cls h1 h2 x L) {i : Nat} (hi : i < L.length) : (L.getD i []).length = x.length := ((h.2 _).1 (tgetD_mem _ _ _ hi)).len
theorem OrbR.ex (f s : List (List Int)) (xs : List Int) (M : Nat) : ∃ zs code, OrbR f s xs M zs code := by
  by_cases h : FewT (leH f) (leH s) xs M
  · obtain ⟨L, hE, hl⟩ := h
    obtain ⟨L', ha, hl', hm⟩ := asc_ex L hE.1
    exact ⟨L', 0, .inl ⟨hE.sorted ha hm, ha, by omega, rfl⟩⟩
  · exact ⟨[], 3, .inr ⟨h, rfl, rfl⟩⟩
theorem OrbR.size {f s : List (List Int)} {xs : List Int} {M : Nat} {zs : List (List Int)} {code : Int} (hx : xs.length ≤ 12) (hM : M ≤ 5000) (h : OrbR f s xs M zs code) : zs.length ≤ 1048576 ∧ ∀ i, i < zs.length → (zs.getD i []).length ≤ 1048576 := by
  rcases h with ⟨hE, _, hl, _⟩ | ⟨_, rfl, _⟩
  · exact ⟨by omega, fun i hi => by rw [hE.row hi]; omega⟩
  · exact ⟨by simp, by simp⟩
/-- What the class of a word is told. -/
def CowR (f s : List (List Int)) (xs : List Int) (zs : List (List Int)) (code : Int) : Prop := (WdC f s [xs] 0 ∧ OrbR f s xs 1000 zs code) ∨ (WdC f s [xs] code ∧ code ≠ 0 ∧ zs = [])
theorem CowR.ex (f s : List (List Int)) (xs : List Int) : ∃ zs code, CowR f s xs zs code ∧ zs.length ≤ 1048576 ∧ ∀ i, i < zs.length → (zs.getD i []).length ≤ 1048576 := by
  obtain ⟨c, hc⟩ := WdC.ex f s [xs]
  by_cases h0 : c = 0
  · subst h0
    obtain ⟨zs, code, h⟩ := OrbR.ex f s xs 1000
    have hw := (wrds1.1 (hc.zero rfl).2).1
    exact ⟨zs, code, .inl ⟨hc, h⟩, OrbR.size (by omega) (by omega) h⟩
  · exact ⟨[], c, .inr ⟨hc, h0, rfl⟩, by simp, by simp⟩
/-- What the orbit of a tuple is told. -/
def TorR (f s : List (List Int)) (xs : List Int) (zs : List (List Int)) (code : Int) : Prop := (SolF f s ∧ Tup f.length xs ∧ OrbR f s xs 5000 zs code) ∨ (SolF f s ∧ ¬ Tup f.length xs ∧ zs = [] ∧ code = 2) ∨ (¬ SolF f s ∧ zs = [] ∧ code = 1)
theorem TorR.ex (f s : List (List Int)) (xs : List Int) : ∃ zs code, TorR f s xs zs code ∧ zs.length ≤ 1048576 ∧ ∀ i, i < zs.length → (zs.getD i []).length ≤ 1048576 := by
  by_cases h : SolF f s
  · by_cases h2 : Tup f.length xs
    · obtain ⟨zs, code, h3⟩ := OrbR.ex f s xs 5000
      exact ⟨zs, code, .inl ⟨h, h2, h3⟩, OrbR.size h2.1 (by omega) h3⟩
    · exact ⟨_, _, .inr (.inl ⟨h, h2, rfl, rfl⟩), by simp, by simp⟩
  · exact ⟨_, _, .inr (.inr ⟨h, rfl, rfl⟩), by simp, by simp⟩
end Go.Proofs.Ythnkhljgealjdaa
namespace Go.Proofs.Ythnkhljgealjdaa
open Go Go.RowKit Go.ChangeShapes Go.WideShapes
open Go.WideElems (Fit rg rd rd_key rg_of rd_val)
open Classical
set_option maxRecDepth 100000
/-! Tuples as keys of a map. -/
/-- A tuple with zeros behind it, as a value. -/
def tkey (xs : List Int) : Value := .agg (ints (pad12 xs)).toArray
theorem ints_inj : ∀ {xs ys : List Int}, ints xs = ints ys → xs = ys
  | [], [], _ => rfl
  | [], _ :: _, h => by simp [ints] at h
  | _ :: _, [], h => by simp [ints] at h
  | x :: xs, y :: ys, h => by
    simp only [ints, List.map_cons, List.cons.injEq] at h
    injection h.1 with _ h1
    rw [h1, ints_inj (xs := xs) (ys := ys) h.2]
theorem tkey_inj {xs ys : List Int} (hl : xs.length = ys.length) (h : tkey xs = tkey ys) : xs = ys := by
  unfold tkey at h
  injection h with h
  have h1 : ints (pad12 xs) = ints (pad12 ys) := by
    have h2 := congrArg Array.toList h
    simpa using h2
  have h2 := ints_inj h1
  unfold pad12 at h2
  exact (List.append_inj h2 hl).1
theorem tk_laid : laidOutB Try.prog = true := by kernel_rfl
theorem tk_row : (46 : TypeId) < Try.prog.types.size := of_decide_eq_true (by kernel_rfl)
theorem tk_deep : Try.prog.keyTypeAt (Try.prog.types.size + 1) 46 = true := by kernel_rfl
theorem tk_wide : (match Try.prog.underlying 46 with | some (.array _ _) | some (.struct _) => true | _ => false) = true := by rw [Try.underlying46]
theorem tk_law : WideMaps.KeyLaw Try.prog 46 := deep_law_laid tk_laid (m := 2) (by omega) tk_row (by kernel_rfl) tk_wide
theorem tk_keyed : Maps.Keyed Try.prog 46 := Maps.Keyed.of_law tk_law
theorem tk_cells : Try.prog.cellsOf 46 = 12 := by kernel_rfl
theorem tk_cellsI : Try.prog.cellsOf 2 = 1 := by kernel_rfl
theorem tk_size : ∃ m, Try.prog.types.size = m + 1 := by
  have h := tk_row
  cases hs : Try.prog.types.size with
  | zero => rw [hs] at h; exact absurd h (Nat.not_lt_zero _)
  | succ m => exact ⟨m, rfl⟩
theorem tmapM_some {α β : Type} {f : α → Option β} : ∀ {l : List α}, (∀ a ∈ l, ∃ b, f a = some b) → ∃ bs, l.mapM f = some bs
  | [], _ => ⟨[], rfl⟩
  | a :: l, h => by
    obtain ⟨b, hb⟩ := h a (by simp)
    obtain ⟨bs, hbs⟩ := tmapM_some (l := l) fun a ha => h a (by simp [ha])
    exact ⟨b :: bs, by simp [List.mapM_cons, hb, hbs]⟩
/-- Small numbers. -/
def Sm (xs : List Int) : Prop := xs.length ≤ 12 ∧ ∀ v ∈ xs, -4611686018427387904 ≤ v ∧ v < 4611686018427387904
theorem Tup.sm {n : Nat} {xs : List Int} (h : Tup n xs) (hn : n ≤ 12) : Sm xs := ⟨h.1, fun v hv => by have := h.mem v hv; omega⟩
theorem tkey_ex {xs : List Int} (h : Sm xs) : ∃ kl, keyOf Try.prog 46 (tkey xs) = some kl := by
  have hl := pad12_length h.1
  have hf : (tkey xs).formed Try.prog 46 = true := by simp [tkey, Value.formed, Try.underlying46, tk_cells, ints_length, hl]
  have hk : Try.prog.keyType 46 = true := tk_deep
  obtain ⟨m, hm⟩ := tk_size
  have hcs : (tkey xs).cells.toList = ints (pad12 xs) := by simp [tkey, Value.cells]
  have hlits : ∃ ls, Try.prog.keyLits (Try.prog.types.size + 1) 46 (tkey xs).cells.toList = some ls := by
    rw [hcs]
    unfold Program.keyLits
    rw [Try.underlying46]
    obtain ⟨bs, hbs⟩ := tmapM_some (f := fun i => Try.prog.keyLits Try.prog.types.size 2 (((ints (pad12 xs)).drop (i * Try.prog.cellsOf 2)).take (Try.prog.cellsOf 2))) (l := List.range 12) (fun i hi => by
      have hi := List.mem_range.1 hi
      rw [tk_cellsI, Nat.mul_one]
      have hil : i < (pad12 xs).length := by omega
      have e : ((ints (pad12 xs)).drop i).take 1 = [.int .i64 ((pad12 xs)[i])] := by
        rw [List.drop_eq_getElem_cons (by rw [ints_length]; exact hil)]
        simp [ints]
      rw [e, hm]
      unfold Program.keyLits
      rw [Try.underlying2]
      have hw : (Lit.int .i64 ((pad12 xs)[i])).wf = true := by
        have hv : -4611686018427387904 ≤ (pad12 xs)[i] ∧ (pad12 xs)[i] < 4611686018427387904 := by
          have hmem : (pad12 xs)[i] ∈ pad12 xs := List.getElem_mem hil
          rcases List.mem_append.1 (show (pad12 xs)[i] ∈ xs ++ List.replicate (12 - xs.length) 0 from hmem) with h9 | h9
          · exact h.2 _ h9
          · rw [(List.mem_replicate.1 h9).2]; omega
        exact WalkArith.wf_i64 (by omega)
      exact ⟨[.int .i64 ((pad12 xs)[i])], if_pos ⟨rfl, hw⟩⟩)
    refine ⟨bs.flatten, ?_⟩
    show (if (ints (pad12 xs)).length = Try.prog.cellsOf 46 then _ else none) = some bs.flatten
    rw [if_pos (by rw [tk_cells, ints_length, hl]), hbs]
    rfl
  obtain ⟨ls, hls⟩ := hlits
  unfold keyOf
  rw [Try.underlying46]
  refine ⟨.string (keyBytes ls), ?_⟩
  show (if Try.prog.keyType 46 && (tkey xs).formed Try.prog 46 then _ else none) = _
  rw [hk, hf, hls]
  rfl
/-- What a map of tuples that were met says. -/
noncomputable def metV (found : List (List Int)) : Value → Option Value := fun k => if ∃ p, p ∈ found ∧ k = tkey p then some (.bool true) else none
theorem metV_at {m : Nat} {found : List (List Int)} {q : List Int} (hf : ∀ p, p ∈ found → p.length = m) (hq : q.length = m) : (metV found (tkey q)).getD (.bool false) = .bool (decide (q ∈ found)) := by
  unfold metV
  by_cases h : q ∈ found
  · rw [if_pos ⟨q, h, rfl⟩]; simp [h]
  · rw [if_neg]
    · simp [h]
    · rintro ⟨p, hp, e⟩
      exact h (tkey_inj (hq.trans (hf p hp).symm) e ▸ hp)
theorem metV_none {m : Nat} {found : List (List Int)} {q : List Int} (hf : ∀ p, p ∈ found → p.length = m) (hq : q.length = m) (h : q ∉ found) : metV found (tkey q) = none := by
  unfold metV
  rw [if_neg]
  rintro ⟨p, hp, e⟩
  exact h (tkey_inj (hq.trans (hf p hp).symm) e ▸ hp)
theorem metV_add (found : List (List Int)) (q : List Int) (k : Value) : (if k = tkey q then some (.bool true) else metV found k) = metV (found ++ [q]) k := by
  unfold metV
  by_cases h : k = tkey q
  · rw [if_pos h, if_pos ⟨q, by simp, h⟩]
  · rw [if_neg h]
    by_cases h2 : ∃ p, p ∈ found ∧ k = tkey p
    · rw [if_pos h2]
      obtain ⟨p, hp, e⟩ := h2
      rw [if_pos ⟨p, by simp [hp], e⟩]
    · rw [if_neg h2, if_neg]
      rintro ⟨p, hp, e⟩
      rcases List.mem_append.1 hp with hp | hp
      · exact h2 ⟨p, hp, e⟩
      · simp at hp; subst hp; exact h e
theorem metV_nil : (fun _ => none : Value → Option Value) = metV [] := by
  funext k
  unfold metV
  rw [if_neg]
  rintro ⟨p, hp, _⟩
  cases hp
theorem MapN.congr {K : TypeId} {w : World} {b n : Nat} {V V' : Value → Option Value} (h : MapN K w b n V) (e : ∀ k, V k = V' k) : MapN K w b n V' := by
  have e2 : V = V' := funext e
  rw [← e2]; exact h
/-- How many entries a map has. -/
def mLen (w : World) (b : Nat) : Nat := match w.heap[b]? with | some (.map es _) => es.size | _ => 0
theorem MapN.len {K : TypeId} {w : World} {b n : Nat} {V : Value → Option Value} (h : MapN K w b n V) : mLen w b = n := by
  obtain ⟨es, clock, hb, hs⟩ := h.raw
  unfold mLen
  rw [hb]
  exact hs
/-- Block b is the map of the tuples that were met, each once. -/
def MetN (w : World) (b : Nat) (found : List (List Int)) : Prop := MapN 46 w b found.length (metV found)
/-- What a map of tuples reads as. -/
def MetD (D : DataW Value) (found : List (List Int)) : Prop := ∀ key kl, keyOf Try.prog 46 key = some kl → D.atKey kl .nil = (match metV found key with | some v => .held v | none => .nil)
/-- Block r goes over the tuples of the map b; those that it has given are got. -/
def MetR (w : World) (b r : Nat) (found got : List (List Int)) (cnt : Nat) : Prop :=
  ∃ (D : DataW Value) (left : Lit → Bool), w.ranges Try.prog 46 tokK b r found.length D left cnt ∧ MetD D found ∧ got.Nodup ∧ (∀ y, y ∈ got → y ∈ found) ∧
    (∀ y kl, y ∈ found → y ∉ got → keyOf Try.prog 46 (tkey y) = some kl → left kl = true) ∧ (∀ y kl, y ∈ got → keyOf Try.prog 46 (tkey y) = some kl → left kl = false)
section
variable {w w' : World} {b r m cnt : Nat} {found got : List (List Int)}
theorem MetN.owns (h : MetN w b found) : ∃ D, w.ownsMap Try.prog 46 tokK b found.length D ∧ MetD D found := by
  obtain ⟨es, clock, hb, F, hs, hV⟩ := h
  exact ⟨_, ⟨es, clock, hb, F, by omega, rfl⟩, hV⟩
theorem MetD.has {D : DataW Value} (h : MetD D found) {y : List Int} {kl : Lit} (hy : y ∈ found) (hk : keyOf Try.prog 46 (tkey y) = some kl) : Maps.has D kl = true := by
  have h9 := h _ _ hk
  have e : metV found (tkey y) = some (.bool true) := by unfold metV; rw [if_pos ⟨y, hy, rfl⟩]
  rw [e] at h9
  cases hh : Maps.has D kl with
  | true => rfl
  | false =>
    rw [Maps.atKey_of_not_has hh] at h9
    cases h9
theorem MetN.range {t e : TypeId} (h : MetN w b found) (ht : Try.prog.underlying t = some (.map 46 e)) :
    ∃ w' cnt, (Instr.range t (.map (some b))).run Try.prog w = .ok (.pointer (some ⟨w.heap.size, 0, none⟩)) w' ∧ MetR w' b w.heap.size found [] cnt ∧ w.grownBy w' none ∧ w'.heap.size = w.heap.size + 1 := by
  obtain ⟨D, hown, hD⟩ := h.owns
  obtain ⟨w', hrun, hrg, hg, hs⟩ := hown.range tk_keyed ht
  exact ⟨w', _, hrun, ⟨D, _, hrg, hD, List.nodup_nil, fun y hy => absurd hy List.not_mem_nil, fun y kl hy _ hk => hD.has hy hk, fun y kl hy => absurd hy List.not_mem_nil⟩, hg, hs⟩
theorem MetR.of_blocks (h : MetR w b r found got cnt) (eb : w'.heap[b]? = w.heap[b]?) (er : w'.heap[r]? = w.heap[r]?) : MetR w' b r found got cnt := by
  obtain ⟨D, left, ⟨es, clock, since, seen, c0, hb, F, hs, hD, hr, rest⟩, h2⟩ := h
  exact ⟨D, left, ⟨es, clock, since, seen, c0, eb.trans hb, F, hs, hD, er.trans hr, rest⟩, h2⟩
theorem MetR.ltb (h : MetR w b r found got cnt) : b < w.heap.size := by
  obtain ⟨D, left, hr, _⟩ := h
  exact hr.owns.lt
theorem MetR.ltr (h : MetR w b r found got cnt) : r < w.heap.size := by
  obtain ⟨D, left, hr, _⟩ := h
  exact hr.lt
theorem MetR.later (h : MetR w b r found got cnt) (hb : Below w.heap.size w w') : MetR w' b r found got cnt := h.of_blocks (hb.block b h.ltb) (hb.block r h.ltr)
theorem MetR.left_eq (h : MetR w b r found got cnt) : w.rangeLeft b r = cnt := by
  obtain ⟨D, left, hr, _⟩ := h
  exact hr.left_eq
theorem MetR.mono {got' : List (List Int)} (h : MetR w b r found got cnt) (e : got = got') : MetR w b r found got' cnt := e ▸ h
/-- The step: nothing is left, or one that was not met yet. -/
theorem MetR.next (h : MetR w b r found got cnt) (hm : ∀ p, p ∈ found → p.length = m) (hsm : ∀ p, p ∈ found → Sm p) (ty : TypeId) :
    ((∀ y, y ∈ found ↔ y ∈ got) ∧ (Instr.next (.pointer (some ⟨r, 0, none⟩)) false ty).run Try.prog w = .ok (.tuple #[.bool false]) w) ∨
    ∃ p v w' cnt', p ∈ found ∧ p ∉ got ∧ (Instr.next (.pointer (some ⟨r, 0, none⟩)) false ty).run Try.prog w = .ok (.tuple #[.bool true, tkey p, v]) w' ∧ MetR w' b r found (got ++ [p]) cnt' ∧ cnt' < cnt ∧ w.grownBy w' (some r) ∧ w'.heap.size = w.heap.size ∧ (Instr.entry (.pointer (some ⟨r, 0, none⟩))).run Try.prog w' = .ok (.tuple #[tkey p, v]) w' := by
  obtain ⟨D, left, hr, hD, hn, hs, h1, h2⟩ := h
  rcases hr.next tk_keyed ty with ⟨_, hl, hrun⟩ | ⟨key, v, kl, y, w', cnt', hkey, hlk, hv, hat, hrun, hrg, hlt, hgr, hsz, hen⟩
  · refine .inl ⟨fun y => ⟨fun hy => ?_, hs y⟩, hrun⟩
    refine Classical.byContradiction fun hno => ?_
    obtain ⟨kl, hk⟩ := tkey_ex (hsm y hy)
    have h9 := h1 y kl hy hno hk
    rw [hl kl] at h9
    cases h9
  · have h9 := hD key kl hkey
    rw [hat .nil] at h9
    have hy : y = (.held v, []) := by unfold tokK at hv; injection hv with hv; exact hv.symm
    rw [hy] at h9
    obtain ⟨p, hp, rfl⟩ : ∃ p, p ∈ found ∧ key = tkey p := by
      cases e : metV found key with
      | none => rw [e] at h9; cases h9
      | some u =>
        unfold metV at e
        by_cases hex : ∃ p, p ∈ found ∧ key = tkey p
        · exact hex
        · rw [if_neg hex] at e; cases e
    have hpg : p ∉ got := fun hg => by have h8 := h2 p kl hg hkey; rw [hlk] at h8; cases h8
    refine .inr ⟨p, v, w', cnt', hp, hpg, hrun, ⟨D, _, hrg, hD, List.nodup_append.2 ⟨hn, by simp, fun a ha c hc e => by simp at hc; subst hc; subst e; exact hpg ha⟩, fun z hz => ?_, fun z kz hz hzn hk => ?_, fun z kz hz hk => ?_⟩, hlt, hgr, hsz, hen⟩
    · rcases List.mem_append.1 hz with hz | hz
      · exact hs z hz
      · simp at hz; subst hz; exact hp
    · have hz1 : z ∉ got := fun e => hzn (List.mem_append.2 (.inl e))
      have hz2 : z ≠ p := fun e => hzn (List.mem_append.2 (.inr (by simp [e])))
      have h8 := h1 z kz hz hz1 hk
      have hne : kz.sameKey kl = false := by
        cases hc : kz.sameKey kl with
        | false => rfl
        | true =>
          have e := WideAt.sameKey_eq hc
          rw [e] at hk
          exact absurd (tkey_inj ((hm z hz).trans (hm p hp).symm) (tk_keyed.inj hk hkey)) hz2
      simp [h8, hne]
    · rcases List.mem_append.1 hz with hz | hz
      · simp [h2 z kz hz hk]
      · simp at hz
        subst hz
        rw [hkey] at hk
        injection hk with hk
        subst hk
        simp [WideAt.sameKey_self (tk_keyed.key hkey)]
end
end Go.Proofs.Ythnkhljgealjdaa
namespace Go.Proofs.Ythnkhljgealjdaa
open Go Go.RowKit
open Classical
set_option maxHeartbeats 4000000
set_option maxRecDepth 100000 in
theorem areWords_any (n : Nat) (A : Option Addr) (m c : Nat) (rows : List (List Int)) (r : Bool) (w : World) (hm : rows.length = m) (hb : m ≤ 1048576) (hbs : ∀ i, i < rows.length → (rows.getD i []).length ≤ 1048576) (hr : Rd2 w A rows) (hrr : r = true ↔ Wrds n rows) :
    Calls Try.prog 42 #[.int .i64 n, .slice A m c] w fun e w' => e = .returned (.bool r) ∧ Below w.heap.size w w' := by
  have HM := hide hm
  have HR := hide hr
  have HRR := hide hrr
  have HBS := hide hbs
  clear hm hr hrr hbs
  go_enter Try.func42, Try.ntmps42
  go_wp2_with fail
  go_loopw [9] (fun i wr => ∃ j : Nat, j ≤ m ∧ i = .int .i64 j ∧ Below w.heap.size w wr ∧ ∀ i, i < j → Wrd n (rows.getD i [])) (fun i _ => m - (intOf i).toNat)
  case atStart => exact ⟨0, Nat.zero_le _, rfl, Below.refl _ _, fun i hi => absurd hi (Nat.not_lt_zero _)⟩
  case round =>
    obtain ⟨j, hj, rfl, hq, hin⟩ := hrel
    have HIN := hide hin
    have HB := hide hq
    clear hin hq
    by_cases hlt : j < m
    · obtain ⟨b, o, rfl, _, hc⟩ := (HR.out.later HB.out) (by have := HM.out; omega)
      obtain ⟨Aj, cj, hcell, hrd⟩ := hc j (by have := HM.out; omega)
      have hlb := HBS.out j (by have := HM.out; omega)
      obtain ⟨p, hp⟩ : ∃ p, rows.getD j [] = p := ⟨_, rfl⟩
      rw [hp] at hcell hrd hlb
      have HP := hide hp
      obtain ⟨l, hl⟩ : ∃ l, p.length = l := ⟨_, rfl⟩
      rw [hl] at hcell hlb
      have HL := hide hl
      have HRD := hide hrd
      have hjz : (j : Int) < m := by omega
      have bad : ¬ Wrd n p → r = false := fun hyr => by
        cases r
        · rfl
        · exact absurd (by have h := HRR.out.1 rfl j (by rw [HM.out]; exact hlt); rw [HP.out] at h; exact h) hyr
      have BAD := hide bad
      clear bad hp hl hrd hc
      by_cases h8 : l ≤ 8
      · have h8z : decide ((8 : Int) < (l : Int)) = false := by simp; omega
        obtain ⟨r1, hr1⟩ : ∃ r1 : Bool, r1 = true ↔ ∀ i, i < l → 0 ≤ p.getD i 0 ∧ p.getD i 0 < (n : Int) := bool_of _
        have HR1 := hide hr1
        clear hr1
        go_wp2_with fail
        refine (els_any n Aj l cj p r1 _ HL.out (by omega) HRD.out HR1.out).mono ?_
        rintro e w2 ⟨rfl, hq2⟩
        have HB2 := hide (HB.out.trans ((hq2.below wr.heap.size).mono HB.out.size))
        clear hq2
        cases r1 with
        | true =>
          have HW : Hid (Wrd n p) := hide ⟨by rw [HL.out]; exact h8, fun i hi => HR1.out.1 rfl i (by rw [← HL.out]; exact hi)⟩
          go_wp2_with fail
          go_roundw
          case rel =>
            refine ⟨j + 1, by omega, by go_num, HB2.out, fun i hi => ?_⟩
            by_cases e : i = j
            · subst e; rw [HP.out]; exact HW.out
            · exact HIN.out i (by omega)
          case measure => simp [intOf]; omega
        | false =>
          have HW : Hid (¬ Wrd n p) := hide (fun h => absurd (HR1.out.2 (fun i hi => h.2 i (by rw [HL.out]; exact hi))) (by simp))
          go_wp2_with fail
          go_ret
          have := BAD.out HW.out
          exact ⟨by subst this; rfl, HB2.out⟩
      · have h8z : decide ((8 : Int) < (l : Int)) = true := by simp; omega
        have HW : Hid (¬ Wrd n p) := hide (fun h => by have h1 := h.1; rw [HL.out] at h1; omega)
        go_wp2_with fail
        go_ret
        have := BAD.out HW.out
        exact ⟨by subst this; rfl, HB.out⟩
    · have hjm : j = m := by omega
      subst hjm
      have hrt : r = true := HRR.out.2 (fun i hi => HIN.out i (by rw [← HM.out]; exact hi))
      go_wp2_with fail
      go_ret
      exact ⟨by subst hrt; rfl, HB.out⟩
set_option maxRecDepth 100000 in
theorem wordFault_any (A B C : Option Addr) (n c k d m e : Nat) (f s rows : List (List Int)) (code : Int) (w : World) (hz : ZArg 1048576 w A n f B k s) (hm : rows.length = m) (hb : m ≤ 1048576) (hbs : ∀ i, i < rows.length → (rows.getD i []).length ≤ 1048576) (hr : Rd2 w C rows) (hc : WdC f s rows code) :
    Calls Try.prog 30 #[.agg #[.slice A n c, .slice B k d], .slice C m e] w fun e w' => e = .returned (.int .i64 code) ∧ Below w.heap.size w w' := by
  have HZ := hide hz
  have HM := hide hm
  have HR := hide hr
  have HBS := hide hbs
  have HB0 := hide ((Below.refl _ w).alloc (Nat.le_refl _) (Obj.cells #[Value.slice A n c, Value.slice B k d] 29))
  have HK0 := hide (Blk.new w 29 [.slice A n c, .slice B k d])
  rcases hc with ⟨hs, hw, rfl⟩ | ⟨hs, hw, rfl⟩ | ⟨hs, rfl⟩
  · have HS := hide hs
    obtain rfl := (hz.same hs.1).symm
    rw [hz.sz.fl] at hw
    have HW := hide hw
    clear hz hm hr hbs hs hw
    go_enter Try.func30, Try.ntmps30
    have k0 := HK0.out.cell 0 _ rfl
    have k1 := HK0.out.cell 1 _ rfl
    go_wp2_with fail
    clear k0 k1
    refine (isI_any _ _ _ f _ _ _ s true _ (HZ.out.later HB0.out) ⟨fun _ => HS.out, fun _ => rfl⟩).mono ?_
    rintro e w1 ⟨rfl, hb1⟩
    have HB1 := hide (HB0.out.trans (hb1.mono HB0.out.size))
    have HK1 := hide (HK0.out.later hb1)
    clear hb1
    have k0 := HK1.out.cell 0 _ rfl
    have k1 := HK1.out.cell 1 _ rfl
    go_wp2_with fail
    clear k0 k1
    refine (size_any _ _ _ _ _ _ _ HZ.out.sz.nb).mono ?_
    rintro e w2 ⟨rfl, hb2⟩
    have HB2 := hide (HB1.out.trans (hb2.mono HB1.out.size))
    clear hb2
    go_wp2_with fail
    refine (areWords_any n C m _ rows true _ HM.out hb HBS.out (HR.out.later HB2.out) ⟨fun _ => HW.out, fun _ => rfl⟩).mono ?_
    rintro e w3 ⟨rfl, hb3⟩
    have HB3 := hide (HB2.out.trans (hb3.mono HB2.out.size))
    clear hb3
    go_wp2_with fail
    go_ret
    exact ⟨rfl, HB3.out⟩
  · have HS := hide hs
    obtain rfl := (hz.same hs.1).symm
    rw [hz.sz.fl] at hw
    have HW := hide hw
    clear hz hm hr hbs hs hw
    go_enter Try.func30, Try.ntmps30
    have k0 := HK0.out.cell 0 _ rfl
    have k1 := HK0.out.cell 1 _ rfl
    go_wp2_with fail
    clear k0 k1
    refine (isI_any _ _ _ f _ _ _ s true _ (HZ.out.later HB0.out) ⟨fun _ => HS.out, fun _ => rfl⟩).mono ?_
    rintro e w1 ⟨rfl, hb1⟩
    have HB1 := hide (HB0.out.trans (hb1.mono HB0.out.size))
    have HK1 := hide (HK0.out.later hb1)
    clear hb1
    have k0 := HK1.out.cell 0 _ rfl
    have k1 := HK1.out.cell 1 _ rfl
    go_wp2_with fail
    clear k0 k1
    refine (size_any _ _ _ _ _ _ _ HZ.out.sz.nb).mono ?_
    rintro e w2 ⟨rfl, hb2⟩
    have HB2 := hide (HB1.out.trans (hb2.mono HB1.out.size))
    clear hb2
    go_wp2_with fail
    refine (areWords_any n C m _ rows false _ HM.out hb HBS.out (HR.out.later HB2.out) ⟨fun h => absurd h (by simp), fun h => absurd h HW.out⟩).mono ?_
    rintro e w3 ⟨rfl, hb3⟩
    have HB3 := hide (HB2.out.trans (hb3.mono HB2.out.size))
    clear hb3
    go_wp2_with fail
    go_ret
    exact ⟨rfl, HB3.out⟩
  · have HS := hide hs
    clear hz hm hr hbs hs
    go_enter Try.func30, Try.ntmps30
    have k0 := HK0.out.cell 0 _ rfl
    have k1 := HK0.out.cell 1 _ rfl
    go_wp2_with fail
    clear k0 k1
    refine (isI_any _ _ _ f _ _ _ s false _ (HZ.out.later HB0.out) ⟨fun h => absurd h (by simp), fun h => absurd h HS.out⟩).mono ?_
    rintro e w1 ⟨rfl, hb1⟩
    have HB1 := hide (HB0.out.trans (hb1.mono HB0.out.size))
    clear hb1
    go_wp2_with fail
    go_ret
    exact ⟨rfl, HB1.out⟩
end Go.Proofs.Ythnkhljgealjdaa
namespace Go.Proofs.Ythnkhljgealjdaa
open Go Go.RowKit
/-! A slice of tuples. -/
theorem tqInfo : (Try.prog.info? 46).map (fun i => (i.zero, i.size, i.bytes)) = some (some (.agg #[.int .i64 0, .int .i64 0, .int .i64 0, .int .i64 0, .int .i64 0, .int .i64 0, .int .i64 0, .int .i64 0, .int .i64 0, .int .i64 0, .int .i64 0, .int .i64 0]), 12, 96) := by kernel_rfl
theorem tq_mv {h1 h2 : Nat → Nat → Int} {xs : List Int} {k : Nat} (hk : k + 1 < xs.length) : ((pad12 xs).set k (h1 (elN xs k) (elN xs (k + 1)))).set (k + 1) (h2 (elN xs k) (elN xs (k + 1))) = pad12 (mvL h1 h2 xs k) := by
  unfold pad12
  rw [mvL_length]
  unfold mvL
  rw [List.set_append_left _ _ (by omega), List.set_append_left _ _ (by simp; omega)]
/-- The cells of a list of tuples. -/
def tcells (L : List (List Int)) : List Value := L.flatMap fun t => ints (pad12 t)
theorem tcells_snoc (L : List (List Int)) (t : List Int) : tcells (L ++ [t]) = tcells L ++ ints (pad12 t) := by simp [tcells]
theorem tcells_length {L : List (List Int)} (h : ∀ t, t ∈ L → t.length ≤ 12) : (tcells L).length = L.length * 12 := by
  induction L with
  | nil => rfl
  | cons a L ih =>
    have h1 := ih (fun t ht => h t (by simp [ht]))
    have h2 := pad12_length (h a (by simp))
    simp only [tcells, List.flatMap_cons, List.length_append, ints_length, h2, List.length_cons] at h1 ⊢
    omega
theorem tcells_at : ∀ {L : List (List Int)} (_ : ∀ t, t ∈ L → t.length ≤ 12) {i j : Nat} (_ : i < L.length) (_ : j < 12), (tcells L)[i * 12 + j]? = some (.int .i64 ((pad12 (L.getD i [])).getD j 0))
  | [], _, i, _, hi, _ => by simp at hi
  | a :: L, h, i, j, hi, hj => by
    have h2 := pad12_length (h a (by simp))
    have e : tcells (a :: L) = ints (pad12 a) ++ tcells L := by simp [tcells]
    rw [e]
    cases i with
    | zero =>
      rw [List.getElem?_append_left (by rw [ints_length]; omega)]
      have h3 : j < (pad12 a).length := by omega
      simp [ints, h3]
    | succ i =>
      rw [List.getElem?_append_right (by rw [ints_length]; omega), ints_length, h2, show (i + 1) * 12 + j - 12 = i * 12 + j by omega, tcells_at (fun t ht => h t (by simp [ht])) (by simpa using hi) hj]
      simp
/-- The length of a slice. -/
def lenV : Value → Nat
  | .slice _ n _ => n
  | _ => 0
/-- v is a slice of the tuples L, in memory of its own from B on. -/
def TupS (w : World) (B : Nat) (v : Value) (L : List (List Int)) : Prop := w.ownsRow B 46 12 v L.length (tcells L)
section
variable {w w' : World} {B : Nat} {v : Value} {L : List (List Int)}
theorem TupS.later (h : TupS w B v L) (hb : Below w.heap.size w w') : TupS w' B v L := by
  obtain ⟨hl, h⟩ := h
  refine ⟨hl, ?_⟩
  rcases h with h | ⟨g, cap, cur, hv, hb2, hh, rest⟩
  · exact .inl h
  · exact .inr ⟨g, cap, cur, hv, hb2, (hb.block g (Array.getElem?_eq_some_iff.1 hh).1).trans hh, rest⟩
theorem TupS.nil (h : TupS w B v []) : ∃ A c, v = .slice A 0 c := by
  rcases h.2 with ⟨hv, _⟩ | ⟨g, cap, cur, hv, _⟩
  · exact ⟨_, _, hv⟩
  · exact ⟨_, _, hv⟩
theorem TupS.len (h : TupS w B v L) : lenV v = L.length := by
  rcases h.2 with ⟨hv, h0⟩ | ⟨g, cap, cur, hv, _⟩
  · rw [hv, h0]; rfl
  · rw [hv]; rfl
theorem TupS.at (h : TupS w B v L) (hs : ∀ t, t ∈ L → t.length ≤ 12) {i : Nat} (hi : i < L.length) : ∃ g c, v = .slice (some ⟨g, 0, none⟩) L.length c ∧ L.length ≤ c ∧ c ≤ maxLen ∧ B ≤ g ∧ g < w.heap.size ∧ ∀ j, j < 12 → w.cell? ⟨g, i * 12 + j, none⟩ = some (.int .i64 ((pad12 (L.getD i [])).getD j 0)) := by
  rcases h.2 with ⟨_, h2⟩ | ⟨g, cap, cur, hv, hg, hh, h1, h2, h3, h4⟩
  · omega
  · refine ⟨g, cap, hv, h1, h2, hg, (Array.getElem?_eq_some_iff.1 hh).1, fun j hj => ?_⟩
    have h5 := tcells_at hs hi hj
    rw [← h4, List.getElem?_take, if_pos (by omega)] at h5
    rw [cell_of_row w g _ cur _ (0, 0) hh]
    simpa using h5
theorem TupS.front {t : List Int} (h : TupS w B v (L ++ [t])) (hs : ∀ t, t ∈ L → t.length ≤ 12) : ∃ g c, v = .slice (some ⟨g, 0, none⟩) (L.length + 1) c ∧ TupS w B (.slice (some ⟨g, 0, none⟩) L.length c) L := by
  obtain ⟨hl, h | ⟨g, cap, cur, hv, hb, hg, hn, hcap, hsz, hxs⟩⟩ := h
  · simp at h
  · rw [List.length_append] at hv hn hxs
    refine ⟨g, cap, hv, tcells_length hs, .inr ⟨g, cap, cur, rfl, hb, hg, by omega, hcap, hsz, ?_⟩⟩
    rw [tcells_snoc] at hxs
    have h5 := congrArg (List.take (L.length * 12)) hxs
    rw [List.take_take, Nat.min_eq_left (by simp; omega)] at h5
    rw [h5, List.take_left' (tcells_length hs)]
/-- It stays where a map is written. -/
theorem TupS.off {b : Nat} (h : TupS w B v L) (hm : IsMapB w b) (hg : w.grownBy w' (some b)) : TupS w' B v L := by
  obtain ⟨hl, h⟩ := h
  refine ⟨hl, ?_⟩
  rcases h with h | ⟨g, cap, cur, hv, hb, hh, rest⟩
  · exact .inl h
  · exact .inr ⟨g, cap, cur, hv, hb, off_cells hm hg hh, rest⟩
theorem MapN.isMap {K : TypeId} {w : World} {b n : Nat} {V : Value → Option Value} (h : MapN K w b n V) : IsMapB w b := by
  obtain ⟨es, clock, hb, _⟩ := h
  exact ⟨es, clock, hb⟩
/-- A map stays where a slice of tuples grows. -/
theorem MapN.offT {K : TypeId} {b n : Nat} {V : Value → Option Value} (h : MapN K w b n V) (hl : TupS w B v L) (hg : w.grownBy w' v.ownBlock) : MapN K w' b n V := by
  obtain ⟨es, clock, hb⟩ := h.isMap
  refine h.of_block (hg.block b h.lt (fun e => ?_))
  rcases hl.2 with ⟨hv, _⟩ | ⟨g, cap, cur, hv, _, hh, _⟩
  · subst hv; simp [Value.ownBlock] at e
  · subst hv
    simp [Value.ownBlock] at e
    subst e
    rw [hb] at hh
    cases hh
theorem off_cellsN {k : Nat} {cs : Array Value} {t : TypeId} {fr : Nat × Nat} {b : Nat} (hm : ∀ cs t fr, w.heap[b]? ≠ some (.cells cs t fr)) (hg : w.grownBy w' (some b)) (e : w.heap[k]? = some (.cells cs t fr)) : w'.heap[k]? = some (.cells cs t fr) := by
  rw [hg.block k (Array.getElem?_eq_some_iff.1 e).1 (fun e2 => by injection e2 with e2; subst e2; exact hm _ _ _ e)]
  exact e
theorem LstV.offN {ts t : TypeId} {rows : List (List Int)} {vals : List Value} {b : Nat} (h : LstV ts t B w v rows vals) (hm : ∀ cs t fr, w.heap[b]? ≠ some (.cells cs t fr)) (hg : w.grownBy w' (some b)) : LstV ts t B w' v rows vals := by
  refine ⟨?_, fun i hi => ?_, h.ne⟩
  · obtain ⟨h1, h2⟩ := h.own
    refine ⟨h1, ?_⟩
    rcases h2 with h2 | ⟨g, cap, cur, hv, hg', hh, r⟩
    · exact .inl h2
    · exact .inr ⟨g, cap, cur, hv, hg', off_cellsN hm hg hh, r⟩
  · obtain ⟨A, c, h1, h2⟩ := h.row i hi
    refine ⟨A, c, h1, ?_⟩
    rcases h2 with h2 | ⟨g, e, a, b', cur, hc, r⟩
    · exact .inl h2
    · exact .inr ⟨g, e, a, Nat.lt_of_lt_of_le b' hg.size, cur, off_cellsN hm hg hc, r⟩
theorem MetR.iterN {b r cnt : Nat} {found got : List (List Int)} (h : MetR w b r found got cnt) : ∀ cs t fr, w.heap[r]? ≠ some (.cells cs t fr) := by
  obtain ⟨D, left, ⟨es, clock, since, seen, c0, hb, F, hs, hD, hr, _⟩, _⟩ := h
  intro cs t fr e
  rw [hr] at e
  cases e
theorem MetR.mapN {b r cnt : Nat} {found got : List (List Int)} (h : MetR w b r found got cnt) : ∀ cs t fr, w.heap[b]? ≠ some (.cells cs t fr) := by
  obtain ⟨D, left, ⟨es, clock, since, seen, c0, hb, F, hs, hD, hr, _⟩, _⟩ := h
  intro cs t fr e
  rw [hb] at e
  cases e
/-- The way over a map goes on where a list of slices grows. -/
theorem MetR.off {ts : TypeId} {n : Nat} {vals : List Value} {b r cnt : Nat} {found got : List (List Int)} (h : MetR w b r found got cnt) (hl : w.ownsRow B ts 1 v n vals) (hg : w.grownBy w' v.ownBlock) : MetR w' b r found got cnt := by
  have hne : ∀ k, (∀ cs t fr, w.heap[k]? ≠ some (.cells cs t fr)) → some k ≠ v.ownBlock := by
    intro k hk e
    rcases hl.2 with ⟨hv, _⟩ | ⟨g, cap, cur, hv, _, hh, _⟩
    · subst hv; simp [Value.ownBlock] at e
    · subst hv
      simp [Value.ownBlock] at e
      subst e
      exact hk _ _ _ hh
  exact h.of_blocks (hg.block b h.ltb (hne _ h.mapN)) (hg.block r h.ltr (hne _ h.iterN))
theorem Blk.grown {b : Nat} {t : TypeId} {cs : List Value} {row : Option Nat} (h : Blk w b t cs) (hg : w.grownBy w' row) (hne : some b ≠ row) : Blk w' b t cs := (hg.block b h.lt hne).trans h
end
end Go.Proofs.Ythnkhljgealjdaa
