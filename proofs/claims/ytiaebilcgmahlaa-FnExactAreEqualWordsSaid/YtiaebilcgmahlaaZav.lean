import Derived.Test.YtiaebilcgmahlaaZp
import Derived.Test.YtiaebilcgmahlaaZai
import Derived.Test.YtiaebilcgmahlaaZat
import Derived.Test.YtiaebilcgmahlaaZaq
import Derived.Laws.CopyOwn
import Derived.Laws.CopyRow
import Derived.Deep.Cut
import Derived.Test.YtiaebilcgmahlaaZas
import Derived.Test.YtiaebilcgmahlaaZx
import Derived.Test.YtiaebilcgmahlaaZk
import Derived.Test.YtiaebilcgmahlaaZc
import Derived.Test.YtiaebilcgmahlaaZw
import Derived.StillTailTactics
namespace Go.Proofs.Ytiaebilcgmahlaa
open Go Go.RowKit
set_option maxHeartbeats 4000000
theorem copyInfo1 : (Try.prog.info? 2).map (·.size) = some 1 := by kernel_rfl
theorem wl_gen {P : Program} {ops : Array Oper} {Q : Exit → Act → World → Prop} {rest : List Oper} {a : Act} {w : World} (h : ∀ wf, wf = w → wpList P ops Q rest a wf) : wpList P ops Q rest a w := h w rfl
/-- A list with zeros behind it up to 12 numbers. -/
def pad12 (xs : List Int) : List Int := xs ++ List.replicate (12 - xs.length) 0
theorem pad12_length {xs : List Int} (h : xs.length ≤ 12) : (pad12 xs).length = 12 := by simp [pad12]; omega
theorem pad12_at {xs : List Int} {i : Nat} (h : i < xs.length) : (pad12 xs).getD i 0 = xs.getD i 0 := by
  simp only [pad12, List.getD_eq_getElem?_getD]
  rw [List.getElem?_append_left h]
theorem pad12_cells (xs : List Int) : (List.take 0 (ints (List.replicate 12 0)).toArray.toList ++ (ints xs ++ List.drop (0 + (ints xs).length) (ints (List.replicate 12 0)).toArray.toList)).toArray = (ints (pad12 xs)).toArray := by
  have e : ints (List.replicate 12 0) = List.replicate 12 (Value.int .i64 0) := by simp only [ints, List.map_replicate]
  have e2 : ints (pad12 xs) = ints xs ++ List.replicate (12 - xs.length) (Value.int .i64 0) := by simp only [pad12, ints, List.map_append, List.map_replicate]
  rw [e, e2]
  simp only [List.take_zero, List.nil_append, Nat.zero_add, List.drop_replicate, ints_length]

set_option maxRecDepth 100000 in
theorem tupleOf_any (A : Option Addr) (m c : Nat) (xs : List Int) (w : World) (hm : xs.length = m) (hb : m ≤ 12) (hr : Rd w A xs) :
    Calls Try.prog 60 #[.slice A m c] w fun e w' => e = .returned (.agg (ints (pad12 xs)).toArray) ∧ Below w.heap.size w w' := by
  have HM := hide hm
  have hpl := pad12_length (xs := xs) (by omega)
  have hcells := pad12_cells xs
  obtain ⟨ys, hy⟩ : ∃ ys, pad12 xs = ys := ⟨_, rfl⟩
  rw [hy] at hpl hcells ⊢
  have HY := hide hy
  obtain ⟨b0, b1, b2, b3, b4, b5, b6, b7, b8, b9, b10, b11, rfl⟩ := list12 hpl
  have HCE := hide hcells
  obtain ⟨cs, hcs⟩ : ∃ cs, ints xs = cs := ⟨_, rfl⟩
  have HCS := hide hcs
  have hcl : cs.length = m := by rw [← hcs, ints_length]; exact hm
  have HCL := hide hcl
  have h1c : ∀ v ∈ cs, v.oneCell' = true := by intro v hv; rw [← hcs] at hv; simp [ints] at hv; obtain ⟨_, _, rfl⟩ := hv; rfl
  have H1C := hide h1c
  clear hpl hcells hy hcl h1c
  show Calls Try.prog 60 #[.slice A m c] w fun e w' => e = .returned (.agg #[.int .i64 b0, .int .i64 b1, .int .i64 b2, .int .i64 b3, .int .i64 b4, .int .i64 b5, .int .i64 b6, .int .i64 b7, .int .i64 b8, .int .i64 b9, .int .i64 b10, .int .i64 b11]) ∧ Below w.heap.size w w'
  by_cases h0 : m = 0
  · subst h0
    have hx0 : xs = [] := List.length_eq_zero_iff.1 HM.out
    subst hx0
    have hz : [b0, b1, b2, b3, b4, b5, b6, b7, b8, b9, b10, b11] = List.replicate 12 0 := HY.out.symm
    injection hz with hz0 hz
    clear hr hm
    injection hz with hz1 hz
    injection hz with hz2 hz
    injection hz with hz3 hz
    injection hz with hz4 hz
    injection hz with hz5 hz
    injection hz with hz6 hz
    injection hz with hz7 hz
    injection hz with hz8 hz
    injection hz with hz9 hz
    injection hz with hz10 hz
    injection hz with hz11 hz
    subst hz0
    subst hz1
    subst hz2
    subst hz3
    subst hz4
    subst hz5
    subst hz6
    subst hz7
    subst hz8
    subst hz9
    subst hz10
    subst hz11
    go_enter Try.func60, Try.ntmps60
    go_upto_region 2 with fail
    refine wp_gen fun w2 hw2 => ?_
    have HB2 : Hid (Below w.heap.size w w2) := hide (by rw [hw2]; exact ((Below.refl _ _).alloc (Nat.le_refl _) _).alloc (by simp) _)
    have HR2 : Hid (Row 65 w2 w.heap.size (List.replicate 12 0)) := hide (by rw [hw2]; exact (row_zero 65 w).later ((Below.refl _ _).alloc (Nat.le_refl _) _) (by simp))
    have HT2 : Hid (Row 65 w2 (w.heap.size + 1) (List.replicate 12 0)) := hide (by rw [hw2]; have h := row_zero 65 (w.alloc (.cells #[Value.int IntKind.i64 0, Value.int IntKind.i64 0, Value.int IntKind.i64 0, Value.int IntKind.i64 0, Value.int IntKind.i64 0, Value.int IntKind.i64 0, Value.int IntKind.i64 0, Value.int IntKind.i64 0, Value.int IntKind.i64 0, Value.int IntKind.i64 0, Value.int IntKind.i64 0, Value.int IntKind.i64 0] 65)); have e : (w.alloc (Obj.cells #[Value.int IntKind.i64 0, Value.int IntKind.i64 0, Value.int IntKind.i64 0, Value.int IntKind.i64 0, Value.int IntKind.i64 0, Value.int IntKind.i64 0, Value.int IntKind.i64 0, Value.int IntKind.i64 0, Value.int IntKind.i64 0, Value.int IntKind.i64 0, Value.int IntKind.i64 0, Value.int IntKind.i64 0] 65)).heap.size = w.heap.size + 1 := (by simp); rw [e] at h; exact h)
    clear hw2
    obtain ⟨za0, zf0, za1, zf1, za2, zf2, za3, zf3, za4, zf4, za5, zf5, za6, zf6, za7, zf7, za8, zf8, za9, zf9, za10, zf10, za11, zf11⟩ := row12 (show Row 65 w2 (w.heap.size + 1) [0, 0, 0, 0, 0, 0, 0, 0, 0, 0, 0, 0] from HT2.out)
    obtain ⟨ya0, yf0, ya1, yf1, ya2, yf2, ya3, yf3, ya4, yf4, ya5, yf5, ya6, yf6, ya7, yf7, ya8, yf8, ya9, yf9, ya10, yf10, ya11, yf11⟩ := row12 (show Row 65 w2 w.heap.size [0, 0, 0, 0, 0, 0, 0, 0, 0, 0, 0, 0] from HR2.out)
    go_wp2_with (refine wpList_copy_nothing rfl _ _ _ _ rfl 2 Try.underlying25 copyInfo1 _ _ 12 12 0 c rfl rfl rfl ?_)
    refine bp_gen fun wf hwf => ?_
    have HRF : Row 65 wf (w.heap.size) [0, 0, 0, 0, 0, 0, 0, 0, 0, 0, 0, 0] := by rw [hwf]; exact row12_set (List.length_replicate ..) HR2.out _ _ _ _ _ _ _ _ _ _ _ _
    have HBF : Below w.heap.size w wf := by rw [hwf]; exact below12_set HB2.out (by omega) _ _ _ _ _ _ _ _ _ _ _ _
    obtain ⟨q0, _, q1, _, q2, _, q3, _, q4, _, q5, _, q6, _, q7, _, q8, _, q9, _, q10, _, q11, _⟩ := row12 HRF
    clear hwf
    exact bodyPost_ret (v := .agg #[.int .i64 0, .int .i64 0, .int .i64 0, .int .i64 0, .int .i64 0, .int .i64 0, .int .i64 0, .int .i64 0, .int .i64 0, .int .i64 0, .int .i64 0, .int .i64 0]) (by simp [results, Try.results60, go_sem, q0, q1, q2, q3, q4, q5, q6, q7, q8, q9, q10, q11]) rfl ⟨rfl, HBF⟩
  · obtain ⟨b, o, rfl, hbw, hc⟩ := hr (by omega)
    have HC : Hid (∀ i, i < m → w.cell? ⟨b, o + i, none⟩ = some (.int .i64 (xs.getD i 0))) := hide (by rw [← hm]; exact hc)
    clear hc hm
    go_enter Try.func60, Try.ntmps60
    go_upto_region 2 with fail
    refine wp_gen fun w2 hw2 => ?_
    have HB2 : Hid (Below w.heap.size w w2) := hide (by rw [hw2]; exact ((Below.refl _ _).alloc (Nat.le_refl _) _).alloc (by simp) _)
    have HR2 : Hid (Row 65 w2 w.heap.size (List.replicate 12 0)) := hide (by rw [hw2]; exact (row_zero 65 w).later ((Below.refl _ _).alloc (Nat.le_refl _) _) (by simp))
    have HT2 : Hid (Row 65 w2 (w.heap.size + 1) (List.replicate 12 0)) := hide (by rw [hw2]; have h := row_zero 65 (w.alloc (.cells #[Value.int IntKind.i64 0, Value.int IntKind.i64 0, Value.int IntKind.i64 0, Value.int IntKind.i64 0, Value.int IntKind.i64 0, Value.int IntKind.i64 0, Value.int IntKind.i64 0, Value.int IntKind.i64 0, Value.int IntKind.i64 0, Value.int IntKind.i64 0, Value.int IntKind.i64 0, Value.int IntKind.i64 0] 65)); have e : (w.alloc (Obj.cells #[Value.int IntKind.i64 0, Value.int IntKind.i64 0, Value.int IntKind.i64 0, Value.int IntKind.i64 0, Value.int IntKind.i64 0, Value.int IntKind.i64 0, Value.int IntKind.i64 0, Value.int IntKind.i64 0, Value.int IntKind.i64 0, Value.int IntKind.i64 0, Value.int IntKind.i64 0, Value.int IntKind.i64 0] 65)).heap.size = w.heap.size + 1 := (by simp); rw [e] at h; exact h)
    clear hw2
    have hsrc : ∀ j v, cs[j]? = some v → w2.cell? ((⟨b, o, none⟩ : Addr).add j) = some v := by
      intro j v hj
      have hl : j < m := by rw [← HCL.out]; exact (List.getElem?_eq_some_iff.1 hj).1
      have e : (⟨b, o, none⟩ : Addr).add j = ⟨b, o + j, none⟩ := by
        unfold Addr.add
        by_cases h : j = 0
        · subst h; simp
        · simp [h]
      rw [e, HB2.out.cell (p := ⟨b, o + j, none⟩) hbw, HC.out j hl, ← hj, ← HCS.out]
      simp [ints, HM.out, hl]
    have HSRC := hide hsrc
    have hg2 : w2.heap[w.heap.size + 1]? = some (.cells (ints (List.replicate 12 0)).toArray 65 (0, 0)) := HT2.out
    have HG2 := hide hg2
    have hmin : cs.length = Nat.min m 12 := by rw [HCL.out]; exact (Nat.min_eq_left hb).symm
    have hfit : 0 + cs.length ≤ (ints (List.replicate 12 0)).toArray.size := by rw [HCL.out]; simp [ints]; omega
    have HMIN := hide hmin
    have HFIT := hide hfit
    clear hsrc hg2 hmin hfit hcs
    go_upto_region 3 with (refine wpList_copy_own rfl _ _ _ _ rfl 2 Try.underlying25 copyInfo1 (w.heap.size + 1) 0 12 12 ⟨b, o, none⟩ m c rfl rfl (ints (List.replicate 12 0)).toArray 65 HG2.out cs HMIN.out HSRC.out HFIT.out H1C.out ?_; refine wl_gen fun w3 hw3 => ?_; have HW3 := hide hw3; clear hw3)
    have HR3 : Hid (Row 65 w3 (w.heap.size + 1) [b0, b1, b2, b3, b4, b5, b6, b7, b8, b9, b10, b11]) := hide (by
      have h := setRow_heap w2 (w.heap.size + 1) _ (List.take 0 (ints (List.replicate 12 0)).toArray.toList ++ (cs ++ List.drop (0 + cs.length) (ints (List.replicate 12 0)).toArray.toList)).toArray 65 (0, 0) HG2.out
      have e := HCE.out
      rw [HCS.out] at e
      rw [← HW3.out, e] at h
      exact h)
    have HZ3 : Hid (Row 65 w3 w.heap.size (List.replicate 12 0)) := hide (by rw [HW3.out]; exact (setRow_other w2 (w.heap.size + 1) w.heap.size _ (by omega)).trans HR2.out)
    have HB3 : Hid (Below w.heap.size w w3) := hide (by rw [HW3.out]; exact below_setRow HB2.out (by omega) _)
    clear HW3
    obtain ⟨ra0, rf0, ra1, rf1, ra2, rf2, ra3, rf3, ra4, rf4, ra5, rf5, ra6, rf6, ra7, rf7, ra8, rf8, ra9, rf9, ra10, rf10, ra11, rf11⟩ := row12 HR3.out
    obtain ⟨za0, zf0, za1, zf1, za2, zf2, za3, zf3, za4, zf4, za5, zf5, za6, zf6, za7, zf7, za8, zf8, za9, zf9, za10, zf10, za11, zf11⟩ := row12 (show Row 65 w3 w.heap.size [0, 0, 0, 0, 0, 0, 0, 0, 0, 0, 0, 0] from HZ3.out)
    go_wp2_with fail
    refine bp_gen fun wf hwf => ?_
    have HRF : Row 65 wf (w.heap.size) [b0, b1, b2, b3, b4, b5, b6, b7, b8, b9, b10, b11] := by rw [hwf]; exact row12_set (List.length_replicate ..) HZ3.out _ _ _ _ _ _ _ _ _ _ _ _
    have HBF : Below w.heap.size w wf := by rw [hwf]; exact below12_set HB3.out (by omega) _ _ _ _ _ _ _ _ _ _ _ _
    obtain ⟨q0, _, q1, _, q2, _, q3, _, q4, _, q5, _, q6, _, q7, _, q8, _, q9, _, q10, _, q11, _⟩ := row12 HRF
    clear hwf
    exact bodyPost_ret (v := .agg #[.int .i64 b0, .int .i64 b1, .int .i64 b2, .int .i64 b3, .int .i64 b4, .int .i64 b5, .int .i64 b6, .int .i64 b7, .int .i64 b8, .int .i64 b9, .int .i64 b10, .int .i64 b11]) (by simp [results, Try.results60, go_sem, q0, q1, q2, q3, q4, q5, q6, q7, q8, q9, q10, q11]) rfl ⟨rfl, HBF⟩
end Go.Proofs.Ytiaebilcgmahlaa
namespace Go.Proofs.Ytiaebilcgmahlaa
open Go Go.RowKit
section
variable {ts t : TypeId} {B g : Nat} {w w' : World} {v vq vs : Value} {rows queue srt : List (List Int)} {vals qvals svals nvals : List Value}
theorem own_chg {n : Nat} (h : w.ownsRow B ts 1 v n vals) (hc : Chg g w w') (hd : v.ownBlock ≠ some g) : w'.ownsRow B ts 1 v n vals := by
  refine ⟨h.1, ?_⟩
  rcases h.2 with h1 | ⟨g0, cap, cur, hv, hb, hh, rest⟩
  · exact .inl h1
  · refine .inr ⟨g0, cap, cur, hv, hb, ?_, rest⟩
    rw [hc.block g0 (Array.getElem?_eq_some_iff.1 hh).1 (fun e => hd (by rw [hv, ← e]; rfl))]
    exact hh
/-- A row is put into the sorted list. -/
theorem Qs.put {A : Option Addr} {c k n m cap g' cap' : Nat} {p : List Int} (hne : ts ≠ t) (h : Qs ts t B w vq (.slice (some ⟨g, 0, none⟩) m cap) queue srt qvals svals) (hc : Chg g w w') (hk : k ≤ srt.length) (hA : Obj1 t B w.heap.size w A p) (hg : g' = g ∨ w.heap.size ≤ g')
    (hn : n = (insL srt k p).length) (hown : w'.ownsRow B ts 1 (.slice (some ⟨g', 0, none⟩) n cap') n (svals.take k ++ .slice A p.length c :: svals.drop k)) : Qs ts t B w' vq (.slice (some ⟨g', 0, none⟩) n cap') queue (insL srt k p) qvals (svals.take k ++ .slice A p.length c :: svals.drop k) := by
  have hkt : KeepT t w w' := hc.keepT hne rfl h.s
  have hdq : vq.ownBlock ≠ some g := fun e => h.d g e rfl
  refine ⟨⟨own_chg h.q.own hc hdq, fun i hi => ?_, h.q.ne⟩, by rw [← hn]; exact hown, (h.r.kept hkt hc.size).ins hk ((hkt.obj hA).mono (Nat.le_refl _) hc.size), fun g0 hg0 e => ?_⟩
  · obtain ⟨A', c', h1, h2⟩ := h.q.row i hi
    exact ⟨A', c', h1, (hkt.obj h2).mono (Nat.le_refl _) hc.size⟩
  · simp [Value.ownBlock] at e
    subst e
    rcases hg with e | e
    · subst e; exact h.d _ hg0 rfl
    · have := (own_lt h.q.own hg0).2; omega
/-- Two lists of one row each. -/
theorem Qs.start2 {A A2 : Option Addr} {c c2 : Nat} {r : List Int} (hB : B ≤ w.heap.size) (hb : Below w.heap.size w w') (hs : g = w'.heap.size) (hq : LstV ts t B w' vq [r] [.slice A r.length c]) (hvq : ∀ g0, vq.ownBlock = some g0 → g0 < w'.heap.size) (hr2 : Obj1 t B w'.heap.size w' A2 r) :
    Qs ts t B (w'.alloc (.cells #[.slice A2 r.length c2] ts)) vq (.slice (some ⟨g, 0, none⟩) 1 1) [r] [r] [.slice A r.length c] [.slice A2 r.length c2] := by
  have h2 : Below w'.heap.size w' (w'.alloc (.cells #[.slice A2 r.length c2] ts)) := (Below.refl _ _).alloc (Nat.le_refl _) _
  subst hs
  refine ⟨hq.later h2, ⟨rfl, .inr ⟨w'.heap.size, 1, #[.slice A2 r.length c2], rfl, Nat.le_trans hB hb.size, heap_alloc_new _ _, Nat.le_refl _, by unfold maxLen; omega, by simp, by simp⟩⟩, ⟨rfl, fun i hi => ?_⟩, fun g0 hg0 e => ?_⟩
  · simp at hi
    subst hi
    exact ⟨A2, c2, rfl, (hr2.later h2).mono (Nat.le_refl _) h2.size⟩
  · simp [Value.ownBlock] at e
    have := hvq g0 hg0
    omega
end
end Go.Proofs.Ytiaebilcgmahlaa
namespace Go.Proofs.Ytiaebilcgmahlaa
open Go Go.RowKit
set_option maxHeartbeats 4000000

set_option maxRecDepth 100000 in
theorem doL_any (A : Option Addr) (n c : Nat) (f : List (List Int)) (B : Option Addr) (d : Nat) (s : List (List Int)) (C : Option Addr) (m e : Nat) (xs : List Int) (K : Nat) (w : World) (hz : ZArg 1048576 w A n f B n s) (hp : PMap f s) (hm : xs.length = m) (hr : Rd w C xs) (ht : Tup n xs) (hK : K + 1 < m) :
    Calls Try.prog 106 #[.agg #[.slice A n c, .slice B n d], .slice C m e, .int .i64 K] w fun e w' => ∃ A' c', e = .returned (.slice A' m c') ∧ Below w.heap.size w w' ∧ Res 2 w.heap.size w' A' (mvL (leH f) (leH s) xs K) := by
  have h12 := (hz.small hp).2
  have hm12 : m ≤ 12 := by rw [← hm]; exact ht.1
  have HM := hide hm
  obtain ⟨bt, ot, rfl, hbt, hct⟩ := hr (by omega)
  have HCT := hide hct
  have hx := ht.el (j := K) (by omega)
  have hy := ht.el (j := K + 1) (by omega)
  have ex := hct K (by omega)
  have ey := hct (K + 1) (by omega)
  rw [hx.1] at ex
  rw [hy.1] at ey
  have hxn := hx.2
  have hyn := hy.2
  have hml : mvL (leH f) (leH s) xs K = (xs.set K ((ap f (elN xs K) (elN xs (K + 1)) : Nat) : Int)).set (K + 1) ((ap s (elN xs K) (elN xs (K + 1)) : Nat) : Int) := rfl
  obtain ⟨x, hxe⟩ : ∃ x, elN xs K = x := ⟨_, rfl⟩
  obtain ⟨y, hye⟩ : ∃ y, elN xs (K + 1) = y := ⟨_, rfl⟩
  rw [hxe] at ex hxn hml
  rw [hye] at ey hyn hml
  obtain ⟨bA, oA, bB, oB, bx, ox, cx, bY, oy, cy, eA, eB, j1, j2, j3, j4, l1, l2, l3, l4⟩ := hz.reads hp hxn hyn
  obtain ⟨u, hu⟩ : ∃ u, ap f x y = u := ⟨_, rfl⟩
  obtain ⟨v, hv⟩ : ∃ v, ap s x y = v := ⟨_, rfl⟩
  rw [hu] at j3 hml
  rw [hv] at j4 hml
  rw [hml]
  subst eA
  subst eB
  obtain ⟨K1, hK1⟩ : ∃ K1, K + 1 = K1 := ⟨_, rfl⟩
  rw [hK1] at hK ey ⊢
  have HK1 := hide hK1
  have EX := hide ex
  have EY := hide ey
  have J1 := hide j1
  have J2 := hide j2
  have J3 := hide j3
  have J4 := hide j4
  have hxz : (x : Int) < n := by omega
  have hyz : (y : Int) < n := by omega
  have hKz : (K : Int) < m := by omega
  have hK1z : (K1 : Int) < m := by omega
  have hKn : (K : Int) + 1 = (K1 : Int) := by omega
  have hKw : IntKind.i64.wrap (K1 : Int) = (K1 : Int) := IntWalk.i64_in _ (by omega)
  have HB0 := hide ((Below.refl _ w).alloc (Nat.le_refl _) (Obj.cells #[Value.slice (some ⟨bA, oA, none⟩) n c, Value.slice (some ⟨bB, oB, none⟩) n d] 29))
  have HK0 := hide (Blk.new w 29 [.slice (some ⟨bA, oA, none⟩) n c, .slice (some ⟨bB, oB, none⟩) n d])
  have HSZ : Hid (w.heap.size < (w.alloc (Obj.cells #[Value.slice (some ⟨bA, oA, none⟩) n c, Value.slice (some ⟨bB, oB, none⟩) n d] 29)).heap.size) := hide HK0.out.lt
  clear hz hp hm hr ht hct hx hy ex ey j1 j2 j3 j4 hu hv hml hK1 hxe hye
  go_enter Try.func106, Try.ntmps106
  go_wp2_with fail
  refine calls_gen fun wa hwa => ?_
  rw [← hwa] at HB0 HK0 HSZ
  clear hwa
  refine (own_any bt ot m e xs _ HM.out (by omega) (by have := HB0.out.size; omega) (fun i hi => (HB0.out.cell (p := ⟨bt, ot + i, none⟩) hbt).trans (HCT.out i hi))).mono ?_
  rintro e w1 ⟨v5, rfl, hb1, ho5⟩
  obtain ⟨A5, c5, hv5, hr5⟩ := own_shape ho5
  subst hv5
  obtain ⟨g, rfl, hg, hown⟩ : ∃ g, A5 = some ⟨g, 0, none⟩ ∧ wa.heap.size ≤ g ∧ OwnB 2 w1 g xs := by
    rcases hr5 with ⟨_, h⟩ | h
    · exact absurd HM.out (by rw [h]; simp; omega)
    · exact h
  have HKL := hide (HK0.out.later hb1)
  have HB1 := hide (HB0.out.trans (hb1.mono HB0.out.size))
  have HOW := hide hown
  have hgw : w.heap.size < g := by have := HSZ.out; omega
  clear hb1 ho5 hown
  have hkl := HK0.out.lt
  have HK1_ : Hid (Blk w1 w.heap.size 29 [.slice (some ⟨bA, oA, none⟩) n c, .slice (some ⟨bB, oB, none⟩) n d]) := hide (HKL.out)
  have kf := HK1_.out.cell 0 _ rfl
  have ff0 := (HB1.out.cell (p := ⟨bt, ot + K, none⟩) hbt).trans EX.out
  have ff1 := (HB1.out.cell (p := ⟨bt, ot + K1, none⟩) hbt).trans EY.out
  have ff2 := (HB1.out.cell (p := ⟨bA, oA + x, none⟩) l1).trans J1.out
  have ff3 := (HB1.out.cell (p := ⟨bx, ox + y, none⟩) l3).trans J3.out
  have fg := HOW.out.cell (i := K) (by simp [HM.out]; omega)
  have fz := HOW.out.frozen K
  obtain ⟨old1, hold⟩ : ∃ o, List.getD xs K 0 = o := ⟨_, rfl⟩
  rw [hold] at fg
  clear hold
  go_wp2_with fail
  go_still_tail 17, (by kernel_rfl)
  change wpList _ _ _ _ _ w1.drew
  go_upto_region 3 with fail
  refine wp_gen fun w2 hw2 => ?_
  have HOW2 : Hid (OwnB 2 w2 g (xs.set K u)) := hide (by rw [hw2]; exact HOW.out.set K u (by simp [HM.out]; omega))
  have HB2 : Hid (Below w.heap.size w w2) := hide (by rw [hw2]; first | exact (HB1.out.setCell (p := ⟨g, K, none⟩) (by show w.heap.size ≤ g; omega) (.int .i64 u)).drew | exact HB1.out.setCell (p := ⟨g, K, none⟩) (by show w.heap.size ≤ g; omega) (.int .i64 u))
  have HK2_ : Hid (Blk w2 w.heap.size 29 [.slice (some ⟨bA, oA, none⟩) n c, .slice (some ⟨bB, oB, none⟩) n d]) := hide (by rw [hw2]; exact HK1_.out.far (p := ⟨g, K, none⟩) (by show w.heap.size ≠ g; omega) (.int .i64 u))
  clear hw2 kf fg fz ff0 ff1 ff2 ff3
  have kf := HK2_.out.cell 1 _ rfl
  have ff0 := (HB2.out.cell (p := ⟨bt, ot + K, none⟩) hbt).trans EX.out
  have ff1 := (HB2.out.cell (p := ⟨bt, ot + K1, none⟩) hbt).trans EY.out
  have ff2 := (HB2.out.cell (p := ⟨bB, oB + x, none⟩) l2).trans J2.out
  have ff3 := (HB2.out.cell (p := ⟨bY, oy + y, none⟩) l4).trans J4.out
  have fg := HOW2.out.cell (i := K1) (by simp [HM.out]; omega)
  have fz := HOW2.out.frozen K1
  obtain ⟨old2, hold⟩ : ∃ o, List.getD (xs.set K u) K1 0 = o := ⟨_, rfl⟩
  rw [hold] at fg
  clear hold
  go_wp2_with fail
  go_still_tail 18, (by kernel_rfl)
  change wpList _ _ _ _ _ w2.drew
  go_upto_region 4 with fail
  refine wp_gen fun w3 hw3 => ?_
  have HOW3 : Hid (OwnB 2 w3 g ((xs.set K u).set K1 v)) := hide (by rw [hw3]; exact HOW2.out.set K1 v (by simp [HM.out]; omega))
  have HB3 : Hid (Below w.heap.size w w3) := hide (by rw [hw3]; first | exact (HB2.out.setCell (p := ⟨g, K1, none⟩) (by show w.heap.size ≤ g; omega) (.int .i64 v)).drew | exact HB2.out.setCell (p := ⟨g, K1, none⟩) (by show w.heap.size ≤ g; omega) (.int .i64 v))
  have HK3_ : Hid (Blk w3 w.heap.size 29 [.slice (some ⟨bA, oA, none⟩) n c, .slice (some ⟨bB, oB, none⟩) n d]) := hide (by rw [hw3]; exact HK2_.out.far (p := ⟨g, K1, none⟩) (by show w.heap.size ≠ g; omega) (.int .i64 v))
  clear hw3 kf fg fz ff0 ff1 ff2 ff3
  go_wp2_with fail
  go_ret
  exact ⟨_, _, rfl, HB3.out, .inr ⟨g, rfl, by omega, HOW3.out⟩⟩
end Go.Proofs.Ytiaebilcgmahlaa
