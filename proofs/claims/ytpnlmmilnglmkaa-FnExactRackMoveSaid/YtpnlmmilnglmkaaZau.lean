import Derived.Test.YtpnlmmilnglmkaaZaq
import Derived.Test.YtpnlmmilnglmkaaZas
import Derived.Test.YtpnlmmilnglmkaaZab
import Derived.Test.YtpnlmmilnglmkaaZaa
import Derived.Laws.CopyOwn
import Derived.Laws.CopyRow
import Derived.Deep.Cut
namespace Go.Proofs.Ytpnlmmilnglmkaa
open Go Go.RowKit
set_option maxHeartbeats 4000000
theorem copyInfo1 : (Try.prog.info? 2).map (·.size) = some 1 := by kernel_rfl
theorem wl_gen {P : Program} {ops : Array Oper} {Q : Exit → Act → World → Prop} {rest : List Oper} {a : Act} {w : World} (h : ∀ wf, wf = w → wpList P ops Q rest a wf) : wpList P ops Q rest a w := h w rfl
/-- A list with zeros behind it up to 12 numbers. -/
def pad12 (xs : List Int) : List Int := xs ++ List.replicate (12 - xs.length) 0
theorem pad12_length {xs : List Int} (h : xs.length ≤ 12) : (pad12 xs).length = 12 := by simp [pad12]; omega
theorem pad12_at {xs : List Int} {i : Nat} (h : i < xs.length) : (pad12 xs).getD i 0 = xs.getD i 0 := by
  simp only [pad12, List.getD_eq_getElem?_getD]
  rw [List.getElem?_append_left h]
theorem pad12_cells (xs : List Int) : (List.take 0 (ints (List.replicate 12 0)).toArray.toList ++ (ints xs ++ List.drop (0 + (ints xs).length) (ints (List.replicate 12 0)).toArray.toList)).toArray = (ints (pad12 xs)).toArray := by
  have e : ints (List.replicate 12 0) = List.replicate 12 (Value.int .i64 0) := by simp only [ints, List.map_replicate]
  have e2 : ints (pad12 xs) = ints xs ++ List.replicate (12 - xs.length) (Value.int .i64 0) := by simp only [pad12, ints, List.map_append, List.map_replicate]
  rw [e, e2]
  simp only [List.take_zero, List.nil_append, Nat.zero_add, List.drop_replicate, ints_length]

set_option maxRecDepth 100000 in
theorem tupleOf_any (A : Option Addr) (m c : Nat) (xs : List Int) (w : World) (hm : xs.length = m) (hb : m ≤ 12) (hr : Rd w A xs) :
    Calls Try.prog 95 #[.slice A m c] w fun e w' => e = .returned (.agg (ints (pad12 xs)).toArray) ∧ Below w.heap.size w w' := by
  have HM := hide hm
  have hpl := pad12_length (xs := xs) (by omega)
  have hcells := pad12_cells xs
  obtain ⟨ys, hy⟩ : ∃ ys, pad12 xs = ys := ⟨_, rfl⟩
  rw [hy] at hpl hcells ⊢
  have HY := hide hy
  obtain ⟨b0, b1, b2, b3, b4, b5, b6, b7, b8, b9, b10, b11, rfl⟩ := list12 hpl
  have HCE := hide hcells
  obtain ⟨cs, hcs⟩ : ∃ cs, ints xs = cs := ⟨_, rfl⟩
  have HCS := hide hcs
  have hcl : cs.length = m := by rw [← hcs, ints_length]; exact hm
  have HCL := hide hcl
  have h1c : ∀ v ∈ cs, v.oneCell' = true := by intro v hv; rw [← hcs] at hv; simp [ints] at hv; obtain ⟨_, _, rfl⟩ := hv; rfl
  have H1C := hide h1c
  clear hpl hcells hy hcl h1c
  show Calls Try.prog 95 #[.slice A m c] w fun e w' => e = .returned (.agg #[.int .i64 b0, .int .i64 b1, .int .i64 b2, .int .i64 b3, .int .i64 b4, .int .i64 b5, .int .i64 b6, .int .i64 b7, .int .i64 b8, .int .i64 b9, .int .i64 b10, .int .i64 b11]) ∧ Below w.heap.size w w'
  by_cases h0 : m = 0
  · subst h0
    have hx0 : xs = [] := List.length_eq_zero_iff.1 HM.out
    subst hx0
    have hz : [b0, b1, b2, b3, b4, b5, b6, b7, b8, b9, b10, b11] = List.replicate 12 0 := HY.out.symm
    injection hz with hz0 hz
    clear hr hm
    injection hz with hz1 hz
    injection hz with hz2 hz
    injection hz with hz3 hz
    injection hz with hz4 hz
    injection hz with hz5 hz
    injection hz with hz6 hz
    injection hz with hz7 hz
    injection hz with hz8 hz
    injection hz with hz9 hz
    injection hz with hz10 hz
    injection hz with hz11 hz
    subst hz0
    subst hz1
    subst hz2
    subst hz3
    subst hz4
    subst hz5
    subst hz6
    subst hz7
    subst hz8
    subst hz9
    subst hz10
    subst hz11
    go_enter Try.func95, Try.ntmps95
    go_upto_region 2 with fail
    refine wp_gen fun w2 hw2 => ?_
    have HB2 : Hid (Below w.heap.size w w2) := hide (by rw [hw2]; exact ((Below.refl _ _).alloc (Nat.le_refl _) _).alloc (by simp) _)
    have HR2 : Hid (Row 105 w2 w.heap.size (List.replicate 12 0)) := hide (by rw [hw2]; exact (row_zero 105 w).later ((Below.refl _ _).alloc (Nat.le_refl _) _) (by simp))
    have HT2 : Hid (Row 105 w2 (w.heap.size + 1) (List.replicate 12 0)) := hide (by rw [hw2]; have h := row_zero 105 (w.alloc (.cells #[Value.int IntKind.i64 0, Value.int IntKind.i64 0, Value.int IntKind.i64 0, Value.int IntKind.i64 0, Value.int IntKind.i64 0, Value.int IntKind.i64 0, Value.int IntKind.i64 0, Value.int IntKind.i64 0, Value.int IntKind.i64 0, Value.int IntKind.i64 0, Value.int IntKind.i64 0, Value.int IntKind.i64 0] 105)); have e : (w.alloc (Obj.cells #[Value.int IntKind.i64 0, Value.int IntKind.i64 0, Value.int IntKind.i64 0, Value.int IntKind.i64 0, Value.int IntKind.i64 0, Value.int IntKind.i64 0, Value.int IntKind.i64 0, Value.int IntKind.i64 0, Value.int IntKind.i64 0, Value.int IntKind.i64 0, Value.int IntKind.i64 0, Value.int IntKind.i64 0] 105)).heap.size = w.heap.size + 1 := (by simp); rw [e] at h; exact h)
    clear hw2
    obtain ⟨za0, zf0, za1, zf1, za2, zf2, za3, zf3, za4, zf4, za5, zf5, za6, zf6, za7, zf7, za8, zf8, za9, zf9, za10, zf10, za11, zf11⟩ := row12 (show Row 105 w2 (w.heap.size + 1) [0, 0, 0, 0, 0, 0, 0, 0, 0, 0, 0, 0] from HT2.out)
    obtain ⟨ya0, yf0, ya1, yf1, ya2, yf2, ya3, yf3, ya4, yf4, ya5, yf5, ya6, yf6, ya7, yf7, ya8, yf8, ya9, yf9, ya10, yf10, ya11, yf11⟩ := row12 (show Row 105 w2 w.heap.size [0, 0, 0, 0, 0, 0, 0, 0, 0, 0, 0, 0] from HR2.out)
    go_wp2_with (refine wpList_copy_nothing rfl _ _ _ _ rfl 2 Try.underlying37 copyInfo1 _ _ 12 12 0 c rfl rfl rfl ?_)
    refine bp_gen fun wf hwf => ?_
    have HRF : Row 105 wf (w.heap.size) [0, 0, 0, 0, 0, 0, 0, 0, 0, 0, 0, 0] := by rw [hwf]; exact row12_set (List.length_replicate ..) HR2.out _ _ _ _ _ _ _ _ _ _ _ _
    have HBF : Below w.heap.size w wf := by rw [hwf]; exact below12_set HB2.out (by omega) _ _ _ _ _ _ _ _ _ _ _ _
    obtain ⟨q0, _, q1, _, q2, _, q3, _, q4, _, q5, _, q6, _, q7, _, q8, _, q9, _, q10, _, q11, _⟩ := row12 HRF
    clear hwf
    exact bodyPost_ret (v := .agg #[.int .i64 0, .int .i64 0, .int .i64 0, .int .i64 0, .int .i64 0, .int .i64 0, .int .i64 0, .int .i64 0, .int .i64 0, .int .i64 0, .int .i64 0, .int .i64 0]) (by simp [results, Try.results95, go_sem, q0, q1, q2, q3, q4, q5, q6, q7, q8, q9, q10, q11]) rfl ⟨rfl, HBF⟩
  · obtain ⟨b, o, rfl, hbw, hc⟩ := hr (by omega)
    have HC : Hid (∀ i, i < m → w.cell? ⟨b, o + i, none⟩ = some (.int .i64 (xs.getD i 0))) := hide (by rw [← hm]; exact hc)
    clear hc hm
    go_enter Try.func95, Try.ntmps95
    go_upto_region 2 with fail
    refine wp_gen fun w2 hw2 => ?_
    have HB2 : Hid (Below w.heap.size w w2) := hide (by rw [hw2]; exact ((Below.refl _ _).alloc (Nat.le_refl _) _).alloc (by simp) _)
    have HR2 : Hid (Row 105 w2 w.heap.size (List.replicate 12 0)) := hide (by rw [hw2]; exact (row_zero 105 w).later ((Below.refl _ _).alloc (Nat.le_refl _) _) (by simp))
    have HT2 : Hid (Row 105 w2 (w.heap.size + 1) (List.replicate 12 0)) := hide (by rw [hw2]; have h := row_zero 105 (w.alloc (.cells #[Value.int IntKind.i64 0, Value.int IntKind.i64 0, Value.int IntKind.i64 0, Value.int IntKind.i64 0, Value.int IntKind.i64 0, Value.int IntKind.i64 0, Value.int IntKind.i64 0, Value.int IntKind.i64 0, Value.int IntKind.i64 0, Value.int IntKind.i64 0, Value.int IntKind.i64 0, Value.int IntKind.i64 0] 105)); have e : (w.alloc (Obj.cells #[Value.int IntKind.i64 0, Value.int IntKind.i64 0, Value.int IntKind.i64 0, Value.int IntKind.i64 0, Value.int IntKind.i64 0, Value.int IntKind.i64 0, Value.int IntKind.i64 0, Value.int IntKind.i64 0, Value.int IntKind.i64 0, Value.int IntKind.i64 0, Value.int IntKind.i64 0, Value.int IntKind.i64 0] 105)).heap.size = w.heap.size + 1 := (by simp); rw [e] at h; exact h)
    clear hw2
    have hsrc : ∀ j v, cs[j]? = some v → w2.cell? ((⟨b, o, none⟩ : Addr).add j) = some v := by
      intro j v hj
      have hl : j < m := by rw [← HCL.out]; exact (List.getElem?_eq_some_iff.1 hj).1
      have e : (⟨b, o, none⟩ : Addr).add j = ⟨b, o + j, none⟩ := by
        unfold Addr.add
        by_cases h : j = 0
        · subst h; simp
        · simp [h]
      rw [e, HB2.out.cell (p := ⟨b, o + j, none⟩) hbw, HC.out j hl, ← hj, ← HCS.out]
      simp [ints, HM.out, hl]
    have HSRC := hide hsrc
    have hg2 : w2.heap[w.heap.size + 1]? = some (.cells (ints (List.replicate 12 0)).toArray 105 (0, 0)) := HT2.out
    have HG2 := hide hg2
    have hmin : cs.length = Nat.min m 12 := by rw [HCL.out]; exact (Nat.min_eq_left hb).symm
    have hfit : 0 + cs.length ≤ (ints (List.replicate 12 0)).toArray.size := by rw [HCL.out]; simp [ints]; omega
    have HMIN := hide hmin
    have HFIT := hide hfit
    clear hsrc hg2 hmin hfit hcs
    go_upto_region 3 with (refine wpList_copy_own rfl _ _ _ _ rfl 2 Try.underlying37 copyInfo1 (w.heap.size + 1) 0 12 12 ⟨b, o, none⟩ m c rfl rfl (ints (List.replicate 12 0)).toArray 105 HG2.out cs HMIN.out HSRC.out HFIT.out H1C.out ?_; refine wl_gen fun w3 hw3 => ?_; have HW3 := hide hw3; clear hw3)
    have HR3 : Hid (Row 105 w3 (w.heap.size + 1) [b0, b1, b2, b3, b4, b5, b6, b7, b8, b9, b10, b11]) := hide (by
      have h := setRow_heap w2 (w.heap.size + 1) _ (List.take 0 (ints (List.replicate 12 0)).toArray.toList ++ (cs ++ List.drop (0 + cs.length) (ints (List.replicate 12 0)).toArray.toList)).toArray 105 (0, 0) HG2.out
      have e := HCE.out
      rw [HCS.out] at e
      rw [← HW3.out, e] at h
      exact h)
    have HZ3 : Hid (Row 105 w3 w.heap.size (List.replicate 12 0)) := hide (by rw [HW3.out]; exact (setRow_other w2 (w.heap.size + 1) w.heap.size _ (by omega)).trans HR2.out)
    have HB3 : Hid (Below w.heap.size w w3) := hide (by rw [HW3.out]; exact below_setRow HB2.out (by omega) _)
    clear HW3
    obtain ⟨ra0, rf0, ra1, rf1, ra2, rf2, ra3, rf3, ra4, rf4, ra5, rf5, ra6, rf6, ra7, rf7, ra8, rf8, ra9, rf9, ra10, rf10, ra11, rf11⟩ := row12 HR3.out
    obtain ⟨za0, zf0, za1, zf1, za2, zf2, za3, zf3, za4, zf4, za5, zf5, za6, zf6, za7, zf7, za8, zf8, za9, zf9, za10, zf10, za11, zf11⟩ := row12 (show Row 105 w3 w.heap.size [0, 0, 0, 0, 0, 0, 0, 0, 0, 0, 0, 0] from HZ3.out)
    go_wp2_with fail
    refine bp_gen fun wf hwf => ?_
    have HRF : Row 105 wf (w.heap.size) [b0, b1, b2, b3, b4, b5, b6, b7, b8, b9, b10, b11] := by rw [hwf]; exact row12_set (List.length_replicate ..) HZ3.out _ _ _ _ _ _ _ _ _ _ _ _
    have HBF : Below w.heap.size w wf := by rw [hwf]; exact below12_set HB3.out (by omega) _ _ _ _ _ _ _ _ _ _ _ _
    obtain ⟨q0, _, q1, _, q2, _, q3, _, q4, _, q5, _, q6, _, q7, _, q8, _, q9, _, q10, _, q11, _⟩ := row12 HRF
    clear hwf
    exact bodyPost_ret (v := .agg #[.int .i64 b0, .int .i64 b1, .int .i64 b2, .int .i64 b3, .int .i64 b4, .int .i64 b5, .int .i64 b6, .int .i64 b7, .int .i64 b8, .int .i64 b9, .int .i64 b10, .int .i64 b11]) (by simp [results, Try.results95, go_sem, q0, q1, q2, q3, q4, q5, q6, q7, q8, q9, q10, q11]) rfl ⟨rfl, HBF⟩
end Go.Proofs.Ytpnlmmilnglmkaa
