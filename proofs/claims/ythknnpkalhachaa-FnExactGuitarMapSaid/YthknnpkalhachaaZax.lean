import Derived.Test.YthknnpkalhachaaZaw
import Derived.Test.YthknnpkalhachaaZf
import Derived.Test.YthknnpkalhachaaZar
import Derived.Test.YthknnpkalhachaaZl
import Derived.Test.YthknnpkalhachaaZs
import Derived.Test.YthknnpkalhachaaZu
import Derived.Test.YthknnpkalhachaaZb
import Derived.Test.YthknnpkalhachaaZh
import Derived.RangeFuncLeaves
import Derived.RangeFuncBox
import Derived.LoopNIn
import Derived.LoopIn
import Derived.RegionIn
import Derived.RangeFuncCalls
import Derived.Deep.Cut
import Derived.Deep.DeepCutAuto
namespace Go.Proofs.Ythknnpkalhachaa
open Go Go.RowKit Go.Shelf
attribute [local go_sem] Oper.semAt_some
set_option maxHeartbeats 4000000
/-- What the last t letters make of x. -/
def acIn (f : List (List Int)) (xs : List Int) (x : Nat) : Nat → Nat
  | 0 => x
  | t + 1 => ap f (elN xs (xs.length - 1 - t)) (acIn f xs x t)
theorem acIn_lt {f : List (List Int)} (ht : Tbl f) {n : Nat} (hn : f.length = n) {xs : List Int} (hx : Tup n xs) {x : Nat} (h : x < n) : ∀ t, t ≤ xs.length → acIn f xs x t < n
  | 0, _ => h
  | t + 1, hl => ht.ap_lt hn (hx.el (j := xs.length - 1 - t) (by omega)).2 (acIn_lt ht hn hx h t (by omega))
set_option maxRecDepth 100000 in
theorem actBy_any (A : Option Addr) (n c : Nat) (f : List (List Int)) (B : Option Addr) (d : Nat) (s : List (List Int)) (C : Option Addr) (m cc : Nat) (xs : List Int) (x : Nat) (w : World) (hz : ZArg 1048576 w A n f B n s) (hp : PMap f s) (hm : xs.length = m) (ht : Tup n xs) (hr : Rd w C xs) (hx : x < n) :
    Calls Try.prog 74 #[.agg #[.slice A n c, .slice B n d], .slice C m cc, .int .i64 x] w fun e w' => e = .returned (.int .i64 ((acIn f xs x m : Nat) : Int)) ∧ Below w.heap.size w w' := by
  have HZ := hide hz
  have HP := hide hp
  have HM := hide hm
  have HTP := hide ht
  have HR := hide hr
  have HN := hide hz.sz.fl
  have hm12 : m ≤ 12 := by rw [← hm]; exact ht.1
  obtain ⟨bA, oA, rfl, hbA, hcA⟩ := hp.1.cells hz.fst hz.sz.fl
  have HCA := hide hcA
  have HBA := hide hbA
  clear hz hp hm ht hr hcA hbA
  refine (callsIn_wide (n := 6)).1 ?_
  refine callsIn_of_wp_marks Try.func74 rfl trivial ?_ rfl
  simp only [Try.ntmps74, List.size_toArray, List.length_cons, List.length_nil, Nat.reduceAdd, Nat.reduceSub, Array.replicate_succ, Array.replicate_zero, List.push_toArray, List.append_toArray, List.nil_append, List.cons_append]
  refine wpIn_wide.2 ?_
  go_upto_region 1 with fail
  refine wp_gen fun w0 hw0 => ?_
  have HB0 : Hid (Below w.heap.size w w0) := hide (by rw [hw0]; exact ((Below.refl _ _).alloc (Nat.le_refl _) _).alloc (by simp) _)
  have HK0 : Hid (Blk w0 w.heap.size 27 [.slice (some ⟨bA, oA, none⟩) n c, .slice B n d]) := hide (by rw [hw0]; exact (Blk.new w _ _).alloc _)
  have HX0 : Hid (Row 2 w0 (w.heap.size + 1) [(x : Int)]) := hide (by rw [hw0]; have h := Blk.new (w.alloc (Obj.cells #[Value.slice (some ⟨bA, oA, none⟩) n c, Value.slice B n d] 27)) 2 [.int .i64 x]; simp at h; exact h)
  have HS0 : Hid (w0.heap.size = w.heap.size + 2) := hide (by rw [hw0]; simp)
  clear hw0
  go_wp2_with fail
  refine (bwdC_any _ _ m cc _ rfl).mono ?_
  rintro e w5 ⟨rfl, hw5⟩
  have hb5 : Below w0.heap.size w0 w5 := by rw [hw5]; exact (Below.refl _ _).alloc (Nat.le_refl _) _
  have HB5 := hide (HB0.out.trans (hb5.mono HB0.out.size))
  have HK5 := hide (HK0.out.later hb5)
  have HX5 : Hid (OwnB 2 w5 (w.heap.size + 1) [(x : Int)]) := hide ((HX0.out.own).later hb5 HX0.out.lt)
  have HP5 : Hid (Blk w5 w0.heap.size 43 [.slice C m cc]) := hide (by rw [hw5]; exact Blk.new _ _ _)
  have HS5 : Hid (w5.heap.size = w.heap.size + 3) := hide (by rw [hw5]; have := HS0.out; simp; omega)
  have hpz : w0.heap.size = w.heap.size + 2 := HS0.out
  clear hw5 hb5
  rw [hpz] at HP5 ⊢
  obtain ⟨W0, hW0⟩ : ∃ q, w.heap.size = q := ⟨_, rfl⟩
  have HW0 := hide hW0
  clear hpz
  rw [hW0] at HK5 HX5 HP5 HS5 ⊢
  clear hW0
  go_wp2_with fail
  have hW0w : w.heap.size = W0 := HW0.out
  have h0 : ∀ L, w5.heap.size ≤ L → BoxI w w5.heap.size [(W0, 27, [.slice (some ⟨bA, oA, none⟩) n c, .slice B n d])] (W0 + 1) 2 [((acIn f xs x 0 : Nat) : Int)] L (fun b => b < w.heap.size ∨ b = W0 + 2) w5 := fun L hL => by
    have hs1 := HS5.out
    refine ⟨HB5.out, ?_, HX5.out, fun h => by rcases h with h | h <;> omega, by omega, by omega, by omega⟩
    simp only [List.forall_mem_cons]
    exact ⟨⟨HK5.out, by omega, by omega, by omega, by omega⟩, fun p hp => absurd hp List.not_mem_nil⟩
  refine (wpIn_wide (n := 5)).1 ?_
  refine wpIn_iterN (gf := 140) (lb := #[.pointer (some ⟨W0 + 2, 0, none⟩)]) rfl (enters_of Try.func140 (by kernel_rfl) rfl) (N := m) (U0 := fun b => b < w.heap.size ∨ b = W0 + 2) (bwdI_any C m cc xs (W0 + 2) _ w w5 (by have := HM.out; omega) (by omega) HR.out HB5.out (fun b hb => .inl hb) (.inr rfl) HP5.out 5) (fun t L v U W h => by rw [h]; rfl) (fun t L v U W W' h hk => h) (fun b hb => by have hs1 := HS5.out; rcases hb with h | h <;> omega)
    (fun t L U W => BoxI w w5.heap.size [(W0, 27, [.slice (some ⟨bA, oA, none⟩) n c, .slice B n d])] (W0 + 1) 2 [((acIn f xs x t : Nat) : Int)] L U W) (fun _ _ _ _ _ => False)
    (fun t L U U' W W' hL h hs hu => h.step (by have hs1 := HS5.out; omega) hs hu)
    (fun t L U W b o o' hb hb2 _ ho hc h => h.put o' hb (by have hs1 := HS5.out; omega)) (fun _ _ _ _ _ _ _ _ _ _ _ _ h => h)
    (fun L hL => h0 L (by omega)) (fun t v a' W => t < m → ∃ (u4 u6 u7 u9 u10 u11 u12 u13 u14 u15 u16 u17 u18 u19 u20 u21 : Value), a' = { tmps := #[.agg #[.slice (some ⟨bA, oA, none⟩) n c, .slice B n d], .slice C m cc, .int .i64 (x : Int), .pointer (some ⟨W0, 0, none⟩), u4, .pointer (some ⟨W0 + 1, 0, none⟩), u6, u7, .int .i64 ((elN xs (m - 1 - t) : Nat) : Int), u9, u10, u11, u12, u13, u14, u15, u16, u17, u18, u19, u20, u21], defers := [] }) (fun t v a' W b o o' hb ho hc h => h) ?assign ?body ?done ?stop
  case assign =>
    intro l t L v U W K' hT hsz hK
    subst hT
    gi_wp2
    refine hK _ _ (Below.refl _ _) fun htk => ?_
    have hel := (HTP.out.el (j := m - 1 - t) (by have := HM.out; omega)).1
    first | rw [hel] | (rw [List.getD_eq_getElem?_getD] at hel; rw [hel])
    exact ⟨_, _, _, _, _, _, _, _, _, _, _, _, _, _, _, _, rfl⟩
  case body =>
    rintro l t L v U a' W htk hL hUU hI hT hax hsz
    obtain ⟨u4, u6, u7, u9, u10, u11, u12, u13, u14, u15, u16, u17, u18, u19, u20, u21, rfl⟩ := hax htk
    have hbx := hI.bx
    simp only [List.forall_mem_cons] at hbx
    obtain ⟨b1, _⟩ := hbx
    have s0 := b1.1.cell 0 _ rfl
    have hxm : xs.length = m := HM.out
    have hxn := (HTP.out.el (j := m - 1 - t) (by omega)).2
    have hcur := acIn_lt HP.out.1 HN.out HTP.out hx t (by omega)
    have r0 := hI.own.cell (i := 0) (by simp)
    have rf := hI.own.frozen 0
    obtain ⟨bx, ox, cx, q1, q2, q3⟩ := HCA.out (elN xs (m - 1 - t)) hxn
    have q4 := q3 _ hcur
    replace q1 := (hI.below.cell (p := ⟨bA, oA + elN xs (m - 1 - t), none⟩) HBA.out).trans q1
    replace q4 := (hI.below.cell (p := ⟨bx, ox + acIn f xs x t, none⟩) q2).trans q4
    have hsv : ap f (elN xs (m - 1 - t)) (acIn f xs x t) = acIn f xs x (t + 1) := by rw [← hxm]; rfl
    rw [hsv] at q4
    obtain ⟨y, hy⟩ : ∃ y, elN xs (m - 1 - t) = y := ⟨_, rfl⟩
    obtain ⟨u, hu⟩ : ∃ u, acIn f xs x t = u := ⟨_, rfl⟩
    obtain ⟨v2, hv2⟩ : ∃ v, acIn f xs x (t + 1) = v := ⟨_, rfl⟩
    rw [hy] at hxn q1 ⊢
    rw [hu] at hcur r0 q4 hI
    rw [hv2] at q4
    have HV2 := hide hv2
    have r1 : W.cell? ⟨W0 + 1, 0, none⟩ = some (.int .i64 (u : Int)) := r0
    have hyz : (y : Int) < n := by omega
    have huz : (u : Int) < n := by omega
    have HI := hide hI
    have hmx : Try.prog.follows Departure.mixedOrders = true := by kernel_rfl
    clear hI b1 q3 hu hv2 hsv hax hT h0 r0 hy
    gi_wp2
    refine wpIn_round_tail 8 hmx (by kernel_rfl) (by rfl) (fun ⟨_, _, h⟩ => h) ?_
    simp only [List.take_succ_cons, List.take_zero, List.drop_succ_cons, List.drop_zero]
    repeat still_step
    try refine wpStill_nil ?_
    go_wp2_with fail
    obtain ⟨k1, k2, k3⟩ := BoxI.next (i := 0) (v := (v2 : Int)) (W1 := (W.setCell ⟨W0 + 1, 0, none⟩ (.int .i64 (v2 : Int))).drew) HI.out (by simp) rfl
    exact ⟨k1, k2, by have h := HV2.out; subst h; exact k3⟩
  case done =>
    rintro L U W hI hD
    have ho := hI.own.cell (i := 0) (by simp)
    have hob : W.cell? ⟨W0 + 1, 0, none⟩ = some (.int .i64 ((acIn f xs x m : Nat) : Int)) := ho
    have HIB := hide hI.below
    have HD := hide hD
    have hs1 := HS5.out
    clear hI hD h0 ho
    gi_wp2
    go_wp2_with fail
    refine leaves_mks [w5.heap.size] _ (by simp) (fun D hD' => by simp at hD'; subst hD'; exact HD.out) ?_
    have hcl : Below w.heap.size w (closeW [w5.heap.size] W) := closeW_below [w5.heap.size] W HIB.out (fun D hD' => by simp at hD'; omega)
    exact ⟨.int .i64 ((acIn f xs x m : Nat) : Int), (results_tmp (t := 6) rfl _ _ _).trans rfl, rfl, hcl⟩
  case stop =>
    rintro c k L U W _ h _
    exact h.elim
end Go.Proofs.Ythknnpkalhachaa
