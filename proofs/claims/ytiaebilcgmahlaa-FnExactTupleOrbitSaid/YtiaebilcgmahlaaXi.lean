import Derived.Test.YtiaebilcgmahlaaXf
import Derived.Test.YtiaebilcgmahlaaXa
import Derived.Test.YtiaebilcgmahlaaXe
import Derived.Test.YtiaebilcgmahlaaXc
import Derived.Test.YtiaebilcgmahlaaXg
import Derived.Laws.BitsLemmas
import Derived.Test.YtiaebilcgmahlaaXd
import Derived.Test.YtiaebilcgmahlaaXh
namespace Go.Proofs.Ytiaebilcgmahlaa
open Go Go.RowKit
set_option maxHeartbeats 1000000

/-- Block b begins with three elements. -/
def L3 (w : World) (b x y z : Nat) : Prop := b < w.heap.size ∧ w.cell? ⟨b, 0, none⟩ = some (.int .i64 x) ∧ w.cell? ⟨b, 1, none⟩ = some (.int .i64 y) ∧ w.cell? ⟨b, 2, none⟩ = some (.int .i64 z)
theorem L3.later {w w' : World} {b x y z : Nat} (h : L3 w b x y z) (hb : Below w.heap.size w w') : L3 w' b x y z :=
  ⟨Nat.lt_of_lt_of_le h.1 hb.size, (hb.cell (p := ⟨b, 0, none⟩) h.1).trans h.2.1, (hb.cell (p := ⟨b, 1, none⟩) h.1).trans h.2.2.1, (hb.cell (p := ⟨b, 2, none⟩) h.1).trans h.2.2.2⟩
theorem L3.of_own {t : TypeId} {w : World} {g x y z : Nat} {xs : List Int} (h : OwnB t w g xs) (hx : xs = lst3 (x, y, z)) : L3 w g x y z := by
  subst hx
  exact ⟨h.lt, h.cell (i := 0) (by simp [lst3]), h.cell (i := 1) (by simp [lst3]), h.cell (i := 2) (by simp [lst3])⟩
theorem L3.own {w : World} {b x y z : Nat} (h : L3 w b x y z) : ∀ i, i < (lst3 (x, y, z)).length → w.cell? ⟨b, 0 + i, none⟩ = some (.int .i64 ((lst3 (x, y, z)).getD i 0)) := by
  intro i hi
  simp [lst3] at hi
  rcases i with _ | _ | _ | i
  · exact h.2.1
  · exact h.2.2.1
  · exact h.2.2.2
  · omega
theorem L3.rd {w : World} {b x y z : Nat} (h : L3 w b x y z) : Rd w (some ⟨b, 0, none⟩) (lst3 (x, y, z)) := fun _ => ⟨b, 0, rfl, h.1, h.own⟩

set_option maxRecDepth 100000 in
theorem do0_any (A : Option Addr) (n c : Nat) (f : List (List Int)) (B : Option Addr) (m d : Nat) (s : List (List Int)) (bc e : Nat) (x y z x' y' z' : Nat) (w : World) (hz : ZArg 1048576 w A n f B m s) (hp : PMap f s) (hi3 : In3 n (x, y, z)) (hdo : doAt f s 0 (x, y, z) = (x', y', z')) (hl : L3 w bc x y z) :
    Calls Try.prog 106 #[.agg #[.slice A n c, .slice B m d], .slice (some ⟨bc, 0, none⟩) 3 e, .int .i64 0] w fun e w' => ∃ g cap, e = .returned (.slice (some ⟨g, 0, none⟩) 3 cap) ∧ Below w.heap.size w w' ∧ w.heap.size ≤ g ∧ L3 w' g x' y' z' := by
  have HZ := hide hz
  have HP := hide hp
  have hnb := hz.sz.nb
  have hx : x < n := hi3.1
  have hy : y < n := hi3.2.1
  have hz' : z < n := hi3.2.2
  obtain rfl := hz.same hp
  have HL := hide hl
  have hbc := hl.1
  have HB0 := hide ((Below.refl _ w).alloc (Nat.le_refl _) (Obj.cells #[Value.slice A m c, Value.slice B m d] 29))
  have HK0 := hide (Blk.new w 29 [.slice A m c, .slice B m d])
  obtain ⟨u, hu⟩ : ∃ u, ap f x y = u := ⟨_, rfl⟩
  obtain ⟨v, hv⟩ : ∃ v, ap s x y = v := ⟨_, rfl⟩
  have hdo' : (u, v, z) = (x', y', z') := by rw [← hdo, ← hu, ← hv]; rfl
  injection hdo' with d1 d2
  injection d2 with d2 d3
  subst d1
  subst d2
  subst d3
  have HU := hide hu
  have HV := hide hv
  clear hz hp hl hi3 hdo hu hv
  go_enter Try.func106, Try.ntmps106
  go_wp2_with fail
  refine (own_any bc 0 3 e (lst3 (x, y, z)) _ rfl (by omega) (by have := HB0.out.size; omega) (HL.out.later HB0.out).own).mono ?_
  rintro e w1 ⟨v1, rfl, hb1, ho1⟩
  obtain ⟨A1, cap, hv, hres⟩ := own_shape ho1
  subst hv
  rcases hres with ⟨rfl, h⟩ | ⟨g, rfl, hg, how⟩
  · cases h
  have HB1 := hide (HB0.out.trans (hb1.mono HB0.out.size))
  have HK1 := hide (HK0.out.later hb1)
  have HL1 := hide ((HL.out.later HB0.out).later hb1)
  have HO1 := hide how
  have hgw : w.heap.size < g := by have := HK0.out.lt; omega
  clear hb1 ho1 how hg
  obtain ⟨bA, oA, bB, oB, bx, ox, cx, bY, oy, cy, rfl, rfl, h1, h2, h3, h4, l1, l2, l3, l4⟩ := HZ.out.reads HP.out hx hy
  rw [HU.out] at h3
  rw [HV.out] at h4
  have H2 := hide h2
  have H4 := hide h4
  have k0 := HK1.out.cell 0 _ rfl
  have k1 := HL1.out.2.1
  have k2 := HL1.out.2.2.1
  have r1 : w1.cell? ⟨bA, oA + x, none⟩ = some (.slice (some ⟨bx, ox, none⟩) m cx) := (HB1.out.cell (p := ⟨bA, oA + x, none⟩) l1).trans h1
  have r2 : w1.cell? ⟨bx, ox + y, none⟩ = some (.int .i64 u) := (HB1.out.cell (p := ⟨bx, ox + y, none⟩) l3).trans h3
  have g0 := HO1.out.cell (i := 0) (by simp [lst3])
  have g1 := HO1.out.frozen 0
  have n1 : g ≠ w.heap.size := by omega
  have n2 : g ≠ bc := by omega
  have n3 : g ≠ bA := by omega
  have n4 : g ≠ bx := by omega
  have n5 := n1.symm
  have n6 := n2.symm
  have n7 := n3.symm
  have n8 := n4.symm
  have az : (x : Int) < m := by omega
  have bz : (y : Int) < m := by omega
  have az0 : (0 : Int) ≤ x := by omega
  have bz0 : (0 : Int) ≤ y := by omega
  clear h1 h2 h3 h4
  have hw1 : IntKind.i64.wrap 1 = 1 := IntWalk.i64_in _ (by omega)
  have hw2 : IntKind.i64.wrap 2 = 2 := IntWalk.i64_in _ (by omega)
  go_wp2_with fail
  go_region_held3 (fun w' => w'.cell? ⟨w.heap.size, 0, none⟩ = some (.slice (some ⟨bA, oA, none⟩) m c) ∧ w'.cell? ⟨bc, 0, none⟩ = some (.int .i64 x) ∧ w'.cell? ⟨bc, 1, none⟩ = some (.int .i64 y) ∧ w'.cell? ⟨bA, oA + x, none⟩ = some (.slice (some ⟨bx, ox, none⟩) m cx) ∧ w'.cell? ⟨bx, ox + y, none⟩ = some (.int .i64 u)) (first | exact ⟨k0, k1, k2, r1, r2⟩ | go_keep) (first | fail)
  clear k0 k1 k2 r1 r2 g0 g1
  refine ex_gen (Q := Exit.then _ _) fun w2 hww2 => ?_
  have ht : Touch g (g + 1) w1 w2 := by rw [hww2]; exact ⟨rfl, rfl, rfl, by simp [World.setCell], fun k _ hne => by first | exact Below.heap_setCell w1 ⟨g, 0, none⟩ _ k (by show k ≠ g; omega) | exact (Below.heap_setCell w1.drew ⟨g, 0, none⟩ _ k (by show k ≠ g; omega))⟩
  have HO2 : Hid (OwnB 2 w2 g ((lst3 (x, y, z)).set 0 (u : Int))) := hide (by rw [hww2]; first | exact HO1.out.set 0 u (by simp [lst3]) | exact OwnB.set (w := w1.drew) HO1.out 0 u (by simp [lst3]))
  have HB2 := hide (ht.below HB1.out HB1.out.size (by omega))
  have HK2 := hide (HK1.out.touch ht (.inl (by omega)))
  have k0 := HK2.out.cell 1 _ rfl
  have k1 : w2.cell? ⟨bc, 0, none⟩ = some (.int .i64 x) := (World.cell?_of_block (a := ⟨bc, 0, none⟩) (ht.block bc HL1.out.1 (.inl (by omega)))).trans HL1.out.2.1
  have k2 : w2.cell? ⟨bc, 1, none⟩ = some (.int .i64 y) := (World.cell?_of_block (a := ⟨bc, 1, none⟩) (ht.block bc HL1.out.1 (.inl (by omega)))).trans HL1.out.2.2.1
  have r1 : w2.cell? ⟨bB, oB + x, none⟩ = some (.slice (some ⟨bY, oy, none⟩) m cy) := (HB2.out.cell (p := ⟨bB, oB + x, none⟩) l2).trans H2.out
  have r2 : w2.cell? ⟨bY, oy + y, none⟩ = some (.int .i64 v) := (HB2.out.cell (p := ⟨bY, oy + y, none⟩) l4).trans H4.out
  have g0 := HO2.out.cell (i := 1) (by simp [lst3])
  have g1 := HO2.out.frozen 1
  have n3 : g ≠ bB := by omega
  have n4 : g ≠ bY := by omega
  have n7 := n3.symm
  have n8 := n4.symm
  clear hww2 ht
  go_wp2_with fail
  go_region_held3 (fun w' => w'.cell? ⟨w.heap.size, 1, none⟩ = some (.slice (some ⟨bB, oB, none⟩) m d) ∧ w'.cell? ⟨bc, 0, none⟩ = some (.int .i64 x) ∧ w'.cell? ⟨bc, 1, none⟩ = some (.int .i64 y) ∧ w'.cell? ⟨bB, oB + x, none⟩ = some (.slice (some ⟨bY, oy, none⟩) m cy) ∧ w'.cell? ⟨bY, oy + y, none⟩ = some (.int .i64 v)) (first | exact ⟨k0, k1, k2, r1, r2⟩ | go_keep) (first | fail)
  clear k0 k1 k2 r1 r2 g0 g1
  refine ex_gen (Q := Exit.then _ _) fun w3 hw3 => ?_
  have HO3 : Hid (OwnB 2 w3 g (((lst3 (x, y, z)).set 0 (u : Int)).set 1 (v : Int))) := hide (by rw [hw3]; first | exact HO2.out.set 1 v (by simp [lst3]) | exact OwnB.set (w := w2.drew) HO2.out 1 v (by simp [lst3]))
  have HB3 : Hid (Below w.heap.size w w3) := hide (by rw [hw3]; first | exact HB2.out.setCell (p := ⟨g, 1, none⟩) (by show w.heap.size ≤ g; omega) _ | exact HB2.out.drew.setCell (p := ⟨g, 1, none⟩) (by show w.heap.size ≤ g; omega) _)
  clear hw3
  go_wp2_with fail
  go_ret
  exact ⟨g, cap, rfl, HB3.out, by omega, L3.of_own HO3.out rfl⟩

set_option maxRecDepth 100000 in
theorem do1_any (A : Option Addr) (n c : Nat) (f : List (List Int)) (B : Option Addr) (m d : Nat) (s : List (List Int)) (bc e : Nat) (x y z x' y' z' : Nat) (w : World) (hz : ZArg 1048576 w A n f B m s) (hp : PMap f s) (hi3 : In3 n (x, y, z)) (hdo : doAt f s 1 (x, y, z) = (x', y', z')) (hl : L3 w bc x y z) :
    Calls Try.prog 106 #[.agg #[.slice A n c, .slice B m d], .slice (some ⟨bc, 0, none⟩) 3 e, .int .i64 1] w fun e w' => ∃ g cap, e = .returned (.slice (some ⟨g, 0, none⟩) 3 cap) ∧ Below w.heap.size w w' ∧ w.heap.size ≤ g ∧ L3 w' g x' y' z' := by
  have HZ := hide hz
  have HP := hide hp
  have hnb := hz.sz.nb
  have hx : x < n := hi3.1
  have hy : y < n := hi3.2.1
  have hz' : z < n := hi3.2.2
  obtain rfl := hz.same hp
  have HL := hide hl
  have hbc := hl.1
  have HB0 := hide ((Below.refl _ w).alloc (Nat.le_refl _) (Obj.cells #[Value.slice A m c, Value.slice B m d] 29))
  have HK0 := hide (Blk.new w 29 [.slice A m c, .slice B m d])
  obtain ⟨u, hu⟩ : ∃ u, ap f y z = u := ⟨_, rfl⟩
  obtain ⟨v, hv⟩ : ∃ v, ap s y z = v := ⟨_, rfl⟩
  have hdo' : (x, u, v) = (x', y', z') := by rw [← hdo, ← hu, ← hv]; rfl
  injection hdo' with d1 d2
  injection d2 with d2 d3
  subst d1
  subst d2
  subst d3
  have HU := hide hu
  have HV := hide hv
  clear hz hp hl hi3 hdo hu hv
  go_enter Try.func106, Try.ntmps106
  go_wp2_with fail
  refine (own_any bc 0 3 e (lst3 (x, y, z)) _ rfl (by omega) (by have := HB0.out.size; omega) (HL.out.later HB0.out).own).mono ?_
  rintro e w1 ⟨v1, rfl, hb1, ho1⟩
  obtain ⟨A1, cap, hv, hres⟩ := own_shape ho1
  subst hv
  rcases hres with ⟨rfl, h⟩ | ⟨g, rfl, hg, how⟩
  · cases h
  have HB1 := hide (HB0.out.trans (hb1.mono HB0.out.size))
  have HK1 := hide (HK0.out.later hb1)
  have HL1 := hide ((HL.out.later HB0.out).later hb1)
  have HO1 := hide how
  have hgw : w.heap.size < g := by have := HK0.out.lt; omega
  clear hb1 ho1 how hg
  obtain ⟨bA, oA, bB, oB, bx, ox, cx, bY, oy, cy, rfl, rfl, h1, h2, h3, h4, l1, l2, l3, l4⟩ := HZ.out.reads HP.out hy hz'
  rw [HU.out] at h3
  rw [HV.out] at h4
  have H2 := hide h2
  have H4 := hide h4
  have k0 := HK1.out.cell 0 _ rfl
  have k1 := HL1.out.2.2.1
  have k2 := HL1.out.2.2.2
  have r1 : w1.cell? ⟨bA, oA + y, none⟩ = some (.slice (some ⟨bx, ox, none⟩) m cx) := (HB1.out.cell (p := ⟨bA, oA + y, none⟩) l1).trans h1
  have r2 : w1.cell? ⟨bx, ox + z, none⟩ = some (.int .i64 u) := (HB1.out.cell (p := ⟨bx, ox + z, none⟩) l3).trans h3
  have g0 := HO1.out.cell (i := 1) (by simp [lst3])
  have g1 := HO1.out.frozen 1
  have n1 : g ≠ w.heap.size := by omega
  have n2 : g ≠ bc := by omega
  have n3 : g ≠ bA := by omega
  have n4 : g ≠ bx := by omega
  have n5 := n1.symm
  have n6 := n2.symm
  have n7 := n3.symm
  have n8 := n4.symm
  have az : (y : Int) < m := by omega
  have bz : (z : Int) < m := by omega
  have az0 : (0 : Int) ≤ y := by omega
  have bz0 : (0 : Int) ≤ z := by omega
  clear h1 h2 h3 h4
  have hw1 : IntKind.i64.wrap 1 = 1 := IntWalk.i64_in _ (by omega)
  have hw2 : IntKind.i64.wrap 2 = 2 := IntWalk.i64_in _ (by omega)
  go_wp2_with fail
  go_region_held3 (fun w' => w'.cell? ⟨w.heap.size, 0, none⟩ = some (.slice (some ⟨bA, oA, none⟩) m c) ∧ w'.cell? ⟨bc, 1, none⟩ = some (.int .i64 y) ∧ w'.cell? ⟨bc, 2, none⟩ = some (.int .i64 z) ∧ w'.cell? ⟨bA, oA + y, none⟩ = some (.slice (some ⟨bx, ox, none⟩) m cx) ∧ w'.cell? ⟨bx, ox + z, none⟩ = some (.int .i64 u)) (first | exact ⟨k0, k1, k2, r1, r2⟩ | go_keep) (first | fail)
  clear k0 k1 k2 r1 r2 g0 g1
  refine ex_gen (Q := Exit.then _ _) fun w2 hww2 => ?_
  have ht : Touch g (g + 1) w1 w2 := by rw [hww2]; exact ⟨rfl, rfl, rfl, by simp [World.setCell], fun k _ hne => by first | exact Below.heap_setCell w1 ⟨g, 1, none⟩ _ k (by show k ≠ g; omega) | exact (Below.heap_setCell w1.drew ⟨g, 1, none⟩ _ k (by show k ≠ g; omega))⟩
  have HO2 : Hid (OwnB 2 w2 g ((lst3 (x, y, z)).set 1 (u : Int))) := hide (by rw [hww2]; first | exact HO1.out.set 1 u (by simp [lst3]) | exact OwnB.set (w := w1.drew) HO1.out 1 u (by simp [lst3]))
  have HB2 := hide (ht.below HB1.out HB1.out.size (by omega))
  have HK2 := hide (HK1.out.touch ht (.inl (by omega)))
  have k0 := HK2.out.cell 1 _ rfl
  have k1 : w2.cell? ⟨bc, 1, none⟩ = some (.int .i64 y) := (World.cell?_of_block (a := ⟨bc, 1, none⟩) (ht.block bc HL1.out.1 (.inl (by omega)))).trans HL1.out.2.2.1
  have k2 : w2.cell? ⟨bc, 2, none⟩ = some (.int .i64 z) := (World.cell?_of_block (a := ⟨bc, 2, none⟩) (ht.block bc HL1.out.1 (.inl (by omega)))).trans HL1.out.2.2.2
  have r1 : w2.cell? ⟨bB, oB + y, none⟩ = some (.slice (some ⟨bY, oy, none⟩) m cy) := (HB2.out.cell (p := ⟨bB, oB + y, none⟩) l2).trans H2.out
  have r2 : w2.cell? ⟨bY, oy + z, none⟩ = some (.int .i64 v) := (HB2.out.cell (p := ⟨bY, oy + z, none⟩) l4).trans H4.out
  have g0 := HO2.out.cell (i := 2) (by simp [lst3])
  have g1 := HO2.out.frozen 2
  have n3 : g ≠ bB := by omega
  have n4 : g ≠ bY := by omega
  have n7 := n3.symm
  have n8 := n4.symm
  clear hww2 ht
  go_wp2_with fail
  go_region_held3 (fun w' => w'.cell? ⟨w.heap.size, 1, none⟩ = some (.slice (some ⟨bB, oB, none⟩) m d) ∧ w'.cell? ⟨bc, 1, none⟩ = some (.int .i64 y) ∧ w'.cell? ⟨bc, 2, none⟩ = some (.int .i64 z) ∧ w'.cell? ⟨bB, oB + y, none⟩ = some (.slice (some ⟨bY, oy, none⟩) m cy) ∧ w'.cell? ⟨bY, oy + z, none⟩ = some (.int .i64 v)) (first | exact ⟨k0, k1, k2, r1, r2⟩ | go_keep) (first | fail)
  clear k0 k1 k2 r1 r2 g0 g1
  refine ex_gen (Q := Exit.then _ _) fun w3 hw3 => ?_
  have HO3 : Hid (OwnB 2 w3 g (((lst3 (x, y, z)).set 1 (u : Int)).set 2 (v : Int))) := hide (by rw [hw3]; first | exact HO2.out.set 2 v (by simp [lst3]) | exact OwnB.set (w := w2.drew) HO2.out 2 v (by simp [lst3]))
  have HB3 : Hid (Below w.heap.size w w3) := hide (by rw [hw3]; first | exact HB2.out.setCell (p := ⟨g, 2, none⟩) (by show w.heap.size ≤ g; omega) _ | exact HB2.out.drew.setCell (p := ⟨g, 2, none⟩) (by show w.heap.size ≤ g; omega) _)
  clear hw3
  go_wp2_with fail
  go_ret
  exact ⟨g, cap, rfl, HB3.out, by omega, L3.of_own HO3.out rfl⟩
end Go.Proofs.Ytiaebilcgmahlaa
namespace Go.Proofs.Ytiaebilcgmahlaa
open Go Go.RowKit

/-- Element x is in the set. -/
def inb (S x : Nat) : Prop := S.testBit x = true
instance (S x : Nat) : Decidable (inb S x) := inferInstanceAs (Decidable (_ = _))
theorem inb_iff (S x : Nat) : inb S x ↔ S / 2 ^ x % 2 = 1 := by
  unfold inb
  rw [Nat.testBit_eq_decide_div_mod_eq]
  simp
theorem inb_eq {S T : Nat} (h : ∀ x, inb S x ↔ inb T x) : S = T := by
  apply Nat.eq_of_testBit_eq
  intro i
  have h1 := h i
  unfold inb at h1
  cases hs : S.testBit i <;> cases ht : T.testBit i <;> simp_all
theorem inb_zero (x : Nat) : ¬ inb 0 x := by simp [inb]
theorem inb_or (S p x : Nat) : inb (S ||| 2 ^ p) x ↔ inb S x ∨ x = p := by
  unfold inb
  rw [Nat.testBit_or, Nat.testBit_two_pow]
  simp
  constructor
  · rintro (h | h)
    · exact .inl h
    · exact .inr h.symm
  · rintro (h | h)
    · exact .inl h
    · exact .inr h.symm
theorem inb_lt {S x k : Nat} (hS : S < 2 ^ k) (h : inb S x) : x < k := by
  by_cases hx : x < k
  · exact hx
  · have : S.testBit x = false := Nat.testBit_lt_two_pow (Nat.lt_of_lt_of_le hS (Nat.pow_le_pow_right (by decide) (by omega)))
    unfold inb at h
    rw [this] at h
    cases h
theorem set_lt {S k : Nat} (h : ∀ x, inb S x → x < k) : S < 2 ^ k := by
  apply Nat.lt_pow_two_of_testBit
  intro i hi
  by_cases hb : S.testBit i = true
  · exact absurd (h i hb) (by omega)
  · simpa using hb
theorem or_lt {S p k : Nat} (h : S < 2 ^ k) (hp : p < k) : S ||| 2 ^ p < 2 ^ k := Nat.or_lt_two_pow h (Nat.pow_lt_pow_right (by decide) hp)
theorem set_sub_le {S T : Nat} (h : ∀ x, inb S x → inb T x) : S ≤ T := by
  have e : S &&& T = S := by
    apply Nat.eq_of_testBit_eq
    intro i
    rw [Nat.testBit_and]
    cases hs : S.testBit i
    · simp
    · have := h i hs
      unfold inb at this
      simp [this]
  rw [← e]
  exact Nat.and_le_right
theorem bt_shr (S x : Nat) (h : x ≤ 64) : (S : Int) / 2 ^ min x 64 = ((S / 2 ^ x : Nat) : Int) := by
  rw [Nat.min_eq_left h]; simp
theorem bt_one (q : Nat) (h : q < 4611686018427387904) : bits .and .i64 (q : Int) 1 = ((q % 2 : Nat) : Int) := by
  have h1 := (bits_nat .i64 62 (by decide) (fun n h0 h1 => by rw [IntKind.wrap_i64]; omega) q 1 (by simpa using h) (by decide)).1
  rw [show ((1 : Int)) = ((1 : Nat) : Int) by rfl, h1, Nat.and_one_is_mod]
theorem bt_in {S k : Nat} (h : S < 4611686018427387904) (hi : inb S k) : bits .and .i64 ((S : Int) / 2 ^ k) 1 = 1 := by
  have e : (S : Int) / 2 ^ k = ((S / 2 ^ k : Nat) : Int) := by simp
  rw [e, bt_one _ (Nat.lt_of_le_of_lt (Nat.div_le_self _ _) h), (inb_iff S k).1 hi]; rfl
theorem bt_out {S k : Nat} (h : S < 4611686018427387904) (hi : ¬ inb S k) : bits .and .i64 ((S : Int) / 2 ^ k) 1 = 0 := by
  have e : (S : Int) / 2 ^ k = ((S / 2 ^ k : Nat) : Int) := by simp
  have h2 : S / 2 ^ k % 2 = 0 := by
    rcases Nat.mod_two_eq_zero_or_one (S / 2 ^ k) with h2 | h2
    · exact h2
    · exact absurd ((inb_iff S k).2 h2) hi
  rw [e, bt_one _ (Nat.lt_of_le_of_lt (Nat.div_le_self _ _) h), h2]; rfl
theorem bt_or (S p : Nat) (h : S < 4611686018427387904) (hp : p < 4611686018427387904) : bits .or .i64 (S : Int) (p : Int) = ((S ||| p : Nat) : Int) :=
  (bits_nat .i64 62 (by decide) (fun n h0 h1 => by rw [IntKind.wrap_i64]; omega) S p (by simpa using h) (by simpa using hp)).2
theorem bt_shl (x : Nat) (h : x ≤ 64) : (2 : Int) ^ min x 64 = ((2 ^ x : Nat) : Int) := by
  rw [Nat.min_eq_left h]; simp

/-- A set that has x > y with any two of its elements. -/
def ClosedF (f : List (List Int)) (S : Nat) : Prop := ∀ x y, inb S x → inb S y → inb S (ap f x y)
/-- The set with all x > y. -/
def GrF (f : List (List Int)) (S V : Nat) : Prop := ∀ t, inb V t ↔ inb S t ∨ ∃ x y, inb S x ∧ inb S y ∧ ap f x y = t
theorem GrF.closed {f : List (List Int)} {S V : Nat} (h : GrF f S V) : V = S ↔ ClosedF f S := by
  constructor
  · rintro rfl x y hx hy
    exact (h _).2 (.inr ⟨x, y, hx, hy, rfl⟩)
  · intro hc
    apply inb_eq
    intro t
    rw [h t]
    constructor
    · rintro (h1 | ⟨x, y, hx, hy, rfl⟩)
      · exact h1
      · exact hc x y hx hy
    · exact .inl
/-- The elements of a set, in ascending order. -/
def mems (k S : Nat) : List Nat := (List.range k).filter fun x => S.testBit x
theorem mems_mem (k S x : Nat) : x ∈ mems k S ↔ x < k ∧ inb S x := by simp [mems, inb]
theorem mems_succ (k S : Nat) : mems (k + 1) S = if inb S k then mems k S ++ [k] else mems k S := by
  unfold mems
  rw [List.range_succ, List.filter_append]
  by_cases h : inb S k
  · have h2 : S.testBit k = true := h
    rw [if_pos h]; simp [h2]
  · have h2 : S.testBit k = false := by simpa [inb] using h
    rw [if_neg h]; simp [h2]
theorem mems_length (k S : Nat) : (mems k S).length ≤ k := by
  unfold mems
  have := List.length_filter_le (fun x => S.testBit x) (List.range k)
  simpa using this
theorem mems_more {S k : Nat} (hS : S < 2 ^ k) (j : Nat) (h : k ≤ j) : mems j S = mems k S := by
  induction j with
  | zero => have : k = 0 := by omega
            subst this; rfl
  | succ j ih =>
    by_cases e : k = j + 1
    · rw [e]
    · rw [mems_succ, if_neg (fun h2 => by have := inb_lt hS h2; omega), ih (by omega)]
def memL (k S : Nat) : List Int := (mems k S).map fun (x : Nat) => (x : Int)
theorem memL_length (k S : Nat) : (memL k S).length = (mems k S).length := by simp [memL]
theorem memL_getD (k S i : Nat) (h : i < (mems k S).length) : (memL k S).getD i 0 = ((mems k S).getD i 0 : Nat) := by simp [memL, h]
theorem memL_succ (k S : Nat) : ints (memL (k + 1) S) = if inb S k then ints (memL k S) ++ [.int .i64 k] else ints (memL k S) := by
  unfold memL
  rw [mems_succ]
  split
  · simp [ints]
  · rfl
end Go.Proofs.Ytiaebilcgmahlaa
namespace Go.Proofs.Ytiaebilcgmahlaa
open Go Go.RowKit
/-- Whether three elements show that a dot table is no cycle set. -/
def cyq (f : List (List Int)) : Nat → Nat → Nat → Bool := fun x y z => !decide (ap f (ap f x y) (ap f x z) = ap f (ap f y x) (ap f y z))
/-- What a cycle set is. -/
def Cyc (f : List (List Int)) : Prop := (Tbl f ∧ AllPrm f) ∧ Prm (kinkL f) ∧ ∀ i, i < f.length * f.length * f.length → qAt (cyq f) f.length i = false
theorem Cyc.tbl {f : List (List Int)} (h : Cyc f) : Tbl f := h.1.1
theorem Cyc.prm {f : List (List Int)} (h : Cyc f) : AllPrm f := h.1.2
theorem Cyc.le {f : List (List Int)} (h : Cyc f) : f.length ≤ 12 := h.tbl.2.1
def CyRes (f : List (List Int)) (r : Bool) : Prop := r = true ↔ Cyc f
theorem CyRes.ex (f : List (List Int)) : ∃ r, CyRes f r := bool_of _
def CyFRes (f : List (List Int)) (zs : List Int) (code : Int) : Prop :=
  (∃ T, Tbl f ∧ FirstQ (cyq f) f.length T ∧ ((T < f.length * f.length * f.length ∧ zs = lst3 (trip f.length T) ∧ code = 0) ∨ (T = f.length * f.length * f.length ∧ zs = [] ∧ code = 4))) ∨ (¬ Tbl f ∧ zs = [] ∧ code = 1)
theorem CyFRes.ex (f : List (List Int)) : ∃ zs code, CyFRes f zs code ∧ zs.length ≤ 1048576 := by
  by_cases h : Tbl f
  · obtain ⟨T, hT⟩ := FirstQ.ex (cyq f) f.length
    by_cases h2 : T < f.length * f.length * f.length
    · exact ⟨_, _, .inl ⟨T, h, hT, .inl ⟨h2, rfl, rfl⟩⟩, by simp [lst3]⟩
    · exact ⟨_, _, .inl ⟨T, h, hT, .inr ⟨by have := hT.2.1; omega, rfl, rfl⟩⟩, by simp⟩
  · exact ⟨_, _, .inr ⟨h, rfl, rfl⟩, by simp⟩
def DqRes (f : List (List Int)) (zs : List Int) (code : Int) : Prop := (Tbl f ∧ zs = kinkL f ∧ code = 0) ∨ (¬ Tbl f ∧ zs = [] ∧ code = 1)
theorem DqRes.ex (f : List (List Int)) : ∃ zs code, DqRes f zs code ∧ zs.length ≤ 1048576 := by
  by_cases h : Tbl f
  · exact ⟨_, _, .inl ⟨h, rfl, rfl⟩, by rw [kinkL_length]; have := h.2.1; omega⟩
  · exact ⟨_, _, .inr ⟨h, rfl, rfl⟩, by simp⟩
end Go.Proofs.Ytiaebilcgmahlaa
namespace Go.Proofs.Ytiaebilcgmahlaa
open Go Go.RowKit
open Classical
/-- The permutations of a group, in order, if there are at most 1000. -/
def GrpR (n : Nat) (rows : List (List Int)) (zs : List (List Int)) (code : Int) : Prop := (Enu n rows zs ∧ Asc zs ∧ zs.length ≤ 1000 ∧ code = 0) ∨ (¬ AtMost n rows 1000 ∧ zs = [] ∧ code = 3)
theorem asc_ex (L : List (List Int)) (hnd : L.Nodup) : ∃ L' : List (List Int), Asc L' ∧ L'.length = L.length ∧ ∀ x, x ∈ L' ↔ x ∈ L := by
  rcases Nat.eq_zero_or_pos L.length with h0 | h0
  · exact ⟨[], by simp [Asc], by simp [h0], fun x => by rw [List.eq_nil_of_length_eq_zero h0]⟩
  · obtain ⟨M, hM⟩ : ∃ M, L.length = M + 1 := ⟨L.length - 1, by omega⟩
    let R : Fin (M + 1) → List Int := fun i => L.getD i.val []
    have hinj : ∀ x y, R x = R y → x = y := fun x y e => by
      have h1 : x.val < L.length := by omega
      have h2 : y.val < L.length := by omega
      have e2 : L[x.val] = L[y.val] := by simpa [R, h1, h2] using e
      exact Fin.ext ((List.getElem_inj (h₀ := h1) (h₁ := h2) hnd).1 e2)
    refine ⟨(srtI R).map R, srtI_asc R hinj, by simp [srtI_len, hM], fun x => ⟨fun hx => ?_, fun hx => ?_⟩⟩
    · obtain ⟨i, _, rfl⟩ := List.mem_map.1 hx
      have : i.val < L.length := by omega
      simp [R, this]
    · obtain ⟨j, hj, rfl⟩ := List.getElem_of_mem hx
      refine List.mem_map.2 ⟨⟨j, by omega⟩, srtI_mem R _, ?_⟩
      simp [R, hj]
theorem Enu.sorted {n : Nat} {rows L L' : List (List Int)} (h : Enu n rows L) (ha : Asc L') (hm : ∀ x, x ∈ L' ↔ x ∈ L) : Enu n rows L' := ⟨ha.nodup, fun x => (hm x).trans (h.2 x)⟩
theorem Enu.ascEq {n : Nat} {rows L L' : List (List Int)} (h : Enu n rows L) (h' : Enu n rows L') (ha : Asc L) (ha' : Asc L') : L = L' := Asc.eq ha ha' (fun x => (h.2 x).trans (h'.2 x).symm)
theorem Enu.rows {n : Nat} {rows L : List (List Int)} (h1 : 1 ≤ n) (h12 : n ≤ 12) (hg : Gens rows n) (h : Enu n rows L) (i : Nat) (hi : i < L.length) : (L.getD i []).length = n := by
  have hm : L.getD i [] ∈ L := by simp [hi]
  exact (gen_prm h1 h12 hg ((h.2 _).1 hm)).1
theorem Enu.pos {n : Nat} {rows L : List (List Int)} (h : Enu n rows L) : 0 < L.length := by
  have hm := (h.2 (unitN n)).2 .unit
  cases L with
  | nil => simp at hm
  | cons a t => simp
theorem GrpR.ex (n : Nat) (rows : List (List Int)) : ∃ zs code, GrpR n rows zs code := by
  by_cases h : AtMost n rows 1000
  · obtain ⟨L, hE, hl⟩ := h
    obtain ⟨L', ha, hl', hm⟩ := asc_ex L hE.1
    exact ⟨L', 0, .inl ⟨hE.sorted ha hm, ha, by omega, rfl⟩⟩
  · exact ⟨[], 3, .inr ⟨h, rfl, rfl⟩⟩
theorem GrpR.size {n : Nat} {rows zs : List (List Int)} {code : Int} (h1 : 1 ≤ n) (h12 : n ≤ 12) (hg : Gens rows n) (h : GrpR n rows zs code) : zs.length ≤ 1048576 ∧ ∀ i, i < zs.length → (zs.getD i []).length ≤ 1048576 := by
  rcases h with ⟨hE, _, hl, _⟩ | ⟨_, rfl, _⟩
  · exact ⟨by omega, fun i hi => by rw [hE.rows h1 h12 hg i hi]; omega⟩
  · exact ⟨by simp, by simp⟩
def GeRes (N : Int) (rows : List (List Int)) (zs : List (List Int)) (code : Int) : Prop := (Sys N rows ∧ GrpR N.toNat rows zs code) ∨ (¬ Sys N rows ∧ zs = [] ∧ code = 1)
theorem GeRes.ex (N : Int) (rows : List (List Int)) : ∃ zs code, GeRes N rows zs code ∧ zs.length ≤ 1048576 ∧ ∀ i, i < zs.length → (zs.getD i []).length ≤ 1048576 := by
  by_cases h : Sys N rows
  · obtain ⟨zs, code, hg⟩ := GrpR.ex N.toNat rows
    obtain ⟨n, rfl⟩ := Int.eq_ofNat_of_zero_le (show 0 ≤ N by have := h.1; omega)
    have h1 := h.1
    have h2 := h.2.1
    have hs := GrpR.size (by rw [Int.toNat_natCast]; omega) (by rw [Int.toNat_natCast]; omega) (by rw [Int.toNat_natCast]; exact h.gens) hg
    exact ⟨zs, code, .inl ⟨h, hg⟩, hs.1, hs.2⟩
  · exact ⟨_, _, .inr ⟨h, rfl, rfl⟩, by simp, by simp⟩
def LgRes (f s : List (List Int)) (zs : List (List Int)) (code : Int) : Prop := (NdS f s ∧ GrpR f.length f zs code) ∨ (¬ NdS f s ∧ zs = [] ∧ code = 1)
theorem LgRes.ex (f s : List (List Int)) : ∃ zs code, LgRes f s zs code ∧ zs.length ≤ 1048576 ∧ ∀ i, i < zs.length → (zs.getD i []).length ≤ 1048576 := by
  by_cases h : NdS f s
  · obtain ⟨zs, code, hg⟩ := GrpR.ex f.length f
    have h1 := h.sizes rfl
    have hs := GrpR.size h1.1 h1.2.1 (h.lam rfl) hg
    exact ⟨zs, code, .inl ⟨h, hg⟩, hs.1, hs.2⟩
  · exact ⟨_, _, .inr ⟨h, rfl, rfl⟩, by simp, by simp⟩
theorem NdS.sys {f s : List (List Int)} {n : Nat} (h : NdS f s) (hn : f.length = n) : Sys (n : Int) f := by
  have h1 := h.sizes hn
  exact ⟨by omega, by omega, by omega, fun i hi => ⟨by rw [(h.lam hn i hi).1], h.2.1 i hi⟩⟩
end Go.Proofs.Ytiaebilcgmahlaa
namespace Go.Proofs.Ytiaebilcgmahlaa
open Go Go.RowKit
/-! A queue of rows that grows, and beside it a list of the same rows in order. -/
theorem ins_at {α : Type} (l : List α) (k : Nat) (x : α) (hk : k ≤ l.length) (i : Nat) : (l.take k ++ x :: l.drop k)[i]? = if i < k then l[i]? else if i = k then some x else l[i - 1]? := by
  rw [List.getElem?_append, List.length_take, Nat.min_eq_left hk]
  by_cases h : i < k
  · rw [if_pos h, if_pos h, List.getElem?_take, if_pos h]
  · rw [if_neg h, if_neg h]
    by_cases e : i = k
    · subst e; simp
    · rw [if_neg e, show i - k = (i - 1 - k) + 1 by omega, List.getElem?_cons_succ, List.getElem?_drop, show k + (i - 1 - k) = i - 1 by omega]
theorem insL_at (l : List (List Int)) (k : Nat) (p : List Int) (hk : k ≤ l.length) (i : Nat) : (insL l k p).getD i [] = if i < k then l.getD i [] else if i = k then p else l.getD (i - 1) [] := by
  rw [List.getD_eq_getElem?_getD, insL, ins_at l k p hk i]
  by_cases h : i < k
  · rw [if_pos h, if_pos h, List.getD_eq_getElem?_getD]
  · rw [if_neg h, if_neg h]
    by_cases e : i = k
    · rw [if_pos e, if_pos e]; rfl
    · rw [if_neg e, if_neg e, List.getD_eq_getElem?_getD]
section
variable {ts t : TypeId} {B : Nat} {w w' w1 : World} {v v' vq vs : Value} {rows queue srt : List (List Int)} {vals qvals svals : List Value}
/-- The values are slices that read as the rows. -/
def RowsV (t : TypeId) (B : Nat) (w : World) (rows : List (List Int)) (vals : List Value) : Prop :=
  vals.length = rows.length ∧ ∀ i, i < rows.length → ∃ A c, vals[i]? = some (.slice A (rows.getD i []).length c) ∧ Obj1 t B w.heap.size w A (rows.getD i [])
theorem RowsV.kept (h : RowsV t B w rows vals) (hk : KeepT t w w') (hs : w.heap.size ≤ w'.heap.size) : RowsV t B w' rows vals :=
  ⟨h.1, fun i hi => by
    obtain ⟨A, c, h1, h2⟩ := h.2 i hi
    exact ⟨A, c, h1, (hk.obj h2).mono (Nat.le_refl _) hs⟩⟩
theorem RowsV.ins {A : Option Addr} {c k : Nat} {r : List Int} (h : RowsV t B w rows vals) (hk : k ≤ rows.length) (hA : Obj1 t B w.heap.size w A r) : RowsV t B w (insL rows k r) (vals.take k ++ .slice A r.length c :: vals.drop k) := by
  refine ⟨by simp [insL, h.1], fun i hi => ?_⟩
  rw [insL_length] at hi
  rw [insL_at _ _ _ hk, ins_at _ _ _ (by rw [h.1]; exact hk)]
  by_cases h1 : i < k
  · rw [if_pos h1, if_pos h1]
    exact h.2 i (by omega)
  · rw [if_neg h1, if_neg h1]
    by_cases h2 : i = k
    · rw [if_pos h2, if_pos h2]
      exact ⟨A, c, rfl, hA⟩
    · rw [if_neg h2, if_neg h2]
      exact h.2 (i - 1) (by omega)
/-- The queue and the sorted list. -/
structure Qs (ts t : TypeId) (B : Nat) (w : World) (vq vs : Value) (queue srt : List (List Int)) (qvals svals : List Value) : Prop where
  q : LstV ts t B w vq queue qvals
  s : w.ownsRow B ts 1 vs srt.length svals
  r : RowsV t B w srt svals
  d : ∀ g, vq.ownBlock = some g → vs.ownBlock ≠ some g
theorem Qs.later (h : Qs ts t B w vq vs queue srt qvals svals) (hb : Below w.heap.size w w') : Qs ts t B w' vq vs queue srt qvals svals :=
  ⟨h.q.later hb, ownsRow_below h.s hb, h.r.kept (KeepT.of_below hb) hb.size, h.d⟩
theorem Qs.slen (h : Qs ts t B w vq vs queue srt qvals svals) : svals.length = srt.length := h.r.1
/-- How the sorted list looks. -/
theorem Qs.look (h : Qs ts t B w vq vs queue srt qvals svals) (h0 : 0 < srt.length) : ∃ g c, vs = .slice (some ⟨g, 0, none⟩) srt.length c ∧ srt.length ≤ c ∧ c ≤ maxLen ∧ g < w.heap.size ∧ (∀ i u, svals[i]? = some u → w.cell? ⟨g, i, none⟩ = some u) ∧ Rd2 w (some ⟨g, 0, none⟩) srt := by
  rcases h.s.2 with ⟨_, h2⟩ | ⟨g, cap, cur, hv, hg, hh, h1, h2, h3, h4⟩
  · omega
  · have hc : ∀ i u, svals[i]? = some u → w.cell? ⟨g, i, none⟩ = some u := by
      intro i u hu
      rw [cell_of_row w g i cur ts (0, 0) hh]
      rw [← h4, List.getElem?_take] at hu
      by_cases e : i < srt.length * 1
      · rw [if_pos e] at hu; simpa using hu
      · rw [if_neg e] at hu; cases hu
    refine ⟨g, cap, hv, h1, h2, (Array.getElem?_eq_some_iff.1 hh).1, hc, fun _ => ⟨g, 0, rfl, (Array.getElem?_eq_some_iff.1 hh).1, fun i hi => ?_⟩⟩
    obtain ⟨A, c, e1, e2⟩ := h.r.2 i hi
    exact ⟨A, c, by rw [Nat.zero_add]; exact hc i _ e1, e2.rd⟩
theorem own_lt {n : Nat} {xs : List Value} (h : w.ownsRow B ts 1 v n xs) {g : Nat} (hg : v.ownBlock = some g) : B ≤ g ∧ g < w.heap.size := by
  rcases h.2 with ⟨hv, _⟩ | ⟨g', cap, cur, hv, hb, hh, _⟩
  · subst hv; simp [Value.ownBlock] at hg
  · subst hv
    simp [Value.ownBlock] at hg
    subst hg
    exact ⟨hb, (Array.getElem?_eq_some_iff.1 hh).1⟩
/-- A new sorted list in memory of its own, with one row more. -/
theorem Qs.sorted {A : Option Addr} {c k n : Nat} {p : List Int} (h : Qs ts t B w vq vs queue srt qvals svals) (hb : Below w.heap.size w w') (hB : B ≤ w.heap.size) (hk : k ≤ srt.length) (hA : Obj1 t B w'.heap.size w' A p) (hn : n = (insL srt k p).length)
    (hown : w'.ownsRow w.heap.size ts 1 v' n (svals.take k ++ .slice A p.length c :: svals.drop k)) : Qs ts t B w' vq v' queue (insL srt k p) qvals (svals.take k ++ .slice A p.length c :: svals.drop k) := by
  have h2 := h.later hb
  refine ⟨h2.q, ?_, h2.r.ins hk hA, fun g hg e => ?_⟩
  · subst hn
    refine ⟨hown.1, ?_⟩
    rcases hown.2 with h3 | ⟨g, cap, cur, hv, hg, rest⟩
    · exact .inl h3
    · exact .inr ⟨g, cap, cur, hv, Nat.le_trans hB hg, rest⟩
  · have h3 := (own_lt h.q.own hg).2
    have h4 := (own_lt hown e).1
    omega
/-- The row is put at the end of the queue. -/
theorem Qs.queued {A : Option Addr} {c : Nat} {p : List Int} {tmp : Obj} (hne : ts ≠ t) (h : Qs ts t B w vq vs queue srt qvals svals) (hA : Obj1 t B w.heap.size w A p)
    (hdis : ∀ (i : Nat) (u : Value) (g : Nat), qvals[i]? = some u → u.ownBlock = some g → ∀ a, A = some a → a.block ≠ g)
    (hown : w1.ownsRow B ts 1 v' (queue.length + 1) (qvals ++ [.slice A p.length c])) (hg : (w.alloc tmp).grownBy w1 vq.ownBlock) (hat : v'.ownBlock = vq.ownBlock ∨ v'.ownBlock = some (w.alloc tmp).heap.size) :
    Qs ts t B w1 v' vs (queue ++ [p]) srt (qvals ++ [.slice A p.length c]) svals := by
  have hal : Below w.heap.size w (w.alloc tmp) := (Below.refl _ _).alloc (Nat.le_refl _) _
  have hk : KeepT t w w1 := (KeepT.of_below hal).trans (KeepT.of_grown hne (ownsRow_below h.q.own hal) hg)
  have hsz1 : w.heap.size ≤ w1.heap.size := Nat.le_trans hal.size hg.size
  have hvs : vs.ownBlock = none ∨ vs.ownBlock ≠ vq.ownBlock := by
    cases e : vs.ownBlock with
    | none => exact .inl rfl
    | some g => exact .inr (fun e2 => h.d g e2.symm e)
  refine ⟨h.q.push2 hne hA hdis hown hg, (ownsRow_below h.s hal).kept hg hvs, h.r.kept hk hsz1, fun g hg1 e => ?_⟩
  rcases hat with e2 | e2
  · exact h.d g (e2 ▸ hg1) e
  · rw [hg1] at e2
    injection e2 with e2
    have := (own_lt h.s e).2
    simp at e2
    omega
end
end Go.Proofs.Ytiaebilcgmahlaa
namespace Go.Proofs.Ytiaebilcgmahlaa
open Go Go.RowKit
set_option maxHeartbeats 4000000

section
variable {ts t : TypeId} {lo n g1 g2 : Nat} {w w' : World} {G1 G2 : Nat → Nat} {f1 f2 : Nat → Nat → Int}
theorem Duo.later (h : Duo ts t lo w n g1 G1 f1 g2 G2 f2) (hb : Below w.heap.size w w') : Duo ts t lo w' n g1 G1 f1 g2 G2 f2 :=
  ⟨h.t1.later hb, h.t2.later hb, h.l1, h.l2, h.ne, h.n12, h.n21, h.rows⟩
theorem Duo.set1 (h : Duo ts t lo w n g1 G1 f1 g2 G2 f2) (i j : Nat) (v : Int) (hi : i < n) : Duo ts t lo (w.setCell ⟨G1 i, j, none⟩ (.int .i64 v)) n g1 G1 (fun a b => if a = i ∧ b = j then v else f1 a b) g2 G2 f2 :=
  ⟨h.t1.set i j v hi, h.t2.far1 (p := ⟨G1 i, j, none⟩) (h.n21 i hi) (fun a ha e => h.rows i a hi ha e.symm) _, h.l1, h.l2, h.ne, h.n12, h.n21, h.rows⟩
theorem Duo.set2 (h : Duo ts t lo w n g1 G1 f1 g2 G2 f2) (i j : Nat) (v : Int) (hi : i < n) : Duo ts t lo (w.setCell ⟨G2 i, j, none⟩ (.int .i64 v)) n g1 G1 f1 g2 G2 (fun a b => if a = i ∧ b = j then v else f2 a b) :=
  ⟨h.t1.far1 (p := ⟨G2 i, j, none⟩) (h.n12 i hi) (fun a ha e => h.rows a i ha hi e) _, h.t2.set i j v hi, h.l1, h.l2, h.ne, h.n12, h.n21, h.rows⟩
theorem Duo.congr {h1 h2 : Nat → Nat → Int} (h : Duo ts t lo w n g1 G1 f1 g2 G2 f2) (e1 : ∀ a b, a < n → b < n → f1 a b = h1 a b) (e2 : ∀ a b, a < n → b < n → f2 a b = h2 a b) : Duo ts t lo w n g1 G1 h1 g2 G2 h2 :=
  ⟨h.t1.congr e1, h.t2.congr e2, h.l1, h.l2, h.ne, h.n12, h.n21, h.rows⟩
theorem Duo.objW (h : Duo ts t lo w n g1 G1 f1 g2 G2 f2) {hi : Nat} (hhi : w.heap.size ≤ hi) : ObjW ts t lo hi w (some ⟨g1, 0, none⟩) (grid n f1) (some ⟨g2, 0, none⟩) (grid n f2) :=
  ⟨h.t1.obj h.l1.1 (Nat.lt_of_lt_of_le h.t1.lt hhi) (fun i hin => ⟨h.l1.2 i hin, Nat.lt_of_lt_of_le (h.t1.row i hin).lt hhi⟩), h.t2.obj h.l2.1 (Nat.lt_of_lt_of_le h.t2.lt hhi) (fun i hin => ⟨h.l2.2 i hin, Nat.lt_of_lt_of_le (h.t2.row i hin).lt hhi⟩)⟩
end
/-- After k pairs. -/
def bkTo (f s : List (List Int)) (n k : Nat) (h : Nat → Nat → Int) : Nat → Nat → Int := fun a b => if bk f s n a b < k then h a b else 0
theorem bkTo_zero (f s : List (List Int)) (n : Nat) (h : Nat → Nat → Int) (a b : Nat) : (0 : Int) = bkTo f s n 0 h a b := by unfold bkTo; simp
theorem bkTo_all {f s : List (List Int)} {n : Nat} (hp : PMap f s) (hn : f.length = n) (hc : NoCol f s n) (h : Nat → Nat → Int) (a b : Nat) (ha : a < n) (hb : b < n) : bkTo f s n (n * n) h a b = h a b := by
  unfold bkTo
  rw [if_pos (bk_spec hp hn hc ha hb).1]
theorem bkTo_next {f s : List (List Int)} {n : Nat} (hp : PMap f s) (hn : f.length = n) (hc : NoCol f s n) (h : Nat → Nat → Int) {k u v : Nat} (hk : k < n * n) (hq : ledK f s n k = (u, v)) {z : Int} (hz : h u v = z) (a b : Nat) (ha : a < n) (hb : b < n) : (if a = u ∧ b = v then z else bkTo f s n k h a b) = bkTo f s n (k + 1) h a b := by
  have hbk := bk_led hc hk hq
  by_cases e : a = u ∧ b = v
  · obtain ⟨rfl, rfl⟩ := e
    rw [if_pos ⟨rfl, rfl⟩]
    unfold bkTo
    rw [hbk, if_pos (by omega)]
    exact hz.symm
  · rw [if_neg e]
    unfold bkTo
    have hne : bk f s n a b ≠ k := fun e2 => e (by
      have h2 := (bk_spec hp hn hc ha hb).2
      rw [e2, hq] at h2
      injection h2 with h3 h4
      exact ⟨h3.symm, h4.symm⟩)
    by_cases e3 : bk f s n a b < k
    · rw [if_pos e3, if_pos (by omega)]
    · rw [if_neg e3, if_neg (by omega)]

def BkPost (n : Nat) (zf zg : List (List Int)) (w : World) (e : Ending) (w' : World) : Prop := ∃ A c B d, e = .returned (.agg #[.slice A n c, .slice B n d]) ∧ Below w.heap.size w w' ∧ ObjW 25 2 w.heap.size w'.heap.size w' A zf B zg
set_option maxRecDepth 100000 in
theorem bkS_any (A : Option Addr) (n c : Nat) (f : List (List Int)) (B : Option Addr) (m d : Nat) (s : List (List Int)) (w : World) (hz : ZArg 1048576 w A n f B m s) (hp : PMap f s) (hc : NoCol f s n) :
    Calls Try.prog 105 #[.agg #[.slice A n c, .slice B m d]] w (BkPost n (grid n (bk1 f s n)) (grid n (bk2 f s n)) w) := by
  have HZ := hide hz
  have HFL := hide hz.sz.fl
  have HP := hide hp
  have h12 := hz.small hp
  obtain rfl := hz.same hp
  have HC := hide hc
  clear hz hp hc
  go_enter Try.func105, Try.ntmps105
  go_wp2_with fail
  refine calls_gen fun w0 hw0 => ?_
  have hb0 : Below w.heap.size w w0 := by rw [hw0]; exact ((Below.refl _ _).alloc (Nat.le_refl _) _).alloc (by simp) _
  have HB0 := hide hb0
  have HK0 : Hid (Blk w0 w.heap.size 29 [.slice A m c, .slice B m d]) := hide (by rw [hw0]; exact (Blk.new _ _ _).alloc _)
  have HR0 : Hid (Blk w0 (w.heap.size + 1) 29 [.slice none 0 0, .slice none 0 0]) := hide (by rw [hw0]; have h := Blk.new (w.alloc (Obj.cells #[Value.slice A m c, Value.slice B m d] 29)) 29 [.slice none 0 0, .slice none 0 0]; simpa using h)
  clear hw0 hb0
  refine (emptyS_any m _ h12.1 h12.2).mono ?_
  unfold EmPost
  rintro e w1 ⟨g1, c1, g2, c2, G1, G2, rfl, hb1, hd⟩
  have HB1 := hide (HB0.out.trans (hb1.mono HB0.out.size))
  have HK1 := hide (HK0.out.later hb1)
  have HR1 := hide (HR0.out.later hb1)
  have HD1 := hide hd
  have hlo : w.heap.size + 1 < w0.heap.size := HR0.out.lt
  have hG1 : ∀ i, i < m → G1 i < w1.heap.size := fun i hi => (hd.t1.row i hi).lt
  have hG2 : ∀ i, i < m → G2 i < w1.heap.size := fun i hi => (hd.t2.row i hi).lt
  have HG1 := hide hG1
  have HG2 := hide hG2
  clear hb1 hd hG1 hG2
  go_wp2_with fail
  refine wp_gen fun w2 hw2 => ?_
  have hb2 : Below w1.heap.size w1 w2 := by rw [hw2]; exact (Below.refl _ _).alloc (Nat.le_refl _) _
  have HO2 : Hid (Blk w2 w1.heap.size 29 [.slice (some ⟨g1, 0, none⟩) m c1, .slice (some ⟨g2, 0, none⟩) m c2]) := hide (by rw [hw2]; exact Blk.new _ _ _)
  have HB2 := hide (HB1.out.trans (hb2.mono HB1.out.size))
  have HK2 := hide (HK1.out.later hb2)
  have HR2 := hide (HR1.out.later hb2)
  have HD2 := hide ((HD1.out.later hb2).congr (fun a b _ _ => bkTo_zero f s m (bk1 f s m) a b) (fun a b _ _ => bkTo_zero f s m (bk2 f s m) a b))
  clear hw2 hb2
  go_loopw [5] (fun i wr => ∃ x : Nat, x ≤ m ∧ i = .int .i64 x ∧ Below w.heap.size w wr ∧ Blk wr w.heap.size 29 [.slice A m c, .slice B m d] ∧ Blk wr (w.heap.size + 1) 29 [.slice none 0 0, .slice none 0 0] ∧ Blk wr w1.heap.size 29 [.slice (some ⟨g1, 0, none⟩) m c1, .slice (some ⟨g2, 0, none⟩) m c2] ∧ Duo 25 2 w0.heap.size wr m g1 G1 (bkTo f s m (x * m) (bk1 f s m)) g2 G2 (bkTo f s m (x * m) (bk2 f s m))) (fun i _ => m - (intOf i).toNat)
  case atStart => exact ⟨0, Nat.zero_le _, rfl, HB2.out, HK2.out, HR2.out, HO2.out, by rw [Nat.zero_mul]; exact HD2.out⟩
  case round =>
    obtain ⟨x, hx, rfl, hbe, hkk, hrr, hoo, hdd⟩ := hrel
    have HB := hide hbe
    have HK := hide hkk
    have HR := hide hrr
    have HO := hide hoo
    have HD := hide hdd
    clear hbe hkk hrr hoo hdd
    by_cases hlt : x < m
    · have hxz : (x : Int) < m := by omega
      go_wp2_with fail
      obtain ⟨wo, rfl⟩ : ∃ wo : World, wo = wr := ⟨_, rfl⟩
      go_loopw [6] (fun i wi => ∃ y : Nat, y ≤ m ∧ i = .int .i64 y ∧ Below w.heap.size w wi ∧ Blk wi w.heap.size 29 [.slice A m c, .slice B m d] ∧ Blk wi (w.heap.size + 1) 29 [.slice none 0 0, .slice none 0 0] ∧ Blk wi w1.heap.size 29 [.slice (some ⟨g1, 0, none⟩) m c1, .slice (some ⟨g2, 0, none⟩) m c2] ∧ Duo 25 2 w0.heap.size wi m g1 G1 (bkTo f s m (x * m + y) (bk1 f s m)) g2 G2 (bkTo f s m (x * m + y) (bk2 f s m))) (fun i _ => m - (intOf i).toNat)
      case atStart => exact ⟨0, Nat.zero_le _, rfl, HB.out, HK.out, HR.out, HO.out, HD.out⟩
      case round =>
        obtain ⟨y, hy, rfl, hbi, hki, hri, hoi, hdi⟩ := hrel
        have HBI := hide hbi
        have HKI := hide hki
        have HRI := hide hri
        have HOI := hide hoi
        have HDI := hide hdi
        clear hbi hki hri hoi hdi
        by_cases hlty : y < m
        · have hyz : (y : Int) < m := by omega
          obtain ⟨b, o, b2, o2, bx, ox, cx, by', oy, cy, rfl, rfl, h1, h2, h3, h4, l1, l2, l3, l4⟩ := HZ.out.reads HP.out hlt hlty
          have hu := HP.out.lt1 HFL.out hlt hlty
          have hv := HP.out.lt2 HFL.out hlt hlty
          have hKN : x * m + y < m * m := by
            have h9 := Nat.mul_le_mul_right m (show x + 1 ≤ m from hlt)
            rw [Nat.add_mul, Nat.one_mul] at h9
            omega
          have hq : ledK f s m (x * m + y) = (ap f x y, ap s x y) := by unfold ledK; rw [pair_div m x y hlty, pair_mod m x y hlty]
          obtain ⟨u, hue⟩ : ∃ u, ap f x y = u := ⟨_, rfl⟩
          obtain ⟨v, hve⟩ : ∃ v, ap s x y = v := ⟨_, rfl⟩
          rw [hue] at h3 hu hq
          rw [hve] at h4 hv hq
          have hb9 := bk_led HC.out hKN hq
          have z1 : bk1 f s m u v = (x : Int) := by unfold bk1; rw [hb9, pair_div m x y hlty]
          have z2 : bk2 f s m u v = (y : Int) := by unfold bk2; rw [hb9, pair_mod m x y hlty]
          have HQ := hide hq
          have HZ1 := hide z1
          have HZ2 := hide z2
          have huz : (u : Int) < m := by omega
          have hvz : (v : Int) < m := by omega
          obtain ⟨C1, r1⟩ := HDI.out.t1.top
          obtain ⟨C2, r2⟩ := HDI.out.t2.top
          have c1' := r1.cell hu
          have c2' := r2.cell hu
          have j1 := (HDI.out.t1.row u hu).cell hv
          have j2 := (HDI.out.t1.row u hu).frozen v
          have j3 := (HDI.out.t2.row u hu).cell hv
          have j4 := (HDI.out.t2.row u hu).frozen v
          have lG1 := HDI.out.l1.2 u hu
          have lG2 := HDI.out.l2.2 u hu
          have n1 : w.heap.size ≠ G1 u := by omega
          have n2 := n1.symm
          have n3 : b2 ≠ G1 u := by omega
          have n4 := n3.symm
          have n5 : by' ≠ G1 u := by omega
          have n6 := n5.symm
          have n7 : G2 u ≠ G1 u := fun e => HDI.out.rows u u hu hu e.symm
          have n8 := n7.symm
          have h1' := (HBI.out.cell (p := ⟨b, o + x, none⟩) l1).trans h1
          have h2' := (HBI.out.cell (p := ⟨b2, o2 + x, none⟩) l2).trans h2
          have h3' := (HBI.out.cell (p := ⟨bx, ox + y, none⟩) l3).trans h3
          have h4' := (HBI.out.cell (p := ⟨by', oy + y, none⟩) l4).trans h4
          have k0 := HKI.out.cell 0 _ rfl
          have k1 := HKI.out.cell 1 _ rfl
          have k2 := HOI.out.cell 0 _ rfl
          have k3 := HOI.out.cell 1 _ rfl
          have HN8 := hide n8
          clear hue hve hq hb9 z1 z2 h1 h2 h3 h4 l1 l2 l3 l4 r1 r2
          go_wp2_with fail
          go_quiet (fail)
          go_wp2_with fail
          clear c1' c2' j1 j2 j3 j4 h1' h2' h3' h4' k0 k1 k2 k3
          have hW : Below wr.heap.size wr (wr.drewN nq) := (Quiet.of wr nq).below _
          have hgu1 := HG1.out u hu
          have hgu2 := HG2.out u hu
          go_roundw
          case rel =>
            refine ⟨y + 1, by omega, by go_num, ((HBI.out.trans (hW.mono HBI.out.size)).setCell (p := ⟨G1 u, v, none⟩) (by show w.heap.size ≤ G1 u; omega) _).setCell (p := ⟨G2 u, v, none⟩) (by show w.heap.size ≤ G2 u; omega) _, ((HKI.out.later hW).far (p := ⟨G1 u, v, none⟩) (by show w.heap.size ≠ G1 u; omega) _).far (p := ⟨G2 u, v, none⟩) (by show w.heap.size ≠ G2 u; omega) _, ((HRI.out.later hW).far (p := ⟨G1 u, v, none⟩) (by show w.heap.size + 1 ≠ G1 u; omega) _).far (p := ⟨G2 u, v, none⟩) (by show w.heap.size + 1 ≠ G2 u; omega) _, ((HOI.out.later hW).far (p := ⟨G1 u, v, none⟩) (by show w1.heap.size ≠ G1 u; omega) _).far (p := ⟨G2 u, v, none⟩) (by show w1.heap.size ≠ G2 u; omega) _, ?_⟩
            have hd := ((HDI.out.later hW).set1 u v (x : Int) hu).set2 u v (y : Int) hu
            exact hd.congr (bkTo_next HP.out HFL.out HC.out (bk1 f s m) hKN HQ.out HZ1.out) (bkTo_next HP.out HFL.out HC.out (bk2 f s m) hKN HQ.out HZ2.out)
          case measure => simp [intOf]; omega
        · have hyn : y = m := by omega
          subst hyn
          go_wp2_with fail
          go_roundw
          case rel => exact ⟨x + 1, by omega, by go_num, HBI.out, HKI.out, HRI.out, HOI.out, by rw [Nat.add_mul, Nat.one_mul]; exact HDI.out⟩
          case measure => simp [intOf]; omega
    · have hxn : x = m := by omega
      subst hxn
      have k0 := HO.out.cell 0 _ rfl
      have k1 := HO.out.cell 1 _ rfl
      have k2 := HR.out.cell 0 _ rfl
      have k3 := HR.out.cell 1 _ rfl
      have k4 := HR.out.frozen 0
      have k5 := HR.out.frozen 1
      go_wp2_with fail
      refine bp_gen fun wf hwf => ?_
      have HDF := HD.out.congr (bkTo_all HP.out HFL.out HC.out (bk1 f s x)) (bkTo_all HP.out HFL.out HC.out (bk2 f s x))
      obtain ⟨q0, q1, hbf, hof⟩ := wend hwf HR.out (by omega) hlo HB.out HB0.out.size (HDF.objW (Nat.le_refl _))
      clear hwf k0 k1 k2 k3 k4 k5
      exact bodyPost_ret (v := .agg #[.slice (some ⟨g1, 0, none⟩) x c1, .slice (some ⟨g2, 0, none⟩) x c2]) (by simp [results, Try.results105, go_sem, q0, q1]) rfl (by unfold BkPost; exact ⟨_, _, _, _, rfl, hbf, hof⟩)
end Go.Proofs.Ytiaebilcgmahlaa
