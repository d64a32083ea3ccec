import Derived.Test.YtljdfanebjhhmaaZbn
import Derived.Test.YtljdfanebjhhmaaZa
import Derived.Test.YtljdfanebjhhmaaZt
import Derived.Test.YtljdfanebjhhmaaZz
import Derived.Test.YtljdfanebjhhmaaZi
import Derived.Test.YtljdfanebjhhmaaZbt
namespace Go.Proofs.Ytljdfanebjhhmaa
open Go Go.RowKit
set_option maxHeartbeats 1000000

/-- Block b begins with three elements. -/
def L3 (w : World) (b x y z : Nat) : Prop := b < w.heap.size ∧ w.cell? ⟨b, 0, none⟩ = some (.int .i64 x) ∧ w.cell? ⟨b, 1, none⟩ = some (.int .i64 y) ∧ w.cell? ⟨b, 2, none⟩ = some (.int .i64 z)
theorem L3.later {w w' : World} {b x y z : Nat} (h : L3 w b x y z) (hb : Below w.heap.size w w') : L3 w' b x y z :=
  ⟨Nat.lt_of_lt_of_le h.1 hb.size, (hb.cell (p := ⟨b, 0, none⟩) h.1).trans h.2.1, (hb.cell (p := ⟨b, 1, none⟩) h.1).trans h.2.2.1, (hb.cell (p := ⟨b, 2, none⟩) h.1).trans h.2.2.2⟩
theorem L3.of_own {t : TypeId} {w : World} {g x y z : Nat} {xs : List Int} (h : OwnB t w g xs) (hx : xs = lst3 (x, y, z)) : L3 w g x y z := by
  subst hx
  exact ⟨h.lt, h.cell (i := 0) (by simp [lst3]), h.cell (i := 1) (by simp [lst3]), h.cell (i := 2) (by simp [lst3])⟩
theorem L3.own {w : World} {b x y z : Nat} (h : L3 w b x y z) : ∀ i, i < (lst3 (x, y, z)).length → w.cell? ⟨b, 0 + i, none⟩ = some (.int .i64 ((lst3 (x, y, z)).getD i 0)) := by
  intro i hi
  simp [lst3] at hi
  rcases i with _ | _ | _ | i
  · exact h.2.1
  · exact h.2.2.1
  · exact h.2.2.2
  · omega
theorem L3.rd {w : World} {b x y z : Nat} (h : L3 w b x y z) : Rd w (some ⟨b, 0, none⟩) (lst3 (x, y, z)) := fun _ => ⟨b, 0, rfl, h.1, h.own⟩

set_option maxRecDepth 100000 in
theorem do0_any (A : Option Addr) (n c : Nat) (f : List (List Int)) (B : Option Addr) (m d : Nat) (s : List (List Int)) (bc e : Nat) (x y z x' y' z' : Nat) (w : World) (hz : ZArg 1048576 w A n f B m s) (hp : PMap f s) (hi3 : In3 n (x, y, z)) (hdo : doAt f s 0 (x, y, z) = (x', y', z')) (hl : L3 w bc x y z) :
    Calls Try.prog 116 #[.agg #[.slice A n c, .slice B m d], .slice (some ⟨bc, 0, none⟩) 3 e, .int .i64 0] w fun e w' => ∃ g cap, e = .returned (.slice (some ⟨g, 0, none⟩) 3 cap) ∧ Below w.heap.size w w' ∧ w.heap.size ≤ g ∧ L3 w' g x' y' z' := by
  have HZ := hide hz
  have HP := hide hp
  have hnb := hz.sz.nb
  have hx : x < n := hi3.1
  have hy : y < n := hi3.2.1
  have hz' : z < n := hi3.2.2
  obtain rfl := hz.same hp
  have HL := hide hl
  have hbc := hl.1
  have HB0 := hide ((Below.refl _ w).alloc (Nat.le_refl _) (Obj.cells #[Value.slice A m c, Value.slice B m d] 46))
  have HK0 := hide (Blk.new w 46 [.slice A m c, .slice B m d])
  obtain ⟨u, hu⟩ : ∃ u, ap f x y = u := ⟨_, rfl⟩
  obtain ⟨v, hv⟩ : ∃ v, ap s x y = v := ⟨_, rfl⟩
  have hdo' : (u, v, z) = (x', y', z') := by rw [← hdo, ← hu, ← hv]; rfl
  injection hdo' with d1 d2
  injection d2 with d2 d3
  subst d1
  subst d2
  subst d3
  have HU := hide hu
  have HV := hide hv
  clear hz hp hl hi3 hdo hu hv
  go_enter Try.func116, Try.ntmps116
  go_wp2_with fail
  refine (own_any bc 0 3 e (lst3 (x, y, z)) _ rfl (by omega) (by have := HB0.out.size; omega) (HL.out.later HB0.out).own).mono ?_
  rintro e w1 ⟨v1, rfl, hb1, ho1⟩
  obtain ⟨A1, cap, hv, hres⟩ := own_shape ho1
  subst hv
  rcases hres with ⟨rfl, h⟩ | ⟨g, rfl, hg, how⟩
  · cases h
  have HB1 := hide (HB0.out.trans (hb1.mono HB0.out.size))
  have HK1 := hide (HK0.out.later hb1)
  have HL1 := hide ((HL.out.later HB0.out).later hb1)
  have HO1 := hide how
  have hgw : w.heap.size < g := by have := HK0.out.lt; omega
  clear hb1 ho1 how hg
  obtain ⟨bA, oA, bB, oB, bx, ox, cx, bY, oy, cy, rfl, rfl, h1, h2, h3, h4, l1, l2, l3, l4⟩ := HZ.out.reads HP.out hx hy
  rw [HU.out] at h3
  rw [HV.out] at h4
  have H2 := hide h2
  have H4 := hide h4
  have k0 := HK1.out.cell 0 _ rfl
  have k1 := HL1.out.2.1
  have k2 := HL1.out.2.2.1
  have r1 : w1.cell? ⟨bA, oA + x, none⟩ = some (.slice (some ⟨bx, ox, none⟩) m cx) := (HB1.out.cell (p := ⟨bA, oA + x, none⟩) l1).trans h1
  have r2 : w1.cell? ⟨bx, ox + y, none⟩ = some (.int .i64 u) := (HB1.out.cell (p := ⟨bx, ox + y, none⟩) l3).trans h3
  have g0 := HO1.out.cell (i := 0) (by simp [lst3])
  have g1 := HO1.out.frozen 0
  have n1 : g ≠ w.heap.size := by omega
  have n2 : g ≠ bc := by omega
  have n3 : g ≠ bA := by omega
  have n4 : g ≠ bx := by omega
  have n5 := n1.symm
  have n6 := n2.symm
  have n7 := n3.symm
  have n8 := n4.symm
  have az : (x : Int) < m := by omega
  have bz : (y : Int) < m := by omega
  have az0 : (0 : Int) ≤ x := by omega
  have bz0 : (0 : Int) ≤ y := by omega
  clear h1 h2 h3 h4
  have hw1 : IntKind.i64.wrap 1 = 1 := IntWalk.i64_in _ (by omega)
  have hw2 : IntKind.i64.wrap 2 = 2 := IntWalk.i64_in _ (by omega)
  go_wp2_with fail
  go_region_held3 (fun w' => w'.cell? ⟨w.heap.size, 0, none⟩ = some (.slice (some ⟨bA, oA, none⟩) m c) ∧ w'.cell? ⟨bc, 0, none⟩ = some (.int .i64 x) ∧ w'.cell? ⟨bc, 1, none⟩ = some (.int .i64 y) ∧ w'.cell? ⟨bA, oA + x, none⟩ = some (.slice (some ⟨bx, ox, none⟩) m cx) ∧ w'.cell? ⟨bx, ox + y, none⟩ = some (.int .i64 u)) (first | exact ⟨k0, k1, k2, r1, r2⟩ | go_keep) (first | fail)
  clear k0 k1 k2 r1 r2 g0 g1
  refine ex_gen (Q := Exit.then _ _) fun w2 hww2 => ?_
  have ht : Touch g (g + 1) w1 w2 := by rw [hww2]; exact ⟨rfl, rfl, rfl, by simp [World.setCell], fun k _ hne => by first | exact Below.heap_setCell w1 ⟨g, 0, none⟩ _ k (by show k ≠ g; omega) | exact (Below.heap_setCell w1.drew ⟨g, 0, none⟩ _ k (by show k ≠ g; omega))⟩
  have HO2 : Hid (OwnB 2 w2 g ((lst3 (x, y, z)).set 0 (u : Int))) := hide (by rw [hww2]; first | exact HO1.out.set 0 u (by simp [lst3]) | exact OwnB.set (w := w1.drew) HO1.out 0 u (by simp [lst3]))
  have HB2 := hide (ht.below HB1.out HB1.out.size (by omega))
  have HK2 := hide (HK1.out.touch ht (.inl (by omega)))
  have k0 := HK2.out.cell 1 _ rfl
  have k1 : w2.cell? ⟨bc, 0, none⟩ = some (.int .i64 x) := (World.cell?_of_block (a := ⟨bc, 0, none⟩) (ht.block bc HL1.out.1 (.inl (by omega)))).trans HL1.out.2.1
  have k2 : w2.cell? ⟨bc, 1, none⟩ = some (.int .i64 y) := (World.cell?_of_block (a := ⟨bc, 1, none⟩) (ht.block bc HL1.out.1 (.inl (by omega)))).trans HL1.out.2.2.1
  have r1 : w2.cell? ⟨bB, oB + x, none⟩ = some (.slice (some ⟨bY, oy, none⟩) m cy) := (HB2.out.cell (p := ⟨bB, oB + x, none⟩) l2).trans H2.out
  have r2 : w2.cell? ⟨bY, oy + y, none⟩ = some (.int .i64 v) := (HB2.out.cell (p := ⟨bY, oy + y, none⟩) l4).trans H4.out
  have g0 := HO2.out.cell (i := 1) (by simp [lst3])
  have g1 := HO2.out.frozen 1
  have n3 : g ≠ bB := by omega
  have n4 : g ≠ bY := by omega
  have n7 := n3.symm
  have n8 := n4.symm
  clear hww2 ht
  go_wp2_with fail
  go_region_held3 (fun w' => w'.cell? ⟨w.heap.size, 1, none⟩ = some (.slice (some ⟨bB, oB, none⟩) m d) ∧ w'.cell? ⟨bc, 0, none⟩ = some (.int .i64 x) ∧ w'.cell? ⟨bc, 1, none⟩ = some (.int .i64 y) ∧ w'.cell? ⟨bB, oB + x, none⟩ = some (.slice (some ⟨bY, oy, none⟩) m cy) ∧ w'.cell? ⟨bY, oy + y, none⟩ = some (.int .i64 v)) (first | exact ⟨k0, k1, k2, r1, r2⟩ | go_keep) (first | fail)
  clear k0 k1 k2 r1 r2 g0 g1
  refine ex_gen (Q := Exit.then _ _) fun w3 hw3 => ?_
  have HO3 : Hid (OwnB 2 w3 g (((lst3 (x, y, z)).set 0 (u : Int)).set 1 (v : Int))) := hide (by rw [hw3]; first | exact HO2.out.set 1 v (by simp [lst3]) | exact OwnB.set (w := w2.drew) HO2.out 1 v (by simp [lst3]))
  have HB3 : Hid (Below w.heap.size w w3) := hide (by rw [hw3]; first | exact HB2.out.setCell (p := ⟨g, 1, none⟩) (by show w.heap.size ≤ g; omega) _ | exact HB2.out.drew.setCell (p := ⟨g, 1, none⟩) (by show w.heap.size ≤ g; omega) _)
  clear hw3
  go_wp2_with fail
  go_ret
  exact ⟨g, cap, rfl, HB3.out, by omega, L3.of_own HO3.out rfl⟩

set_option maxRecDepth 100000 in
theorem do1_any (A : Option Addr) (n c : Nat) (f : List (List Int)) (B : Option Addr) (m d : Nat) (s : List (List Int)) (bc e : Nat) (x y z x' y' z' : Nat) (w : World) (hz : ZArg 1048576 w A n f B m s) (hp : PMap f s) (hi3 : In3 n (x, y, z)) (hdo : doAt f s 1 (x, y, z) = (x', y', z')) (hl : L3 w bc x y z) :
    Calls Try.prog 116 #[.agg #[.slice A n c, .slice B m d], .slice (some ⟨bc, 0, none⟩) 3 e, .int .i64 1] w fun e w' => ∃ g cap, e = .returned (.slice (some ⟨g, 0, none⟩) 3 cap) ∧ Below w.heap.size w w' ∧ w.heap.size ≤ g ∧ L3 w' g x' y' z' := by
  have HZ := hide hz
  have HP := hide hp
  have hnb := hz.sz.nb
  have hx : x < n := hi3.1
  have hy : y < n := hi3.2.1
  have hz' : z < n := hi3.2.2
  obtain rfl := hz.same hp
  have HL := hide hl
  have hbc := hl.1
  have HB0 := hide ((Below.refl _ w).alloc (Nat.le_refl _) (Obj.cells #[Value.slice A m c, Value.slice B m d] 46))
  have HK0 := hide (Blk.new w 46 [.slice A m c, .slice B m d])
  obtain ⟨u, hu⟩ : ∃ u, ap f y z = u := ⟨_, rfl⟩
  obtain ⟨v, hv⟩ : ∃ v, ap s y z = v := ⟨_, rfl⟩
  have hdo' : (x, u, v) = (x', y', z') := by rw [← hdo, ← hu, ← hv]; rfl
  injection hdo' with d1 d2
  injection d2 with d2 d3
  subst d1
  subst d2
  subst d3
  have HU := hide hu
  have HV := hide hv
  clear hz hp hl hi3 hdo hu hv
  go_enter Try.func116, Try.ntmps116
  go_wp2_with fail
  refine (own_any bc 0 3 e (lst3 (x, y, z)) _ rfl (by omega) (by have := HB0.out.size; omega) (HL.out.later HB0.out).own).mono ?_
  rintro e w1 ⟨v1, rfl, hb1, ho1⟩
  obtain ⟨A1, cap, hv, hres⟩ := own_shape ho1
  subst hv
  rcases hres with ⟨rfl, h⟩ | ⟨g, rfl, hg, how⟩
  · cases h
  have HB1 := hide (HB0.out.trans (hb1.mono HB0.out.size))
  have HK1 := hide (HK0.out.later hb1)
  have HL1 := hide ((HL.out.later HB0.out).later hb1)
  have HO1 := hide how
  have hgw : w.heap.size < g := by have := HK0.out.lt; omega
  clear hb1 ho1 how hg
  obtain ⟨bA, oA, bB, oB, bx, ox, cx, bY, oy, cy, rfl, rfl, h1, h2, h3, h4, l1, l2, l3, l4⟩ := HZ.out.reads HP.out hy hz'
  rw [HU.out] at h3
  rw [HV.out] at h4
  have H2 := hide h2
  have H4 := hide h4
  have k0 := HK1.out.cell 0 _ rfl
  have k1 := HL1.out.2.2.1
  have k2 := HL1.out.2.2.2
  have r1 : w1.cell? ⟨bA, oA + y, none⟩ = some (.slice (some ⟨bx, ox, none⟩) m cx) := (HB1.out.cell (p := ⟨bA, oA + y, none⟩) l1).trans h1
  have r2 : w1.cell? ⟨bx, ox + z, none⟩ = some (.int .i64 u) := (HB1.out.cell (p := ⟨bx, ox + z, none⟩) l3).trans h3
  have g0 := HO1.out.cell (i := 1) (by simp [lst3])
  have g1 := HO1.out.frozen 1
  have n1 : g ≠ w.heap.size := by omega
  have n2 : g ≠ bc := by omega
  have n3 : g ≠ bA := by omega
  have n4 : g ≠ bx := by omega
  have n5 := n1.symm
  have n6 := n2.symm
  have n7 := n3.symm
  have n8 := n4.symm
  have az : (y : Int) < m := by omega
  have bz : (z : Int) < m := by omega
  have az0 : (0 : Int) ≤ y := by omega
  have bz0 : (0 : Int) ≤ z := by omega
  clear h1 h2 h3 h4
  have hw1 : IntKind.i64.wrap 1 = 1 := IntWalk.i64_in _ (by omega)
  have hw2 : IntKind.i64.wrap 2 = 2 := IntWalk.i64_in _ (by omega)
  go_wp2_with fail
  go_region_held3 (fun w' => w'.cell? ⟨w.heap.size, 0, none⟩ = some (.slice (some ⟨bA, oA, none⟩) m c) ∧ w'.cell? ⟨bc, 1, none⟩ = some (.int .i64 y) ∧ w'.cell? ⟨bc, 2, none⟩ = some (.int .i64 z) ∧ w'.cell? ⟨bA, oA + y, none⟩ = some (.slice (some ⟨bx, ox, none⟩) m cx) ∧ w'.cell? ⟨bx, ox + z, none⟩ = some (.int .i64 u)) (first | exact ⟨k0, k1, k2, r1, r2⟩ | go_keep) (first | fail)
  clear k0 k1 k2 r1 r2 g0 g1
  refine ex_gen (Q := Exit.then _ _) fun w2 hww2 => ?_
  have ht : Touch g (g + 1) w1 w2 := by rw [hww2]; exact ⟨rfl, rfl, rfl, by simp [World.setCell], fun k _ hne => by first | exact Below.heap_setCell w1 ⟨g, 1, none⟩ _ k (by show k ≠ g; omega) | exact (Below.heap_setCell w1.drew ⟨g, 1, none⟩ _ k (by show k ≠ g; omega))⟩
  have HO2 : Hid (OwnB 2 w2 g ((lst3 (x, y, z)).set 1 (u : Int))) := hide (by rw [hww2]; first | exact HO1.out.set 1 u (by simp [lst3]) | exact OwnB.set (w := w1.drew) HO1.out 1 u (by simp [lst3]))
  have HB2 := hide (ht.below HB1.out HB1.out.size (by omega))
  have HK2 := hide (HK1.out.touch ht (.inl (by omega)))
  have k0 := HK2.out.cell 1 _ rfl
  have k1 : w2.cell? ⟨bc, 1, none⟩ = some (.int .i64 y) := (World.cell?_of_block (a := ⟨bc, 1, none⟩) (ht.block bc HL1.out.1 (.inl (by omega)))).trans HL1.out.2.2.1
  have k2 : w2.cell? ⟨bc, 2, none⟩ = some (.int .i64 z) := (World.cell?_of_block (a := ⟨bc, 2, none⟩) (ht.block bc HL1.out.1 (.inl (by omega)))).trans HL1.out.2.2.2
  have r1 : w2.cell? ⟨bB, oB + y, none⟩ = some (.slice (some ⟨bY, oy, none⟩) m cy) := (HB2.out.cell (p := ⟨bB, oB + y, none⟩) l2).trans H2.out
  have r2 : w2.cell? ⟨bY, oy + z, none⟩ = some (.int .i64 v) := (HB2.out.cell (p := ⟨bY, oy + z, none⟩) l4).trans H4.out
  have g0 := HO2.out.cell (i := 2) (by simp [lst3])
  have g1 := HO2.out.frozen 2
  have n3 : g ≠ bB := by omega
  have n4 : g ≠ bY := by omega
  have n7 := n3.symm
  have n8 := n4.symm
  clear hww2 ht
  go_wp2_with fail
  go_region_held3 (fun w' => w'.cell? ⟨w.heap.size, 1, none⟩ = some (.slice (some ⟨bB, oB, none⟩) m d) ∧ w'.cell? ⟨bc, 1, none⟩ = some (.int .i64 y) ∧ w'.cell? ⟨bc, 2, none⟩ = some (.int .i64 z) ∧ w'.cell? ⟨bB, oB + y, none⟩ = some (.slice (some ⟨bY, oy, none⟩) m cy) ∧ w'.cell? ⟨bY, oy + z, none⟩ = some (.int .i64 v)) (first | exact ⟨k0, k1, k2, r1, r2⟩ | go_keep) (first | fail)
  clear k0 k1 k2 r1 r2 g0 g1
  refine ex_gen (Q := Exit.then _ _) fun w3 hw3 => ?_
  have HO3 : Hid (OwnB 2 w3 g (((lst3 (x, y, z)).set 1 (u : Int)).set 2 (v : Int))) := hide (by rw [hw3]; first | exact HO2.out.set 2 v (by simp [lst3]) | exact OwnB.set (w := w2.drew) HO2.out 2 v (by simp [lst3]))
  have HB3 : Hid (Below w.heap.size w w3) := hide (by rw [hw3]; first | exact HB2.out.setCell (p := ⟨g, 2, none⟩) (by show w.heap.size ≤ g; omega) _ | exact HB2.out.drew.setCell (p := ⟨g, 2, none⟩) (by show w.heap.size ≤ g; omega) _)
  clear hw3
  go_wp2_with fail
  go_ret
  exact ⟨g, cap, rfl, HB3.out, by omega, L3.of_own HO3.out rfl⟩
end Go.Proofs.Ytljdfanebjhhmaa
