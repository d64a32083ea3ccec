import Derived.Test.YthkhkehpmolfaaaProg
import Derived.Test.YthkhkehpmolfaaaZa
import Derived.Test.YthkhkehpmolfaaaZf
namespace Go.Proofs.Ythkhkehpmolfaaa
open Go Go.RowKit
set_option maxHeartbeats 1000000

def updF (f : Nat → Nat → Int) (x y : Nat) (v : Int) : Nat → Nat → Int := fun a b => if a = x ∧ b = y then v else f a b

theorem TabF.drew {ts t : TypeId} {w : World} {g : Nat} {G : Nat → Nat} {n : Nat} {f : Nat → Nat → Int} (h : TabF ts t w g G n f) : TabF ts t w.drew g G n f := ⟨h.top, h.row, h.ne, h.inj⟩
theorem Touch.drew {lo hi : Nat} {w w' : World} (h : Touch lo hi w w') : Touch lo hi w w'.drew := ⟨h.os, h.tape, h.output, h.size, h.block⟩
theorem Touch.store {lo hi : Nat} {w w' : World} (h : Touch lo hi w w') {p : Addr} (h1 : lo ≤ p.block) (h2 : p.block < hi) (v : Value) : Touch lo hi w (w'.setCell p v) :=
  ⟨h.os, h.tape, h.output, by simpa [World.setCell] using h.size, fun k hk hne => (Below.heap_setCell w' p v k (by omega)).trans (h.block k hk hne)⟩
theorem TabF.far1 {ts t : TypeId} {w : World} {g : Nat} {G : Nat → Nat} {n : Nat} {f : Nat → Nat → Int} (h : TabF ts t w g G n f) {p : Addr} (hg : g ≠ p.block) (hG : ∀ i, i < n → G i ≠ p.block) (v : Value) : TabF ts t (w.setCell p v) g G n f := by
  obtain ⟨C, r⟩ := h.top
  exact ⟨⟨C, r.far hg v⟩, fun i hi => (h.row i hi).far (hG i hi) v, h.ne, h.inj⟩

theorem set_any (lo mid hi : Nat) (g1 g2 : Nat) (G1 G2 : Nat → Nat) (n c1 c2 : Nat) (f1 f2 : Nat → Nat → Int) (x y : Nat) (u v : Int) (w : World) (h1 : TabF 31 2 w g1 G1 n f1) (h2 : TabF 31 2 w g2 G2 n f2)
    (r1 : lo ≤ g1 ∧ g1 < mid) (r2 : ∀ i, i < n → lo ≤ G1 i ∧ G1 i < mid) (r3 : mid ≤ g2 ∧ g2 < hi) (r4 : ∀ i, i < n → mid ≤ G2 i ∧ G2 i < hi) (r5 : hi ≤ w.heap.size) (_hnb : n ≤ 12) (hx : x < n) (hy : y < n) :
    Calls Try.prog 121 #[.agg #[.slice (some ⟨g1, 0, none⟩) n c1, .slice (some ⟨g2, 0, none⟩) n c2], .agg #[.int .i64 x, .int .i64 y], .agg #[.int .i64 u, .int .i64 v]] w fun e w' => e = .returned (.tuple #[]) ∧ Touch lo hi w w' ∧ TabF 31 2 w' g1 G1 n (updF f1 x y u) ∧ TabF 31 2 w' g2 G2 n (updF f2 x y v) := by
  have H1 := hide h1
  have H2 := hide h2
  have R2 := hide r2
  have R4 := hide r4
  have rx1 := r2 x hx
  have rx2 := r4 x hx
  clear h1 h2 r2 r4
  go_enter Try.func121, Try.ntmps121
  go_wp2_with fail
  refine wp_gen fun w1 hw1 => ?_
  have hbb : Below w.heap.size w w1 := by rw [hw1]; exact (((Below.refl _ _).alloc (Nat.le_refl _) _).alloc (by simp) _).alloc (by simp; omega) _
  have HT1 : Hid (Touch lo hi w w1) := hide (Touch.of_below hbb)
  have hk0 : Blk w1 w.heap.size 41 [.slice (some ⟨g1, 0, none⟩) n c1, .slice (some ⟨g2, 0, none⟩) n c2] := by rw [hw1]; exact ((Blk.new _ _ _).alloc _).alloc _
  have hk1 : Blk w1 (w.heap.size + 1) 94 [.int .i64 x, .int .i64 y] := by rw [hw1]; have h := (Blk.new (w.alloc (Obj.cells #[.slice (some ⟨g1, 0, none⟩) n c1, .slice (some ⟨g2, 0, none⟩) n c2] 41)) 94 [.int .i64 x, .int .i64 y]).alloc (Obj.cells #[Value.int IntKind.i64 u, Value.int IntKind.i64 v] 94); simpa using h
  have hk2 : Blk w1 (w.heap.size + 1 + 1) 94 [.int .i64 u, .int .i64 v] := by rw [hw1]; have h := (Blk.new ((w.alloc (Obj.cells #[.slice (some ⟨g1, 0, none⟩) n c1, .slice (some ⟨g2, 0, none⟩) n c2] 41)).alloc (Obj.cells #[Value.int IntKind.i64 x, Value.int IntKind.i64 y] 94)) 94 [.int .i64 u, .int .i64 v]); simpa using h
  have HK0 := hide hk0
  have HK1 := hide hk1
  have HK2 := hide hk2
  have HM1 := hide (H1.out.later hbb)
  have HM2 := hide (H2.out.later hbb)
  obtain ⟨C1, t1⟩ := HM1.out.top
  obtain ⟨C2, t2⟩ := HM2.out.top
  obtain ⟨b1, hb1⟩ : ∃ b, G1 x = b := ⟨_, rfl⟩
  obtain ⟨b2, hb2⟩ : ∃ b, G2 x = b := ⟨_, rfl⟩
  rw [hb1] at rx1
  rw [hb2] at rx2
  have a0 := hk0.cell 0 _ rfl
  have a1 := hk0.cell 1 _ rfl
  have a2 := hk1.cell 0 _ rfl
  have a3 := hk1.cell 1 _ rfl
  have a4 := hk2.cell 0 _ rfl
  have a5 := hk2.cell 1 _ rfl
  have a6 : w1.cell? ⟨g1, x, none⟩ = some (.slice (some ⟨b1, 0, none⟩) n (C1 x)) := by rw [← hb1]; exact t1.cell hx
  have a7 : w1.cell? ⟨g2, x, none⟩ = some (.slice (some ⟨b2, 0, none⟩) n (C2 x)) := by rw [← hb2]; exact t2.cell hx
  have a8 : w1.cell? ⟨b1, y, none⟩ = some (.int .i64 (f1 x y)) := by rw [← hb1]; exact (HM1.out.row x hx).cell hy
  have a9 : w1.cell? ⟨b2, y, none⟩ = some (.int .i64 (f2 x y)) := by rw [← hb2]; exact (HM2.out.row x hx).cell hy
  have e8 : w1.frozen? ⟨b1, y, none⟩ = false := by rw [← hb1]; exact (HM1.out.row x hx).frozen y
  have e9 : w1.frozen? ⟨b2, y, none⟩ = false := by rw [← hb2]; exact (HM2.out.row x hx).frozen y
  have hg1b1 : g1 ≠ b1 := by rw [← hb1]; exact HM1.out.ne x hx
  have hg2b2 : g2 ≠ b2 := by rw [← hb2]; exact HM2.out.ne x hx
  obtain ⟨z1, hz1⟩ : ∃ z, f1 x y = z := ⟨_, rfl⟩
  obtain ⟨z2, hz2⟩ : ∃ z, f2 x y = z := ⟨_, rfl⟩
  rw [hz1] at a8
  rw [hz2] at a9
  have HB1 := hide hb1
  have HB2 := hide hb2
  have m0 : b1 ≠ w.heap.size := by omega
  have m1 : b1 ≠ w.heap.size + 1 := by omega
  have m2 : b1 ≠ w.heap.size + 1 + 1 := by omega
  have m3 : b1 ≠ g2 := by omega
  have m4 : b1 ≠ b2 := by omega
  have m5 : b2 ≠ w.heap.size := by omega
  have m6 : b2 ≠ w.heap.size + 1 := by omega
  have m7 : b2 ≠ w.heap.size + 1 + 1 := by omega
  have m8 : b2 ≠ g1 := by omega
  have m9 := hg1b1.symm
  have m10 := hg2b2.symm
  have l0 := m0.symm
  have l1 := m1.symm
  have l2 := m2.symm
  have l3 := m3.symm
  have l4 := m4.symm
  have l5 := m5.symm
  have l6 := m6.symm
  have l7 := m7.symm
  have l8 := m8.symm
  have hxz : (x : Int) < n := by omega
  have hyz : (y : Int) < n := by omega
  have hxz0 : (0 : Int) ≤ x := by omega
  have hyz0 : (0 : Int) ≤ y := by omega
  clear hw1 hk0 hk1 hk2 hbb t1 t2 hb1 hb2 hz1 hz2
  go_region_held3 (fun w' => w'.cell? ⟨w.heap.size, 0, none⟩ = some (.slice (some ⟨g1, 0, none⟩) n c1) ∧ w'.cell? ⟨w.heap.size, 1, none⟩ = some (.slice (some ⟨g2, 0, none⟩) n c2) ∧ w'.cell? ⟨w.heap.size + 1, 0, none⟩ = some (.int .i64 x) ∧ w'.cell? ⟨w.heap.size + 1, 1, none⟩ = some (.int .i64 y) ∧ w'.cell? ⟨w.heap.size + 1 + 1, 0, none⟩ = some (.int .i64 u) ∧ w'.cell? ⟨w.heap.size + 1 + 1, 1, none⟩ = some (.int .i64 v) ∧ w'.cell? ⟨g1, x, none⟩ = some (.slice (some ⟨b1, 0, none⟩) n (C1 x)) ∧ w'.cell? ⟨g2, x, none⟩ = some (.slice (some ⟨b2, 0, none⟩) n (C2 x))) (first | exact ⟨a0, a1, a2, a3, a4, a5, a6, a7⟩ | go_keep) (first | fail)
  go_wp2_with fail
  refine wp_gen fun w2 hw2 => ?_
  have HN1 : Hid (TabF 31 2 w2 g1 G1 n (updF f1 x y u)) := hide (by rw [hw2, ← HB1.out]; exact (HM1.out.set x y u hx).drew)
  have HN2 : Hid (TabF 31 2 w2 g2 G2 n f2) := hide (by rw [hw2]; exact (HM2.out.far1 (p := ⟨b1, y, none⟩) l3 (fun i hi => by have := R4.out i hi; show G2 i ≠ b1; omega) _).drew)
  have HT2 : Hid (Touch lo hi w w2) := hide (by rw [hw2]; exact (HT1.out.store (p := ⟨b1, y, none⟩) rx1.1 (by show b1 < hi; omega) _).drew)
  have hj0 : Blk w2 w.heap.size 41 [.slice (some ⟨g1, 0, none⟩) n c1, .slice (some ⟨g2, 0, none⟩) n c2] := by rw [hw2]; exact (HK0.out.far (p := ⟨b1, y, none⟩) l0 _).drew
  have hj1 : Blk w2 (w.heap.size + 1) 94 [.int .i64 x, .int .i64 y] := by rw [hw2]; exact (HK1.out.far (p := ⟨b1, y, none⟩) l1 _).drew
  have hj2 : Blk w2 (w.heap.size + 1 + 1) 94 [.int .i64 u, .int .i64 v] := by rw [hw2]; exact (HK2.out.far (p := ⟨b1, y, none⟩) l2 _).drew
  clear a0 a1 a2 a3 a4 a5 a6 a7 a8 a9 e8 e9 hw2
  have a0 := hj0.cell 0 _ rfl
  have a1 := hj0.cell 1 _ rfl
  have a2 := hj1.cell 0 _ rfl
  have a3 := hj1.cell 1 _ rfl
  have a4 := hj2.cell 0 _ rfl
  have a5 := hj2.cell 1 _ rfl
  obtain ⟨C2, t2⟩ := HN2.out.top
  have a7 : w2.cell? ⟨g2, x, none⟩ = some (.slice (some ⟨b2, 0, none⟩) n (C2 x)) := by rw [← HB2.out]; exact t2.cell hx
  have a9 : w2.cell? ⟨b2, y, none⟩ = some (.int .i64 (f2 x y)) := by rw [← HB2.out]; exact (HN2.out.row x hx).cell hy
  have e9 : w2.frozen? ⟨b2, y, none⟩ = false := by rw [← HB2.out]; exact (HN2.out.row x hx).frozen y
  clear hj0 hj1 hj2 t2
  go_region_held3 (fun w' => w'.cell? ⟨w.heap.size, 0, none⟩ = some (.slice (some ⟨g1, 0, none⟩) n c1) ∧ w'.cell? ⟨w.heap.size, 1, none⟩ = some (.slice (some ⟨g2, 0, none⟩) n c2) ∧ w'.cell? ⟨w.heap.size + 1, 0, none⟩ = some (.int .i64 x) ∧ w'.cell? ⟨w.heap.size + 1, 1, none⟩ = some (.int .i64 y) ∧ w'.cell? ⟨w.heap.size + 1 + 1, 0, none⟩ = some (.int .i64 u) ∧ w'.cell? ⟨w.heap.size + 1 + 1, 1, none⟩ = some (.int .i64 v) ∧ w'.cell? ⟨g2, x, none⟩ = some (.slice (some ⟨b2, 0, none⟩) n (C2 x))) (first | exact ⟨a0, a1, a2, a3, a4, a5, a7⟩ | go_keep) (first | fail)
  clear m0 m1 m2 m3 m4 m5 m6 m7 m8 m9 m10 l0 l1 l2 l3 l4 l5 l6 l7 l8
  go_wp2_with fail
  refine bp_gen fun wf hwf => ?_
  have HF1 : Hid (TabF 31 2 wf g1 G1 n (updF f1 x y u)) := hide (by rw [hwf]; exact (HN1.out.far1 (p := ⟨b2, y, none⟩) (by show g1 ≠ b2; omega) (fun i hi => by have := R2.out i hi; show G1 i ≠ b2; omega) _).drew)
  have HF2 : Hid (TabF 31 2 wf g2 G2 n (updF f2 x y v)) := hide (by rw [hwf, ← HB2.out]; exact (HN2.out.set x y v hx).drew)
  have HTF : Hid (Touch lo hi w wf) := hide (by rw [hwf]; exact (HT2.out.store (p := ⟨b2, y, none⟩) (by show lo ≤ b2; omega) rx2.2 _).drew)
  clear hwf
  go_end0
  exact ⟨rfl, HTF.out, HF1.out, HF2.out⟩
end Go.Proofs.Ythkhkehpmolfaaa
