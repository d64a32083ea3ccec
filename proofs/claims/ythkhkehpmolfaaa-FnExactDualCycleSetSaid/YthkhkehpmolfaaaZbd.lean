import Derived.Test.YthkhkehpmolfaaaZay
import Derived.Deep.AppendLies
import Derived.Deep.RegionLaw
import Derived.Test.YthkhkehpmolfaaaZam
import Derived.Test.YthkhkehpmolfaaaZf
namespace Go.Proofs.Ythkhkehpmolfaaa
open Go Go.RowKit
set_option maxHeartbeats 2000000
theorem em_new {w : World} {v : Value} {t : TypeId} : ∀ j u, [v][j]? = some u → (w.alloc (.cells #[v] t)).cell? ((⟨w.heap.size, 0, none⟩ : Addr).add j) = some u := by
  intro j u hj
  match j, hj with
  | 0, hj => simp at hj; subst hj; simp [Addr.add, World.cell?_alloc_new]

theorem em_new2 {w : World} {o : Obj} {v : Value} {t : TypeId} : ∀ j u, [v][j]? = some u → ((w.alloc o).alloc (.cells #[v] t)).drew.cell? ((⟨w.heap.size + 1, 0, none⟩ : Addr).add j) = some u := by
  intro j u hj
  have h := em_new (w := w.alloc o) (v := v) (t := t) j u hj
  have e : (w.alloc o).heap.size = w.heap.size + 1 := by simp
  rw [e] at h
  exact h
/-- The world in which a row is appended. -/
theorem em_world (w : World) (n : Nat) (u : Value) (ts t : TypeId) : Below w.heap.size w ((w.alloc (.cells (madeCells #[.int .i64 0] n) t)).alloc (.cells #[u] ts)).drew ∧ ((w.alloc (.cells (madeCells #[.int .i64 0] n) t)).alloc (.cells #[u] ts)).drew.heap.size = w.heap.size + 1 + 1 ∧ PreIs ((w.alloc (.cells (madeCells #[.int .i64 0] n) t)).alloc (.cells #[u] ts)).drew w.heap.size t n (fun _ => .int .i64 0) := by
  have h0 := PreIs.of_row (World.rowIs_made w (.int .i64 0) n t)
  have h1 : Below w.heap.size w ((w.alloc (.cells (madeCells #[.int .i64 0] n) t)).alloc (.cells #[u] ts)) := ((Below.refl _ _).alloc (Nat.le_refl _) _).alloc (by simp) _
  refine ⟨h1.drew, by simp [World.drew], ?_⟩
  exact (h0.later' ((Below.refl _ _).alloc (Nat.le_refl _) _) : PreIs ((w.alloc (.cells (madeCells #[.int .i64 0] n) t)).alloc (.cells #[u] ts)) w.heap.size t n (fun _ => .int .i64 0))

def EmPost (n : Nat) (w : World) (e : Ending) (w' : World) : Prop := ∃ g1 c1 g2 c2 G1 G2, e = .returned (.agg #[.slice (some ⟨g1, 0, none⟩) n c1, .slice (some ⟨g2, 0, none⟩) n c2]) ∧ Below w.heap.size w w' ∧ Duo 31 2 w.heap.size w' n g1 G1 (fun _ _ => 0) g2 G2 (fun _ _ => 0)
set_option maxRecDepth 100000 in
theorem emptyS_any (n : Nat) (w : World) (h1 : 1 ≤ n) (h12 : n ≤ 12) :
    Calls Try.prog 95 #[.int .i64 n] w (EmPost n w) := by
  have hmk := run_make_row' (P := Try.prog) 31 2 (.int .i64 0) 8 Try.underlying31 ntInfo rfl .i64 .i64 n (by omega) (by omega)
  obtain ⟨i2, hj, hy0, hy1, hy2⟩ := info_parts ntInfo2
  go_enter Try.func95, Try.ntmps95
  go_wp2_with fail
  refine wp_gen fun w0 hw0 => ?_
  have hb0 : Below w.heap.size w w0 := by rw [hw0]; exact ((Below.refl _ _).alloc (Nat.le_refl _) _).alloc (by simp) _
  have HB0 := hide hb0
  have HR0 : Hid (Blk w0 w.heap.size 41 [.slice none 0 0, .slice none 0 0]) := hide (by rw [hw0]; exact (Blk.new _ _ _).alloc _)
  have HO0 : Hid (Blk w0 (w.heap.size + 1) 41 [.slice none 0 0, .slice none 0 0]) := hide (by rw [hw0]; have h := Blk.new (w.alloc (Obj.cells #[Value.slice none 0 0, Value.slice none 0 0] 41)) 41 [.slice none 0 0, .slice none 0 0]; simpa using h)
  have hs0 : w0.heap.size = w.heap.size + 1 + 1 := by rw [hw0]; simp
  have he := Emp.start w0 31 2 n HO0.out.lt
  rw [hs0] at he
  have HE0 := hide he
  clear hw0 hb0 he
  go_loopw [4] (fun i wr => ∃ (x : Nat) (v1 v2 : Value) (G1 G2 : Nat → Nat), x ≤ n ∧ i = .int .i64 x ∧ Below w.heap.size w wr ∧ Blk wr w.heap.size 41 [.slice none 0 0, .slice none 0 0] ∧ Blk wr (w.heap.size + 1) 41 [v1, v2] ∧ Emp 31 2 (w.heap.size + 1 + 1) wr (w.heap.size + 1) v1 v2 x x n G1 G2) (fun i _ => n - (intOf i).toNat)
  case atStart => exact ⟨0, _, _, _, _, Nat.zero_le _, rfl, HB0.out, HR0.out, HO0.out, HE0.out⟩
  case round =>
    obtain ⟨x, v1, v2, G1, G2, hx, rfl, hbe, hrr, hoo, hem⟩ := hrel
    have HB := hide hbe
    have HR := hide hrr
    have HO := hide hoo
    have HE := hide hem
    clear hbe hrr hoo hem
    by_cases hlt : x < n
    · have hxz : (x : Int) < n := by omega
      have k0 := HO.out.cell 0 _ rfl
      have k1 := HO.out.cell 1 _ rfl
      have k2 := HO.out.frozen 0
      have k3 := HO.out.frozen 1
      have k4 := fun o => (HO.out.alloc o).cell 0 _ rfl
      have k5 := fun o1 o2 => ((HO.out.alloc o1).alloc o2).cell 0 _ rfl
      go_wp2_with fail
      have HOW1 := hide HE.out.o1
      have hobl := HO.out.lt
      go_region_law (first | (refine step_append_lies _ (by rfl) _ _ _ (by rfl) (w.heap.size + 1 + 1) 31 i2 _ 1 24 Try.underlying22 hj hy0 hy1 hy2 rfl (by omega) v1 x (hdr G1 n x) (by rfl) ((HOW1.out.alloc _).alloc _) ⟨wr.heap.size + 1, 0, none⟩ 1 1 [.slice (some ⟨wr.heap.size, 0, none⟩) n n] (by rfl) (by rfl) (by first | exact em_new | exact em_new2) (by simp [Value.oneCell']) (by omega) (by unfold maxLen; omega) (by omega) (by simp; omega) (wr.heap.size + 1 + 1) (by simp) ?_; intro gg cap w5 hown5 hgrow5 hat5 hlt5; obtain ⟨hw1, hw2, hw3⟩ := em_world wr n (.slice (some ⟨wr.heap.size, 0, none⟩) n n) 31 2; have hbk := HE.out.kept HO.out hw1 hgrow5; have k0 := hbk.cell 0 _ rfl; have k1 := hbk.cell 1 _ rfl; have k2 := hbk.frozen 0; have k3 := hbk.frozen 1))
      all_goals
        have HE3 := hide (HE.out.push (q := 0) (by decide) hw1 hw2 hw3 hown5 hgrow5 (hat5.imp (fun e => e.symm) (fun e => by rw [e]; rfl)))
        have hr3 : Blk (w5.setCell ⟨w.heap.size + 1, 0, none⟩ (.slice (some ⟨gg, 0, none⟩) (x + 1) cap)) w.heap.size 41 [.slice none 0 0, .slice none 0 0] := HE.out.keptR HR.out (by omega) (by omega) hw1 hgrow5 _ _
        have hb3 : Below w.heap.size w (w5.setCell ⟨w.heap.size + 1, 0, none⟩ (.slice (some ⟨gg, 0, none⟩) (x + 1) cap)) := ((HB.out.trans (hw1.mono HB.out.size)).grown hgrow5 (Nat.le_trans HB.out.size hw1.size) (fun j e => by have := (own_type HE.out.o1 e).2.1; omega)).setCell (p := ⟨w.heap.size + 1, 0, none⟩) (by show w.heap.size ≤ w.heap.size + 1; omega) _
        have ho3 : Blk (w5.setCell ⟨w.heap.size + 1, 0, none⟩ (.slice (some ⟨gg, 0, none⟩) (x + 1) cap)) (w.heap.size + 1) 41 [.slice (some ⟨gg, 0, none⟩) (x + 1) cap, v2] := hbk.set 0 _
        have HR3 := hide hr3
        have HB3 := hide hb3
        have HO3 := hide ho3
        clear k0 k1 k2 k3 k4 k5 hr3 hb3 ho3 hown5 hgrow5 hat5 hlt5 hw1 hw2 hw3 hbk hobl HOW1
        generalize hw6 : w5.setCell ⟨w.heap.size + 1, 0, none⟩ (.slice (some ⟨gg, 0, none⟩) (x + 1) cap) = w6 at HE3 HR3 HB3 HO3 ⊢
        clear hw6
        have k0 := HO3.out.cell 0 _ rfl
        have k1 := HO3.out.cell 1 _ rfl
        have k2 := HO3.out.frozen 0
        have k3 := HO3.out.frozen 1
        have k4 := fun o => (HO3.out.alloc o).cell 1 _ rfl
        have k5 := fun o1 o2 => ((HO3.out.alloc o1).alloc o2).cell 1 _ rfl
        go_wp2_with fail
        have HE4 := hide HE3.out.swapped
        have HOW2 := hide HE4.out.o1
        have hobl := HO3.out.lt
        go_region_law (first | (refine step_append_lies _ (by rfl) _ _ _ (by rfl) (w.heap.size + 1 + 1) 31 i2 _ 1 24 Try.underlying22 hj hy0 hy1 hy2 rfl (by omega) v2 x (hdr G2 n x) (by rfl) ((HOW2.out.alloc _).alloc _) ⟨w6.heap.size + 1, 0, none⟩ 1 1 [.slice (some ⟨w6.heap.size, 0, none⟩) n n] (by rfl) (by rfl) (by first | exact em_new | exact em_new2) (by simp [Value.oneCell']) (by omega) (by unfold maxLen; omega) (by omega) (by simp; omega) (w6.heap.size + 1 + 1) (by simp) ?_; intro gg2 cap2 w7 hown7 hgrow7 hat7 hlt7; obtain ⟨hw1, hw2, hw3⟩ := em_world w6 n (.slice (some ⟨w6.heap.size, 0, none⟩) n n) 31 2; have hbk := HE4.out.kept HO3.out hw1 hgrow7; have k0 := hbk.cell 0 _ rfl; have k1 := hbk.cell 1 _ rfl; have k2 := hbk.frozen 0; have k3 := hbk.frozen 1))
        all_goals
          have HE5 := hide (HE4.out.push (q := 1) (by decide) hw1 hw2 hw3 hown7 hgrow7 (hat7.imp (fun e => e.symm) (fun e => by rw [e]; rfl)))
          have hr5 : Blk (w7.setCell ⟨w.heap.size + 1, 1, none⟩ (.slice (some ⟨gg2, 0, none⟩) (x + 1) cap2)) w.heap.size 41 [.slice none 0 0, .slice none 0 0] := HE4.out.keptR HR3.out (by omega) (by omega) hw1 hgrow7 _ _
          have hb5 : Below w.heap.size w (w7.setCell ⟨w.heap.size + 1, 1, none⟩ (.slice (some ⟨gg2, 0, none⟩) (x + 1) cap2)) := ((HB3.out.trans (hw1.mono HB3.out.size)).grown hgrow7 (Nat.le_trans HB3.out.size hw1.size) (fun j e => by have := (own_type HE4.out.o1 e).2.1; omega)).setCell (p := ⟨w.heap.size + 1, 1, none⟩) (by show w.heap.size ≤ w.heap.size + 1; omega) _
          have ho5 : Blk (w7.setCell ⟨w.heap.size + 1, 1, none⟩ (.slice (some ⟨gg2, 0, none⟩) (x + 1) cap2)) (w.heap.size + 1) 41 [.slice (some ⟨gg, 0, none⟩) (x + 1) cap, .slice (some ⟨gg2, 0, none⟩) (x + 1) cap2] := hbk.set 1 _
          have HR5 := hide hr5
          have HB5 := hide hb5
          have HO5 := hide ho5
          clear k0 k1 k2 k3 k4 k5 hr5 hb5 ho5 hown7 hgrow7 hat7 hlt7 hw1 hw2 hw3 hbk hobl HOW2
          go_wp2_with fail
          go_roundw
          case rel => exact ⟨x + 1, _, _, _, _, by omega, by go_num, HB5.out, HR5.out, HO5.out, HE5.out.swapped⟩
          case measure => simp [intOf]; omega
    · have hxn : x = n := by omega
      subst hxn
      have k0 := HO.out.cell 0 _ rfl
      have k1 := HO.out.cell 1 _ rfl
      have k2 := HR.out.cell 0 _ rfl
      have k3 := HR.out.cell 1 _ rfl
      have k4 := HR.out.frozen 0
      have k5 := HR.out.frozen 1
      obtain ⟨g1, c1, hv1⟩ : ∃ g c, v1 = .slice (some ⟨g, 0, none⟩) x c := by
        rcases HE.out.o1.2 with ⟨_, h0⟩ | ⟨g, cap, cur, hv, _⟩
        · omega
        · exact ⟨g, cap, hv⟩
      obtain ⟨g2, c2, hv2⟩ : ∃ g c, v2 = .slice (some ⟨g, 0, none⟩) x c := by
        rcases HE.out.o2.2 with ⟨_, h0⟩ | ⟨g, cap, cur, hv, _⟩
        · omega
        · exact ⟨g, cap, hv⟩
      subst hv1
      subst hv2
      go_wp2_with fail
      clear k0 k1 k2 k3 k4 k5
      refine bp_gen fun wf hwf => ?_
      have HRF : Blk wf w.heap.size 41 [.slice (some ⟨g1, 0, none⟩) x c1, .slice (some ⟨g2, 0, none⟩) x c2] := by rw [hwf]; exact (HR.out.set 0 _).set 1 _
      have HBF : Below w.heap.size w wf := by rw [hwf]; exact (HB.out.setCell (p := ⟨w.heap.size, 0, none⟩) (Nat.le_refl _) _).setCell (p := ⟨w.heap.size, 1, none⟩) (Nat.le_refl _) _
      have HEF : Emp 31 2 (w.heap.size + 1 + 1) wf (w.heap.size + 1) (.slice (some ⟨g1, 0, none⟩) x c1) (.slice (some ⟨g2, 0, none⟩) x c2) x x x G1 G2 := by rw [hwf]; exact (HE.out.lowset (by show w.heap.size < w.heap.size + 1 + 1; omega) _).lowset (by show w.heap.size < w.heap.size + 1 + 1; omega) _
      have q0 := HRF.cell 0 _ rfl
      have q1 := HRF.cell 1 _ rfl
      clear hwf
      exact bodyPost_ret (v := .agg #[.slice (some ⟨g1, 0, none⟩) x c1, .slice (some ⟨g2, 0, none⟩) x c2]) (by simp [results, Try.results95, go_sem, q0, q1]) rfl (by unfold EmPost; exact ⟨g1, c1, g2, c2, G1, G2, rfl, HBF, HEF.duo (by decide) (by omega)⟩)
end Go.Proofs.Ythkhkehpmolfaaa
namespace Go.Proofs.Ythkhkehpmolfaaa
open Go Go.RowKit
section
variable {ts t : TypeId} {lo n g1 g2 : Nat} {w w' : World} {G1 G2 : Nat → Nat} {f1 f2 : Nat → Nat → Int}
theorem Duo.later (h : Duo ts t lo w n g1 G1 f1 g2 G2 f2) (hb : Below w.heap.size w w') : Duo ts t lo w' n g1 G1 f1 g2 G2 f2 :=
  ⟨h.t1.later hb, h.t2.later hb, h.l1, h.l2, h.ne, h.n12, h.n21, h.rows⟩
theorem Duo.set1 (h : Duo ts t lo w n g1 G1 f1 g2 G2 f2) (i j : Nat) (v : Int) (hi : i < n) : Duo ts t lo (w.setCell ⟨G1 i, j, none⟩ (.int .i64 v)) n g1 G1 (fun a b => if a = i ∧ b = j then v else f1 a b) g2 G2 f2 :=
  ⟨h.t1.set i j v hi, h.t2.far1 (p := ⟨G1 i, j, none⟩) (h.n21 i hi) (fun a ha e => h.rows i a hi ha e.symm) _, h.l1, h.l2, h.ne, h.n12, h.n21, h.rows⟩
theorem Duo.set2 (h : Duo ts t lo w n g1 G1 f1 g2 G2 f2) (i j : Nat) (v : Int) (hi : i < n) : Duo ts t lo (w.setCell ⟨G2 i, j, none⟩ (.int .i64 v)) n g1 G1 f1 g2 G2 (fun a b => if a = i ∧ b = j then v else f2 a b) :=
  ⟨h.t1.far1 (p := ⟨G2 i, j, none⟩) (h.n12 i hi) (fun a ha e => h.rows a i ha hi e) _, h.t2.set i j v hi, h.l1, h.l2, h.ne, h.n12, h.n21, h.rows⟩
theorem Duo.congr {h1 h2 : Nat → Nat → Int} (h : Duo ts t lo w n g1 G1 f1 g2 G2 f2) (e1 : ∀ a b, a < n → b < n → f1 a b = h1 a b) (e2 : ∀ a b, a < n → b < n → f2 a b = h2 a b) : Duo ts t lo w n g1 G1 h1 g2 G2 h2 :=
  ⟨h.t1.congr e1, h.t2.congr e2, h.l1, h.l2, h.ne, h.n12, h.n21, h.rows⟩
theorem Duo.objW (h : Duo ts t lo w n g1 G1 f1 g2 G2 f2) {hi : Nat} (hhi : w.heap.size ≤ hi) : ObjW ts t lo hi w (some ⟨g1, 0, none⟩) (grid n f1) (some ⟨g2, 0, none⟩) (grid n f2) :=
  ⟨h.t1.obj h.l1.1 (Nat.lt_of_lt_of_le h.t1.lt hhi) (fun i hin => ⟨h.l1.2 i hin, Nat.lt_of_lt_of_le (h.t1.row i hin).lt hhi⟩), h.t2.obj h.l2.1 (Nat.lt_of_lt_of_le h.t2.lt hhi) (fun i hin => ⟨h.l2.2 i hin, Nat.lt_of_lt_of_le (h.t2.row i hin).lt hhi⟩)⟩
end
end Go.Proofs.Ythkhkehpmolfaaa
