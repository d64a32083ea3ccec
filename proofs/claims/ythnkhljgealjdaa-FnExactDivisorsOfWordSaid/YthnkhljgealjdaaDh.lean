import Derived.Test.YthnkhljgealjdaaDg
import Derived.Deep.AppendLies
import Derived.Deep.RegionLaw
import Derived.Test.YthnkhljgealjdaaProg
import Derived.Test.YthnkhljgealjdaaDa
import Derived.Test.YthnkhljgealjdaaDb
import Derived.Test.YthnkhljgealjdaaDd
import Derived.Test.YthnkhljgealjdaaDe
import Derived.Test.YthnkhljgealjdaaDf
namespace Go.Proofs.Ythnkhljgealjdaa
open Go Go.RowKit
set_option maxHeartbeats 2000000
theorem em_new {w : World} {v : Value} {t : TypeId} : ∀ j u, [v][j]? = some u → (w.alloc (.cells #[v] t)).cell? ((⟨w.heap.size, 0, none⟩ : Addr).add j) = some u := by
  intro j u hj
  match j, hj with
  | 0, hj => simp at hj; subst hj; simp [Addr.add, World.cell?_alloc_new]

theorem em_new2 {w : World} {o : Obj} {v : Value} {t : TypeId} : ∀ j u, [v][j]? = some u → ((w.alloc o).alloc (.cells #[v] t)).drew.cell? ((⟨w.heap.size + 1, 0, none⟩ : Addr).add j) = some u := by
  intro j u hj
  have h := em_new (w := w.alloc o) (v := v) (t := t) j u hj
  have e : (w.alloc o).heap.size = w.heap.size + 1 := by simp
  rw [e] at h
  exact h
/-- The world in which a row is appended. -/
theorem em_world (w : World) (n : Nat) (u : Value) (ts t : TypeId) : Below w.heap.size w ((w.alloc (.cells (madeCells #[.int .i64 0] n) t)).alloc (.cells #[u] ts)).drew ∧ ((w.alloc (.cells (madeCells #[.int .i64 0] n) t)).alloc (.cells #[u] ts)).drew.heap.size = w.heap.size + 1 + 1 ∧ PreIs ((w.alloc (.cells (madeCells #[.int .i64 0] n) t)).alloc (.cells #[u] ts)).drew w.heap.size t n (fun _ => .int .i64 0) := by
  have h0 := PreIs.of_row (World.rowIs_made w (.int .i64 0) n t)
  have h1 : Below w.heap.size w ((w.alloc (.cells (madeCells #[.int .i64 0] n) t)).alloc (.cells #[u] ts)) := ((Below.refl _ _).alloc (Nat.le_refl _) _).alloc (by simp) _
  refine ⟨h1.drew, by simp [World.drew], ?_⟩
  exact (h0.later' ((Below.refl _ _).alloc (Nat.le_refl _) _) : PreIs ((w.alloc (.cells (madeCells #[.int .i64 0] n) t)).alloc (.cells #[u] ts)) w.heap.size t n (fun _ => .int .i64 0))

def EmPost (n : Nat) (w : World) (e : Ending) (w' : World) : Prop := ∃ g1 c1 g2 c2 G1 G2, e = .returned (.agg #[.slice (some ⟨g1, 0, none⟩) n c1, .slice (some ⟨g2, 0, none⟩) n c2]) ∧ Below w.heap.size w w' ∧ Duo 25 2 w.heap.size w' n g1 G1 (fun _ _ => 0) g2 G2 (fun _ _ => 0)
set_option maxRecDepth 100000 in
theorem emptyS_any (n : Nat) (w : World) (h1 : 1 ≤ n) (h12 : n ≤ 12) :
    Calls Try.prog 52 #[.int .i64 n] w (EmPost n w) := by
  have hmk := run_make_row' (P := Try.prog) 25 2 (.int .i64 0) 8 Try.underlying25 ntInfo rfl .i64 .i64 n (by omega) (by omega)
  obtain ⟨i2, hj, hy0, hy1, hy2⟩ := info_parts ntInfo2
  go_enter Try.func52, Try.ntmps52
  go_wp2_with fail
  refine wp_gen fun w0 hw0 => ?_
  have hb0 : Below w.heap.size w w0 := by rw [hw0]; exact ((Below.refl _ _).alloc (Nat.le_refl _) _).alloc (by simp) _
  have HB0 := hide hb0
  have HR0 : Hid (Blk w0 w.heap.size 29 [.slice none 0 0, .slice none 0 0]) := hide (by rw [hw0]; exact (Blk.new _ _ _).alloc _)
  have HO0 : Hid (Blk w0 (w.heap.size + 1) 29 [.slice none 0 0, .slice none 0 0]) := hide (by rw [hw0]; have h := Blk.new (w.alloc (Obj.cells #[Value.slice none 0 0, Value.slice none 0 0] 29)) 29 [.slice none 0 0, .slice none 0 0]; simpa using h)
  have hs0 : w0.heap.size = w.heap.size + 1 + 1 := by rw [hw0]; simp
  have he := Emp.start w0 25 2 n HO0.out.lt
  rw [hs0] at he
  have HE0 := hide he
  clear hw0 hb0 he
  go_loopw [4] (fun i wr => ∃ (x : Nat) (v1 v2 : Value) (G1 G2 : Nat → Nat), x ≤ n ∧ i = .int .i64 x ∧ Below w.heap.size w wr ∧ Blk wr w.heap.size 29 [.slice none 0 0, .slice none 0 0] ∧ Blk wr (w.heap.size + 1) 29 [v1, v2] ∧ Emp 25 2 (w.heap.size + 1 + 1) wr (w.heap.size + 1) v1 v2 x x n G1 G2) (fun i _ => n - (intOf i).toNat)
  case atStart => exact ⟨0, _, _, _, _, Nat.zero_le _, rfl, HB0.out, HR0.out, HO0.out, HE0.out⟩
  case round =>
    obtain ⟨x, v1, v2, G1, G2, hx, rfl, hbe, hrr, hoo, hem⟩ := hrel
    have HB := hide hbe
    have HR := hide hrr
    have HO := hide hoo
    have HE := hide hem
    clear hbe hrr hoo hem
    by_cases hlt : x < n
    · have hxz : (x : Int) < n := by omega
      have k0 := HO.out.cell 0 _ rfl
      have k1 := HO.out.cell 1 _ rfl
      have k2 := HO.out.frozen 0
      have k3 := HO.out.frozen 1
      have k4 := fun o => (HO.out.alloc o).cell 0 _ rfl
      have k5 := fun o1 o2 => ((HO.out.alloc o1).alloc o2).cell 0 _ rfl
      go_wp2_with fail
      have HOW1 := hide HE.out.o1
      have hobl := HO.out.lt
      go_region_law (first | (refine step_append_lies _ (by rfl) _ _ _ (by rfl) (w.heap.size + 1 + 1) 25 i2 _ 1 24 Try.underlying22 hj hy0 hy1 hy2 rfl (by omega) v1 x (hdr G1 n x) (by rfl) ((HOW1.out.alloc _).alloc _) ⟨wr.heap.size + 1, 0, none⟩ 1 1 [.slice (some ⟨wr.heap.size, 0, none⟩) n n] (by rfl) (by rfl) (by first | exact em_new | exact em_new2) (by simp [Value.oneCell']) (by omega) (by unfold maxLen; omega) (by omega) (by simp; omega) (wr.heap.size + 1 + 1) (by simp) ?_; intro gg cap w5 hown5 hgrow5 hat5 hlt5; obtain ⟨hw1, hw2, hw3⟩ := em_world wr n (.slice (some ⟨wr.heap.size, 0, none⟩) n n) 25 2; have hbk := HE.out.kept HO.out hw1 hgrow5; have k0 := hbk.cell 0 _ rfl; have k1 := hbk.cell 1 _ rfl; have k2 := hbk.frozen 0; have k3 := hbk.frozen 1))
      all_goals
        have HE3 := hide (HE.out.push (q := 0) (by decide) hw1 hw2 hw3 hown5 hgrow5 (hat5.imp (fun e => e.symm) (fun e => by rw [e]; rfl)))
        have hr3 : Blk (w5.setCell ⟨w.heap.size + 1, 0, none⟩ (.slice (some ⟨gg, 0, none⟩) (x + 1) cap)) w.heap.size 29 [.slice none 0 0, .slice none 0 0] := HE.out.keptR HR.out (by omega) (by omega) hw1 hgrow5 _ _
        have hb3 : Below w.heap.size w (w5.setCell ⟨w.heap.size + 1, 0, none⟩ (.slice (some ⟨gg, 0, none⟩) (x + 1) cap)) := ((HB.out.trans (hw1.mono HB.out.size)).grown hgrow5 (Nat.le_trans HB.out.size hw1.size) (fun j e => by have := (own_type HE.out.o1 e).2.1; omega)).setCell (p := ⟨w.heap.size + 1, 0, none⟩) (by show w.heap.size ≤ w.heap.size + 1; omega) _
        have ho3 : Blk (w5.setCell ⟨w.heap.size + 1, 0, none⟩ (.slice (some ⟨gg, 0, none⟩) (x + 1) cap)) (w.heap.size + 1) 29 [.slice (some ⟨gg, 0, none⟩) (x + 1) cap, v2] := hbk.set 0 _
        have HR3 := hide hr3
        have HB3 := hide hb3
        have HO3 := hide ho3
        clear k0 k1 k2 k3 k4 k5 hr3 hb3 ho3 hown5 hgrow5 hat5 hlt5 hw1 hw2 hw3 hbk hobl HOW1
        generalize hw6 : w5.setCell ⟨w.heap.size + 1, 0, none⟩ (.slice (some ⟨gg, 0, none⟩) (x + 1) cap) = w6 at HE3 HR3 HB3 HO3 ⊢
        clear hw6
        have k0 := HO3.out.cell 0 _ rfl
        have k1 := HO3.out.cell 1 _ rfl
        have k2 := HO3.out.frozen 0
        have k3 := HO3.out.frozen 1
        have k4 := fun o => (HO3.out.alloc o).cell 1 _ rfl
        have k5 := fun o1 o2 => ((HO3.out.alloc o1).alloc o2).cell 1 _ rfl
        go_wp2_with fail
        have HE4 := hide HE3.out.swapped
        have HOW2 := hide HE4.out.o1
        have hobl := HO3.out.lt
        go_region_law (first | (refine step_append_lies _ (by rfl) _ _ _ (by rfl) (w.heap.size + 1 + 1) 25 i2 _ 1 24 Try.underlying22 hj hy0 hy1 hy2 rfl (by omega) v2 x (hdr G2 n x) (by rfl) ((HOW2.out.alloc _).alloc _) ⟨w6.heap.size + 1, 0, none⟩ 1 1 [.slice (some ⟨w6.heap.size, 0, none⟩) n n] (by rfl) (by rfl) (by first | exact em_new | exact em_new2) (by simp [Value.oneCell']) (by omega) (by unfold maxLen; omega) (by omega) (by simp; omega) (w6.heap.size + 1 + 1) (by simp) ?_; intro gg2 cap2 w7 hown7 hgrow7 hat7 hlt7; obtain ⟨hw1, hw2, hw3⟩ := em_world w6 n (.slice (some ⟨w6.heap.size, 0, none⟩) n n) 25 2; have hbk := HE4.out.kept HO3.out hw1 hgrow7; have k0 := hbk.cell 0 _ rfl; have k1 := hbk.cell 1 _ rfl; have k2 := hbk.frozen 0; have k3 := hbk.frozen 1))
        all_goals
          have HE5 := hide (HE4.out.push (q := 1) (by decide) hw1 hw2 hw3 hown7 hgrow7 (hat7.imp (fun e => e.symm) (fun e => by rw [e]; rfl)))
          have hr5 : Blk (w7.setCell ⟨w.heap.size + 1, 1, none⟩ (.slice (some ⟨gg2, 0, none⟩) (x + 1) cap2)) w.heap.size 29 [.slice none 0 0, .slice none 0 0] := HE4.out.keptR HR3.out (by omega) (by omega) hw1 hgrow7 _ _
          have hb5 : Below w.heap.size w (w7.setCell ⟨w.heap.size + 1, 1, none⟩ (.slice (some ⟨gg2, 0, none⟩) (x + 1) cap2)) := ((HB3.out.trans (hw1.mono HB3.out.size)).grown hgrow7 (Nat.le_trans HB3.out.size hw1.size) (fun j e => by have := (own_type HE4.out.o1 e).2.1; omega)).setCell (p := ⟨w.heap.size + 1, 1, none⟩) (by show w.heap.size ≤ w.heap.size + 1; omega) _
          have ho5 : Blk (w7.setCell ⟨w.heap.size + 1, 1, none⟩ (.slice (some ⟨gg2, 0, none⟩) (x + 1) cap2)) (w.heap.size + 1) 29 [.slice (some ⟨gg, 0, none⟩) (x + 1) cap, .slice (some ⟨gg2, 0, none⟩) (x + 1) cap2] := hbk.set 1 _
          have HR5 := hide hr5
          have HB5 := hide hb5
          have HO5 := hide ho5
          clear k0 k1 k2 k3 k4 k5 hr5 hb5 ho5 hown7 hgrow7 hat7 hlt7 hw1 hw2 hw3 hbk hobl HOW2
          go_wp2_with fail
          go_roundw
          case rel => exact ⟨x + 1, _, _, _, _, by omega, by go_num, HB5.out, HR5.out, HO5.out, HE5.out.swapped⟩
          case measure => simp [intOf]; omega
    · have hxn : x = n := by omega
      subst hxn
      have k0 := HO.out.cell 0 _ rfl
      have k1 := HO.out.cell 1 _ rfl
      have k2 := HR.out.cell 0 _ rfl
      have k3 := HR.out.cell 1 _ rfl
      have k4 := HR.out.frozen 0
      have k5 := HR.out.frozen 1
      obtain ⟨g1, c1, hv1⟩ : ∃ g c, v1 = .slice (some ⟨g, 0, none⟩) x c := by
        rcases HE.out.o1.2 with ⟨_, h0⟩ | ⟨g, cap, cur, hv, _⟩
        · omega
        · exact ⟨g, cap, hv⟩
      obtain ⟨g2, c2, hv2⟩ : ∃ g c, v2 = .slice (some ⟨g, 0, none⟩) x c := by
        rcases HE.out.o2.2 with ⟨_, h0⟩ | ⟨g, cap, cur, hv, _⟩
        · omega
        · exact ⟨g, cap, hv⟩
      subst hv1
      subst hv2
      go_wp2_with fail
      clear k0 k1 k2 k3 k4 k5
      refine bp_gen fun wf hwf => ?_
      have HRF : Blk wf w.heap.size 29 [.slice (some ⟨g1, 0, none⟩) x c1, .slice (some ⟨g2, 0, none⟩) x c2] := by rw [hwf]; exact (HR.out.set 0 _).set 1 _
      have HBF : Below w.heap.size w wf := by rw [hwf]; exact (HB.out.setCell (p := ⟨w.heap.size, 0, none⟩) (Nat.le_refl _) _).setCell (p := ⟨w.heap.size, 1, none⟩) (Nat.le_refl _) _
      have HEF : Emp 25 2 (w.heap.size + 1 + 1) wf (w.heap.size + 1) (.slice (some ⟨g1, 0, none⟩) x c1) (.slice (some ⟨g2, 0, none⟩) x c2) x x x G1 G2 := by rw [hwf]; exact (HE.out.lowset (by show w.heap.size < w.heap.size + 1 + 1; omega) _).lowset (by show w.heap.size < w.heap.size + 1 + 1; omega) _
      have q0 := HRF.cell 0 _ rfl
      have q1 := HRF.cell 1 _ rfl
      clear hwf
      exact bodyPost_ret (v := .agg #[.slice (some ⟨g1, 0, none⟩) x c1, .slice (some ⟨g2, 0, none⟩) x c2]) (by simp [results, Try.results52, go_sem, q0, q1]) rfl (by unfold EmPost; exact ⟨g1, c1, g2, c2, G1, G2, rfl, HBF, HEF.duo (by decide) (by omega)⟩)
end Go.Proofs.Ythnkhljgealjdaa
namespace Go.Proofs.Ythnkhljgealjdaa
open Go Go.RowKit
def kinkL (f : List (List Int)) : List Int := (List.range f.length).map fun (x : Nat) => ((ap f x x : Nat) : Int)
theorem kinkL_length (f : List (List Int)) : (kinkL f).length = f.length := by simp [kinkL]
theorem kinkL_getD (f : List (List Int)) (k : Nat) (h : k < f.length) : (kinkL f).getD k 0 = ((ap f k k : Nat) : Int) := by simp [kinkL, h]
def KinkRes (f : List (List Int)) (zs : List Int) (code : Int) : Prop := (Rck f ∧ zs = kinkL f ∧ code = 0) ∨ (¬ Rck f ∧ zs = [] ∧ code = 1)
theorem KinkRes.ex (f : List (List Int)) : ∃ zs code, KinkRes f zs code ∧ zs.length ≤ 1048576 := by
  by_cases h : Rck f
  · exact ⟨_, _, .inl ⟨h, rfl, rfl⟩, by rw [kinkL_length]; have := h.tbl.2.1; omega⟩
  · exact ⟨_, _, .inr ⟨h, rfl, rfl⟩, by simp⟩
theorem kq_take (zs : List Int) (k : Nat) (y : Int) (h : k < zs.length) (hy : zs.getD k 0 = y) : ints (zs.take k) ++ [.int .i64 y] = ints (zs.take (k + 1)) := by
  rw [List.take_succ_eq_append_getElem h]
  have : zs[k] = y := by simpa [h] using hy
  simp [ints, this]
theorem kq_empty (w : World) (t : TypeId) : (w.alloc (.cells #[] t)).ownsRow w.heap.size t 1 (.slice (some ⟨w.heap.size, 0, none⟩) 0 0) 0 [] :=
  ⟨by simp, .inr ⟨w.heap.size, 0, #[], rfl, Nat.le_refl _, heap_alloc_new _ _, Nat.le_refl _, by unfold maxLen; omega, by simp, by simp⟩⟩
theorem kq_new {w : World} {v : Value} {t : TypeId} : ∀ j u, [v][j]? = some u → (w.alloc (.cells #[v] t)).cell? ((⟨w.heap.size, 0, none⟩ : Addr).add j) = some u := by
  intro j u hj
  match j, hj with
  | 0, hj => simp at hj; subst hj; simp [Addr.add, World.cell?_alloc_new]
theorem kqInfo : (Try.prog.info? 2).map (fun i => (i.zero, i.size, i.bytes)) = some (some (.int .i64 0), 1, 8) := by kernel_rfl
/-- The last lines of a row that was filled from the front. -/
theorem kq_fill (zs : List Int) (n k : Nat) (hz : zs.length = n) (hk : k < n) : ((zs.take k ++ List.replicate (n - k) 0).set k (zs.getD k 0)) = zs.take (k + 1) ++ List.replicate (n - (k + 1)) 0 := by
  apply List.ext_getElem
  · simp; omega
  · intro i h1 h2
    simp only [List.getElem_set, List.getElem_append, List.length_take, List.getElem_take, List.getElem_replicate]
    by_cases e : k = i
    · subst e
      rw [if_pos rfl, dif_pos (by omega)]
      simp [show k < zs.length by omega]
    · rw [if_neg e]
      by_cases e2 : i < k
      · rw [dif_pos (by omega), dif_pos (by omega)]
      · rw [dif_neg (by omega), dif_neg (by omega)]
end Go.Proofs.Ythnkhljgealjdaa
namespace Go.Proofs.Ythnkhljgealjdaa
open Go Go.RowKit
/-- Doing each row twice leads each element to itself. -/
def IvF (f : List (List Int)) : Prop := ∀ x y, x < f.length → y < f.length → ap f x (ap f x y) = y
def IvRes (f : List (List Int)) : Bool → Int → Prop := BRes (Rck f) (IvF f)
theorem IvRes.ex (f : List (List Int)) : ∃ r code, IvRes f r code := BRes.ex _ _
theorem prm_at {p : List Int} (h : Prm p) {y : Nat} (hy : y < p.length) : 0 ≤ p.getD y 0 ∧ p.getD y 0 < (p.length : Int) := by
  have hm : p.getD y 0 ∈ p := by simp [hy]
  exact h.2.2.1 _ hm
theorem prm_inj {p : List Int} (h : Prm p) {y z : Nat} (hy : y < p.length) (hz : z < p.length) (e : p.getD y 0 = p.getD z 0) : y = z := by
  have hn := h.2.2.2
  have e1 : p[y] = p[z] := by simpa [hy, hz] using e
  exact (List.getElem_inj hn).1 e1
theorem backTo_hit {p : List Int} (h : Prm p) : ∀ k, k ≤ p.length → ∀ y, y < k → (backTo p k).getD (p.getD y 0).toNat 0 = (y : Int) := by
  intro k
  induction k with
  | zero => intro _ y hy; omega
  | succ k ih =>
    intro hk y hy
    have hyl : y < p.length := by omega
    have a := prm_at h hyl
    have b := prm_at h (show k < p.length by omega)
    unfold backTo
    simp only [List.getD_eq_getElem?_getD] at *
    by_cases e : y = k
    · subst e
      rw [List.getElem?_set_self (by rw [backTo_length]; omega)]
      rfl
    · rw [List.getElem?_set_ne]
      · exact ih (by omega) y (by omega)
      · intro e2
        apply e
        apply prm_inj h hyl (by omega)
        simp only [List.getD_eq_getElem?_getD]
        omega
theorem back_iff {p : List Int} (h : Prm p) : p = backTo p p.length ↔ ∀ y, y < p.length → p.getD (p.getD y 0).toNat 0 = (y : Int) := by
  constructor
  · intro e y hy
    have h1 := backTo_hit h p.length (Nat.le_refl _) y hy
    rw [← e] at h1
    exact h1
  · intro hall
    apply List.ext_getElem
    · rw [backTo_length]
    · intro z h1 h2
      have a := prm_at h h1
      have b := hall z h1
      have c := backTo_hit h p.length (Nat.le_refl _) (p.getD z 0).toNat (by omega)
      rw [b] at c
      have d : ((z : Int)).toNat = z := by omega
      rw [d] at c
      have e1 : p.getD z 0 = p[z] := by simp [h1]
      have e2 : (backTo p p.length).getD z 0 = (backTo p p.length)[z] := by simp [h2]
      rw [← e1, ← e2, c]
      omega
theorem iv_row {f : List (List Int)} (ht : Tbl f) (hp : AllPrm f) {n x : Nat} (hn : f.length = n) (hx : x < n) : f.getD x [] = backTo (f.getD x []) n ↔ ∀ y, y < n → ap f x (ap f x y) = y := by
  have hl := ht.row_len hn hx
  have h := back_iff (hp x (by omega))
  rw [hl] at h
  rw [h]
  have key : ∀ y, y < n → ((f.getD x []).getD ((f.getD x []).getD y 0).toNat 0 = (y : Int) ↔ ap f x (ap f x y) = y) := by
    intro y hy
    have e1 := ht.ap_eq hn hx hy
    have hlt := ht.ap_lt hn hx hy
    have e2 := ht.ap_eq hn hx hlt
    rw [e1]
    have e3 : ((ap f x y : Nat) : Int).toNat = ap f x y := by omega
    rw [e3, e2]
    omega
  exact ⟨fun h y hy => (key y hy).1 (h y hy), fun h y hy => (key y hy).2 (h y hy)⟩
end Go.Proofs.Ythnkhljgealjdaa
namespace Go.Proofs.Ythnkhljgealjdaa
open Go Go.RowKit
def rowsL (f : List (List Int)) (h : Nat → List Int) : List (List Int) := (List.range f.length).map h
theorem rowsL_length (f : List (List Int)) (h : Nat → List Int) : (rowsL f h).length = f.length := by simp [rowsL]
theorem rowsL_at (f : List (List Int)) (h : Nat → List Int) (i : Nat) (hi : i < f.length) : (rowsL f h).getD i [] = h i := by simp [rowsL, hi]
def dualL (f : List (List Int)) : List (List Int) := rowsL f (fun i => backTo (f.getD i []) f.length)
def DuRes (f zs : List (List Int)) (code : Int) : Prop := (Rck f ∧ zs = dualL f ∧ code = 0) ∨ (¬ Rck f ∧ zs = [] ∧ code = 1)
theorem DuRes.ex (f : List (List Int)) : ∃ zs code, DuRes f zs code ∧ zs.length ≤ 1048576 ∧ ∀ i, i < zs.length → (zs.getD i []).length ≤ 1048576 := by
  by_cases h : Rck f
  · have h12 := h.tbl.2.1
    refine ⟨_, _, .inl ⟨h, rfl, rfl⟩, ?_, fun i hi => ?_⟩
    · rw [dualL, rowsL_length]; omega
    · rw [dualL, rowsL_length] at hi
      rw [dualL, rowsL_at f _ i hi, backTo_length, h.tbl.rows i hi]
      omega
  · exact ⟨_, _, .inr ⟨h, rfl, rfl⟩, by simp, by simp⟩
end Go.Proofs.Ythnkhljgealjdaa
namespace Go.Proofs.Ythnkhljgealjdaa
open Go Go.RowKit
set_option maxHeartbeats 1000000
/-- The number of the pair that is led to (x, y). -/
def bk (f s : List (List Int)) (n x y : Nat) : Nat := ((List.range (n * n)).find? (fun k => decide (ledK f s n k = (x, y)))).getD 0
theorem led_lt {f s : List (List Int)} {n : Nat} (hp : PMap f s) (hn : f.length = n) {k : Nat} (hk : k < n * n) : (ledK f s n k).1 < n ∧ (ledK f s n k).2 < n := by
  have hn0 : 0 < n := by rcases Nat.eq_zero_or_pos n with e | e; (subst e; simp at hk); exact e
  have hx : k / n < n := Nat.div_lt_of_lt_mul hk
  have hy : k % n < n := Nat.mod_lt _ hn0
  exact ⟨hp.1.ap_lt hn hx hy, hp.2.1.ap_lt (by rw [← hp.2.2]; exact hn) hx hy⟩
theorem bk_led {f s : List (List Int)} {n : Nat} (hc : NoCol f s n) {k x y : Nat} (hk : k < n * n) (h : ledK f s n k = (x, y)) : bk f s n x y = k := by
  unfold bk
  cases e : (List.range (n * n)).find? (fun k => decide (ledK f s n k = (x, y))) with
  | none =>
    rw [List.find?_eq_none] at e
    exact absurd h (by simpa using e k (List.mem_range.2 hk))
  | some j =>
    have h1 := List.find?_some e
    have h2 := List.mem_range.1 (List.mem_of_find?_eq_some e)
    simp at h1
    show j = k
    refine Classical.byContradiction (fun hne => hc j k h2 hk hne ?_)
    rw [h1, h]
theorem bk_spec {f s : List (List Int)} {n : Nat} (hp : PMap f s) (hn : f.length = n) (hc : NoCol f s n) {x y : Nat} (hx : x < n) (hy : y < n) : bk f s n x y < n * n ∧ ledK f s n (bk f s n x y) = (x, y) := by
  have hnd : ((List.range (n * n)).map fun k => (ledK f s n k).1 * n + (ledK f s n k).2).Nodup := by
    rw [List.nodup_iff_pairwise_ne, List.pairwise_map]
    refine List.Pairwise.imp_of_mem ?_ List.pairwise_lt_range
    intro a b ha hb hab e
    have ha := List.mem_range.1 ha
    have hb := List.mem_range.1 hb
    have la := led_lt hp hn ha
    have lb := led_lt hp hn hb
    refine hc a b ha hb (by omega) ?_
    have e1 : ((ledK f s n a).1 * n + (ledK f s n a).2) / n = (ledK f s n a).1 := pair_div n _ _ la.2
    have e2 : ((ledK f s n b).1 * n + (ledK f s n b).2) / n = (ledK f s n b).1 := pair_div n _ _ lb.2
    have e3 : ((ledK f s n a).1 * n + (ledK f s n a).2) % n = (ledK f s n a).2 := pair_mod n _ _ la.2
    have e4 : ((ledK f s n b).1 * n + (ledK f s n b).2) % n = (ledK f s n b).2 := pair_mod n _ _ lb.2
    rw [e] at e1 e3
    exact Prod.ext (e1.symm.trans e2) (e3.symm.trans e4)
  have hrow : ∀ a b, a < n → b < n → a * n + b < n * n := fun a b ha hb => by
    have h9 := Nat.mul_le_mul_right n (show a + 1 ≤ n from ha)
    rw [Nat.add_mul, Nat.one_mul] at h9
    omega
  obtain ⟨l, hl⟩ := subset_perm _ (List.range (n * n)) hnd (fun a ha => by
    obtain ⟨k, hk, e⟩ := List.mem_map.1 ha
    have hk := List.mem_range.1 hk
    have la := led_lt hp hn hk
    rw [← e]
    exact List.mem_range.2 (hrow _ _ la.1 la.2))
  have hll := hl.length_eq
  simp at hll
  subst hll
  have hm : x * n + y ∈ ((List.range (n * n)).map fun k => (ledK f s n k).1 * n + (ledK f s n k).2) := by
    have h := hl.mem_iff.1 (List.mem_range.2 (hrow x y hx hy))
    simpa using h
  obtain ⟨k, hk, e⟩ := List.mem_map.1 hm
  have hk := List.mem_range.1 hk
  have la := led_lt hp hn hk
  have e1 : ((ledK f s n k).1 * n + (ledK f s n k).2) / n = (ledK f s n k).1 := pair_div n _ _ la.2
  have e3 : ((ledK f s n k).1 * n + (ledK f s n k).2) % n = (ledK f s n k).2 := pair_mod n _ _ la.2
  rw [e, pair_div n x y hy] at e1
  rw [e, pair_mod n x y hy] at e3
  have hxy : ledK f s n k = (x, y) := Prod.ext e1.symm e3.symm
  rw [bk_led hc hk hxy]
  exact ⟨hk, hxy⟩
def bk1 (f s : List (List Int)) (n : Nat) : Nat → Nat → Int := fun x y => ((bk f s n x y / n : Nat) : Int)
def bk2 (f s : List (List Int)) (n : Nat) : Nat → Nat → Int := fun x y => ((bk f s n x y % n : Nat) : Int)
def BkRes (f s : List (List Int)) : List (List Int) → List (List Int) → Int → Prop := GRes (SolF f s) f.length (bk1 f s f.length) (bk2 f s f.length) 1
theorem BkRes.ex (f s : List (List Int)) : ∃ zf zg code, BkRes f s zf zg code ∧ ZSz 1048576 zf zf.length zg zg.length := GRes.ex _ _ _ _ _ (fun h => by have := h.1.1.2.1; omega)
end Go.Proofs.Ythnkhljgealjdaa
namespace Go.Proofs.Ythnkhljgealjdaa
open Go Go.RowKit
open Classical
/-- A nondegenerate solution. -/
def NdS (f s : List (List Int)) : Prop := SolF f s ∧ NonF f s
theorem NdS.map {f s : List (List Int)} (h : NdS f s) : PMap f s := h.1.1
theorem NdS.sizes {f s : List (List Int)} {n : Nat} (h : NdS f s) (hn : f.length = n) : 1 ≤ n ∧ n ≤ 12 ∧ s.length = n := by
  have h1 := h.map.1.1
  have h2 := h.map.1.2.1
  have h3 := h.map.2.2
  exact ⟨by omega, by omega, by omega⟩
theorem NdS.lam {f s : List (List Int)} {n : Nat} (h : NdS f s) (hn : f.length = n) : Gens f n := fun i hi => ⟨by rw [h.map.1.rows i hi, hn], h.2.1 i hi⟩
theorem turn_len {s : List (List Int)} {n : Nat} (hn : s.length = n) (i : Nat) (hi : i < (turnL s).length) : ((turnL s).getD i []).length = n := by
  rw [turnL_length] at hi
  unfold turnL
  rw [grid_row_length _ _ _ hi, hn]
theorem NdS.rho {f s : List (List Int)} {n : Nat} (h : NdS f s) (hn : f.length = n) : Gens (turnL s) n := fun i hi => ⟨turn_len (h.sizes hn).2.2 i hi, h.2.2 i hi⟩
/-- All lambda and all rho. -/
def bothL (f s : List (List Int)) : List (List Int) := f ++ turnL s
theorem bothL_length {f s : List (List Int)} {n m : Nat} (hn : f.length = n) (hm : s.length = m) : (bothL f s).length = n + m := by
  unfold bothL
  rw [List.length_append, turnL_length, hn, hm]
theorem bothL_fst {f s : List (List Int)} {n : Nat} (hn : f.length = n) (i : Nat) (hi : i < n) : (bothL f s).getD i [] = f.getD i [] := by
  have : i < f.length := by omega
  simp [bothL, List.getElem?_append, this]
theorem bothL_snd {f s : List (List Int)} {n : Nat} (hn : f.length = n) (i : Nat) : (bothL f s).getD (n + i) [] = (turnL s).getD i [] := by
  have h : ¬ n + i < f.length := by omega
  have e : n + i - f.length = i := by omega
  simp [bothL, List.getElem?_append, h, e]
theorem NdS.both {f s : List (List Int)} {n : Nat} (h : NdS f s) (hn : f.length = n) : Gens (bothL f s) n := by
  intro r hr
  have hsn := (h.sizes hn).2.2
  rw [bothL_length hn hsn] at hr
  by_cases hlt : r < n
  · rw [bothL_fst hn r hlt]
    exact h.lam hn r (by omega)
  · obtain ⟨i, rfl⟩ : ∃ i, r = n + i := ⟨r - n, by omega⟩
    rw [bothL_snd hn]
    exact h.rho hn i (by rw [turnL_length]; omega)
/-- A list of rows that is told of what is good. -/
def TRes7 (good : Prop) (rows : List (List Int)) (zs : List (List Int)) (code : Int) : Prop := (good ∧ zs = rows ∧ code = 0) ∨ (¬ good ∧ zs = [] ∧ code = 1)
def LamRes (f s : List (List Int)) : List (List Int) → Int → Prop := TRes7 (NdS f s) f
def RhoRes (f s : List (List Int)) : List (List Int) → Int → Prop := TRes7 (NdS f s) (turnL s)
theorem LamRes.ex (f s : List (List Int)) : ∃ zs code, LamRes f s zs code ∧ zs.length ≤ 1048576 ∧ ∀ i, i < zs.length → (zs.getD i []).length ≤ 1048576 := by
  by_cases h : NdS f s
  · have h1 := h.sizes rfl
    exact ⟨_, _, .inl ⟨h, rfl, rfl⟩, by omega, fun i hi => by rw [(h.lam rfl i hi).1]; omega⟩
  · exact ⟨_, _, .inr ⟨h, rfl, rfl⟩, by simp, by simp⟩
theorem RhoRes.ex (f s : List (List Int)) : ∃ zs code, RhoRes f s zs code ∧ zs.length ≤ 1048576 ∧ ∀ i, i < zs.length → (zs.getD i []).length ≤ 1048576 := by
  by_cases h : NdS f s
  · have h1 := h.sizes rfl
    exact ⟨_, _, .inl ⟨h, rfl, rfl⟩, by rw [turnL_length]; omega, fun i hi => by rw [(h.rho rfl i hi).1]; omega⟩
  · exact ⟨_, _, .inr ⟨h, rfl, rfl⟩, by simp, by simp⟩
/-- A list of numbers that is told of what is good. -/
def RRes7 (good : Prop) (row : List Int) (zs : List Int) (code : Int) : Prop := (good ∧ zs = row ∧ code = 0) ∨ (¬ good ∧ zs = [] ∧ code = 1)
theorem RRes7.ex (good : Prop) (row : List Int) (h : good → row.length ≤ 1048576) : ∃ zs code, RRes7 good row zs code ∧ zs.length ≤ 1048576 := by
  by_cases hg : good
  · exact ⟨_, _, .inl ⟨hg, rfl, rfl⟩, h hg⟩
  · exact ⟨_, _, .inr ⟨hg, rfl, rfl⟩, by simp⟩
/-- The numbers of the orbits. -/
noncomputable def orbS (f s : List (List Int)) : List Int := labL (bothL f s) f.length f.length
noncomputable def orbN (f s : List (List Int)) : Nat := (lab (bothL f s) f.length).2
def OsRes7 (f s : List (List Int)) : List Int → Int → Prop := RRes7 (NdS f s) (orbS f s)
theorem OsRes7.ex (f s : List (List Int)) : ∃ zs code, OsRes7 f s zs code ∧ zs.length ≤ 1048576 := RRes7.ex _ _ (fun h => by unfold orbS; rw [labL_length]; have := h.sizes rfl; omega)
def IndRes (f s : List (List Int)) : Bool → Int → Prop := BRes (NdS f s) (orbN f s = 1)
theorem IndRes.ex (f s : List (List Int)) : ∃ r code, IndRes f s r code := BRes.ex _ _
/-- The order of a group of permutations of a solution. -/
def OrdR7 (good : Prop) (n : Nat) (rows : List (List Int)) (v code : Int) : Prop := (good ∧ OrdR n rows 1000 3 v code) ∨ (¬ good ∧ v = 0 ∧ code = 1)
theorem OrdR7.ex (good : Prop) (n : Nat) (rows : List (List Int)) : ∃ v code, OrdR7 good n rows v code := by
  by_cases h : good
  · obtain ⟨v, code, h2⟩ := OrdR.ex n rows 1000 3
    exact ⟨v, code, .inl ⟨h, h2⟩⟩
  · exact ⟨0, 1, .inr ⟨h, rfl, rfl⟩⟩
def LgoRes (f s : List (List Int)) : Int → Int → Prop := OrdR7 (NdS f s) f.length f
def RgoRes (f s : List (List Int)) : Int → Int → Prop := OrdR7 (NdS f s) f.length (turnL s)
def WgoRes (f s : List (List Int)) : Int → Int → Prop := OrdR7 (NdS f s) f.length (bothL f s)
theorem LgoRes.ex (f s : List (List Int)) : ∃ v code, LgoRes f s v code := OrdR7.ex _ _ _
theorem RgoRes.ex (f s : List (List Int)) : ∃ v code, RgoRes f s v code := OrdR7.ex _ _ _
theorem WgoRes.ex (f s : List (List Int)) : ∃ v code, WgoRes f s v code := OrdR7.ex _ _ _
/-- Any two lambda commute. -/
def ComF (f : List (List Int)) : Prop := ∀ i, i < f.length → ∀ j, j < i → thenL (f.getD i []) (f.getD j []) = thenL (f.getD j []) (f.getD i [])
def AbRes (f s : List (List Int)) : Bool → Int → Prop := BRes (NdS f s) (ComF f)
theorem AbRes.ex (f s : List (List Int)) : ∃ r code, AbRes f s r code := BRes.ex _ _
end Go.Proofs.Ythnkhljgealjdaa
namespace Go.Proofs.Ythnkhljgealjdaa
open Go Go.RowKit
set_option maxHeartbeats 1000000

/-- Three elements as a value. -/
def tv (t : Nat × Nat × Nat) : Value := .agg #[.int .i64 t.1, .int .i64 t.2.1, .int .i64 t.2.2]

set_option maxRecDepth 100000 in
theorem leadAt0_any (A : Option Addr) (n c : Nat) (f : List (List Int)) (B : Option Addr) (m d : Nat) (s : List (List Int)) (x y z : Nat) (w : World) (hz : ZArg 1048576 w A n f B m s) (hp : PMap f s) (hx : x < n) (hy : y < n) (_hz' : z < n) :
    Calls Try.prog 65 #[.agg #[.slice A n c, .slice B m d], .int .i64 0, tv (x, y, z)] w fun e w' => e = .returned (tv (at0 f s (x, y, z))) ∧ Below w.heap.size w w' := by
  have HZ := hide hz
  have HP := hide hp
  have h12 := hz.sz.nb
  unfold at0 tv
  show Calls Try.prog 65 #[.agg #[.slice A n c, .slice B m d], .int .i64 0, .agg #[.int .i64 x, .int .i64 y, .int .i64 z]] w fun e w' => e = .returned (.agg #[.int .i64 (ap f x y : Nat), .int .i64 (ap s x y : Nat), .int .i64 (z : Nat)]) ∧ Below w.heap.size w w'
  obtain ⟨u, hu⟩ : ∃ u, ap f x y = u := ⟨_, rfl⟩
  obtain ⟨v, hv⟩ : ∃ v, ap s x y = v := ⟨_, rfl⟩
  rw [hu, hv]
  have HU := hide hu
  have HV := hide hv
  clear hz hp hu hv
  have hwp1 : IntKind.i64.wrap 1 = 1 := IntWalk.i64_in _ (by omega)
  have hwp2 : IntKind.i64.wrap 2 = 2 := IntWalk.i64_in _ (by omega)
  go_enter Try.func65, Try.ntmps65
  go_wp2_with fail
  refine wp_gen fun w1 hw1 => ?_
  have hb1 : Below w.heap.size w w1 := by rw [hw1]; exact (((Below.refl _ _).alloc (Nat.le_refl _) _).alloc (by simp) _).alloc (by simp; omega) _
  have HS : Hid (Blk w1 w.heap.size 29 [.slice A n c, .slice B m d]) := hide (by rw [hw1]; exact ((Blk.new _ _ _).alloc _).alloc _)
  have HL : Hid (Blk w1 (w.heap.size + 1) 72 [.int .i64 x, .int .i64 y, .int .i64 z]) := hide (by rw [hw1]; have h := (Blk.new (w.alloc (Obj.cells #[Value.slice A n c, Value.slice B m d] 29)) 72 [.int .i64 x, .int .i64 y, .int .i64 z]).alloc (Obj.cells #[Value.int IntKind.i64 0, Value.int IntKind.i64 0, Value.int IntKind.i64 0] 72); simpa using h)
  have HO : Hid (Blk w1 (w.heap.size + 1 + 1) 72 [.int .i64 0, .int .i64 0, .int .i64 0]) := hide (by rw [hw1]; have h := Blk.new ((w.alloc (Obj.cells #[Value.slice A n c, Value.slice B m d] 29)).alloc (Obj.cells #[Value.int IntKind.i64 x, Value.int IntKind.i64 y, Value.int IntKind.i64 z] 72)) 72 [.int .i64 0, .int .i64 0, .int .i64 0]; simpa using h)
  have HBc := hide hb1
  replace HZ := hide (HZ.out.later hb1)
  have Z1 : Hid (w1.heap.size = w.heap.size + 1 + 1 + 1) := hide (by rw [hw1]; simp)
  have j1 : w1.heap.size ≠ w.heap.size := by have := Z1.out; omega
  have j2 : w1.heap.size ≠ w.heap.size + 1 := by have := Z1.out; omega
  have j3 := j1.symm
  have j4 := j2.symm
  have hz1 : w.heap.size + 1 < w1.heap.size := by have := Z1.out; omega
  clear hw1 hb1
  have k0 := HS.out.cell 0 _ rfl
  have k1 := HS.out.cell 1 _ rfl
  have k2 := HL.out.cell 0 _ rfl
  have k3 := HL.out.cell 1 _ rfl
  have k4 := HL.out.cell 2 _ rfl
  go_region_held3 (fun w' => w'.cell? ⟨w.heap.size, 0, none⟩ = some (.slice A n c) ∧ w'.cell? ⟨w.heap.size, 1, none⟩ = some (.slice B m d) ∧ w'.cell? ⟨w.heap.size + 1, 0, none⟩ = some (.int .i64 x) ∧ w'.cell? ⟨w.heap.size + 1, 1, none⟩ = some (.int .i64 y) ∧ w'.cell? ⟨w.heap.size + 1, 2, none⟩ = some (.int .i64 z)) (first | exact ⟨k0, k1, k2, k3, k4⟩ | go_keep) (first | (go_at_call 58; go_must (refine calls_gen fun wc hwc => ?_; (first | (have hbx := al_drew_below hwc; have HPB : Hid (Blk wc w1.heap.size 76 [.int .i64 0, .int .i64 0]) := hide (by rw [hwc]; exact Blk.new _ _ _)) | (have hbx := al_below hwc; have HPB : Hid (Blk wc w1.heap.size 76 [.int .i64 0, .int .i64 0]) := hide (by rw [hwc]; exact Blk.new _ _ _)) | (have hbx := drew_below hwc; have HPB : Hid True := hide trivial) | (have hbx := eq_below hwc; have HPB : Hid True := hide trivial)); have hbx0 := hide hbx.size; replace HBc := hide (HBc.out.trans (hbx.mono HBc.out.size)); replace HZ := hide (HZ.out.later hbx); replace HS := hide (HS.out.later hbx); replace HL := hide (HL.out.later hbx); replace HO := hide (HO.out.later hbx); clear hwc hbx; refine (lead_any _ _ _ f _ _ _ s x y _ HZ.out HP.out hx hy).mono ?_; rintro e wd ⟨rfl, hbd⟩; replace HBc := hide (HBc.out.trans (hbd.mono HBc.out.size)); replace HZ := hide (HZ.out.later hbd); replace HS := hide (HS.out.later hbd); replace HL := hide (HL.out.later hbd); replace HO := hide (HO.out.later hbd); (first | (replace HPB := hide (HPB.out.later hbd); have k5 := HPB.out.cell 0 _ rfl; have k6 := HPB.out.cell 1 _ rfl; have k7 := HPB.out.frozen 0; have k8 := HPB.out.frozen 1) | skip); have hsd := hbd.size; have hsx := hbx0.out; have g1 : wd.heap.size ≠ w.heap.size := (by omega); have g2 : wd.heap.size ≠ w.heap.size + 1 := (by omega); have g3 := g1.symm; have g4 := g2.symm; clear hsd hsx; clear hbd; have k0 := HS.out.cell 0 _ rfl; have k1 := HS.out.cell 1 _ rfl; have k2 := HL.out.cell 0 _ rfl; have k3 := HL.out.cell 1 _ rfl; have k4 := HL.out.cell 2 _ rfl; rw [HU.out, HV.out])))

  · clear k0 k1 k2 k3 k4
    refine ex_gen (Q := Exit.then _ _) fun w2 hw2 => ?_
    have hb2 : Below wd.heap.size wd w2 := by rw [hw2]; exact (Below.refl _ _).alloc (Nat.le_refl _) _
    have hsz := Z1.out
    have hsw : w.heap.size + 1 + 1 < wd.heap.size := by have := HO.out.lt; omega
    have HL2 : Hid (Blk w2 (w.heap.size + 1) 72 [.int .i64 x, .int .i64 y, .int .i64 z]) := hide (HL.out.later hb2)
    have HO2 : Hid (Blk w2 (w.heap.size + 1 + 1) 72 [.int .i64 0, .int .i64 0, .int .i64 0]) := hide (HO.out.later hb2)
    have HP2 : Hid (Blk w2 (wd.heap.size) 76 [.int .i64 u, .int .i64 v]) := hide (by rw [hw2]; exact Blk.new _ _ _)
    have HB2 : Hid (Below w.heap.size w w2) := hide (by rw [hw2]; exact HBc.out.alloc HBc.out.size _)
    clear hw2
    obtain ⟨P, hPe⟩ : ∃ P, wd.heap.size = P := ⟨_, rfl⟩
    rw [hPe] at HP2 hsw ⊢
    have l0 := HL2.out.cell 0 _ rfl
    have l1 := HL2.out.cell 1 _ rfl
    have l2 := HL2.out.cell 2 _ rfl
    have l3 := HL2.out.frozen 0
    have l4 := HL2.out.frozen 1
    have l5 := HL2.out.frozen 2
    have p0 := HP2.out.cell 0 _ rfl
    have p1 := HP2.out.cell 1 _ rfl
    have o0 := HO2.out.cell 0 _ rfl
    have o1 := HO2.out.cell 1 _ rfl
    have o2 := HO2.out.cell 2 _ rfl
    have o3 := HO2.out.frozen 0
    have o4 := HO2.out.frozen 1
    have o5 := HO2.out.frozen 2
    have n1 : P ≠ w.heap.size + 1 := by omega
    have n2 : P ≠ w.heap.size + 1 + 1 := by omega
    have n3 := n1.symm
    have n4 := n2.symm
    go_wp2_with fail
    obtain ⟨y', hy'⟩ := cell?_setCell_some (w := w2.drew) (p := ⟨w.heap.size + 1, 0, none⟩) (x := Value.int IntKind.i64 u) (q := ⟨w.heap.size + 1, 1, none⟩) (v := Value.int IntKind.i64 y) (by go_simp)
    go_region
    go_wp2_with fail
    refine bp_gen fun wf hwf => ?_
    have hfar : w.heap.size + 1 + 1 ≠ w.heap.size + 1 := by omega
    have hlo1 : w.heap.size ≤ w.heap.size + 1 := by omega
    have hlo2 : w.heap.size ≤ w.heap.size + 1 + 1 := by omega
    have HRF : Blk wf (w.heap.size + 1 + 1) 72 [.int .i64 u, .int .i64 v, .int .i64 z] := by rw [hwf]; first | exact ((((((HO2.out.far (p := ⟨w.heap.size + 1, 0, none⟩) hfar _).far (p := ⟨w.heap.size + 1, 1, none⟩) hfar _).set 0 _).set 1 _).set 2 _).drew) | exact (((((HO2.out.far (p := ⟨w.heap.size + 1, 0, none⟩) hfar _).far (p := ⟨w.heap.size + 1, 1, none⟩) hfar _).set 0 _).set 1 _).set 2 _)
    have HBF : Below w.heap.size w wf := by rw [hwf]; first | exact ((((((HB2.out.setCell (p := ⟨w.heap.size + 1, 0, none⟩) hlo1 _).setCell (p := ⟨w.heap.size + 1, 1, none⟩) hlo1 _).setCell (p := ⟨w.heap.size + 1 + 1, 0, none⟩) hlo2 _).setCell (p := ⟨w.heap.size + 1 + 1, 1, none⟩) hlo2 _).setCell (p := ⟨w.heap.size + 1 + 1, 2, none⟩) hlo2 _).drew) | exact (((((HB2.out.setCell (p := ⟨w.heap.size + 1, 0, none⟩) hlo1 _).setCell (p := ⟨w.heap.size + 1, 1, none⟩) hlo1 _).setCell (p := ⟨w.heap.size + 1 + 1, 0, none⟩) hlo2 _).setCell (p := ⟨w.heap.size + 1 + 1, 1, none⟩) hlo2 _).setCell (p := ⟨w.heap.size + 1 + 1, 2, none⟩) hlo2 _)
    clear hwf l0 l1 l2 l3 l4 l5 p0 p1 o0 o1 o2 o3 o4 o5 hy'
    have q0 := HRF.cell 0 _ rfl
    have q1 := HRF.cell 1 _ rfl
    have q2 := HRF.cell 2 _ rfl
    exact bodyPost_ret (v := .agg #[.int .i64 u, .int .i64 v, .int .i64 z]) (by simp [results, Try.results65, go_sem, q0, q1, q2]) rfl ⟨rfl, HBF⟩

  · clear k0 k1 k2 k3 k4
    refine ex_gen (Q := Exit.then _ _) fun w2 hw2 => ?_
    skip
    have hsz := Z1.out
    have hsw : w.heap.size + 1 + 1 < w1.heap.size := by have := HO.out.lt; omega
    have HL2 : Hid (Blk w2 (w.heap.size + 1) 72 [.int .i64 x, .int .i64 y, .int .i64 z]) := hide (by rw [hw2]; exact ((HL.out).far (p := ⟨w1.heap.size, 0, none⟩) (by show _ ≠ w1.heap.size; omega) _).far (p := ⟨w1.heap.size, 1, none⟩) (by show _ ≠ w1.heap.size; omega) _)
    have HO2 : Hid (Blk w2 (w.heap.size + 1 + 1) 72 [.int .i64 0, .int .i64 0, .int .i64 0]) := hide (by rw [hw2]; exact ((HO.out).far (p := ⟨w1.heap.size, 0, none⟩) (by show _ ≠ w1.heap.size; omega) _).far (p := ⟨w1.heap.size, 1, none⟩) (by show _ ≠ w1.heap.size; omega) _)
    have HP2 : Hid (Blk w2 (w1.heap.size) 76 [.int .i64 u, .int .i64 v]) := hide (by rw [hw2]; exact (HPB.out.set 0 _).set 1 _)
    have HB2 : Hid (Below w.heap.size w w2) := hide (by rw [hw2]; exact (HBc.out.setCell (p := ⟨w1.heap.size, 0, none⟩) (by show w.heap.size ≤ w1.heap.size; omega) _).setCell (p := ⟨w1.heap.size, 1, none⟩) (by show w.heap.size ≤ w1.heap.size; omega) _)
    clear hw2
    obtain ⟨P, hPe⟩ : ∃ P, w1.heap.size = P := ⟨_, rfl⟩
    rw [hPe] at HP2 hsw ⊢
    have l0 := HL2.out.cell 0 _ rfl
    have l1 := HL2.out.cell 1 _ rfl
    have l2 := HL2.out.cell 2 _ rfl
    have l3 := HL2.out.frozen 0
    have l4 := HL2.out.frozen 1
    have l5 := HL2.out.frozen 2
    have p0 := HP2.out.cell 0 _ rfl
    have p1 := HP2.out.cell 1 _ rfl
    have o0 := HO2.out.cell 0 _ rfl
    have o1 := HO2.out.cell 1 _ rfl
    have o2 := HO2.out.cell 2 _ rfl
    have o3 := HO2.out.frozen 0
    have o4 := HO2.out.frozen 1
    have o5 := HO2.out.frozen 2
    have n1 : P ≠ w.heap.size + 1 := by omega
    have n2 : P ≠ w.heap.size + 1 + 1 := by omega
    have n3 := n1.symm
    have n4 := n2.symm
    go_wp2_with fail
    obtain ⟨y', hy'⟩ := cell?_setCell_some (w := w2.drew) (p := ⟨w.heap.size + 1, 0, none⟩) (x := Value.int IntKind.i64 u) (q := ⟨w.heap.size + 1, 1, none⟩) (v := Value.int IntKind.i64 y) (by go_simp)
    go_region
    go_wp2_with fail
    refine bp_gen fun wf hwf => ?_
    have hfar : w.heap.size + 1 + 1 ≠ w.heap.size + 1 := by omega
    have hlo1 : w.heap.size ≤ w.heap.size + 1 := by omega
    have hlo2 : w.heap.size ≤ w.heap.size + 1 + 1 := by omega
    have HRF : Blk wf (w.heap.size + 1 + 1) 72 [.int .i64 u, .int .i64 v, .int .i64 z] := by rw [hwf]; first | exact ((((((HO2.out.far (p := ⟨w.heap.size + 1, 0, none⟩) hfar _).far (p := ⟨w.heap.size + 1, 1, none⟩) hfar _).set 0 _).set 1 _).set 2 _).drew) | exact (((((HO2.out.far (p := ⟨w.heap.size + 1, 0, none⟩) hfar _).far (p := ⟨w.heap.size + 1, 1, none⟩) hfar _).set 0 _).set 1 _).set 2 _)
    have HBF : Below w.heap.size w wf := by rw [hwf]; first | exact ((((((HB2.out.setCell (p := ⟨w.heap.size + 1, 0, none⟩) hlo1 _).setCell (p := ⟨w.heap.size + 1, 1, none⟩) hlo1 _).setCell (p := ⟨w.heap.size + 1 + 1, 0, none⟩) hlo2 _).setCell (p := ⟨w.heap.size + 1 + 1, 1, none⟩) hlo2 _).setCell (p := ⟨w.heap.size + 1 + 1, 2, none⟩) hlo2 _).drew) | exact (((((HB2.out.setCell (p := ⟨w.heap.size + 1, 0, none⟩) hlo1 _).setCell (p := ⟨w.heap.size + 1, 1, none⟩) hlo1 _).setCell (p := ⟨w.heap.size + 1 + 1, 0, none⟩) hlo2 _).setCell (p := ⟨w.heap.size + 1 + 1, 1, none⟩) hlo2 _).setCell (p := ⟨w.heap.size + 1 + 1, 2, none⟩) hlo2 _)
    clear hwf l0 l1 l2 l3 l4 l5 p0 p1 o0 o1 o2 o3 o4 o5 hy'
    have q0 := HRF.cell 0 _ rfl
    have q1 := HRF.cell 1 _ rfl
    have q2 := HRF.cell 2 _ rfl
    exact bodyPost_ret (v := .agg #[.int .i64 u, .int .i64 v, .int .i64 z]) (by simp [results, Try.results65, go_sem, q0, q1, q2]) rfl ⟨rfl, HBF⟩

set_option maxRecDepth 100000 in
theorem leadAt1_any (A : Option Addr) (n c : Nat) (f : List (List Int)) (B : Option Addr) (m d : Nat) (s : List (List Int)) (x y z : Nat) (w : World) (hz : ZArg 1048576 w A n f B m s) (hp : PMap f s) (_hx : x < n) (hy : y < n) (hz' : z < n) :
    Calls Try.prog 65 #[.agg #[.slice A n c, .slice B m d], .int .i64 1, tv (x, y, z)] w fun e w' => e = .returned (tv (at1 f s (x, y, z))) ∧ Below w.heap.size w w' := by
  have HZ := hide hz
  have HP := hide hp
  have h12 := hz.sz.nb
  unfold at1 tv
  show Calls Try.prog 65 #[.agg #[.slice A n c, .slice B m d], .int .i64 1, .agg #[.int .i64 x, .int .i64 y, .int .i64 z]] w fun e w' => e = .returned (.agg #[.int .i64 (x : Nat), .int .i64 (ap f y z : Nat), .int .i64 (ap s y z : Nat)]) ∧ Below w.heap.size w w'
  obtain ⟨u, hu⟩ : ∃ u, ap f y z = u := ⟨_, rfl⟩
  obtain ⟨v, hv⟩ : ∃ v, ap s y z = v := ⟨_, rfl⟩
  rw [hu, hv]
  have HU := hide hu
  have HV := hide hv
  clear hz hp hu hv
  have hwp1 : IntKind.i64.wrap 1 = 1 := IntWalk.i64_in _ (by omega)
  have hwp2 : IntKind.i64.wrap 2 = 2 := IntWalk.i64_in _ (by omega)
  go_enter Try.func65, Try.ntmps65
  go_wp2_with fail
  refine wp_gen fun w1 hw1 => ?_
  have hb1 : Below w.heap.size w w1 := by rw [hw1]; exact (((Below.refl _ _).alloc (Nat.le_refl _) _).alloc (by simp) _).alloc (by simp; omega) _
  have HS : Hid (Blk w1 w.heap.size 29 [.slice A n c, .slice B m d]) := hide (by rw [hw1]; exact ((Blk.new _ _ _).alloc _).alloc _)
  have HL : Hid (Blk w1 (w.heap.size + 1) 72 [.int .i64 x, .int .i64 y, .int .i64 z]) := hide (by rw [hw1]; have h := (Blk.new (w.alloc (Obj.cells #[Value.slice A n c, Value.slice B m d] 29)) 72 [.int .i64 x, .int .i64 y, .int .i64 z]).alloc (Obj.cells #[Value.int IntKind.i64 0, Value.int IntKind.i64 0, Value.int IntKind.i64 0] 72); simpa using h)
  have HO : Hid (Blk w1 (w.heap.size + 1 + 1) 72 [.int .i64 0, .int .i64 0, .int .i64 0]) := hide (by rw [hw1]; have h := Blk.new ((w.alloc (Obj.cells #[Value.slice A n c, Value.slice B m d] 29)).alloc (Obj.cells #[Value.int IntKind.i64 x, Value.int IntKind.i64 y, Value.int IntKind.i64 z] 72)) 72 [.int .i64 0, .int .i64 0, .int .i64 0]; simpa using h)
  have HBc := hide hb1
  replace HZ := hide (HZ.out.later hb1)
  have Z1 : Hid (w1.heap.size = w.heap.size + 1 + 1 + 1) := hide (by rw [hw1]; simp)
  have j1 : w1.heap.size ≠ w.heap.size := by have := Z1.out; omega
  have j2 : w1.heap.size ≠ w.heap.size + 1 := by have := Z1.out; omega
  have j3 := j1.symm
  have j4 := j2.symm
  have hz1 : w.heap.size + 1 < w1.heap.size := by have := Z1.out; omega
  clear hw1 hb1
  have k0 := HS.out.cell 0 _ rfl
  have k1 := HS.out.cell 1 _ rfl
  have k2 := HL.out.cell 0 _ rfl
  have k3 := HL.out.cell 1 _ rfl
  have k4 := HL.out.cell 2 _ rfl
  go_region_held3 (fun w' => w'.cell? ⟨w.heap.size, 0, none⟩ = some (.slice A n c) ∧ w'.cell? ⟨w.heap.size, 1, none⟩ = some (.slice B m d) ∧ w'.cell? ⟨w.heap.size + 1, 0, none⟩ = some (.int .i64 x) ∧ w'.cell? ⟨w.heap.size + 1, 1, none⟩ = some (.int .i64 y) ∧ w'.cell? ⟨w.heap.size + 1, 2, none⟩ = some (.int .i64 z)) (first | exact ⟨k0, k1, k2, k3, k4⟩ | go_keep) (first | (go_at_call 58; go_must (refine calls_gen fun wc hwc => ?_; (first | (have hbx := al_drew_below hwc; have HPB : Hid (Blk wc w1.heap.size 76 [.int .i64 0, .int .i64 0]) := hide (by rw [hwc]; exact Blk.new _ _ _)) | (have hbx := al_below hwc; have HPB : Hid (Blk wc w1.heap.size 76 [.int .i64 0, .int .i64 0]) := hide (by rw [hwc]; exact Blk.new _ _ _)) | (have hbx := drew_below hwc; have HPB : Hid True := hide trivial) | (have hbx := eq_below hwc; have HPB : Hid True := hide trivial)); have hbx0 := hide hbx.size; replace HBc := hide (HBc.out.trans (hbx.mono HBc.out.size)); replace HZ := hide (HZ.out.later hbx); replace HS := hide (HS.out.later hbx); replace HL := hide (HL.out.later hbx); replace HO := hide (HO.out.later hbx); clear hwc hbx; refine (lead_any _ _ _ f _ _ _ s y z _ HZ.out HP.out hy hz').mono ?_; rintro e wd ⟨rfl, hbd⟩; replace HBc := hide (HBc.out.trans (hbd.mono HBc.out.size)); replace HZ := hide (HZ.out.later hbd); replace HS := hide (HS.out.later hbd); replace HL := hide (HL.out.later hbd); replace HO := hide (HO.out.later hbd); (first | (replace HPB := hide (HPB.out.later hbd); have k5 := HPB.out.cell 0 _ rfl; have k6 := HPB.out.cell 1 _ rfl; have k7 := HPB.out.frozen 0; have k8 := HPB.out.frozen 1) | skip); have hsd := hbd.size; have hsx := hbx0.out; have g1 : wd.heap.size ≠ w.heap.size := (by omega); have g2 : wd.heap.size ≠ w.heap.size + 1 := (by omega); have g3 := g1.symm; have g4 := g2.symm; clear hsd hsx; clear hbd; have k0 := HS.out.cell 0 _ rfl; have k1 := HS.out.cell 1 _ rfl; have k2 := HL.out.cell 0 _ rfl; have k3 := HL.out.cell 1 _ rfl; have k4 := HL.out.cell 2 _ rfl; rw [HU.out, HV.out])))

  · clear k0 k1 k2 k3 k4
    refine ex_gen (Q := Exit.then _ _) fun w2 hw2 => ?_
    have hb2 : Below wd.heap.size wd w2 := by rw [hw2]; exact (Below.refl _ _).alloc (Nat.le_refl _) _
    have hsz := Z1.out
    have hsw : w.heap.size + 1 + 1 < wd.heap.size := by have := HO.out.lt; omega
    have HL2 : Hid (Blk w2 (w.heap.size + 1) 72 [.int .i64 x, .int .i64 y, .int .i64 z]) := hide (HL.out.later hb2)
    have HO2 : Hid (Blk w2 (w.heap.size + 1 + 1) 72 [.int .i64 0, .int .i64 0, .int .i64 0]) := hide (HO.out.later hb2)
    have HP2 : Hid (Blk w2 (wd.heap.size) 76 [.int .i64 u, .int .i64 v]) := hide (by rw [hw2]; exact Blk.new _ _ _)
    have HB2 : Hid (Below w.heap.size w w2) := hide (by rw [hw2]; exact HBc.out.alloc HBc.out.size _)
    clear hw2
    obtain ⟨P, hPe⟩ : ∃ P, wd.heap.size = P := ⟨_, rfl⟩
    rw [hPe] at HP2 hsw ⊢
    have l0 := HL2.out.cell 0 _ rfl
    have l1 := HL2.out.cell 1 _ rfl
    have l2 := HL2.out.cell 2 _ rfl
    have l3 := HL2.out.frozen 0
    have l4 := HL2.out.frozen 1
    have l5 := HL2.out.frozen 2
    have p0 := HP2.out.cell 0 _ rfl
    have p1 := HP2.out.cell 1 _ rfl
    have o0 := HO2.out.cell 0 _ rfl
    have o1 := HO2.out.cell 1 _ rfl
    have o2 := HO2.out.cell 2 _ rfl
    have o3 := HO2.out.frozen 0
    have o4 := HO2.out.frozen 1
    have o5 := HO2.out.frozen 2
    have n1 : P ≠ w.heap.size + 1 := by omega
    have n2 : P ≠ w.heap.size + 1 + 1 := by omega
    have n3 := n1.symm
    have n4 := n2.symm
    go_wp2_with fail
    obtain ⟨y', hy'⟩ := cell?_setCell_some (w := w2.drew) (p := ⟨w.heap.size + 1, 1, none⟩) (x := Value.int IntKind.i64 u) (q := ⟨w.heap.size + 1, 2, none⟩) (v := Value.int IntKind.i64 z) (by go_simp)
    go_region
    go_wp2_with fail
    refine bp_gen fun wf hwf => ?_
    have hfar : w.heap.size + 1 + 1 ≠ w.heap.size + 1 := by omega
    have hlo1 : w.heap.size ≤ w.heap.size + 1 := by omega
    have hlo2 : w.heap.size ≤ w.heap.size + 1 + 1 := by omega
    have HRF : Blk wf (w.heap.size + 1 + 1) 72 [.int .i64 x, .int .i64 u, .int .i64 v] := by rw [hwf]; first | exact ((((((HO2.out.far (p := ⟨w.heap.size + 1, 1, none⟩) hfar _).far (p := ⟨w.heap.size + 1, 2, none⟩) hfar _).set 0 _).set 1 _).set 2 _).drew) | exact (((((HO2.out.far (p := ⟨w.heap.size + 1, 1, none⟩) hfar _).far (p := ⟨w.heap.size + 1, 2, none⟩) hfar _).set 0 _).set 1 _).set 2 _)
    have HBF : Below w.heap.size w wf := by rw [hwf]; first | exact ((((((HB2.out.setCell (p := ⟨w.heap.size + 1, 1, none⟩) hlo1 _).setCell (p := ⟨w.heap.size + 1, 2, none⟩) hlo1 _).setCell (p := ⟨w.heap.size + 1 + 1, 0, none⟩) hlo2 _).setCell (p := ⟨w.heap.size + 1 + 1, 1, none⟩) hlo2 _).setCell (p := ⟨w.heap.size + 1 + 1, 2, none⟩) hlo2 _).drew) | exact (((((HB2.out.setCell (p := ⟨w.heap.size + 1, 1, none⟩) hlo1 _).setCell (p := ⟨w.heap.size + 1, 2, none⟩) hlo1 _).setCell (p := ⟨w.heap.size + 1 + 1, 0, none⟩) hlo2 _).setCell (p := ⟨w.heap.size + 1 + 1, 1, none⟩) hlo2 _).setCell (p := ⟨w.heap.size + 1 + 1, 2, none⟩) hlo2 _)
    clear hwf l0 l1 l2 l3 l4 l5 p0 p1 o0 o1 o2 o3 o4 o5 hy'
    have q0 := HRF.cell 0 _ rfl
    have q1 := HRF.cell 1 _ rfl
    have q2 := HRF.cell 2 _ rfl
    exact bodyPost_ret (v := .agg #[.int .i64 x, .int .i64 u, .int .i64 v]) (by simp [results, Try.results65, go_sem, q0, q1, q2]) rfl ⟨rfl, HBF⟩

  · clear k0 k1 k2 k3 k4
    refine ex_gen (Q := Exit.then _ _) fun w2 hw2 => ?_
    skip
    have hsz := Z1.out
    have hsw : w.heap.size + 1 + 1 < w1.heap.size := by have := HO.out.lt; omega
    have HL2 : Hid (Blk w2 (w.heap.size + 1) 72 [.int .i64 x, .int .i64 y, .int .i64 z]) := hide (by rw [hw2]; exact ((HL.out).far (p := ⟨w1.heap.size, 0, none⟩) (by show _ ≠ w1.heap.size; omega) _).far (p := ⟨w1.heap.size, 1, none⟩) (by show _ ≠ w1.heap.size; omega) _)
    have HO2 : Hid (Blk w2 (w.heap.size + 1 + 1) 72 [.int .i64 0, .int .i64 0, .int .i64 0]) := hide (by rw [hw2]; exact ((HO.out).far (p := ⟨w1.heap.size, 0, none⟩) (by show _ ≠ w1.heap.size; omega) _).far (p := ⟨w1.heap.size, 1, none⟩) (by show _ ≠ w1.heap.size; omega) _)
    have HP2 : Hid (Blk w2 (w1.heap.size) 76 [.int .i64 u, .int .i64 v]) := hide (by rw [hw2]; exact (HPB.out.set 0 _).set 1 _)
    have HB2 : Hid (Below w.heap.size w w2) := hide (by rw [hw2]; exact (HBc.out.setCell (p := ⟨w1.heap.size, 0, none⟩) (by show w.heap.size ≤ w1.heap.size; omega) _).setCell (p := ⟨w1.heap.size, 1, none⟩) (by show w.heap.size ≤ w1.heap.size; omega) _)
    clear hw2
    obtain ⟨P, hPe⟩ : ∃ P, w1.heap.size = P := ⟨_, rfl⟩
    rw [hPe] at HP2 hsw ⊢
    have l0 := HL2.out.cell 0 _ rfl
    have l1 := HL2.out.cell 1 _ rfl
    have l2 := HL2.out.cell 2 _ rfl
    have l3 := HL2.out.frozen 0
    have l4 := HL2.out.frozen 1
    have l5 := HL2.out.frozen 2
    have p0 := HP2.out.cell 0 _ rfl
    have p1 := HP2.out.cell 1 _ rfl
    have o0 := HO2.out.cell 0 _ rfl
    have o1 := HO2.out.cell 1 _ rfl
    have o2 := HO2.out.cell 2 _ rfl
    have o3 := HO2.out.frozen 0
    have o4 := HO2.out.frozen 1
    have o5 := HO2.out.frozen 2
    have n1 : P ≠ w.heap.size + 1 := by omega
    have n2 : P ≠ w.heap.size + 1 + 1 := by omega
    have n3 := n1.symm
    have n4 := n2.symm
    go_wp2_with fail
    obtain ⟨y', hy'⟩ := cell?_setCell_some (w := w2.drew) (p := ⟨w.heap.size + 1, 1, none⟩) (x := Value.int IntKind.i64 u) (q := ⟨w.heap.size + 1, 2, none⟩) (v := Value.int IntKind.i64 z) (by go_simp)
    go_region
    go_wp2_with fail
    refine bp_gen fun wf hwf => ?_
    have hfar : w.heap.size + 1 + 1 ≠ w.heap.size + 1 := by omega
    have hlo1 : w.heap.size ≤ w.heap.size + 1 := by omega
    have hlo2 : w.heap.size ≤ w.heap.size + 1 + 1 := by omega
    have HRF : Blk wf (w.heap.size + 1 + 1) 72 [.int .i64 x, .int .i64 u, .int .i64 v] := by rw [hwf]; first | exact ((((((HO2.out.far (p := ⟨w.heap.size + 1, 1, none⟩) hfar _).far (p := ⟨w.heap.size + 1, 2, none⟩) hfar _).set 0 _).set 1 _).set 2 _).drew) | exact (((((HO2.out.far (p := ⟨w.heap.size + 1, 1, none⟩) hfar _).far (p := ⟨w.heap.size + 1, 2, none⟩) hfar _).set 0 _).set 1 _).set 2 _)
    have HBF : Below w.heap.size w wf := by rw [hwf]; first | exact ((((((HB2.out.setCell (p := ⟨w.heap.size + 1, 1, none⟩) hlo1 _).setCell (p := ⟨w.heap.size + 1, 2, none⟩) hlo1 _).setCell (p := ⟨w.heap.size + 1 + 1, 0, none⟩) hlo2 _).setCell (p := ⟨w.heap.size + 1 + 1, 1, none⟩) hlo2 _).setCell (p := ⟨w.heap.size + 1 + 1, 2, none⟩) hlo2 _).drew) | exact (((((HB2.out.setCell (p := ⟨w.heap.size + 1, 1, none⟩) hlo1 _).setCell (p := ⟨w.heap.size + 1, 2, none⟩) hlo1 _).setCell (p := ⟨w.heap.size + 1 + 1, 0, none⟩) hlo2 _).setCell (p := ⟨w.heap.size + 1 + 1, 1, none⟩) hlo2 _).setCell (p := ⟨w.heap.size + 1 + 1, 2, none⟩) hlo2 _)
    clear hwf l0 l1 l2 l3 l4 l5 p0 p1 o0 o1 o2 o3 o4 o5 hy'
    have q0 := HRF.cell 0 _ rfl
    have q1 := HRF.cell 1 _ rfl
    have q2 := HRF.cell 2 _ rfl
    exact bodyPost_ret (v := .agg #[.int .i64 x, .int .i64 u, .int .i64 v]) (by simp [results, Try.results65, go_sem, q0, q1, q2]) rfl ⟨rfl, HBF⟩
end Go.Proofs.Ythnkhljgealjdaa
