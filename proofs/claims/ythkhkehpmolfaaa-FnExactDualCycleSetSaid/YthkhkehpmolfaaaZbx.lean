import Derived.Test.YthkhkehpmolfaaaZbs
import Derived.Test.YthkhkehpmolfaaaZbl
import Derived.Test.YthkhkehpmolfaaaZap
import Derived.Test.YthkhkehpmolfaaaZbr
import Derived.Test.YthkhkehpmolfaaaZn
import Derived.Test.YthkhkehpmolfaaaZa
import Derived.Deep.Cut
namespace Go.Proofs.Ythkhkehpmolfaaa
open Go Go.RowKit
/-- What makes a cycle set, said of elements. -/
theorem Cyc.eqn {f : List (List Int)} (h : Cyc f) {n x y z : Nat} (hn : f.length = n) (hx : x < n) (hy : y < n) (hz : z < n) : ap f (ap f x y) (ap f x z) = ap f (ap f y x) (ap f y z) := by
  subst hn
  have h1 := h.2.2 ((x * f.length + y) * f.length + z) (trip_lt hx hy hz)
  rw [qAt_at hy hz] at h1
  unfold cyq at h1
  simpa using h1
theorem row_ap {f : List (List Int)} (ht : Tbl f) {n a x : Nat} (hn : f.length = n) (ha : a < n) (hx : x < n) : (f.getD a []).getD x 0 = ((ap f a x : Nat) : Int) := by
  have h := (ht.2.2 a (by omega)).2 x (by omega)
  unfold ap
  omega
theorem ap_inj {f : List (List Int)} (ht : Tbl f) (hp : AllPrm f) {n a x x' : Nat} (hn : f.length = n) (ha : a < n) (hx : x < n) (hx' : x' < n) (e : ap f a x = ap f a x') : x = x' := by
  have hl := ht.row_len hn ha
  refine prm_inj (hp a (by omega)) (by omega) (by omega) ?_
  rw [row_ap ht hn ha hx, row_ap ht hn ha hx', e]
theorem sq_inj {f : List (List Int)} (h : Cyc f) {n x x' : Nat} (hn : f.length = n) (hx : x < n) (hx' : x' < n) (e : ap f x x = ap f x' x') : x = x' := by
  refine prm_inj h.2.1 (by rw [kinkL_length]; omega) (by rw [kinkL_length]; omega) ?_
  rw [kinkL_getD f x (by omega), kinkL_getD f x' (by omega), e]
/-- The other half of the solution of a cycle set: its second values, with the second element kept, are all different. -/
theorem rho_inj {f : List (List Int)} (h : Cyc f) {n x x' y : Nat} (hn : f.length = n) (hx : x < n) (hx' : x' < n) (hy : y < n) (e : ap f (sol f x y) x = ap f (sol f x' y) x') : x = x' := by
  obtain ⟨u1, _, _, u4⟩ := sol_spec h.tbl h.prm hn hx hy
  obtain ⟨v1, _, _, v4⟩ := sol_spec h.tbl h.prm hn hx' hy
  have e1 := h.eqn hn hx u1 hx
  have e2 := h.eqn hn hx' v1 hx'
  rw [u4] at e1
  rw [v4, ← e, ← e1] at e2
  exact sq_inj h hn hx hx' (ap_inj h.tbl h.prm hn hy (h.tbl.ap_lt hn hx hx) (h.tbl.ap_lt hn hx' hx') e2.symm)
theorem ap_grid {n : Nat} (h : Nat → Nat → Int) {a b : Nat} (ha : a < n) (hb : b < n) : ap (grid n h) a b = (h a b).toNat := by
  unfold ap
  rw [grid_at n h a b ha hb]
theorem grid_tbl {n : Nat} (h : Nat → Nat → Int) (h1 : 1 ≤ n) (h12 : n ≤ 12) (hh : ∀ a b, a < n → b < n → 0 ≤ h a b ∧ h a b < (n : Int)) : Tbl (grid n h) := by
  refine ⟨by rw [grid_length]; exact h1, by rw [grid_length]; exact h12, fun i hi => ?_⟩
  rw [grid_length] at hi
  refine ⟨by rw [grid_row_length n h i hi, grid_length], fun j hj => ?_⟩
  rw [grid_length] at hj
  rw [grid_at n h i j hi hj, grid_length]
  exact hh i j hi hj
def cs1 (f : List (List Int)) : List (List Int) := grid f.length (csH1 f)
def cs2 (f : List (List Int)) : List (List Int) := grid f.length (csH2 f)
theorem Cyc.ge {f : List (List Int)} (h : Cyc f) : 1 ≤ f.length := h.tbl.1
theorem cs1_tbl {f : List (List Int)} (h : Cyc f) : Tbl (cs1 f) := grid_tbl _ h.ge h.le fun a b ha hb => by
  have := sol_lt h.tbl h.prm rfl ha hb
  unfold csH1
  omega
theorem cs2_tbl {f : List (List Int)} (h : Cyc f) : Tbl (cs2 f) := grid_tbl _ h.ge h.le fun a b ha hb => by
  have := h.tbl.ap_lt rfl (sol_lt h.tbl h.prm rfl ha hb) ha
  unfold csH2
  omega
theorem cs_pmap {f : List (List Int)} (h : Cyc f) : PMap (cs1 f) (cs2 f) := ⟨cs1_tbl h, cs2_tbl h, by unfold cs1 cs2; rw [grid_length, grid_length]⟩
theorem cs2_len (f : List (List Int)) : (cs2 f).length = f.length := grid_length _ _
theorem cs1_len (f : List (List Int)) : (cs1 f).length = f.length := grid_length _ _
/-- The first table of the mirror of the solution. -/
def dcM (f : List (List Int)) : List (List Int) := turnL (cs2 f)
theorem dcM_grid {f : List (List Int)} (h : Cyc f) : dcM f = grid f.length (mir1 (cs2 f)) := by
  have h1 := mir_turn (cs2_tbl h)
  rw [cs2_len] at h1
  exact h1.symm
theorem dc_at {f : List (List Int)} (_h : Cyc f) {i j : Nat} (hi : i < f.length) (hj : j < f.length) : mir1 (cs2 f) i j = ((ap f (sol f j i) j : Nat) : Int) := by
  unfold mir1 cs2
  rw [ap_grid _ hj hi]
  unfold csH2
  simp
theorem dcM_len (f : List (List Int)) (h : Cyc f) : (dcM f).length = f.length := by rw [dcM_grid h, grid_length]
theorem dcM_tbl {f : List (List Int)} (h : Cyc f) : Tbl (dcM f) := by
  rw [dcM_grid h]
  refine grid_tbl _ h.ge h.le fun a b ha hb => ?_
  rw [dc_at h ha hb]
  have := h.tbl.ap_lt rfl (sol_lt h.tbl h.prm rfl hb ha) hb
  omega
theorem dcM_prm {f : List (List Int)} (h : Cyc f) : AllPrm (dcM f) := by
  intro i hi
  have ht := dcM_tbl h
  have hr := ht.rows i hi
  have hl := dcM_len f h
  have hif : i < f.length := by omega
  refine ⟨by have := ht.1; omega, by have := ht.2.1; omega, fun v hv => ?_, ?_⟩
  · obtain ⟨j, hj, e⟩ := List.getElem_of_mem hv
    have h2 := (ht.2.2 i hi).2 j (by omega)
    have h3 : ((dcM f).getD i []).getD j 0 = v := by
      rw [← e]
      generalize (dcM f).getD i [] = p at hj
      rw [List.getD_eq_getElem?_getD, List.getElem?_eq_getElem hj]
      rfl
    rw [h3] at h2
    omega
  · rw [dcM_grid h, grid_row _ _ i hif]
    refine List.pairwise_map.2 (List.Pairwise.imp_of_mem (fun {a b} ha hb hlt e => ?_) List.pairwise_lt_range)
    have ha' : a < f.length := List.mem_range.1 ha
    have hb' : b < f.length := List.mem_range.1 hb
    rw [dc_at h hif ha', dc_at h hif hb'] at e
    have e2 : ap f (sol f a i) a = ap f (sol f b i) b := by omega
    have := rho_inj h rfl ha' hb' hif e2
    omega
def DcRes (f zs : List (List Int)) (code : Int) : Prop := (Cyc f ∧ zs = dualL (dcM f) ∧ code = 0) ∨ (¬ Cyc f ∧ zs = [] ∧ code = 1)
theorem DcRes.ex (f : List (List Int)) : ∃ zs code, DcRes f zs code ∧ zs.length ≤ 1048576 ∧ ∀ i, i < zs.length → (zs.getD i []).length ≤ 1048576 := by
  by_cases h : Cyc f
  · have h12 := h.le
    have hl := dcM_len f h
    refine ⟨_, _, .inl ⟨h, rfl, rfl⟩, ?_, fun i hi => ?_⟩
    · rw [dualL, rowsL_length]; omega
    · rw [dualL, rowsL_length] at hi
      rw [dualL, rowsL_at _ _ i hi, backTo_length, (dcM_tbl h).rows i hi]
      omega
  · exact ⟨_, _, .inr ⟨h, rfl, rfl⟩, by simp, by simp⟩
end Go.Proofs.Ythkhkehpmolfaaa
namespace Go.Proofs.Ythkhkehpmolfaaa
open Go Go.RowKit
set_option maxHeartbeats 2000000
set_option maxRecDepth 100000 in
theorem zcycle_any (A B : Option Addr) (n c m d : Nat) (f : List (List Int)) (w : World) (hn : f.length = n) (ht : Tbl f) (hp : AllPrm f) (hr : Rd2 w A f) :
    Calls Try.prog 70 #[.agg #[.slice A n c, .slice B m d]] w fun e w' => ∃ A' c', e = .returned (.agg #[.slice A' n c']) ∧ Below w.heap.size w w' ∧ Obj2 31 2 w.heap.size w'.heap.size w' A' (dualL f) := by
  have HN := hide hn
  have HTB := hide ht
  have HPM := hide hp
  have HRD := hide hr
  have HB0 := hide (((Below.refl _ w).alloc (Nat.le_refl _) (Obj.cells #[Value.slice A n c, Value.slice B m d] 41)).alloc (by simp) (Obj.cells #[.slice none 0 0] 27))
  have HK0 := hide ((Blk.new w 41 [.slice A n c, .slice B m d]).alloc (Obj.cells #[.slice none 0 0] 27))
  have HR0 : Hid (Blk ((w.alloc (Obj.cells #[Value.slice A n c, Value.slice B m d] 41)).alloc (Obj.cells #[.slice none 0 0] 27)) (w.heap.size + 1) 27 [.slice none 0 0]) := hide (by have h := Blk.new (w.alloc (Obj.cells #[Value.slice A n c, Value.slice B m d] 41)) 27 [.slice none 0 0]; simpa using h)
  clear hn ht hp hr
  go_enter Try.func70, Try.ntmps70
  go_upto_region 1 with fail
  refine wp_gen fun w1 hw1 => ?_
  have HB1 : Hid (Below w.heap.size w w1) := hide (by rw [hw1]; exact HB0.out)
  have HK1 : Hid (Blk w1 w.heap.size 41 [.slice A n c, .slice B m d]) := hide (by rw [hw1]; exact HK0.out)
  have HR1 : Hid (Blk w1 (w.heap.size + 1) 27 [.slice none 0 0]) := hide (by rw [hw1]; exact HR0.out)
  clear hw1
  have k0 := HK1.out.cell 0 _ rfl
  go_wp2_with fail
  refine (inverses_any A n c f _ HN.out HTB.out HPM.out (HRD.out.later HB1.out)).mono ?_
  rintro e w2 ⟨A2, c2, rfl, hb2, ho2⟩
  have HB2 := hide (HB1.out.trans (hb2.mono HB1.out.size))
  have HR2 := hide (HR1.out.later hb2)
  have HO2 := hide ho2
  have hl1 := HR1.out.lt
  have hs1 := HB1.out.size
  clear hb2 ho2 k0
  have k0 := HR2.out.cell 0 _ rfl
  have k1 := HR2.out.frozen 0
  go_wp2_with fail
  refine bp_gen fun wf hwf => ?_
  obtain ⟨q0, hbf, hof⟩ := kend hwf HR2.out (by omega) HB2.out HO2.out hs1 hl1 (Nat.le_refl _)
  clear hwf k0 k1
  exact bodyPost_ret (v := .agg #[.slice A2 n c2]) (by simp [results, Try.results70, go_sem, q0]) rfl ⟨_, _, rfl, hbf, hof⟩
end Go.Proofs.Ythkhkehpmolfaaa
