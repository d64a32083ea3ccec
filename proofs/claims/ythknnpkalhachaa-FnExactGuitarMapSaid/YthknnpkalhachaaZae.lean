import Derived.Test.YthknnpkalhachaaZab
import Derived.Test.YthknnpkalhachaaProg
import Derived.Test.YthknnpkalhachaaZc
import Derived.Test.YthknnpkalhachaaZf
import Derived.Test.YthknnpkalhachaaZp
import Derived.Test.YthknnpkalhachaaZs
import Derived.Test.YthknnpkalhachaaZv
import Derived.Test.YthknnpkalhachaaZw
namespace Go.Proofs.Ythknnpkalhachaa
open Go Go.RowKit
def kinkL (f : List (List Int)) : List Int := (List.range f.length).map fun (x : Nat) => ((ap f x x : Nat) : Int)
theorem kinkL_length (f : List (List Int)) : (kinkL f).length = f.length := by simp [kinkL]
theorem kinkL_getD (f : List (List Int)) (k : Nat) (h : k < f.length) : (kinkL f).getD k 0 = ((ap f k k : Nat) : Int) := by simp [kinkL, h]
def KinkRes (f : List (List Int)) (zs : List Int) (code : Int) : Prop := (Rck f ∧ zs = kinkL f ∧ code = 0) ∨ (¬ Rck f ∧ zs = [] ∧ code = 1)
theorem KinkRes.ex (f : List (List Int)) : ∃ zs code, KinkRes f zs code ∧ zs.length ≤ 1048576 := by
  by_cases h : Rck f
  · exact ⟨_, _, .inl ⟨h, rfl, rfl⟩, by rw [kinkL_length]; have := h.tbl.2.1; omega⟩
  · exact ⟨_, _, .inr ⟨h, rfl, rfl⟩, by simp⟩
theorem kq_take (zs : List Int) (k : Nat) (y : Int) (h : k < zs.length) (hy : zs.getD k 0 = y) : ints (zs.take k) ++ [.int .i64 y] = ints (zs.take (k + 1)) := by
  rw [List.take_succ_eq_append_getElem h]
  have : zs[k] = y := by simpa [h] using hy
  simp [ints, this]
theorem kq_empty (w : World) (t : TypeId) : (w.alloc (.cells #[] t)).ownsRow w.heap.size t 1 (.slice (some ⟨w.heap.size, 0, none⟩) 0 0) 0 [] :=
  ⟨by simp, .inr ⟨w.heap.size, 0, #[], rfl, Nat.le_refl _, heap_alloc_new _ _, Nat.le_refl _, by unfold maxLen; omega, by simp, by simp⟩⟩
theorem kq_new {w : World} {v : Value} {t : TypeId} : ∀ j u, [v][j]? = some u → (w.alloc (.cells #[v] t)).cell? ((⟨w.heap.size, 0, none⟩ : Addr).add j) = some u := by
  intro j u hj
  match j, hj with
  | 0, hj => simp at hj; subst hj; simp [Addr.add, World.cell?_alloc_new]
theorem kqInfo : (Try.prog.info? 2).map (fun i => (i.zero, i.size, i.bytes)) = some (some (.int .i64 0), 1, 8) := by kernel_rfl
/-- The last lines of a row that was filled from the front. -/
theorem kq_fill (zs : List Int) (n k : Nat) (hz : zs.length = n) (hk : k < n) : ((zs.take k ++ List.replicate (n - k) 0).set k (zs.getD k 0)) = zs.take (k + 1) ++ List.replicate (n - (k + 1)) 0 := by
  apply List.ext_getElem
  · simp; omega
  · intro i h1 h2
    simp only [List.getElem_set, List.getElem_append, List.length_take, List.getElem_take, List.getElem_replicate]
    by_cases e : k = i
    · subst e
      rw [if_pos rfl, dif_pos (by omega)]
      simp [show k < zs.length by omega]
    · rw [if_neg e]
      by_cases e2 : i < k
      · rw [dif_pos (by omega), dif_pos (by omega)]
      · rw [dif_neg (by omega), dif_neg (by omega)]
end Go.Proofs.Ythknnpkalhachaa
namespace Go.Proofs.Ythknnpkalhachaa
open Go Go.RowKit
/-- Doing each row twice leads each element to itself. -/
def IvF (f : List (List Int)) : Prop := ∀ x y, x < f.length → y < f.length → ap f x (ap f x y) = y
def IvRes (f : List (List Int)) : Bool → Int → Prop := BRes (Rck f) (IvF f)
theorem IvRes.ex (f : List (List Int)) : ∃ r code, IvRes f r code := BRes.ex _ _
theorem prm_at {p : List Int} (h : Prm p) {y : Nat} (hy : y < p.length) : 0 ≤ p.getD y 0 ∧ p.getD y 0 < (p.length : Int) := by
  have hm : p.getD y 0 ∈ p := by simp [hy]
  exact h.2.2.1 _ hm
theorem prm_inj {p : List Int} (h : Prm p) {y z : Nat} (hy : y < p.length) (hz : z < p.length) (e : p.getD y 0 = p.getD z 0) : y = z := by
  have hn := h.2.2.2
  have e1 : p[y] = p[z] := by simpa [hy, hz] using e
  exact (List.getElem_inj hn).1 e1
theorem backTo_hit {p : List Int} (h : Prm p) : ∀ k, k ≤ p.length → ∀ y, y < k → (backTo p k).getD (p.getD y 0).toNat 0 = (y : Int) := by
  intro k
  induction k with
  | zero => intro _ y hy; omega
  | succ k ih =>
    intro hk y hy
    have hyl : y < p.length := by omega
    have a := prm_at h hyl
    have b := prm_at h (show k < p.length by omega)
    unfold backTo
    simp only [List.getD_eq_getElem?_getD] at *
    by_cases e : y = k
    · subst e
      rw [List.getElem?_set_self (by rw [backTo_length]; omega)]
      rfl
    · rw [List.getElem?_set_ne]
      · exact ih (by omega) y (by omega)
      · intro e2
        apply e
        apply prm_inj h hyl (by omega)
        simp only [List.getD_eq_getElem?_getD]
        omega
theorem back_iff {p : List Int} (h : Prm p) : p = backTo p p.length ↔ ∀ y, y < p.length → p.getD (p.getD y 0).toNat 0 = (y : Int) := by
  constructor
  · intro e y hy
    have h1 := backTo_hit h p.length (Nat.le_refl _) y hy
    rw [← e] at h1
    exact h1
  · intro hall
    apply List.ext_getElem
    · rw [backTo_length]
    · intro z h1 h2
      have a := prm_at h h1
      have b := hall z h1
      have c := backTo_hit h p.length (Nat.le_refl _) (p.getD z 0).toNat (by omega)
      rw [b] at c
      have d : ((z : Int)).toNat = z := by omega
      rw [d] at c
      have e1 : p.getD z 0 = p[z] := by simp [h1]
      have e2 : (backTo p p.length).getD z 0 = (backTo p p.length)[z] := by simp [h2]
      rw [← e1, ← e2, c]
      omega
theorem iv_row {f : List (List Int)} (ht : Tbl f) (hp : AllPrm f) {n x : Nat} (hn : f.length = n) (hx : x < n) : f.getD x [] = backTo (f.getD x []) n ↔ ∀ y, y < n → ap f x (ap f x y) = y := by
  have hl := ht.row_len hn hx
  have h := back_iff (hp x (by omega))
  rw [hl] at h
  rw [h]
  have key : ∀ y, y < n → ((f.getD x []).getD ((f.getD x []).getD y 0).toNat 0 = (y : Int) ↔ ap f x (ap f x y) = y) := by
    intro y hy
    have e1 := ht.ap_eq hn hx hy
    have hlt := ht.ap_lt hn hx hy
    have e2 := ht.ap_eq hn hx hlt
    rw [e1]
    have e3 : ((ap f x y : Nat) : Int).toNat = ap f x y := by omega
    rw [e3, e2]
    omega
  exact ⟨fun h y hy => (key y hy).1 (h y hy), fun h y hy => (key y hy).2 (h y hy)⟩
end Go.Proofs.Ythknnpkalhachaa
namespace Go.Proofs.Ythknnpkalhachaa
open Go Go.RowKit
def rowsL (f : List (List Int)) (h : Nat → List Int) : List (List Int) := (List.range f.length).map h
theorem rowsL_length (f : List (List Int)) (h : Nat → List Int) : (rowsL f h).length = f.length := by simp [rowsL]
theorem rowsL_at (f : List (List Int)) (h : Nat → List Int) (i : Nat) (hi : i < f.length) : (rowsL f h).getD i [] = h i := by simp [rowsL, hi]
def dualL (f : List (List Int)) : List (List Int) := rowsL f (fun i => backTo (f.getD i []) f.length)
def DuRes (f zs : List (List Int)) (code : Int) : Prop := (Rck f ∧ zs = dualL f ∧ code = 0) ∨ (¬ Rck f ∧ zs = [] ∧ code = 1)
theorem DuRes.ex (f : List (List Int)) : ∃ zs code, DuRes f zs code ∧ zs.length ≤ 1048576 ∧ ∀ i, i < zs.length → (zs.getD i []).length ≤ 1048576 := by
  by_cases h : Rck f
  · have h12 := h.tbl.2.1
    refine ⟨_, _, .inl ⟨h, rfl, rfl⟩, ?_, fun i hi => ?_⟩
    · rw [dualL, rowsL_length]; omega
    · rw [dualL, rowsL_length] at hi
      rw [dualL, rowsL_at f _ i hi, backTo_length, h.tbl.rows i hi]
      omega
  · exact ⟨_, _, .inr ⟨h, rfl, rfl⟩, by simp, by simp⟩
end Go.Proofs.Ythknnpkalhachaa
namespace Go.Proofs.Ythknnpkalhachaa
open Go Go.RowKit
set_option maxHeartbeats 1000000

/-- Three elements as a value. -/
def tv (t : Nat × Nat × Nat) : Value := .agg #[.int .i64 t.1, .int .i64 t.2.1, .int .i64 t.2.2]

set_option maxRecDepth 100000 in
theorem leadAt0_any (A : Option Addr) (n c : Nat) (f : List (List Int)) (B : Option Addr) (m d : Nat) (s : List (List Int)) (x y z : Nat) (w : World) (hz : ZArg 1048576 w A n f B m s) (hp : PMap f s) (hx : x < n) (hy : y < n) (_hz' : z < n) :
    Calls Try.prog 93 #[.agg #[.slice A n c, .slice B m d], .int .i64 0, tv (x, y, z)] w fun e w' => e = .returned (tv (at0 f s (x, y, z))) ∧ Below w.heap.size w w' := by
  have HZ := hide hz
  have HP := hide hp
  have h12 := hz.sz.nb
  unfold at0 tv
  show Calls Try.prog 93 #[.agg #[.slice A n c, .slice B m d], .int .i64 0, .agg #[.int .i64 x, .int .i64 y, .int .i64 z]] w fun e w' => e = .returned (.agg #[.int .i64 (ap f x y : Nat), .int .i64 (ap s x y : Nat), .int .i64 (z : Nat)]) ∧ Below w.heap.size w w'
  obtain ⟨u, hu⟩ : ∃ u, ap f x y = u := ⟨_, rfl⟩
  obtain ⟨v, hv⟩ : ∃ v, ap s x y = v := ⟨_, rfl⟩
  rw [hu, hv]
  have HU := hide hu
  have HV := hide hv
  clear hz hp hu hv
  have hwp1 : IntKind.i64.wrap 1 = 1 := IntWalk.i64_in _ (by omega)
  have hwp2 : IntKind.i64.wrap 2 = 2 := IntWalk.i64_in _ (by omega)
  go_enter Try.func93, Try.ntmps93
  go_wp2_with fail
  refine wp_gen fun w1 hw1 => ?_
  have hb1 : Below w.heap.size w w1 := by rw [hw1]; exact (((Below.refl _ _).alloc (Nat.le_refl _) _).alloc (by simp) _).alloc (by simp; omega) _
  have HS : Hid (Blk w1 w.heap.size 27 [.slice A n c, .slice B m d]) := hide (by rw [hw1]; exact ((Blk.new _ _ _).alloc _).alloc _)
  have HL : Hid (Blk w1 (w.heap.size + 1) 61 [.int .i64 x, .int .i64 y, .int .i64 z]) := hide (by rw [hw1]; have h := (Blk.new (w.alloc (Obj.cells #[Value.slice A n c, Value.slice B m d] 27)) 61 [.int .i64 x, .int .i64 y, .int .i64 z]).alloc (Obj.cells #[Value.int IntKind.i64 0, Value.int IntKind.i64 0, Value.int IntKind.i64 0] 61); simpa using h)
  have HO : Hid (Blk w1 (w.heap.size + 1 + 1) 61 [.int .i64 0, .int .i64 0, .int .i64 0]) := hide (by rw [hw1]; have h := Blk.new ((w.alloc (Obj.cells #[Value.slice A n c, Value.slice B m d] 27)).alloc (Obj.cells #[Value.int IntKind.i64 x, Value.int IntKind.i64 y, Value.int IntKind.i64 z] 61)) 61 [.int .i64 0, .int .i64 0, .int .i64 0]; simpa using h)
  have HBc := hide hb1
  replace HZ := hide (HZ.out.later hb1)
  have Z1 : Hid (w1.heap.size = w.heap.size + 1 + 1 + 1) := hide (by rw [hw1]; simp)
  have j1 : w1.heap.size ≠ w.heap.size := by have := Z1.out; omega
  have j2 : w1.heap.size ≠ w.heap.size + 1 := by have := Z1.out; omega
  have j3 := j1.symm
  have j4 := j2.symm
  have hz1 : w.heap.size + 1 < w1.heap.size := by have := Z1.out; omega
  clear hw1 hb1
  have k0 := HS.out.cell 0 _ rfl
  have k1 := HS.out.cell 1 _ rfl
  have k2 := HL.out.cell 0 _ rfl
  have k3 := HL.out.cell 1 _ rfl
  have k4 := HL.out.cell 2 _ rfl
  go_region_held3 (fun w' => w'.cell? ⟨w.heap.size, 0, none⟩ = some (.slice A n c) ∧ w'.cell? ⟨w.heap.size, 1, none⟩ = some (.slice B m d) ∧ w'.cell? ⟨w.heap.size + 1, 0, none⟩ = some (.int .i64 x) ∧ w'.cell? ⟨w.heap.size + 1, 1, none⟩ = some (.int .i64 y) ∧ w'.cell? ⟨w.heap.size + 1, 2, none⟩ = some (.int .i64 z)) (first | exact ⟨k0, k1, k2, k3, k4⟩ | go_keep) (first | (go_at_call 94; go_must (refine calls_gen fun wc hwc => ?_; (first | (have hbx := al_drew_below hwc; have HPB : Hid (Blk wc w1.heap.size 65 [.int .i64 0, .int .i64 0]) := hide (by rw [hwc]; exact Blk.new _ _ _)) | (have hbx := al_below hwc; have HPB : Hid (Blk wc w1.heap.size 65 [.int .i64 0, .int .i64 0]) := hide (by rw [hwc]; exact Blk.new _ _ _)) | (have hbx := drew_below hwc; have HPB : Hid True := hide trivial) | (have hbx := eq_below hwc; have HPB : Hid True := hide trivial)); have hbx0 := hide hbx.size; replace HBc := hide (HBc.out.trans (hbx.mono HBc.out.size)); replace HZ := hide (HZ.out.later hbx); replace HS := hide (HS.out.later hbx); replace HL := hide (HL.out.later hbx); replace HO := hide (HO.out.later hbx); clear hwc hbx; refine (lead_any _ _ _ f _ _ _ s x y _ HZ.out HP.out hx hy).mono ?_; rintro e wd ⟨rfl, hbd⟩; replace HBc := hide (HBc.out.trans (hbd.mono HBc.out.size)); replace HZ := hide (HZ.out.later hbd); replace HS := hide (HS.out.later hbd); replace HL := hide (HL.out.later hbd); replace HO := hide (HO.out.later hbd); (first | (replace HPB := hide (HPB.out.later hbd); have k5 := HPB.out.cell 0 _ rfl; have k6 := HPB.out.cell 1 _ rfl; have k7 := HPB.out.frozen 0; have k8 := HPB.out.frozen 1) | skip); have hsd := hbd.size; have hsx := hbx0.out; have g1 : wd.heap.size ≠ w.heap.size := (by omega); have g2 : wd.heap.size ≠ w.heap.size + 1 := (by omega); have g3 := g1.symm; have g4 := g2.symm; clear hsd hsx; clear hbd; have k0 := HS.out.cell 0 _ rfl; have k1 := HS.out.cell 1 _ rfl; have k2 := HL.out.cell 0 _ rfl; have k3 := HL.out.cell 1 _ rfl; have k4 := HL.out.cell 2 _ rfl; rw [HU.out, HV.out])))

  · clear k0 k1 k2 k3 k4
    refine ex_gen (Q := Exit.then _ _) fun w2 hw2 => ?_
    have hb2 : Below wd.heap.size wd w2 := by rw [hw2]; exact (Below.refl _ _).alloc (Nat.le_refl _) _
    have hsz := Z1.out
    have hsw : w.heap.size + 1 + 1 < wd.heap.size := by have := HO.out.lt; omega
    have HL2 : Hid (Blk w2 (w.heap.size + 1) 61 [.int .i64 x, .int .i64 y, .int .i64 z]) := hide (HL.out.later hb2)
    have HO2 : Hid (Blk w2 (w.heap.size + 1 + 1) 61 [.int .i64 0, .int .i64 0, .int .i64 0]) := hide (HO.out.later hb2)
    have HP2 : Hid (Blk w2 (wd.heap.size) 65 [.int .i64 u, .int .i64 v]) := hide (by rw [hw2]; exact Blk.new _ _ _)
    have HB2 : Hid (Below w.heap.size w w2) := hide (by rw [hw2]; exact HBc.out.alloc HBc.out.size _)
    clear hw2
    obtain ⟨P, hPe⟩ : ∃ P, wd.heap.size = P := ⟨_, rfl⟩
    rw [hPe] at HP2 hsw ⊢
    have l0 := HL2.out.cell 0 _ rfl
    have l1 := HL2.out.cell 1 _ rfl
    have l2 := HL2.out.cell 2 _ rfl
    have l3 := HL2.out.frozen 0
    have l4 := HL2.out.frozen 1
    have l5 := HL2.out.frozen 2
    have p0 := HP2.out.cell 0 _ rfl
    have p1 := HP2.out.cell 1 _ rfl
    have o0 := HO2.out.cell 0 _ rfl
    have o1 := HO2.out.cell 1 _ rfl
    have o2 := HO2.out.cell 2 _ rfl
    have o3 := HO2.out.frozen 0
    have o4 := HO2.out.frozen 1
    have o5 := HO2.out.frozen 2
    have n1 : P ≠ w.heap.size + 1 := by omega
    have n2 : P ≠ w.heap.size + 1 + 1 := by omega
    have n3 := n1.symm
    have n4 := n2.symm
    go_wp2_with fail
    obtain ⟨y', hy'⟩ := cell?_setCell_some (w := w2.drew) (p := ⟨w.heap.size + 1, 0, none⟩) (x := Value.int IntKind.i64 u) (q := ⟨w.heap.size + 1, 1, none⟩) (v := Value.int IntKind.i64 y) (by go_simp)
    go_region
    go_wp2_with fail
    refine bp_gen fun wf hwf => ?_
    have hfar : w.heap.size + 1 + 1 ≠ w.heap.size + 1 := by omega
    have hlo1 : w.heap.size ≤ w.heap.size + 1 := by omega
    have hlo2 : w.heap.size ≤ w.heap.size + 1 + 1 := by omega
    have HRF : Blk wf (w.heap.size + 1 + 1) 61 [.int .i64 u, .int .i64 v, .int .i64 z] := by rw [hwf]; first | exact ((((((HO2.out.far (p := ⟨w.heap.size + 1, 0, none⟩) hfar _).far (p := ⟨w.heap.size + 1, 1, none⟩) hfar _).set 0 _).set 1 _).set 2 _).drew) | exact (((((HO2.out.far (p := ⟨w.heap.size + 1, 0, none⟩) hfar _).far (p := ⟨w.heap.size + 1, 1, none⟩) hfar _).set 0 _).set 1 _).set 2 _)
    have HBF : Below w.heap.size w wf := by rw [hwf]; first | exact ((((((HB2.out.setCell (p := ⟨w.heap.size + 1, 0, none⟩) hlo1 _).setCell (p := ⟨w.heap.size + 1, 1, none⟩) hlo1 _).setCell (p := ⟨w.heap.size + 1 + 1, 0, none⟩) hlo2 _).setCell (p := ⟨w.heap.size + 1 + 1, 1, none⟩) hlo2 _).setCell (p := ⟨w.heap.size + 1 + 1, 2, none⟩) hlo2 _).drew) | exact (((((HB2.out.setCell (p := ⟨w.heap.size + 1, 0, none⟩) hlo1 _).setCell (p := ⟨w.heap.size + 1, 1, none⟩) hlo1 _).setCell (p := ⟨w.heap.size + 1 + 1, 0, none⟩) hlo2 _).setCell (p := ⟨w.heap.size + 1 + 1, 1, none⟩) hlo2 _).setCell (p := ⟨w.heap.size + 1 + 1, 2, none⟩) hlo2 _)
    clear hwf l0 l1 l2 l3 l4 l5 p0 p1 o0 o1 o2 o3 o4 o5 hy'
    have q0 := HRF.cell 0 _ rfl
    have q1 := HRF.cell 1 _ rfl
    have q2 := HRF.cell 2 _ rfl
    exact bodyPost_ret (v := .agg #[.int .i64 u, .int .i64 v, .int .i64 z]) (by simp [results, Try.results93, go_sem, q0, q1, q2]) rfl ⟨rfl, HBF⟩

  · clear k0 k1 k2 k3 k4
    refine ex_gen (Q := Exit.then _ _) fun w2 hw2 => ?_
    skip
    have hsz := Z1.out
    have hsw : w.heap.size + 1 + 1 < w1.heap.size := by have := HO.out.lt; omega
    have HL2 : Hid (Blk w2 (w.heap.size + 1) 61 [.int .i64 x, .int .i64 y, .int .i64 z]) := hide (by rw [hw2]; exact ((HL.out).far (p := ⟨w1.heap.size, 0, none⟩) (by show _ ≠ w1.heap.size; omega) _).far (p := ⟨w1.heap.size, 1, none⟩) (by show _ ≠ w1.heap.size; omega) _)
    have HO2 : Hid (Blk w2 (w.heap.size + 1 + 1) 61 [.int .i64 0, .int .i64 0, .int .i64 0]) := hide (by rw [hw2]; exact ((HO.out).far (p := ⟨w1.heap.size, 0, none⟩) (by show _ ≠ w1.heap.size; omega) _).far (p := ⟨w1.heap.size, 1, none⟩) (by show _ ≠ w1.heap.size; omega) _)
    have HP2 : Hid (Blk w2 (w1.heap.size) 65 [.int .i64 u, .int .i64 v]) := hide (by rw [hw2]; exact (HPB.out.set 0 _).set 1 _)
    have HB2 : Hid (Below w.heap.size w w2) := hide (by rw [hw2]; exact (HBc.out.setCell (p := ⟨w1.heap.size, 0, none⟩) (by show w.heap.size ≤ w1.heap.size; omega) _).setCell (p := ⟨w1.heap.size, 1, none⟩) (by show w.heap.size ≤ w1.heap.size; omega) _)
    clear hw2
    obtain ⟨P, hPe⟩ : ∃ P, w1.heap.size = P := ⟨_, rfl⟩
    rw [hPe] at HP2 hsw ⊢
    have l0 := HL2.out.cell 0 _ rfl
    have l1 := HL2.out.cell 1 _ rfl
    have l2 := HL2.out.cell 2 _ rfl
    have l3 := HL2.out.frozen 0
    have l4 := HL2.out.frozen 1
    have l5 := HL2.out.frozen 2
    have p0 := HP2.out.cell 0 _ rfl
    have p1 := HP2.out.cell 1 _ rfl
    have o0 := HO2.out.cell 0 _ rfl
    have o1 := HO2.out.cell 1 _ rfl
    have o2 := HO2.out.cell 2 _ rfl
    have o3 := HO2.out.frozen 0
    have o4 := HO2.out.frozen 1
    have o5 := HO2.out.frozen 2
    have n1 : P ≠ w.heap.size + 1 := by omega
    have n2 : P ≠ w.heap.size + 1 + 1 := by omega
    have n3 := n1.symm
    have n4 := n2.symm
    go_wp2_with fail
    obtain ⟨y', hy'⟩ := cell?_setCell_some (w := w2.drew) (p := ⟨w.heap.size + 1, 0, none⟩) (x := Value.int IntKind.i64 u) (q := ⟨w.heap.size + 1, 1, none⟩) (v := Value.int IntKind.i64 y) (by go_simp)
    go_region
    go_wp2_with fail
    refine bp_gen fun wf hwf => ?_
    have hfar : w.heap.size + 1 + 1 ≠ w.heap.size + 1 := by omega
    have hlo1 : w.heap.size ≤ w.heap.size + 1 := by omega
    have hlo2 : w.heap.size ≤ w.heap.size + 1 + 1 := by omega
    have HRF : Blk wf (w.heap.size + 1 + 1) 61 [.int .i64 u, .int .i64 v, .int .i64 z] := by rw [hwf]; first | exact ((((((HO2.out.far (p := ⟨w.heap.size + 1, 0, none⟩) hfar _).far (p := ⟨w.heap.size + 1, 1, none⟩) hfar _).set 0 _).set 1 _).set 2 _).drew) | exact (((((HO2.out.far (p := ⟨w.heap.size + 1, 0, none⟩) hfar _).far (p := ⟨w.heap.size + 1, 1, none⟩) hfar _).set 0 _).set 1 _).set 2 _)
    have HBF : Below w.heap.size w wf := by rw [hwf]; first | exact ((((((HB2.out.setCell (p := ⟨w.heap.size + 1, 0, none⟩) hlo1 _).setCell (p := ⟨w.heap.size + 1, 1, none⟩) hlo1 _).setCell (p := ⟨w.heap.size + 1 + 1, 0, none⟩) hlo2 _).setCell (p := ⟨w.heap.size + 1 + 1, 1, none⟩) hlo2 _).setCell (p := ⟨w.heap.size + 1 + 1, 2, none⟩) hlo2 _).drew) | exact (((((HB2.out.setCell (p := ⟨w.heap.size + 1, 0, none⟩) hlo1 _).setCell (p := ⟨w.heap.size + 1, 1, none⟩) hlo1 _).setCell (p := ⟨w.heap.size + 1 + 1, 0, none⟩) hlo2 _).setCell (p := ⟨w.heap.size + 1 + 1, 1, none⟩) hlo2 _).setCell (p := ⟨w.heap.size + 1 + 1, 2, none⟩) hlo2 _)
    clear hwf l0 l1 l2 l3 l4 l5 p0 p1 o0 o1 o2 o3 o4 o5 hy'
    have q0 := HRF.cell 0 _ rfl
    have q1 := HRF.cell 1 _ rfl
    have q2 := HRF.cell 2 _ rfl
    exact bodyPost_ret (v := .agg #[.int .i64 u, .int .i64 v, .int .i64 z]) (by simp [results, Try.results93, go_sem, q0, q1, q2]) rfl ⟨rfl, HBF⟩

set_option maxRecDepth 100000 in
theorem leadAt1_any (A : Option Addr) (n c : Nat) (f : List (List Int)) (B : Option Addr) (m d : Nat) (s : List (List Int)) (x y z : Nat) (w : World) (hz : ZArg 1048576 w A n f B m s) (hp : PMap f s) (_hx : x < n) (hy : y < n) (hz' : z < n) :
    Calls Try.prog 93 #[.agg #[.slice A n c, .slice B m d], .int .i64 1, tv (x, y, z)] w fun e w' => e = .returned (tv (at1 f s (x, y, z))) ∧ Below w.heap.size w w' := by
  have HZ := hide hz
  have HP := hide hp
  have h12 := hz.sz.nb
  unfold at1 tv
  show Calls Try.prog 93 #[.agg #[.slice A n c, .slice B m d], .int .i64 1, .agg #[.int .i64 x, .int .i64 y, .int .i64 z]] w fun e w' => e = .returned (.agg #[.int .i64 (x : Nat), .int .i64 (ap f y z : Nat), .int .i64 (ap s y z : Nat)]) ∧ Below w.heap.size w w'
  obtain ⟨u, hu⟩ : ∃ u, ap f y z = u := ⟨_, rfl⟩
  obtain ⟨v, hv⟩ : ∃ v, ap s y z = v := ⟨_, rfl⟩
  rw [hu, hv]
  have HU := hide hu
  have HV := hide hv
  clear hz hp hu hv
  have hwp1 : IntKind.i64.wrap 1 = 1 := IntWalk.i64_in _ (by omega)
  have hwp2 : IntKind.i64.wrap 2 = 2 := IntWalk.i64_in _ (by omega)
  go_enter Try.func93, Try.ntmps93
  go_wp2_with fail
  refine wp_gen fun w1 hw1 => ?_
  have hb1 : Below w.heap.size w w1 := by rw [hw1]; exact (((Below.refl _ _).alloc (Nat.le_refl _) _).alloc (by simp) _).alloc (by simp; omega) _
  have HS : Hid (Blk w1 w.heap.size 27 [.slice A n c, .slice B m d]) := hide (by rw [hw1]; exact ((Blk.new _ _ _).alloc _).alloc _)
  have HL : Hid (Blk w1 (w.heap.size + 1) 61 [.int .i64 x, .int .i64 y, .int .i64 z]) := hide (by rw [hw1]; have h := (Blk.new (w.alloc (Obj.cells #[Value.slice A n c, Value.slice B m d] 27)) 61 [.int .i64 x, .int .i64 y, .int .i64 z]).alloc (Obj.cells #[Value.int IntKind.i64 0, Value.int IntKind.i64 0, Value.int IntKind.i64 0] 61); simpa using h)
  have HO : Hid (Blk w1 (w.heap.size + 1 + 1) 61 [.int .i64 0, .int .i64 0, .int .i64 0]) := hide (by rw [hw1]; have h := Blk.new ((w.alloc (Obj.cells #[Value.slice A n c, Value.slice B m d] 27)).alloc (Obj.cells #[Value.int IntKind.i64 x, Value.int IntKind.i64 y, Value.int IntKind.i64 z] 61)) 61 [.int .i64 0, .int .i64 0, .int .i64 0]; simpa using h)
  have HBc := hide hb1
  replace HZ := hide (HZ.out.later hb1)
  have Z1 : Hid (w1.heap.size = w.heap.size + 1 + 1 + 1) := hide (by rw [hw1]; simp)
  have j1 : w1.heap.size ≠ w.heap.size := by have := Z1.out; omega
  have j2 : w1.heap.size ≠ w.heap.size + 1 := by have := Z1.out; omega
  have j3 := j1.symm
  have j4 := j2.symm
  have hz1 : w.heap.size + 1 < w1.heap.size := by have := Z1.out; omega
  clear hw1 hb1
  have k0 := HS.out.cell 0 _ rfl
  have k1 := HS.out.cell 1 _ rfl
  have k2 := HL.out.cell 0 _ rfl
  have k3 := HL.out.cell 1 _ rfl
  have k4 := HL.out.cell 2 _ rfl
  go_region_held3 (fun w' => w'.cell? ⟨w.heap.size, 0, none⟩ = some (.slice A n c) ∧ w'.cell? ⟨w.heap.size, 1, none⟩ = some (.slice B m d) ∧ w'.cell? ⟨w.heap.size + 1, 0, none⟩ = some (.int .i64 x) ∧ w'.cell? ⟨w.heap.size + 1, 1, none⟩ = some (.int .i64 y) ∧ w'.cell? ⟨w.heap.size + 1, 2, none⟩ = some (.int .i64 z)) (first | exact ⟨k0, k1, k2, k3, k4⟩ | go_keep) (first | (go_at_call 94; go_must (refine calls_gen fun wc hwc => ?_; (first | (have hbx := al_drew_below hwc; have HPB : Hid (Blk wc w1.heap.size 65 [.int .i64 0, .int .i64 0]) := hide (by rw [hwc]; exact Blk.new _ _ _)) | (have hbx := al_below hwc; have HPB : Hid (Blk wc w1.heap.size 65 [.int .i64 0, .int .i64 0]) := hide (by rw [hwc]; exact Blk.new _ _ _)) | (have hbx := drew_below hwc; have HPB : Hid True := hide trivial) | (have hbx := eq_below hwc; have HPB : Hid True := hide trivial)); have hbx0 := hide hbx.size; replace HBc := hide (HBc.out.trans (hbx.mono HBc.out.size)); replace HZ := hide (HZ.out.later hbx); replace HS := hide (HS.out.later hbx); replace HL := hide (HL.out.later hbx); replace HO := hide (HO.out.later hbx); clear hwc hbx; refine (lead_any _ _ _ f _ _ _ s y z _ HZ.out HP.out hy hz').mono ?_; rintro e wd ⟨rfl, hbd⟩; replace HBc := hide (HBc.out.trans (hbd.mono HBc.out.size)); replace HZ := hide (HZ.out.later hbd); replace HS := hide (HS.out.later hbd); replace HL := hide (HL.out.later hbd); replace HO := hide (HO.out.later hbd); (first | (replace HPB := hide (HPB.out.later hbd); have k5 := HPB.out.cell 0 _ rfl; have k6 := HPB.out.cell 1 _ rfl; have k7 := HPB.out.frozen 0; have k8 := HPB.out.frozen 1) | skip); have hsd := hbd.size; have hsx := hbx0.out; have g1 : wd.heap.size ≠ w.heap.size := (by omega); have g2 : wd.heap.size ≠ w.heap.size + 1 := (by omega); have g3 := g1.symm; have g4 := g2.symm; clear hsd hsx; clear hbd; have k0 := HS.out.cell 0 _ rfl; have k1 := HS.out.cell 1 _ rfl; have k2 := HL.out.cell 0 _ rfl; have k3 := HL.out.cell 1 _ rfl; have k4 := HL.out.cell 2 _ rfl; rw [HU.out, HV.out])))

  · clear k0 k1 k2 k3 k4
    refine ex_gen (Q := Exit.then _ _) fun w2 hw2 => ?_
    have hb2 : Below wd.heap.size wd w2 := by rw [hw2]; exact (Below.refl _ _).alloc (Nat.le_refl _) _
    have hsz := Z1.out
    have hsw : w.heap.size + 1 + 1 < wd.heap.size := by have := HO.out.lt; omega
    have HL2 : Hid (Blk w2 (w.heap.size + 1) 61 [.int .i64 x, .int .i64 y, .int .i64 z]) := hide (HL.out.later hb2)
    have HO2 : Hid (Blk w2 (w.heap.size + 1 + 1) 61 [.int .i64 0, .int .i64 0, .int .i64 0]) := hide (HO.out.later hb2)
    have HP2 : Hid (Blk w2 (wd.heap.size) 65 [.int .i64 u, .int .i64 v]) := hide (by rw [hw2]; exact Blk.new _ _ _)
    have HB2 : Hid (Below w.heap.size w w2) := hide (by rw [hw2]; exact HBc.out.alloc HBc.out.size _)
    clear hw2
    obtain ⟨P, hPe⟩ : ∃ P, wd.heap.size = P := ⟨_, rfl⟩
    rw [hPe] at HP2 hsw ⊢
    have l0 := HL2.out.cell 0 _ rfl
    have l1 := HL2.out.cell 1 _ rfl
    have l2 := HL2.out.cell 2 _ rfl
    have l3 := HL2.out.frozen 0
    have l4 := HL2.out.frozen 1
    have l5 := HL2.out.frozen 2
    have p0 := HP2.out.cell 0 _ rfl
    have p1 := HP2.out.cell 1 _ rfl
    have o0 := HO2.out.cell 0 _ rfl
    have o1 := HO2.out.cell 1 _ rfl
    have o2 := HO2.out.cell 2 _ rfl
    have o3 := HO2.out.frozen 0
    have o4 := HO2.out.frozen 1
    have o5 := HO2.out.frozen 2
    have n1 : P ≠ w.heap.size + 1 := by omega
    have n2 : P ≠ w.heap.size + 1 + 1 := by omega
    have n3 := n1.symm
    have n4 := n2.symm
    go_wp2_with fail
    obtain ⟨y', hy'⟩ := cell?_setCell_some (w := w2.drew) (p := ⟨w.heap.size + 1, 1, none⟩) (x := Value.int IntKind.i64 u) (q := ⟨w.heap.size + 1, 2, none⟩) (v := Value.int IntKind.i64 z) (by go_simp)
    go_region
    go_wp2_with fail
    refine bp_gen fun wf hwf => ?_
    have hfar : w.heap.size + 1 + 1 ≠ w.heap.size + 1 := by omega
    have hlo1 : w.heap.size ≤ w.heap.size + 1 := by omega
    have hlo2 : w.heap.size ≤ w.heap.size + 1 + 1 := by omega
    have HRF : Blk wf (w.heap.size + 1 + 1) 61 [.int .i64 x, .int .i64 u, .int .i64 v] := by rw [hwf]; first | exact ((((((HO2.out.far (p := ⟨w.heap.size + 1, 1, none⟩) hfar _).far (p := ⟨w.heap.size + 1, 2, none⟩) hfar _).set 0 _).set 1 _).set 2 _).drew) | exact (((((HO2.out.far (p := ⟨w.heap.size + 1, 1, none⟩) hfar _).far (p := ⟨w.heap.size + 1, 2, none⟩) hfar _).set 0 _).set 1 _).set 2 _)
    have HBF : Below w.heap.size w wf := by rw [hwf]; first | exact ((((((HB2.out.setCell (p := ⟨w.heap.size + 1, 1, none⟩) hlo1 _).setCell (p := ⟨w.heap.size + 1, 2, none⟩) hlo1 _).setCell (p := ⟨w.heap.size + 1 + 1, 0, none⟩) hlo2 _).setCell (p := ⟨w.heap.size + 1 + 1, 1, none⟩) hlo2 _).setCell (p := ⟨w.heap.size + 1 + 1, 2, none⟩) hlo2 _).drew) | exact (((((HB2.out.setCell (p := ⟨w.heap.size + 1, 1, none⟩) hlo1 _).setCell (p := ⟨w.heap.size + 1, 2, none⟩) hlo1 _).setCell (p := ⟨w.heap.size + 1 + 1, 0, none⟩) hlo2 _).setCell (p := ⟨w.heap.size + 1 + 1, 1, none⟩) hlo2 _).setCell (p := ⟨w.heap.size + 1 + 1, 2, none⟩) hlo2 _)
    clear hwf l0 l1 l2 l3 l4 l5 p0 p1 o0 o1 o2 o3 o4 o5 hy'
    have q0 := HRF.cell 0 _ rfl
    have q1 := HRF.cell 1 _ rfl
    have q2 := HRF.cell 2 _ rfl
    exact bodyPost_ret (v := .agg #[.int .i64 x, .int .i64 u, .int .i64 v]) (by simp [results, Try.results93, go_sem, q0, q1, q2]) rfl ⟨rfl, HBF⟩

  · clear k0 k1 k2 k3 k4
    refine ex_gen (Q := Exit.then _ _) fun w2 hw2 => ?_
    skip
    have hsz := Z1.out
    have hsw : w.heap.size + 1 + 1 < w1.heap.size := by have := HO.out.lt; omega
    have HL2 : Hid (Blk w2 (w.heap.size + 1) 61 [.int .i64 x, .int .i64 y, .int .i64 z]) := hide (by rw [hw2]; exact ((HL.out).far (p := ⟨w1.heap.size, 0, none⟩) (by show _ ≠ w1.heap.size; omega) _).far (p := ⟨w1.heap.size, 1, none⟩) (by show _ ≠ w1.heap.size; omega) _)
    have HO2 : Hid (Blk w2 (w.heap.size + 1 + 1) 61 [.int .i64 0, .int .i64 0, .int .i64 0]) := hide (by rw [hw2]; exact ((HO.out).far (p := ⟨w1.heap.size, 0, none⟩) (by show _ ≠ w1.heap.size; omega) _).far (p := ⟨w1.heap.size, 1, none⟩) (by show _ ≠ w1.heap.size; omega) _)
    have HP2 : Hid (Blk w2 (w1.heap.size) 65 [.int .i64 u, .int .i64 v]) := hide (by rw [hw2]; exact (HPB.out.set 0 _).set 1 _)
    have HB2 : Hid (Below w.heap.size w w2) := hide (by rw [hw2]; exact (HBc.out.setCell (p := ⟨w1.heap.size, 0, none⟩) (by show w.heap.size ≤ w1.heap.size; omega) _).setCell (p := ⟨w1.heap.size, 1, none⟩) (by show w.heap.size ≤ w1.heap.size; omega) _)
    clear hw2
    obtain ⟨P, hPe⟩ : ∃ P, w1.heap.size = P := ⟨_, rfl⟩
    rw [hPe] at HP2 hsw ⊢
    have l0 := HL2.out.cell 0 _ rfl
    have l1 := HL2.out.cell 1 _ rfl
    have l2 := HL2.out.cell 2 _ rfl
    have l3 := HL2.out.frozen 0
    have l4 := HL2.out.frozen 1
    have l5 := HL2.out.frozen 2
    have p0 := HP2.out.cell 0 _ rfl
    have p1 := HP2.out.cell 1 _ rfl
    have o0 := HO2.out.cell 0 _ rfl
    have o1 := HO2.out.cell 1 _ rfl
    have o2 := HO2.out.cell 2 _ rfl
    have o3 := HO2.out.frozen 0
    have o4 := HO2.out.frozen 1
    have o5 := HO2.out.frozen 2
    have n1 : P ≠ w.heap.size + 1 := by omega
    have n2 : P ≠ w.heap.size + 1 + 1 := by omega
    have n3 := n1.symm
    have n4 := n2.symm
    go_wp2_with fail
    obtain ⟨y', hy'⟩ := cell?_setCell_some (w := w2.drew) (p := ⟨w.heap.size + 1, 1, none⟩) (x := Value.int IntKind.i64 u) (q := ⟨w.heap.size + 1, 2, none⟩) (v := Value.int IntKind.i64 z) (by go_simp)
    go_region
    go_wp2_with fail
    refine bp_gen fun wf hwf => ?_
    have hfar : w.heap.size + 1 + 1 ≠ w.heap.size + 1 := by omega
    have hlo1 : w.heap.size ≤ w.heap.size + 1 := by omega
    have hlo2 : w.heap.size ≤ w.heap.size + 1 + 1 := by omega
    have HRF : Blk wf (w.heap.size + 1 + 1) 61 [.int .i64 x, .int .i64 u, .int .i64 v] := by rw [hwf]; first | exact ((((((HO2.out.far (p := ⟨w.heap.size + 1, 1, none⟩) hfar _).far (p := ⟨w.heap.size + 1, 2, none⟩) hfar _).set 0 _).set 1 _).set 2 _).drew) | exact (((((HO2.out.far (p := ⟨w.heap.size + 1, 1, none⟩) hfar _).far (p := ⟨w.heap.size + 1, 2, none⟩) hfar _).set 0 _).set 1 _).set 2 _)
    have HBF : Below w.heap.size w wf := by rw [hwf]; first | exact ((((((HB2.out.setCell (p := ⟨w.heap.size + 1, 1, none⟩) hlo1 _).setCell (p := ⟨w.heap.size + 1, 2, none⟩) hlo1 _).setCell (p := ⟨w.heap.size + 1 + 1, 0, none⟩) hlo2 _).setCell (p := ⟨w.heap.size + 1 + 1, 1, none⟩) hlo2 _).setCell (p := ⟨w.heap.size + 1 + 1, 2, none⟩) hlo2 _).drew) | exact (((((HB2.out.setCell (p := ⟨w.heap.size + 1, 1, none⟩) hlo1 _).setCell (p := ⟨w.heap.size + 1, 2, none⟩) hlo1 _).setCell (p := ⟨w.heap.size + 1 + 1, 0, none⟩) hlo2 _).setCell (p := ⟨w.heap.size + 1 + 1, 1, none⟩) hlo2 _).setCell (p := ⟨w.heap.size + 1 + 1, 2, none⟩) hlo2 _)
    clear hwf l0 l1 l2 l3 l4 l5 p0 p1 o0 o1 o2 o3 o4 o5 hy'
    have q0 := HRF.cell 0 _ rfl
    have q1 := HRF.cell 1 _ rfl
    have q2 := HRF.cell 2 _ rfl
    exact bodyPost_ret (v := .agg #[.int .i64 x, .int .i64 u, .int .i64 v]) (by simp [results, Try.results93, go_sem, q0, q1, q2]) rfl ⟨rfl, HBF⟩
end Go.Proofs.Ythknnpkalhachaa
