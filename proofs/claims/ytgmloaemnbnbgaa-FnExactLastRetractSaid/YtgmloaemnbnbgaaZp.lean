import Derived.Test.YtgmloaemnbnbgaaZn
import Derived.Test.YtgmloaemnbnbgaaZl
import Derived.Test.YtgmloaemnbnbgaaZj
import Derived.Test.YtgmloaemnbnbgaaZh
import Derived.Test.YtgmloaemnbnbgaaProg
import Derived.Test.YtgmloaemnbnbgaaZb
namespace Go.Proofs.Ytgmloaemnbnbgaa
open Go Go.RowKit
open Classical
/-- A nondegenerate solution. -/
def NdS (f s : List (List Int)) : Prop := SolF f s ∧ NonF f s
theorem NdS.map {f s : List (List Int)} (h : NdS f s) : PMap f s := h.1.1
theorem NdS.sizes {f s : List (List Int)} {n : Nat} (h : NdS f s) (hn : f.length = n) : 1 ≤ n ∧ n ≤ 12 ∧ s.length = n := by
  have h1 := h.map.1.1
  have h2 := h.map.1.2.1
  have h3 := h.map.2.2
  exact ⟨by omega, by omega, by omega⟩
theorem NdS.lam {f s : List (List Int)} {n : Nat} (h : NdS f s) (hn : f.length = n) : Gens f n := fun i hi => ⟨by rw [h.map.1.rows i hi, hn], h.2.1 i hi⟩
theorem turn_len {s : List (List Int)} {n : Nat} (hn : s.length = n) (i : Nat) (hi : i < (turnL s).length) : ((turnL s).getD i []).length = n := by
  rw [turnL_length] at hi
  unfold turnL
  rw [grid_row_length _ _ _ hi, hn]
theorem NdS.rho {f s : List (List Int)} {n : Nat} (h : NdS f s) (hn : f.length = n) : Gens (turnL s) n := fun i hi => ⟨turn_len (h.sizes hn).2.2 i hi, h.2.2 i hi⟩
/-- All lambda and all rho. -/
def bothL (f s : List (List Int)) : List (List Int) := f ++ turnL s
theorem bothL_length {f s : List (List Int)} {n m : Nat} (hn : f.length = n) (hm : s.length = m) : (bothL f s).length = n + m := by
  unfold bothL
  rw [List.length_append, turnL_length, hn, hm]
theorem bothL_fst {f s : List (List Int)} {n : Nat} (hn : f.length = n) (i : Nat) (hi : i < n) : (bothL f s).getD i [] = f.getD i [] := by
  have : i < f.length := by omega
  simp [bothL, List.getElem?_append, this]
theorem bothL_snd {f s : List (List Int)} {n : Nat} (hn : f.length = n) (i : Nat) : (bothL f s).getD (n + i) [] = (turnL s).getD i [] := by
  have h : ¬ n + i < f.length := by omega
  have e : n + i - f.length = i := by omega
  simp [bothL, List.getElem?_append, h, e]
theorem NdS.both {f s : List (List Int)} {n : Nat} (h : NdS f s) (hn : f.length = n) : Gens (bothL f s) n := by
  intro r hr
  have hsn := (h.sizes hn).2.2
  rw [bothL_length hn hsn] at hr
  by_cases hlt : r < n
  · rw [bothL_fst hn r hlt]
    exact h.lam hn r (by omega)
  · obtain ⟨i, rfl⟩ : ∃ i, r = n + i := ⟨r - n, by omega⟩
    rw [bothL_snd hn]
    exact h.rho hn i (by rw [turnL_length]; omega)
/-- A list of rows that is told of what is good. -/
def TRes7 (good : Prop) (rows : List (List Int)) (zs : List (List Int)) (code : Int) : Prop := (good ∧ zs = rows ∧ code = 0) ∨ (¬ good ∧ zs = [] ∧ code = 1)
def LamRes (f s : List (List Int)) : List (List Int) → Int → Prop := TRes7 (NdS f s) f
def RhoRes (f s : List (List Int)) : List (List Int) → Int → Prop := TRes7 (NdS f s) (turnL s)
theorem LamRes.ex (f s : List (List Int)) : ∃ zs code, LamRes f s zs code ∧ zs.length ≤ 1048576 ∧ ∀ i, i < zs.length → (zs.getD i []).length ≤ 1048576 := by
  by_cases h : NdS f s
  · have h1 := h.sizes rfl
    exact ⟨_, _, .inl ⟨h, rfl, rfl⟩, by omega, fun i hi => by rw [(h.lam rfl i hi).1]; omega⟩
  · exact ⟨_, _, .inr ⟨h, rfl, rfl⟩, by simp, by simp⟩
theorem RhoRes.ex (f s : List (List Int)) : ∃ zs code, RhoRes f s zs code ∧ zs.length ≤ 1048576 ∧ ∀ i, i < zs.length → (zs.getD i []).length ≤ 1048576 := by
  by_cases h : NdS f s
  · have h1 := h.sizes rfl
    exact ⟨_, _, .inl ⟨h, rfl, rfl⟩, by rw [turnL_length]; omega, fun i hi => by rw [(h.rho rfl i hi).1]; omega⟩
  · exact ⟨_, _, .inr ⟨h, rfl, rfl⟩, by simp, by simp⟩
/-- A list of numbers that is told of what is good. -/
def RRes7 (good : Prop) (row : List Int) (zs : List Int) (code : Int) : Prop := (good ∧ zs = row ∧ code = 0) ∨ (¬ good ∧ zs = [] ∧ code = 1)
theorem RRes7.ex (good : Prop) (row : List Int) (h : good → row.length ≤ 1048576) : ∃ zs code, RRes7 good row zs code ∧ zs.length ≤ 1048576 := by
  by_cases hg : good
  · exact ⟨_, _, .inl ⟨hg, rfl, rfl⟩, h hg⟩
  · exact ⟨_, _, .inr ⟨hg, rfl, rfl⟩, by simp⟩
/-- The numbers of the orbits. -/
noncomputable def orbS (f s : List (List Int)) : List Int := labL (bothL f s) f.length f.length
noncomputable def orbN (f s : List (List Int)) : Nat := (lab (bothL f s) f.length).2
def OsRes7 (f s : List (List Int)) : List Int → Int → Prop := RRes7 (NdS f s) (orbS f s)
theorem OsRes7.ex (f s : List (List Int)) : ∃ zs code, OsRes7 f s zs code ∧ zs.length ≤ 1048576 := RRes7.ex _ _ (fun h => by unfold orbS; rw [labL_length]; have := h.sizes rfl; omega)
def IndRes (f s : List (List Int)) : Bool → Int → Prop := BRes (NdS f s) (orbN f s = 1)
theorem IndRes.ex (f s : List (List Int)) : ∃ r code, IndRes f s r code := BRes.ex _ _
/-- The order of a group of permutations of a solution. -/
def OrdR7 (good : Prop) (n : Nat) (rows : List (List Int)) (v code : Int) : Prop := (good ∧ OrdR n rows 1000 3 v code) ∨ (¬ good ∧ v = 0 ∧ code = 1)
theorem OrdR7.ex (good : Prop) (n : Nat) (rows : List (List Int)) : ∃ v code, OrdR7 good n rows v code := by
  by_cases h : good
  · obtain ⟨v, code, h2⟩ := OrdR.ex n rows 1000 3
    exact ⟨v, code, .inl ⟨h, h2⟩⟩
  · exact ⟨0, 1, .inr ⟨h, rfl, rfl⟩⟩
def LgoRes (f s : List (List Int)) : Int → Int → Prop := OrdR7 (NdS f s) f.length f
def RgoRes (f s : List (List Int)) : Int → Int → Prop := OrdR7 (NdS f s) f.length (turnL s)
def WgoRes (f s : List (List Int)) : Int → Int → Prop := OrdR7 (NdS f s) f.length (bothL f s)
theorem LgoRes.ex (f s : List (List Int)) : ∃ v code, LgoRes f s v code := OrdR7.ex _ _ _
theorem RgoRes.ex (f s : List (List Int)) : ∃ v code, RgoRes f s v code := OrdR7.ex _ _ _
theorem WgoRes.ex (f s : List (List Int)) : ∃ v code, WgoRes f s v code := OrdR7.ex _ _ _
/-- Any two lambda commute. -/
def ComF (f : List (List Int)) : Prop := ∀ i, i < f.length → ∀ j, j < i → thenL (f.getD i []) (f.getD j []) = thenL (f.getD j []) (f.getD i [])
def AbRes (f s : List (List Int)) : Bool → Int → Prop := BRes (NdS f s) (ComF f)
theorem AbRes.ex (f s : List (List Int)) : ∃ r code, AbRes f s r code := BRes.ex _ _
end Go.Proofs.Ytgmloaemnbnbgaa
namespace Go.Proofs.Ytgmloaemnbnbgaa
open Go Go.RowKit
set_option maxHeartbeats 1000000

/-- Three elements as a value. -/
def tv (t : Nat × Nat × Nat) : Value := .agg #[.int .i64 t.1, .int .i64 t.2.1, .int .i64 t.2.2]

set_option maxRecDepth 100000 in
theorem leadAt0_any (A : Option Addr) (n c : Nat) (f : List (List Int)) (B : Option Addr) (m d : Nat) (s : List (List Int)) (x y z : Nat) (w : World) (hz : ZArg 1048576 w A n f B m s) (hp : PMap f s) (hx : x < n) (hy : y < n) (_hz' : z < n) :
    Calls Try.prog 132 #[.agg #[.slice A n c, .slice B m d], .int .i64 0, tv (x, y, z)] w fun e w' => e = .returned (tv (at0 f s (x, y, z))) ∧ Below w.heap.size w w' := by
  have HZ := hide hz
  have HP := hide hp
  have h12 := hz.sz.nb
  unfold at0 tv
  show Calls Try.prog 132 #[.agg #[.slice A n c, .slice B m d], .int .i64 0, .agg #[.int .i64 x, .int .i64 y, .int .i64 z]] w fun e w' => e = .returned (.agg #[.int .i64 (ap f x y : Nat), .int .i64 (ap s x y : Nat), .int .i64 (z : Nat)]) ∧ Below w.heap.size w w'
  obtain ⟨u, hu⟩ : ∃ u, ap f x y = u := ⟨_, rfl⟩
  obtain ⟨v, hv⟩ : ∃ v, ap s x y = v := ⟨_, rfl⟩
  rw [hu, hv]
  have HU := hide hu
  have HV := hide hv
  clear hz hp hu hv
  have hwp1 : IntKind.i64.wrap 1 = 1 := IntWalk.i64_in _ (by omega)
  have hwp2 : IntKind.i64.wrap 2 = 2 := IntWalk.i64_in _ (by omega)
  go_enter Try.func132, Try.ntmps132
  go_wp2_with fail
  refine wp_gen fun w1 hw1 => ?_
  have hb1 : Below w.heap.size w w1 := by rw [hw1]; exact (((Below.refl _ _).alloc (Nat.le_refl _) _).alloc (by simp) _).alloc (by simp; omega) _
  have HS : Hid (Blk w1 w.heap.size 29 [.slice A n c, .slice B m d]) := hide (by rw [hw1]; exact ((Blk.new _ _ _).alloc _).alloc _)
  have HL : Hid (Blk w1 (w.heap.size + 1) 105 [.int .i64 x, .int .i64 y, .int .i64 z]) := hide (by rw [hw1]; have h := (Blk.new (w.alloc (Obj.cells #[Value.slice A n c, Value.slice B m d] 29)) 105 [.int .i64 x, .int .i64 y, .int .i64 z]).alloc (Obj.cells #[Value.int IntKind.i64 0, Value.int IntKind.i64 0, Value.int IntKind.i64 0] 105); simpa using h)
  have HO : Hid (Blk w1 (w.heap.size + 1 + 1) 105 [.int .i64 0, .int .i64 0, .int .i64 0]) := hide (by rw [hw1]; have h := Blk.new ((w.alloc (Obj.cells #[Value.slice A n c, Value.slice B m d] 29)).alloc (Obj.cells #[Value.int IntKind.i64 x, Value.int IntKind.i64 y, Value.int IntKind.i64 z] 105)) 105 [.int .i64 0, .int .i64 0, .int .i64 0]; simpa using h)
  have HBc := hide hb1
  replace HZ := hide (HZ.out.later hb1)
  have Z1 : Hid (w1.heap.size = w.heap.size + 1 + 1 + 1) := hide (by rw [hw1]; simp)
  have j1 : w1.heap.size ≠ w.heap.size := by have := Z1.out; omega
  have j2 : w1.heap.size ≠ w.heap.size + 1 := by have := Z1.out; omega
  have j3 := j1.symm
  have j4 := j2.symm
  have hz1 : w.heap.size + 1 < w1.heap.size := by have := Z1.out; omega
  clear hw1 hb1
  have k0 := HS.out.cell 0 _ rfl
  have k1 := HS.out.cell 1 _ rfl
  have k2 := HL.out.cell 0 _ rfl
  have k3 := HL.out.cell 1 _ rfl
  have k4 := HL.out.cell 2 _ rfl
  go_region_held3 (fun w' => w'.cell? ⟨w.heap.size, 0, none⟩ = some (.slice A n c) ∧ w'.cell? ⟨w.heap.size, 1, none⟩ = some (.slice B m d) ∧ w'.cell? ⟨w.heap.size + 1, 0, none⟩ = some (.int .i64 x) ∧ w'.cell? ⟨w.heap.size + 1, 1, none⟩ = some (.int .i64 y) ∧ w'.cell? ⟨w.heap.size + 1, 2, none⟩ = some (.int .i64 z)) (first | exact ⟨k0, k1, k2, k3, k4⟩ | go_keep) (first | (go_at_call 61; go_must (refine calls_gen fun wc hwc => ?_; (first | (have hbx := al_drew_below hwc; have HPB : Hid (Blk wc w1.heap.size 89 [.int .i64 0, .int .i64 0]) := hide (by rw [hwc]; exact Blk.new _ _ _)) | (have hbx := al_below hwc; have HPB : Hid (Blk wc w1.heap.size 89 [.int .i64 0, .int .i64 0]) := hide (by rw [hwc]; exact Blk.new _ _ _)) | (have hbx := drew_below hwc; have HPB : Hid True := hide trivial) | (have hbx := eq_below hwc; have HPB : Hid True := hide trivial)); have hbx0 := hide hbx.size; replace HBc := hide (HBc.out.trans (hbx.mono HBc.out.size)); replace HZ := hide (HZ.out.later hbx); replace HS := hide (HS.out.later hbx); replace HL := hide (HL.out.later hbx); replace HO := hide (HO.out.later hbx); clear hwc hbx; refine (lead_any _ _ _ f _ _ _ s x y _ HZ.out HP.out hx hy).mono ?_; rintro e wd ⟨rfl, hbd⟩; replace HBc := hide (HBc.out.trans (hbd.mono HBc.out.size)); replace HZ := hide (HZ.out.later hbd); replace HS := hide (HS.out.later hbd); replace HL := hide (HL.out.later hbd); replace HO := hide (HO.out.later hbd); (first | (replace HPB := hide (HPB.out.later hbd); have k5 := HPB.out.cell 0 _ rfl; have k6 := HPB.out.cell 1 _ rfl; have k7 := HPB.out.frozen 0; have k8 := HPB.out.frozen 1) | skip); have hsd := hbd.size; have hsx := hbx0.out; have g1 : wd.heap.size ≠ w.heap.size := (by omega); have g2 : wd.heap.size ≠ w.heap.size + 1 := (by omega); have g3 := g1.symm; have g4 := g2.symm; clear hsd hsx; clear hbd; have k0 := HS.out.cell 0 _ rfl; have k1 := HS.out.cell 1 _ rfl; have k2 := HL.out.cell 0 _ rfl; have k3 := HL.out.cell 1 _ rfl; have k4 := HL.out.cell 2 _ rfl; rw [HU.out, HV.out])))

  · clear k0 k1 k2 k3 k4
    refine ex_gen (Q := Exit.then _ _) fun w2 hw2 => ?_
    have hb2 : Below wd.heap.size wd w2 := by rw [hw2]; exact (Below.refl _ _).alloc (Nat.le_refl _) _
    have hsz := Z1.out
    have hsw : w.heap.size + 1 + 1 < wd.heap.size := by have := HO.out.lt; omega
    have HL2 : Hid (Blk w2 (w.heap.size + 1) 105 [.int .i64 x, .int .i64 y, .int .i64 z]) := hide (HL.out.later hb2)
    have HO2 : Hid (Blk w2 (w.heap.size + 1 + 1) 105 [.int .i64 0, .int .i64 0, .int .i64 0]) := hide (HO.out.later hb2)
    have HP2 : Hid (Blk w2 (wd.heap.size) 89 [.int .i64 u, .int .i64 v]) := hide (by rw [hw2]; exact Blk.new _ _ _)
    have HB2 : Hid (Below w.heap.size w w2) := hide (by rw [hw2]; exact HBc.out.alloc HBc.out.size _)
    clear hw2
    obtain ⟨P, hPe⟩ : ∃ P, wd.heap.size = P := ⟨_, rfl⟩
    rw [hPe] at HP2 hsw ⊢
    have l0 := HL2.out.cell 0 _ rfl
    have l1 := HL2.out.cell 1 _ rfl
    have l2 := HL2.out.cell 2 _ rfl
    have l3 := HL2.out.frozen 0
    have l4 := HL2.out.frozen 1
    have l5 := HL2.out.frozen 2
    have p0 := HP2.out.cell 0 _ rfl
    have p1 := HP2.out.cell 1 _ rfl
    have o0 := HO2.out.cell 0 _ rfl
    have o1 := HO2.out.cell 1 _ rfl
    have o2 := HO2.out.cell 2 _ rfl
    have o3 := HO2.out.frozen 0
    have o4 := HO2.out.frozen 1
    have o5 := HO2.out.frozen 2
    have n1 : P ≠ w.heap.size + 1 := by omega
    have n2 : P ≠ w.heap.size + 1 + 1 := by omega
    have n3 := n1.symm
    have n4 := n2.symm
    go_wp2_with fail
    obtain ⟨y', hy'⟩ := cell?_setCell_some (w := w2.drew) (p := ⟨w.heap.size + 1, 0, none⟩) (x := Value.int IntKind.i64 u) (q := ⟨w.heap.size + 1, 1, none⟩) (v := Value.int IntKind.i64 y) (by go_simp)
    go_region
    go_wp2_with fail
    refine bp_gen fun wf hwf => ?_
    have hfar : w.heap.size + 1 + 1 ≠ w.heap.size + 1 := by omega
    have hlo1 : w.heap.size ≤ w.heap.size + 1 := by omega
    have hlo2 : w.heap.size ≤ w.heap.size + 1 + 1 := by omega
    have HRF : Blk wf (w.heap.size + 1 + 1) 105 [.int .i64 u, .int .i64 v, .int .i64 z] := by rw [hwf]; first | exact ((((((HO2.out.far (p := ⟨w.heap.size + 1, 0, none⟩) hfar _).far (p := ⟨w.heap.size + 1, 1, none⟩) hfar _).set 0 _).set 1 _).set 2 _).drew) | exact (((((HO2.out.far (p := ⟨w.heap.size + 1, 0, none⟩) hfar _).far (p := ⟨w.heap.size + 1, 1, none⟩) hfar _).set 0 _).set 1 _).set 2 _)
    have HBF : Below w.heap.size w wf := by rw [hwf]; first | exact ((((((HB2.out.setCell (p := ⟨w.heap.size + 1, 0, none⟩) hlo1 _).setCell (p := ⟨w.heap.size + 1, 1, none⟩) hlo1 _).setCell (p := ⟨w.heap.size + 1 + 1, 0, none⟩) hlo2 _).setCell (p := ⟨w.heap.size + 1 + 1, 1, none⟩) hlo2 _).setCell (p := ⟨w.heap.size + 1 + 1, 2, none⟩) hlo2 _).drew) | exact (((((HB2.out.setCell (p := ⟨w.heap.size + 1, 0, none⟩) hlo1 _).setCell (p := ⟨w.heap.size + 1, 1, none⟩) hlo1 _).setCell (p := ⟨w.heap.size + 1 + 1, 0, none⟩) hlo2 _).setCell (p := ⟨w.heap.size + 1 + 1, 1, none⟩) hlo2 _).setCell (p := ⟨w.heap.size + 1 + 1, 2, none⟩) hlo2 _)
    clear hwf l0 l1 l2 l3 l4 l5 p0 p1 o0 o1 o2 o3 o4 o5 hy'
    have q0 := HRF.cell 0 _ rfl
    have q1 := HRF.cell 1 _ rfl
    have q2 := HRF.cell 2 _ rfl
    exact bodyPost_ret (v := .agg #[.int .i64 u, .int .i64 v, .int .i64 z]) (by simp [results, Try.results132, go_sem, q0, q1, q2]) rfl ⟨rfl, HBF⟩

  · clear k0 k1 k2 k3 k4
    refine ex_gen (Q := Exit.then _ _) fun w2 hw2 => ?_
    skip
    have hsz := Z1.out
    have hsw : w.heap.size + 1 + 1 < w1.heap.size := by have := HO.out.lt; omega
    have HL2 : Hid (Blk w2 (w.heap.size + 1) 105 [.int .i64 x, .int .i64 y, .int .i64 z]) := hide (by rw [hw2]; exact ((HL.out).far (p := ⟨w1.heap.size, 0, none⟩) (by show _ ≠ w1.heap.size; omega) _).far (p := ⟨w1.heap.size, 1, none⟩) (by show _ ≠ w1.heap.size; omega) _)
    have HO2 : Hid (Blk w2 (w.heap.size + 1 + 1) 105 [.int .i64 0, .int .i64 0, .int .i64 0]) := hide (by rw [hw2]; exact ((HO.out).far (p := ⟨w1.heap.size, 0, none⟩) (by show _ ≠ w1.heap.size; omega) _).far (p := ⟨w1.heap.size, 1, none⟩) (by show _ ≠ w1.heap.size; omega) _)
    have HP2 : Hid (Blk w2 (w1.heap.size) 89 [.int .i64 u, .int .i64 v]) := hide (by rw [hw2]; exact (HPB.out.set 0 _).set 1 _)
    have HB2 : Hid (Below w.heap.size w w2) := hide (by rw [hw2]; exact (HBc.out.setCell (p := ⟨w1.heap.size, 0, none⟩) (by show w.heap.size ≤ w1.heap.size; omega) _).setCell (p := ⟨w1.heap.size, 1, none⟩) (by show w.heap.size ≤ w1.heap.size; omega) _)
    clear hw2
    obtain ⟨P, hPe⟩ : ∃ P, w1.heap.size = P := ⟨_, rfl⟩
    rw [hPe] at HP2 hsw ⊢
    have l0 := HL2.out.cell 0 _ rfl
    have l1 := HL2.out.cell 1 _ rfl
    have l2 := HL2.out.cell 2 _ rfl
    have l3 := HL2.out.frozen 0
    have l4 := HL2.out.frozen 1
    have l5 := HL2.out.frozen 2
    have p0 := HP2.out.cell 0 _ rfl
    have p1 := HP2.out.cell 1 _ rfl
    have o0 := HO2.out.cell 0 _ rfl
    have o1 := HO2.out.cell 1 _ rfl
    have o2 := HO2.out.cell 2 _ rfl
    have o3 := HO2.out.frozen 0
    have o4 := HO2.out.frozen 1
    have o5 := HO2.out.frozen 2
    have n1 : P ≠ w.heap.size + 1 := by omega
    have n2 : P ≠ w.heap.size + 1 + 1 := by omega
    have n3 := n1.symm
    have n4 := n2.symm
    go_wp2_with fail
    obtain ⟨y', hy'⟩ := cell?_setCell_some (w := w2.drew) (p := ⟨w.heap.size + 1, 0, none⟩) (x := Value.int IntKind.i64 u) (q := ⟨w.heap.size + 1, 1, none⟩) (v := Value.int IntKind.i64 y) (by go_simp)
    go_region
    go_wp2_with fail
    refine bp_gen fun wf hwf => ?_
    have hfar : w.heap.size + 1 + 1 ≠ w.heap.size + 1 := by omega
    have hlo1 : w.heap.size ≤ w.heap.size + 1 := by omega
    have hlo2 : w.heap.size ≤ w.heap.size + 1 + 1 := by omega
    have HRF : Blk wf (w.heap.size + 1 + 1) 105 [.int .i64 u, .int .i64 v, .int .i64 z] := by rw [hwf]; first | exact ((((((HO2.out.far (p := ⟨w.heap.size + 1, 0, none⟩) hfar _).far (p := ⟨w.heap.size + 1, 1, none⟩) hfar _).set 0 _).set 1 _).set 2 _).drew) | exact (((((HO2.out.far (p := ⟨w.heap.size + 1, 0, none⟩) hfar _).far (p := ⟨w.heap.size + 1, 1, none⟩) hfar _).set 0 _).set 1 _).set 2 _)
    have HBF : Below w.heap.size w wf := by rw [hwf]; first | exact ((((((HB2.out.setCell (p := ⟨w.heap.size + 1, 0, none⟩) hlo1 _).setCell (p := ⟨w.heap.size + 1, 1, none⟩) hlo1 _).setCell (p := ⟨w.heap.size + 1 + 1, 0, none⟩) hlo2 _).setCell (p := ⟨w.heap.size + 1 + 1, 1, none⟩) hlo2 _).setCell (p := ⟨w.heap.size + 1 + 1, 2, none⟩) hlo2 _).drew) | exact (((((HB2.out.setCell (p := ⟨w.heap.size + 1, 0, none⟩) hlo1 _).setCell (p := ⟨w.heap.size + 1, 1, none⟩) hlo1 _).setCell (p := ⟨w.heap.size + 1 + 1, 0, none⟩) hlo2 _).setCell (p := ⟨w.heap.size + 1 + 1, 1, none⟩) hlo2 _).setCell (p := ⟨w.heap.size + 1 + 1, 2, none⟩) hlo2 _)
    clear hwf l0 l1 l2 l3 l4 l5 p0 p1 o0 o1 o2 o3 o4 o5 hy'
    have q0 := HRF.cell 0 _ rfl
    have q1 := HRF.cell 1 _ rfl
    have q2 := HRF.cell 2 _ rfl
    exact bodyPost_ret (v := .agg #[.int .i64 u, .int .i64 v, .int .i64 z]) (by simp [results, Try.results132, go_sem, q0, q1, q2]) rfl ⟨rfl, HBF⟩

set_option maxRecDepth 100000 in
theorem leadAt1_any (A : Option Addr) (n c : Nat) (f : List (List Int)) (B : Option Addr) (m d : Nat) (s : List (List Int)) (x y z : Nat) (w : World) (hz : ZArg 1048576 w A n f B m s) (hp : PMap f s) (_hx : x < n) (hy : y < n) (hz' : z < n) :
    Calls Try.prog 132 #[.agg #[.slice A n c, .slice B m d], .int .i64 1, tv (x, y, z)] w fun e w' => e = .returned (tv (at1 f s (x, y, z))) ∧ Below w.heap.size w w' := by
  have HZ := hide hz
  have HP := hide hp
  have h12 := hz.sz.nb
  unfold at1 tv
  show Calls Try.prog 132 #[.agg #[.slice A n c, .slice B m d], .int .i64 1, .agg #[.int .i64 x, .int .i64 y, .int .i64 z]] w fun e w' => e = .returned (.agg #[.int .i64 (x : Nat), .int .i64 (ap f y z : Nat), .int .i64 (ap s y z : Nat)]) ∧ Below w.heap.size w w'
  obtain ⟨u, hu⟩ : ∃ u, ap f y z = u := ⟨_, rfl⟩
  obtain ⟨v, hv⟩ : ∃ v, ap s y z = v := ⟨_, rfl⟩
  rw [hu, hv]
  have HU := hide hu
  have HV := hide hv
  clear hz hp hu hv
  have hwp1 : IntKind.i64.wrap 1 = 1 := IntWalk.i64_in _ (by omega)
  have hwp2 : IntKind.i64.wrap 2 = 2 := IntWalk.i64_in _ (by omega)
  go_enter Try.func132, Try.ntmps132
  go_wp2_with fail
  refine wp_gen fun w1 hw1 => ?_
  have hb1 : Below w.heap.size w w1 := by rw [hw1]; exact (((Below.refl _ _).alloc (Nat.le_refl _) _).alloc (by simp) _).alloc (by simp; omega) _
  have HS : Hid (Blk w1 w.heap.size 29 [.slice A n c, .slice B m d]) := hide (by rw [hw1]; exact ((Blk.new _ _ _).alloc _).alloc _)
  have HL : Hid (Blk w1 (w.heap.size + 1) 105 [.int .i64 x, .int .i64 y, .int .i64 z]) := hide (by rw [hw1]; have h := (Blk.new (w.alloc (Obj.cells #[Value.slice A n c, Value.slice B m d] 29)) 105 [.int .i64 x, .int .i64 y, .int .i64 z]).alloc (Obj.cells #[Value.int IntKind.i64 0, Value.int IntKind.i64 0, Value.int IntKind.i64 0] 105); simpa using h)
  have HO : Hid (Blk w1 (w.heap.size + 1 + 1) 105 [.int .i64 0, .int .i64 0, .int .i64 0]) := hide (by rw [hw1]; have h := Blk.new ((w.alloc (Obj.cells #[Value.slice A n c, Value.slice B m d] 29)).alloc (Obj.cells #[Value.int IntKind.i64 x, Value.int IntKind.i64 y, Value.int IntKind.i64 z] 105)) 105 [.int .i64 0, .int .i64 0, .int .i64 0]; simpa using h)
  have HBc := hide hb1
  replace HZ := hide (HZ.out.later hb1)
  have Z1 : Hid (w1.heap.size = w.heap.size + 1 + 1 + 1) := hide (by rw [hw1]; simp)
  have j1 : w1.heap.size ≠ w.heap.size := by have := Z1.out; omega
  have j2 : w1.heap.size ≠ w.heap.size + 1 := by have := Z1.out; omega
  have j3 := j1.symm
  have j4 := j2.symm
  have hz1 : w.heap.size + 1 < w1.heap.size := by have := Z1.out; omega
  clear hw1 hb1
  have k0 := HS.out.cell 0 _ rfl
  have k1 := HS.out.cell 1 _ rfl
  have k2 := HL.out.cell 0 _ rfl
  have k3 := HL.out.cell 1 _ rfl
  have k4 := HL.out.cell 2 _ rfl
  go_region_held3 (fun w' => w'.cell? ⟨w.heap.size, 0, none⟩ = some (.slice A n c) ∧ w'.cell? ⟨w.heap.size, 1, none⟩ = some (.slice B m d) ∧ w'.cell? ⟨w.heap.size + 1, 0, none⟩ = some (.int .i64 x) ∧ w'.cell? ⟨w.heap.size + 1, 1, none⟩ = some (.int .i64 y) ∧ w'.cell? ⟨w.heap.size + 1, 2, none⟩ = some (.int .i64 z)) (first | exact ⟨k0, k1, k2, k3, k4⟩ | go_keep) (first | (go_at_call 61; go_must (refine calls_gen fun wc hwc => ?_; (first | (have hbx := al_drew_below hwc; have HPB : Hid (Blk wc w1.heap.size 89 [.int .i64 0, .int .i64 0]) := hide (by rw [hwc]; exact Blk.new _ _ _)) | (have hbx := al_below hwc; have HPB : Hid (Blk wc w1.heap.size 89 [.int .i64 0, .int .i64 0]) := hide (by rw [hwc]; exact Blk.new _ _ _)) | (have hbx := drew_below hwc; have HPB : Hid True := hide trivial) | (have hbx := eq_below hwc; have HPB : Hid True := hide trivial)); have hbx0 := hide hbx.size; replace HBc := hide (HBc.out.trans (hbx.mono HBc.out.size)); replace HZ := hide (HZ.out.later hbx); replace HS := hide (HS.out.later hbx); replace HL := hide (HL.out.later hbx); replace HO := hide (HO.out.later hbx); clear hwc hbx; refine (lead_any _ _ _ f _ _ _ s y z _ HZ.out HP.out hy hz').mono ?_; rintro e wd ⟨rfl, hbd⟩; replace HBc := hide (HBc.out.trans (hbd.mono HBc.out.size)); replace HZ := hide (HZ.out.later hbd); replace HS := hide (HS.out.later hbd); replace HL := hide (HL.out.later hbd); replace HO := hide (HO.out.later hbd); (first | (replace HPB := hide (HPB.out.later hbd); have k5 := HPB.out.cell 0 _ rfl; have k6 := HPB.out.cell 1 _ rfl; have k7 := HPB.out.frozen 0; have k8 := HPB.out.frozen 1) | skip); have hsd := hbd.size; have hsx := hbx0.out; have g1 : wd.heap.size ≠ w.heap.size := (by omega); have g2 : wd.heap.size ≠ w.heap.size + 1 := (by omega); have g3 := g1.symm; have g4 := g2.symm; clear hsd hsx; clear hbd; have k0 := HS.out.cell 0 _ rfl; have k1 := HS.out.cell 1 _ rfl; have k2 := HL.out.cell 0 _ rfl; have k3 := HL.out.cell 1 _ rfl; have k4 := HL.out.cell 2 _ rfl; rw [HU.out, HV.out])))

  · clear k0 k1 k2 k3 k4
    refine ex_gen (Q := Exit.then _ _) fun w2 hw2 => ?_
    have hb2 : Below wd.heap.size wd w2 := by rw [hw2]; exact (Below.refl _ _).alloc (Nat.le_refl _) _
    have hsz := Z1.out
    have hsw : w.heap.size + 1 + 1 < wd.heap.size := by have := HO.out.lt; omega
    have HL2 : Hid (Blk w2 (w.heap.size + 1) 105 [.int .i64 x, .int .i64 y, .int .i64 z]) := hide (HL.out.later hb2)
    have HO2 : Hid (Blk w2 (w.heap.size + 1 + 1) 105 [.int .i64 0, .int .i64 0, .int .i64 0]) := hide (HO.out.later hb2)
    have HP2 : Hid (Blk w2 (wd.heap.size) 89 [.int .i64 u, .int .i64 v]) := hide (by rw [hw2]; exact Blk.new _ _ _)
    have HB2 : Hid (Below w.heap.size w w2) := hide (by rw [hw2]; exact HBc.out.alloc HBc.out.size _)
    clear hw2
    obtain ⟨P, hPe⟩ : ∃ P, wd.heap.size = P := ⟨_, rfl⟩
    rw [hPe] at HP2 hsw ⊢
    have l0 := HL2.out.cell 0 _ rfl
    have l1 := HL2.out.cell 1 _ rfl
    have l2 := HL2.out.cell 2 _ rfl
    have l3 := HL2.out.frozen 0
    have l4 := HL2.out.frozen 1
    have l5 := HL2.out.frozen 2
    have p0 := HP2.out.cell 0 _ rfl
    have p1 := HP2.out.cell 1 _ rfl
    have o0 := HO2.out.cell 0 _ rfl
    have o1 := HO2.out.cell 1 _ rfl
    have o2 := HO2.out.cell 2 _ rfl
    have o3 := HO2.out.frozen 0
    have o4 := HO2.out.frozen 1
    have o5 := HO2.out.frozen 2
    have n1 : P ≠ w.heap.size + 1 := by omega
    have n2 : P ≠ w.heap.size + 1 + 1 := by omega
    have n3 := n1.symm
    have n4 := n2.symm
    go_wp2_with fail
    obtain ⟨y', hy'⟩ := cell?_setCell_some (w := w2.drew) (p := ⟨w.heap.size + 1, 1, none⟩) (x := Value.int IntKind.i64 u) (q := ⟨w.heap.size + 1, 2, none⟩) (v := Value.int IntKind.i64 z) (by go_simp)
    go_region
    go_wp2_with fail
    refine bp_gen fun wf hwf => ?_
    have hfar : w.heap.size + 1 + 1 ≠ w.heap.size + 1 := by omega
    have hlo1 : w.heap.size ≤ w.heap.size + 1 := by omega
    have hlo2 : w.heap.size ≤ w.heap.size + 1 + 1 := by omega
    have HRF : Blk wf (w.heap.size + 1 + 1) 105 [.int .i64 x, .int .i64 u, .int .i64 v] := by rw [hwf]; first | exact ((((((HO2.out.far (p := ⟨w.heap.size + 1, 1, none⟩) hfar _).far (p := ⟨w.heap.size + 1, 2, none⟩) hfar _).set 0 _).set 1 _).set 2 _).drew) | exact (((((HO2.out.far (p := ⟨w.heap.size + 1, 1, none⟩) hfar _).far (p := ⟨w.heap.size + 1, 2, none⟩) hfar _).set 0 _).set 1 _).set 2 _)
    have HBF : Below w.heap.size w wf := by rw [hwf]; first | exact ((((((HB2.out.setCell (p := ⟨w.heap.size + 1, 1, none⟩) hlo1 _).setCell (p := ⟨w.heap.size + 1, 2, none⟩) hlo1 _).setCell (p := ⟨w.heap.size + 1 + 1, 0, none⟩) hlo2 _).setCell (p := ⟨w.heap.size + 1 + 1, 1, none⟩) hlo2 _).setCell (p := ⟨w.heap.size + 1 + 1, 2, none⟩) hlo2 _).drew) | exact (((((HB2.out.setCell (p := ⟨w.heap.size + 1, 1, none⟩) hlo1 _).setCell (p := ⟨w.heap.size + 1, 2, none⟩) hlo1 _).setCell (p := ⟨w.heap.size + 1 + 1, 0, none⟩) hlo2 _).setCell (p := ⟨w.heap.size + 1 + 1, 1, none⟩) hlo2 _).setCell (p := ⟨w.heap.size + 1 + 1, 2, none⟩) hlo2 _)
    clear hwf l0 l1 l2 l3 l4 l5 p0 p1 o0 o1 o2 o3 o4 o5 hy'
    have q0 := HRF.cell 0 _ rfl
    have q1 := HRF.cell 1 _ rfl
    have q2 := HRF.cell 2 _ rfl
    exact bodyPost_ret (v := .agg #[.int .i64 x, .int .i64 u, .int .i64 v]) (by simp [results, Try.results132, go_sem, q0, q1, q2]) rfl ⟨rfl, HBF⟩

  · clear k0 k1 k2 k3 k4
    refine ex_gen (Q := Exit.then _ _) fun w2 hw2 => ?_
    skip
    have hsz := Z1.out
    have hsw : w.heap.size + 1 + 1 < w1.heap.size := by have := HO.out.lt; omega
    have HL2 : Hid (Blk w2 (w.heap.size + 1) 105 [.int .i64 x, .int .i64 y, .int .i64 z]) := hide (by rw [hw2]; exact ((HL.out).far (p := ⟨w1.heap.size, 0, none⟩) (by show _ ≠ w1.heap.size; omega) _).far (p := ⟨w1.heap.size, 1, none⟩) (by show _ ≠ w1.heap.size; omega) _)
    have HO2 : Hid (Blk w2 (w.heap.size + 1 + 1) 105 [.int .i64 0, .int .i64 0, .int .i64 0]) := hide (by rw [hw2]; exact ((HO.out).far (p := ⟨w1.heap.size, 0, none⟩) (by show _ ≠ w1.heap.size; omega) _).far (p := ⟨w1.heap.size, 1, none⟩) (by show _ ≠ w1.heap.size; omega) _)
    have HP2 : Hid (Blk w2 (w1.heap.size) 89 [.int .i64 u, .int .i64 v]) := hide (by rw [hw2]; exact (HPB.out.set 0 _).set 1 _)
    have HB2 : Hid (Below w.heap.size w w2) := hide (by rw [hw2]; exact (HBc.out.setCell (p := ⟨w1.heap.size, 0, none⟩) (by show w.heap.size ≤ w1.heap.size; omega) _).setCell (p := ⟨w1.heap.size, 1, none⟩) (by show w.heap.size ≤ w1.heap.size; omega) _)
    clear hw2
    obtain ⟨P, hPe⟩ : ∃ P, w1.heap.size = P := ⟨_, rfl⟩
    rw [hPe] at HP2 hsw ⊢
    have l0 := HL2.out.cell 0 _ rfl
    have l1 := HL2.out.cell 1 _ rfl
    have l2 := HL2.out.cell 2 _ rfl
    have l3 := HL2.out.frozen 0
    have l4 := HL2.out.frozen 1
    have l5 := HL2.out.frozen 2
    have p0 := HP2.out.cell 0 _ rfl
    have p1 := HP2.out.cell 1 _ rfl
    have o0 := HO2.out.cell 0 _ rfl
    have o1 := HO2.out.cell 1 _ rfl
    have o2 := HO2.out.cell 2 _ rfl
    have o3 := HO2.out.frozen 0
    have o4 := HO2.out.frozen 1
    have o5 := HO2.out.frozen 2
    have n1 : P ≠ w.heap.size + 1 := by omega
    have n2 : P ≠ w.heap.size + 1 + 1 := by omega
    have n3 := n1.symm
    have n4 := n2.symm
    go_wp2_with fail
    obtain ⟨y', hy'⟩ := cell?_setCell_some (w := w2.drew) (p := ⟨w.heap.size + 1, 1, none⟩) (x := Value.int IntKind.i64 u) (q := ⟨w.heap.size + 1, 2, none⟩) (v := Value.int IntKind.i64 z) (by go_simp)
    go_region
    go_wp2_with fail
    refine bp_gen fun wf hwf => ?_
    have hfar : w.heap.size + 1 + 1 ≠ w.heap.size + 1 := by omega
    have hlo1 : w.heap.size ≤ w.heap.size + 1 := by omega
    have hlo2 : w.heap.size ≤ w.heap.size + 1 + 1 := by omega
    have HRF : Blk wf (w.heap.size + 1 + 1) 105 [.int .i64 x, .int .i64 u, .int .i64 v] := by rw [hwf]; first | exact ((((((HO2.out.far (p := ⟨w.heap.size + 1, 1, none⟩) hfar _).far (p := ⟨w.heap.size + 1, 2, none⟩) hfar _).set 0 _).set 1 _).set 2 _).drew) | exact (((((HO2.out.far (p := ⟨w.heap.size + 1, 1, none⟩) hfar _).far (p := ⟨w.heap.size + 1, 2, none⟩) hfar _).set 0 _).set 1 _).set 2 _)
    have HBF : Below w.heap.size w wf := by rw [hwf]; first | exact ((((((HB2.out.setCell (p := ⟨w.heap.size + 1, 1, none⟩) hlo1 _).setCell (p := ⟨w.heap.size + 1, 2, none⟩) hlo1 _).setCell (p := ⟨w.heap.size + 1 + 1, 0, none⟩) hlo2 _).setCell (p := ⟨w.heap.size + 1 + 1, 1, none⟩) hlo2 _).setCell (p := ⟨w.heap.size + 1 + 1, 2, none⟩) hlo2 _).drew) | exact (((((HB2.out.setCell (p := ⟨w.heap.size + 1, 1, none⟩) hlo1 _).setCell (p := ⟨w.heap.size + 1, 2, none⟩) hlo1 _).setCell (p := ⟨w.heap.size + 1 + 1, 0, none⟩) hlo2 _).setCell (p := ⟨w.heap.size + 1 + 1, 1, none⟩) hlo2 _).setCell (p := ⟨w.heap.size + 1 + 1, 2, none⟩) hlo2 _)
    clear hwf l0 l1 l2 l3 l4 l5 p0 p1 o0 o1 o2 o3 o4 o5 hy'
    have q0 := HRF.cell 0 _ rfl
    have q1 := HRF.cell 1 _ rfl
    have q2 := HRF.cell 2 _ rfl
    exact bodyPost_ret (v := .agg #[.int .i64 x, .int .i64 u, .int .i64 v]) (by simp [results, Try.results132, go_sem, q0, q1, q2]) rfl ⟨rfl, HBF⟩
end Go.Proofs.Ytgmloaemnbnbgaa
namespace Go.Proofs.Ytgmloaemnbnbgaa
open Go Go.RowKit
def kinkL (f : List (List Int)) : List Int := (List.range f.length).map fun (x : Nat) => ((ap f x x : Nat) : Int)
theorem kinkL_length (f : List (List Int)) : (kinkL f).length = f.length := by simp [kinkL]
theorem kinkL_getD (f : List (List Int)) (k : Nat) (h : k < f.length) : (kinkL f).getD k 0 = ((ap f k k : Nat) : Int) := by simp [kinkL, h]
def KinkRes (f : List (List Int)) (zs : List Int) (code : Int) : Prop := (Rck f ∧ zs = kinkL f ∧ code = 0) ∨ (¬ Rck f ∧ zs = [] ∧ code = 1)
theorem KinkRes.ex (f : List (List Int)) : ∃ zs code, KinkRes f zs code ∧ zs.length ≤ 1048576 := by
  by_cases h : Rck f
  · exact ⟨_, _, .inl ⟨h, rfl, rfl⟩, by rw [kinkL_length]; have := h.tbl.2.1; omega⟩
  · exact ⟨_, _, .inr ⟨h, rfl, rfl⟩, by simp⟩
theorem kq_take (zs : List Int) (k : Nat) (y : Int) (h : k < zs.length) (hy : zs.getD k 0 = y) : ints (zs.take k) ++ [.int .i64 y] = ints (zs.take (k + 1)) := by
  rw [List.take_succ_eq_append_getElem h]
  have : zs[k] = y := by simpa [h] using hy
  simp [ints, this]
theorem kq_empty (w : World) (t : TypeId) : (w.alloc (.cells #[] t)).ownsRow w.heap.size t 1 (.slice (some ⟨w.heap.size, 0, none⟩) 0 0) 0 [] :=
  ⟨by simp, .inr ⟨w.heap.size, 0, #[], rfl, Nat.le_refl _, heap_alloc_new _ _, Nat.le_refl _, by unfold maxLen; omega, by simp, by simp⟩⟩
theorem kq_new {w : World} {v : Value} {t : TypeId} : ∀ j u, [v][j]? = some u → (w.alloc (.cells #[v] t)).cell? ((⟨w.heap.size, 0, none⟩ : Addr).add j) = some u := by
  intro j u hj
  match j, hj with
  | 0, hj => simp at hj; subst hj; simp [Addr.add, World.cell?_alloc_new]
theorem kqInfo : (Try.prog.info? 2).map (fun i => (i.zero, i.size, i.bytes)) = some (some (.int .i64 0), 1, 8) := by kernel_rfl
/-- The last lines of a row that was filled from the front. -/
theorem kq_fill (zs : List Int) (n k : Nat) (hz : zs.length = n) (hk : k < n) : ((zs.take k ++ List.replicate (n - k) 0).set k (zs.getD k 0)) = zs.take (k + 1) ++ List.replicate (n - (k + 1)) 0 := by
  apply List.ext_getElem
  · simp; omega
  · intro i h1 h2
    simp only [List.getElem_set, List.getElem_append, List.length_take, List.getElem_take, List.getElem_replicate]
    by_cases e : k = i
    · subst e
      rw [if_pos rfl, dif_pos (by omega)]
      simp [show k < zs.length by omega]
    · rw [if_neg e]
      by_cases e2 : i < k
      · rw [dif_pos (by omega), dif_pos (by omega)]
      · rw [dif_neg (by omega), dif_neg (by omega)]
end Go.Proofs.Ytgmloaemnbnbgaa
