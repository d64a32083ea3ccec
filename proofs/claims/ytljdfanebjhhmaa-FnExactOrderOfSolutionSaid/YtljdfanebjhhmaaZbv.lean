import Derived.Test.YtljdfanebjhhmaaZbt
import Derived.Test.YtljdfanebjhhmaaZbh
import Derived.Test.YtljdfanebjhhmaaZbi
import Derived.Test.YtljdfanebjhhmaaZbn
import Derived.Test.YtljdfanebjhhmaaZbp
import Derived.Test.YtljdfanebjhhmaaZbl
import Derived.Test.YtljdfanebjhhmaaZt
import Derived.Test.YtljdfanebjhhmaaZz
namespace Go.Proofs.Ytljdfanebjhhmaa
open Go Go.RowKit
set_option maxHeartbeats 1000000
open Classical
/-- The pair map on the numbers of the pairs. -/
def stpN (f s : List (List Int)) (n k : Nat) : Nat := ap f (k / n) (k % n) * n + ap s (k / n) (k % n)
theorem stpN_div {f s : List (List Int)} {n : Nat} (hp : PMap f s) (hn : f.length = n) {k : Nat} (hk : k < n * n) : stpN f s n k / n = ap f (k / n) (k % n) ∧ stpN f s n k % n = ap s (k / n) (k % n) ∧ stpN f s n k < n * n := by
  have hn0 : 0 < n := by rcases Nat.eq_zero_or_pos n with e | e; (subst e; simp at hk); exact e
  have hx : k / n < n := Nat.div_lt_of_lt_mul hk
  have hy : k % n < n := Nat.mod_lt _ hn0
  have h1 := hp.1.ap_lt hn hx hy
  have h2 := hp.2.1.ap_lt (by rw [← hp.2.2]; exact hn) hx hy
  refine ⟨pair_div n _ _ h2, pair_mod n _ _ h2, ?_⟩
  unfold stpN
  have h3 : ap f (k / n) (k % n) + 1 ≤ n := h1
  have h4 := Nat.mul_le_mul_right n h3
  rw [Nat.add_mul, Nat.one_mul] at h4
  omega
noncomputable def lenN (f s : List (List Int)) (n k : Nat) : Nat := if h : ∃ L, L ≤ n * n ∧ IsLen (stpN f s n) k L then Classical.choose h else 1
theorem lenN_of {f s : List (List Int)} {n : Nat} (hp : PMap f s) (hn : f.length = n) (hc : NoCol f s n) {k : Nat} (hk : k < n * n) : lenN f s n k ≤ n * n ∧ IsLen (stpN f s n) k (lenN f s n k) := by
  have h := isLen_ex (g := stpN f s n) (N := n * n) (fun y hy => (stpN_div hp hn hy).2.2) (fun y z hy hz e => by
    have a := stpN_div hp hn hy
    have b := stpN_div hp hn hz
    rw [e] at a
    refine Classical.byContradiction (fun hne => hc y z hy hz hne ?_)
    unfold ledK
    rw [← a.1, ← a.2.1, b.1, b.2.1]) k hk
  unfold lenN
  rw [dif_pos h]
  exact Classical.choose_spec h
noncomputable def ordN (f s : List (List Int)) (n : Nat) : Nat → Nat
  | 0 => 1
  | k + 1 => Nat.lcm (ordN f s n k) (lenN f s n k)
theorem ordN_base (f s : List (List Int)) (n : Nat) : ∀ j, j ≤ 0 → ordN f s n j ≤ 1000000 := fun j hj => by
  have e : j = 0 := by omega
  subst e
  unfold ordN
  omega
def OsRes (f s : List (List Int)) (v : Int) (code : Int) : Prop :=
  (SolF f s ∧ (∀ k, k ≤ f.length * f.length → ordN f s f.length k ≤ 1000000) ∧ v = (ordN f s f.length (f.length * f.length) : Int) ∧ code = 0) ∨ (SolF f s ∧ ¬ (∀ k, k ≤ f.length * f.length → ordN f s f.length k ≤ 1000000) ∧ v = 0 ∧ code = 3) ∨ (¬ SolF f s ∧ v = 0 ∧ code = 1)
theorem OsRes.ex (f s : List (List Int)) : ∃ v code, OsRes f s v code := by
  by_cases h : SolF f s
  · by_cases h2 : ∀ k, k ≤ f.length * f.length → ordN f s f.length k ≤ 1000000
    · exact ⟨_, _, .inl ⟨h, h2, rfl, rfl⟩⟩
    · exact ⟨_, _, .inr (.inl ⟨h, h2, rfl, rfl⟩)⟩
  · exact ⟨_, _, .inr (.inr ⟨h, rfl, rfl⟩)⟩
theorem OsRes.bad {f s : List (List Int)} {v code : Int} (h : OsRes f s v code) (hs : ¬ SolF f s) : v = 0 ∧ code = 1 := by
  rcases h with ⟨h, _⟩ | ⟨h, _⟩ | ⟨_, h⟩
  · exact absurd h hs
  · exact absurd h hs
  · exact h
theorem OsRes.lim {f s : List (List Int)} {v code : Int} {n k : Nat} (h : OsRes f s v code) (hn : f.length = n) (hs : SolF f s) (hk : k ≤ n * n) (hl : ¬ ordN f s n k ≤ 1000000) : v = 0 ∧ code = 3 := by
  subst hn
  rcases h with ⟨_, h, _⟩ | ⟨_, _, h⟩ | ⟨h, _⟩
  · exact absurd (h k hk) hl
  · exact h
  · exact absurd hs h
theorem OsRes.fin {f s : List (List Int)} {v code : Int} {n : Nat} (h : OsRes f s v code) (hn : f.length = n) (hs : SolF f s) (hl : ∀ k, k ≤ n * n → ordN f s n k ≤ 1000000) : v = (ordN f s n (n * n) : Int) ∧ code = 0 := by
  subst hn
  rcases h with ⟨_, _, h⟩ | ⟨_, h, _⟩ | ⟨h, _⟩
  · exact h
  · exact absurd hl h
  · exact absurd hs h
theorem ordN_pos {f s : List (List Int)} {n : Nat} (hl : ∀ k, k < n * n → 1 ≤ lenN f s n k) : ∀ k, k ≤ n * n → 1 ≤ ordN f s n k
  | 0, _ => Nat.le_refl _
  | k + 1, hk => Nat.lcm_pos (ordN_pos hl k (by omega)) (hl k (by omega))
end Go.Proofs.Ytljdfanebjhhmaa
namespace Go.Proofs.Ytljdfanebjhhmaa
open Go Go.RowKit
set_option maxHeartbeats 1000000

/-- Three elements as a value. -/
def tv (t : Nat × Nat × Nat) : Value := .agg #[.int .i64 t.1, .int .i64 t.2.1, .int .i64 t.2.2]

set_option maxRecDepth 100000 in
theorem leadAt0_any (A : Option Addr) (n c : Nat) (f : List (List Int)) (B : Option Addr) (m d : Nat) (s : List (List Int)) (x y z : Nat) (w : World) (hz : ZArg 1048576 w A n f B m s) (hp : PMap f s) (hx : x < n) (hy : y < n) (_hz' : z < n) :
    Calls Try.prog 117 #[.agg #[.slice A n c, .slice B m d], .int .i64 0, tv (x, y, z)] w fun e w' => e = .returned (tv (at0 f s (x, y, z))) ∧ Below w.heap.size w w' := by
  have HZ := hide hz
  have HP := hide hp
  have h12 := hz.sz.nb
  unfold at0 tv
  show Calls Try.prog 117 #[.agg #[.slice A n c, .slice B m d], .int .i64 0, .agg #[.int .i64 x, .int .i64 y, .int .i64 z]] w fun e w' => e = .returned (.agg #[.int .i64 (ap f x y : Nat), .int .i64 (ap s x y : Nat), .int .i64 (z : Nat)]) ∧ Below w.heap.size w w'
  obtain ⟨u, hu⟩ : ∃ u, ap f x y = u := ⟨_, rfl⟩
  obtain ⟨v, hv⟩ : ∃ v, ap s x y = v := ⟨_, rfl⟩
  rw [hu, hv]
  have HU := hide hu
  have HV := hide hv
  clear hz hp hu hv
  have hwp1 : IntKind.i64.wrap 1 = 1 := IntWalk.i64_in _ (by omega)
  have hwp2 : IntKind.i64.wrap 2 = 2 := IntWalk.i64_in _ (by omega)
  go_enter Try.func117, Try.ntmps117
  go_wp2_with fail
  refine wp_gen fun w1 hw1 => ?_
  have hb1 : Below w.heap.size w w1 := by rw [hw1]; exact (((Below.refl _ _).alloc (Nat.le_refl _) _).alloc (by simp) _).alloc (by simp; omega) _
  have HS : Hid (Blk w1 w.heap.size 46 [.slice A n c, .slice B m d]) := hide (by rw [hw1]; exact ((Blk.new _ _ _).alloc _).alloc _)
  have HL : Hid (Blk w1 (w.heap.size + 1) 99 [.int .i64 x, .int .i64 y, .int .i64 z]) := hide (by rw [hw1]; have h := (Blk.new (w.alloc (Obj.cells #[Value.slice A n c, Value.slice B m d] 46)) 99 [.int .i64 x, .int .i64 y, .int .i64 z]).alloc (Obj.cells #[Value.int IntKind.i64 0, Value.int IntKind.i64 0, Value.int IntKind.i64 0] 99); simpa using h)
  have HO : Hid (Blk w1 (w.heap.size + 1 + 1) 99 [.int .i64 0, .int .i64 0, .int .i64 0]) := hide (by rw [hw1]; have h := Blk.new ((w.alloc (Obj.cells #[Value.slice A n c, Value.slice B m d] 46)).alloc (Obj.cells #[Value.int IntKind.i64 x, Value.int IntKind.i64 y, Value.int IntKind.i64 z] 99)) 99 [.int .i64 0, .int .i64 0, .int .i64 0]; simpa using h)
  have HBc := hide hb1
  replace HZ := hide (HZ.out.later hb1)
  have Z1 : Hid (w1.heap.size = w.heap.size + 1 + 1 + 1) := hide (by rw [hw1]; simp)
  have j1 : w1.heap.size ≠ w.heap.size := by have := Z1.out; omega
  have j2 : w1.heap.size ≠ w.heap.size + 1 := by have := Z1.out; omega
  have j3 := j1.symm
  have j4 := j2.symm
  have hz1 : w.heap.size + 1 < w1.heap.size := by have := Z1.out; omega
  clear hw1 hb1
  have k0 := HS.out.cell 0 _ rfl
  have k1 := HS.out.cell 1 _ rfl
  have k2 := HL.out.cell 0 _ rfl
  have k3 := HL.out.cell 1 _ rfl
  have k4 := HL.out.cell 2 _ rfl
  go_region_held3 (fun w' => w'.cell? ⟨w.heap.size, 0, none⟩ = some (.slice A n c) ∧ w'.cell? ⟨w.heap.size, 1, none⟩ = some (.slice B m d) ∧ w'.cell? ⟨w.heap.size + 1, 0, none⟩ = some (.int .i64 x) ∧ w'.cell? ⟨w.heap.size + 1, 1, none⟩ = some (.int .i64 y) ∧ w'.cell? ⟨w.heap.size + 1, 2, none⟩ = some (.int .i64 z)) (first | exact ⟨k0, k1, k2, k3, k4⟩ | go_keep) (first | (go_at_call 73; go_must (refine calls_gen fun wc hwc => ?_; (first | (have hbx := al_drew_below hwc; have HPB : Hid (Blk wc w1.heap.size 84 [.int .i64 0, .int .i64 0]) := hide (by rw [hwc]; exact Blk.new _ _ _)) | (have hbx := al_below hwc; have HPB : Hid (Blk wc w1.heap.size 84 [.int .i64 0, .int .i64 0]) := hide (by rw [hwc]; exact Blk.new _ _ _)) | (have hbx := drew_below hwc; have HPB : Hid True := hide trivial) | (have hbx := eq_below hwc; have HPB : Hid True := hide trivial)); have hbx0 := hide hbx.size; replace HBc := hide (HBc.out.trans (hbx.mono HBc.out.size)); replace HZ := hide (HZ.out.later hbx); replace HS := hide (HS.out.later hbx); replace HL := hide (HL.out.later hbx); replace HO := hide (HO.out.later hbx); clear hwc hbx; refine (lead_any _ _ _ f _ _ _ s x y _ HZ.out HP.out hx hy).mono ?_; rintro e wd ⟨rfl, hbd⟩; replace HBc := hide (HBc.out.trans (hbd.mono HBc.out.size)); replace HZ := hide (HZ.out.later hbd); replace HS := hide (HS.out.later hbd); replace HL := hide (HL.out.later hbd); replace HO := hide (HO.out.later hbd); (first | (replace HPB := hide (HPB.out.later hbd); have k5 := HPB.out.cell 0 _ rfl; have k6 := HPB.out.cell 1 _ rfl; have k7 := HPB.out.frozen 0; have k8 := HPB.out.frozen 1) | skip); have hsd := hbd.size; have hsx := hbx0.out; have g1 : wd.heap.size ≠ w.heap.size := (by omega); have g2 : wd.heap.size ≠ w.heap.size + 1 := (by omega); have g3 := g1.symm; have g4 := g2.symm; clear hsd hsx; clear hbd; have k0 := HS.out.cell 0 _ rfl; have k1 := HS.out.cell 1 _ rfl; have k2 := HL.out.cell 0 _ rfl; have k3 := HL.out.cell 1 _ rfl; have k4 := HL.out.cell 2 _ rfl; rw [HU.out, HV.out])))

  · clear k0 k1 k2 k3 k4
    refine ex_gen (Q := Exit.then _ _) fun w2 hw2 => ?_
    have hb2 : Below wd.heap.size wd w2 := by rw [hw2]; exact (Below.refl _ _).alloc (Nat.le_refl _) _
    have hsz := Z1.out
    have hsw : w.heap.size + 1 + 1 < wd.heap.size := by have := HO.out.lt; omega
    have HL2 : Hid (Blk w2 (w.heap.size + 1) 99 [.int .i64 x, .int .i64 y, .int .i64 z]) := hide (HL.out.later hb2)
    have HO2 : Hid (Blk w2 (w.heap.size + 1 + 1) 99 [.int .i64 0, .int .i64 0, .int .i64 0]) := hide (HO.out.later hb2)
    have HP2 : Hid (Blk w2 (wd.heap.size) 84 [.int .i64 u, .int .i64 v]) := hide (by rw [hw2]; exact Blk.new _ _ _)
    have HB2 : Hid (Below w.heap.size w w2) := hide (by rw [hw2]; exact HBc.out.alloc HBc.out.size _)
    clear hw2
    obtain ⟨P, hPe⟩ : ∃ P, wd.heap.size = P := ⟨_, rfl⟩
    rw [hPe] at HP2 hsw ⊢
    have l0 := HL2.out.cell 0 _ rfl
    have l1 := HL2.out.cell 1 _ rfl
    have l2 := HL2.out.cell 2 _ rfl
    have l3 := HL2.out.frozen 0
    have l4 := HL2.out.frozen 1
    have l5 := HL2.out.frozen 2
    have p0 := HP2.out.cell 0 _ rfl
    have p1 := HP2.out.cell 1 _ rfl
    have o0 := HO2.out.cell 0 _ rfl
    have o1 := HO2.out.cell 1 _ rfl
    have o2 := HO2.out.cell 2 _ rfl
    have o3 := HO2.out.frozen 0
    have o4 := HO2.out.frozen 1
    have o5 := HO2.out.frozen 2
    have n1 : P ≠ w.heap.size + 1 := by omega
    have n2 : P ≠ w.heap.size + 1 + 1 := by omega
    have n3 := n1.symm
    have n4 := n2.symm
    go_wp2_with fail
    obtain ⟨y', hy'⟩ := cell?_setCell_some (w := w2.drew) (p := ⟨w.heap.size + 1, 0, none⟩) (x := Value.int IntKind.i64 u) (q := ⟨w.heap.size + 1, 1, none⟩) (v := Value.int IntKind.i64 y) (by go_simp)
    go_region
    go_wp2_with fail
    refine bp_gen fun wf hwf => ?_
    have hfar : w.heap.size + 1 + 1 ≠ w.heap.size + 1 := by omega
    have hlo1 : w.heap.size ≤ w.heap.size + 1 := by omega
    have hlo2 : w.heap.size ≤ w.heap.size + 1 + 1 := by omega
    have HRF : Blk wf (w.heap.size + 1 + 1) 99 [.int .i64 u, .int .i64 v, .int .i64 z] := by rw [hwf]; first | exact ((((((HO2.out.far (p := ⟨w.heap.size + 1, 0, none⟩) hfar _).far (p := ⟨w.heap.size + 1, 1, none⟩) hfar _).set 0 _).set 1 _).set 2 _).drew) | exact (((((HO2.out.far (p := ⟨w.heap.size + 1, 0, none⟩) hfar _).far (p := ⟨w.heap.size + 1, 1, none⟩) hfar _).set 0 _).set 1 _).set 2 _)
    have HBF : Below w.heap.size w wf := by rw [hwf]; first | exact ((((((HB2.out.setCell (p := ⟨w.heap.size + 1, 0, none⟩) hlo1 _).setCell (p := ⟨w.heap.size + 1, 1, none⟩) hlo1 _).setCell (p := ⟨w.heap.size + 1 + 1, 0, none⟩) hlo2 _).setCell (p := ⟨w.heap.size + 1 + 1, 1, none⟩) hlo2 _).setCell (p := ⟨w.heap.size + 1 + 1, 2, none⟩) hlo2 _).drew) | exact (((((HB2.out.setCell (p := ⟨w.heap.size + 1, 0, none⟩) hlo1 _).setCell (p := ⟨w.heap.size + 1, 1, none⟩) hlo1 _).setCell (p := ⟨w.heap.size + 1 + 1, 0, none⟩) hlo2 _).setCell (p := ⟨w.heap.size + 1 + 1, 1, none⟩) hlo2 _).setCell (p := ⟨w.heap.size + 1 + 1, 2, none⟩) hlo2 _)
    clear hwf l0 l1 l2 l3 l4 l5 p0 p1 o0 o1 o2 o3 o4 o5 hy'
    have q0 := HRF.cell 0 _ rfl
    have q1 := HRF.cell 1 _ rfl
    have q2 := HRF.cell 2 _ rfl
    exact bodyPost_ret (v := .agg #[.int .i64 u, .int .i64 v, .int .i64 z]) (by simp [results, Try.results117, go_sem, q0, q1, q2]) rfl ⟨rfl, HBF⟩

  · clear k0 k1 k2 k3 k4
    refine ex_gen (Q := Exit.then _ _) fun w2 hw2 => ?_
    skip
    have hsz := Z1.out
    have hsw : w.heap.size + 1 + 1 < w1.heap.size := by have := HO.out.lt; omega
    have HL2 : Hid (Blk w2 (w.heap.size + 1) 99 [.int .i64 x, .int .i64 y, .int .i64 z]) := hide (by rw [hw2]; exact ((HL.out).far (p := ⟨w1.heap.size, 0, none⟩) (by show _ ≠ w1.heap.size; omega) _).far (p := ⟨w1.heap.size, 1, none⟩) (by show _ ≠ w1.heap.size; omega) _)
    have HO2 : Hid (Blk w2 (w.heap.size + 1 + 1) 99 [.int .i64 0, .int .i64 0, .int .i64 0]) := hide (by rw [hw2]; exact ((HO.out).far (p := ⟨w1.heap.size, 0, none⟩) (by show _ ≠ w1.heap.size; omega) _).far (p := ⟨w1.heap.size, 1, none⟩) (by show _ ≠ w1.heap.size; omega) _)
    have HP2 : Hid (Blk w2 (w1.heap.size) 84 [.int .i64 u, .int .i64 v]) := hide (by rw [hw2]; exact (HPB.out.set 0 _).set 1 _)
    have HB2 : Hid (Below w.heap.size w w2) := hide (by rw [hw2]; exact (HBc.out.setCell (p := ⟨w1.heap.size, 0, none⟩) (by show w.heap.size ≤ w1.heap.size; omega) _).setCell (p := ⟨w1.heap.size, 1, none⟩) (by show w.heap.size ≤ w1.heap.size; omega) _)
    clear hw2
    obtain ⟨P, hPe⟩ : ∃ P, w1.heap.size = P := ⟨_, rfl⟩
    rw [hPe] at HP2 hsw ⊢
    have l0 := HL2.out.cell 0 _ rfl
    have l1 := HL2.out.cell 1 _ rfl
    have l2 := HL2.out.cell 2 _ rfl
    have l3 := HL2.out.frozen 0
    have l4 := HL2.out.frozen 1
    have l5 := HL2.out.frozen 2
    have p0 := HP2.out.cell 0 _ rfl
    have p1 := HP2.out.cell 1 _ rfl
    have o0 := HO2.out.cell 0 _ rfl
    have o1 := HO2.out.cell 1 _ rfl
    have o2 := HO2.out.cell 2 _ rfl
    have o3 := HO2.out.frozen 0
    have o4 := HO2.out.frozen 1
    have o5 := HO2.out.frozen 2
    have n1 : P ≠ w.heap.size + 1 := by omega
    have n2 : P ≠ w.heap.size + 1 + 1 := by omega
    have n3 := n1.symm
    have n4 := n2.symm
    go_wp2_with fail
    obtain ⟨y', hy'⟩ := cell?_setCell_some (w := w2.drew) (p := ⟨w.heap.size + 1, 0, none⟩) (x := Value.int IntKind.i64 u) (q := ⟨w.heap.size + 1, 1, none⟩) (v := Value.int IntKind.i64 y) (by go_simp)
    go_region
    go_wp2_with fail
    refine bp_gen fun wf hwf => ?_
    have hfar : w.heap.size + 1 + 1 ≠ w.heap.size + 1 := by omega
    have hlo1 : w.heap.size ≤ w.heap.size + 1 := by omega
    have hlo2 : w.heap.size ≤ w.heap.size + 1 + 1 := by omega
    have HRF : Blk wf (w.heap.size + 1 + 1) 99 [.int .i64 u, .int .i64 v, .int .i64 z] := by rw [hwf]; first | exact ((((((HO2.out.far (p := ⟨w.heap.size + 1, 0, none⟩) hfar _).far (p := ⟨w.heap.size + 1, 1, none⟩) hfar _).set 0 _).set 1 _).set 2 _).drew) | exact (((((HO2.out.far (p := ⟨w.heap.size + 1, 0, none⟩) hfar _).far (p := ⟨w.heap.size + 1, 1, none⟩) hfar _).set 0 _).set 1 _).set 2 _)
    have HBF : Below w.heap.size w wf := by rw [hwf]; first | exact ((((((HB2.out.setCell (p := ⟨w.heap.size + 1, 0, none⟩) hlo1 _).setCell (p := ⟨w.heap.size + 1, 1, none⟩) hlo1 _).setCell (p := ⟨w.heap.size + 1 + 1, 0, none⟩) hlo2 _).setCell (p := ⟨w.heap.size + 1 + 1, 1, none⟩) hlo2 _).setCell (p := ⟨w.heap.size + 1 + 1, 2, none⟩) hlo2 _).drew) | exact (((((HB2.out.setCell (p := ⟨w.heap.size + 1, 0, none⟩) hlo1 _).setCell (p := ⟨w.heap.size + 1, 1, none⟩) hlo1 _).setCell (p := ⟨w.heap.size + 1 + 1, 0, none⟩) hlo2 _).setCell (p := ⟨w.heap.size + 1 + 1, 1, none⟩) hlo2 _).setCell (p := ⟨w.heap.size + 1 + 1, 2, none⟩) hlo2 _)
    clear hwf l0 l1 l2 l3 l4 l5 p0 p1 o0 o1 o2 o3 o4 o5 hy'
    have q0 := HRF.cell 0 _ rfl
    have q1 := HRF.cell 1 _ rfl
    have q2 := HRF.cell 2 _ rfl
    exact bodyPost_ret (v := .agg #[.int .i64 u, .int .i64 v, .int .i64 z]) (by simp [results, Try.results117, go_sem, q0, q1, q2]) rfl ⟨rfl, HBF⟩

set_option maxRecDepth 100000 in
theorem leadAt1_any (A : Option Addr) (n c : Nat) (f : List (List Int)) (B : Option Addr) (m d : Nat) (s : List (List Int)) (x y z : Nat) (w : World) (hz : ZArg 1048576 w A n f B m s) (hp : PMap f s) (_hx : x < n) (hy : y < n) (hz' : z < n) :
    Calls Try.prog 117 #[.agg #[.slice A n c, .slice B m d], .int .i64 1, tv (x, y, z)] w fun e w' => e = .returned (tv (at1 f s (x, y, z))) ∧ Below w.heap.size w w' := by
  have HZ := hide hz
  have HP := hide hp
  have h12 := hz.sz.nb
  unfold at1 tv
  show Calls Try.prog 117 #[.agg #[.slice A n c, .slice B m d], .int .i64 1, .agg #[.int .i64 x, .int .i64 y, .int .i64 z]] w fun e w' => e = .returned (.agg #[.int .i64 (x : Nat), .int .i64 (ap f y z : Nat), .int .i64 (ap s y z : Nat)]) ∧ Below w.heap.size w w'
  obtain ⟨u, hu⟩ : ∃ u, ap f y z = u := ⟨_, rfl⟩
  obtain ⟨v, hv⟩ : ∃ v, ap s y z = v := ⟨_, rfl⟩
  rw [hu, hv]
  have HU := hide hu
  have HV := hide hv
  clear hz hp hu hv
  have hwp1 : IntKind.i64.wrap 1 = 1 := IntWalk.i64_in _ (by omega)
  have hwp2 : IntKind.i64.wrap 2 = 2 := IntWalk.i64_in _ (by omega)
  go_enter Try.func117, Try.ntmps117
  go_wp2_with fail
  refine wp_gen fun w1 hw1 => ?_
  have hb1 : Below w.heap.size w w1 := by rw [hw1]; exact (((Below.refl _ _).alloc (Nat.le_refl _) _).alloc (by simp) _).alloc (by simp; omega) _
  have HS : Hid (Blk w1 w.heap.size 46 [.slice A n c, .slice B m d]) := hide (by rw [hw1]; exact ((Blk.new _ _ _).alloc _).alloc _)
  have HL : Hid (Blk w1 (w.heap.size + 1) 99 [.int .i64 x, .int .i64 y, .int .i64 z]) := hide (by rw [hw1]; have h := (Blk.new (w.alloc (Obj.cells #[Value.slice A n c, Value.slice B m d] 46)) 99 [.int .i64 x, .int .i64 y, .int .i64 z]).alloc (Obj.cells #[Value.int IntKind.i64 0, Value.int IntKind.i64 0, Value.int IntKind.i64 0] 99); simpa using h)
  have HO : Hid (Blk w1 (w.heap.size + 1 + 1) 99 [.int .i64 0, .int .i64 0, .int .i64 0]) := hide (by rw [hw1]; have h := Blk.new ((w.alloc (Obj.cells #[Value.slice A n c, Value.slice B m d] 46)).alloc (Obj.cells #[Value.int IntKind.i64 x, Value.int IntKind.i64 y, Value.int IntKind.i64 z] 99)) 99 [.int .i64 0, .int .i64 0, .int .i64 0]; simpa using h)
  have HBc := hide hb1
  replace HZ := hide (HZ.out.later hb1)
  have Z1 : Hid (w1.heap.size = w.heap.size + 1 + 1 + 1) := hide (by rw [hw1]; simp)
  have j1 : w1.heap.size ≠ w.heap.size := by have := Z1.out; omega
  have j2 : w1.heap.size ≠ w.heap.size + 1 := by have := Z1.out; omega
  have j3 := j1.symm
  have j4 := j2.symm
  have hz1 : w.heap.size + 1 < w1.heap.size := by have := Z1.out; omega
  clear hw1 hb1
  have k0 := HS.out.cell 0 _ rfl
  have k1 := HS.out.cell 1 _ rfl
  have k2 := HL.out.cell 0 _ rfl
  have k3 := HL.out.cell 1 _ rfl
  have k4 := HL.out.cell 2 _ rfl
  go_region_held3 (fun w' => w'.cell? ⟨w.heap.size, 0, none⟩ = some (.slice A n c) ∧ w'.cell? ⟨w.heap.size, 1, none⟩ = some (.slice B m d) ∧ w'.cell? ⟨w.heap.size + 1, 0, none⟩ = some (.int .i64 x) ∧ w'.cell? ⟨w.heap.size + 1, 1, none⟩ = some (.int .i64 y) ∧ w'.cell? ⟨w.heap.size + 1, 2, none⟩ = some (.int .i64 z)) (first | exact ⟨k0, k1, k2, k3, k4⟩ | go_keep) (first | (go_at_call 73; go_must (refine calls_gen fun wc hwc => ?_; (first | (have hbx := al_drew_below hwc; have HPB : Hid (Blk wc w1.heap.size 84 [.int .i64 0, .int .i64 0]) := hide (by rw [hwc]; exact Blk.new _ _ _)) | (have hbx := al_below hwc; have HPB : Hid (Blk wc w1.heap.size 84 [.int .i64 0, .int .i64 0]) := hide (by rw [hwc]; exact Blk.new _ _ _)) | (have hbx := drew_below hwc; have HPB : Hid True := hide trivial) | (have hbx := eq_below hwc; have HPB : Hid True := hide trivial)); have hbx0 := hide hbx.size; replace HBc := hide (HBc.out.trans (hbx.mono HBc.out.size)); replace HZ := hide (HZ.out.later hbx); replace HS := hide (HS.out.later hbx); replace HL := hide (HL.out.later hbx); replace HO := hide (HO.out.later hbx); clear hwc hbx; refine (lead_any _ _ _ f _ _ _ s y z _ HZ.out HP.out hy hz').mono ?_; rintro e wd ⟨rfl, hbd⟩; replace HBc := hide (HBc.out.trans (hbd.mono HBc.out.size)); replace HZ := hide (HZ.out.later hbd); replace HS := hide (HS.out.later hbd); replace HL := hide (HL.out.later hbd); replace HO := hide (HO.out.later hbd); (first | (replace HPB := hide (HPB.out.later hbd); have k5 := HPB.out.cell 0 _ rfl; have k6 := HPB.out.cell 1 _ rfl; have k7 := HPB.out.frozen 0; have k8 := HPB.out.frozen 1) | skip); have hsd := hbd.size; have hsx := hbx0.out; have g1 : wd.heap.size ≠ w.heap.size := (by omega); have g2 : wd.heap.size ≠ w.heap.size + 1 := (by omega); have g3 := g1.symm; have g4 := g2.symm; clear hsd hsx; clear hbd; have k0 := HS.out.cell 0 _ rfl; have k1 := HS.out.cell 1 _ rfl; have k2 := HL.out.cell 0 _ rfl; have k3 := HL.out.cell 1 _ rfl; have k4 := HL.out.cell 2 _ rfl; rw [HU.out, HV.out])))

  · clear k0 k1 k2 k3 k4
    refine ex_gen (Q := Exit.then _ _) fun w2 hw2 => ?_
    have hb2 : Below wd.heap.size wd w2 := by rw [hw2]; exact (Below.refl _ _).alloc (Nat.le_refl _) _
    have hsz := Z1.out
    have hsw : w.heap.size + 1 + 1 < wd.heap.size := by have := HO.out.lt; omega
    have HL2 : Hid (Blk w2 (w.heap.size + 1) 99 [.int .i64 x, .int .i64 y, .int .i64 z]) := hide (HL.out.later hb2)
    have HO2 : Hid (Blk w2 (w.heap.size + 1 + 1) 99 [.int .i64 0, .int .i64 0, .int .i64 0]) := hide (HO.out.later hb2)
    have HP2 : Hid (Blk w2 (wd.heap.size) 84 [.int .i64 u, .int .i64 v]) := hide (by rw [hw2]; exact Blk.new _ _ _)
    have HB2 : Hid (Below w.heap.size w w2) := hide (by rw [hw2]; exact HBc.out.alloc HBc.out.size _)
    clear hw2
    obtain ⟨P, hPe⟩ : ∃ P, wd.heap.size = P := ⟨_, rfl⟩
    rw [hPe] at HP2 hsw ⊢
    have l0 := HL2.out.cell 0 _ rfl
    have l1 := HL2.out.cell 1 _ rfl
    have l2 := HL2.out.cell 2 _ rfl
    have l3 := HL2.out.frozen 0
    have l4 := HL2.out.frozen 1
    have l5 := HL2.out.frozen 2
    have p0 := HP2.out.cell 0 _ rfl
    have p1 := HP2.out.cell 1 _ rfl
    have o0 := HO2.out.cell 0 _ rfl
    have o1 := HO2.out.cell 1 _ rfl
    have o2 := HO2.out.cell 2 _ rfl
    have o3 := HO2.out.frozen 0
    have o4 := HO2.out.frozen 1
    have o5 := HO2.out.frozen 2
    have n1 : P ≠ w.heap.size + 1 := by omega
    have n2 : P ≠ w.heap.size + 1 + 1 := by omega
    have n3 := n1.symm
    have n4 := n2.symm
    go_wp2_with fail
    obtain ⟨y', hy'⟩ := cell?_setCell_some (w := w2.drew) (p := ⟨w.heap.size + 1, 1, none⟩) (x := Value.int IntKind.i64 u) (q := ⟨w.heap.size + 1, 2, none⟩) (v := Value.int IntKind.i64 z) (by go_simp)
    go_region
    go_wp2_with fail
    refine bp_gen fun wf hwf => ?_
    have hfar : w.heap.size + 1 + 1 ≠ w.heap.size + 1 := by omega
    have hlo1 : w.heap.size ≤ w.heap.size + 1 := by omega
    have hlo2 : w.heap.size ≤ w.heap.size + 1 + 1 := by omega
    have HRF : Blk wf (w.heap.size + 1 + 1) 99 [.int .i64 x, .int .i64 u, .int .i64 v] := by rw [hwf]; first | exact ((((((HO2.out.far (p := ⟨w.heap.size + 1, 1, none⟩) hfar _).far (p := ⟨w.heap.size + 1, 2, none⟩) hfar _).set 0 _).set 1 _).set 2 _).drew) | exact (((((HO2.out.far (p := ⟨w.heap.size + 1, 1, none⟩) hfar _).far (p := ⟨w.heap.size + 1, 2, none⟩) hfar _).set 0 _).set 1 _).set 2 _)
    have HBF : Below w.heap.size w wf := by rw [hwf]; first | exact ((((((HB2.out.setCell (p := ⟨w.heap.size + 1, 1, none⟩) hlo1 _).setCell (p := ⟨w.heap.size + 1, 2, none⟩) hlo1 _).setCell (p := ⟨w.heap.size + 1 + 1, 0, none⟩) hlo2 _).setCell (p := ⟨w.heap.size + 1 + 1, 1, none⟩) hlo2 _).setCell (p := ⟨w.heap.size + 1 + 1, 2, none⟩) hlo2 _).drew) | exact (((((HB2.out.setCell (p := ⟨w.heap.size + 1, 1, none⟩) hlo1 _).setCell (p := ⟨w.heap.size + 1, 2, none⟩) hlo1 _).setCell (p := ⟨w.heap.size + 1 + 1, 0, none⟩) hlo2 _).setCell (p := ⟨w.heap.size + 1 + 1, 1, none⟩) hlo2 _).setCell (p := ⟨w.heap.size + 1 + 1, 2, none⟩) hlo2 _)
    clear hwf l0 l1 l2 l3 l4 l5 p0 p1 o0 o1 o2 o3 o4 o5 hy'
    have q0 := HRF.cell 0 _ rfl
    have q1 := HRF.cell 1 _ rfl
    have q2 := HRF.cell 2 _ rfl
    exact bodyPost_ret (v := .agg #[.int .i64 x, .int .i64 u, .int .i64 v]) (by simp [results, Try.results117, go_sem, q0, q1, q2]) rfl ⟨rfl, HBF⟩

  · clear k0 k1 k2 k3 k4
    refine ex_gen (Q := Exit.then _ _) fun w2 hw2 => ?_
    skip
    have hsz := Z1.out
    have hsw : w.heap.size + 1 + 1 < w1.heap.size := by have := HO.out.lt; omega
    have HL2 : Hid (Blk w2 (w.heap.size + 1) 99 [.int .i64 x, .int .i64 y, .int .i64 z]) := hide (by rw [hw2]; exact ((HL.out).far (p := ⟨w1.heap.size, 0, none⟩) (by show _ ≠ w1.heap.size; omega) _).far (p := ⟨w1.heap.size, 1, none⟩) (by show _ ≠ w1.heap.size; omega) _)
    have HO2 : Hid (Blk w2 (w.heap.size + 1 + 1) 99 [.int .i64 0, .int .i64 0, .int .i64 0]) := hide (by rw [hw2]; exact ((HO.out).far (p := ⟨w1.heap.size, 0, none⟩) (by show _ ≠ w1.heap.size; omega) _).far (p := ⟨w1.heap.size, 1, none⟩) (by show _ ≠ w1.heap.size; omega) _)
    have HP2 : Hid (Blk w2 (w1.heap.size) 84 [.int .i64 u, .int .i64 v]) := hide (by rw [hw2]; exact (HPB.out.set 0 _).set 1 _)
    have HB2 : Hid (Below w.heap.size w w2) := hide (by rw [hw2]; exact (HBc.out.setCell (p := ⟨w1.heap.size, 0, none⟩) (by show w.heap.size ≤ w1.heap.size; omega) _).setCell (p := ⟨w1.heap.size, 1, none⟩) (by show w.heap.size ≤ w1.heap.size; omega) _)
    clear hw2
    obtain ⟨P, hPe⟩ : ∃ P, w1.heap.size = P := ⟨_, rfl⟩
    rw [hPe] at HP2 hsw ⊢
    have l0 := HL2.out.cell 0 _ rfl
    have l1 := HL2.out.cell 1 _ rfl
    have l2 := HL2.out.cell 2 _ rfl
    have l3 := HL2.out.frozen 0
    have l4 := HL2.out.frozen 1
    have l5 := HL2.out.frozen 2
    have p0 := HP2.out.cell 0 _ rfl
    have p1 := HP2.out.cell 1 _ rfl
    have o0 := HO2.out.cell 0 _ rfl
    have o1 := HO2.out.cell 1 _ rfl
    have o2 := HO2.out.cell 2 _ rfl
    have o3 := HO2.out.frozen 0
    have o4 := HO2.out.frozen 1
    have o5 := HO2.out.frozen 2
    have n1 : P ≠ w.heap.size + 1 := by omega
    have n2 : P ≠ w.heap.size + 1 + 1 := by omega
    have n3 := n1.symm
    have n4 := n2.symm
    go_wp2_with fail
    obtain ⟨y', hy'⟩ := cell?_setCell_some (w := w2.drew) (p := ⟨w.heap.size + 1, 1, none⟩) (x := Value.int IntKind.i64 u) (q := ⟨w.heap.size + 1, 2, none⟩) (v := Value.int IntKind.i64 z) (by go_simp)
    go_region
    go_wp2_with fail
    refine bp_gen fun wf hwf => ?_
    have hfar : w.heap.size + 1 + 1 ≠ w.heap.size + 1 := by omega
    have hlo1 : w.heap.size ≤ w.heap.size + 1 := by omega
    have hlo2 : w.heap.size ≤ w.heap.size + 1 + 1 := by omega
    have HRF : Blk wf (w.heap.size + 1 + 1) 99 [.int .i64 x, .int .i64 u, .int .i64 v] := by rw [hwf]; first | exact ((((((HO2.out.far (p := ⟨w.heap.size + 1, 1, none⟩) hfar _).far (p := ⟨w.heap.size + 1, 2, none⟩) hfar _).set 0 _).set 1 _).set 2 _).drew) | exact (((((HO2.out.far (p := ⟨w.heap.size + 1, 1, none⟩) hfar _).far (p := ⟨w.heap.size + 1, 2, none⟩) hfar _).set 0 _).set 1 _).set 2 _)
    have HBF : Below w.heap.size w wf := by rw [hwf]; first | exact ((((((HB2.out.setCell (p := ⟨w.heap.size + 1, 1, none⟩) hlo1 _).setCell (p := ⟨w.heap.size + 1, 2, none⟩) hlo1 _).setCell (p := ⟨w.heap.size + 1 + 1, 0, none⟩) hlo2 _).setCell (p := ⟨w.heap.size + 1 + 1, 1, none⟩) hlo2 _).setCell (p := ⟨w.heap.size + 1 + 1, 2, none⟩) hlo2 _).drew) | exact (((((HB2.out.setCell (p := ⟨w.heap.size + 1, 1, none⟩) hlo1 _).setCell (p := ⟨w.heap.size + 1, 2, none⟩) hlo1 _).setCell (p := ⟨w.heap.size + 1 + 1, 0, none⟩) hlo2 _).setCell (p := ⟨w.heap.size + 1 + 1, 1, none⟩) hlo2 _).setCell (p := ⟨w.heap.size + 1 + 1, 2, none⟩) hlo2 _)
    clear hwf l0 l1 l2 l3 l4 l5 p0 p1 o0 o1 o2 o3 o4 o5 hy'
    have q0 := HRF.cell 0 _ rfl
    have q1 := HRF.cell 1 _ rfl
    have q2 := HRF.cell 2 _ rfl
    exact bodyPost_ret (v := .agg #[.int .i64 x, .int .i64 u, .int .i64 v]) (by simp [results, Try.results117, go_sem, q0, q1, q2]) rfl ⟨rfl, HBF⟩
end Go.Proofs.Ytljdfanebjhhmaa
