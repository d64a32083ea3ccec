import Derived.Test.YtbhlcfcmjildmaaGd
import Derived.Test.YtbhlcfcmjildmaaGf
import Derived.Test.YtbhlcfcmjildmaaGh
import Derived.Deep.Cut
import Derived.Deep.DeepCutAuto
import Derived.Test.YtbhlcfcmjildmaaGa
import Derived.Test.YtbhlcfcmjildmaaGb
import Derived.Test.YtbhlcfcmjildmaaGg
import Derived.Test.YtbhlcfcmjildmaaGe
import Derived.Test.YtbhlcfcmjildmaaGi
import Derived.Test.YtbhlcfcmjildmaaGc
namespace Go.Proofs.Ytbhlcfcmjildmaa
open Go Go.RowKit
set_option maxHeartbeats 4000000

set_option maxRecDepth 100000 in
theorem moved_any (F : FuncId) (u : Value) (n k : Nat) (h1 h2 : Nat → Nat → Int) (xs : List Int) (x y : Nat) (w : World) (eg : ∀ args w, (callFunc F args).run Try.prog w = .ok (.enter F args) w) (hl : xs.length = 12) (hk : k + 1 < 12) (hx : xs.getD k 0 = x) (hy : xs.getD (k + 1) 0 = y) (hxn : x < n) (hyn : y < n) (hp : PairFnB Try.prog F u n h1 h2 w) :
    Calls Try.prog 87 #[.agg (ints xs).toArray, .int .i64 k, .func (.func F) #[u] #[]] w fun e w' => e = .returned (.agg (ints ((xs.set k (h1 x y)).set (k + 1) (h2 x y))).toArray) ∧ Below w.heap.size w w' := by
  have HPF := hide hp
  obtain ⟨r1, hr1⟩ : ∃ r, h1 x y = r := ⟨_, rfl⟩
  obtain ⟨r2, hr2⟩ : ∃ r, h2 x y = r := ⟨_, rfl⟩
  rw [hr1, hr2]
  have HE1 := hide hr1
  have HE2 := hide hr2
  have hys : ((xs.set k r1).set (k + 1) r2).length = 12 := by simp [hl]
  obtain ⟨a0, a1, a2, a3, a4, a5, a6, a7, a8, a9, a10, a11, rfl⟩ := list12 hl
  have hx1 := ints_at [a0, a1, a2, a3, a4, a5, a6, a7, a8, a9, a10, a11] k (by simp; omega)
  have hx2 := ints_at [a0, a1, a2, a3, a4, a5, a6, a7, a8, a9, a10, a11] (k + 1) (by simp; omega)
  rw [hx] at hx1
  rw [hy] at hx2
  have HX1 := hide hx1
  have HX2 := hide hx2
  obtain ⟨ys, hyy⟩ : ∃ ys, ([a0, a1, a2, a3, a4, a5, a6, a7, a8, a9, a10, a11].set k r1).set (k + 1) r2 = ys := ⟨_, rfl⟩
  rw [hyy] at hys ⊢
  obtain ⟨b0, b1, b2, b3, b4, b5, b6, b7, b8, b9, b10, b11, rfl⟩ := list12 hys
  have HYY := hide hyy
  clear hp hr1 hr2 hl hx hy hx1 hx2 hyy hys
  show Calls Try.prog 87 #[.agg #[.int .i64 a0, .int .i64 a1, .int .i64 a2, .int .i64 a3, .int .i64 a4, .int .i64 a5, .int .i64 a6, .int .i64 a7, .int .i64 a8, .int .i64 a9, .int .i64 a10, .int .i64 a11], .int .i64 k, .func (.func F) #[u] #[]] w fun e w' => e = .returned (.agg #[.int .i64 b0, .int .i64 b1, .int .i64 b2, .int .i64 b3, .int .i64 b4, .int .i64 b5, .int .i64 b6, .int .i64 b7, .int .i64 b8, .int .i64 b9, .int .i64 b10, .int .i64 b11]) ∧ Below w.heap.size w w'
  have hkz : (k : Int) < 12 := by omega
  obtain ⟨k1, hk1⟩ : ∃ k1, k + 1 = k1 := ⟨_, rfl⟩
  have hk1n : ((k : Int) + 1) = (k1 : Int) := by omega
  have hk1z : (k1 : Int) < 12 := by omega
  have hk1w : IntKind.i64.wrap (k1 : Int) = (k1 : Int) := IntWalk.i64_in _ (by omega)
  rw [hk1] at hk HX2 HYY
  have HK1 := hide hk1
  clear hk1
  go_enter Try.func87, Try.ntmps87
  go_upto_region 1 with fail
  refine wp_gen fun w0 hw0 => ?_
  have hb0 : Below w.heap.size w w0 := by rw [hw0]; exact ((Below.refl _ _).alloc (Nat.le_refl _) _).alloc (by simp) _
  have ha1 : Blk w0 w.heap.size 61 (ints [a0, a1, a2, a3, a4, a5, a6, a7, a8, a9, a10, a11]) := by rw [hw0]; exact (Blk.new w 61 (ints [a0, a1, a2, a3, a4, a5, a6, a7, a8, a9, a10, a11])).alloc _
  have ha2 : Blk w0 (w.heap.size + 1) 61 (ints (List.replicate 12 0)) := by rw [hw0]; have h := Blk.new (w.alloc (Obj.cells #[Value.int IntKind.i64 a0, Value.int IntKind.i64 a1, Value.int IntKind.i64 a2, Value.int IntKind.i64 a3, Value.int IntKind.i64 a4, Value.int IntKind.i64 a5, Value.int IntKind.i64 a6, Value.int IntKind.i64 a7, Value.int IntKind.i64 a8, Value.int IntKind.i64 a9, Value.int IntKind.i64 a10, Value.int IntKind.i64 a11] 61)) 61 (ints (List.replicate 12 0)); have e : (w.alloc (Obj.cells #[Value.int IntKind.i64 a0, Value.int IntKind.i64 a1, Value.int IntKind.i64 a2, Value.int IntKind.i64 a3, Value.int IntKind.i64 a4, Value.int IntKind.i64 a5, Value.int IntKind.i64 a6, Value.int IntKind.i64 a7, Value.int IntKind.i64 a8, Value.int IntKind.i64 a9, Value.int IntKind.i64 a10, Value.int IntKind.i64 a11] 61)).heap.size = w.heap.size + 1 := (by simp); rw [e] at h; exact h
  obtain ⟨CA, hCA⟩ : ∃ CA, ints [a0, a1, a2, a3, a4, a5, a6, a7, a8, a9, a10, a11] = CA := ⟨_, rfl⟩
  obtain ⟨CZ, hCZ⟩ : ∃ CZ, ints (List.replicate 12 0) = CZ := ⟨_, rfl⟩
  rw [hCA] at ha1
  rw [hCZ] at ha2
  have HCA := hide hCA
  have HCZ := hide hCZ
  rw [hCA] at HX1 HX2
  clear hCA hCZ
  have HF : Hid (FC w w0 w0.heap.size [(w.heap.size, 61, CA), (w.heap.size + 1, 61, CZ)]) := hide (FC.of hb0 (by
    intro q hq
    simp only [List.mem_cons, List.not_mem_nil, or_false] at hq
    rcases hq with rfl | rfl
    · exact ha1
    · exact ha2))
  have hlt0 : w.heap.size < w0.heap.size := ha1.lt
  clear hw0 hb0 ha1 ha2
  go_cut [7] (fun vv wx => ∃ L, vv = .pointer (some ⟨L, 0, none⟩) ∧ FC w wx (L + 1) ((L, 84, [.int .i64 r1, .int .i64 r2]) :: [(w.heap.size, 61, CA), (w.heap.size + 1, 61, CZ)]))
  case first =>
    have HPB : Hid True := hide trivial
    have e1 := (HF.out.blk (b := w.heap.size) (t := 61) (cs := CA) (by simp)).cell k _ HX1.out
    have e2 := (HF.out.blk (b := w.heap.size) (t := 61) (cs := CA) (by simp)).cell k1 _ HX2.out
    have fn0 : w0.heap.size ≠ w.heap.size := (by have h1 := HF.out.below.size; have h2 := (And.intro (HF.out.le (b := w.heap.size) (t := 61) (cs := CA) (by simp)) HF.out.sz); omega)
    have fm0 := fn0.symm
    go_region_held3 (fun w' => w'.cell? ⟨w.heap.size, k, none⟩ = some (.int .i64 x) ∧ w'.cell? ⟨w.heap.size, k1, none⟩ = some (.int .i64 y)) (first | exact ⟨e1, e2⟩ | go_keep) (first | (go_at_fn F; go_must (refine calls_gen fun wc hwc => ?_; (first | (have hbx := al_drew_below hwc; have HPB := hide (And.intro (blk_al_drew hwc) HF.out.sz)) | (have hbx := al_below hwc; have HPB := hide (And.intro (blk_al hwc) HF.out.sz)) | (have hbx := drew_below hwc; (first | replace HPB := hide (And.intro (HPB.out.1.later hbx) HPB.out.2) | skip)) | (have hbx := eq_below hwc; (first | replace HPB := hide (And.intro (HPB.out.1.later hbx) HPB.out.2) | skip))); replace HF := hide (HF.out.later hbx); clear hwc hbx; refine (HPF.out wc x y hxn hyn HF.out.below).mono ?_; rintro e wd ⟨rfl, hbd⟩; rw [HE1.out, HE2.out]; replace HF := hide (HF.out.later hbd); (first | replace HPB := hide (And.intro (HPB.out.1.later hbd) HPB.out.2) | skip); clear hbd; have fn0 : wd.heap.size ≠ w.heap.size := (by have h1 := HF.out.below.size; have h2 := (And.intro (HF.out.le (b := w.heap.size) (t := 61) (cs := CA) (by simp)) HF.out.sz); omega); have fm0 := fn0.symm; have e1 := (HF.out.blk (b := w.heap.size) (t := 61) (cs := CA) (by simp)).cell k _ HX1.out; have e2 := (HF.out.blk (b := w.heap.size) (t := 61) (cs := CA) (by simp)).cell k1 _ HX2.out; (first | (have b0 := HPB.out.1.cell 0 _ rfl; have b1 := HPB.out.1.cell 1 _ rfl; have bf0 := HPB.out.1.frozen 0; have bf1 := HPB.out.1.frozen 1) | skip); skip)))
    all_goals go_wp2_with fail
    all_goals go_meet
    all_goals refine ⟨_, rfl, ?_⟩
    all_goals first | exact HF.out.new _ _ | exact ((HF.out.set (p := ⟨_, 0, none⟩) HPB.out.2 _).set (p := ⟨_, 1, none⟩) HPB.out.2 _).push ((HPB.out.1.set 0 _).set 1 _) HPB.out.2
  case rest =>
    obtain ⟨L1, rfl, hfk⟩ := hcut
    replace HF := hide hfk
    clear hfk
    have HRA : Hid (Row 61 wc w.heap.size [a0, a1, a2, a3, a4, a5, a6, a7, a8, a9, a10, a11]) := hide (by have h := HF.out.blk (b := w.heap.size) (t := 61) (cs := CA) (by simp); rw [← HCA.out] at h; exact h)
    have HRB : Hid (Row 61 wc (w.heap.size + 1) (List.replicate 12 0)) := hide (by have h := HF.out.blk (b := w.heap.size + 1) (t := 61) (cs := CZ) (by simp); rw [← HCZ.out] at h; exact h)
    have HRP := hide (HF.out.blk (b := L1) (t := 84) (cs := [.int .i64 r1, .int .i64 r2]) (by simp))
    have HB1 := hide HF.out.below
    have hne0 : L1 ≠ w.heap.size := by
      intro e
      have h1 := HRP.out
      have h2 := HRA.out
      rw [e] at h1
      unfold Blk at h1
      unfold Row at h2
      rw [h1] at h2
      have h3 := congrArg (fun q : Option Obj => match q with | some (.cells c _ _) => c.size | _ => 0) h2
      simp [ints] at h3
    clear HF HCA HCZ
    have p0 := HRP.out.cell 0 _ rfl
    have p1 := HRP.out.cell 1 _ rfl
    have c1 := HRA.out.cell (i := k) (by simp; omega)
    have c2 := HRA.out.cell (i := k1) (by simp; omega)
    have f1 := HRA.out.frozen k
    have f2 := HRA.out.frozen k1
    have hlA := HRA.out.lt
    have hs2 := ((HRA.out.set k r1).set k1 r2)
    rw [HYY.out] at hs2
    have HSA := hide hs2
    clear hs2
    obtain ⟨old1, ho1⟩ : ∃ o, List.getD [a0, a1, a2, a3, a4, a5, a6, a7, a8, a9, a10, a11] k 0 = o := ⟨_, rfl⟩
    obtain ⟨old2, ho2⟩ : ∃ o, List.getD [a0, a1, a2, a3, a4, a5, a6, a7, a8, a9, a10, a11] k1 0 = o := ⟨_, rfl⟩
    rw [ho1] at c1
    rw [ho2] at c2
    have c3 := (HRA.out.set k r1).cell (i := k1) (by simp; omega)
    obtain ⟨old3, ho3⟩ : ∃ o, List.getD (List.set [a0, a1, a2, a3, a4, a5, a6, a7, a8, a9, a10, a11] k r1) k1 0 = o := ⟨_, rfl⟩
    rw [ho3] at c3
    clear ho1 ho2 ho3
    go_wp2_with fail
    have hy' : (wc.drew.setCell ⟨w.heap.size, k, none⟩ (.int .i64 r1)).cell? ⟨w.heap.size, k1, none⟩ = some (.int .i64 old3) := c3
    go_region
    refine ex_gen fun w3 hw3 => ?_
    have HR3 : Hid (Row 61 w3 w.heap.size [b0, b1, b2, b3, b4, b5, b6, b7, b8, b9, b10, b11]) := hide (by rw [hw3]; exact HSA.out)
    have HZ3 : Hid (Row 61 w3 (w.heap.size + 1) (List.replicate 12 0)) := hide (by rw [hw3]; exact (HRB.out.far (p := ⟨w.heap.size, k, none⟩) (by show w.heap.size + 1 ≠ w.heap.size; omega) (.int .i64 r1)).far (p := ⟨w.heap.size, k1, none⟩) (by show w.heap.size + 1 ≠ w.heap.size; omega) (.int .i64 r2))
    have HB3 : Hid (Below w.heap.size w w3) := hide (by rw [hw3]; exact ((HB1.out.setCell (p := ⟨w.heap.size, k, none⟩) (Nat.le_refl _) (.int .i64 r1)).setCell (p := ⟨w.heap.size, k1, none⟩) (Nat.le_refl _) (.int .i64 r2)).drew)
    clear hw3 HSA HRA HRB HB1 p0 p1 c1 c2 c3 f1 f2 hy' HRP HYY
    obtain ⟨ra0, rf0, ra1, rf1, ra2, rf2, ra3, rf3, ra4, rf4, ra5, rf5, ra6, rf6, ra7, rf7, ra8, rf8, ra9, rf9, ra10, rf10, ra11, rf11⟩ := row12 HR3.out
    obtain ⟨za0, zf0, za1, zf1, za2, zf2, za3, zf3, za4, zf4, za5, zf5, za6, zf6, za7, zf7, za8, zf8, za9, zf9, za10, zf10, za11, zf11⟩ := row12 (show Row 61 w3 (w.heap.size + 1) [0, 0, 0, 0, 0, 0, 0, 0, 0, 0, 0, 0] from HZ3.out)
    go_wp2_with fail
    refine bp_gen fun wf hwf => ?_
    have HRF : Row 61 wf (w.heap.size + 1) [b0, b1, b2, b3, b4, b5, b6, b7, b8, b9, b10, b11] := by rw [hwf]; exact row12_set (List.length_replicate ..) HZ3.out _ _ _ _ _ _ _ _ _ _ _ _
    have HBF : Below w.heap.size w wf := by rw [hwf]; exact below12_set HB3.out (by omega) _ _ _ _ _ _ _ _ _ _ _ _
    obtain ⟨q0, _, q1, _, q2, _, q3, _, q4, _, q5, _, q6, _, q7, _, q8, _, q9, _, q10, _, q11, _⟩ := row12 HRF
    clear hwf
    exact bodyPost_ret (v := .agg #[.int .i64 b0, .int .i64 b1, .int .i64 b2, .int .i64 b3, .int .i64 b4, .int .i64 b5, .int .i64 b6, .int .i64 b7, .int .i64 b8, .int .i64 b9, .int .i64 b10, .int .i64 b11]) (by simp [results, Try.results87, go_sem, q0, q1, q2, q3, q4, q5, q6, q7, q8, q9, q10, q11]) rfl ⟨rfl, HBF⟩
end Go.Proofs.Ytbhlcfcmjildmaa
namespace Go.Proofs.Ytbhlcfcmjildmaa
open Go Go.RowKit
open Classical
/-- A block that is a map. -/
def IsMapB (w : World) (b : Nat) : Prop := ∃ es clock, w.heap[b]? = some (.map es clock)
theorem MapK.isMap {K : TypeId} {w : World} {b n : Nat} {V : Value → Option Value} (h : MapK K w b n V) : IsMapB w b := by
  obtain ⟨D, ⟨es, clock, hb, _⟩, _⟩ := h
  exact ⟨es, clock, hb⟩
/-- What is a block of cells stays where only a map is written. -/
theorem off_cells {w w' : World} {b k : Nat} {cs : Array Value} {t : TypeId} {fr : Nat × Nat} (hm : IsMapB w b) (hg : w.grownBy w' (some b)) (e : w.heap[k]? = some (.cells cs t fr)) : w'.heap[k]? = some (.cells cs t fr) := by
  obtain ⟨es, clock, hb⟩ := hm
  rw [hg.block k (Array.getElem?_eq_some_iff.1 e).1 (fun e2 => by injection e2 with e2; subst e2; rw [hb] at e; cases e)]
  exact e
theorem LstV.off {ts t : TypeId} {B : Nat} {w w' : World} {v : Value} {rows : List (List Int)} {vals : List Value} {b : Nat} (h : LstV ts t B w v rows vals) (hm : IsMapB w b) (hg : w.grownBy w' (some b)) : LstV ts t B w' v rows vals := by
  refine ⟨?_, fun i hi => ?_, h.ne⟩
  · obtain ⟨h1, h2⟩ := h.own
    refine ⟨h1, ?_⟩
    rcases h2 with h2 | ⟨g, cap, cur, hv, hg', hh, r⟩
    · exact .inl h2
    · exact .inr ⟨g, cap, cur, hv, hg', off_cells hm hg hh, r⟩
  · obtain ⟨A, c, h1, h2⟩ := h.row i hi
    refine ⟨A, c, h1, ?_⟩
    rcases h2 with h2 | ⟨g, e, a, b', cur, hc, r⟩
    · exact .inl h2
    · exact .inr ⟨g, e, a, Nat.lt_of_lt_of_le b' hg.size, cur, off_cells hm hg hc, r⟩
/-- A map stays where a list of slices grows. -/
theorem MapK.off {K ts t : TypeId} {B n : Nat} {w w' : World} {v : Value} {rows : List (List Int)} {vals : List Value} {b : Nat} {V : Value → Option Value} {tmp : Obj} (h : MapK K w b n V) (hl : LstV ts t B w v rows vals) (hg : (w.alloc tmp).grownBy w' v.ownBlock) : MapK K w' b n V := by
  obtain ⟨es, clock, hb⟩ := h.isMap
  have hlt := h.lt
  refine h.of_block ?_
  have ha : (w.alloc tmp).heap[b]? = w.heap[b]? := ((Below.refl w.heap.size w).alloc (Nat.le_refl _) tmp).block b hlt
  rw [← ha]
  refine hg.block b (by simp; omega) (fun e => ?_)
  obtain ⟨_, h2⟩ := hl.own
  rcases h2 with ⟨hv, _⟩ | ⟨g, cap, cur, hv, _, hh, _⟩
  · subst hv; simp [Value.ownBlock] at e
  · subst hv
    simp [Value.ownBlock] at e
    subst e
    rw [hb] at hh
    cases hh
theorem dg_fin : ∀ a b : Fin 12, UInt8.ofNat (dg (a.val : Int)).toNat = UInt8.ofNat (dg (b.val : Int)).toNat → a = b := by decide
theorem dg_inj {x y : Int} (hx : 0 ≤ x ∧ x < 12) (hy : 0 ≤ y ∧ y < 12) (e : UInt8.ofNat (dg x).toNat = UInt8.ofNat (dg y).toNat) : x = y := by
  obtain ⟨a, rfl⟩ : ∃ a : Nat, x = (a : Int) := ⟨x.toNat, by omega⟩
  obtain ⟨b, rfl⟩ : ∃ b : Nat, y = (b : Int) := ⟨y.toNat, by omega⟩
  have h := dg_fin ⟨a, by omega⟩ ⟨b, by omega⟩ e
  injection h with h
  rw [h]
theorem dgs_inj : ∀ (p q : List Int), (∀ x ∈ p, 0 ≤ x ∧ x < 12) → (∀ x ∈ q, 0 ≤ x ∧ x < 12) → p.map (fun x => UInt8.ofNat (dg x).toNat) = q.map (fun x => UInt8.ofNat (dg x).toNat) → p = q
  | [], [], _, _, _ => rfl
  | [], y :: q, _, _, e => by simp at e
  | x :: p, [], _, _, e => by simp at e
  | x :: p, y :: q, hp, hq, e => by
    simp only [List.map_cons, List.cons.injEq] at e
    rw [dg_inj (hp x (by simp)) (hq y (by simp)) e.1, dgs_inj p q (fun z hz => hp z (by simp [hz])) (fun z hz => hq z (by simp [hz])) e.2]
theorem lineS_inj {p q : List Int} (hp : ∀ x ∈ p, 0 ≤ x ∧ x < 12) (hq : ∀ x ∈ q, 0 ≤ x ∧ x < 12) (e : lineS p = lineS q) : p = q := by
  refine dgs_inj p q hp hq ?_
  have h := congrArg (fun b : ByteArray => b.data.toList) e
  simpa [lineS, lineL, strOfNums, Function.comp_def] using h
/-- The texts of the permutations that were found. -/
noncomputable def seenV (found : List (List Int)) : Value → Option Value := fun k => if ∃ p, p ∈ found ∧ k = .string (lineS p) then some (.bool true) else none
theorem seenV_at {found : List (List Int)} {q : List Int} (hf : ∀ p, p ∈ found → ∀ x ∈ p, 0 ≤ x ∧ x < 12) (hq : ∀ x ∈ q, 0 ≤ x ∧ x < 12) : (seenV found (.string (lineS q))).getD (.bool false) = .bool (decide (q ∈ found)) := by
  unfold seenV
  by_cases h : q ∈ found
  · rw [if_pos ⟨q, h, rfl⟩]; simp [h]
  · rw [if_neg]
    · simp [h]
    · rintro ⟨p, hp, e⟩
      injection e with e
      exact h (lineS_inj hq (hf p hp) e ▸ hp)
theorem seenV_add (found : List (List Int)) (q : List Int) (k : Value) : (if k = .string (lineS q) then some (.bool true) else seenV found k) = seenV (found ++ [q]) k := by
  unfold seenV
  by_cases h : k = .string (lineS q)
  · rw [if_pos h, if_pos ⟨q, by simp, h⟩]
  · rw [if_neg h]
    by_cases h2 : ∃ p, p ∈ found ∧ k = .string (lineS p)
    · rw [if_pos h2]
      obtain ⟨p, hp, e⟩ := h2
      rw [if_pos ⟨p, by simp [hp], e⟩]
    · rw [if_neg h2, if_neg]
      rintro ⟨p, hp, e⟩
      rcases List.mem_append.1 hp with hp | hp
      · exact h2 ⟨p, hp, e⟩
      · simp at hp; subst hp; exact h e
end Go.Proofs.Ytbhlcfcmjildmaa
namespace Go.Proofs.Ytbhlcfcmjildmaa
open Go Go.RowKit
/-- Whether three elements show that a dot table is no cycle set. -/
def cyq (f : List (List Int)) : Nat → Nat → Nat → Bool := fun x y z => !decide (ap f (ap f x y) (ap f x z) = ap f (ap f y x) (ap f y z))
/-- What a cycle set is. -/
def Cyc (f : List (List Int)) : Prop := (Tbl f ∧ AllPrm f) ∧ Prm (kinkL f) ∧ ∀ i, i < f.length * f.length * f.length → qAt (cyq f) f.length i = false
theorem Cyc.tbl {f : List (List Int)} (h : Cyc f) : Tbl f := h.1.1
theorem Cyc.prm {f : List (List Int)} (h : Cyc f) : AllPrm f := h.1.2
theorem Cyc.le {f : List (List Int)} (h : Cyc f) : f.length ≤ 12 := h.tbl.2.1
def CyRes (f : List (List Int)) (r : Bool) : Prop := r = true ↔ Cyc f
theorem CyRes.ex (f : List (List Int)) : ∃ r, CyRes f r := bool_of _
def CyFRes (f : List (List Int)) (zs : List Int) (code : Int) : Prop :=
  (∃ T, Tbl f ∧ FirstQ (cyq f) f.length T ∧ ((T < f.length * f.length * f.length ∧ zs = lst3 (trip f.length T) ∧ code = 0) ∨ (T = f.length * f.length * f.length ∧ zs = [] ∧ code = 4))) ∨ (¬ Tbl f ∧ zs = [] ∧ code = 1)
theorem CyFRes.ex (f : List (List Int)) : ∃ zs code, CyFRes f zs code ∧ zs.length ≤ 1048576 := by
  by_cases h : Tbl f
  · obtain ⟨T, hT⟩ := FirstQ.ex (cyq f) f.length
    by_cases h2 : T < f.length * f.length * f.length
    · exact ⟨_, _, .inl ⟨T, h, hT, .inl ⟨h2, rfl, rfl⟩⟩, by simp [lst3]⟩
    · exact ⟨_, _, .inl ⟨T, h, hT, .inr ⟨by have := hT.2.1; omega, rfl, rfl⟩⟩, by simp⟩
  · exact ⟨_, _, .inr ⟨h, rfl, rfl⟩, by simp⟩
def DqRes (f : List (List Int)) (zs : List Int) (code : Int) : Prop := (Tbl f ∧ zs = kinkL f ∧ code = 0) ∨ (¬ Tbl f ∧ zs = [] ∧ code = 1)
theorem DqRes.ex (f : List (List Int)) : ∃ zs code, DqRes f zs code ∧ zs.length ≤ 1048576 := by
  by_cases h : Tbl f
  · exact ⟨_, _, .inl ⟨h, rfl, rfl⟩, by rw [kinkL_length]; have := h.2.1; omega⟩
  · exact ⟨_, _, .inr ⟨h, rfl, rfl⟩, by simp⟩
end Go.Proofs.Ytbhlcfcmjildmaa
namespace Go.Proofs.Ytbhlcfcmjildmaa
open Go Go.RowKit
open Classical
/-- The permutations of a group, in order, if there are at most 1000. -/
def GrpR (n : Nat) (rows : List (List Int)) (zs : List (List Int)) (code : Int) : Prop := (Enu n rows zs ∧ Asc zs ∧ zs.length ≤ 1000 ∧ code = 0) ∨ (¬ AtMost n rows 1000 ∧ zs = [] ∧ code = 3)
theorem asc_ex (L : List (List Int)) (hnd : L.Nodup) : ∃ L' : List (List Int), Asc L' ∧ L'.length = L.length ∧ ∀ x, x ∈ L' ↔ x ∈ L := by
  rcases Nat.eq_zero_or_pos L.length with h0 | h0
  · exact ⟨[], by simp [Asc], by simp [h0], fun x => by rw [List.eq_nil_of_length_eq_zero h0]⟩
  · obtain ⟨M, hM⟩ : ∃ M, L.length = M + 1 := ⟨L.length - 1, by omega⟩
    let R : Fin (M + 1) → List Int := fun i => L.getD i.val []
    have hinj : ∀ x y, R x = R y → x = y := fun x y e => by
      have h1 : x.val < L.length := by omega
      have h2 : y.val < L.length := by omega
      have e2 : L[x.val] = L[y.val] := by simpa [R, h1, h2] using e
      exact Fin.ext ((List.getElem_inj (h₀ := h1) (h₁ := h2) hnd).1 e2)
    refine ⟨(srtI R).map R, srtI_asc R hinj, by simp [srtI_len, hM], fun x => ⟨fun hx => ?_, fun hx => ?_⟩⟩
    · obtain ⟨i, _, rfl⟩ := List.mem_map.1 hx
      have : i.val < L.length := by omega
      simp [R, this]
    · obtain ⟨j, hj, rfl⟩ := List.getElem_of_mem hx
      refine List.mem_map.2 ⟨⟨j, by omega⟩, srtI_mem R _, ?_⟩
      simp [R, hj]
theorem Enu.sorted {n : Nat} {rows L L' : List (List Int)} (h : Enu n rows L) (ha : Asc L') (hm : ∀ x, x ∈ L' ↔ x ∈ L) : Enu n rows L' := ⟨ha.nodup, fun x => (hm x).trans (h.2 x)⟩
theorem Enu.ascEq {n : Nat} {rows L L' : List (List Int)} (h : Enu n rows L) (h' : Enu n rows L') (ha : Asc L) (ha' : Asc L') : L = L' := Asc.eq ha ha' (fun x => (h.2 x).trans (h'.2 x).symm)
theorem Enu.rows {n : Nat} {rows L : List (List Int)} (h1 : 1 ≤ n) (h12 : n ≤ 12) (hg : Gens rows n) (h : Enu n rows L) (i : Nat) (hi : i < L.length) : (L.getD i []).length = n := by
  have hm : L.getD i [] ∈ L := by simp [hi]
  exact (gen_prm h1 h12 hg ((h.2 _).1 hm)).1
theorem Enu.pos {n : Nat} {rows L : List (List Int)} (h : Enu n rows L) : 0 < L.length := by
  have hm := (h.2 (unitN n)).2 .unit
  cases L with
  | nil => simp at hm
  | cons a t => simp
theorem GrpR.ex (n : Nat) (rows : List (List Int)) : ∃ zs code, GrpR n rows zs code := by
  by_cases h : AtMost n rows 1000
  · obtain ⟨L, hE, hl⟩ := h
    obtain ⟨L', ha, hl', hm⟩ := asc_ex L hE.1
    exact ⟨L', 0, .inl ⟨hE.sorted ha hm, ha, by omega, rfl⟩⟩
  · exact ⟨[], 3, .inr ⟨h, rfl, rfl⟩⟩
theorem GrpR.size {n : Nat} {rows zs : List (List Int)} {code : Int} (h1 : 1 ≤ n) (h12 : n ≤ 12) (hg : Gens rows n) (h : GrpR n rows zs code) : zs.length ≤ 1048576 ∧ ∀ i, i < zs.length → (zs.getD i []).length ≤ 1048576 := by
  rcases h with ⟨hE, _, hl, _⟩ | ⟨_, rfl, _⟩
  · exact ⟨by omega, fun i hi => by rw [hE.rows h1 h12 hg i hi]; omega⟩
  · exact ⟨by simp, by simp⟩
def GeRes (N : Int) (rows : List (List Int)) (zs : List (List Int)) (code : Int) : Prop := (Sys N rows ∧ GrpR N.toNat rows zs code) ∨ (¬ Sys N rows ∧ zs = [] ∧ code = 1)
theorem GeRes.ex (N : Int) (rows : List (List Int)) : ∃ zs code, GeRes N rows zs code ∧ zs.length ≤ 1048576 ∧ ∀ i, i < zs.length → (zs.getD i []).length ≤ 1048576 := by
  by_cases h : Sys N rows
  · obtain ⟨zs, code, hg⟩ := GrpR.ex N.toNat rows
    obtain ⟨n, rfl⟩ := Int.eq_ofNat_of_zero_le (show 0 ≤ N by have := h.1; omega)
    have h1 := h.1
    have h2 := h.2.1
    have hs := GrpR.size (by rw [Int.toNat_natCast]; omega) (by rw [Int.toNat_natCast]; omega) (by rw [Int.toNat_natCast]; exact h.gens) hg
    exact ⟨zs, code, .inl ⟨h, hg⟩, hs.1, hs.2⟩
  · exact ⟨_, _, .inr ⟨h, rfl, rfl⟩, by simp, by simp⟩
def LgRes (f s : List (List Int)) (zs : List (List Int)) (code : Int) : Prop := (NdS f s ∧ GrpR f.length f zs code) ∨ (¬ NdS f s ∧ zs = [] ∧ code = 1)
theorem LgRes.ex (f s : List (List Int)) : ∃ zs code, LgRes f s zs code ∧ zs.length ≤ 1048576 ∧ ∀ i, i < zs.length → (zs.getD i []).length ≤ 1048576 := by
  by_cases h : NdS f s
  · obtain ⟨zs, code, hg⟩ := GrpR.ex f.length f
    have h1 := h.sizes rfl
    have hs := GrpR.size h1.1 h1.2.1 (h.lam rfl) hg
    exact ⟨zs, code, .inl ⟨h, hg⟩, hs.1, hs.2⟩
  · exact ⟨_, _, .inr ⟨h, rfl, rfl⟩, by simp, by simp⟩
theorem NdS.sys {f s : List (List Int)} {n : Nat} (h : NdS f s) (hn : f.length = n) : Sys (n : Int) f := by
  have h1 := h.sizes hn
  exact ⟨by omega, by omega, by omega, fun i hi => ⟨by rw [(h.lam hn i hi).1], h.2.1 i hi⟩⟩
end Go.Proofs.Ytbhlcfcmjildmaa
namespace Go.Proofs.Ytbhlcfcmjildmaa
open Go Go.RowKit
set_option maxHeartbeats 2000000

theorem L3.of_blk {w : World} {b : Nat} {t : TypeId} {x y z : Nat} (h : Blk w b t [.int .i64 x, .int .i64 y, .int .i64 z]) : L3 w b x y z := ⟨h.lt, h.cell 0 _ rfl, h.cell 1 _ rfl, h.cell 2 _ rfl⟩

theorem lst3_inj {a b : Nat × Nat × Nat} (h : lst3 a = lst3 b) : a = b := by
  obtain ⟨a1, a2, a3⟩ := a
  obtain ⟨b1, b2, b3⟩ := b
  simp [lst3] at h
  obtain ⟨h1, h2, h3⟩ := h
  have e1 : a1 = b1 := by omega
  have e2 : a2 = b2 := by omega
  have e3 : a3 = b3 := by omega
  rw [e1, e2, e3]

set_option maxRecDepth 100000 in
theorem faultS_any (A : Option Addr) (n c : Nat) (f : List (List Int)) (B : Option Addr) (m d : Nat) (s : List (List Int)) (T : Nat) (w : World) (hz : ZArg 1048576 w A n f B m s) (hp : PMap f s) (hT : First f s n T) :
    Calls Try.prog 54 #[.agg #[.slice A n c, .slice B m d]] w fun e w' => ∃ g k zs, e = .returned (.slice (some ⟨g, 0, none⟩) k k) ∧ Below w.heap.size w w' ∧ w.heap.size ≤ g ∧ OwnB 2 w' g zs ∧ ((T < n * n * n ∧ zs = lst3 (trip n T) ∧ k = 3) ∨ (T = n * n * n ∧ zs = [] ∧ k = 0)) := by
  have hnb := hz.sz.nb
  have HZ := hide hz
  have HP := hide hp
  have HT := hide hT
  have HFL := hide hz.sz.fl
  have h12 := hz.small hp
  obtain rfl := hz.same hp
  have HB0 := hide ((Below.refl _ w).alloc (Nat.le_refl _) (Obj.cells #[Value.slice A m c, Value.slice B m d] 29))
  have HK0 := hide (Blk.new w 29 [.slice A m c, .slice B m d])
  clear hp hz hT
  go_enter Try.func54, Try.ntmps54
  go_wp2_with fail
  go_loopw [4] (fun i wr => ∃ x : Nat, x ≤ m ∧ i = .int .i64 x ∧ Below w.heap.size w wr ∧ Blk wr w.heap.size 29 [.slice A m c, .slice B m d] ∧ ∀ i, i < x * m * m → Eq3 f s m i) (fun i _ => m - (intOf i).toNat)
  case atStart => exact ⟨0, Nat.zero_le _, rfl, HB0.out, HK0.out, fun i hi => absurd hi (by omega)⟩
  case round =>
    obtain ⟨x, hx, rfl, hbe, hkk, hall⟩ := hrel
    have HB := hide hbe
    have HK := hide hkk
    have HALL := hide hall
    clear hbe hkk hall
    have k0 := HK.out.cell 0 _ rfl
    have k1 := HK.out.cell 1 _ rfl
    by_cases hlt : x < m
    · have hxz : (x : Int) < m := by omega
      go_wp2_with fail
      clear k0 k1
      obtain ⟨wo, rfl⟩ : ∃ wo : World, wo = wr := ⟨_, rfl⟩
      go_loopw [5] (fun i wi => ∃ y : Nat, y ≤ m ∧ i = .int .i64 y ∧ Below w.heap.size w wi ∧ Blk wi w.heap.size 29 [.slice A m c, .slice B m d] ∧ ∀ i, i < (x * m + y) * m → Eq3 f s m i) (fun i _ => m - (intOf i).toNat)
      case atStart => exact ⟨0, Nat.zero_le _, rfl, HB.out, HK.out, HALL.out⟩
      case round =>
        obtain ⟨y, hy, rfl, hbi, hki, halli⟩ := hrel
        have HBI := hide hbi
        have HKI := hide hki
        have HALLI := hide halli
        clear hbi hki halli
        by_cases hlty : y < m
        · have hyz : (y : Int) < m := by omega
          go_wp2_with fail
          obtain ⟨wo2, rfl⟩ : ∃ wo : World, wo = wr := ⟨_, rfl⟩
          go_loopw [6] (fun i wi => ∃ z : Nat, z ≤ m ∧ i = .int .i64 z ∧ Below w.heap.size w wi ∧ Blk wi w.heap.size 29 [.slice A m c, .slice B m d] ∧ ∀ i, i < (x * m + y) * m + z → Eq3 f s m i) (fun i _ => m - (intOf i).toNat)
          case atStart => exact ⟨0, Nat.zero_le _, rfl, HBI.out, HKI.out, HALLI.out⟩
          case round =>
            obtain ⟨z, hzn, rfl, hbj, hkj, hallj⟩ := hrel
            have HBJ := hide hbj
            have HKJ := hide hkj
            have HALLJ := hide hallj
            clear hbj hkj hallj
            by_cases hltz : z < m
            · have hzz : (z : Int) < m := by omega
              go_wp2_with fail
              refine wp_gen fun W0 hW0 => ?_
              obtain ⟨Lb, hLb⟩ : ∃ Lb, wr.heap.size = Lb := ⟨_, rfl⟩
              have HBc : Hid (Below w.heap.size w W0) := hide (by rw [hW0]; exact HBJ.out.alloc HBJ.out.size _)
              have HKc : Hid (Blk W0 w.heap.size 29 [.slice A m c, .slice B m d]) := hide (by rw [hW0]; exact HKJ.out.alloc _)
              have HLc : Hid (Blk W0 Lb 2 [.int .i64 x, .int .i64 y, .int .i64 z]) := hide (by rw [hW0, ← hLb]; exact Blk.new _ _ _)
              have hlo : w.heap.size ≤ Lb := by rw [← hLb]; exact HBJ.out.size
              rw [hLb]
              clear hW0 hLb
              have I0 : Hid (In3 m (x, y, z)) := hide ⟨hlt, hlty, hltz⟩
              obtain ⟨⟨x1, y1, z1⟩, hE1⟩ : ∃ t, doAt f s 0 (x, y, z) = t := ⟨_, rfl⟩
              have E1 := hide hE1
              have I1 : Hid (In3 m (x1, y1, z1)) := hide (by rw [← hE1]; exact I0.out.do HP.out HFL.out 0)
              clear hE1
              obtain ⟨⟨x2, y2, z2⟩, hE2⟩ : ∃ t, doAt f s 1 (x1, y1, z1) = t := ⟨_, rfl⟩
              have E2 := hide hE2
              have I2 : Hid (In3 m (x2, y2, z2)) := hide (by rw [← hE2]; exact I1.out.do HP.out HFL.out 1)
              clear hE2
              obtain ⟨⟨x3, y3, z3⟩, hE3⟩ : ∃ t, doAt f s 0 (x2, y2, z2) = t := ⟨_, rfl⟩
              have E3 := hide hE3
              clear hE3
              obtain ⟨⟨s1, t1, r1⟩, hF1⟩ : ∃ t, doAt f s 1 (x, y, z) = t := ⟨_, rfl⟩
              have F1 := hide hF1
              have J1 : Hid (In3 m (s1, t1, r1)) := hide (by rw [← hF1]; exact I0.out.do HP.out HFL.out 1)
              clear hF1
              obtain ⟨⟨s2, t2, r2⟩, hF2⟩ : ∃ t, doAt f s 0 (s1, t1, r1) = t := ⟨_, rfl⟩
              have F2 := hide hF2
              have J2 : Hid (In3 m (s2, t2, r2)) := hide (by rw [← hF2]; exact J1.out.do HP.out HFL.out 0)
              clear hF2
              obtain ⟨⟨s3, t3, r3⟩, hF3⟩ : ∃ t, doAt f s 1 (s2, t2, r2) = t := ⟨_, rfl⟩
              have F3 := hide hF3
              clear hF3
              have hlef : lef f s (x, y, z) = (x3, y3, z3) := by unfold lef; rw [E1.out, E2.out, E3.out]
              have hrig : rig f s (x, y, z) = (s3, t3, r3) := by unfold rig; rw [F1.out, F2.out, F3.out]
              have htr : trip m ((x * m + y) * m + z) = (x, y, z) := trip_of hlty hltz
              have heq : Eq3 f s m ((x * m + y) * m + z) ↔ (x3, y3, z3) = (s3, t3, r3) := by unfold Eq3; rw [htr, hlef, hrig]
              have hklt : (x * m + y) * m + z < m * m * m := trip_lt hlt hlty hltz
              have HEQ := hide heq
              have HTR := hide htr
              have HKL := hide hklt
              clear hlef hrig htr heq hklt
              by_cases hcs : (x3, y3, z3) = (s3, t3, r3)
              · have HGOOD := hide (HEQ.out.2 hcs)
                have HCS := hide hcs
                clear hcs
                have tok0 : True := trivial
                have tok1 : True := trivial
                have tok2 : True := trivial
                have tok3 : True := trivial
                have tok4 : True := trivial
                have k0 := HKc.out.cell 0 _ rfl
                have k1 := HKc.out.cell 1 _ rfl
                go_region_held3 (fun w' => w'.cell? ⟨w.heap.size, 0, none⟩ = some (.slice A m c) ∧ w'.cell? ⟨w.heap.size, 1, none⟩ = some (.slice B m d)) (first | exact ⟨k0, k1⟩ | go_keep) (first | (go_at_call 59; have _t := tok0; clear _t tok0; go_must (refine calls_gen fun wc hwc => ?_; (first | have hbx := drew_below hwc | have hbx := eq_below hwc); replace HBc := hide (HBc.out.trans (hbx.mono HBc.out.size)); replace HKc := hide (HKc.out.later hbx); replace HLc := hide (HLc.out.later hbx); clear hwc hbx; refine (do0_any _ _ _ f _ _ _ s _ _ x y z x1 y1 z1 _ (HZ.out.later HBc.out) HP.out I0.out E1.out (L3.of_blk HLc.out)).mono ?_; rintro e wd ⟨gG1, cG1, rfl, hbd, hgG1, hlG1⟩; replace HBc := hide (HBc.out.trans (hbd.mono HBc.out.size)); replace HKc := hide (HKc.out.later hbd); replace HLc := hide (HLc.out.later hbd); clear hbd; have k0 := HKc.out.cell 0 _ rfl; have k1 := HKc.out.cell 1 _ rfl; have G1 := hide hlG1; clear hlG1 hgG1)) | (go_at_call 59; have _t := tok1; clear _t tok1; go_must (refine calls_gen fun wc hwc => ?_; (first | have hbx := drew_below hwc | have hbx := eq_below hwc); replace HBc := hide (HBc.out.trans (hbx.mono HBc.out.size)); replace HKc := hide (HKc.out.later hbx); replace HLc := hide (HLc.out.later hbx); replace G1 := hide (G1.out.later hbx); clear hwc hbx; refine (do1_any _ _ _ f _ _ _ s _ _ x1 y1 z1 x2 y2 z2 _ (HZ.out.later HBc.out) HP.out I1.out E2.out G1.out).mono ?_; rintro e wd ⟨gG2, cG2, rfl, hbd, hgG2, hlG2⟩; replace HBc := hide (HBc.out.trans (hbd.mono HBc.out.size)); replace HKc := hide (HKc.out.later hbd); replace HLc := hide (HLc.out.later hbd); replace G1 := hide (G1.out.later hbd); clear hbd; have k0 := HKc.out.cell 0 _ rfl; have k1 := HKc.out.cell 1 _ rfl; have G2 := hide hlG2; clear hlG2 hgG2)) | (go_at_call 59; have _t := tok2; clear _t tok2; go_must (refine calls_gen fun wc hwc => ?_; (first | have hbx := drew_below hwc | have hbx := eq_below hwc); replace HBc := hide (HBc.out.trans (hbx.mono HBc.out.size)); replace HKc := hide (HKc.out.later hbx); replace HLc := hide (HLc.out.later hbx); replace G1 := hide (G1.out.later hbx); replace G2 := hide (G2.out.later hbx); clear hwc hbx; refine (do0_any _ _ _ f _ _ _ s _ _ x2 y2 z2 x3 y3 z3 _ (HZ.out.later HBc.out) HP.out I2.out E3.out G2.out).mono ?_; rintro e wd ⟨gG3, cG3, rfl, hbd, hgG3, hlG3⟩; replace HBc := hide (HBc.out.trans (hbd.mono HBc.out.size)); replace HKc := hide (HKc.out.later hbd); replace HLc := hide (HLc.out.later hbd); replace G1 := hide (G1.out.later hbd); replace G2 := hide (G2.out.later hbd); clear hbd; have k0 := HKc.out.cell 0 _ rfl; have k1 := HKc.out.cell 1 _ rfl; have G3 := hide hlG3; clear hlG3 hgG3)) | (go_at_call 59; have _t := tok3; clear _t tok3; go_must (refine calls_gen fun wc hwc => ?_; (first | have hbx := drew_below hwc | have hbx := eq_below hwc); replace HBc := hide (HBc.out.trans (hbx.mono HBc.out.size)); replace HKc := hide (HKc.out.later hbx); replace HLc := hide (HLc.out.later hbx); replace G1 := hide (G1.out.later hbx); replace G2 := hide (G2.out.later hbx); replace G3 := hide (G3.out.later hbx); clear hwc hbx; refine (do1_any _ _ _ f _ _ _ s _ _ x y z s1 t1 r1 _ (HZ.out.later HBc.out) HP.out I0.out F1.out (L3.of_blk HLc.out)).mono ?_; rintro e wd ⟨gG4, cG4, rfl, hbd, hgG4, hlG4⟩; replace HBc := hide (HBc.out.trans (hbd.mono HBc.out.size)); replace HKc := hide (HKc.out.later hbd); replace HLc := hide (HLc.out.later hbd); replace G1 := hide (G1.out.later hbd); replace G2 := hide (G2.out.later hbd); replace G3 := hide (G3.out.later hbd); clear hbd; have k0 := HKc.out.cell 0 _ rfl; have k1 := HKc.out.cell 1 _ rfl; have G4 := hide hlG4; clear hlG4 hgG4)) | (go_at_call 59; have _t := tok4; clear _t tok4; go_must (refine calls_gen fun wc hwc => ?_; (first | have hbx := drew_below hwc | have hbx := eq_below hwc); replace HBc := hide (HBc.out.trans (hbx.mono HBc.out.size)); replace HKc := hide (HKc.out.later hbx); replace HLc := hide (HLc.out.later hbx); replace G1 := hide (G1.out.later hbx); replace G2 := hide (G2.out.later hbx); replace G3 := hide (G3.out.later hbx); replace G4 := hide (G4.out.later hbx); clear hwc hbx; refine (do0_any _ _ _ f _ _ _ s _ _ s1 t1 r1 s2 t2 r2 _ (HZ.out.later HBc.out) HP.out J1.out F2.out G4.out).mono ?_; rintro e wd ⟨gG5, cG5, rfl, hbd, hgG5, hlG5⟩; replace HBc := hide (HBc.out.trans (hbd.mono HBc.out.size)); replace HKc := hide (HKc.out.later hbd); replace HLc := hide (HLc.out.later hbd); replace G1 := hide (G1.out.later hbd); replace G2 := hide (G2.out.later hbd); replace G3 := hide (G3.out.later hbd); replace G4 := hide (G4.out.later hbd); clear hbd; have k0 := HKc.out.cell 0 _ rfl; have k1 := HKc.out.cell 1 _ rfl; have G5 := hide hlG5; clear hlG5 hgG5)) | (go_at_call 59; go_must (refine calls_gen fun wc hwc => ?_; (first | have hbx := drew_below hwc | have hbx := eq_below hwc); replace HBc := hide (HBc.out.trans (hbx.mono HBc.out.size)); replace HKc := hide (HKc.out.later hbx); replace HLc := hide (HLc.out.later hbx); replace G1 := hide (G1.out.later hbx); replace G2 := hide (G2.out.later hbx); replace G3 := hide (G3.out.later hbx); replace G4 := hide (G4.out.later hbx); replace G5 := hide (G5.out.later hbx); clear hwc hbx; refine (do1_any _ _ _ f _ _ _ s _ _ s2 t2 r2 s3 t3 r3 _ (HZ.out.later HBc.out) HP.out J2.out F3.out G5.out).mono ?_; rintro e wd ⟨gG6, cG6, rfl, hbd, hgG6, hlG6⟩; replace HBc := hide (HBc.out.trans (hbd.mono HBc.out.size)); replace HKc := hide (HKc.out.later hbd); replace HLc := hide (HLc.out.later hbd); replace G1 := hide (G1.out.later hbd); replace G2 := hide (G2.out.later hbd); replace G3 := hide (G3.out.later hbd); replace G4 := hide (G4.out.later hbd); replace G5 := hide (G5.out.later hbd); clear hbd; have k0 := HKc.out.cell 0 _ rfl; have k1 := HKc.out.cell 1 _ rfl; have G6 := hide hlG6; clear hlG6 hgG6)) | (go_at_call 78; go_must (refine calls_gen fun wc hwc => ?_; (first | have hbx := drew_below hwc | have hbx := eq_below hwc); replace HBc := hide (HBc.out.trans (hbx.mono HBc.out.size)); replace HKc := hide (HKc.out.later hbx); replace HLc := hide (HLc.out.later hbx); replace G3 := hide (G3.out.later hbx); replace G6 := hide (G6.out.later hbx); clear hwc hbx; refine (same_any _ _ _ _ _ _ (lst3 (x3, y3, z3)) (lst3 (s3, t3, r3)) true _ (show (lst3 (x3, y3, z3)).length = 3 from rfl) (show (lst3 (s3, t3, r3)).length = 3 from rfl) (by omega) (by omega) G3.out.rd G6.out.rd (by rw [HCS.out]; simp)).mono ?_; rintro e wd ⟨rfl, hqd⟩; have hbd := hqd.below wc.heap.size; replace HBc := hide (HBc.out.trans (hbd.mono HBc.out.size)); replace HKc := hide (HKc.out.later hbd); replace HLc := hide (HLc.out.later hbd); clear hqd hbd; have k0 := HKc.out.cell 0 _ rfl; have k1 := HKc.out.cell 1 _ rfl)))
                clear k0 k1
                go_wp2_with fail
                go_roundw
                case rel => exact ⟨z + 1, by omega, by go_num, HBc.out, HKc.out, fun i hi => by
                  by_cases e : i = (x * m + y) * m + z
                  · rw [e]; exact HGOOD.out
                  · exact HALLJ.out i (by omega)⟩
                case measure => simp [intOf]; omega
              · have hbad : ¬ Eq3 f s m ((x * m + y) * m + z) := fun h => hcs (HEQ.out.1 h)
                have HTB := hide (HT.out.bad HALLJ.out HKL.out hbad)
                have HCS := hide hcs
                clear hcs hbad
                have tok0 : True := trivial
                have tok1 : True := trivial
                have tok2 : True := trivial
                have tok3 : True := trivial
                have tok4 : True := trivial
                have k0 := HKc.out.cell 0 _ rfl
                have k1 := HKc.out.cell 1 _ rfl
                go_region_held3 (fun w' => w'.cell? ⟨w.heap.size, 0, none⟩ = some (.slice A m c) ∧ w'.cell? ⟨w.heap.size, 1, none⟩ = some (.slice B m d)) (first | exact ⟨k0, k1⟩ | go_keep) (first | (go_at_call 59; have _t := tok0; clear _t tok0; go_must (refine calls_gen fun wc hwc => ?_; (first | have hbx := drew_below hwc | have hbx := eq_below hwc); replace HBc := hide (HBc.out.trans (hbx.mono HBc.out.size)); replace HKc := hide (HKc.out.later hbx); replace HLc := hide (HLc.out.later hbx); clear hwc hbx; refine (do0_any _ _ _ f _ _ _ s _ _ x y z x1 y1 z1 _ (HZ.out.later HBc.out) HP.out I0.out E1.out (L3.of_blk HLc.out)).mono ?_; rintro e wd ⟨gG1, cG1, rfl, hbd, hgG1, hlG1⟩; replace HBc := hide (HBc.out.trans (hbd.mono HBc.out.size)); replace HKc := hide (HKc.out.later hbd); replace HLc := hide (HLc.out.later hbd); clear hbd; have k0 := HKc.out.cell 0 _ rfl; have k1 := HKc.out.cell 1 _ rfl; have G1 := hide hlG1; clear hlG1 hgG1)) | (go_at_call 59; have _t := tok1; clear _t tok1; go_must (refine calls_gen fun wc hwc => ?_; (first | have hbx := drew_below hwc | have hbx := eq_below hwc); replace HBc := hide (HBc.out.trans (hbx.mono HBc.out.size)); replace HKc := hide (HKc.out.later hbx); replace HLc := hide (HLc.out.later hbx); replace G1 := hide (G1.out.later hbx); clear hwc hbx; refine (do1_any _ _ _ f _ _ _ s _ _ x1 y1 z1 x2 y2 z2 _ (HZ.out.later HBc.out) HP.out I1.out E2.out G1.out).mono ?_; rintro e wd ⟨gG2, cG2, rfl, hbd, hgG2, hlG2⟩; replace HBc := hide (HBc.out.trans (hbd.mono HBc.out.size)); replace HKc := hide (HKc.out.later hbd); replace HLc := hide (HLc.out.later hbd); replace G1 := hide (G1.out.later hbd); clear hbd; have k0 := HKc.out.cell 0 _ rfl; have k1 := HKc.out.cell 1 _ rfl; have G2 := hide hlG2; clear hlG2 hgG2)) | (go_at_call 59; have _t := tok2; clear _t tok2; go_must (refine calls_gen fun wc hwc => ?_; (first | have hbx := drew_below hwc | have hbx := eq_below hwc); replace HBc := hide (HBc.out.trans (hbx.mono HBc.out.size)); replace HKc := hide (HKc.out.later hbx); replace HLc := hide (HLc.out.later hbx); replace G1 := hide (G1.out.later hbx); replace G2 := hide (G2.out.later hbx); clear hwc hbx; refine (do0_any _ _ _ f _ _ _ s _ _ x2 y2 z2 x3 y3 z3 _ (HZ.out.later HBc.out) HP.out I2.out E3.out G2.out).mono ?_; rintro e wd ⟨gG3, cG3, rfl, hbd, hgG3, hlG3⟩; replace HBc := hide (HBc.out.trans (hbd.mono HBc.out.size)); replace HKc := hide (HKc.out.later hbd); replace HLc := hide (HLc.out.later hbd); replace G1 := hide (G1.out.later hbd); replace G2 := hide (G2.out.later hbd); clear hbd; have k0 := HKc.out.cell 0 _ rfl; have k1 := HKc.out.cell 1 _ rfl; have G3 := hide hlG3; clear hlG3 hgG3)) | (go_at_call 59; have _t := tok3; clear _t tok3; go_must (refine calls_gen fun wc hwc => ?_; (first | have hbx := drew_below hwc | have hbx := eq_below hwc); replace HBc := hide (HBc.out.trans (hbx.mono HBc.out.size)); replace HKc := hide (HKc.out.later hbx); replace HLc := hide (HLc.out.later hbx); replace G1 := hide (G1.out.later hbx); replace G2 := hide (G2.out.later hbx); replace G3 := hide (G3.out.later hbx); clear hwc hbx; refine (do1_any _ _ _ f _ _ _ s _ _ x y z s1 t1 r1 _ (HZ.out.later HBc.out) HP.out I0.out F1.out (L3.of_blk HLc.out)).mono ?_; rintro e wd ⟨gG4, cG4, rfl, hbd, hgG4, hlG4⟩; replace HBc := hide (HBc.out.trans (hbd.mono HBc.out.size)); replace HKc := hide (HKc.out.later hbd); replace HLc := hide (HLc.out.later hbd); replace G1 := hide (G1.out.later hbd); replace G2 := hide (G2.out.later hbd); replace G3 := hide (G3.out.later hbd); clear hbd; have k0 := HKc.out.cell 0 _ rfl; have k1 := HKc.out.cell 1 _ rfl; have G4 := hide hlG4; clear hlG4 hgG4)) | (go_at_call 59; have _t := tok4; clear _t tok4; go_must (refine calls_gen fun wc hwc => ?_; (first | have hbx := drew_below hwc | have hbx := eq_below hwc); replace HBc := hide (HBc.out.trans (hbx.mono HBc.out.size)); replace HKc := hide (HKc.out.later hbx); replace HLc := hide (HLc.out.later hbx); replace G1 := hide (G1.out.later hbx); replace G2 := hide (G2.out.later hbx); replace G3 := hide (G3.out.later hbx); replace G4 := hide (G4.out.later hbx); clear hwc hbx; refine (do0_any _ _ _ f _ _ _ s _ _ s1 t1 r1 s2 t2 r2 _ (HZ.out.later HBc.out) HP.out J1.out F2.out G4.out).mono ?_; rintro e wd ⟨gG5, cG5, rfl, hbd, hgG5, hlG5⟩; replace HBc := hide (HBc.out.trans (hbd.mono HBc.out.size)); replace HKc := hide (HKc.out.later hbd); replace HLc := hide (HLc.out.later hbd); replace G1 := hide (G1.out.later hbd); replace G2 := hide (G2.out.later hbd); replace G3 := hide (G3.out.later hbd); replace G4 := hide (G4.out.later hbd); clear hbd; have k0 := HKc.out.cell 0 _ rfl; have k1 := HKc.out.cell 1 _ rfl; have G5 := hide hlG5; clear hlG5 hgG5)) | (go_at_call 59; go_must (refine calls_gen fun wc hwc => ?_; (first | have hbx := drew_below hwc | have hbx := eq_below hwc); replace HBc := hide (HBc.out.trans (hbx.mono HBc.out.size)); replace HKc := hide (HKc.out.later hbx); replace HLc := hide (HLc.out.later hbx); replace G1 := hide (G1.out.later hbx); replace G2 := hide (G2.out.later hbx); replace G3 := hide (G3.out.later hbx); replace G4 := hide (G4.out.later hbx); replace G5 := hide (G5.out.later hbx); clear hwc hbx; refine (do1_any _ _ _ f _ _ _ s _ _ s2 t2 r2 s3 t3 r3 _ (HZ.out.later HBc.out) HP.out J2.out F3.out G5.out).mono ?_; rintro e wd ⟨gG6, cG6, rfl, hbd, hgG6, hlG6⟩; replace HBc := hide (HBc.out.trans (hbd.mono HBc.out.size)); replace HKc := hide (HKc.out.later hbd); replace HLc := hide (HLc.out.later hbd); replace G1 := hide (G1.out.later hbd); replace G2 := hide (G2.out.later hbd); replace G3 := hide (G3.out.later hbd); replace G4 := hide (G4.out.later hbd); replace G5 := hide (G5.out.later hbd); clear hbd; have k0 := HKc.out.cell 0 _ rfl; have k1 := HKc.out.cell 1 _ rfl; have G6 := hide hlG6; clear hlG6 hgG6)) | (go_at_call 78; go_must (refine calls_gen fun wc hwc => ?_; (first | have hbx := drew_below hwc | have hbx := eq_below hwc); replace HBc := hide (HBc.out.trans (hbx.mono HBc.out.size)); replace HKc := hide (HKc.out.later hbx); replace HLc := hide (HLc.out.later hbx); replace G3 := hide (G3.out.later hbx); replace G6 := hide (G6.out.later hbx); clear hwc hbx; refine (same_any _ _ _ _ _ _ (lst3 (x3, y3, z3)) (lst3 (s3, t3, r3)) false _ (show (lst3 (x3, y3, z3)).length = 3 from rfl) (show (lst3 (s3, t3, r3)).length = 3 from rfl) (by omega) (by omega) G3.out.rd G6.out.rd (by constructor <;> intro h; cases h; exact absurd h (fun h => HCS.out (lst3_inj h)))).mono ?_; rintro e wd ⟨rfl, hqd⟩; have hbd := hqd.below wc.heap.size; replace HBc := hide (HBc.out.trans (hbd.mono HBc.out.size)); replace HKc := hide (HKc.out.later hbd); replace HLc := hide (HLc.out.later hbd); clear hqd hbd; have k0 := HKc.out.cell 0 _ rfl; have k1 := HKc.out.cell 1 _ rfl)))
                clear k0 k1
                go_wp2_with fail
                go_ret
                exact ⟨Lb, 3, lst3 (x, y, z), rfl, HBc.out, hlo, ⟨_, HLc.out, fun i hi => by
                  simp [lst3] at hi
                  rcases i with _ | _ | _ | i
                  · rfl
                  · rfl
                  · rfl
                  · omega⟩, .inl ⟨by rw [HTB.out]; exact HKL.out, by rw [HTB.out, HTR.out], rfl⟩⟩
            · have hzn' : z = m := by omega
              subst hzn'
              go_wp2_with fail
              go_roundw
              case rel => exact ⟨y + 1, by omega, by go_num, HBJ.out, HKJ.out, fun i hi => HALLJ.out i (by rw [← Nat.add_assoc, Nat.add_mul _ 1, Nat.one_mul] at hi; exact hi)⟩
              case measure => simp [intOf]; omega
        · have hyn' : y = m := by omega
          subst hyn'
          go_wp2_with fail
          go_roundw
          case rel => exact ⟨x + 1, by omega, by go_num, HBI.out, HKI.out, fun i hi => HALLI.out i (by rw [Nat.add_mul x 1, Nat.one_mul] at hi; exact hi)⟩
          case measure => simp [intOf]; omega
    · have hxn : x = m := by omega
      subst hxn
      clear k0 k1
      go_wp2_with fail
      refine bp_gen fun wf hwf => ?_
      have HBF : Below w.heap.size w wf := by rw [hwf]; exact HB.out.alloc HB.out.size _
      have HOF : OwnB 2 wf wr.heap.size [] := by rw [hwf]; exact ⟨_, heap_alloc_new _ _, fun i hi => absurd hi (Nat.not_lt_zero _)⟩
      have hlo : w.heap.size ≤ wr.heap.size := HB.out.size
      clear hwf
      go_ret
      exact ⟨wr.heap.size, 0, _, rfl, HBF, hlo, HOF, .inr ⟨HT.out.all HALL.out, rfl, rfl⟩⟩
end Go.Proofs.Ytbhlcfcmjildmaa
