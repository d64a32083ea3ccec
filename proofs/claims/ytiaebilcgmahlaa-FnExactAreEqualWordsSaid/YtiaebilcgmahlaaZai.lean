import Derived.Test.YtiaebilcgmahlaaZp
import Derived.Test.YtiaebilcgmahlaaZx
import Derived.Test.YtiaebilcgmahlaaZad
import Derived.Test.YtiaebilcgmahlaaZac
import Derived.Deep.Cut
import Derived.Deep.DeepCutAuto
namespace Go.Proofs.Ytiaebilcgmahlaa
open Go Go.RowKit
set_option maxHeartbeats 4000000

set_option maxRecDepth 100000 in
theorem moved_any (F : FuncId) (u : Value) (n k : Nat) (h1 h2 : Nat → Nat → Int) (xs : List Int) (x y : Nat) (w : World) (eg : ∀ args w, (callFunc F args).run Try.prog w = .ok (.enter F args) w) (hl : xs.length = 12) (hk : k + 1 < 12) (hx : xs.getD k 0 = x) (hy : xs.getD (k + 1) 0 = y) (hxn : x < n) (hyn : y < n) (hp : PairFnB Try.prog F u n h1 h2 w) :
    Calls Try.prog 99 #[.agg (ints xs).toArray, .int .i64 k, .func (.func F) #[u] #[]] w fun e w' => e = .returned (.agg (ints ((xs.set k (h1 x y)).set (k + 1) (h2 x y))).toArray) ∧ Below w.heap.size w w' := by
  have HPF := hide hp
  obtain ⟨r1, hr1⟩ : ∃ r, h1 x y = r := ⟨_, rfl⟩
  obtain ⟨r2, hr2⟩ : ∃ r, h2 x y = r := ⟨_, rfl⟩
  rw [hr1, hr2]
  have HE1 := hide hr1
  have HE2 := hide hr2
  have hys : ((xs.set k r1).set (k + 1) r2).length = 12 := by simp [hl]
  obtain ⟨a0, a1, a2, a3, a4, a5, a6, a7, a8, a9, a10, a11, rfl⟩ := list12 hl
  have hx1 := ints_at [a0, a1, a2, a3, a4, a5, a6, a7, a8, a9, a10, a11] k (by simp; omega)
  have hx2 := ints_at [a0, a1, a2, a3, a4, a5, a6, a7, a8, a9, a10, a11] (k + 1) (by simp; omega)
  rw [hx] at hx1
  rw [hy] at hx2
  have HX1 := hide hx1
  have HX2 := hide hx2
  obtain ⟨ys, hyy⟩ : ∃ ys, ([a0, a1, a2, a3, a4, a5, a6, a7, a8, a9, a10, a11].set k r1).set (k + 1) r2 = ys := ⟨_, rfl⟩
  rw [hyy] at hys ⊢
  obtain ⟨b0, b1, b2, b3, b4, b5, b6, b7, b8, b9, b10, b11, rfl⟩ := list12 hys
  have HYY := hide hyy
  clear hp hr1 hr2 hl hx hy hx1 hx2 hyy hys
  show Calls Try.prog 99 #[.agg #[.int .i64 a0, .int .i64 a1, .int .i64 a2, .int .i64 a3, .int .i64 a4, .int .i64 a5, .int .i64 a6, .int .i64 a7, .int .i64 a8, .int .i64 a9, .int .i64 a10, .int .i64 a11], .int .i64 k, .func (.func F) #[u] #[]] w fun e w' => e = .returned (.agg #[.int .i64 b0, .int .i64 b1, .int .i64 b2, .int .i64 b3, .int .i64 b4, .int .i64 b5, .int .i64 b6, .int .i64 b7, .int .i64 b8, .int .i64 b9, .int .i64 b10, .int .i64 b11]) ∧ Below w.heap.size w w'
  have hkz : (k : Int) < 12 := by omega
  obtain ⟨k1, hk1⟩ : ∃ k1, k + 1 = k1 := ⟨_, rfl⟩
  have hk1n : ((k : Int) + 1) = (k1 : Int) := by omega
  have hk1z : (k1 : Int) < 12 := by omega
  have hk1w : IntKind.i64.wrap (k1 : Int) = (k1 : Int) := IntWalk.i64_in _ (by omega)
  rw [hk1] at hk HX2 HYY
  have HK1 := hide hk1
  clear hk1
  go_enter Try.func99, Try.ntmps99
  go_upto_region 1 with fail
  refine wp_gen fun w0 hw0 => ?_
  have hb0 : Below w.heap.size w w0 := by rw [hw0]; exact ((Below.refl _ _).alloc (Nat.le_refl _) _).alloc (by simp) _
  have ha1 : Blk w0 w.heap.size 65 (ints [a0, a1, a2, a3, a4, a5, a6, a7, a8, a9, a10, a11]) := by rw [hw0]; exact (Blk.new w 65 (ints [a0, a1, a2, a3, a4, a5, a6, a7, a8, a9, a10, a11])).alloc _
  have ha2 : Blk w0 (w.heap.size + 1) 65 (ints (List.replicate 12 0)) := by rw [hw0]; have h := Blk.new (w.alloc (Obj.cells #[Value.int IntKind.i64 a0, Value.int IntKind.i64 a1, Value.int IntKind.i64 a2, Value.int IntKind.i64 a3, Value.int IntKind.i64 a4, Value.int IntKind.i64 a5, Value.int IntKind.i64 a6, Value.int IntKind.i64 a7, Value.int IntKind.i64 a8, Value.int IntKind.i64 a9, Value.int IntKind.i64 a10, Value.int IntKind.i64 a11] 65)) 65 (ints (List.replicate 12 0)); have e : (w.alloc (Obj.cells #[Value.int IntKind.i64 a0, Value.int IntKind.i64 a1, Value.int IntKind.i64 a2, Value.int IntKind.i64 a3, Value.int IntKind.i64 a4, Value.int IntKind.i64 a5, Value.int IntKind.i64 a6, Value.int IntKind.i64 a7, Value.int IntKind.i64 a8, Value.int IntKind.i64 a9, Value.int IntKind.i64 a10, Value.int IntKind.i64 a11] 65)).heap.size = w.heap.size + 1 := (by simp); rw [e] at h; exact h
  obtain ⟨CA, hCA⟩ : ∃ CA, ints [a0, a1, a2, a3, a4, a5, a6, a7, a8, a9, a10, a11] = CA := ⟨_, rfl⟩
  obtain ⟨CZ, hCZ⟩ : ∃ CZ, ints (List.replicate 12 0) = CZ := ⟨_, rfl⟩
  rw [hCA] at ha1
  rw [hCZ] at ha2
  have HCA := hide hCA
  have HCZ := hide hCZ
  rw [hCA] at HX1 HX2
  clear hCA hCZ
  have HF : Hid (FC w w0 w0.heap.size [(w.heap.size, 65, CA), (w.heap.size + 1, 65, CZ)]) := hide (FC.of hb0 (by
    intro q hq
    simp only [List.mem_cons, List.not_mem_nil, or_false] at hq
    rcases hq with rfl | rfl
    · exact ha1
    · exact ha2))
  have hlt0 : w.heap.size < w0.heap.size := ha1.lt
  clear hw0 hb0 ha1 ha2
  go_cut [7] (fun vv wx => ∃ L, vv = .pointer (some ⟨L, 0, none⟩) ∧ FC w wx (L + 1) ((L, 94, [.int .i64 r1, .int .i64 r2]) :: [(w.heap.size, 65, CA), (w.heap.size + 1, 65, CZ)]))
  case first =>
    have HPB : Hid True := hide trivial
    have e1 := (HF.out.blk (b := w.heap.size) (t := 65) (cs := CA) (by simp)).cell k _ HX1.out
    have e2 := (HF.out.blk (b := w.heap.size) (t := 65) (cs := CA) (by simp)).cell k1 _ HX2.out
    have fn0 : w0.heap.size ≠ w.heap.size := (by have h1 := HF.out.below.size; have h2 := (And.intro (HF.out.le (b := w.heap.size) (t := 65) (cs := CA) (by simp)) HF.out.sz); omega)
    have fm0 := fn0.symm
    go_region_held3 (fun w' => w'.cell? ⟨w.heap.size, k, none⟩ = some (.int .i64 x) ∧ w'.cell? ⟨w.heap.size, k1, none⟩ = some (.int .i64 y)) (first | exact ⟨e1, e2⟩ | go_keep) (first | (go_at_fn F; go_must (refine calls_gen fun wc hwc => ?_; (first | (have hbx := al_drew_below hwc; have HPB := hide (And.intro (blk_al_drew hwc) HF.out.sz)) | (have hbx := al_below hwc; have HPB := hide (And.intro (blk_al hwc) HF.out.sz)) | (have hbx := drew_below hwc; (first | replace HPB := hide (And.intro (HPB.out.1.later hbx) HPB.out.2) | skip)) | (have hbx := eq_below hwc; (first | replace HPB := hide (And.intro (HPB.out.1.later hbx) HPB.out.2) | skip))); replace HF := hide (HF.out.later hbx); clear hwc hbx; refine (HPF.out wc x y hxn hyn HF.out.below).mono ?_; rintro e wd ⟨rfl, hbd⟩; rw [HE1.out, HE2.out]; replace HF := hide (HF.out.later hbd); (first | replace HPB := hide (And.intro (HPB.out.1.later hbd) HPB.out.2) | skip); clear hbd; have fn0 : wd.heap.size ≠ w.heap.size := (by have h1 := HF.out.below.size; have h2 := (And.intro (HF.out.le (b := w.heap.size) (t := 65) (cs := CA) (by simp)) HF.out.sz); omega); have fm0 := fn0.symm; have e1 := (HF.out.blk (b := w.heap.size) (t := 65) (cs := CA) (by simp)).cell k _ HX1.out; have e2 := (HF.out.blk (b := w.heap.size) (t := 65) (cs := CA) (by simp)).cell k1 _ HX2.out; (first | (have b0 := HPB.out.1.cell 0 _ rfl; have b1 := HPB.out.1.cell 1 _ rfl; have bf0 := HPB.out.1.frozen 0; have bf1 := HPB.out.1.frozen 1) | skip); skip)))
    all_goals go_wp2_with fail
    all_goals go_meet
    all_goals refine ⟨_, rfl, ?_⟩
    all_goals first | exact HF.out.new _ _ | exact ((HF.out.set (p := ⟨_, 0, none⟩) HPB.out.2 _).set (p := ⟨_, 1, none⟩) HPB.out.2 _).push ((HPB.out.1.set 0 _).set 1 _) HPB.out.2
  case rest =>
    obtain ⟨L1, rfl, hfk⟩ := hcut
    replace HF := hide hfk
    clear hfk
    have HRA : Hid (Row 65 wc w.heap.size [a0, a1, a2, a3, a4, a5, a6, a7, a8, a9, a10, a11]) := hide (by have h := HF.out.blk (b := w.heap.size) (t := 65) (cs := CA) (by simp); rw [← HCA.out] at h; exact h)
    have HRB : Hid (Row 65 wc (w.heap.size + 1) (List.replicate 12 0)) := hide (by have h := HF.out.blk (b := w.heap.size + 1) (t := 65) (cs := CZ) (by simp); rw [← HCZ.out] at h; exact h)
    have HRP := hide (HF.out.blk (b := L1) (t := 94) (cs := [.int .i64 r1, .int .i64 r2]) (by simp))
    have HB1 := hide HF.out.below
    have hne0 : L1 ≠ w.heap.size := by
      intro e
      have h1 := HRP.out
      have h2 := HRA.out
      rw [e] at h1
      unfold Blk at h1
      unfold Row at h2
      rw [h1] at h2
      have h3 := congrArg (fun q : Option Obj => match q with | some (.cells c _ _) => c.size | _ => 0) h2
      simp [ints] at h3
    clear HF HCA HCZ
    have p0 := HRP.out.cell 0 _ rfl
    have p1 := HRP.out.cell 1 _ rfl
    have c1 := HRA.out.cell (i := k) (by simp; omega)
    have c2 := HRA.out.cell (i := k1) (by simp; omega)
    have f1 := HRA.out.frozen k
    have f2 := HRA.out.frozen k1
    have hlA := HRA.out.lt
    have hs2 := ((HRA.out.set k r1).set k1 r2)
    rw [HYY.out] at hs2
    have HSA := hide hs2
    clear hs2
    obtain ⟨old1, ho1⟩ : ∃ o, List.getD [a0, a1, a2, a3, a4, a5, a6, a7, a8, a9, a10, a11] k 0 = o := ⟨_, rfl⟩
    obtain ⟨old2, ho2⟩ : ∃ o, List.getD [a0, a1, a2, a3, a4, a5, a6, a7, a8, a9, a10, a11] k1 0 = o := ⟨_, rfl⟩
    rw [ho1] at c1
    rw [ho2] at c2
    have c3 := (HRA.out.set k r1).cell (i := k1) (by simp; omega)
    obtain ⟨old3, ho3⟩ : ∃ o, List.getD (List.set [a0, a1, a2, a3, a4, a5, a6, a7, a8, a9, a10, a11] k r1) k1 0 = o := ⟨_, rfl⟩
    rw [ho3] at c3
    clear ho1 ho2 ho3
    go_wp2_with fail
    have hy' : (wc.drew.setCell ⟨w.heap.size, k, none⟩ (.int .i64 r1)).cell? ⟨w.heap.size, k1, none⟩ = some (.int .i64 old3) := c3
    go_region
    refine ex_gen fun w3 hw3 => ?_
    have HR3 : Hid (Row 65 w3 w.heap.size [b0, b1, b2, b3, b4, b5, b6, b7, b8, b9, b10, b11]) := hide (by rw [hw3]; exact HSA.out)
    have HZ3 : Hid (Row 65 w3 (w.heap.size + 1) (List.replicate 12 0)) := hide (by rw [hw3]; exact (HRB.out.far (p := ⟨w.heap.size, k, none⟩) (by show w.heap.size + 1 ≠ w.heap.size; omega) (.int .i64 r1)).far (p := ⟨w.heap.size, k1, none⟩) (by show w.heap.size + 1 ≠ w.heap.size; omega) (.int .i64 r2))
    have HB3 : Hid (Below w.heap.size w w3) := hide (by rw [hw3]; exact ((HB1.out.setCell (p := ⟨w.heap.size, k, none⟩) (Nat.le_refl _) (.int .i64 r1)).setCell (p := ⟨w.heap.size, k1, none⟩) (Nat.le_refl _) (.int .i64 r2)).drew)
    clear hw3 HSA HRA HRB HB1 p0 p1 c1 c2 c3 f1 f2 hy' HRP HYY
    obtain ⟨ra0, rf0, ra1, rf1, ra2, rf2, ra3, rf3, ra4, rf4, ra5, rf5, ra6, rf6, ra7, rf7, ra8, rf8, ra9, rf9, ra10, rf10, ra11, rf11⟩ := row12 HR3.out
    obtain ⟨za0, zf0, za1, zf1, za2, zf2, za3, zf3, za4, zf4, za5, zf5, za6, zf6, za7, zf7, za8, zf8, za9, zf9, za10, zf10, za11, zf11⟩ := row12 (show Row 65 w3 (w.heap.size + 1) [0, 0, 0, 0, 0, 0, 0, 0, 0, 0, 0, 0] from HZ3.out)
    go_wp2_with fail
    refine bp_gen fun wf hwf => ?_
    have HRF : Row 65 wf (w.heap.size + 1) [b0, b1, b2, b3, b4, b5, b6, b7, b8, b9, b10, b11] := by rw [hwf]; exact row12_set (List.length_replicate ..) HZ3.out _ _ _ _ _ _ _ _ _ _ _ _
    have HBF : Below w.heap.size w wf := by rw [hwf]; exact below12_set HB3.out (by omega) _ _ _ _ _ _ _ _ _ _ _ _
    obtain ⟨q0, _, q1, _, q2, _, q3, _, q4, _, q5, _, q6, _, q7, _, q8, _, q9, _, q10, _, q11, _⟩ := row12 HRF
    clear hwf
    exact bodyPost_ret (v := .agg #[.int .i64 b0, .int .i64 b1, .int .i64 b2, .int .i64 b3, .int .i64 b4, .int .i64 b5, .int .i64 b6, .int .i64 b7, .int .i64 b8, .int .i64 b9, .int .i64 b10, .int .i64 b11]) (by simp [results, Try.results99, go_sem, q0, q1, q2, q3, q4, q5, q6, q7, q8, q9, q10, q11]) rfl ⟨rfl, HBF⟩
end Go.Proofs.Ytiaebilcgmahlaa
