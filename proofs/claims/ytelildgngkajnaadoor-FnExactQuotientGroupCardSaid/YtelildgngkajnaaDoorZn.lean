import Derived.Test.YtelildgngkajnaaDoorZl
import Derived.Test.YtelildgngkajnaaDoorZj
import Derived.Test.YtelildgngkajnaaDoorZk
import Derived.Test.YtelildgngkajnaaDoorZh
import Derived.Test.YtelildgngkajnaaDoorZb
import Derived.Test.YtelildgngkajnaaDoorZe
import Derived.Test.YtelildgngkajnaaDoorProg
import Derived.Deep.Cut
import Derived.Deep.RegionHeld3
import Derived.WalkSpells
namespace Go.Proofs.YtelildgngkajnaaDoor
open Go Go.RowKit
theorem ownsRow_mono {w : World} {B B' n : Nat} {e : TypeId} {v : Value} {xs : List Value} (hB : B' ≤ B) (h : w.ownsRow B e 1 v n xs) : w.ownsRow B' e 1 v n xs := by
  obtain ⟨h1, h2⟩ := h
  refine ⟨h1, ?_⟩
  rcases h2 with h2 | ⟨g, cap, cur, hv, hg, r⟩
  · exact .inl h2
  · exact .inr ⟨g, cap, cur, hv, Nat.le_trans hB hg, r⟩
/-- The subracks below k, as sets, in ascending order. -/
noncomputable def sbB (f : List (List Int)) (S : Nat) : Bool := @decide (SubF f S) (Classical.propDecidable _)
theorem sbB_iff (f : List (List Int)) (S : Nat) : sbB f S = true ↔ SubF f S := by
  unfold sbB
  exact @decide_eq_true_iff _ (Classical.propDecidable _)
noncomputable def sbN (f : List (List Int)) (k : Nat) : List Nat := (List.range k).filter fun S => sbB f S
theorem sbN_yes {f : List (List Int)} {k : Nat} (h : SubF f k) : sbN f (k + 1) = sbN f k ++ [k] := by
  unfold sbN
  have h2 := (sbB_iff f k).2 h
  rw [List.range_succ, List.filter_append]
  simp [h2]
theorem sbN_no {f : List (List Int)} {k : Nat} (h : ¬ SubF f k) : sbN f (k + 1) = sbN f k := by
  unfold sbN
  have h2 : sbB f k = false := by
    cases hb : sbB f k
    · rfl
    · exact absurd ((sbB_iff f k).1 hb) h
  rw [List.range_succ, List.filter_append]
  simp [h2]
theorem sbN_length (f : List (List Int)) (k : Nat) : (sbN f k).length ≤ k := by
  unfold sbN
  have := List.length_filter_le (fun S => sbB f S) (List.range k)
  simpa using this
noncomputable def sbL (f : List (List Int)) (k : Nat) : List Int := (sbN f k).map fun (x : Nat) => (x : Int)
theorem sbL_length (f : List (List Int)) (k : Nat) : (sbL f k).length = (sbN f k).length := by simp [sbL]
theorem sbL_yes {f : List (List Int)} {k : Nat} (h : SubF f k) : ints (sbL f (k + 1)) = ints (sbL f k) ++ [.int .i64 k] := by
  unfold sbL
  rw [sbN_yes h]
  simp [ints]
theorem sbL_no {f : List (List Int)} {k : Nat} (h : ¬ SubF f k) : sbL f (k + 1) = sbL f k := by
  unfold sbL
  rw [sbN_no h]
theorem SubF.zero (f : List (List Int)) : ¬ SubF f 0 := fun h => h.1 rfl
theorem sbN_one (f : List (List Int)) : sbN f 1 = [] := by rw [sbN_no (SubF.zero f)]; rfl
theorem sbL_one (f : List (List Int)) : sbL f 1 = [] := by unfold sbL; rw [sbN_one]; rfl
def SbRes (f : List (List Int)) (zs : List Int) (code : Int) : Prop := (Rck f ∧ zs = sbL f (2 ^ f.length) ∧ code = 0) ∨ (¬ Rck f ∧ zs = [] ∧ code = 1)
theorem SbRes.ex (f : List (List Int)) : ∃ zs code, SbRes f zs code ∧ zs.length ≤ 1048576 := by
  by_cases h : Rck f
  · refine ⟨_, _, .inl ⟨h, rfl, rfl⟩, ?_⟩
    rw [sbL_length]
    have h1 := sbN_length f (2 ^ f.length)
    have h2 := pow_le f.length h.tbl.2.1
    omega
  · exact ⟨_, _, .inr ⟨h, rfl, rfl⟩, by simp⟩
end Go.Proofs.YtelildgngkajnaaDoor
namespace Go.Proofs.YtelildgngkajnaaDoor
open Go Go.RowKit
theorem nxt_succ (xs : List Int) (i : Nat) : nxt xs (i + 1) = if xs.getD i 0 = (nxt xs i : Int) then nxt xs i + 1 else nxt xs i := rfl
theorem nxt_new {xs : List Int} (h : Canon xs) {i : Nat} (hi : i < xs.length) (e : cl xs i = nxt xs i) : nxt xs (i + 1) = nxt xs i + 1 := by
  rw [nxt_succ, if_pos (by rw [(h.val hi).1, e])]
theorem nxt_old {xs : List Int} (h : Canon xs) {i : Nat} (hi : i < xs.length) (e : cl xs i ≠ nxt xs i) : nxt xs (i + 1) = nxt xs i ∧ cl xs i < nxt xs i := by
  have h1 := h.val hi
  have h2 := h i hi
  refine ⟨?_, by omega⟩
  rw [nxt_succ, if_neg (by rw [h1.1]; omega)]
theorem nxt_has {xs : List Int} (h : Canon xs) (i : Nat) (hi : i ≤ xs.length) (k : Nat) : k < nxt xs i ↔ ∃ j, j < i ∧ cl xs j = k := by
  induction i with
  | zero => exact ⟨fun h => absurd h (Nat.not_lt_zero _), fun ⟨j, hj, _⟩ => absurd hj (Nat.not_lt_zero _)⟩
  | succ i ih =>
    have ih := ih (by omega)
    by_cases e : cl xs i = nxt xs i
    · rw [nxt_new h (by omega) e]
      constructor
      · intro hk
        by_cases e2 : k = nxt xs i
        · exact ⟨i, by omega, by omega⟩
        · obtain ⟨j, hj, h2⟩ := ih.1 (by omega)
          exact ⟨j, by omega, h2⟩
      · rintro ⟨j, hj, h2⟩
        by_cases e2 : j = i
        · subst e2; omega
        · have := ih.2 ⟨j, by omega, h2⟩; omega
    · have ho := nxt_old h (by omega) e
      rw [ho.1]
      constructor
      · intro hk
        obtain ⟨j, hj, h2⟩ := ih.1 hk
        exact ⟨j, by omega, h2⟩
      · rintro ⟨j, hj, h2⟩
        by_cases e2 : j = i
        · subst e2; omega
        · exact ih.2 ⟨j, by omega, h2⟩
/-- The first element of a class. -/
def fstc (xs : List Int) (k : Nat) : Nat := xs.idxOf (k : Int)
theorem fstc_at {xs : List Int} (h : Canon xs) {i : Nat} (hi : i < xs.length) (hno : ∀ j, j < i → cl xs j ≠ cl xs i) : fstc xs (cl xs i) = i ∧ ixOf xs (cl xs i) = i := by
  have hv := (h.val hi).1
  have h1 := ixOf_at xs (cl xs i) i hi hv (by
    intro hm
    obtain ⟨j, hj, e⟩ := List.getElem_of_mem hm
    have hj2 : j < i := by rw [List.length_take] at hj; omega
    have e2 : xs.getD j 0 = (cl xs i : Int) := by
      rw [List.getElem_take] at e
      rw [← e]
      simp [show j < xs.length by omega]
    have h3 := (h.val (i := j) (by omega)).1
    exact hno j hj2 (by omega))
  refine ⟨?_, h1⟩
  unfold ixOf at h1
  have hm : ((cl xs i : Nat) : Int) ∈ xs := by rw [← hv]; simp [hi]
  rw [if_pos hm] at h1
  unfold fstc
  omega
theorem fstc_new {xs : List Int} (h : Canon xs) {i : Nat} (hi : i < xs.length) (e : cl xs i = nxt xs i) : fstc xs (nxt xs i) = i := by
  rw [← e]
  refine (fstc_at h hi fun j hj e2 => ?_).1
  have := (nxt_has h i (by omega) (cl xs i)).2 ⟨j, hj, e2⟩
  omega
theorem fstc_ok {xs : List Int} (h : Canon xs) {k : Nat} (hk : k < nxt xs xs.length) : fstc xs k < xs.length ∧ ixOf xs (k : Int) = fstc xs k := by
  obtain ⟨j, hj, e⟩ := (nxt_has h _ (Nat.le_refl _) k).1 hk
  have hm : ((k : Nat) : Int) ∈ xs := by
    have := (h.val hj).1
    rw [← e, ← this]; simp [hj]
  refine ⟨List.idxOf_lt_length_of_mem hm, ?_⟩
  unfold ixOf fstc
  rw [if_pos hm]
/-- The quotient. -/
def quH (f : List (List Int)) (xs : List Int) : Nat → Nat → Int := fun x y => (cl xs (ap f (fstc xs x) (fstc xs y)) : Int)
def QtRes (f : List (List Int)) (xs : List Int) (zs : List (List Int)) (code : Int) : Prop :=
  ((Rck f ∧ Part f xs) ∧ CgF f xs ∧ zs = grid (nxt xs xs.length) (quH f xs) ∧ code = 0) ∨ ((Rck f ∧ Part f xs) ∧ ¬ CgF f xs ∧ zs = [] ∧ code = 5) ∨ (¬ (Rck f ∧ Part f xs) ∧ zs = [] ∧ code = 1)
theorem QtRes.ex (f : List (List Int)) (xs : List Int) : ∃ zs code, QtRes f xs zs code ∧ zs.length ≤ 1048576 ∧ ∀ i, i < zs.length → (zs.getD i []).length ≤ 1048576 := by
  by_cases h1 : Rck f ∧ Part f xs
  · by_cases h2 : CgF f xs
    · have hl := nxt_le xs xs.length
      have h12 := h1.1.tbl.2.1
      have hp := h1.2.1
      refine ⟨_, _, .inl ⟨h1, h2, rfl, rfl⟩, by rw [grid_length]; omega, fun i hi => ?_⟩
      rw [grid_length] at hi
      rw [grid_row_length _ _ _ hi]; omega
    · exact ⟨_, _, .inr (.inl ⟨h1, h2, rfl, rfl⟩), by simp, by simp⟩
  · exact ⟨_, _, .inr (.inr ⟨h1, rfl, rfl⟩), by simp, by simp⟩
theorem nxt_pos {xs : List Int} (h : Canon xs) (h1 : 1 ≤ xs.length) : 1 ≤ nxt xs xs.length := by
  have := (nxt_has h _ (Nat.le_refl _) (cl xs 0)).2 ⟨0, by omega, rfl⟩
  omega
theorem nxt_max {xs : List Int} (h : Canon xs) (h1 : 1 ≤ xs.length) : IsMax xs ((nxt xs xs.length - 1 : Nat) : Int) := by
  have hp := nxt_pos h h1
  have mem : ∀ j, j < xs.length → cl xs j ≤ nxt xs xs.length - 1 := fun j hj => by
    have := (nxt_has h _ (Nat.le_refl _) (cl xs j)).2 ⟨j, hj, rfl⟩
    omega
  obtain ⟨j, hj, e⟩ := (nxt_has h _ (Nat.le_refl _) (nxt xs xs.length - 1)).1 (by omega)
  exact ⟨⟨j, hj, by rw [(h.val hj).1, e]⟩, fun i hi => by have h2 := mem i hi; have h3 := (h.val hi).1; omega⟩
end Go.Proofs.YtelildgngkajnaaDoor
namespace Go.Proofs.YtelildgngkajnaaDoor
open Go Go.RowKit
set_option maxHeartbeats 1000000
set_option maxRecDepth 100000 in
theorem tz_any (S : Nat) (w : World) (h : S < 4096) (h0 : S ≠ 0) (hd : DbT w) :
    Calls Tryd.prog 57 #[.int .u64 S] w fun e w' => e = .returned (.int .i64 (lstN S)) ∧ Quiet w w' := by
  obtain ⟨hp, _, hk, _⟩ := lst_of h h0
  obtain ⟨hi, hv⟩ := db_of hk
  obtain ⟨k, hke⟩ : ∃ k, lstN S = k := ⟨_, rfl⟩
  rw [hke] at hp hk hi hv ⊢
  have hS0 : ((S : Int) == 0) = false := by simpa using h0
  obtain ⟨N, hN⟩ : ∃ N, 18446744073709551616 - S = N := ⟨_, rfl⟩
  have n1 : IntKind.u64.wrap (-(S : Int)) = (N : Int) := by rw [IntKind.wrap_u64]; omega
  rw [hN] at hp
  have n2 : bits .and .u64 (S : Int) (N : Int) = ((2 ^ k : Nat) : Int) := by
    have := (bits_nat .u64 64 (by decide) (fun n h0 h1 => by rw [IntKind.wrap_u64]; omega) S N (by omega) (by omega)).1
    rw [this, hp]
  obtain ⟨p, hpp⟩ : ∃ p, 2 ^ k = p := ⟨_, rfl⟩
  have hp12 : p < 4096 := by rw [← hpp]; exact Nat.lt_of_lt_of_le (Nat.pow_lt_pow_right (by decide) hk) (Nat.le_refl _)
  rw [hpp] at n2 hi hv
  obtain ⟨M, hM⟩ : ∃ M, (p * 285870213051353865) % 18446744073709551616 = M := ⟨_, rfl⟩
  have n3 : IntKind.u64.wrap ((p : Int) * 285870213051353865) = (M : Int) := by rw [IntKind.wrap_u64]; omega
  rw [hM] at hi hv
  obtain ⟨ix, hix⟩ : ∃ ix, M / 288230376151711744 = ix := ⟨_, rfl⟩
  rw [hix] at hi hv
  have n4 : (M : Int) / 288230376151711744 = (ix : Int) := by omega
  have hc := hd.2 ix hi
  rw [hv] at hc
  have hiz : (ix : Int) < 64 := by omega
  have hkz : (k : Int) < 12 := by omega
  clear hp hN hM hix hpp hv hd hke
  go_enter Tryd.func57, Tryd.ntmps57
  go_wp2_with fail
  go_ret
  exact ⟨rfl, Quiet.refl _⟩
set_option maxRecDepth 100000 in
theorem leastOf_any (S : Nat) (w : World) (h : S < 4096) (h0 : S ≠ 0) (hd : DbT w) :
    Calls Tryd.prog 36 #[.int .i64 S] w fun e w' => e = .returned (.int .i64 (lstN S)) ∧ Quiet w w' := by
  have HD := hide hd
  have g1 : IntKind.u64.wrap (S : Int) = (S : Int) := by rw [IntKind.wrap_u64]; omega
  clear hd
  go_enter Tryd.func36, Tryd.ntmps36
  go_wp2_with fail
  refine (tz_any S w h h0 HD.out).mono ?_
  rintro e w1 ⟨rfl, hq⟩
  have HQ := hide hq
  clear hq
  go_wp2_with fail
  go_ret
  exact ⟨rfl, HQ.out⟩
end Go.Proofs.YtelildgngkajnaaDoor
namespace Go.Proofs.YtelildgngkajnaaDoor
open Go Go.RowKit
set_option maxHeartbeats 4000000
set_option maxRecDepth 100000 in
theorem conj_any (A : Option Addr) (n c : Nat) (f : List (List Int)) (y : Nat) (w : World) (hn : f.length = n) (hg : Grp f) (hr : Rd2 w A f) (hy : y < n) :
    Calls Tryd.prog 56 #[.agg #[.slice A n c], .int .i64 y] w (fun e w' => e = .returned (.int .i64 (cjN f y)) ∧ Below w.heap.size w w') := by
  have HN := hide hn
  have HRD := hide hr
  have HB0 := hide ((Below.refl _ w).alloc (Nat.le_refl _) (Obj.cells #[Value.slice A n c] 26))
  have HK0 := hide (Blk.new w 26 [.slice A n c])
  have HG := hide hg
  have HTB := hide hg.tbl
  have h1 : 1 ≤ n := (hg.pos hn).1
  have h12 : n ≤ 12 := (hg.pos hn).2

  obtain ⟨V0, hV0⟩ : ∃ V, cjN f y = V := ⟨_, rfl⟩
  have HV0 := hide hV0
  rw [hV0]
  clear hV0 hn hr hg
  go_enter Tryd.func56, Tryd.ntmps56
  have k0 := HK0.out.cell 0 _ rfl
  go_wp2_with fail
  clear k0
  refine (gsize_any _ n _ _ (by omega)).mono ?_
  rintro e w1 ⟨rfl, hb1⟩
  have HB1 := hide (HB0.out.trans (hb1.mono HB0.out.size))
  have HK1 := hide (HK0.out.later hb1)
  clear hb1
  go_wp2_with fail
  go_loopw [5, 9] (fun s i wr => ∃ (x V : Nat), x ≤ n ∧ i = .int .i64 x ∧ s = .int .i64 V ∧ CjV f y x V ∧ V < 2 ^ n ∧ Below w.heap.size w wr ∧ Blk wr w.heap.size 26 [.slice A n c]) (fun _ i _ => n - (intOf i).toNat)
  case atStart => exact ⟨0, 0, Nat.zero_le _, rfl, rfl, CjV.start f y, Nat.pos_of_ne_zero (by simp), HB1.out, HK1.out⟩
  case round =>
    obtain ⟨x, V, hx, rfl, rfl, hv, hvl, hbe, hkk⟩ := hrel
    have HBc := hide hbe
    have HKc := hide hkk
    have HV := hide hv
    have HVL := hide hvl
    clear hbe hkk hv hvl
    by_cases hlt : x < n
    · have hxz : (x : Int) < n := by omega
      obtain ⟨v, hv⟩ : ∃ v, bk f x = v := ⟨_, rfl⟩
      have hvn : v < n := by rw [← hv]; exact HG.out.bk_lt HN.out hlt
      obtain ⟨u, hu⟩ : ∃ u, tm f x [y, v] = u := ⟨_, rfl⟩
      have hcu : cj f x y = u := by rw [← hu]; unfold cj; rw [hv]; rfl
      have hun : u < n := by rw [← hcu]; exact HG.out.cj_lt HN.out hlt hy
      have HST : Hid (CjV f y (x + 1) (V ||| 2 ^ u)) := hide (HV.out.step hcu)
      have HL2 : Hid (V ||| 2 ^ u < 2 ^ n) := hide (or_lt HVL.out hun)
      have hV12 : V < 4096 := Nat.lt_of_lt_of_le HVL.out (pow_le n h12)
      obtain ⟨p, hp⟩ : ∃ p, 2 ^ u = p := ⟨_, rfl⟩
      have hp12 : p < 4096 := by rw [← hp]; exact Nat.lt_of_lt_of_le (Nat.pow_lt_pow_right (by decide) (by omega : u < 12)) (Nat.le_refl _)
      have g1 : (2 : Int) ^ u = (p : Int) := by rw [← hp]; simp
      have g2 := bt_or V p (by omega) (by omega)
      have g3 : IntKind.i64.wrap (p : Int) = (p : Int) := IntWalk.i64_in _ (by omega)
      rw [hp] at HST HL2
      obtain ⟨V2, hV2⟩ : ∃ V2, V ||| p = V2 := ⟨_, rfl⟩
      rw [hV2] at HST HL2 g2
      have hV212 : V2 < 4096 := Nat.lt_of_lt_of_le HL2.out (pow_le n h12)
      have HVv := hide hv
      have HU := hide hu
      clear hv hu hcu hp hV2
      have k0 := HKc.out.cell 0 _ rfl
      have k9 := fun o => (HKc.out.alloc o).cell 0 _ rfl
      go_wp2_with fail
      go_region_held3 (fun w' => w'.cell? ⟨w.heap.size, 0, none⟩ = some (.slice A n c)) (first | exact k0 | go_keep) (first | (go_at_call 65; go_must (refine calls_gen fun wc hwc => ?_; (first | have hbx := drew_below hwc | have hbx := eq_below hwc); replace HBc := hide (HBc.out.trans (hbx.mono HBc.out.size)); replace HKc := hide (HKc.out.later hbx); clear hwc hbx; refine (ginv_any _ n _ f x _ HN.out HTB.out HG.out.prm (HRD.out.later HBc.out) hlt).mono ?_; rintro e wd ⟨rfl, hbd⟩; rw [HVv.out]; replace HBc := hide (HBc.out.trans (hbd.mono HBc.out.size)); replace HKc := hide (HKc.out.later hbd); clear hbd; have k0 := HKc.out.cell 0 _ rfl; have k9 := fun o => (HKc.out.alloc o).cell 0 _ rfl)) | (go_at_call 64; go_must (refine calls_gen fun wc hwc => ?_; have hbx : Below wd.heap.size wd wc := (by rw [hwc]; first | exact (Below.refl _ _).alloc (Nat.le_refl _) _ | exact ((Below.refl _ _).alloc (Nat.le_refl _) _).drew); have HSx : Hid (Blk wc wd.heap.size 2 [.int .i64 y, .int .i64 v]) := hide (by rw [hwc]; first | exact Blk.new _ _ _ | exact (Blk.new _ _ _).drew); replace HBc := hide (HBc.out.trans (hbx.mono HBc.out.size)); replace HKc := hide (HKc.out.later hbx); clear hwc hbx; refine (times_any _ n _ f x _ 2 [y, v] _ HN.out HTB.out (HRD.out.later HBc.out) hlt rfl (by intro q hq; simp at hq; rcases hq with rfl | rfl <;> omega) HSx.out (by decide)).mono ?_; rintro e wf ⟨rfl, hbd⟩; rw [HU.out]; replace HBc := hide (HBc.out.trans (hbd.mono HBc.out.size)); replace HKc := hide (HKc.out.later hbd); clear hbd; have k0 := HKc.out.cell 0 _ rfl)))
      all_goals go_wp2_with fail
      all_goals go_roundw
      all_goals first
        | (simp [intOf]; omega)
        | exact ⟨x + 1, V2, by omega, by go_num, rfl, HST.out, HL2.out, HBc.out, HKc.out⟩
    · have hxn : x = n := by omega
      subst hxn
      have hVe : V = V0 := by rw [← HV0.out]; exact HV.out.uniq HN.out HG.out hy
      subst hVe
      go_wp2_with fail
      go_ret
      exact ⟨rfl, HBc.out⟩
end Go.Proofs.YtelildgngkajnaaDoor
namespace Go.Proofs.YtelildgngkajnaaDoor
open Go Go.RowKit
set_option maxHeartbeats 4000000
set_option maxRecDepth 100000 in
theorem whole_any (A : Option Addr) (n c : Nat) (f : List (List Int))  (w : World) (hn : f.length = n) (hg : Grp f) (hr : Rd2 w A f)  :
    Calls Tryd.prog 31 #[.agg #[.slice A n c]] w (fun e w' => e = .returned (.int .i64 (2 ^ n - 1 : Nat)) ∧ Below w.heap.size w w') := by
  have HN := hide hn
  have HRD := hide hr
  have HB0 := hide ((Below.refl _ w).alloc (Nat.le_refl _) (Obj.cells #[Value.slice A n c] 26))
  have HK0 := hide (Blk.new w 26 [.slice A n c])
  have HG := hide hg
  have HTB := hide hg.tbl
  have h1 : 1 ≤ n := (hg.pos hn).1
  have h12 : n ≤ 12 := (hg.pos hn).2

  obtain ⟨p, hp⟩ : ∃ p, 2 ^ n = p := ⟨_, rfl⟩
  have hp12 : p ≤ 4096 := by rw [← hp]; exact pow_le n h12
  have hp1 : 1 ≤ p := by rw [← hp]; exact Nat.pos_of_ne_zero (by simp)
  have g1 : (2 : Int) ^ n = (p : Int) := by rw [← hp]; simp
  rw [hp]
  have g3 : ((p - 1 : Nat) : Int) = (p : Int) - 1 := by omega
  rw [g3]
  clear hn hr hg hp g3
  go_enter Tryd.func31, Tryd.ntmps31
  have k0 := HK0.out.cell 0 _ rfl
  go_wp2_with fail
  clear k0
  refine (gsize_any _ n _ _ (by omega)).mono ?_
  rintro e w1 ⟨rfl, hb1⟩
  have HB1 := hide (HB0.out.trans (hb1.mono HB0.out.size))
  have HK1 := hide (HK0.out.later hb1)
  clear hb1
  go_wp2_with fail
  go_ret
  exact ⟨rfl, HB1.out⟩
end Go.Proofs.YtelildgngkajnaaDoor
