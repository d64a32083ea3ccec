import Derived.Test.YtngfdkmiifpbgaaDoorZl
import Derived.Test.YtngfdkmiifpbgaaDoorZi
import Derived.Test.YtngfdkmiifpbgaaDoorZe
import Derived.Test.YtngfdkmiifpbgaaDoorProg
import Derived.Deep.Cut
import Derived.Deep.RegionHeld3
import Derived.WalkSpells
namespace Go.Proofs.YtngfdkmiifpbgaaDoor
open Go Go.RowKit
set_option maxHeartbeats 1000000
theorem Grp.bk_uniq {f : List (List Int)} {n z u : Nat} (hn : f.length = n) (h : Grp f) (hz : z < n) (hu : u < n) (e : ap f z u = 0) : u = bk f z :=
  h.lcan hn hz hu (h.bk_lt hn hz) (by rw [e, h.bk_r hn hz])
theorem Grp.bk_mul {f : List (List Int)} {n x y : Nat} (hn : f.length = n) (h : Grp f) (hx : x < n) (hy : y < n) : bk f (ap f x y) = ap f (bk f y) (bk f x) := by
  have bx := h.bk_lt hn hx
  have by' := h.bk_lt hn hy
  refine (h.bk_uniq hn (h.lt hn hx hy) (h.lt hn by' bx) ?_).symm
  rw [h.assoc hn hx hy (h.lt hn by' bx), ← h.assoc hn hy by' bx, h.bk_r hn hy, h.idl hn bx, h.bk_r hn hx]
theorem Grp.cj_mul {f : List (List Int)} {n x y a : Nat} (hn : f.length = n) (h : Grp f) (hx : x < n) (hy : y < n) (ha : a < n) : cj f x (cj f y a) = cj f (ap f x y) a := by
  have bx := h.bk_lt hn hx
  have by' := h.bk_lt hn hy
  have hya := h.lt hn hy ha
  unfold cj
  rw [h.bk_mul hn hx hy, h.assoc hn hx hy ha, ← h.assoc hn hx hya by', ← h.assoc hn (h.lt hn hx hya) by' bx]
theorem Grp.cj_back {f : List (List Int)} {n x a : Nat} (hn : f.length = n) (h : Grp f) (hx : x < n) (ha : a < n) : cj f (bk f x) (cj f x a) = a := by
  rw [h.cj_mul hn (h.bk_lt hn hx) hx ha, h.bk_l hn hx, h.cj_zero hn ha]
theorem Grp.cj_inj {f : List (List Int)} {n x a b : Nat} (hn : f.length = n) (h : Grp f) (hx : x < n) (ha : a < n) (hb : b < n) (e : cj f x a = cj f x b) : a = b := by
  rw [← h.cj_back hn hx ha, e, h.cj_back hn hx hb]
theorem cjN_self {f : List (List Int)} {n y : Nat} (hn : f.length = n) (h : Grp f) (hy : y < n) : inb (cjN f y) y := (cjN_in hn h hy y).2 ⟨0, by have := h.pos hn; omega, h.cj_zero hn hy⟩
theorem cjN_same {f : List (List Int)} {n a b : Nat} (hn : f.length = n) (h : Grp f) (ha : a < n) (hb : inb (cjN f a) b) : cjN f a = cjN f b := by
  obtain ⟨x, hx, rfl⟩ := (cjN_in hn h ha b).1 hb
  have hb' := h.cj_lt hn hx ha
  apply inb_eq
  intro t
  rw [cjN_in hn h ha t, cjN_in hn h hb' t]
  constructor
  · rintro ⟨y, hy, rfl⟩
    exact ⟨ap f y (bk f x), h.lt hn hy (h.bk_lt hn hx), by rw [← h.cj_mul hn hy (h.bk_lt hn hx) hb', h.cj_back hn hx ha]⟩
  · rintro ⟨y, hy, rfl⟩
    exact ⟨ap f y x, h.lt hn hy hx, by rw [h.cj_mul hn hy hx ha]⟩
/-- The least conjugates. -/
def kcL (f : List (List Int)) (n : Nat) : List Int := (List.range n).map fun (y : Nat) => ((lstN (cjN f y) : Nat) : Int)
theorem kcL_length (f : List (List Int)) (n : Nat) : (kcL f n).length = n := by simp [kcL]
theorem kcL_at (f : List (List Int)) {n y : Nat} (h : y < n) : (kcL f n).getD y 0 = ((lstN (cjN f y) : Nat) : Int) := by simp [kcL, h]
theorem cjL_step {f : List (List Int)} {n a b : Nat} (ha : a < n) : stp (cjL f n) a b ↔ ∃ x, x < n ∧ cj f x a = b := by
  unfold stp cjL
  constructor
  · rintro ⟨r, hr, e⟩
    rw [grid_length] at hr
    rw [grid_at _ _ _ _ hr ha] at e
    exact ⟨r, hr, by omega⟩
  · rintro ⟨x, hx, e⟩
    refine ⟨x, by rw [grid_length]; exact hx, ?_⟩
    rw [grid_at _ _ _ _ hx ha]
    omega
theorem cjL_gens {f : List (List Int)} {n : Nat} (hn : f.length = n) (h : Grp f) : Gens (cjL f n) n := by
  have h12 := h.pos hn
  intro r hr
  unfold cjL at hr ⊢
  rw [grid_length] at hr
  have hl := grid_row_length n (fun x y => (cj f x y : Int)) r hr
  refine ⟨hl, by omega, by omega, fun v hv => ?_, ?_⟩
  · rw [hl]
    rw [grid_row _ _ _ hr, List.mem_map] at hv
    obtain ⟨j, hj, rfl⟩ := hv
    have := h.cj_lt hn hr (List.mem_range.1 hj)
    omega
  · rw [grid_row _ _ _ hr, List.nodup_iff_pairwise_ne, List.pairwise_map]
    refine List.Pairwise.imp_of_mem ?_ List.pairwise_lt_range
    intro a b ha hb hab e
    have := h.cj_inj hn hr (List.mem_range.1 ha) (List.mem_range.1 hb) (by omega)
    omega
theorem cjL_rch {f : List (List Int)} {n a b : Nat} (hn : f.length = n) (h : Grp f) (ha : a < n) : Rch (cjL f n) a b ↔ inb (cjN f a) b := by
  constructor
  · intro hr
    induction hr with
    | start => exact cjN_self hn h ha
    | step hr hs ih =>
      rename_i y z
      have hy : y < n := by
        obtain ⟨x, hx, e⟩ := (cjN_in hn h ha _).1 ih
        rw [← e]; exact h.cj_lt hn hx ha
      obtain ⟨x, hx, e⟩ := (cjL_step hy).1 hs
      rw [cjN_same hn h ha ih]
      exact (cjN_in hn h hy _).2 ⟨x, hx, e⟩
  · intro hb
    obtain ⟨x, hx, e⟩ := (cjN_in hn h ha b).1 hb
    exact .step .start ((cjL_step ha).2 ⟨x, hx, e⟩)
theorem kc_iff {f : List (List Int)} {n a b : Nat} (hn : f.length = n) (h : Grp f) (ha : a < n) (hb : b < n) : lb (kcL f n) a = lb (kcL f n) b ↔ Rch (cjL f n) a b := by
  have h12 := (h.pos hn).2
  have hla : ∀ y, y < n → cjN f y < 4096 ∧ cjN f y ≠ 0 := fun y hy => ⟨Nat.lt_of_lt_of_le (by have := cjN_lt f y; rw [hn] at this; exact this) (Nat.pow_le_pow_right (n := 2) (by decide) h12), fun e => by
    have := cjN_self hn h hy
    rw [e] at this
    exact inb_zero _ this⟩
  unfold lb
  rw [kcL_at f ha, kcL_at f hb, cjL_rch hn h ha]
  constructor
  · intro e
    have e2 : lstN (cjN f a) = lstN (cjN f b) := by omega
    have i1 := (lst_of (hla a ha).1 (hla a ha).2).2.1
    have i2 := (lst_of (hla b hb).1 (hla b hb).2).2.1
    have hl : lstN (cjN f a) < n := by
      obtain ⟨x, hx, e3⟩ := (cjN_in hn h ha _).1 i1
      rw [← e3]; exact h.cj_lt hn hx ha
    rw [cjN_same hn h ha i1, e2, ← cjN_same hn h hb i2]
    exact cjN_self hn h hb
  · intro e
    rw [cjN_same hn h ha e]
open Classical
/-- Labels of orbits, numbered as they come. -/
theorem lab_num {rows : List (List Int)} {C : List Int} {n : Nat} (h : ∀ a b, a < n → b < n → (lb C a = lb C b ↔ Rch rows a b)) (k : Nat) (hk : k ≤ n) : (lab rows k).2 = (firstsL C k).length ∧ ∀ y, y < n → (lab rows k).1 y = ixOf (firstsL C k) (lb C y) := by
  induction k with
  | zero => exact ⟨rfl, fun y _ => by simp [lab, firstsL, ixOf]⟩
  | succ k ih =>
    obtain ⟨i1, i2⟩ := ih (by omega)
    have hkn : k < n := by omega
    have hmem : 0 ≤ (lab rows k).1 k ↔ lb C k ∈ firstsL C k := by
      rw [i2 k hkn]
      unfold ixOf
      by_cases hm : lb C k ∈ firstsL C k
      · rw [if_pos hm]; exact ⟨fun _ => hm, fun _ => Int.natCast_nonneg _⟩
      · rw [if_neg hm]; exact ⟨fun h => by omega, fun h => absurd h hm⟩
    by_cases hm : lb C k ∈ firstsL C k
    · have e1 : lab rows (k + 1) = lab rows k := by show (if 0 ≤ (lab rows k).1 k then lab rows k else _) = _; rw [if_pos (hmem.2 hm)]
      have e2 : firstsL C (k + 1) = firstsL C k := by show (if lb C k ∈ firstsL C k then _ else _) = _; rw [if_pos hm]
      rw [e1, e2]
      exact ⟨i1, i2⟩
    · have e1 : lab rows (k + 1) = (fun y => if Rch rows k y then ((lab rows k).2 : Int) else (lab rows k).1 y, (lab rows k).2 + 1) := by show (if 0 ≤ (lab rows k).1 k then lab rows k else _) = _; rw [if_neg (fun h2 => hm (hmem.1 h2))]
      have e2 : firstsL C (k + 1) = firstsL C k ++ [lb C k] := by show (if lb C k ∈ firstsL C k then _ else _) = _; rw [if_neg hm]
      rw [e1, e2]
      refine ⟨by rw [List.length_append, i1]; rfl, fun y hy => ?_⟩
      show (if Rch rows k y then ((lab rows k).2 : Int) else (lab rows k).1 y) = _
      by_cases hr : Rch rows k y
      · have e3 : lb C y = lb C k := ((h k y hkn hy).2 hr).symm
        rw [if_pos hr, e3, i1]
        unfold ixOf
        rw [if_pos (by simp), List.idxOf_append, if_neg hm]
        simp
      · have e3 : lb C y ≠ lb C k := fun e => hr ((h k y hkn hy).1 e.symm)
        rw [if_neg hr, i2 y hy]
        unfold ixOf
        by_cases hy2 : lb C y ∈ firstsL C k
        · rw [if_pos hy2, if_pos (List.mem_append.2 (.inl hy2)), List.idxOf_append, if_pos hy2]
        · rw [if_neg hy2, if_neg (fun h => (List.mem_append.1 h).elim hy2 (fun h => e3 (List.mem_singleton.1 h)))]
theorem lab_numL {rows : List (List Int)} {C : List Int} {n : Nat} (hl : C.length = n) (h : ∀ a b, a < n → b < n → (lb C a = lb C b ↔ Rch rows a b)) : labL rows n n = numL C := by
  have hh := (lab_num h n (Nat.le_refl _)).2
  apply List.ext_getElem
  · rw [labL_length, numL_length, hl]
  · intro i h1 h2
    rw [labL_length] at h1
    have e1 := labL_at rows n n i h1
    have e2 := numL_ix C (x := i) (by omega)
    have e3 : lb C i ∈ firstsL C n := (firstsL_mem n).2 ⟨i, h1, rfl⟩
    rw [hh i h1] at e1
    unfold ixOf at e1
    rw [if_pos e3] at e1
    rw [hl] at e2
    rw [← e2] at e1
    rw [List.getD_eq_getElem?_getD, List.getD_eq_getElem?_getD, List.getElem?_eq_getElem (by rw [labL_length]; exact h1), List.getElem?_eq_getElem h2, Option.getD_some, Option.getD_some] at e1
    exact e1
noncomputable def kcC (f : List (List Int)) : List Int := numL (kcL f f.length)
theorem kcC_length (f : List (List Int)) : (kcC f).length = f.length := by unfold kcC; rw [numL_length, kcL_length]
theorem kc_lab {f : List (List Int)} {n : Nat} (hn : f.length = n) (h : Grp f) : labL (cjL f n) n n = kcC f := by
  unfold kcC
  rw [hn]
  exact lab_numL (kcL_length f n) fun a b ha hb => kc_iff hn h ha hb
def KcRes (f : List (List Int)) (zs : List Int) (code : Int) : Prop := (Grp f ∧ zs = kcC f ∧ code = 0) ∨ (¬ Grp f ∧ zs = [] ∧ code = 1)
theorem KcRes.ex (f : List (List Int)) : ∃ zs code, KcRes f zs code ∧ zs.length ≤ 1048576 := by
  by_cases h : Grp f
  · exact ⟨_, _, .inl ⟨h, rfl, rfl⟩, by rw [kcC_length]; have := h.tbl.2.1; omega⟩
  · exact ⟨_, _, .inr ⟨h, rfl, rfl⟩, by simp⟩
end Go.Proofs.YtngfdkmiifpbgaaDoor
namespace Go.Proofs.YtngfdkmiifpbgaaDoor
open Go Go.RowKit
set_option maxHeartbeats 1000000
set_option maxRecDepth 100000 in
theorem tz_any (S : Nat) (w : World) (h : S < 4096) (h0 : S ≠ 0) (hd : DbT w) :
    Calls Tryd.prog 35 #[.int .u64 S] w fun e w' => e = .returned (.int .i64 (lstN S)) ∧ Quiet w w' := by
  obtain ⟨hp, _, hk, _⟩ := lst_of h h0
  obtain ⟨hi, hv⟩ := db_of hk
  obtain ⟨k, hke⟩ : ∃ k, lstN S = k := ⟨_, rfl⟩
  rw [hke] at hp hk hi hv ⊢
  have hS0 : ((S : Int) == 0) = false := by simpa using h0
  obtain ⟨N, hN⟩ : ∃ N, 18446744073709551616 - S = N := ⟨_, rfl⟩
  have n1 : IntKind.u64.wrap (-(S : Int)) = (N : Int) := by rw [IntKind.wrap_u64]; omega
  rw [hN] at hp
  have n2 : bits .and .u64 (S : Int) (N : Int) = ((2 ^ k : Nat) : Int) := by
    have := (bits_nat .u64 64 (by decide) (fun n h0 h1 => by rw [IntKind.wrap_u64]; omega) S N (by omega) (by omega)).1
    rw [this, hp]
  obtain ⟨p, hpp⟩ : ∃ p, 2 ^ k = p := ⟨_, rfl⟩
  have hp12 : p < 4096 := by rw [← hpp]; exact Nat.lt_of_lt_of_le (Nat.pow_lt_pow_right (by decide) hk) (Nat.le_refl _)
  rw [hpp] at n2 hi hv
  obtain ⟨M, hM⟩ : ∃ M, (p * 285870213051353865) % 18446744073709551616 = M := ⟨_, rfl⟩
  have n3 : IntKind.u64.wrap ((p : Int) * 285870213051353865) = (M : Int) := by rw [IntKind.wrap_u64]; omega
  rw [hM] at hi hv
  obtain ⟨ix, hix⟩ : ∃ ix, M / 288230376151711744 = ix := ⟨_, rfl⟩
  rw [hix] at hi hv
  have n4 : (M : Int) / 288230376151711744 = (ix : Int) := by omega
  have hc := hd.2 ix hi
  rw [hv] at hc
  have hiz : (ix : Int) < 64 := by omega
  have hkz : (k : Int) < 12 := by omega
  clear hp hN hM hix hpp hv hd hke
  go_enter Tryd.func35, Tryd.ntmps35
  go_wp2_with fail
  go_ret
  exact ⟨rfl, Quiet.refl _⟩
set_option maxRecDepth 100000 in
theorem leastOf_any (S : Nat) (w : World) (h : S < 4096) (h0 : S ≠ 0) (hd : DbT w) :
    Calls Tryd.prog 20 #[.int .i64 S] w fun e w' => e = .returned (.int .i64 (lstN S)) ∧ Quiet w w' := by
  have HD := hide hd
  have g1 : IntKind.u64.wrap (S : Int) = (S : Int) := by rw [IntKind.wrap_u64]; omega
  clear hd
  go_enter Tryd.func20, Tryd.ntmps20
  go_wp2_with fail
  refine (tz_any S w h h0 HD.out).mono ?_
  rintro e w1 ⟨rfl, hq⟩
  have HQ := hide hq
  clear hq
  go_wp2_with fail
  go_ret
  exact ⟨rfl, HQ.out⟩
end Go.Proofs.YtngfdkmiifpbgaaDoor
namespace Go.Proofs.YtngfdkmiifpbgaaDoor
open Go Go.RowKit
set_option maxHeartbeats 4000000
set_option maxRecDepth 100000 in
theorem conj_any (A : Option Addr) (n c : Nat) (f : List (List Int)) (y : Nat) (w : World) (hn : f.length = n) (hg : Grp f) (hr : Rd2 w A f) (hy : y < n) :
    Calls Tryd.prog 21 #[.agg #[.slice A n c], .int .i64 y] w (fun e w' => e = .returned (.int .i64 (cjN f y)) ∧ Below w.heap.size w w') := by
  have HN := hide hn
  have HRD := hide hr
  have HB0 := hide ((Below.refl _ w).alloc (Nat.le_refl _) (Obj.cells #[Value.slice A n c] 29))
  have HK0 := hide (Blk.new w 29 [.slice A n c])
  have HG := hide hg
  have HTB := hide hg.tbl
  have h1 : 1 ≤ n := (hg.pos hn).1
  have h12 : n ≤ 12 := (hg.pos hn).2

  obtain ⟨V0, hV0⟩ : ∃ V, cjN f y = V := ⟨_, rfl⟩
  have HV0 := hide hV0
  rw [hV0]
  clear hV0 hn hr hg
  go_enter Tryd.func21, Tryd.ntmps21
  have k0 := HK0.out.cell 0 _ rfl
  go_wp2_with fail
  clear k0
  refine (gsize_any _ n _ _ (by omega)).mono ?_
  rintro e w1 ⟨rfl, hb1⟩
  have HB1 := hide (HB0.out.trans (hb1.mono HB0.out.size))
  have HK1 := hide (HK0.out.later hb1)
  clear hb1
  go_wp2_with fail
  go_loopw [5, 9] (fun s i wr => ∃ (x V : Nat), x ≤ n ∧ i = .int .i64 x ∧ s = .int .i64 V ∧ CjV f y x V ∧ V < 2 ^ n ∧ Below w.heap.size w wr ∧ Blk wr w.heap.size 29 [.slice A n c]) (fun _ i _ => n - (intOf i).toNat)
  case atStart => exact ⟨0, 0, Nat.zero_le _, rfl, rfl, CjV.start f y, Nat.pos_of_ne_zero (by simp), HB1.out, HK1.out⟩
  case round =>
    obtain ⟨x, V, hx, rfl, rfl, hv, hvl, hbe, hkk⟩ := hrel
    have HBc := hide hbe
    have HKc := hide hkk
    have HV := hide hv
    have HVL := hide hvl
    clear hbe hkk hv hvl
    by_cases hlt : x < n
    · have hxz : (x : Int) < n := by omega
      obtain ⟨v, hv⟩ : ∃ v, bk f x = v := ⟨_, rfl⟩
      have hvn : v < n := by rw [← hv]; exact HG.out.bk_lt HN.out hlt
      obtain ⟨u, hu⟩ : ∃ u, tm f x [y, v] = u := ⟨_, rfl⟩
      have hcu : cj f x y = u := by rw [← hu]; unfold cj; rw [hv]; rfl
      have hun : u < n := by rw [← hcu]; exact HG.out.cj_lt HN.out hlt hy
      have HST : Hid (CjV f y (x + 1) (V ||| 2 ^ u)) := hide (HV.out.step hcu)
      have HL2 : Hid (V ||| 2 ^ u < 2 ^ n) := hide (or_lt HVL.out hun)
      have hV12 : V < 4096 := Nat.lt_of_lt_of_le HVL.out (pow_le n h12)
      obtain ⟨p, hp⟩ : ∃ p, 2 ^ u = p := ⟨_, rfl⟩
      have hp12 : p < 4096 := by rw [← hp]; exact Nat.lt_of_lt_of_le (Nat.pow_lt_pow_right (by decide) (by omega : u < 12)) (Nat.le_refl _)
      have g1 : (2 : Int) ^ u = (p : Int) := by rw [← hp]; simp
      have g2 := bt_or V p (by omega) (by omega)
      have g3 : IntKind.i64.wrap (p : Int) = (p : Int) := IntWalk.i64_in _ (by omega)
      rw [hp] at HST HL2
      obtain ⟨V2, hV2⟩ : ∃ V2, V ||| p = V2 := ⟨_, rfl⟩
      rw [hV2] at HST HL2 g2
      have hV212 : V2 < 4096 := Nat.lt_of_lt_of_le HL2.out (pow_le n h12)
      have HVv := hide hv
      have HU := hide hu
      clear hv hu hcu hp hV2
      have k0 := HKc.out.cell 0 _ rfl
      have k9 := fun o => (HKc.out.alloc o).cell 0 _ rfl
      go_wp2_with fail
      go_region_held3 (fun w' => w'.cell? ⟨w.heap.size, 0, none⟩ = some (.slice A n c)) (first | exact k0 | go_keep) (first | (go_at_call 37; go_must (refine calls_gen fun wc hwc => ?_; (first | have hbx := drew_below hwc | have hbx := eq_below hwc); replace HBc := hide (HBc.out.trans (hbx.mono HBc.out.size)); replace HKc := hide (HKc.out.later hbx); clear hwc hbx; refine (ginv_any _ n _ f x _ HN.out HTB.out HG.out.prm (HRD.out.later HBc.out) hlt).mono ?_; rintro e wd ⟨rfl, hbd⟩; rw [HVv.out]; replace HBc := hide (HBc.out.trans (hbd.mono HBc.out.size)); replace HKc := hide (HKc.out.later hbd); clear hbd; have k0 := HKc.out.cell 0 _ rfl; have k9 := fun o => (HKc.out.alloc o).cell 0 _ rfl)) | (go_at_call 36; go_must (refine calls_gen fun wc hwc => ?_; have hbx : Below wd.heap.size wd wc := (by rw [hwc]; first | exact (Below.refl _ _).alloc (Nat.le_refl _) _ | exact ((Below.refl _ _).alloc (Nat.le_refl _) _).drew); have HSx : Hid (Blk wc wd.heap.size 2 [.int .i64 y, .int .i64 v]) := hide (by rw [hwc]; first | exact Blk.new _ _ _ | exact (Blk.new _ _ _).drew); replace HBc := hide (HBc.out.trans (hbx.mono HBc.out.size)); replace HKc := hide (HKc.out.later hbx); clear hwc hbx; refine (times_any _ n _ f x _ 2 [y, v] _ HN.out HTB.out (HRD.out.later HBc.out) hlt rfl (by intro q hq; simp at hq; rcases hq with rfl | rfl <;> omega) HSx.out (by decide)).mono ?_; rintro e wf ⟨rfl, hbd⟩; rw [HU.out]; replace HBc := hide (HBc.out.trans (hbd.mono HBc.out.size)); replace HKc := hide (HKc.out.later hbd); clear hbd; have k0 := HKc.out.cell 0 _ rfl)))
      all_goals go_wp2_with fail
      all_goals go_roundw
      all_goals first
        | (simp [intOf]; omega)
        | exact ⟨x + 1, V2, by omega, by go_num, rfl, HST.out, HL2.out, HBc.out, HKc.out⟩
    · have hxn : x = n := by omega
      subst hxn
      have hVe : V = V0 := by rw [← HV0.out]; exact HV.out.uniq HN.out HG.out hy
      subst hVe
      go_wp2_with fail
      go_ret
      exact ⟨rfl, HBc.out⟩
end Go.Proofs.YtngfdkmiifpbgaaDoor
