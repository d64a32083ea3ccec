import Derived.Test.YtngfdkmiifpbgaaZm
import Derived.Test.YtngfdkmiifpbgaaZl
import Derived.Deep.Cut
namespace Go.Proofs.Ytngfdkmiifpbgaa
open Go Go.RowKit
set_option maxHeartbeats 4000000
/-- The set of the conjugates of y. -/
def cjN (f : List (List Int)) (y : Nat) : Nat := setN (fun t => decide (∃ x, x < f.length ∧ cj f x y = t)) f.length
theorem cjN_in {f : List (List Int)} {n y : Nat} (hn : f.length = n) (hg : Grp f) (hy : y < n) : CjV f y n (cjN f y) := by
  intro t
  unfold cjN
  rw [inb_setN, hn]
  simp only [decide_eq_true_eq]
  constructor
  · exact fun h => h.2
  · rintro ⟨x, hx, rfl⟩
    exact ⟨hg.cj_lt hn hx hy, x, hx, rfl⟩
theorem CjV.uniq {f : List (List Int)} {n y V : Nat} (h : CjV f y n V) (hn : f.length = n) (hg : Grp f) (hy : y < n) : V = cjN f y := inb_eq fun t => by rw [h t, cjN_in hn hg hy t]
theorem cjN_center {f : List (List Int)} {n x : Nat} (hn : f.length = n) (h : Grp f) (hx : x < n) : cjN f x = 2 ^ x ↔ ctB f x = true := CjV.center hn h hx (cjN_in hn h hx)
theorem cjN_lt (f : List (List Int)) (y : Nat) : cjN f y < 2 ^ f.length := setN_lt _ _

set_option maxRecDepth 100000 in
theorem elFault_any (A : Option Addr) (n c : Nat) (f : List (List Int)) (x code : Int) (w : World) (hn : f.length = n) (hb : n ≤ 1048576) (hbs : ∀ i, i < f.length → (f.getD i []).length ≤ 1048576) (hr : Rd2 w A f) (hlo : -9223372036854775808 ≤ x) (hhi : x ≤ 9223372036854775807) (hres : ElC f x code) :
    Calls Try.prog 56 #[.agg #[.slice A n c], .int .i64 x] w (fun e w' => e = .returned (.int .i64 code) ∧ Below w.heap.size w w') := by
  have HN := hide hn
  have HRD := hide hr
  have HB0 := hide ((Below.refl _ w).alloc (Nat.le_refl _) (Obj.cells #[Value.slice A n c] 27))
  have HK0 := hide (Blk.new w 27 [.slice A n c])
  have HBS := hide hbs

  rcases hres with ⟨hg, h0, hx, rfl⟩ | ⟨hg, rfl⟩ | ⟨hg, hx, rfl⟩
  · rw [hn] at hx
    have HG := hide hg
    have HTB := hide hg.tbl
    have h1 : 1 ≤ n := (hg.pos HN.out).1
    have h12 : n ≤ 12 := (hg.pos HN.out).2
    clear hg hn hr hbs
    go_enter Try.func56, Try.ntmps56
    have k0 := HK0.out.cell 0 _ rfl
    go_wp2_with fail
    clear k0
    refine (isGrp_any _ _ _ f true _ HN.out hb HBS.out (HRD.out.later HB0.out) ⟨fun _ => HG.out, fun _ => rfl⟩).mono ?_
    rintro e w1 ⟨rfl, hb1⟩
    have HB1 := hide (HB0.out.trans (hb1.mono HB0.out.size))
    have HK1 := hide (HK0.out.later hb1)
    clear hb1
    have g1 : decide (x < 0) = false := by simpa using h0
    have k0 := HK1.out.cell 0 _ rfl
    go_wp2_with fail
    refine (gsize_any _ n _ _ (by omega)).mono ?_
    rintro e w2 ⟨rfl, hb1⟩
    have HB2 := hide (HB1.out.trans (hb1.mono HB1.out.size))
    have HK2 := hide (HK1.out.later hb1)
    clear hb1
    have g2 : decide ((n : Int) ≤ x) = false := by simpa using hx
    clear k0
    go_wp2_with fail
    go_ret
    exact ⟨rfl, HB2.out⟩
  · have HG := hide hg
    clear hg hn hr hbs
    go_enter Try.func56, Try.ntmps56
    have k0 := HK0.out.cell 0 _ rfl
    go_wp2_with fail
    clear k0
    refine (isGrp_any _ _ _ f false _ HN.out hb HBS.out (HRD.out.later HB0.out) ⟨fun h => (by cases h), fun h => absurd h HG.out⟩).mono ?_
    rintro e w1 ⟨rfl, hb1⟩
    have HB1 := hide (HB0.out.trans (hb1.mono HB0.out.size))
    have HK1 := hide (HK0.out.later hb1)
    clear hb1
    go_wp2_with fail
    go_ret
    exact ⟨rfl, HB1.out⟩
  · rw [hn] at hx
    have HG := hide hg
    have HTB := hide hg.tbl
    have h1 : 1 ≤ n := (hg.pos HN.out).1
    have h12 : n ≤ 12 := (hg.pos HN.out).2
    clear hg hn hr hbs
    by_cases hx0 : x < 0
    · go_enter Try.func56, Try.ntmps56
      have k0 := HK0.out.cell 0 _ rfl
      go_wp2_with fail
      clear k0
      refine (isGrp_any _ _ _ f true _ HN.out hb HBS.out (HRD.out.later HB0.out) ⟨fun _ => HG.out, fun _ => rfl⟩).mono ?_
      rintro e w1 ⟨rfl, hb1⟩
      have HB1 := hide (HB0.out.trans (hb1.mono HB0.out.size))
      have HK1 := hide (HK0.out.later hb1)
      clear hb1
      go_wp2_with fail
      go_ret
      exact ⟨rfl, HB1.out⟩
    · have hx1 : (n : Int) ≤ x := by omega
      have hx2 : 0 ≤ x := by omega
      clear hx
      go_enter Try.func56, Try.ntmps56
      have k0 := HK0.out.cell 0 _ rfl
      go_wp2_with fail
      clear k0
      refine (isGrp_any _ _ _ f true _ HN.out hb HBS.out (HRD.out.later HB0.out) ⟨fun _ => HG.out, fun _ => rfl⟩).mono ?_
      rintro e w1 ⟨rfl, hb1⟩
      have HB1 := hide (HB0.out.trans (hb1.mono HB0.out.size))
      have HK1 := hide (HK0.out.later hb1)
      clear hb1
      have k0 := HK1.out.cell 0 _ rfl
      go_wp2_with fail
      refine (gsize_any _ n _ _ (by omega)).mono ?_
      rintro e w2 ⟨rfl, hb1⟩
      have HB2 := hide (HB1.out.trans (hb1.mono HB1.out.size))
      have HK2 := hide (HK1.out.later hb1)
      clear hb1
      clear k0
      go_wp2_with fail
      go_ret
      exact ⟨rfl, HB2.out⟩

set_option maxRecDepth 100000 in
theorem isgrI (A : Option Addr) (n c : Nat) (f : List (List Int)) (r : Bool) (w : World) (hn : f.length = n) (hb : n ≤ 1048576) (hbs : ∀ i, i < f.length → (f.getD i []).length ≤ 1048576) (hr : Rd2 w A f) (hres : GrRes f r) :
    Calls Try.prog 17 #[.agg #[.slice A n c]] w (fun e w' => e = .returned (.bool r) ∧ Below w.heap.size w w') := by
  have HN := hide hn
  have HRD := hide hr
  have HB0 := hide ((Below.refl _ w).alloc (Nat.le_refl _) (Obj.cells #[Value.slice A n c] 27))
  have HK0 := hide (Blk.new w 27 [.slice A n c])
  have HBS := hide hbs

  have HR := hide hres
  clear hres hn hr hbs
  go_enter Try.func17, Try.ntmps17
  have k0 := HK0.out.cell 0 _ rfl
  go_wp2_with fail
  clear k0
  refine (isGrp_any _ _ _ f r _ HN.out hb HBS.out (HRD.out.later HB0.out) HR.out).mono ?_
  rintro e w1 ⟨rfl, hb1⟩
  have HB1 := hide (HB0.out.trans (hb1.mono HB0.out.size))
  have HK1 := hide (HK0.out.later hb1)
  clear hb1
  go_wp2_with fail
  go_ret
  exact ⟨rfl, HB1.out⟩

set_option maxRecDepth 100000 in
theorem invInI (A : Option Addr) (n c : Nat) (f : List (List Int)) (x v code : Int) (w : World) (hn : f.length = n) (hb : n ≤ 1048576) (hbs : ∀ i, i < f.length → (f.getD i []).length ≤ 1048576) (hr : Rd2 w A f) (hlo : -9223372036854775808 ≤ x) (hhi : x ≤ 9223372036854775807) (hres : ElRes (bk f) f x v code) :
    Calls Try.prog 20 #[.agg #[.slice A n c], .int .i64 x] w (fun e w' => e = .returned (.tuple #[.int .i64 v, .int .i64 code]) ∧ Below w.heap.size w w') := by
  have HN := hide hn
  have HRD := hide hr
  have HB0 := hide ((Below.refl _ w).alloc (Nat.le_refl _) (Obj.cells #[Value.slice A n c] 27))
  have HK0 := hide (Blk.new w 27 [.slice A n c])
  have HBS := hide hbs

  rcases hres with ⟨hg, ⟨u, hu, rfl, rfl⟩, rfl⟩ | ⟨hc, rfl, hel⟩
  · rw [hn] at hu
    have HEL : Hid (ElC f u 0) := hide (.inl ⟨hg, by omega, by rw [hn]; omega, rfl⟩)
    have HG := hide hg
    have HTB := hide hg.tbl
    have h1 : 1 ≤ n := (hg.pos HN.out).1
    have h12 : n ≤ 12 := (hg.pos HN.out).2
    clear hg hn hr hbs
    go_enter Try.func20, Try.ntmps20
    have k0 := HK0.out.cell 0 _ rfl
    go_wp2_with fail
    clear k0
    refine (elFault_any _ _ _ f _ 0 _ HN.out hb HBS.out (HRD.out.later HB0.out) hlo hhi HEL.out).mono ?_
    rintro e w1 ⟨rfl, hb1⟩
    have HB1 := hide (HB0.out.trans (hb1.mono HB0.out.size))
    have HK1 := hide (HK0.out.later hb1)
    clear hb1
    have k0 := HK1.out.cell 0 _ rfl
    go_wp2_with fail
    clear k0
    refine (ginv_any _ n _ f u _ HN.out HTB.out HG.out.prm (HRD.out.later HB1.out) hu).mono ?_
    rintro e w2 ⟨rfl, hb1⟩
    have HB2 := hide (HB1.out.trans (hb1.mono HB1.out.size))
    have HK2 := hide (HK1.out.later hb1)
    clear hb1
    go_wp2_with fail
    go_ret2
    exact ⟨rfl, HB2.out⟩
  · have HEL := hide hel
    have g1 : (code == 0) = false := by simpa using hc
    have g2 : (code != 0) = true := by simpa using hc
    clear hel hn hr hbs
    go_enter Try.func20, Try.ntmps20
    have k0 := HK0.out.cell 0 _ rfl
    go_wp2_with fail
    clear k0
    refine (elFault_any _ _ _ f _ code _ HN.out hb HBS.out (HRD.out.later HB0.out) hlo hhi HEL.out).mono ?_
    rintro e w1 ⟨rfl, hb1⟩
    have HB1 := hide (HB0.out.trans (hb1.mono HB0.out.size))
    have HK1 := hide (HK0.out.later hb1)
    clear hb1
    clear hc
    go_wp2_with fail
    go_ret2
    exact ⟨rfl, HB1.out⟩

set_option maxRecDepth 100000 in
theorem ordInI (A : Option Addr) (n c : Nat) (f : List (List Int)) (x v code : Int) (w : World) (hn : f.length = n) (hb : n ≤ 1048576) (hbs : ∀ i, i < f.length → (f.getD i []).length ≤ 1048576) (hr : Rd2 w A f) (hlo : -9223372036854775808 ≤ x) (hhi : x ≤ 9223372036854775807) (hres : ElRes (ordF f) f x v code) :
    Calls Try.prog 22 #[.agg #[.slice A n c], .int .i64 x] w (fun e w' => e = .returned (.tuple #[.int .i64 v, .int .i64 code]) ∧ Below w.heap.size w w') := by
  have HN := hide hn
  have HRD := hide hr
  have HB0 := hide ((Below.refl _ w).alloc (Nat.le_refl _) (Obj.cells #[Value.slice A n c] 27))
  have HK0 := hide (Blk.new w 27 [.slice A n c])
  have HBS := hide hbs

  rcases hres with ⟨hg, ⟨u, hu, rfl, rfl⟩, rfl⟩ | ⟨hc, rfl, hel⟩
  · rw [hn] at hu
    have HEL : Hid (ElC f u 0) := hide (.inl ⟨hg, by omega, by rw [hn]; omega, rfl⟩)
    have HG := hide hg
    have HTB := hide hg.tbl
    have h1 : 1 ≤ n := (hg.pos HN.out).1
    have h12 : n ≤ 12 := (hg.pos HN.out).2
    clear hg hn hr hbs
    obtain ⟨L, hL⟩ : ∃ L, ordF f u = L := ⟨_, rfl⟩
    have hL12 : L ≤ n := by rw [← hL]; exact (HG.out.ord HN.out hu).1
    have hL1 : 1 ≤ L := by rw [← hL]; exact (HG.out.ord HN.out hu).2.1
    have HL := hide hL
    rw [hL]
    clear hL
    go_enter Try.func22, Try.ntmps22
    have k0 := HK0.out.cell 0 _ rfl
    go_wp2_with fail
    clear k0
    refine (elFault_any _ _ _ f _ 0 _ HN.out hb HBS.out (HRD.out.later HB0.out) hlo hhi HEL.out).mono ?_
    rintro e w1 ⟨rfl, hb1⟩
    have HB1 := hide (HB0.out.trans (hb1.mono HB0.out.size))
    have HK1 := hide (HK0.out.later hb1)
    clear hb1
    go_wp2_with fail
    go_loopw [7, 8] (fun k y wr => ∃ j : Nat, j < L ∧ k = .int .i64 (j + 1 : Nat) ∧ y = .int .i64 (pwF f u j) ∧ Below w.heap.size w wr ∧ Blk wr w.heap.size 27 [.slice A n c]) (fun k _ _ => L - (intOf k).toNat)
    case atStart => exact ⟨0, hL1, rfl, by rw [HG.out.pw_zero HN.out hu], HB1.out, HK1.out⟩
    case round =>
      obtain ⟨j, hj, rfl, rfl, hbe, hkk⟩ := hrel
      have HB := hide hbe
      have HK := hide hkk
      clear hbe hkk
      have hend := HG.out.pw_end HN.out hu (k := j) (by rw [HL.out]; exact hj)
      rw [HL.out] at hend
      have hpl := HG.out.pw_lt HN.out hu j
      have hps := pw_succ f u j
      obtain ⟨p, hp⟩ : ∃ p, pwF f u j = p := ⟨_, rfl⟩
      rw [hp] at hend hpl hps ⊢
      obtain ⟨J, hJ⟩ : ∃ J, j + 1 = J := ⟨_, rfl⟩
      rw [hJ] at hend hps ⊢
      have HJ := hide hJ
      have HPS := hide hps
      have hJL : J ≤ L := by omega
      have hJ1 : 1 ≤ J := by omega
      clear hJ hp hps
      by_cases hz : p = 0
      · have he := hend.1 hz
        subst hz
        subst he
        clear hend
        go_wp2_with fail
        go_ret2
        exact ⟨rfl, HB.out⟩
      · have hJL2 : J < L := by
          by_cases e : J = L
          · exact absurd (hend.2 e) hz
          · omega
        have g2 : ((p : Int) == 0) = false := by simpa using (by omega : ¬ (p : Int) = 0)
        have g3 : ((p : Int) != 0) = true := by simpa using (by omega : ¬ (p : Int) = 0)
        clear hend hz
        have k0 := HK.out.cell 0 _ rfl
        go_wp2_with fail
        clear k0
        refine (gprod_any _ n _ f p u _ _ HN.out HTB.out (HRD.out.later HB.out) hpl hu rfl).mono ?_
        rintro e w5 ⟨rfl, hb1⟩
        have HB5 := hide (HB.out.trans (hb1.mono HB.out.size))
        have HK5 := hide (HK.out.later hb1)
        clear hb1
        go_wp2_with fail
        go_roundw
        case rel => exact ⟨J, hJL2, by go_num, by rw [HPS.out], HB5.out, HK5.out⟩
        case measure => simp [intOf]; omega
  · have HEL := hide hel
    have g1 : (code == 0) = false := by simpa using hc
    have g2 : (code != 0) = true := by simpa using hc
    clear hel hn hr hbs
    go_enter Try.func22, Try.ntmps22
    have k0 := HK0.out.cell 0 _ rfl
    go_wp2_with fail
    clear k0
    refine (elFault_any _ _ _ f _ code _ HN.out hb HBS.out (HRD.out.later HB0.out) hlo hhi HEL.out).mono ?_
    rintro e w1 ⟨rfl, hb1⟩
    have HB1 := hide (HB0.out.trans (hb1.mono HB0.out.size))
    have HK1 := hide (HK0.out.later hb1)
    clear hb1
    clear hc
    go_wp2_with fail
    go_ret2
    exact ⟨rfl, HB1.out⟩

set_option maxRecDepth 100000 in
theorem conj_any (A : Option Addr) (n c : Nat) (f : List (List Int)) (y : Nat) (w : World) (hn : f.length = n) (hg : Grp f) (hr : Rd2 w A f) (hy : y < n) :
    Calls Try.prog 98 #[.agg #[.slice A n c], .int .i64 y] w (fun e w' => e = .returned (.int .i64 (cjN f y)) ∧ Below w.heap.size w w') := by
  have HN := hide hn
  have HRD := hide hr
  have HB0 := hide ((Below.refl _ w).alloc (Nat.le_refl _) (Obj.cells #[Value.slice A n c] 27))
  have HK0 := hide (Blk.new w 27 [.slice A n c])
  have HG := hide hg
  have HTB := hide hg.tbl
  have h1 : 1 ≤ n := (hg.pos hn).1
  have h12 : n ≤ 12 := (hg.pos hn).2

  obtain ⟨V0, hV0⟩ : ∃ V, cjN f y = V := ⟨_, rfl⟩
  have HV0 := hide hV0
  rw [hV0]
  clear hV0 hn hr hg
  go_enter Try.func98, Try.ntmps98
  have k0 := HK0.out.cell 0 _ rfl
  go_wp2_with fail
  clear k0
  refine (gsize_any _ n _ _ (by omega)).mono ?_
  rintro e w1 ⟨rfl, hb1⟩
  have HB1 := hide (HB0.out.trans (hb1.mono HB0.out.size))
  have HK1 := hide (HK0.out.later hb1)
  clear hb1
  go_wp2_with fail
  go_loopw [5, 9] (fun s i wr => ∃ (x V : Nat), x ≤ n ∧ i = .int .i64 x ∧ s = .int .i64 V ∧ CjV f y x V ∧ V < 2 ^ n ∧ Below w.heap.size w wr ∧ Blk wr w.heap.size 27 [.slice A n c]) (fun _ i _ => n - (intOf i).toNat)
  case atStart => exact ⟨0, 0, Nat.zero_le _, rfl, rfl, CjV.start f y, Nat.pos_of_ne_zero (by simp), HB1.out, HK1.out⟩
  case round =>
    obtain ⟨x, V, hx, rfl, rfl, hv, hvl, hbe, hkk⟩ := hrel
    have HBc := hide hbe
    have HKc := hide hkk
    have HV := hide hv
    have HVL := hide hvl
    clear hbe hkk hv hvl
    by_cases hlt : x < n
    · have hxz : (x : Int) < n := by omega
      obtain ⟨v, hv⟩ : ∃ v, bk f x = v := ⟨_, rfl⟩
      have hvn : v < n := by rw [← hv]; exact HG.out.bk_lt HN.out hlt
      obtain ⟨u, hu⟩ : ∃ u, tm f x [y, v] = u := ⟨_, rfl⟩
      have hcu : cj f x y = u := by rw [← hu]; unfold cj; rw [hv]; rfl
      have hun : u < n := by rw [← hcu]; exact HG.out.cj_lt HN.out hlt hy
      have HST : Hid (CjV f y (x + 1) (V ||| 2 ^ u)) := hide (HV.out.step hcu)
      have HL2 : Hid (V ||| 2 ^ u < 2 ^ n) := hide (or_lt HVL.out hun)
      have hV12 : V < 4096 := Nat.lt_of_lt_of_le HVL.out (pow_le n h12)
      obtain ⟨p, hp⟩ : ∃ p, 2 ^ u = p := ⟨_, rfl⟩
      have hp12 : p < 4096 := by rw [← hp]; exact Nat.lt_of_lt_of_le (Nat.pow_lt_pow_right (by decide) (by omega : u < 12)) (Nat.le_refl _)
      have g1 : (2 : Int) ^ u = (p : Int) := by rw [← hp]; simp
      have g2 := bt_or V p (by omega) (by omega)
      have g3 : IntKind.i64.wrap (p : Int) = (p : Int) := IntWalk.i64_in _ (by omega)
      rw [hp] at HST HL2
      obtain ⟨V2, hV2⟩ : ∃ V2, V ||| p = V2 := ⟨_, rfl⟩
      rw [hV2] at HST HL2 g2
      have hV212 : V2 < 4096 := Nat.lt_of_lt_of_le HL2.out (pow_le n h12)
      have HVv := hide hv
      have HU := hide hu
      clear hv hu hcu hp hV2
      have k0 := HKc.out.cell 0 _ rfl
      have k9 := fun o => (HKc.out.alloc o).cell 0 _ rfl
      go_wp2_with fail
      go_region_held3 (fun w' => w'.cell? ⟨w.heap.size, 0, none⟩ = some (.slice A n c)) (first | exact k0 | go_keep) (first | (go_at_call 57; go_must (refine calls_gen fun wc hwc => ?_; (first | have hbx := drew_below hwc | have hbx := eq_below hwc); replace HBc := hide (HBc.out.trans (hbx.mono HBc.out.size)); replace HKc := hide (HKc.out.later hbx); clear hwc hbx; refine (ginv_any _ n _ f x _ HN.out HTB.out HG.out.prm (HRD.out.later HBc.out) hlt).mono ?_; rintro e wd ⟨rfl, hbd⟩; rw [HVv.out]; replace HBc := hide (HBc.out.trans (hbd.mono HBc.out.size)); replace HKc := hide (HKc.out.later hbd); clear hbd; have k0 := HKc.out.cell 0 _ rfl; have k9 := fun o => (HKc.out.alloc o).cell 0 _ rfl)) | (go_at_call 111; go_must (refine calls_gen fun wc hwc => ?_; have hbx : Below wd.heap.size wd wc := (by rw [hwc]; first | exact (Below.refl _ _).alloc (Nat.le_refl _) _ | exact ((Below.refl _ _).alloc (Nat.le_refl _) _).drew); have HSx : Hid (Blk wc wd.heap.size 2 [.int .i64 y, .int .i64 v]) := hide (by rw [hwc]; first | exact Blk.new _ _ _ | exact (Blk.new _ _ _).drew); replace HBc := hide (HBc.out.trans (hbx.mono HBc.out.size)); replace HKc := hide (HKc.out.later hbx); clear hwc hbx; refine (times_any _ n _ f x _ 2 [y, v] _ HN.out HTB.out (HRD.out.later HBc.out) hlt rfl (by intro q hq; simp at hq; rcases hq with rfl | rfl <;> omega) HSx.out (by decide)).mono ?_; rintro e wf ⟨rfl, hbd⟩; rw [HU.out]; replace HBc := hide (HBc.out.trans (hbd.mono HBc.out.size)); replace HKc := hide (HKc.out.later hbd); clear hbd; have k0 := HKc.out.cell 0 _ rfl)))
      all_goals go_wp2_with fail
      all_goals go_roundw
      all_goals first
        | (simp [intOf]; omega)
        | exact ⟨x + 1, V2, by omega, by go_num, rfl, HST.out, HL2.out, HBc.out, HKc.out⟩
    · have hxn : x = n := by omega
      subst hxn
      have hVe : V = V0 := by rw [← HV0.out]; exact HV.out.uniq HN.out HG.out hy
      subst hVe
      go_wp2_with fail
      go_ret
      exact ⟨rfl, HBc.out⟩

set_option maxRecDepth 100000 in
theorem center_any (A : Option Addr) (n c : Nat) (f : List (List Int))  (w : World) (hn : f.length = n) (hg : Grp f) (hr : Rd2 w A f)  :
    Calls Try.prog 68 #[.agg #[.slice A n c]] w (fun e w' => e = .returned (.int .i64 (ctN f n)) ∧ Below w.heap.size w w') := by
  have HN := hide hn
  have HRD := hide hr
  have HB0 := hide ((Below.refl _ w).alloc (Nat.le_refl _) (Obj.cells #[Value.slice A n c] 27))
  have HK0 := hide (Blk.new w 27 [.slice A n c])
  have HG := hide hg
  have HTB := hide hg.tbl
  have h1 : 1 ≤ n := (hg.pos hn).1
  have h12 : n ≤ 12 := (hg.pos hn).2

  clear hn hr hg
  go_enter Try.func68, Try.ntmps68
  have k0 := HK0.out.cell 0 _ rfl
  go_wp2_with fail
  clear k0
  refine (gsize_any _ n _ _ (by omega)).mono ?_
  rintro e w1 ⟨rfl, hb1⟩
  have HB1 := hide (HB0.out.trans (hb1.mono HB0.out.size))
  have HK1 := hide (HK0.out.later hb1)
  clear hb1
  go_wp2_with fail
  go_loopw [3, 7] (fun s i wr => ∃ x : Nat, x ≤ n ∧ i = .int .i64 x ∧ s = .int .i64 (ctN f x) ∧ Below w.heap.size w wr ∧ Blk wr w.heap.size 27 [.slice A n c]) (fun _ i _ => n - (intOf i).toNat)
  case atStart => exact ⟨0, Nat.zero_le _, rfl, rfl, HB1.out, HK1.out⟩
  case round =>
    obtain ⟨x, hx, rfl, rfl, hbe, hkk⟩ := hrel
    have HB := hide hbe
    have HK := hide hkk
    clear hbe hkk
    have hvl : ctN f x < 2 ^ 12 := Nat.lt_of_lt_of_le (setN_lt _ _) (Nat.pow_le_pow_right (by decide) (by omega))
    have hst : ctN f (x + 1) = if ctB f x = true then ctN f x ||| 2 ^ x else ctN f x := rfl
    obtain ⟨S, hS⟩ : ∃ S, ctN f x = S := ⟨_, rfl⟩
    rw [hS] at hvl hst ⊢
    by_cases hlt : x < n
    · have hxz : (x : Int) < n := by omega
      have hcc := cjN_center HN.out HG.out hlt
      have hcl := cjN_lt f x
      rw [HN.out] at hcl
      have hcl2 : cjN f x < 4096 := Nat.lt_of_lt_of_le hcl (pow_le n h12)
      obtain ⟨p, hp⟩ : ∃ p, 2 ^ x = p := ⟨_, rfl⟩
      have hp12 : p < 4096 := by rw [← hp]; exact Nat.lt_of_lt_of_le (Nat.pow_lt_pow_right (by decide) (by omega : x < 12)) (Nat.le_refl _)
      have g1 : (2 : Int) ^ x = (p : Int) := by rw [← hp]; simp
      have g2 := bt_or S p (by omega) (by omega)
      have g3 : IntKind.i64.wrap (p : Int) = (p : Int) := IntWalk.i64_in _ (by omega)
      rw [hp] at hcc hst
      obtain ⟨q, hq⟩ : ∃ q, cjN f x = q := ⟨_, rfl⟩
      rw [hq] at hcc hcl2
      have HQ := hide hq
      obtain ⟨S2, hS2⟩ : ∃ S2, S ||| p = S2 := ⟨_, rfl⟩
      rw [hS2] at hst g2
      clear hp hq hcl hS hS2
      have k0 := HK.out.cell 0 _ rfl
      by_cases hb : ctB f x = true
      · have hqp := hcc.2 hb
        rw [if_pos hb] at hst
        have HST := hide hst
        subst hqp
        clear hcc hb hst
        have HBc := HB
        have HKc := HK
        go_wp2_with fail
        go_region_held3 (fun w' => w'.cell? ⟨w.heap.size, 0, none⟩ = some (.slice A n c)) (first | exact k0 | go_keep) (first | (go_at_call 98; go_must (refine calls_gen fun wc hwc => ?_; (first | have hbx := drew_below hwc | have hbx := eq_below hwc); replace HBc := hide (HBc.out.trans (hbx.mono HBc.out.size)); replace HKc := hide (HKc.out.later hbx); clear hwc hbx; refine (conj_any _ n _ f x _ HN.out HG.out (HRD.out.later HBc.out) hlt).mono ?_; rintro e wd ⟨rfl, hbd⟩; rw [HQ.out]; replace HBc := hide (HBc.out.trans (hbd.mono HBc.out.size)); replace HKc := hide (HKc.out.later hbd); clear hbd; have k0 := HKc.out.cell 0 _ rfl)))
        go_wp2_with fail
        go_roundw
        case rel => exact ⟨x + 1, by omega, by go_num, by rw [HST.out], HBc.out, HKc.out⟩
        case measure => simp [intOf]; omega
      · have hqp : ¬ q = p := fun h => hb (hcc.1 h)
        have hqz : ((q : Int) == (p : Int)) = false := by simpa using fun h => hqp (by omega)
        rw [if_neg hb] at hst
        have HST := hide hst
        clear hcc hb hst hqp
        have HBc := HB
        have HKc := HK
        go_wp2_with fail
        go_region_held3 (fun w' => w'.cell? ⟨w.heap.size, 0, none⟩ = some (.slice A n c)) (first | exact k0 | go_keep) (first | (go_at_call 98; go_must (refine calls_gen fun wc hwc => ?_; (first | have hbx := drew_below hwc | have hbx := eq_below hwc); replace HBc := hide (HBc.out.trans (hbx.mono HBc.out.size)); replace HKc := hide (HKc.out.later hbx); clear hwc hbx; refine (conj_any _ n _ f x _ HN.out HG.out (HRD.out.later HBc.out) hlt).mono ?_; rintro e wd ⟨rfl, hbd⟩; rw [HQ.out]; replace HBc := hide (HBc.out.trans (hbd.mono HBc.out.size)); replace HKc := hide (HKc.out.later hbd); clear hbd; have k0 := HKc.out.cell 0 _ rfl)))
        go_wp2_with fail
        go_roundw
        case rel => exact ⟨x + 1, by omega, by go_num, by rw [HST.out], HBc.out, HKc.out⟩
        case measure => simp [intOf]; omega
    · have hxn : x = n := by omega
      subst hxn
      clear hst
      go_wp2_with fail
      go_ret
      exact ⟨by rw [hS]; rfl, HB.out⟩

set_option maxRecDepth 100000 in
theorem whole_any (A : Option Addr) (n c : Nat) (f : List (List Int))  (w : World) (hn : f.length = n) (hg : Grp f) (hr : Rd2 w A f)  :
    Calls Try.prog 69 #[.agg #[.slice A n c]] w (fun e w' => e = .returned (.int .i64 (2 ^ n - 1 : Nat)) ∧ Below w.heap.size w w') := by
  have HN := hide hn
  have HRD := hide hr
  have HB0 := hide ((Below.refl _ w).alloc (Nat.le_refl _) (Obj.cells #[Value.slice A n c] 27))
  have HK0 := hide (Blk.new w 27 [.slice A n c])
  have HG := hide hg
  have HTB := hide hg.tbl
  have h1 : 1 ≤ n := (hg.pos hn).1
  have h12 : n ≤ 12 := (hg.pos hn).2

  obtain ⟨p, hp⟩ : ∃ p, 2 ^ n = p := ⟨_, rfl⟩
  have hp12 : p ≤ 4096 := by rw [← hp]; exact pow_le n h12
  have hp1 : 1 ≤ p := by rw [← hp]; exact Nat.pos_of_ne_zero (by simp)
  have g1 : (2 : Int) ^ n = (p : Int) := by rw [← hp]; simp
  rw [hp]
  have g3 : ((p - 1 : Nat) : Int) = (p : Int) - 1 := by omega
  rw [g3]
  clear hn hr hg hp g3
  go_enter Try.func69, Try.ntmps69
  have k0 := HK0.out.cell 0 _ rfl
  go_wp2_with fail
  clear k0
  refine (gsize_any _ n _ _ (by omega)).mono ?_
  rintro e w1 ⟨rfl, hb1⟩
  have HB1 := hide (HB0.out.trans (hb1.mono HB0.out.size))
  have HK1 := hide (HK0.out.later hb1)
  clear hb1
  go_wp2_with fail
  go_ret
  exact ⟨rfl, HB1.out⟩

set_option maxRecDepth 100000 in
theorem ctOfI (A : Option Addr) (n c : Nat) (f : List (List Int)) (v code : Int) (w : World) (hn : f.length = n) (hb : n ≤ 1048576) (hbs : ∀ i, i < f.length → (f.getD i []).length ≤ 1048576) (hr : Rd2 w A f) (hres : CtRes f v code) :
    Calls Try.prog 32 #[.agg #[.slice A n c]] w (fun e w' => e = .returned (.tuple #[.int .i64 v, .int .i64 code]) ∧ Below w.heap.size w w') := by
  have HN := hide hn
  have HRD := hide hr
  have HB0 := hide ((Below.refl _ w).alloc (Nat.le_refl _) (Obj.cells #[Value.slice A n c] 27))
  have HK0 := hide (Blk.new w 27 [.slice A n c])
  have HBS := hide hbs

  rcases hres with ⟨hg, rfl, rfl⟩ | ⟨hg, rfl, rfl⟩
  · have HG := hide hg
    have HTB := hide hg.tbl
    have h1 : 1 ≤ n := (hg.pos HN.out).1
    have h12 : n ≤ 12 := (hg.pos HN.out).2
    clear hg hn hr hbs
    go_enter Try.func32, Try.ntmps32
    have k0 := HK0.out.cell 0 _ rfl
    go_wp2_with fail
    clear k0
    refine (isGrp_any _ _ _ f true _ HN.out hb HBS.out (HRD.out.later HB0.out) ⟨fun _ => HG.out, fun _ => rfl⟩).mono ?_
    rintro e w1 ⟨rfl, hb1⟩
    have HB1 := hide (HB0.out.trans (hb1.mono HB0.out.size))
    have HK1 := hide (HK0.out.later hb1)
    clear hb1
    have k0 := HK1.out.cell 0 _ rfl
    go_wp2_with fail
    clear k0
    refine (center_any _ n _ f _ HN.out HG.out (HRD.out.later HB1.out)).mono ?_
    rintro e w2 ⟨rfl, hb1⟩
    have HB2 := hide (HB1.out.trans (hb1.mono HB1.out.size))
    have HK2 := hide (HK1.out.later hb1)
    clear hb1
    go_wp2_with fail
    go_ret2
    exact ⟨by rw [HN.out]; rfl, HB2.out⟩
  · have HG := hide hg
    clear hg hn hr hbs
    go_enter Try.func32, Try.ntmps32
    have k0 := HK0.out.cell 0 _ rfl
    go_wp2_with fail
    clear k0
    refine (isGrp_any _ _ _ f false _ HN.out hb HBS.out (HRD.out.later HB0.out) ⟨fun h => (by cases h), fun h => absurd h HG.out⟩).mono ?_
    rintro e w1 ⟨rfl, hb1⟩
    have HB1 := hide (HB0.out.trans (hb1.mono HB0.out.size))
    have HK1 := hide (HK0.out.later hb1)
    clear hb1
    go_wp2_with fail
    go_ret2
    exact ⟨rfl, HB1.out⟩

set_option maxRecDepth 100000 in
theorem abI (A : Option Addr) (n c : Nat) (f : List (List Int)) (r : Bool) (code : Int) (w : World) (hn : f.length = n) (hb : n ≤ 1048576) (hbs : ∀ i, i < f.length → (f.getD i []).length ≤ 1048576) (hr : Rd2 w A f) (hres : AbRes f r code) :
    Calls Try.prog 30 #[.agg #[.slice A n c]] w (fun e w' => e = .returned (.tuple #[.bool r, .int .i64 code]) ∧ Below w.heap.size w w') := by
  have HN := hide hn
  have HRD := hide hr
  have HB0 := hide ((Below.refl _ w).alloc (Nat.le_refl _) (Obj.cells #[Value.slice A n c] 27))
  have HK0 := hide (Blk.new w 27 [.slice A n c])
  have HBS := hide hbs

  rcases hres with ⟨hg, hrr, rfl⟩ | ⟨hg, rfl, rfl⟩
  · have HR := hide hrr
    clear hrr
    have HG := hide hg
    have HTB := hide hg.tbl
    have h1 : 1 ≤ n := (hg.pos HN.out).1
    have h12 : n ≤ 12 := (hg.pos HN.out).2
    clear hg hn hr hbs
    go_enter Try.func30, Try.ntmps30
    have k0 := HK0.out.cell 0 _ rfl
    go_wp2_with fail
    clear k0
    refine (isGrp_any _ _ _ f true _ HN.out hb HBS.out (HRD.out.later HB0.out) ⟨fun _ => HG.out, fun _ => rfl⟩).mono ?_
    rintro e w1 ⟨rfl, hb1⟩
    have HB1 := hide (HB0.out.trans (hb1.mono HB0.out.size))
    have HK1 := hide (HK0.out.later hb1)
    clear hb1
    have hw := ctN_whole f
    rw [HN.out] at hw
    obtain ⟨q, hq⟩ : ∃ q, ctN f n = q := ⟨_, rfl⟩
    obtain ⟨p, hp⟩ : ∃ p, 2 ^ n - 1 = p := ⟨_, rfl⟩
    rw [hq, hp] at hw
    have HQ := hide hq
    have HP := hide hp
    have hq12 : q < 4096 := by rw [← hq]; exact Nat.lt_of_lt_of_le (setN_lt _ _) (pow_le n h12)
    have hp12 : p < 4096 := by rw [← hp]; have := pow_le n h12; have : 0 < 2 ^ n := Nat.pos_of_ne_zero (by simp); omega
    clear hq hp
    by_cases he : q = p
    · have hrt : r = true := HR.out.2 (hw.1 he)
      subst hrt
      subst he
      clear hw
      have HBc := HB1
      have HKc := HK1
      have k0 := HKc.out.cell 0 _ rfl
      go_wp2_with fail
      go_region_held3 (fun w' => w'.cell? ⟨w.heap.size, 0, none⟩ = some (.slice A n c)) (first | exact k0 | go_keep) (first | (go_at_call 68; go_must (refine calls_gen fun wc hwc => ?_; (first | have hbx := drew_below hwc | have hbx := eq_below hwc); replace HBc := hide (HBc.out.trans (hbx.mono HBc.out.size)); replace HKc := hide (HKc.out.later hbx); clear hwc hbx; refine (center_any _ n _ f _ HN.out HG.out (HRD.out.later HBc.out)).mono ?_; rintro e wd ⟨rfl, hbd⟩; rw [HQ.out]; replace HBc := hide (HBc.out.trans (hbd.mono HBc.out.size)); replace HKc := hide (HKc.out.later hbd); clear hbd; have k0 := HKc.out.cell 0 _ rfl)) | (go_at_call 69; go_must (refine calls_gen fun wc hwc => ?_; (first | have hbx := drew_below hwc | have hbx := eq_below hwc); replace HBc := hide (HBc.out.trans (hbx.mono HBc.out.size)); replace HKc := hide (HKc.out.later hbx); clear hwc hbx; refine (whole_any _ n _ f _ HN.out HG.out (HRD.out.later HBc.out)).mono ?_; rintro e wd ⟨rfl, hbd⟩; rw [HP.out]; replace HBc := hide (HBc.out.trans (hbd.mono HBc.out.size)); replace HKc := hide (HKc.out.later hbd); clear hbd; have k0 := HKc.out.cell 0 _ rfl)))
      go_wp2_with fail
      go_ret2
      exact ⟨rfl, HBc.out⟩
    · have hrf : r = false := by
        cases r
        · rfl
        · exact absurd (hw.2 (HR.out.1 rfl)) he
      subst hrf
      have hez : ((q : Int) == (p : Int)) = false := by simpa using fun h => he (by omega)
      clear hw he
      have HBc := HB1
      have HKc := HK1
      have k0 := HKc.out.cell 0 _ rfl
      go_wp2_with fail
      go_region_held3 (fun w' => w'.cell? ⟨w.heap.size, 0, none⟩ = some (.slice A n c)) (first | exact k0 | go_keep) (first | (go_at_call 68; go_must (refine calls_gen fun wc hwc => ?_; (first | have hbx := drew_below hwc | have hbx := eq_below hwc); replace HBc := hide (HBc.out.trans (hbx.mono HBc.out.size)); replace HKc := hide (HKc.out.later hbx); clear hwc hbx; refine (center_any _ n _ f _ HN.out HG.out (HRD.out.later HBc.out)).mono ?_; rintro e wd ⟨rfl, hbd⟩; rw [HQ.out]; replace HBc := hide (HBc.out.trans (hbd.mono HBc.out.size)); replace HKc := hide (HKc.out.later hbd); clear hbd; have k0 := HKc.out.cell 0 _ rfl)) | (go_at_call 69; go_must (refine calls_gen fun wc hwc => ?_; (first | have hbx := drew_below hwc | have hbx := eq_below hwc); replace HBc := hide (HBc.out.trans (hbx.mono HBc.out.size)); replace HKc := hide (HKc.out.later hbx); clear hwc hbx; refine (whole_any _ n _ f _ HN.out HG.out (HRD.out.later HBc.out)).mono ?_; rintro e wd ⟨rfl, hbd⟩; rw [HP.out]; replace HBc := hide (HBc.out.trans (hbd.mono HBc.out.size)); replace HKc := hide (HKc.out.later hbd); clear hbd; have k0 := HKc.out.cell 0 _ rfl)))
      go_wp2_with fail
      go_ret2
      exact ⟨rfl, HBc.out⟩
  · have HG := hide hg
    clear hg hn hr hbs
    go_enter Try.func30, Try.ntmps30
    have k0 := HK0.out.cell 0 _ rfl
    go_wp2_with fail
    clear k0
    refine (isGrp_any _ _ _ f false _ HN.out hb HBS.out (HRD.out.later HB0.out) ⟨fun h => (by cases h), fun h => absurd h HG.out⟩).mono ?_
    rintro e w1 ⟨rfl, hb1⟩
    have HB1 := hide (HB0.out.trans (hb1.mono HB0.out.size))
    have HK1 := hide (HK0.out.later hb1)
    clear hb1
    go_wp2_with fail
    go_ret2
    exact ⟨rfl, HB1.out⟩

end Go.Proofs.Ytngfdkmiifpbgaa
