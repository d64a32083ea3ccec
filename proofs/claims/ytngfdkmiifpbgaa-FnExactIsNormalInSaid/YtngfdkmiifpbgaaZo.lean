import Derived.Test.YtngfdkmiifpbgaaZm
import Derived.Test.YtngfdkmiifpbgaaZb
import Derived.Test.YtngfdkmiifpbgaaZl
namespace Go.Proofs.Ytngfdkmiifpbgaa
open Go Go.RowKit
set_option maxHeartbeats 4000000
theorem hp_below {P : Program} {F : FuncId} {args : Array Value} {w : World} {v : Ending} (h : Calls P F args w fun e w' => e = v ∧ Quiet w w') : Calls P F args w fun e w' => e = v ∧ Below w.heap.size w w' := h.mono fun _ _ ⟨he, hq⟩ => ⟨he, hq.below _⟩

set_option maxRecDepth 100000 in
theorem elCode_any (A : Option Addr) (n c : Nat) (f : List (List Int)) (x code : Int) (w : World) (hn : f.length = n) (hb : n ≤ 1048576) (hbs : ∀ i, i < f.length → (f.getD i []).length ≤ 1048576) (hr : Rd2 w A f) (hlo : -9223372036854775808 ≤ x) (hhi : x ≤ 9223372036854775807) (hres : ElC f x code) :
    Calls Try.prog 54 #[.agg #[.slice A n c], .int .i64 x] w (fun e w' => e = .returned (.int .i64 code) ∧ Below w.heap.size w w') := by
  have HN := hide hn
  have HRD := hide hr
  have HB0 := hide ((Below.refl _ w).alloc (Nat.le_refl _) (Obj.cells #[Value.slice A n c] 27))
  have HK0 := hide (Blk.new w 27 [.slice A n c])
  have HBS := hide hbs

  rcases hres with ⟨hg, h0, hx, rfl⟩ | ⟨hg, rfl⟩ | ⟨hg, hx, rfl⟩
  · rw [hn] at hx
    have HG := hide hg
    have HTB := hide hg.tbl
    have h1 : 1 ≤ n := (hg.pos HN.out).1
    have h12 : n ≤ 12 := (hg.pos HN.out).2
    clear hg hn hr hbs
    go_enter Try.func54, Try.ntmps54
    have k0 := HK0.out.cell 0 _ rfl
    go_wp2_with fail
    clear k0
    refine (gq_below (isGrpS_any _ _ _ f true _ HN.out hb HBS.out (HRD.out.later HB0.out) ⟨fun _ => HG.out, fun _ => rfl⟩)).mono ?_
    rintro e w1 ⟨rfl, hb1⟩
    have HB1 := hide (HB0.out.trans (hb1.mono HB0.out.size))
    have HK1 := hide (HK0.out.later hb1)
    clear hb1
    have k0 := HK1.out.cell 0 _ rfl
    go_wp2_with fail
    clear k0
    refine (hp_below (in_any x 0 _ true _ (by simp only [true_iff]; omega))).mono ?_
    rintro e w2 ⟨rfl, hb1⟩
    have HB2 := hide (HB1.out.trans (hb1.mono HB1.out.size))
    have HK2 := hide (HK1.out.later hb1)
    clear hb1
    go_wp2_with fail
    go_ret
    exact ⟨rfl, HB2.out⟩
  · have HG := hide hg
    clear hg hn hr hbs
    go_enter Try.func54, Try.ntmps54
    have k0 := HK0.out.cell 0 _ rfl
    go_wp2_with fail
    clear k0
    refine (gq_below (isGrpS_any _ _ _ f false _ HN.out hb HBS.out (HRD.out.later HB0.out) ⟨fun h => (by cases h), fun h => absurd h HG.out⟩)).mono ?_
    rintro e w1 ⟨rfl, hb1⟩
    have HB1 := hide (HB0.out.trans (hb1.mono HB0.out.size))
    have HK1 := hide (HK0.out.later hb1)
    clear hb1
    go_wp2_with fail
    go_ret
    exact ⟨rfl, HB1.out⟩
  · rw [hn] at hx
    have HG := hide hg
    have HTB := hide hg.tbl
    have h1 : 1 ≤ n := (hg.pos HN.out).1
    have h12 : n ≤ 12 := (hg.pos HN.out).2
    clear hg hn hr hbs
    go_enter Try.func54, Try.ntmps54
    have k0 := HK0.out.cell 0 _ rfl
    go_wp2_with fail
    clear k0
    refine (gq_below (isGrpS_any _ _ _ f true _ HN.out hb HBS.out (HRD.out.later HB0.out) ⟨fun _ => HG.out, fun _ => rfl⟩)).mono ?_
    rintro e w1 ⟨rfl, hb1⟩
    have HB1 := hide (HB0.out.trans (hb1.mono HB0.out.size))
    have HK1 := hide (HK0.out.later hb1)
    clear hb1
    have k0 := HK1.out.cell 0 _ rfl
    go_wp2_with fail
    clear k0
    refine (hp_below (in_any x 0 _ false _ (by simp only [Bool.false_eq_true, false_iff]; omega))).mono ?_
    rintro e w2 ⟨rfl, hb1⟩
    have HB2 := hide (HB1.out.trans (hb1.mono HB1.out.size))
    have HK2 := hide (HK1.out.later hb1)
    clear hb1
    clear hx
    go_wp2_with fail
    go_ret
    exact ⟨rfl, HB2.out⟩

set_option maxRecDepth 100000 in
theorem isgrS (A : Option Addr) (n c : Nat) (f : List (List Int)) (r : Bool) (w : World) (hn : f.length = n) (hb : n ≤ 1048576) (hbs : ∀ i, i < f.length → (f.getD i []).length ≤ 1048576) (hr : Rd2 w A f) (hres : GrRes f r) :
    Calls Try.prog 15 #[.agg #[.slice A n c]] w (fun e w' => e = .returned (.bool r) ∧ Below w.heap.size w w') := by
  have HN := hide hn
  have HRD := hide hr
  have HB0 := hide ((Below.refl _ w).alloc (Nat.le_refl _) (Obj.cells #[Value.slice A n c] 27))
  have HK0 := hide (Blk.new w 27 [.slice A n c])
  have HBS := hide hbs

  have HR := hide hres
  clear hres hn hr hbs
  go_enter Try.func15, Try.ntmps15
  have k0 := HK0.out.cell 0 _ rfl
  go_wp2_with fail
  clear k0
  refine (gq_below (isGrpS_any _ _ _ f r _ HN.out hb HBS.out (HRD.out.later HB0.out) HR.out)).mono ?_
  rintro e w1 ⟨rfl, hb1⟩
  have HB1 := hide (HB0.out.trans (hb1.mono HB0.out.size))
  have HK1 := hide (HK0.out.later hb1)
  clear hb1
  go_wp2_with fail
  go_ret
  exact ⟨rfl, HB1.out⟩

set_option maxRecDepth 100000 in
theorem invInS (A : Option Addr) (n c : Nat) (f : List (List Int)) (x v code : Int) (w : World) (hn : f.length = n) (hb : n ≤ 1048576) (hbs : ∀ i, i < f.length → (f.getD i []).length ≤ 1048576) (hr : Rd2 w A f) (hlo : -9223372036854775808 ≤ x) (hhi : x ≤ 9223372036854775807) (hres : ElRes (bk f) f x v code) :
    Calls Try.prog 19 #[.agg #[.slice A n c], .int .i64 x] w (fun e w' => e = .returned (.tuple #[.int .i64 v, .int .i64 code]) ∧ Below w.heap.size w w') := by
  have HN := hide hn
  have HRD := hide hr
  have HB0 := hide ((Below.refl _ w).alloc (Nat.le_refl _) (Obj.cells #[Value.slice A n c] 27))
  have HK0 := hide (Blk.new w 27 [.slice A n c])
  have HBS := hide hbs

  rcases hres with ⟨hg, ⟨u, hu, rfl, rfl⟩, rfl⟩ | ⟨hc, rfl, hel⟩
  · rw [hn] at hu
    have HEL : Hid (ElC f u 0) := hide (.inl ⟨hg, by omega, by rw [hn]; omega, rfl⟩)
    have HG := hide hg
    have HTB := hide hg.tbl
    have h1 : 1 ≤ n := (hg.pos HN.out).1
    have h12 : n ≤ 12 := (hg.pos HN.out).2
    clear hg hn hr hbs
    go_enter Try.func19, Try.ntmps19
    have k0 := HK0.out.cell 0 _ rfl
    go_wp2_with fail
    clear k0
    refine (elCode_any _ _ _ f _ 0 _ HN.out hb HBS.out (HRD.out.later HB0.out) hlo hhi HEL.out).mono ?_
    rintro e w1 ⟨rfl, hb1⟩
    have HB1 := hide (HB0.out.trans (hb1.mono HB0.out.size))
    have HK1 := hide (HK0.out.later hb1)
    clear hb1
    have k0 := HK1.out.cell 0 _ rfl
    go_wp2_with fail
    clear k0
    refine (hp_below (backS_any _ n _ f u _ HN.out HTB.out HG.out.prm (HRD.out.later HB1.out) hu)).mono ?_
    rintro e w2 ⟨rfl, hb1⟩
    have HB2 := hide (HB1.out.trans (hb1.mono HB1.out.size))
    have HK2 := hide (HK1.out.later hb1)
    clear hb1
    go_wp2_with fail
    go_ret2
    exact ⟨rfl, HB2.out⟩
  · have HEL := hide hel
    have g1 : (code == 0) = false := by simpa using hc
    have g2 : (code != 0) = true := by simpa using hc
    clear hel hn hr hbs
    go_enter Try.func19, Try.ntmps19
    have k0 := HK0.out.cell 0 _ rfl
    go_wp2_with fail
    clear k0
    refine (elCode_any _ _ _ f _ code _ HN.out hb HBS.out (HRD.out.later HB0.out) hlo hhi HEL.out).mono ?_
    rintro e w1 ⟨rfl, hb1⟩
    have HB1 := hide (HB0.out.trans (hb1.mono HB0.out.size))
    have HK1 := hide (HK0.out.later hb1)
    clear hb1
    clear hc
    go_wp2_with fail
    go_ret2
    exact ⟨rfl, HB1.out⟩

set_option maxRecDepth 100000 in
theorem ordInS (A : Option Addr) (n c : Nat) (f : List (List Int)) (x v code : Int) (w : World) (hn : f.length = n) (hb : n ≤ 1048576) (hbs : ∀ i, i < f.length → (f.getD i []).length ≤ 1048576) (hr : Rd2 w A f) (hlo : -9223372036854775808 ≤ x) (hhi : x ≤ 9223372036854775807) (hres : ElRes (ordF f) f x v code) :
    Calls Try.prog 21 #[.agg #[.slice A n c], .int .i64 x] w (fun e w' => e = .returned (.tuple #[.int .i64 v, .int .i64 code]) ∧ Below w.heap.size w w') := by
  have HN := hide hn
  have HRD := hide hr
  have HB0 := hide ((Below.refl _ w).alloc (Nat.le_refl _) (Obj.cells #[Value.slice A n c] 27))
  have HK0 := hide (Blk.new w 27 [.slice A n c])
  have HBS := hide hbs

  rcases hres with ⟨hg, ⟨u, hu, rfl, rfl⟩, rfl⟩ | ⟨hc, rfl, hel⟩
  · rw [hn] at hu
    have HEL : Hid (ElC f u 0) := hide (.inl ⟨hg, by omega, by rw [hn]; omega, rfl⟩)
    have HG := hide hg
    have HTB := hide hg.tbl
    have h1 : 1 ≤ n := (hg.pos HN.out).1
    have h12 : n ≤ 12 := (hg.pos HN.out).2
    clear hg hn hr hbs
    obtain ⟨L, hL⟩ : ∃ L, ordF f u = L := ⟨_, rfl⟩
    have hL12 : L ≤ n := by rw [← hL]; exact (HG.out.ord HN.out hu).1
    have hL1 : 1 ≤ L := by rw [← hL]; exact (HG.out.ord HN.out hu).2.1
    have HL := hide hL
    rw [hL]
    clear hL
    obtain ⟨b, o, hA, hbw, hc⟩ := HTB.out.cells HRD.out HN.out
    subst hA
    have HC := hide hc
    clear hc
    go_enter Try.func21, Try.ntmps21
    have k0 := HK0.out.cell 0 _ rfl
    go_wp2_with fail
    clear k0
    refine (elCode_any _ _ _ f _ 0 _ HN.out hb HBS.out (HRD.out.later HB0.out) hlo hhi HEL.out).mono ?_
    rintro e w1 ⟨rfl, hb1⟩
    have HB1 := hide (HB0.out.trans (hb1.mono HB0.out.size))
    have HK1 := hide (HK0.out.later hb1)
    clear hb1
    go_wp2_with fail
    go_loopw [7, 8] (fun k y wr => ∃ j : Nat, j < L ∧ k = .int .i64 (j + 1 : Nat) ∧ y = .int .i64 (pwF f u j) ∧ Below w.heap.size w wr ∧ Blk wr w.heap.size 27 [.slice (some ⟨b, o, none⟩) n c]) (fun k _ _ => L - (intOf k).toNat)
    case atStart => exact ⟨0, hL1, rfl, by rw [HG.out.pw_zero HN.out hu], HB1.out, HK1.out⟩
    case round =>
      obtain ⟨j, hj, rfl, rfl, hbe, hkk⟩ := hrel
      have HB := hide hbe
      have HK := hide hkk
      clear hbe hkk
      have hend := HG.out.pw_end HN.out hu (k := j) (by rw [HL.out]; exact hj)
      rw [HL.out] at hend
      have hpl := HG.out.pw_lt HN.out hu j
      have hps := pw_succ f u j
      obtain ⟨p, hp⟩ : ∃ p, pwF f u j = p := ⟨_, rfl⟩
      rw [hp] at hend hpl hps ⊢
      obtain ⟨J, hJ⟩ : ∃ J, j + 1 = J := ⟨_, rfl⟩
      rw [hJ] at hend hps ⊢
      have HJ := hide hJ
      have HPS := hide hps
      have hJL : J ≤ L := by omega
      have hJ1 : 1 ≤ J := by omega
      clear hJ hp hps
      by_cases hz : p = 0
      · have he := hend.1 hz
        subst hz
        subst he
        clear hend
        go_wp2_with fail
        go_ret2
        exact ⟨rfl, HB.out⟩
      · have hJL2 : J < L := by
          by_cases e : J = L
          · exact absurd (hend.2 e) hz
          · omega
        have g2 : ((p : Int) == 0) = false := by simpa using (by omega : ¬ (p : Int) = 0)
        have g3 : ((p : Int) != 0) = true := by simpa using (by omega : ¬ (p : Int) = 0)
        clear hend hz
        have k0 := HK.out.cell 0 _ rfl
        obtain ⟨bp, op, cp, r1, l1, g1⟩ := HC.out p hpl
        have r2 := g1 u hu
        obtain ⟨q, hq⟩ : ∃ q, ap f p u = q := ⟨_, rfl⟩
        rw [hq] at r2 HPS
        replace r1 := (HB.out.cell (p := ⟨b, o + p, none⟩) hbw).trans r1
        replace r2 := (HB.out.cell (p := ⟨bp, op + u, none⟩) l1).trans r2
        have hpz : (p : Int) < n := by omega
        have huz : (u : Int) < n := by omega
        clear g1 hq
        go_wp2_with fail
        clear k0 r1 r2
        go_roundw
        case rel => exact ⟨J, hJL2, by go_num, by rw [HPS.out], HB.out, HK.out⟩
        case measure => simp [intOf]; omega
  · have HEL := hide hel
    have g1 : (code == 0) = false := by simpa using hc
    have g2 : (code != 0) = true := by simpa using hc
    clear hel hn hr hbs
    go_enter Try.func21, Try.ntmps21
    have k0 := HK0.out.cell 0 _ rfl
    go_wp2_with fail
    clear k0
    refine (elCode_any _ _ _ f _ code _ HN.out hb HBS.out (HRD.out.later HB0.out) hlo hhi HEL.out).mono ?_
    rintro e w1 ⟨rfl, hb1⟩
    have HB1 := hide (HB0.out.trans (hb1.mono HB0.out.size))
    have HK1 := hide (HK0.out.later hb1)
    clear hb1
    clear hc
    go_wp2_with fail
    go_ret2
    exact ⟨rfl, HB1.out⟩

set_option maxRecDepth 100000 in
theorem centerS_any (A : Option Addr) (n c : Nat) (f : List (List Int))  (w : World) (hn : f.length = n) (hg : Grp f) (hr : Rd2 w A f)  :
    Calls Try.prog 70 #[.slice A n c] w (fun e w' => e = .returned (.int .i64 (ctN f n)) ∧ Below w.heap.size w w') := by
  have HN := hide hn
  have HTB := hide hg.tbl
  have h1 : 1 ≤ n := (hg.pos hn).1
  have h12 : n ≤ 12 := (hg.pos hn).2
  obtain ⟨b, o, hA, hbw, hc⟩ := HTB.out.cells hr hn
  subst hA
  have HC := hide hc
  clear hc hn hr hg
  go_enter Try.func70, Try.ntmps70
  go_wp2_with fail
  go_loopw [3, 4] (fun s i wr => ∃ x : Nat, x ≤ n ∧ i = .int .i64 x ∧ s = .int .i64 (ctN f x) ∧ Below w.heap.size w wr) (fun _ i _ => n - (intOf i).toNat)
  case atStart => exact ⟨0, Nat.zero_le _, rfl, rfl, Below.refl _ _⟩
  case round =>
    obtain ⟨x, hx, rfl, rfl, hbe⟩ := hrel
    have HB := hide hbe
    clear hbe
    have hvl : ctN f x < 2 ^ 12 := Nat.lt_of_lt_of_le (setN_lt _ _) (Nat.pow_le_pow_right (by decide) (by omega))
    have hst : ctN f (x + 1) = if ctB f x = true then ctN f x ||| 2 ^ x else ctN f x := rfl
    obtain ⟨S, hS⟩ : ∃ S, ctN f x = S := ⟨_, rfl⟩
    rw [hS] at hvl hst ⊢
    have HST := hide hst
    clear hst
    by_cases hlt : x < n
    · have hxz : (x : Int) < n := by omega
      clear hS
      go_wp2_with fail
      go_loopw [5, 6] (fun t i wr => ∃ y : Nat, y ≤ n ∧ i = .int .i64 y ∧ t = .bool (decide (∀ y', y' < y → ap f x y' = ap f y' x)) ∧ Below w.heap.size w wr) (fun _ i _ => n - (intOf i).toNat)
      case atStart => exact ⟨0, Nat.zero_le _, rfl, by simp, HB.out⟩
      case round =>
        clear HB
        obtain ⟨y, hy, rfl, rfl, hbe⟩ := hrel
        have HBI := hide hbe
        clear hbe
        obtain ⟨t, ht⟩ : ∃ t, decide (∀ y', y' < y → ap f x y' = ap f y' x) = t := ⟨_, rfl⟩
        rw [ht]
        have HT : Hid (t = true ↔ ∀ y', y' < y → ap f x y' = ap f y' x) := hide (by rw [← ht, decide_eq_true_eq])
        clear ht
        by_cases hlty : y < n
        · obtain ⟨bx, ox, cx, r1, l1, g1⟩ := HC.out x hlt
          obtain ⟨by', oy, cy, s1, l2, g2⟩ := HC.out y hlty
          have r2 := g1 y hlty
          have s2 := g2 x hlt
          obtain ⟨a, ha⟩ : ∃ a, ap f x y = a := ⟨_, rfl⟩
          obtain ⟨a', ha'⟩ : ∃ a, ap f y x = a := ⟨_, rfl⟩
          rw [ha] at r2
          rw [ha'] at s2
          replace r1 := (HBI.out.cell (p := ⟨b, o + x, none⟩) hbw).trans r1
          replace r2 := (HBI.out.cell (p := ⟨bx, ox + y, none⟩) l1).trans r2
          replace s1 := (HBI.out.cell (p := ⟨b, o + y, none⟩) hbw).trans s1
          replace s2 := (HBI.out.cell (p := ⟨by', oy + x, none⟩) l2).trans s2
          have HA := hide ha
          have HA' := hide ha'
          have hyz : (y : Int) < n := by omega
          clear g1 g2 ha ha'
          have HNX : Hid (ap f x y = ap f y x ↔ a = a') := hide (by rw [HA.out, HA'.out])
          by_cases hc1 : t = true
          · have HT1 := hide (HT.out.1 hc1)
            subst hc1
            clear HT
            by_cases hc2 : a = a'
            · have HD : Hid (decide (∀ y', y' < y + 1 → ap f x y' = ap f y' x) = true) := hide (by
                rw [decide_eq_true_eq]
                intro y' hy'
                by_cases e : y' = y
                · rw [e]; exact HNX.out.2 hc2
                · exact HT1.out y' (by omega))
              subst hc2
              go_wp2_with fail
              go_quiet (fail)
              go_wp2_with fail
              go_roundw
              case rel => exact ⟨y + 1, by omega, by go_num, by rw [HD.out], bdrewN HBI.out _⟩
              case measure => simp [intOf]; omega
            · have HD : Hid (decide (∀ y', y' < y + 1 → ap f x y' = ap f y' x) = false) := hide (by
                rw [decide_eq_false_iff_not]
                intro h
                exact hc2 (HNX.out.1 (h y (by omega))))
              have hcz : ((a : Int) == (a' : Int)) = false := by simpa using fun h => hc2 (by omega)
              clear hc2
              go_wp2_with fail
              go_quiet (fail)
              go_wp2_with fail
              go_roundw
              case rel => exact ⟨y + 1, by omega, by go_num, by rw [HD.out], bdrewN HBI.out _⟩
              case measure => simp [intOf]; omega
          · have hf : t = false := by simpa using hc1
            have HD : Hid (decide (∀ y', y' < y + 1 → ap f x y' = ap f y' x) = false) := hide (by
              rw [decide_eq_false_iff_not]
              intro h
              exact hc1 (HT.out.2 fun y' hy' => h y' (by omega)))
            subst hf
            clear HT hc1
            go_wp2_with fail
            go_quiet (fail)
            go_wp2_with fail
            go_roundw
            case rel => exact ⟨y + 1, by omega, by go_num, by rw [HD.out], bdrewN HBI.out _⟩
            case measure => simp [intOf]; omega
        · have hyn : y = n := by omega
          subst hyn
          have hvl12 : S < 4096 := hvl
          obtain ⟨p, hp⟩ : ∃ p, 2 ^ x = p := ⟨_, rfl⟩
          have hp12 : p < 4096 := by rw [← hp]; exact Nat.lt_of_lt_of_le (Nat.pow_lt_pow_right (by decide) (by omega : x < 12)) (Nat.le_refl _)
          have g1 : (2 : Int) ^ x = (p : Int) := by rw [← hp]; simp
          have g2 := bt_or S p (by omega) (by omega)
          have g3 : IntKind.i64.wrap (p : Int) = (p : Int) := IntWalk.i64_in _ (by omega)
          have g4 : IntKind.u64.wrap (x : Int) = (x : Int) := by rw [IntKind.wrap_u64]; omega
          rw [hp] at HST
          obtain ⟨S2, hS2⟩ : ∃ S2, S ||| p = S2 := ⟨_, rfl⟩
          rw [hS2] at HST g2
          clear hp hS2
          by_cases hc1 : t = true
          · have hb : ctB f x = true := (ctB_iff f x).2 (by rw [HN.out]; exact HT.out.1 hc1)
            subst hc1
            have HST2 : Hid (ctN f (x + 1) = S2) := hide (by rw [HST.out, if_pos hb])
            clear HT hb HST
            go_wp2_with fail
            go_roundw
            case rel => exact ⟨x + 1, by omega, by go_num, by rw [HST2.out], HBI.out⟩
            case measure => simp [intOf]; omega
          · have hf : t = false := by simpa using hc1
            have hb : ¬ ctB f x = true := fun h => hc1 (HT.out.2 (by have := (ctB_iff f x).1 h; rw [HN.out] at this; exact this))
            have HST2 : Hid (ctN f (x + 1) = S) := hide (by rw [HST.out, if_neg hb])
            subst hf
            clear HT hc1 hb HST
            go_wp2_with fail
            go_roundw
            case rel => exact ⟨x + 1, by omega, by go_num, by rw [HST2.out], HBI.out⟩
            case measure => simp [intOf]; omega
    · have hxn : x = n := by omega
      subst hxn
      go_wp2_with fail
      go_ret
      exact ⟨by rw [hS]; rfl, HB.out⟩

set_option maxRecDepth 100000 in
theorem abelianS_any (A : Option Addr) (n c : Nat) (f : List (List Int)) (r : Bool) (w : World) (hn : f.length = n) (hg : Grp f) (hr : Rd2 w A f) (hres : r = true ↔ Abl f) :
    Calls Try.prog 67 #[.slice A n c] w (fun e w' => e = .returned (.bool r) ∧ Below w.heap.size w w') := by
  have HN := hide hn
  have HTB := hide hg.tbl
  have h1 : 1 ≤ n := (hg.pos hn).1
  have h12 : n ≤ 12 := (hg.pos hn).2
  obtain ⟨b, o, hA, hbw, hc⟩ := HTB.out.cells hr hn
  subst hA
  have HC := hide hc
  clear hc hn hr hg
  have HR := hide hres
  clear hres
  go_enter Try.func67, Try.ntmps67
  go_wp2_with fail
  go_loopw [3] (fun i wr => ∃ x : Nat, x ≤ n ∧ i = .int .i64 x ∧ Below w.heap.size w wr ∧ ∀ x' y', x' < x → y' < x' → ap f x' y' = ap f y' x') (fun i _ => n - (intOf i).toNat)
  case atStart => exact ⟨0, Nat.zero_le _, rfl, Below.refl _ _, fun i j hi => absurd hi (Nat.not_lt_zero _)⟩
  case round =>
    obtain ⟨x, hx, rfl, hbe, hall⟩ := hrel
    have HB := hide hbe
    have HALL := hide hall
    clear hbe hall
    by_cases hlt : x < n
    · have hxz : (x : Int) < n := by omega
      go_wp2_with fail
      go_loopw [4] (fun i wr => ∃ y : Nat, y ≤ x ∧ i = .int .i64 y ∧ Below w.heap.size w wr ∧ ∀ y', y' < y → ap f x y' = ap f y' x) (fun i _ => n - (intOf i).toNat)
      case atStart => exact ⟨0, Nat.zero_le _, rfl, HB.out, fun i hi => absurd hi (Nat.not_lt_zero _)⟩
      case round =>
        clear HB
        obtain ⟨y, hy, rfl, hbe, hall⟩ := hrel
        have HBI := hide hbe
        have HALLI := hide hall
        clear hbe hall
        by_cases hlx : y < x
        · have hlxz : (y : Int) < x := by omega
          have hlty : y < n := by omega
          obtain ⟨bx, ox, cx, r1, l1, g1⟩ := HC.out x hlt
          obtain ⟨by', oy, cy, s1, l2, g2⟩ := HC.out y hlty
          have r2 := g1 y hlty
          have s2 := g2 x hlt
          obtain ⟨a, ha⟩ : ∃ a, ap f x y = a := ⟨_, rfl⟩
          obtain ⟨a', ha'⟩ : ∃ a, ap f y x = a := ⟨_, rfl⟩
          rw [ha] at r2
          rw [ha'] at s2
          replace r1 := (HBI.out.cell (p := ⟨b, o + x, none⟩) hbw).trans r1
          replace r2 := (HBI.out.cell (p := ⟨bx, ox + y, none⟩) l1).trans r2
          replace s1 := (HBI.out.cell (p := ⟨b, o + y, none⟩) hbw).trans s1
          replace s2 := (HBI.out.cell (p := ⟨by', oy + x, none⟩) l2).trans s2
          have HA := hide ha
          have HA' := hide ha'
          have hyz : (y : Int) < n := by omega
          clear g1 g2 ha ha'
          have HNX : Hid (ap f x y = ap f y x ↔ a = a') := hide (by rw [HA.out, HA'.out])
          by_cases hc2 : a = a'
          · have HGOOD := hide (HNX.out.2 hc2)
            subst hc2
            clear HNX
            go_wp2_with fail
            go_quiet (fail)
            go_wp2_with fail
            go_roundw
            case rel => exact ⟨y + 1, by omega, by go_num, bdrewN HBI.out _, fun i hi => by
              by_cases e : i = y
              · rw [e]; exact HGOOD.out
              · exact HALLI.out i (by omega)⟩
            case measure => simp [intOf]; omega
          · have hrf : r = false := by
              cases r
              · rfl
              · exact absurd (HNX.out.1 (HR.out.1 rfl x y (by rw [HN.out]; exact hlt) (by rw [HN.out]; exact hlty))) hc2
            subst hrf
            have hcz : ((a : Int) == (a' : Int)) = false := by simpa using fun h => hc2 (by omega)
            have hcz2 : ((a : Int) != (a' : Int)) = true := by simpa using fun h => hc2 (by omega)
            clear hc2 HNX
            go_wp2_with fail
            go_quiet (fail)
            go_wp2_with fail
            go_ret
            exact ⟨rfl, bdrewN HBI.out _⟩
        · have hyx : y = x := by omega
          subst hyx
          go_wp2_with fail
          go_roundw
          case rel => exact ⟨y + 1, by omega, by go_num, HBI.out, fun i j hi hj => by
            by_cases e : i = y
            · rw [e] at hj ⊢; exact HALLI.out j hj
            · exact HALL.out i j (by omega) hj⟩
          case measure => simp [intOf]; omega
    · have hxn : x = n := by omega
      subst hxn
      have hrt : r = true := HR.out.2 fun i j hi hj => by
        rw [HN.out] at hi hj
        rcases Nat.lt_trichotomy i j with h | h | h
        · exact (HALL.out j i hj h).symm
        · rw [h]
        · exact HALL.out i j hi h
      subst hrt
      go_wp2_with fail
      go_ret
      exact ⟨rfl, HB.out⟩

set_option maxRecDepth 100000 in
theorem ctOfS (A : Option Addr) (n c : Nat) (f : List (List Int)) (v code : Int) (w : World) (hn : f.length = n) (hb : n ≤ 1048576) (hbs : ∀ i, i < f.length → (f.getD i []).length ≤ 1048576) (hr : Rd2 w A f) (hres : CtRes f v code) :
    Calls Try.prog 31 #[.agg #[.slice A n c]] w (fun e w' => e = .returned (.tuple #[.int .i64 v, .int .i64 code]) ∧ Below w.heap.size w w') := by
  have HN := hide hn
  have HRD := hide hr
  have HB0 := hide ((Below.refl _ w).alloc (Nat.le_refl _) (Obj.cells #[Value.slice A n c] 27))
  have HK0 := hide (Blk.new w 27 [.slice A n c])
  have HBS := hide hbs

  rcases hres with ⟨hg, rfl, rfl⟩ | ⟨hg, rfl, rfl⟩
  · have HG := hide hg
    have HTB := hide hg.tbl
    have h1 : 1 ≤ n := (hg.pos HN.out).1
    have h12 : n ≤ 12 := (hg.pos HN.out).2
    clear hg hn hr hbs
    go_enter Try.func31, Try.ntmps31
    have k0 := HK0.out.cell 0 _ rfl
    go_wp2_with fail
    clear k0
    refine (gq_below (isGrpS_any _ _ _ f true _ HN.out hb HBS.out (HRD.out.later HB0.out) ⟨fun _ => HG.out, fun _ => rfl⟩)).mono ?_
    rintro e w1 ⟨rfl, hb1⟩
    have HB1 := hide (HB0.out.trans (hb1.mono HB0.out.size))
    have HK1 := hide (HK0.out.later hb1)
    clear hb1
    have k0 := HK1.out.cell 0 _ rfl
    go_wp2_with fail
    clear k0
    refine (centerS_any _ n _ f _ HN.out HG.out (HRD.out.later HB1.out)).mono ?_
    rintro e w2 ⟨rfl, hb1⟩
    have HB2 := hide (HB1.out.trans (hb1.mono HB1.out.size))
    have HK2 := hide (HK1.out.later hb1)
    clear hb1
    go_wp2_with fail
    go_ret2
    exact ⟨by rw [HN.out]; rfl, HB2.out⟩
  · have HG := hide hg
    clear hg hn hr hbs
    go_enter Try.func31, Try.ntmps31
    have k0 := HK0.out.cell 0 _ rfl
    go_wp2_with fail
    clear k0
    refine (gq_below (isGrpS_any _ _ _ f false _ HN.out hb HBS.out (HRD.out.later HB0.out) ⟨fun h => (by cases h), fun h => absurd h HG.out⟩)).mono ?_
    rintro e w1 ⟨rfl, hb1⟩
    have HB1 := hide (HB0.out.trans (hb1.mono HB0.out.size))
    have HK1 := hide (HK0.out.later hb1)
    clear hb1
    go_wp2_with fail
    go_ret2
    exact ⟨rfl, HB1.out⟩

set_option maxRecDepth 100000 in
theorem abS (A : Option Addr) (n c : Nat) (f : List (List Int)) (r : Bool) (code : Int) (w : World) (hn : f.length = n) (hb : n ≤ 1048576) (hbs : ∀ i, i < f.length → (f.getD i []).length ≤ 1048576) (hr : Rd2 w A f) (hres : AbRes f r code) :
    Calls Try.prog 29 #[.agg #[.slice A n c]] w (fun e w' => e = .returned (.tuple #[.bool r, .int .i64 code]) ∧ Below w.heap.size w w') := by
  have HN := hide hn
  have HRD := hide hr
  have HB0 := hide ((Below.refl _ w).alloc (Nat.le_refl _) (Obj.cells #[Value.slice A n c] 27))
  have HK0 := hide (Blk.new w 27 [.slice A n c])
  have HBS := hide hbs

  rcases hres with ⟨hg, hrr, rfl⟩ | ⟨hg, rfl, rfl⟩
  · have HR := hide hrr
    clear hrr
    have HG := hide hg
    have HTB := hide hg.tbl
    have h1 : 1 ≤ n := (hg.pos HN.out).1
    have h12 : n ≤ 12 := (hg.pos HN.out).2
    clear hg hn hr hbs
    go_enter Try.func29, Try.ntmps29
    have k0 := HK0.out.cell 0 _ rfl
    go_wp2_with fail
    clear k0
    refine (gq_below (isGrpS_any _ _ _ f true _ HN.out hb HBS.out (HRD.out.later HB0.out) ⟨fun _ => HG.out, fun _ => rfl⟩)).mono ?_
    rintro e w1 ⟨rfl, hb1⟩
    have HB1 := hide (HB0.out.trans (hb1.mono HB0.out.size))
    have HK1 := hide (HK0.out.later hb1)
    clear hb1
    have k0 := HK1.out.cell 0 _ rfl
    go_wp2_with fail
    clear k0
    refine (abelianS_any _ n _ f r _ HN.out HG.out (HRD.out.later HB1.out) HR.out).mono ?_
    rintro e w2 ⟨rfl, hb1⟩
    have HB2 := hide (HB1.out.trans (hb1.mono HB1.out.size))
    have HK2 := hide (HK1.out.later hb1)
    clear hb1
    go_wp2_with fail
    go_ret2
    exact ⟨rfl, HB2.out⟩
  · have HG := hide hg
    clear hg hn hr hbs
    go_enter Try.func29, Try.ntmps29
    have k0 := HK0.out.cell 0 _ rfl
    go_wp2_with fail
    clear k0
    refine (gq_below (isGrpS_any _ _ _ f false _ HN.out hb HBS.out (HRD.out.later HB0.out) ⟨fun h => (by cases h), fun h => absurd h HG.out⟩)).mono ?_
    rintro e w1 ⟨rfl, hb1⟩
    have HB1 := hide (HB0.out.trans (hb1.mono HB0.out.size))
    have HK1 := hide (HK0.out.later hb1)
    clear hb1
    go_wp2_with fail
    go_ret2
    exact ⟨rfl, HB1.out⟩

end Go.Proofs.Ytngfdkmiifpbgaa
