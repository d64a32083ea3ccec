import Derived.Test.YthkhkehpmolfaaaZbv
import Derived.Test.YthkhkehpmolfaaaZu
import Derived.Test.YthkhkehpmolfaaaZbo
import Derived.Test.YthkhkehpmolfaaaZb
import Derived.Deep.Cut
namespace Go.Proofs.Ythkhkehpmolfaaa
open Go Go.RowKit
set_option maxHeartbeats 2000000

set_option maxRecDepth 100000 in
theorem dpI_any (A : Option Addr) (n c : Nat) (f : List (List Int)) (x k v code : Int) (w : World) (hn : f.length = n) (hb : n ≤ 1048576) (hbs : ∀ i, i < f.length → (f.getD i []).length ≤ 1048576) (hr : Rd2 w A f) (hx0 : -9223372036854775808 ≤ x) (hx1 : x ≤ 9223372036854775807) (hk0 : -9223372036854775808 ≤ k) (hk1 : k ≤ 9223372036854775807) (hres : DpRes f x k v code) :
    Calls Try.prog 44 #[.agg #[.slice A n c], .int .i64 x, .int .i64 k] w fun e w' => e = .returned (.tuple #[.int .i64 v, .int .i64 code]) ∧ Below w.heap.size w w' := by
  have HN := hide hn
  have HBS := hide hbs
  have HRD := hide hr
  have HB0 := hide ((Below.refl _ w).alloc (Nat.le_refl _) (Obj.cells #[Value.slice A n c] 27))
  have HK0 := hide (Blk.new w 27 [.slice A n c])
  have hcases : (Cyc f ∧ DpRes f x k v code) ∨ (¬ Cyc f ∧ v = 0 ∧ code = 1) := by
    by_cases h : Cyc f
    · exact .inl ⟨h, hres⟩
    · rcases hres with ⟨h1, _⟩ | ⟨h1, _⟩ | ⟨_, h2, h3⟩
      · exact absurd h1 h
      · exact absurd h1 h
      · exact .inr ⟨h, h2, h3⟩
  clear hn hbs hr hres
  rcases hcases with ⟨hcy, hres⟩ | ⟨hcy, rfl, rfl⟩
  · have HRES := hide hres
    clear hres
    have HCY := hide hcy
    have HTB := hide hcy.tbl
    have h1 : 1 ≤ n := by rw [← HN.out]; exact HTB.out.1
    have h12 : n ≤ 12 := by rw [← HN.out]; exact HTB.out.2.1
    have HCR : Hid (CyRes f true) := hide ⟨fun _ => HCY.out, fun _ => rfl⟩
    clear hcy
    go_enter Try.func44, Try.ntmps44
    have k0 := HK0.out.cell 0 _ rfl
    go_upto_region 1 with fail
    go_wp2_with fail
    refine (tested_any _ _ _ f true _ HN.out hb HBS.out (HRD.out.later HB0.out) HCR.out).mono ?_
    rintro e w1 (⟨_, B, d, rfl, hb1, hiv⟩ | ⟨h, _⟩)
    rotate_left
    · exact absurd h (by simp)
    have HB1 := hide (HB0.out.trans (hb1.mono HB0.out.size))
    have HIV1 : Hid (Rd2 w1 B (dualL f)) := hide (Obj2.rd hiv)
    clear hb1 hiv k0
    go_upto_region 4 with fail
    refine wp_gen fun w2 hw2 => ?_
    obtain ⟨P, hP⟩ : ∃ P, w1.heap.size = P := ⟨_, rfl⟩
    have hq : Below w1.heap.size w1 w2 := by rw [hw2]; exact (Below.refl _ _).alloc (Nat.le_refl _) _
    have HBc := hide (HB1.out.trans (hq.mono HB1.out.size))
    have HKc : Hid (Blk w2 P 65 [.slice A n c, .slice B n d]) := hide (by rw [hw2, ← hP]; exact Blk.new _ _ _)
    have HIV := hide (HIV1.out.later hq)
    rw [hP]
    clear hw2 hq HB1 HIV1 hP
    have k0 := HKc.out.cell 0 _ rfl
    have k1 := HKc.out.cell 1 _ rfl
    by_cases a1 : x < 0
    · have hv : v = 0 ∧ code = 2 := by
        rcases HRES.out with ⟨_, h1, _⟩ | ⟨_, _, h3⟩ | ⟨h1, _⟩
        · have hn := HN.out; omega
        · exact h3
        · exact absurd HCY.out h1
      obtain ⟨rfl, rfl⟩ := hv
      go_wp2_with fail
      go_ret2
      exact ⟨rfl, HBc.out⟩
    have SZ := dsize_any A n c
    by_cases a2 : (n : Int) ≤ x
    · have hv : v = 0 ∧ code = 2 := by
        rcases HRES.out with ⟨_, h1, _⟩ | ⟨_, _, h3⟩ | ⟨h1, _⟩
        · have hn := HN.out; omega
        · exact h3
        · exact absurd HCY.out h1
      obtain ⟨rfl, rfl⟩ := hv
      go_wp2_with fail
      refine (dsize_any _ _ _ _ (by omega)).mono ?_
      rintro e w3 ⟨rfl, hb3⟩
      have HB3 := hide (HBc.out.trans (hb3.mono HBc.out.size))
      clear hb3
      go_wp2_with fail
      go_ret2
      exact ⟨rfl, HB3.out⟩
    by_cases a3 : k < 0
    · have hv : v = 0 ∧ code = 2 := by
        rcases HRES.out with ⟨_, h1, _⟩ | ⟨_, _, h3⟩ | ⟨h1, _⟩
        · have hn := HN.out; omega
        · exact h3
        · exact absurd HCY.out h1
      obtain ⟨rfl, rfl⟩ := hv
      go_wp2_with fail
      refine (dsize_any _ _ _ _ (by omega)).mono ?_
      rintro e w3 ⟨rfl, hb3⟩
      have HB3 := hide (HBc.out.trans (hb3.mono HBc.out.size))
      clear hb3
      go_wp2_with fail
      go_ret2
      exact ⟨rfl, HB3.out⟩
    by_cases a4 : 1000 < k
    · have hv : v = 0 ∧ code = 2 := by
        rcases HRES.out with ⟨_, h1, _⟩ | ⟨_, _, h3⟩ | ⟨h1, _⟩
        · have hn := HN.out; omega
        · exact h3
        · exact absurd HCY.out h1
      obtain ⟨rfl, rfl⟩ := hv
      go_wp2_with fail
      refine (dsize_any _ _ _ _ (by omega)).mono ?_
      rintro e w3 ⟨rfl, hb3⟩
      have HB3 := hide (HBc.out.trans (hb3.mono HBc.out.size))
      clear hb3
      go_wp2_with fail
      go_ret2
      exact ⟨rfl, HB3.out⟩
    obtain ⟨X, rfl⟩ : ∃ X : Nat, x = X := ⟨x.toNat, by omega⟩
    obtain ⟨K, rfl⟩ : ∃ K : Nat, k = K := ⟨k.toNat, by omega⟩
    have hX : X < n := by omega
    have hK : K ≤ 1000 := by omega
    have hv : v = ((sqIt f X K : Nat) : Int) ∧ code = 0 := by
      rcases HRES.out with ⟨_, _, h3⟩ | ⟨_, h1, _⟩ | ⟨h1, _⟩
      · simpa using h3
      · have hn := HN.out; omega
      · exact absurd HCY.out h1
    obtain ⟨rfl, rfl⟩ := hv
    clear SZ
    have d1 : decide (n ≤ X) = false := by simp; omega
    have d2 : decide ((K : Int) < 0) = false := by simp
    have d3 : decide ((1000 : Int) < K) = false := by simp; omega
    have d4 : decide ((X : Int) < 0) = false := by simp
    have d5 : decide (1000 < K) = false := by simp; omega
    go_wp2_with fail
    refine (dsize_any _ _ _ _ (by omega)).mono ?_
    rintro e w3 ⟨rfl, hb3⟩
    replace HBc := hide (HBc.out.trans (hb3.mono HBc.out.size))
    replace HKc := hide (HKc.out.later hb3)
    clear hb3 k0 k1 a1 a2 a3 a4
    go_wp2_with fail
    go_loopw [1, 35] (fun v i wr => ∃ j : Nat, j ≤ K ∧ i = .int .i64 j ∧ v = .int .i64 (sqIt f X j : Nat) ∧ Below w.heap.size w wr ∧ Blk wr P 65 [.slice A n c, .slice B n d]) (fun _ i _ => K - (intOf i).toNat)
    case atStart => exact ⟨0, Nat.zero_le _, rfl, rfl, HBc.out, HKc.out⟩
    case round =>
      obtain ⟨j, hj, rfl, rfl, hbe, hkk⟩ := hrel
      have HBr := hide hbe
      have HKr := hide hkk
      clear hbe hkk
      by_cases hlt : j < K
      · have hltz : (j : Int) < K := by omega
        have hs := sqIt_lt HTB.out HN.out hX j
        have k0 := HKr.out.cell 0 _ rfl
        obtain ⟨s, hse⟩ : ∃ s, sqIt f X j = s := ⟨_, rfl⟩
        rw [hse] at hs ⊢
        obtain ⟨u, hu⟩ : ∃ u, ap f s s = u := ⟨_, rfl⟩
        have HU := hide hu
        have HSE := hide hse
        clear hu hse
        go_wp2_with fail
        refine (dot_any _ _ _ f s s u _ HN.out HTB.out (HRD.out.later HBr.out) hs hs HU.out).mono ?_
        rintro e wd ⟨rfl, hbd⟩
        replace HBr := hide (HBr.out.trans (hbd.mono HBr.out.size))
        replace HKr := hide (HKr.out.later hbd)
        clear hbd k0
        go_wp2_with fail
        go_roundw
        case rel => exact ⟨j + 1, by omega, by go_num, by show Value.int .i64 (u : Int) = .int .i64 ((ap f (sqIt f X j) (sqIt f X j) : Nat) : Int); rw [HSE.out, HU.out], HBr.out, HKr.out⟩
        case measure => simp [intOf]; omega
      · have hjk : j = K := by omega
        subst hjk
        go_wp2_with fail
        go_ret2
        exact ⟨rfl, HBr.out⟩
  · skip
    have HCR : Hid (CyRes f false) := hide ⟨fun h => (by cases h), fun h => absurd h hcy⟩
    clear hcy
    go_enter Try.func44, Try.ntmps44
    have k0 := HK0.out.cell 0 _ rfl
    go_upto_region 1 with fail
    go_wp2_with fail
    refine (tested_any _ _ _ f false _ HN.out hb HBS.out (HRD.out.later HB0.out) HCR.out).mono ?_
    rintro e w1 (⟨h, _⟩ | ⟨_, rfl, hb1⟩)
    · exact absurd h (by simp)
    have HB1 := hide (HB0.out.trans (hb1.mono HB0.out.size))
    clear k0
    go_wp2_with fail
    refine bp_gen fun wf hwf => ?_
    have HBF : Below w.heap.size w wf := by rw [hwf]; exact HB1.out.alloc HB1.out.size _
    clear hwf hb1
    go_ret2
    exact ⟨rfl, HBF⟩
set_option maxRecDepth 100000 in
theorem dpS_any (A : Option Addr) (n c : Nat) (f : List (List Int)) (x k v code : Int) (w : World) (hn : f.length = n) (hb : n ≤ 1048576) (hbs : ∀ i, i < f.length → (f.getD i []).length ≤ 1048576) (hr : Rd2 w A f) (hx0 : -9223372036854775808 ≤ x) (hx1 : x ≤ 9223372036854775807) (hk0 : -9223372036854775808 ≤ k) (hk1 : k ≤ 9223372036854775807) (hres : DpRes f x k v code) :
    Calls Try.prog 43 #[.agg #[.slice A n c], .int .i64 x, .int .i64 k] w fun e w' => e = .returned (.tuple #[.int .i64 v, .int .i64 code]) ∧ Below w.heap.size w w' := by
  have HN := hide hn
  have HBS := hide hbs
  have HRD := hide hr
  have HB0 := hide ((Below.refl _ w).alloc (Nat.le_refl _) (Obj.cells #[Value.slice A n c] 27))
  have HK0 := hide (Blk.new w 27 [.slice A n c])
  have hcases : (Cyc f ∧ DpRes f x k v code) ∨ (¬ Cyc f ∧ v = 0 ∧ code = 1) := by
    by_cases h : Cyc f
    · exact .inl ⟨h, hres⟩
    · rcases hres with ⟨h1, _⟩ | ⟨h1, _⟩ | ⟨_, h2, h3⟩
      · exact absurd h1 h
      · exact absurd h1 h
      · exact .inr ⟨h, h2, h3⟩
  clear hn hbs hr hres
  rcases hcases with ⟨hcy, hres⟩ | ⟨hcy, rfl, rfl⟩
  · have HRES := hide hres
    clear hres
    have HCY := hide hcy
    have HTB := hide hcy.tbl
    have h1 : 1 ≤ n := by rw [← HN.out]; exact HTB.out.1
    have h12 : n ≤ 12 := by rw [← HN.out]; exact HTB.out.2.1
    have HCR : Hid (CyRes f true) := hide ⟨fun _ => HCY.out, fun _ => rfl⟩
    clear hcy
    go_enter Try.func43, Try.ntmps43
    have k0 := HK0.out.cell 0 _ rfl
    go_wp2_with fail
    refine (isCycS _ _ _ f true _ HN.out hb HBS.out (HRD.out.later HB0.out) HCR.out).mono ?_
    rintro e w1 ⟨rfl, hb1⟩
    have HB1 := hide (HB0.out.trans (hb1.mono HB0.out.size))
    have HK1 := hide (HK0.out.later hb1)
    clear hb1 k0
    have k0 := HK1.out.cell 0 _ rfl
    go_wp2_with fail
    by_cases hx : 0 ≤ x ∧ x ≤ (n : Int) - 1
    · have HX := hide hx
      refine (in_any _ _ _ true _ (by simp [HX.out.1, HX.out.2])).mono ?_
      rintro e w2 ⟨rfl, hq2⟩
      have HB2 := hide (HB1.out.trans ((hq2.below _).mono HB1.out.size))
      have HK2 := hide (HK1.out.later (hq2.below _))
      clear hq2 k0
      go_wp2_with fail
      by_cases hk : 0 ≤ k ∧ k ≤ 1000
      · have HKK := hide hk
        refine (in_any _ _ _ true _ (by simp [HKK.out.1, HKK.out.2])).mono ?_
        rintro e w3 ⟨rfl, hq3⟩
        have HB3 := hide (HB2.out.trans ((hq3.below _).mono HB2.out.size))
        have HK3 := hide (HK2.out.later (hq3.below _))
        clear hq3
        obtain ⟨X, rfl⟩ : ∃ X : Nat, x = X := ⟨x.toNat, by omega⟩
        obtain ⟨K, rfl⟩ : ∃ K : Nat, k = K := ⟨k.toNat, by omega⟩
        have hX : X < n := by omega
        have hK : K ≤ 1000 := by omega
        have hv : v = ((sqIt f X K : Nat) : Int) ∧ code = 0 := by
          rcases HRES.out with ⟨_, _, h3⟩ | ⟨_, h1, _⟩ | ⟨h1, _⟩
          · simpa using h3
          · have hn := HN.out; omega
          · exact absurd HCY.out h1
        obtain ⟨rfl, rfl⟩ := hv
        obtain ⟨b, o, rfl, hbw, hc⟩ := HTB.out.cells HRD.out HN.out
        have HC := hide hc
        clear hc hx hk
        go_wp2_with fail
        go_loopw [1, 2] (fun v i wr => ∃ j : Nat, j ≤ K ∧ i = .int .i64 ((K - j : Nat) : Int) ∧ v = .int .i64 (sqIt f X j : Nat) ∧ Below w.heap.size w wr ∧ Blk wr w.heap.size 27 [.slice (some ⟨b, o, none⟩) n c]) (fun _ i _ => (intOf i).toNat)
        case atStart => exact ⟨0, Nat.zero_le _, rfl, rfl, HB3.out, HK3.out⟩
        case round =>
          obtain ⟨j, hj, rfl, rfl, hbe, hkk⟩ := hrel
          have HBr := hide hbe
          have HKr := hide hkk
          clear hbe hkk
          obtain ⟨R, hR⟩ : ∃ R, K - j = R := ⟨_, rfl⟩
          rw [hR]
          have HRR := hide hR
          clear hR
          by_cases hlt : 0 < R
          · have hltz : (0 : Int) < R := by omega
            have hRb : R ≤ 1000 := by have := HRR.out; omega
            have hs := sqIt_lt HTB.out HN.out hX j
            have k0 := HKr.out.cell 0 _ rfl
            obtain ⟨s, hse⟩ : ∃ s, sqIt f X j = s := ⟨_, rfl⟩
            rw [hse] at hs ⊢
            obtain ⟨bx, ox, cx, r1, r2, r3⟩ := HC.out s hs
            have e1 := r3 s hs
            obtain ⟨u, hu⟩ : ∃ u, ap f s s = u := ⟨_, rfl⟩
            rw [hu] at e1
            have HU := hide hu
            have HSE := hide hse
            replace r1 := (HBr.out.cell (p := ⟨b, o + s, none⟩) hbw).trans r1
            replace e1 := (HBr.out.cell (p := ⟨bx, ox + s, none⟩) r2).trans e1
            have hsz : (s : Int) < n := by omega
            clear hu hse r3
            go_wp2_with fail
            go_roundw
            case rel => exact ⟨j + 1, by have := HRR.out; omega, by have h := HRR.out; go_num, by show Value.int .i64 (u : Int) = .int .i64 ((ap f (sqIt f X j) (sqIt f X j) : Nat) : Int); rw [HSE.out, HU.out], HBr.out, HKr.out⟩
            case measure => simp [intOf]; omega
          · have hjk : j = K := by have := HRR.out; omega
            have hr0 : R = 0 := by omega
            subst hjk
            subst hr0
            go_wp2_with fail
            go_ret2
            exact ⟨rfl, HBr.out⟩
      · have HKK := hide hk
        refine (in_any _ _ _ false _ (by simpa using HKK.out)).mono ?_
        rintro e w3 ⟨rfl, hq3⟩
        have HB3 := hide (HB2.out.trans ((hq3.below _).mono HB2.out.size))
        clear hq3
        have hv : v = 0 ∧ code = 2 := by
          rcases HRES.out with ⟨_, h1, _⟩ | ⟨_, _, h3⟩ | ⟨h1, _⟩
          · have hn := HN.out; omega
          · exact h3
          · exact absurd HCY.out h1
        obtain ⟨rfl, rfl⟩ := hv
        go_wp2_with fail
        go_ret2
        exact ⟨rfl, HB3.out⟩
    · have HX := hide hx
      refine (in_any _ _ _ false _ (by simpa using HX.out)).mono ?_
      rintro e w2 ⟨rfl, hq2⟩
      have HB2 := hide (HB1.out.trans ((hq2.below _).mono HB1.out.size))
      clear hq2 k0
      have hv : v = 0 ∧ code = 2 := by
        rcases HRES.out with ⟨_, h1, _⟩ | ⟨_, _, h3⟩ | ⟨h1, _⟩
        · have hn := HN.out; omega
        · exact h3
        · exact absurd HCY.out h1
      obtain ⟨rfl, rfl⟩ := hv
      go_wp2_with fail
      go_ret2
      exact ⟨rfl, HB2.out⟩
  · skip
    have HCR : Hid (CyRes f false) := hide ⟨fun h => (by cases h), fun h => absurd h hcy⟩
    clear hcy
    go_enter Try.func43, Try.ntmps43
    have k0 := HK0.out.cell 0 _ rfl
    go_wp2_with fail
    refine (isCycS _ _ _ f false _ HN.out hb HBS.out (HRD.out.later HB0.out) HCR.out).mono ?_
    rintro e w1 ⟨rfl, hb1⟩
    have HB1 := hide (HB0.out.trans (hb1.mono HB0.out.size))
    have HK1 := hide (HK0.out.later hb1)
    clear hb1 k0
    go_wp2_with fail
    go_ret2
    exact ⟨rfl, HB1.out⟩

end Go.Proofs.Ythkhkehpmolfaaa
