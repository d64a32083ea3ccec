import Derived.Test.YthkhkehpmolfaaaZbv
import Derived.Deep.Cut
namespace Go.Proofs.Ythkhkehpmolfaaa
open Go Go.RowKit
set_option maxHeartbeats 2000000

set_option maxRecDepth 100000 in
theorem dsI_any (A : Option Addr) (n c : Nat) (f : List (List Int)) (x z v code : Int) (w : World) (hn : f.length = n) (hb : n ≤ 1048576) (hbs : ∀ i, i < f.length → (f.getD i []).length ≤ 1048576) (hr : Rd2 w A f) (hx0 : -9223372036854775808 ≤ x) (hx1 : x ≤ 9223372036854775807) (hz0 : -9223372036854775808 ≤ z) (hz1 : z ≤ 9223372036854775807) (hres : DsRes f x z v code) :
    Calls Try.prog 28 #[.agg #[.slice A n c], .int .i64 x, .int .i64 z] w fun e w' => e = .returned (.tuple #[.int .i64 v, .int .i64 code]) ∧ Below w.heap.size w w' := by
  have HN := hide hn
  have HBS := hide hbs
  have HRD := hide hr
  have HB0 := hide ((Below.refl _ w).alloc (Nat.le_refl _) (Obj.cells #[Value.slice A n c] 27))
  have HK0 := hide (Blk.new w 27 [.slice A n c])
  have hcases : (Cyc f ∧ DsRes f x z v code) ∨ (¬ Cyc f ∧ v = 0 ∧ code = 1) := by
    by_cases h : Cyc f
    · exact .inl ⟨h, hres⟩
    · rcases hres with ⟨h1, _⟩ | ⟨h1, _⟩ | ⟨_, h2, h3⟩
      · exact absurd h1 h
      · exact absurd h1 h
      · exact .inr ⟨h, h2, h3⟩
  clear hn hbs hr hres
  rcases hcases with ⟨hcy, hres⟩ | ⟨hcy, rfl, rfl⟩
  · have HRES := hide hres
    have HCY := hide hcy
    have h12 : n ≤ 12 := by rw [← HN.out]; exact HCY.out.le
    have HCR : Hid (CyRes f true) := hide ⟨fun _ => HCY.out, fun _ => rfl⟩
    clear hres hcy
    go_enter Try.func28, Try.ntmps28
    have k0 := HK0.out.cell 0 _ rfl
    go_upto_region 1 with fail
    go_wp2_with fail
    refine (tested_any _ _ _ f true _ HN.out hb HBS.out (HRD.out.later HB0.out) HCR.out).mono ?_
    rintro e w1 (⟨_, B, d, rfl, hb1, hiv⟩ | ⟨h, _⟩)
    rotate_left
    · exact absurd h (by simp)
    have HB1 := hide (HB0.out.trans (hb1.mono HB0.out.size))
    have HIV : Hid (Rd2 w1 B (dualL f)) := hide (Obj2.rd hiv)
    clear hb1 hiv k0
    go_upto_region 4 with fail
    refine wp_gen fun w2 hw2 => ?_
    obtain ⟨P, hP⟩ : ∃ P, w1.heap.size = P := ⟨_, rfl⟩
    have hq : Below w1.heap.size w1 w2 := by rw [hw2]; exact (Below.refl _ _).alloc (Nat.le_refl _) _
    have HB2 := hide (HB1.out.trans (hq.mono HB1.out.size))
    have HP2 : Hid (Blk w2 P 65 [.slice A n c, .slice B n d]) := hide (by rw [hw2, ← hP]; exact Blk.new _ _ _)
    have HIV2 := hide (HIV.out.later hq)
    rw [hP]
    clear hw2 hq HB1 HIV hP
    have k0 := HP2.out.cell 0 _ rfl
    have k1 := HP2.out.cell 1 _ rfl
    rcases Int.lt_trichotomy x z with h | h | h
    · have hxz : x < z := by omega
      have hzx : ¬ z < x := by omega
      by_cases hm : x < 0
      · have hv : v = 0 ∧ code = 2 := by
          rcases HRES.out with ⟨_, h1, h2, _⟩ | ⟨_, _, h3⟩ | ⟨h1, _⟩
          · omega
          · exact h3
          · exact absurd HCY.out h1
        obtain ⟨rfl, rfl⟩ := hv
        go_wp2_with fail
        go_ret2
        exact ⟨rfl, HB2.out⟩
      · by_cases hM : (n : Int) ≤ z
        · have hv : v = 0 ∧ code = 2 := by
            rcases HRES.out with ⟨_, h1, h2, _⟩ | ⟨_, _, h3⟩ | ⟨h1, _⟩
            · rw [HN.out] at h1 h2; omega
            · exact h3
            · exact absurd HCY.out h1
          obtain ⟨rfl, rfl⟩ := hv
          go_wp2_with fail
          refine (dsize_any _ _ _ _ (by omega)).mono ?_
          rintro e w3 ⟨rfl, hb3⟩
          have HB3 := hide (HB2.out.trans (hb3.mono HB2.out.size))
          clear hb3
          go_wp2_with fail
          go_ret2
          exact ⟨rfl, HB3.out⟩
        · obtain ⟨X, rfl⟩ : ∃ X : Nat, x = X := ⟨x.toNat, by omega⟩
          obtain ⟨Z, rfl⟩ : ∃ Z : Nat, z = Z := ⟨z.toNat, by omega⟩
          have hX : X < n := by omega
          have hZ : Z < n := by omega
          have hv : v = ((sol f X Z : Nat) : Int) ∧ code = 0 := by
            rcases HRES.out with ⟨_, _, _, h3⟩ | ⟨_, h1, _⟩ | ⟨h1, _⟩
            · simpa using h3
            · rw [HN.out] at h1; omega
            · exact absurd HCY.out h1
          obtain ⟨rfl, rfl⟩ := hv
          go_wp2_with fail
          refine (dsize_any _ _ _ _ (by omega)).mono ?_
          rintro e w3 ⟨rfl, hb3⟩
          have HB3 := hide (HB2.out.trans (hb3.mono HB2.out.size))
          have HP3 := hide (HP2.out.later hb3)
          have HIV3 := hide (HIV2.out.later hb3)
          clear hb3 k0 k1
          have k0 := HP3.out.cell 0 _ rfl
          have k1 := HP3.out.cell 1 _ rfl
          go_wp2_with fail
          refine (solve_any A B n c d f X Z _ ⟨HN.out, HCY.out, HRD.out.later HB3.out, HIV3.out⟩ hX hZ).mono ?_
          rintro e w4 ⟨rfl, hb4⟩
          have HB4 := hide (HB3.out.trans (hb4.mono HB3.out.size))
          clear hb4 k0 k1
          go_wp2_with fail
          go_ret2
          exact ⟨rfl, HB4.out⟩
    · subst h
      have hxz : ¬ x < x := by omega
      have hzx : True := by omega
      by_cases hm : x < 0
      · have hv : v = 0 ∧ code = 2 := by
          rcases HRES.out with ⟨_, h1, h2, _⟩ | ⟨_, _, h3⟩ | ⟨h1, _⟩
          · omega
          · exact h3
          · exact absurd HCY.out h1
        obtain ⟨rfl, rfl⟩ := hv
        go_wp2_with fail
        go_ret2
        exact ⟨rfl, HB2.out⟩
      · by_cases hM : (n : Int) ≤ x
        · have hv : v = 0 ∧ code = 2 := by
            rcases HRES.out with ⟨_, h1, h2, _⟩ | ⟨_, _, h3⟩ | ⟨h1, _⟩
            · rw [HN.out] at h1 h2; omega
            · exact h3
            · exact absurd HCY.out h1
          obtain ⟨rfl, rfl⟩ := hv
          go_wp2_with fail
          refine (dsize_any _ _ _ _ (by omega)).mono ?_
          rintro e w3 ⟨rfl, hb3⟩
          have HB3 := hide (HB2.out.trans (hb3.mono HB2.out.size))
          clear hb3
          go_wp2_with fail
          go_ret2
          exact ⟨rfl, HB3.out⟩
        · obtain ⟨X, rfl⟩ : ∃ X : Nat, x = X := ⟨x.toNat, by omega⟩
          have hX : X < n := by omega
          have hZ : X < n := by omega
          have hv : v = ((sol f X X : Nat) : Int) ∧ code = 0 := by
            rcases HRES.out with ⟨_, _, _, h3⟩ | ⟨_, h1, _⟩ | ⟨h1, _⟩
            · simpa using h3
            · rw [HN.out] at h1; omega
            · exact absurd HCY.out h1
          obtain ⟨rfl, rfl⟩ := hv
          go_wp2_with fail
          refine (dsize_any _ _ _ _ (by omega)).mono ?_
          rintro e w3 ⟨rfl, hb3⟩
          have HB3 := hide (HB2.out.trans (hb3.mono HB2.out.size))
          have HP3 := hide (HP2.out.later hb3)
          have HIV3 := hide (HIV2.out.later hb3)
          clear hb3 k0 k1
          have k0 := HP3.out.cell 0 _ rfl
          have k1 := HP3.out.cell 1 _ rfl
          go_wp2_with fail
          refine (solve_any A B n c d f X X _ ⟨HN.out, HCY.out, HRD.out.later HB3.out, HIV3.out⟩ hX hZ).mono ?_
          rintro e w4 ⟨rfl, hb4⟩
          have HB4 := hide (HB3.out.trans (hb4.mono HB3.out.size))
          clear hb4 k0 k1
          go_wp2_with fail
          go_ret2
          exact ⟨rfl, HB4.out⟩
    · have hxz : ¬ x < z := by omega
      have hzx : z < x := by omega
      by_cases hm : z < 0
      · have hv : v = 0 ∧ code = 2 := by
          rcases HRES.out with ⟨_, h1, h2, _⟩ | ⟨_, _, h3⟩ | ⟨h1, _⟩
          · omega
          · exact h3
          · exact absurd HCY.out h1
        obtain ⟨rfl, rfl⟩ := hv
        go_wp2_with fail
        go_ret2
        exact ⟨rfl, HB2.out⟩
      · by_cases hM : (n : Int) ≤ x
        · have hv : v = 0 ∧ code = 2 := by
            rcases HRES.out with ⟨_, h1, h2, _⟩ | ⟨_, _, h3⟩ | ⟨h1, _⟩
            · rw [HN.out] at h1 h2; omega
            · exact h3
            · exact absurd HCY.out h1
          obtain ⟨rfl, rfl⟩ := hv
          go_wp2_with fail
          refine (dsize_any _ _ _ _ (by omega)).mono ?_
          rintro e w3 ⟨rfl, hb3⟩
          have HB3 := hide (HB2.out.trans (hb3.mono HB2.out.size))
          clear hb3
          go_wp2_with fail
          go_ret2
          exact ⟨rfl, HB3.out⟩
        · obtain ⟨X, rfl⟩ : ∃ X : Nat, x = X := ⟨x.toNat, by omega⟩
          obtain ⟨Z, rfl⟩ : ∃ Z : Nat, z = Z := ⟨z.toNat, by omega⟩
          have hX : X < n := by omega
          have hZ : Z < n := by omega
          have hv : v = ((sol f X Z : Nat) : Int) ∧ code = 0 := by
            rcases HRES.out with ⟨_, _, _, h3⟩ | ⟨_, h1, _⟩ | ⟨h1, _⟩
            · simpa using h3
            · rw [HN.out] at h1; omega
            · exact absurd HCY.out h1
          obtain ⟨rfl, rfl⟩ := hv
          go_wp2_with fail
          refine (dsize_any _ _ _ _ (by omega)).mono ?_
          rintro e w3 ⟨rfl, hb3⟩
          have HB3 := hide (HB2.out.trans (hb3.mono HB2.out.size))
          have HP3 := hide (HP2.out.later hb3)
          have HIV3 := hide (HIV2.out.later hb3)
          clear hb3 k0 k1
          have k0 := HP3.out.cell 0 _ rfl
          have k1 := HP3.out.cell 1 _ rfl
          go_wp2_with fail
          refine (solve_any A B n c d f X Z _ ⟨HN.out, HCY.out, HRD.out.later HB3.out, HIV3.out⟩ hX hZ).mono ?_
          rintro e w4 ⟨rfl, hb4⟩
          have HB4 := hide (HB3.out.trans (hb4.mono HB3.out.size))
          clear hb4 k0 k1
          go_wp2_with fail
          go_ret2
          exact ⟨rfl, HB4.out⟩
  · have HCR : Hid (CyRes f false) := hide ⟨fun h => (by cases h), fun h => absurd h hcy⟩
    clear hcy
    go_enter Try.func28, Try.ntmps28
    have k0 := HK0.out.cell 0 _ rfl
    go_upto_region 1 with fail
    go_wp2_with fail
    refine (tested_any _ _ _ f false _ HN.out hb HBS.out (HRD.out.later HB0.out) HCR.out).mono ?_
    rintro e w1 (⟨h, _⟩ | ⟨_, rfl, hb1⟩)
    · exact absurd h (by simp)
    have HB1 := hide (HB0.out.trans (hb1.mono HB0.out.size))
    clear hb1 k0
    go_wp2_with fail
    refine bp_gen fun wf hwf => ?_
    have HBF : Below w.heap.size w wf := by rw [hwf]; exact HB1.out.alloc HB1.out.size _
    clear hwf
    go_ret2
    exact ⟨rfl, HBF⟩
end Go.Proofs.Ythkhkehpmolfaaa
