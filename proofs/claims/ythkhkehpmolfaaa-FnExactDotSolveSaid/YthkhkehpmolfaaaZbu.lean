import Derived.Test.YthkhkehpmolfaaaZbn
import Derived.Test.YthkhkehpmolfaaaZu
import Derived.Test.YthkhkehpmolfaaaZb
import Derived.Test.YthkhkehpmolfaaaZap
namespace Go.Proofs.Ythkhkehpmolfaaa
open Go Go.RowKit
set_option maxHeartbeats 2000000

set_option maxRecDepth 100000 in
theorem dsS_any (A : Option Addr) (n c : Nat) (f : List (List Int)) (x z v code : Int) (w : World) (hn : f.length = n) (hb : n ≤ 1048576) (hbs : ∀ i, i < f.length → (f.getD i []).length ≤ 1048576) (hr : Rd2 w A f) (hx0 : -9223372036854775808 ≤ x) (hx1 : x ≤ 9223372036854775807) (hz0 : -9223372036854775808 ≤ z) (hz1 : z ≤ 9223372036854775807) (hres : DsRes f x z v code) :
    Calls Try.prog 27 #[.agg #[.slice A n c], .int .i64 x, .int .i64 z] w fun e w' => e = .returned (.tuple #[.int .i64 v, .int .i64 code]) ∧ Below w.heap.size w w' := by
  have HN := hide hn
  have HBS := hide hbs
  have HRD := hide hr
  have HB0 := hide ((Below.refl _ w).alloc (Nat.le_refl _) (Obj.cells #[Value.slice A n c] 27))
  have HK0 := hide (Blk.new w 27 [.slice A n c])
  have hcases : (Cyc f ∧ DsRes f x z v code) ∨ (¬ Cyc f ∧ v = 0 ∧ code = 1) := by
    by_cases h : Cyc f
    · exact .inl ⟨h, hres⟩
    · rcases hres with ⟨h1, _⟩ | ⟨h1, _⟩ | ⟨_, h2, h3⟩
      · exact absurd h1 h
      · exact absurd h1 h
      · exact .inr ⟨h, h2, h3⟩
  clear hn hbs hr hres
  rcases hcases with ⟨hcy, hres⟩ | ⟨hcy, rfl, rfl⟩
  · have HRES := hide hres
    have HCY := hide hcy
    have h1 : 1 ≤ n := by rw [← HN.out]; exact HCY.out.tbl.1
    have h12 : n ≤ 12 := by rw [← HN.out]; exact HCY.out.le
    have HCR : Hid (CyRes f true) := hide ⟨fun _ => HCY.out, fun _ => rfl⟩
    clear hres hcy
    go_enter Try.func27, Try.ntmps27
    have k0 := HK0.out.cell 0 _ rfl
    go_wp2_with fail
    refine (isCycS _ _ _ f true _ HN.out hb HBS.out (HRD.out.later HB0.out) HCR.out).mono ?_
    rintro e w1 ⟨rfl, hb1⟩
    have HB1 := hide (HB0.out.trans (hb1.mono HB0.out.size))
    have HK1 := hide (HK0.out.later hb1)
    clear hb1 k0
    have k0 := HK1.out.cell 0 _ rfl
    go_wp2_with fail
    by_cases hx : 0 ≤ x ∧ x ≤ (n : Int) - 1
    · have HX := hide hx
      refine (in_any _ _ _ true _ (by simp [HX.out.1, HX.out.2])).mono ?_
      rintro e w2 ⟨rfl, hq2⟩
      have HB2 := hide (HB1.out.trans ((hq2.below _).mono HB1.out.size))
      have HK2 := hide (HK1.out.later (hq2.below _))
      clear hq2 k0
      go_wp2_with fail
      by_cases hz : 0 ≤ z ∧ z ≤ (n : Int) - 1
      · have HZ := hide hz
        refine (in_any _ _ _ true _ (by simp [HZ.out.1, HZ.out.2])).mono ?_
        rintro e w3 ⟨rfl, hq3⟩
        have HB3 := hide (HB2.out.trans ((hq3.below _).mono HB2.out.size))
        have HK3 := hide (HK2.out.later (hq3.below _))
        clear hq3
        obtain ⟨X, rfl⟩ : ∃ X : Nat, x = X := ⟨x.toNat, by omega⟩
        obtain ⟨Z, rfl⟩ : ∃ Z : Nat, z = Z := ⟨z.toNat, by omega⟩
        have hX : X < n := by omega
        have hZ : Z < n := by omega
        have hv : v = ((sol f X Z : Nat) : Int) ∧ code = 0 := by
          rcases HRES.out with ⟨_, _, _, h3⟩ | ⟨_, h1, _⟩ | ⟨h1, _⟩
          · simpa using h3
          · rw [HN.out] at h1; omega
          · exact absurd HCY.out h1
        obtain ⟨rfl, rfl⟩ := hv
        obtain ⟨b, o, hA, hbw, hc⟩ := rd_rows HCY.out.tbl HRD.out HN.out
        subst hA
        obtain ⟨Bx, cx, r1, hrd⟩ := hc X hX
        replace r1 := (HB3.out.cell (p := ⟨b, o + X, none⟩) hbw).trans r1
        have HRX := hide (hrd.later HB3.out)
        have HIX := hide (sol_ix HCY.out.tbl HCY.out.prm HN.out hX hZ)
        have HLX := hide (HCY.out.tbl.row_len HN.out hX)
        have k0 := HK3.out.cell 0 _ rfl
        have hXz : (X : Int) < n := by omega
        clear hc hrd hx hz
        go_wp2_with fail
        refine (index_any _ _ _ (f.getD X []) (Z : Int) _ HLX.out (by omega) HRX.out).mono ?_
        rintro e w4 ⟨rfl, hq4⟩
        rw [HIX.out]
        have HB4 := hide (HB3.out.trans ((hq4.below _).mono HB3.out.size))
        clear hq4 k0 r1
        go_wp2_with fail
        go_ret2
        exact ⟨rfl, HB4.out⟩
      · have HZ := hide hz
        refine (in_any _ _ _ false _ (by simpa using HZ.out)).mono ?_
        rintro e w3 ⟨rfl, hq3⟩
        have HB3 := hide (HB2.out.trans ((hq3.below _).mono HB2.out.size))
        clear hq3
        have hv : v = 0 ∧ code = 2 := by
          rcases HRES.out with ⟨_, h1, h2, _⟩ | ⟨_, _, h3⟩ | ⟨h1, _⟩
          · rw [HN.out] at h1 h2; omega
          · exact h3
          · exact absurd HCY.out h1
        obtain ⟨rfl, rfl⟩ := hv
        go_wp2_with fail
        go_ret2
        exact ⟨rfl, HB3.out⟩
    · have HX := hide hx
      refine (in_any _ _ _ false _ (by simpa using HX.out)).mono ?_
      rintro e w2 ⟨rfl, hq2⟩
      have HB2 := hide (HB1.out.trans ((hq2.below _).mono HB1.out.size))
      clear hq2 k0
      have hv : v = 0 ∧ code = 2 := by
        rcases HRES.out with ⟨_, h1, h2, _⟩ | ⟨_, _, h3⟩ | ⟨h1, _⟩
        · rw [HN.out] at h1 h2; omega
        · exact h3
        · exact absurd HCY.out h1
      obtain ⟨rfl, rfl⟩ := hv
      go_wp2_with fail
      go_ret2
      exact ⟨rfl, HB2.out⟩
  · have HCR : Hid (CyRes f false) := hide ⟨fun h => (by cases h), fun h => absurd h hcy⟩
    clear hcy
    go_enter Try.func27, Try.ntmps27
    have k0 := HK0.out.cell 0 _ rfl
    go_wp2_with fail
    refine (isCycS _ _ _ f false _ HN.out hb HBS.out (HRD.out.later HB0.out) HCR.out).mono ?_
    rintro e w1 ⟨rfl, hb1⟩
    have HB1 := hide (HB0.out.trans (hb1.mono HB0.out.size))
    clear hb1 k0
    go_wp2_with fail
    go_ret2
    exact ⟨rfl, HB1.out⟩
end Go.Proofs.Ythkhkehpmolfaaa
