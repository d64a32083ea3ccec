import Derived.Test.YtiaebilcgmahlaaXp
import Derived.Test.YtiaebilcgmahlaaXl
namespace Go.Proofs.Ytiaebilcgmahlaa
open Go Go.RowKit
open Classical
set_option maxHeartbeats 8000000
set_option maxRecDepth 100000 in
theorem reach0_any (A : Option Addr) (n c : Nat) (B : Option Addr) (d : Nat) (C : Option Addr) (limit : Nat) (w : World) (hl1 : 1 ≤ limit) (hl : limit ≤ 5000) :
    Calls Try.prog 53 #[.agg #[.slice A n c, .slice B n d], .slice C 0 0, .int .i64 limit] w fun e w' => ∃ g g3, e = .returned (.slice (some ⟨g, 0, none⟩) 1 1) ∧ Below w.heap.size w w' ∧ Blk w' g 25 [.slice (some ⟨g3, 0, none⟩) 0 0] := by
  go_enter Try.func53, Try.ntmps53
  go_upto_region 1 with fail
  refine wp_gen fun w2 hw2 => ?_
  have HB2 : Hid (Below w.heap.size w w2) := hide (by rw [hw2]; exact (Below.refl _ w).alloc (Nat.le_refl _) _)
  have hs2 := HB2.out.size
  clear hw2
  go_wp2_with fail
  refine (own0_any C _).mono ?_
  rintro e w3 ⟨g3, rfl, hb3, hg3, ho3⟩
  have HB3 := hide (HB2.out.trans (hb3.mono hs2))
  have hs3 : w.heap.size ≤ w3.heap.size := HB3.out.size
  clear hb3 ho3 HB2
  go_wp2_with fail
  refine calls_gen fun w4 hw4 => ?_
  have HB4 : Hid (Below w.heap.size w w4) := hide (by rw [hw4]; exact HB3.out.alloc HB3.out.size _)
  have hs4 : w.heap.size ≤ w4.heap.size := HB4.out.size
  obtain ⟨b3, hb3e⟩ : ∃ b3, w3.heap.size = b3 := ⟨_, rfl⟩
  have HR4 : Hid (Blk w4 b3 25 [.slice (some ⟨g3, 0, none⟩) 0 0]) := hide (by rw [hw4, ← hb3e]; exact Blk.new _ _ _)
  rw [hb3e]
  clear hw4 HB3 hb3e
  refine (own0_any C _).mono ?_
  rintro e w5 ⟨g5, rfl, hb5, hg5, ho5⟩
  have HB5 := hide (HB4.out.trans (hb5.mono hs4))
  have hs5 : w.heap.size ≤ w5.heap.size := HB5.out.size
  have HR5 := hide (HR4.out.later hb5)
  clear hb5 ho5 HB4 HR4
  go_upto_region 2 with fail
  refine wp_gen fun w6 hw6 => ?_
  have HB6 : Hid (Below w.heap.size w w6) := hide (by rw [hw6]; exact HB5.out.alloc HB5.out.size _)
  have hs6 : w.heap.size ≤ w6.heap.size := HB6.out.size
  obtain ⟨b6, hb6e⟩ : ∃ b6, w5.heap.size = b6 := ⟨_, rfl⟩
  have HR6 : Hid (Blk w6 b3 25 [.slice (some ⟨g3, 0, none⟩) 0 0]) := hide (by rw [hw6]; exact HR5.out.later ((Below.refl _ _).alloc (Nat.le_refl _) _))
  rw [hb6e]
  clear hw6 HB5 hb6e
  go_wp2_with fail
  go_loopw [7, 8, 9] (fun s v i wi => ∃ j : Nat, j ≤ 1 ∧ i = .int .i64 j ∧ s = .slice (some ⟨b3, 0, none⟩) 1 1 ∧ v = .slice (some ⟨b6, 0, none⟩) 1 1 ∧ wi = w6) (fun _ _ i _ => 1 - (intOf i).toNat)
  case atStart => exact ⟨0, by omega, rfl, rfl, rfl, rfl⟩
  case round =>
    obtain ⟨j, hj, rfl, rfl, rfl, rfl⟩ := hrel
    by_cases h0 : j = 0
    · subst h0
      have hjz : ((0 : Nat) : Int) < 1 := by omega
      have hmz : ¬ (1 : Int) < 0 := by omega
      have hmo : (1 : Int) ≤ limit := by omega
      go_wp2_with fail
      obtain ⟨wo, hwo⟩ : ∃ wo : World, wo = wr := ⟨_, rfl⟩
      go_loopw [7, 8, 10] (fun s v i wi => i = .int .i64 0 ∧ s = .slice (some ⟨b3, 0, none⟩) 1 1 ∧ v = .slice (some ⟨b6, 0, none⟩) 1 1 ∧ wi = wo) (fun _ _ _ _ => 0)
      case atStart => exact ⟨rfl, rfl, rfl, hwo.symm⟩
      case round =>
        obtain ⟨rfl, rfl, rfl, rfl⟩ := hrel
        go_wp2_with fail
        go_roundw
        case rel => exact ⟨1, by omega, by go_num, rfl, rfl, by first | exact hwo | trivial⟩
        case measure => simp [intOf]
    · have h1 : j = 1 := by omega
      subst h1
      go_wp2_with fail
      go_ret
      exact ⟨_, _, rfl, HB6.out, HR6.out⟩
theorem not_tup {n : Nat} {xs : List Int} {r : Bool} (h : r = true ↔ Tup n xs) (hr : r = false) : ¬ Tup n xs := fun h2 => by rw [h.2 h2] at hr; cases hr
set_option maxRecDepth 100000 in
theorem torS_any (A : Option Addr) (n c : Nat) (f : List (List Int)) (B : Option Addr) (k d : Nat) (s : List (List Int)) (C : Option Addr) (m e : Nat) (xs : List Int) (zs : List (List Int)) (code : Int) (w : World) (hz : ZArg 1048576 w A n f B k s) (hm : xs.length = m) (hb : m ≤ 1048576) (he : m = 0 → e = 0) (hr : Rd w C xs) (hres : TorR f s xs zs code) :
    Calls Try.prog 16 #[.agg #[.slice A n c, .slice B k d], .slice C m e] w fun e w' => ∃ v vals, e = .returned (.tuple #[v, .int .i64 code]) ∧ Below w.heap.size w w' ∧ LstV 25 2 w.heap.size w' v zs vals := by
  have HZ := hide hz
  have HM := hide hm
  have HR := hide hr
  have HE := hide he
  have HB0 := hide ((Below.refl _ w).alloc (Nat.le_refl _) (Obj.cells #[Value.slice A n c, Value.slice B k d] 29))
  have HK0 := hide (Blk.new w 29 [.slice A n c, .slice B k d])
  have hnb : n ≤ 1048576 := by have h := hz.sz; first | exact h.hn | exact h.n1 | (have h1 := h.1; have h2 := h.2; omega)
  obtain ⟨r2, hr2⟩ : ∃ r : Bool, r = true ↔ Tup n xs := bool_of _
  have HR2 := hide hr2
  have hfl := hz.sz.fl
  by_cases hs : SolF f s
  · have HS := hide hs
    have hres' : (Tup n xs ∧ OrbR f s xs 5000 zs code) ∨ (¬ Tup n xs ∧ zs = [] ∧ code = 2) := by
      rcases hres with ⟨_, h1, h2⟩ | ⟨_, h1, h2⟩ | ⟨h, _⟩
      · rw [hfl] at h1; exact .inl ⟨h1, h2⟩
      · rw [hfl] at h1; exact .inr ⟨h1, h2⟩
      · exact absurd hs h
    have HRES := hide hres'
    obtain rfl := (hz.same hs.1).symm
    clear hz hm hr he hr2 hfl hs hres hres'
    go_enter Try.func16, Try.ntmps16
    have k0 := HK0.out.cell 0 _ rfl
    have k1 := HK0.out.cell 1 _ rfl
    go_wp2_with fail
    clear k0 k1
    refine (isS_any _ _ _ f _ _ _ s true _ (HZ.out.later HB0.out) ⟨fun _ => HS.out, fun _ => rfl⟩).mono ?_
    rintro e w1 ⟨rfl, hb1⟩
    have HB1 := hide (HB0.out.trans (hb1.mono HB0.out.size))
    have HK1 := hide (HK0.out.later hb1)
    clear hb1
    have k0 := HK1.out.cell 0 _ rfl
    have k1 := HK1.out.cell 1 _ rfl
    go_wp2_with fail
    clear k0 k1
    refine (tupS_any n _ m _ xs r2 _ hnb HM.out hb (HR.out.later HB1.out) HR2.out).mono ?_
    rintro e w2 ⟨rfl, hb2⟩
    have HB2 := hide (HB1.out.trans (hb2.mono HB1.out.size))
    have HK2 := hide (HK1.out.later hb2)
    have hs2 := HB2.out.size
    clear hb2 HB1 HK1
    cases r2 with
    | false =>
      have hnt := not_tup HR2.out rfl
      have hz1 : zs = [] ∧ code = 2 := by
        rcases HRES.out with ⟨h, _⟩ | ⟨_, h⟩
        · exact absurd h hnt
        · exact h
      obtain ⟨rfl, rfl⟩ := hz1
      clear hnt
      go_wp2_with fail
      go_ret2
      exact ⟨_, [], rfl, HB2.out, LstV.nil _ _ _ _⟩
    | true =>
      have HT : Hid (Tup n xs) := hide (HR2.out.1 rfl)
      have HOR : Hid (OrbR f s xs 5000 zs code) := hide (by
        rcases HRES.out with ⟨_, h⟩ | ⟨h, _⟩
        · exact h
        · exact absurd HT.out h)
      have k0 := HK2.out.cell 0 _ rfl
      have k1 := HK2.out.cell 1 _ rfl
      go_wp2_with fail
      clear k0 k1
      by_cases h0 : m = 0
      · subst h0
        obtain rfl := HE.out rfl
        have hx : xs = [] := List.eq_nil_of_length_eq_zero HM.out
        subst hx
        have hz1 : [[]] = zs ∧ code = 0 := by
          rcases HOR.out with ⟨h1, h2, _, h3⟩ | ⟨h1, _⟩
          · exact ⟨(cls0 _ _).ascEq h1 (Asc.one _) h2, h3⟩
          · exact absurd ⟨_, cls0 _ _, by simp⟩ h1
        obtain ⟨rfl, rfl⟩ := hz1
        refine (reach0_any A n c B d C 5000 _ (by omega) (by omega)).mono ?_
        rintro e w3 ⟨g, g3, rfl, hb3, hk3⟩
        have HB3 := hide (HB2.out.trans (hb3.mono hs2))
        have HK3 := hide hk3
        have hs3 := HB3.out.size
        clear hb3 hk3
        go_wp2_with fail
        refine (own20_any g 0 1 _ _ HK3.out.lt (HK3.out.cell 0 _ rfl)).mono ?_
        rintro e w4 ⟨v, vals, rfl, hb4, hl4⟩
        have HB4 := hide (HB3.out.trans (hb4.mono hs3))
        have HL4 := hide (hl4.monoB hs3)
        clear hb4 hl4
        go_wp2_with fail
        go_ret2
        exact ⟨_, _, rfl, HB4.out, HL4.out⟩
      · refine (reach1_any A n c f B d s C m e xs 5000 _ (HZ.out.later HB2.out) HS.out HT.out HM.out (by omega) (HR.out.later HB2.out) (by omega)).mono ?_
        rintro e w3 ⟨z, A3, c3, rfl, hb3, hzl, hasc, hrd, hcase⟩
        have HB3 := hide (HB2.out.trans (hb3.mono hs2))
        have hs3 := HB3.out.size
        have HRD := hide hrd
        have HAS := hide hasc
        obtain ⟨N, hN⟩ : ∃ N, z.length = N := ⟨_, rfl⟩
        have HN := hide hN
        rw [hN] at hzl hcase ⊢
        clear hb3 hrd hasc hN
        rcases hcase with ⟨hcl, hle⟩ | ⟨hnf, hgt⟩
        · have hz1 : z = zs ∧ code = 0 := by
            rcases HOR.out with ⟨h1, h2, _, h3⟩ | ⟨h1, _⟩
            · exact ⟨hcl.ascEq h1 HAS.out h2, h3⟩
            · exact absurd ⟨z, hcl, by rw [HN.out]; exact hle⟩ h1
          obtain ⟨rfl, rfl⟩ := hz1
          have HCL := hide hcl
          have hlez : (N : Int) ≤ 5000 := by omega
          have hN1 : 1 ≤ N := by rw [← HN.out]; exact hcl.pos
          clear hcl
          go_wp2_with fail
          refine (own2v_any A3 N c3 m z _ HN.out hN1 (by omega) (by omega) hb (fun i hi => by rw [HCL.out.row hi]; exact HM.out) HRD.out).mono ?_
          rintro e w4 ⟨v, vals, rfl, hb4, hl4⟩
          have HB4 := hide (HB3.out.trans (hb4.mono hs3))
          have HL4 := hide (hl4.monoB hs3)
          clear hb4 hl4
          go_wp2_with fail
          go_ret2
          exact ⟨_, _, rfl, HB4.out, HL4.out⟩
        · have hz1 : zs = [] ∧ code = 3 := by
            rcases HOR.out with ⟨h1, _, h2, _⟩ | ⟨_, h1⟩
            · exact absurd ⟨zs, h1, h2⟩ hnf
            · exact h1
          obtain ⟨rfl, rfl⟩ := hz1
          have hgtz : (5000 : Int) < N := by omega
          clear hnf
          go_wp2_with fail
          go_ret2
          exact ⟨_, [], rfl, HB3.out, LstV.nil _ _ _ _⟩
  · have HS := hide hs
    have hz1 : zs = [] ∧ code = 1 := by
      rcases hres with ⟨h, _⟩ | ⟨h, _⟩ | ⟨_, h⟩
      · exact absurd h hs
      · exact absurd h hs
      · exact h
    obtain ⟨rfl, rfl⟩ := hz1
    clear hz hm hr he hr2 hfl hs hres
    go_enter Try.func16, Try.ntmps16
    have k0 := HK0.out.cell 0 _ rfl
    have k1 := HK0.out.cell 1 _ rfl
    go_wp2_with fail
    clear k0 k1
    refine (isS_any _ _ _ f _ _ _ s false _ (HZ.out.later HB0.out) ⟨fun h => absurd h (by simp), fun h => absurd h HS.out⟩).mono ?_
    rintro e w1 ⟨rfl, hb1⟩
    have HB1 := hide (HB0.out.trans (hb1.mono HB0.out.size))
    clear hb1
    go_wp2_with fail
    go_ret2
    exact ⟨_, [], rfl, HB1.out, LstV.nil _ _ _ _⟩
theorem torS (A : Option Addr) (n c : Nat) (f : List (List Int)) (B : Option Addr) (k d : Nat) (s : List (List Int)) (C : Option Addr) (m : Nat) (xs : List Int) (zs : List (List Int)) (code : Int) (kz : Nat) (w : World) (hz : ZArg 1048576 w A n f B k s) (hm : xs.length = m) (hb : m ≤ 1048576) (hr : Rd w C xs) (hres : TorR f s xs zs code) (hkz : zs.length = kz) :
    Calls Try.prog 16 #[.agg #[.slice A n c, .slice B k d], .slice C m m] w (TPost 25 2 kz zs code w) := by
  refine (torS_any A n c f B k d s C m m xs zs code w hz hm hb (fun h => h) hr hres).mono ?_
  rintro e w2 ⟨v, vals, rfl, hb2, hl⟩
  obtain ⟨A', c', hv, hobj⟩ := hl.shape
  rw [hkz] at hv
  subst hv
  exact ⟨A', c', rfl, hb2, hobj⟩
end Go.Proofs.Ytiaebilcgmahlaa
namespace Go.Proofs.Ytiaebilcgmahlaa
open Go Go.RowKit
open Classical
set_option maxHeartbeats 8000000
set_option maxRecDepth 100000 in
theorem torI (A : Option Addr) (n c : Nat) (f : List (List Int)) (B : Option Addr) (k d : Nat) (s : List (List Int)) (C : Option Addr) (m e : Nat) (xs : List Int) (zs : List (List Int)) (code : Int) (kz : Nat) (w : World) (hz : ZArg 1048576 w A n f B k s) (hm : xs.length = m) (hb : m ≤ 1048576) (hr : Rd w C xs) (hres : TorR f s xs zs code) (hkz : zs.length = kz) :
    Calls Try.prog 19 #[.agg #[.slice A n c, .slice B k d], .slice C m e] w (TPost 25 2 kz zs code w) := by
  have HZ := hide hz
  have HM := hide hm
  have HR := hide hr
  have HKZ := hide hkz
  have HB0 := hide ((Below.refl _ w).alloc (Nat.le_refl _) (Obj.cells #[Value.slice A n c, Value.slice B k d] 29))
  have HK0 := hide (Blk.new w 29 [.slice A n c, .slice B k d])
  have hnb : n ≤ 1048576 := hz.sz.nb
  obtain ⟨r2, hr2⟩ : ∃ r : Bool, r = true ↔ Tup n xs := bool_of _
  have HR2 := hide hr2
  have hfl := hz.sz.fl
  by_cases hs : SolF f s
  · have HS := hide hs
    have hres' : (Tup n xs ∧ OrbR f s xs 5000 zs code) ∨ (¬ Tup n xs ∧ zs = [] ∧ code = 2) := by
      rcases hres with ⟨_, h1, h2⟩ | ⟨_, h1, h2⟩ | ⟨h, _⟩
      · rw [hfl] at h1; exact .inl ⟨h1, h2⟩
      · rw [hfl] at h1; exact .inr ⟨h1, h2⟩
      · exact absurd hs h
    have HRES := hide hres'
    obtain rfl := (hz.same hs.1).symm
    clear hz hm hr hr2 hfl hs hres hres' hkz
    go_enter Try.func19, Try.ntmps19
    have k0 := HK0.out.cell 0 _ rfl
    have k1 := HK0.out.cell 1 _ rfl
    go_wp2_with fail
    clear k0 k1
    refine (isI_any A n c f B n d s true _ (HZ.out.later HB0.out) ⟨fun _ => HS.out, fun _ => rfl⟩).mono ?_
    rintro e w1 ⟨rfl, hb1⟩
    have HB1 := hide (HB0.out.trans (hb1.mono HB0.out.size))
    have HK1 := hide (HK0.out.later hb1)
    clear hb1
    have k0 := HK1.out.cell 0 _ rfl
    have k1 := HK1.out.cell 1 _ rfl
    go_wp2_with fail
    refine (size_any _ _ _ _ _ _ _ (by omega)).mono ?_
    rintro e wq ⟨rfl, hbq⟩
    replace HB1 := hide (HB1.out.trans (hbq.mono HB1.out.size))
    replace HK1 := hide (HK1.out.later hbq)
    clear hbq k0 k1
    go_wp2_with fail
    refine (isTup_any n C m _ xs r2 _ HM.out hb (HR.out.later HB1.out) HR2.out).mono ?_
    rintro e w2 ⟨rfl, hq2⟩
    have hb2 := hq2.below wq.heap.size
    have HB2 := hide (HB1.out.trans (hb2.mono HB1.out.size))
    have HK2 := hide (HK1.out.later hb2)
    have hs2 := HB2.out.size
    clear hb2 hq2 HB1 HK1
    cases r2 with
    | false =>
      have hnt := not_tup HR2.out rfl
      have hz1 : zs = [] ∧ code = 2 := by
        rcases HRES.out with ⟨h, _⟩ | ⟨_, h⟩
        · exact absurd h hnt
        · exact h
      obtain ⟨rfl, rfl⟩ := hz1
      obtain rfl : kz = 0 := by simpa using HKZ.out.symm
      clear hnt
      go_wp2_with fail
      go_ret2
      exact ⟨_, _, rfl, HB2.out, .inl ⟨rfl, rfl⟩⟩
    | true =>
      have HT : Hid (Tup n xs) := hide (HR2.out.1 rfl)
      have HOR : Hid (OrbR f s xs 5000 zs code) := hide (by
        rcases HRES.out with ⟨_, h⟩ | ⟨h, _⟩
        · exact h
        · exact absurd HT.out h)
      have hm12 : m ≤ 12 := by rw [← HM.out]; exact HT.out.1
      have HBc := hide HB2.out
      have HKc := hide HK2.out
      have k0 := HKc.out.cell 0 _ rfl
      have k1 := HKc.out.cell 1 _ rfl
      by_cases hf : FewT (leH f) (leH s) xs 5000
      · have HF := hide hf
        clear hf
        go_upto_region 5 with fail
        go_cut [6, 7] (fun a b wx => ∃ L bm, a = .map (some bm) ∧ b = .bool true ∧ Cls (leH f) (leH s) xs L ∧ L.length ≤ 5000 ∧ Below w.heap.size w wx ∧ w.heap.size ≤ bm ∧ MetN wx bm L)
        case first =>
          go_region_held3 (fun w' => w'.cell? ⟨w.heap.size, 0, none⟩ = some (.slice A n c) ∧ w'.cell? ⟨w.heap.size, 1, none⟩ = some (.slice B n d)) (first | exact ⟨k0, k1⟩ | go_keep) (first | (go_at_call 60; go_must (refine calls_gen fun wc hwc => ?_; (first | have hbx := drew_below hwc | have hbx := eq_below hwc); replace HBc := hide (HBc.out.trans (hbx.mono HBc.out.size)); replace HKc := hide (HKc.out.later hbx); clear hwc hbx; refine (tupleOf_key C m _ xs _ HM.out hm12 (HR.out.later HBc.out)).mono ?_; rintro e wd ⟨rfl, hbd⟩; replace HBc := hide (HBc.out.trans (hbd.mono HBc.out.size)); replace HKc := hide (HKc.out.later hbd); clear hbd; have k0 := HKc.out.cell 0 _ rfl; have k1 := HKc.out.cell 1 _ rfl; skip)) | (go_at_call 59; go_must (refine calls_gen fun wc hwc => ?_; (first | have hbx := drew_below hwc | have hbx := eq_below hwc); replace HBc := hide (HBc.out.trans (hbx.mono HBc.out.size)); replace HKc := hide (HKc.out.later hbx); clear hwc hbx; have HSZ := hide HBc.out.size; refine (orbitOf_yes A n c f B d s xs m 5000 _ (HZ.out.later HBc.out) HS.out HT.out HM.out (by omega) (by omega) HF.out).mono ?_; rintro e wd ⟨L, bm, hcl, hll, rfl, hbd, hbmw, hme⟩; replace HBc := hide (HBc.out.trans (hbd.mono HBc.out.size)); replace HKc := hide (HKc.out.later hbd); clear hbd; have k0 := HKc.out.cell 0 _ rfl; have k1 := HKc.out.cell 1 _ rfl; have HCL := hide hcl; have HLL := hide hll; have HME := hide hme; have HBM := hide hbmw; have HLO := hide HSZ.out; clear hcl hll hme hbmw)))
          all_goals clear k0 k1
          all_goals go_wp2_with fail
          all_goals go_meet
          all_goals first | exact ⟨_, _, rfl, rfl, HCL.out, HLL.out, HBc.out, Nat.le_trans HLO.out HBM.out, HME.out⟩ | exact ⟨_, _, rfl, rfl, HCL.out, HLL.out, HBc.out.drew, Nat.le_trans HLO.out HBM.out, MapN.later HME.out ((Below.refl _ _).drew)⟩
        case rest =>
          obtain ⟨L, bm, rfl, rfl, hcl, hll, hb3, hbm, hme⟩ := hcut
          have HB3 := hide hb3
          have HCL := hide hcl
          have HME := hide hme
          clear hb3 hcl hme k0 k1
          go_wp2_with fail
          refine (listsOf_any bm m L _ HME.out HCL.out.1 (fun p hp => by rw [((HCL.out.2 p).1 hp).len]; exact HM.out) (fun p hp => (((HCL.out.2 p).1 hp).tup (HS.out.pb HZ.out.sz.fl) HT.out).sm (HZ.out.small HS.out.1).2) hm12 HCL.out.pos (by omega)).mono ?_
          rintro e w4 ⟨v, L', vals, rfl, hb4, hl4, ha4, hm4⟩
          obtain ⟨A4, c4, hv, hobj⟩ := hl4.shape
          have hz1 : L' = zs ∧ code = 0 := by
            rcases HOR.out with ⟨h1, h2, _, h3⟩ | ⟨h1, _⟩
            · exact ⟨(HCL.out.sorted ha4 hm4).ascEq h1 ha4 h2, h3⟩
            · exact absurd HF.out h1
          obtain ⟨rfl, rfl⟩ := hz1
          rw [HKZ.out] at hv
          subst hv
          have HB4 := hide (HB3.out.trans (hb4.mono HB3.out.size))
          have HO4 := hide (hobj.mono (lo' := w.heap.size) HB3.out.size (Nat.le_refl _))
          clear hb4 hl4 ha4 hm4 hobj
          go_wp2_with fail
          go_ret2
          exact ⟨_, _, rfl, HB4.out, HO4.out⟩
      · have HF := hide hf
        have hz1 : zs = [] ∧ code = 3 := by
          rcases HOR.out with ⟨h1, _, h2, _⟩ | ⟨_, h1⟩
          · exact absurd ⟨zs, h1, h2⟩ hf
          · exact h1
        obtain ⟨rfl, rfl⟩ := hz1
        obtain rfl : kz = 0 := by simpa using HKZ.out.symm
        clear hf
        go_upto_region 5 with fail
        go_cut [6, 7] (fun a b wx => b = .bool false ∧ Below w.heap.size w wx)
        case first =>
          go_region_held3 (fun w' => w'.cell? ⟨w.heap.size, 0, none⟩ = some (.slice A n c) ∧ w'.cell? ⟨w.heap.size, 1, none⟩ = some (.slice B n d)) (first | exact ⟨k0, k1⟩ | go_keep) (first | (go_at_call 60; go_must (refine calls_gen fun wc hwc => ?_; (first | have hbx := drew_below hwc | have hbx := eq_below hwc); replace HBc := hide (HBc.out.trans (hbx.mono HBc.out.size)); replace HKc := hide (HKc.out.later hbx); clear hwc hbx; refine (tupleOf_key C m _ xs _ HM.out hm12 (HR.out.later HBc.out)).mono ?_; rintro e wd ⟨rfl, hbd⟩; replace HBc := hide (HBc.out.trans (hbd.mono HBc.out.size)); replace HKc := hide (HKc.out.later hbd); clear hbd; have k0 := HKc.out.cell 0 _ rfl; have k1 := HKc.out.cell 1 _ rfl; skip)) | (go_at_call 59; go_must (refine calls_gen fun wc hwc => ?_; (first | have hbx := drew_below hwc | have hbx := eq_below hwc); replace HBc := hide (HBc.out.trans (hbx.mono HBc.out.size)); replace HKc := hide (HKc.out.later hbx); clear hwc hbx; refine (orbitOf_no A n c f B d s xs m 5000 _ (HZ.out.later HBc.out) HS.out HT.out HM.out (by omega) (by omega) HF.out).mono ?_; rintro e wd ⟨rfl, hbd⟩; replace HBc := hide (HBc.out.trans (hbd.mono HBc.out.size)); replace HKc := hide (HKc.out.later hbd); clear hbd; have k0 := HKc.out.cell 0 _ rfl; have k1 := HKc.out.cell 1 _ rfl; skip)))
          all_goals clear k0 k1
          all_goals go_wp2_with fail
          all_goals go_meet
          all_goals first | exact ⟨rfl, HBc.out⟩ | exact ⟨rfl, HBc.out.drew⟩
        case rest =>
          obtain ⟨rfl, hb3⟩ := hcut
          have HB3 := hide hb3
          clear hb3 k0 k1
          go_wp2_with fail
          go_ret2
          exact ⟨_, _, rfl, HB3.out, .inl ⟨rfl, rfl⟩⟩
  · have HS := hide hs
    have hz1 : zs = [] ∧ code = 1 := by
      rcases hres with ⟨h, _⟩ | ⟨h, _⟩ | ⟨_, h⟩
      · exact absurd h hs
      · exact absurd h hs
      · exact h
    obtain ⟨rfl, rfl⟩ := hz1
    obtain rfl : kz = 0 := by simpa using HKZ.out.symm
    clear hz hm hr hr2 hfl hs hres hkz
    go_enter Try.func19, Try.ntmps19
    have k0 := HK0.out.cell 0 _ rfl
    have k1 := HK0.out.cell 1 _ rfl
    go_wp2_with fail
    clear k0 k1
    refine (isI_any A n c f B k d s false _ (HZ.out.later HB0.out) ⟨fun h => absurd h (by simp), fun h => absurd h HS.out⟩).mono ?_
    rintro e w1 ⟨rfl, hb1⟩
    have HB1 := hide (HB0.out.trans (hb1.mono HB0.out.size))
    clear hb1
    go_wp2_with fail
    go_ret2
    exact ⟨_, _, rfl, HB1.out, .inl ⟨rfl, rfl⟩⟩
end Go.Proofs.Ytiaebilcgmahlaa
