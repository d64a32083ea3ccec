import Derived.Test.YtiaebilcgmahlaaYp
import Derived.Test.YtiaebilcgmahlaaYn
import Derived.Test.YtiaebilcgmahlaaYg
import Derived.Test.YtiaebilcgmahlaaYa
namespace Go.Proofs.Ytiaebilcgmahlaa
open Go Go.RowKit
open Classical
set_option maxHeartbeats 4000000
theorem cls0 (h1 h2 : Nat → Nat → Int) : Cls h1 h2 [] [[]] := ⟨by simp, fun y => ⟨fun h => by
  have : y = [] := by simpa using h
  subst this; exact .refl, fun h => by
  have := h.len
  have : y = [] := by simpa using this
  subst this; simp⟩⟩
theorem classS_any (A : Option Addr) (n c : Nat) (f : List (List Int)) (B : Option Addr) (d : Nat) (s : List (List Int)) (C : Option Addr) (m e : Nat) (x : List Int) (most : Nat) (w : World) (hz : ZArg 1048576 w A n f B n s) (hs : SolF f s) (ht : Tup n x) (hm : x.length = m) (he : m = 0 → e = 0) (hr : Rd w C x) (hl1 : 1 ≤ most) (hl : most ≤ 5000) :
    Calls Try.prog 69 #[.agg #[.slice A n c, .slice B n d], .slice C m e, .int .i64 most] w fun e w' => (∃ L v vals, Cls (leH f) (leH s) x L ∧ Asc L ∧ L.length ≤ most ∧ e = .returned (.tuple #[v, .bool true]) ∧ Below w.heap.size w w' ∧ LstV 25 2 w.heap.size w' v L vals) ∨ (¬ FewT (leH f) (leH s) x most ∧ e = .returned (.tuple #[.slice none 0 0, .bool false]) ∧ Below w.heap.size w w') := by
  by_cases h0 : m = 0
  · subst h0
    obtain rfl := he rfl
    have hx : x = [] := List.eq_nil_of_length_eq_zero hm
    subst hx
    refine (class0_any A n c f B d s C most w hz hs hl1 hl).mono ?_
    rintro e w2 ⟨v, vals, h1, h2, h3⟩
    exact .inl ⟨[[]], v, vals, cls0 _ _, Asc.one _, by simpa using hl1, h1, h2, h3⟩
  · exact class1_any A n c f B d s C m e x most w hz hs ht hm (by omega) hr hl1 hl
set_option maxRecDepth 100000 in
theorem cowS_any (A : Option Addr) (n c : Nat) (f : List (List Int)) (B : Option Addr) (k d : Nat) (s : List (List Int)) (C : Option Addr) (m e : Nat) (xs : List Int) (zs : List (List Int)) (code : Int) (w : World) (hz : ZArg 1048576 w A n f B k s) (hm : xs.length = m) (hb : m ≤ 1048576) (he : m = 0 → e = 0) (hr : Rd w C xs) (hres : CowR f s xs zs code) :
    Calls Try.prog 29 #[.agg #[.slice A n c, .slice B k d], .slice C m e] w fun e w' => ∃ v vals, e = .returned (.tuple #[v, .int .i64 code]) ∧ Below w.heap.size w w' ∧ LstV 25 2 w.heap.size w' v zs vals := by
  have HZ := hide hz
  have HM := hide hm
  have HR := hide hr
  have HE := hide he
  have HB0 := hide ((Below.refl _ w).alloc (Nat.le_refl _) (Obj.cells #[Value.slice A n c, Value.slice B k d] 29))
  have HK0 := hide (Blk.new w 29 [.slice A n c, .slice B k d])
  obtain ⟨wc, hwc⟩ : ∃ wc, WdC f s [xs] wc := WdC.ex f s [xs]
  have HWC := hide hwc
  have HWC2 : Hid (WdC f s [xs, xs] wc) := hide (hwc.congr (by rw [wrds1, wrds2]; exact ⟨fun h => ⟨h, h⟩, fun h => h.1⟩))
  have HRES := hide hres
  have d0 : ¬ wc = 0 → (wc != 0) = true := fun h => by simpa using h
  clear hz hm hr he hwc hres
  go_enter Try.func29, Try.ntmps29
  have k0 := HK0.out.cell 0 _ rfl
  have k1 := HK0.out.cell 1 _ rfl
  go_wp2_with fail
  clear k0 k1
  refine (codeS_any A B C C n c k d m _ m _ f s xs xs wc _ (HZ.out.later HB0.out) HM.out hb (HR.out.later HB0.out) HM.out hb (HR.out.later HB0.out) HWC2.out).mono ?_
  rintro e w2 ⟨rfl, hb2⟩
  have HB2 := hide (HB0.out.trans (hb2.mono HB0.out.size))
  have HK2 := hide (HK0.out.later hb2)
  clear hb2
  by_cases hc0 : wc = 0
  · subst hc0
    obtain ⟨hs, hw⟩ := HWC.out.zero rfl
    obtain rfl := (HZ.out.same hs.1).symm
    have hn := HZ.out.sz.fl
    have hw1 := wrds1.1 hw
    rw [hn] at hw1
    have HW := hide hw1
    have HS := hide hs
    have HOR : Hid (OrbR f s xs 1000 zs code) := hide (by
      rcases HRES.out with ⟨_, h⟩ | ⟨h1, h2, _⟩
      · exact h
      · exact absurd (h1.uniq HWC.out) h2)
    clear hs hw hw1 hn d0
    have k0 := HK2.out.cell 0 _ rfl
    have k1 := HK2.out.cell 1 _ rfl
    go_wp2_with fail
    refine (classS_any A n c f B d s C m _ xs 1000 _ (HZ.out.later HB2.out) HS.out HW.out.tup HM.out HE.out (HR.out.later HB2.out) (by omega) (by omega)).mono ?_
    have hs2 := HB2.out.size
    rintro e w3 (⟨L, v, vals, hcl, ha, hll, rfl, hb3, hl3⟩ | ⟨hf, rfl, hb3⟩)
    · have HB3 := hide (HB2.out.trans (hb3.mono hs2))
      have hz1 : L = zs ∧ code = 0 := by
        rcases HOR.out with ⟨h1, h2, _, h3⟩ | ⟨h1, _⟩
        · exact ⟨hcl.ascEq h1 ha h2, h3⟩
        · exact absurd ⟨L, hcl, hll⟩ h1
      obtain ⟨rfl, rfl⟩ := hz1
      have HL3 := hide (hl3.monoB hs2)
      clear hb3 hcl ha hll hl3 k0 k1
      go_wp2_with fail
      go_ret2
      exact ⟨_, _, rfl, HB3.out, HL3.out⟩
    · have hz1 : zs = [] ∧ code = 3 := by
        rcases HOR.out with ⟨h1, _, h2, _⟩ | ⟨_, h1⟩
        · exact absurd ⟨zs, h1, h2⟩ hf
        · exact h1
      obtain ⟨rfl, rfl⟩ := hz1
      have HB3 := hide (HB2.out.trans (hb3.mono hs2))
      clear hb3 hf k0 k1
      go_wp2_with fail
      go_ret2
      exact ⟨_, [], rfl, HB3.out, LstV.nil _ _ _ _⟩
  · have hz1 : zs = [] ∧ code = wc := by
      rcases HRES.out with ⟨h1, _⟩ | ⟨h1, _, h3⟩
      · exact absurd (HWC.out.uniq h1) hc0
      · exact ⟨h3, h1.uniq HWC.out⟩
    obtain ⟨rfl, rfl⟩ := hz1
    have hcb := d0 hc0
    clear d0
    go_wp2_with fail
    go_ret2
    exact ⟨_, [], rfl, HB2.out, LstV.nil _ _ _ _⟩
theorem cowS (A : Option Addr) (n c : Nat) (f : List (List Int)) (B : Option Addr) (k d : Nat) (s : List (List Int)) (C : Option Addr) (m : Nat) (xs : List Int) (zs : List (List Int)) (code : Int) (kz : Nat) (w : World) (hz : ZArg 1048576 w A n f B k s) (hm : xs.length = m) (hb : m ≤ 1048576) (hr : Rd w C xs) (hres : CowR f s xs zs code) (hkz : zs.length = kz) :
    Calls Try.prog 29 #[.agg #[.slice A n c, .slice B k d], .slice C m m] w (TPost 25 2 kz zs code w) := by
  refine (cowS_any A n c f B k d s C m m xs zs code w hz hm hb (fun h => h) hr hres).mono ?_
  rintro e w2 ⟨v, vals, rfl, hb2, hl⟩
  obtain ⟨A', c', hv, hobj⟩ := hl.shape
  rw [hkz] at hv
  subst hv
  exact ⟨A', c', rfl, hb2, hobj⟩
end Go.Proofs.Ytiaebilcgmahlaa
namespace Go.Proofs.Ytiaebilcgmahlaa
open Go Go.RowKit
open Classical
set_option maxHeartbeats 4000000
theorem Obj2.first {ts t : TypeId} {lo hi : Nat} {w : World} {A : Option Addr} {rows : List (List Int)} (h : Obj2 ts t lo hi w A rows) (h0 : 0 < rows.length) : ∃ g R C, A = some ⟨g, 0, none⟩ ∧ w.cell? ⟨g, 0, none⟩ = some (.slice R (rows.getD 0 []).length C) ∧ Obj1 t lo hi w R (rows.getD 0 []) := by
  rcases h with ⟨_, rfl⟩ | ⟨g, R, C, rfl, _, _, ⟨cur, h1, h2⟩, h3, _⟩
  · simp at h0
  · exact ⟨g, R 0, C 0, rfl, by rw [cell_of_row w g 0 cur ts (0, 0) h1]; exact h2 0 h0, h3 0 h0⟩
/-- What the normal word is told. -/
def NwR (f s : List (List Int)) (xs zs : List Int) (code : Int) : Prop := ∃ L, CowR f s xs L code ∧ zs = L.getD 0 []
theorem CowR.zero {f s : List (List Int)} {xs : List Int} {L : List (List Int)} (h : CowR f s xs L 0) : WdC f s [xs] 0 ∧ Cls (leH f) (leH s) xs L ∧ Asc L ∧ L.length ≤ 1000 := by
  rcases h with ⟨h1, ⟨h2, h3, h4, _⟩ | ⟨_, _, h⟩⟩ | ⟨_, h, _⟩
  · exact ⟨h1, h2, h3, h4⟩
  · omega
  · omega
theorem CowR.none {f s : List (List Int)} {xs : List Int} {L : List (List Int)} {code : Int} (h : CowR f s xs L code) (hc : code ≠ 0) : L = [] := by
  rcases h with ⟨h1, ⟨_, _, _, h2⟩ | ⟨_, h2, _⟩⟩ | ⟨_, _, h2⟩
  · exact absurd h2 hc
  · exact h2
  · exact h2
theorem NwR.ex (f s : List (List Int)) (xs : List Int) : ∃ zs code, NwR f s xs zs code ∧ zs.length ≤ 1048576 := by
  obtain ⟨L, code, h, h1, h2⟩ := CowR.ex f s xs
  refine ⟨L.getD 0 [], code, ⟨L, h, rfl⟩, ?_⟩
  by_cases h0 : 0 < L.length
  · exact h2 0 h0
  · have e : L = [] := List.eq_nil_of_length_eq_zero (by omega)
    subst e; simp
set_option maxRecDepth 100000 in
theorem nwI (A : Option Addr) (n c : Nat) (f : List (List Int)) (B : Option Addr) (k d : Nat) (s : List (List Int)) (C : Option Addr) (m e : Nat) (xs zs : List Int) (code : Int) (kz : Nat) (w : World) (hz : ZArg 1048576 w A n f B k s) (hm : xs.length = m) (hb : m ≤ 1048576) (hr : Rd w C xs) (hres : NwR f s xs zs code) (hkz : zs.length = kz) :
    Calls Try.prog 34 #[.agg #[.slice A n c, .slice B k d], .slice C m e] w (RPost 2 kz zs code w) := by
  have HZ := hide hz
  have HM := hide hm
  have HR := hide hr
  have HKZ := hide hkz
  obtain ⟨L, hL, hzL⟩ := hres
  have HC := hide hL
  have HZL := hide hzL
  have HB0 := hide ((Below.refl _ w).alloc (Nat.le_refl _) (Obj.cells #[Value.slice A n c, Value.slice B k d] 29))
  have HK0 := hide (Blk.new w 29 [.slice A n c, .slice B k d])
  have d0 : ¬ code = 0 → (code != 0) = true := fun h => by simpa using h
  clear hz hm hr hkz hL hzL
  go_enter Try.func34, Try.ntmps34
  have k0 := HK0.out.cell 0 _ rfl
  have k1 := HK0.out.cell 1 _ rfl
  go_wp2_with fail
  clear k0 k1
  refine (cowI A n c f B k d s C m e xs L code _ _ (HZ.out.later HB0.out) HM.out hb (HR.out.later HB0.out) HC.out rfl).mono ?_
  rintro e w1 ⟨A1, c1, rfl, hb1, hobj⟩
  have HB1 := hide (HB0.out.trans (hb1.mono HB0.out.size))
  have HO1 := hide (hobj.mono (lo' := w.heap.size) HB0.out.size (Nat.le_refl _))
  clear hb1 hobj
  by_cases hc0 : code = 0
  · subst hc0
    obtain ⟨_, hcl, _, _⟩ := HC.out.zero
    obtain ⟨g, R, CC, rfl, hcell, hrow⟩ := HO1.out.first hcl.pos
    rw [← HZL.out, HKZ.out] at hcell
    rw [← HZL.out] at hrow
    have HRO := hide hrow
    clear hcl hrow d0
    have hlp : (0 : Int) < L.length := by have h := HC.out.zero.2.1.pos; omega
    obtain ⟨ll, hll⟩ : ∃ ll, L.length = ll := ⟨_, rfl⟩
    rw [hll] at hlp ⊢
    go_wp2_with fail
    go_ret2
    exact ⟨_, _, rfl, HB1.out, HRO.out.res (Nat.le_refl _)⟩
  · have hz1 : zs = [] := by rw [HZL.out, HC.out.none hc0]; rfl
    subst hz1
    obtain rfl : kz = 0 := by simpa using HKZ.out.symm
    have hcb := d0 hc0
    clear d0
    go_wp2_with fail
    go_ret2
    exact ⟨_, _, rfl, HB1.out, .inl ⟨rfl, rfl⟩⟩
set_option maxRecDepth 100000 in
theorem nwS_any (A : Option Addr) (n c : Nat) (f : List (List Int)) (B : Option Addr) (k d : Nat) (s : List (List Int)) (C : Option Addr) (m e : Nat) (xs zs : List Int) (code : Int) (kz : Nat) (w : World) (hz : ZArg 1048576 w A n f B k s) (hm : xs.length = m) (hb : m ≤ 1048576) (he : m = 0 → e = 0) (hr : Rd w C xs) (hres : NwR f s xs zs code) (hkz : zs.length = kz) :
    Calls Try.prog 33 #[.agg #[.slice A n c, .slice B k d], .slice C m e] w (RPost 2 kz zs code w) := by
  have HZ := hide hz
  have HM := hide hm
  have HR := hide hr
  have HKZ := hide hkz
  obtain ⟨L, hL, hzL⟩ := hres
  have HC := hide hL
  have HZL := hide hzL
  have HB0 := hide ((Below.refl _ w).alloc (Nat.le_refl _) (Obj.cells #[Value.slice A n c, Value.slice B k d] 29))
  have HK0 := hide (Blk.new w 29 [.slice A n c, .slice B k d])
  have d0 : ¬ code = 0 → (code != 0) = true := fun h => by simpa using h
  clear hz hm hr hkz hL hzL
  go_enter Try.func33, Try.ntmps33
  have k0 := HK0.out.cell 0 _ rfl
  have k1 := HK0.out.cell 1 _ rfl
  go_wp2_with fail
  clear k0 k1
  refine (cowS_any A n c f B k d s C m e xs L code _ (HZ.out.later HB0.out) HM.out hb he (HR.out.later HB0.out) HC.out).mono ?_
  rintro e w1 ⟨v1, vals1, rfl, hb1, hl1⟩
  obtain ⟨A1, c1, hv1, hobj⟩ := hl1.shape
  subst hv1
  have HB1 := hide (HB0.out.trans (hb1.mono HB0.out.size))
  have HO1 := hide (hobj.mono (lo' := w.heap.size) HB0.out.size (Nat.le_refl _))
  clear hb1 hobj hl1
  by_cases hc0 : code = 0
  · subst hc0
    obtain ⟨_, hcl, _, _⟩ := HC.out.zero
    obtain ⟨g, R, CC, rfl, hcell, hrow⟩ := HO1.out.first hcl.pos
    rw [← HZL.out, HKZ.out] at hcell
    rw [← HZL.out] at hrow
    have HRO := hide hrow
    clear hcl hrow d0
    have hlp : (0 : Int) < L.length := by have h := HC.out.zero.2.1.pos; omega
    obtain ⟨ll, hll⟩ : ∃ ll, L.length = ll := ⟨_, rfl⟩
    rw [hll] at hlp ⊢
    go_wp2_with fail
    go_ret2
    exact ⟨_, _, rfl, HB1.out, HRO.out.res (Nat.le_refl _)⟩
  · have hz1 : zs = [] := by rw [HZL.out, HC.out.none hc0]; rfl
    subst hz1
    obtain rfl : kz = 0 := by simpa using HKZ.out.symm
    have hcb := d0 hc0
    clear d0
    go_wp2_with fail
    go_ret2
    exact ⟨_, _, rfl, HB1.out, .inl ⟨rfl, rfl⟩⟩
theorem nwS (A : Option Addr) (n c : Nat) (f : List (List Int)) (B : Option Addr) (k d : Nat) (s : List (List Int)) (C : Option Addr) (m : Nat) (xs zs : List Int) (code : Int) (kz : Nat) (w : World) (hz : ZArg 1048576 w A n f B k s) (hm : xs.length = m) (hb : m ≤ 1048576) (hr : Rd w C xs) (hres : NwR f s xs zs code) (hkz : zs.length = kz) :
    Calls Try.prog 33 #[.agg #[.slice A n c, .slice B k d], .slice C m m] w (RPost 2 kz zs code w) :=
  nwS_any A n c f B k d s C m m xs zs code kz w hz hm hb (fun h => h) hr hres hkz
end Go.Proofs.Ytiaebilcgmahlaa
namespace Go.Proofs.Ytiaebilcgmahlaa
open Go Go.RowKit
open Classical
set_option maxHeartbeats 4000000
set_option maxRecDepth 100000 in
theorem cmS (A : Option Addr) (n c : Nat) (f : List (List Int)) (B : Option Addr) (k d : Nat) (s : List (List Int)) (x y : Int) (zs : List Int) (code : Int) (kz : Nat) (w : World) (hz : ZArg 1048576 w A n f B k s) (hx0 : -9223372036854775808 ≤ x) (hx1 : x ≤ 9223372036854775807) (hy0 : -9223372036854775808 ≤ y) (hy1 : y ≤ 9223372036854775807) (hres : CmR f s x y zs code) (hkz : zs.length = kz) :
    Calls Try.prog 48 #[.agg #[.slice A n c, .slice B k d], .int .i64 x, .int .i64 y] w (RPost 2 kz zs code w) := by
  have HZ := hide hz
  have HKZ := hide hkz
  have HB0 := hide ((Below.refl _ w).alloc (Nat.le_refl _) (Obj.cells #[Value.slice A n c, Value.slice B k d] 29))
  have HK0 := hide (Blk.new w 29 [.slice A n c, .slice B k d])
  by_cases hs : SolF f s
  · have HS := hide hs
    obtain rfl := (hz.same hs.1).symm
    have HN := hide hz.sz.fl
    have h12 := hz.small hs.1
    have hnw : IntKind.i64.wrap ((n : Int) - 1) = (n : Int) - 1 := IntWalk.i64_in _ (by omega)
    obtain ⟨q1, hq1⟩ : ∃ r : Bool, r = true ↔ 0 ≤ x ∧ x ≤ (n : Int) - 1 := bool_of _
    obtain ⟨q3, hq3⟩ : ∃ r : Bool, r = true ↔ 0 ≤ y ∧ y ≤ (n : Int) - 1 := bool_of _
    have HQ1 := hide hq1
    have HQ3 := hide hq3
    have OUT : Hid (¬ ((0 ≤ x ∧ x < (n : Int)) ∧ (0 ≤ y ∧ y < (n : Int)) ∧ x ≠ y) → zs = [] ∧ code = 2) := hide (fun hno => by
      rw [← HN.out] at hno
      rcases hres with ⟨h, _⟩ | ⟨_, _, h⟩ | ⟨_, h, _⟩ | ⟨_, h, _⟩
      · exact absurd HS.out h
      · exact h
      · exact absurd h hno
      · exact absurd h hno)
    have BAD : Hid ((0 ≤ x ∧ x < (n : Int)) ∧ (0 ≤ y ∧ y < (n : Int)) ∧ x ≠ y → ¬ (NonF f s ∧ InvF f s) → zs = [] ∧ code = 5) := hide (fun hin hno => by
      rw [← HN.out] at hin
      rcases hres with ⟨h, _⟩ | ⟨_, h, _⟩ | ⟨_, _, _, h⟩ | ⟨_, _, h, _⟩
      · exact absurd HS.out h
      · exact absurd hin h
      · exact h
      · exact absurd h hno)
    have GOOD : Hid ((0 ≤ x ∧ x < (n : Int)) ∧ (0 ≤ y ∧ y < (n : Int)) ∧ x ≠ y → NonF f s ∧ InvF f s → zs = [min x y, ((sol f (min x y).toNat (max x y).toNat : Nat) : Int)] ∧ code = 0) := hide (fun hin hyes => by
      rw [← HN.out] at hin
      rcases hres with ⟨h, _⟩ | ⟨_, h, _⟩ | ⟨_, _, h, _⟩ | ⟨_, _, _, h⟩
      · exact absurd HS.out h
      · exact absurd hin h
      · exact absurd hyes h
      · exact h)
    clear hz hkz hres hs hq1 hq3
    go_enter Try.func48, Try.ntmps48
    have k0 := HK0.out.cell 0 _ rfl
    have k1 := HK0.out.cell 1 _ rfl
    go_wp2_with fail
    clear k0 k1
    refine (isS_any _ _ _ f _ _ _ s true _ (HZ.out.later HB0.out) ⟨fun _ => HS.out, fun _ => rfl⟩).mono ?_
    rintro e w1 ⟨rfl, hb1⟩
    have HB1 := hide (HB0.out.trans (hb1.mono HB0.out.size))
    have HK1 := hide (HK0.out.later hb1)
    clear hb1
    have k0 := HK1.out.cell 0 _ rfl
    have k1 := HK1.out.cell 1 _ rfl
    go_wp2_with fail
    refine (in_any x 0 ((n : Int) - 1) q1 _ HQ1.out).mono ?_
    rintro e w2 ⟨rfl, hq2⟩
    have HB2 := hide (HB1.out.trans ((hq2.below w1.heap.size).mono HB1.out.size))
    have HK2 := hide (HK1.out.later (hq2.below w1.heap.size))
    clear hq2 k0 k1
    cases q1 with
    | false =>
      obtain ⟨rfl, rfl⟩ := OUT.out (fun h => by have h2 := HQ1.out.2 ⟨h.1.1, by omega⟩; cases h2)
      obtain rfl : kz = 0 := by simpa using HKZ.out.symm
      clear HQ1
      go_wp2_with fail
      go_ret2
      exact ⟨_, _, rfl, HB2.out, .inl ⟨rfl, rfl⟩⟩
    | true =>
      have hxin := HQ1.out.1 rfl
      clear HQ1
      go_wp2_with fail
      refine (in_any y 0 ((n : Int) - 1) q3 _ HQ3.out).mono ?_
      rintro e w3 ⟨rfl, hq3⟩
      have HB3 := hide (HB2.out.trans ((hq3.below w2.heap.size).mono HB2.out.size))
      have HK3 := hide (HK2.out.later (hq3.below w2.heap.size))
      clear hq3
      cases q3 with
      | false =>
        obtain ⟨rfl, rfl⟩ := OUT.out (fun h => by have h2 := HQ3.out.2 ⟨h.2.1.1, by omega⟩; cases h2)
        obtain rfl : kz = 0 := by simpa using HKZ.out.symm
        clear HQ3
        go_wp2_with fail
        go_ret2
        exact ⟨_, _, rfl, HB3.out, .inl ⟨rfl, rfl⟩⟩
      | true =>
        have hyin := HQ3.out.1 rfl
        clear HQ3
        by_cases hxy : x = y
        · have hbxy : (x == y) = true := by simpa using hxy
          obtain ⟨rfl, rfl⟩ := OUT.out (fun h => h.2.2 hxy)
          obtain rfl : kz = 0 := by simpa using HKZ.out.symm
          clear hxy
          go_wp2_with fail
          go_ret2
          exact ⟨_, _, rfl, HB3.out, .inl ⟨rfl, rfl⟩⟩
        · have hbxy : (x == y) = false := by simpa using hxy
          have hin : (0 ≤ x ∧ x < (n : Int)) ∧ (0 ≤ y ∧ y < (n : Int)) ∧ x ≠ y := ⟨⟨by omega, by omega⟩, ⟨by omega, by omega⟩, hxy⟩
          have HIN := hide hin
          have k0 := HK3.out.cell 0 _ rfl
          have k1 := HK3.out.cell 1 _ rfl
          obtain ⟨r1, hr1⟩ : ∃ r1 : Bool, r1 = true ↔ NonF f s := bool_of _
          obtain ⟨r3, hr3⟩ : ∃ r3 : Bool, r3 = true ↔ InvF f s := bool_of _
          have HR1 := hide hr1
          have HR3 := hide hr3
          clear hr1 hr3 hin OUT
          go_wp2_with fail
          refine (goodS_any _ _ _ f _ _ _ s r1 _ (HZ.out.later HB3.out) HS.out.1 HR1.out).mono ?_
          rintro e w4 ⟨rfl, hb4⟩
          have HB4 := hide (HB3.out.trans (hb4.mono HB3.out.size))
          have HK4 := hide (HK3.out.later hb4)
          clear hb4 k0 k1
          have k0 := HK4.out.cell 0 _ rfl
          have k1 := HK4.out.cell 1 _ rfl
          cases r1 with
          | false =>
            obtain ⟨rfl, rfl⟩ := BAD.out HIN.out (fun h => by have h2 := HR1.out.2 h.1; cases h2)
            obtain rfl : kz = 0 := by simpa using HKZ.out.symm
            clear HR1
            go_wp2_with fail
            go_ret2
            exact ⟨_, _, rfl, HB4.out, .inl ⟨rfl, rfl⟩⟩
          | true =>
            have HND := hide (HR1.out.1 rfl)
            clear HR1
            go_wp2_with fail
            refine (twiceS_any _ _ _ f _ _ _ s r3 _ (HZ.out.later HB4.out) HS.out.1 HR3.out).mono ?_
            rintro e w5 ⟨rfl, hb5⟩
            have HB5 := hide (HB4.out.trans (hb5.mono HB4.out.size))
            have HK5 := hide (HK4.out.later hb5)
            clear hb5 k0 k1
            cases r3 with
            | false =>
              obtain ⟨rfl, rfl⟩ := BAD.out HIN.out (fun h => by have h2 := HR3.out.2 h.2; cases h2)
              obtain rfl : kz = 0 := by simpa using HKZ.out.symm
              clear HR3
              go_wp2_with fail
              go_ret2
              exact ⟨_, _, rfl, HB5.out, .inl ⟨rfl, rfl⟩⟩
            | true =>
              have HINV := hide (HR3.out.1 rfl)
              obtain ⟨rfl, rfl⟩ := GOOD.out HIN.out ⟨HND.out, HR3.out.1 rfl⟩
              obtain rfl : kz = 2 := by simpa using HKZ.out.symm
              clear HR3 BAD GOOD
              obtain ⟨a, rfl⟩ : ∃ a : Nat, x = (a : Int) := ⟨x.toNat, by omega⟩
              obtain ⟨b, rfl⟩ : ∃ b : Nat, y = (b : Int) := ⟨y.toNat, by omega⟩
              have han : a < n := by omega
              have hbn : b < n := by omega
              have haz : (a : Int) < n := by omega
              have hab : a ≠ b := by omega
              obtain ⟨bA, oA, rfl, hbA, hcA⟩ := HS.out.1.1.cells (HZ.out.later HB5.out).fst HN.out
              obtain ⟨bx, ox, cx, e1, e2, e3⟩ := hcA a han
              have hsol := sol_ix HS.out.1.1 HND.out.1 HN.out han hbn
              have hsn := (sol_spec HS.out.1.1 HND.out.1 HN.out han hbn).1
              have hlen := HS.out.1.1.row_len HN.out han
              have HRD : Hid (Rd w5 (some ⟨bx, ox, none⟩) (f.getD a [])) := hide (fun _ => ⟨bx, ox, rfl, e2, fun i hi => by rw [e3 i (by omega), HS.out.1.1.ap_eq HN.out han (by omega)]⟩)
              have HLEN := hide hlen
              have HSOL := hide hsol
              have k0 := HK5.out.cell 0 _ rfl
              have k1 := HK5.out.cell 1 _ rfl
              obtain ⟨u, hu⟩ : ∃ u, sol f a b = u := ⟨_, rfl⟩
              have HU := hide hu
              rw [hu] at hsn
              clear hcA e2 e3 hbA hsol hlen hu
              go_wp2_with fail
              refine (index_any _ n cx (f.getD a []) (b : Int) _ HLEN.out (by omega) HRD.out).mono ?_
              rintro e w6 ⟨rfl, hq6⟩
              rw [HSOL.out, HU.out]
              have HB6 := hide (HB5.out.trans ((hq6.below w5.heap.size).mono HB5.out.size))
              have HK6 := hide (HK5.out.later (hq6.below w5.heap.size))
              have hs6 := HB6.out.size
              clear hq6 k0 k1 e1
              have k0 := HK6.out.cell 0 _ rfl
              have k1 := HK6.out.cell 1 _ rfl
              go_wp2_with fail
              refine calls_gen fun w7 hw7 => ?_
              have hb7 : Below w6.heap.size w6 w7 := by rw [hw7]; exact (Below.refl _ _).alloc (Nat.le_refl _) _
              obtain ⟨L7, hL7⟩ : ∃ L7, w6.heap.size = L7 := ⟨_, rfl⟩
              have HX7 : Hid (Row 2 w7 L7 [(a : Int), (u : Int)]) := hide (by rw [hw7, ← hL7]; exact heap_alloc_new _ _)
              have HB7 := hide (HB6.out.trans (hb7.mono hs6))
              have hs7 := HB7.out.size
              have HWT : Hid (Tup n [(a : Int), (u : Int)]) := hide (wrd2.2 ⟨⟨by omega, by omega⟩, ⟨by omega, by omega⟩⟩).tup
              rw [hL7]
              clear hw7 hb7 hL7 k0 k1
              refine (class1_any _ n c f _ d s _ 2 2 [(a : Int), (u : Int)] 1000 _ (HZ.out.later HB7.out) HS.out HWT.out rfl (by omega) HX7.out.rd (by omega) (by omega)).mono ?_
              rintro e w8 (⟨L, v8, vals, hcl, hasc, hll, rfl, hb8, hl8⟩ | ⟨hfew, rfl, hb8⟩)
              · have HB8 := hide (HB7.out.trans (hb8.mono hs7))
                obtain ⟨A8, c8, hv8, hobj⟩ := hl8.shape
                subst hv8
                have hfirst := cm_first HS.out HN.out HND.out HINV.out han hbn hab (by rw [HU.out]; exact hcl) hasc
                have hobj2 := hobj.mono (lo' := w.heap.size) hs7 (Nat.le_refl _)
                obtain ⟨g8, R8, C8, rfl, hcell, hrow⟩ := hobj2.first hcl.pos
                rw [hfirst] at hcell hrow
                have HRO := hide hrow
                have hlp : (0 : Int) < L.length := by have h := hcl.pos; omega
                obtain ⟨ll, hle⟩ : ∃ ll, L.length = ll := ⟨_, rfl⟩
                rw [hle] at hlp ⊢
                have hcell2 : w8.cell? ⟨g8, 0, none⟩ = some (.slice R8 2 C8) := hcell
                clear hcell hb8 hl8 hobj hobj2 hcl hasc hfirst hrow
                go_wp2_with fail
                go_ret2
                exact ⟨_, _, rfl, HB8.out, HRO.out.res (Nat.le_refl _)⟩
              · exfalso
                refine hfew ?_
                obtain ⟨L, hL⟩ := Cls.ex (HS.out.pb HN.out) HWT.out
                refine ⟨L, hL, ?_⟩
                have h := tnodup_le (m := [[(a : Int), (u : Int)], [((ap f a u : Nat) : Int), ((ap s a u : Nat) : Int)]]) hL.1 (fun z hz => by
                  rcases (cls2 HS.out HN.out HINV.out han hsn z).1 ((hL.2 z).1 hz) with e | e <;> simp [e])
                simp at h
                omega
  · have HS := hide hs
    obtain ⟨rfl, rfl⟩ : zs = [] ∧ code = 1 := by
      rcases hres with ⟨_, h⟩ | ⟨h, _⟩ | ⟨h, _⟩ | ⟨h, _⟩
      · exact h
      · exact absurd h hs
      · exact absurd h hs
      · exact absurd h hs
    obtain rfl : kz = 0 := by simpa using hkz.symm
    clear hz hkz hres hs
    go_enter Try.func48, Try.ntmps48
    have k0 := HK0.out.cell 0 _ rfl
    have k1 := HK0.out.cell 1 _ rfl
    go_wp2_with fail
    clear k0 k1
    refine (isS_any _ _ _ f _ _ _ s false _ (HZ.out.later HB0.out) ⟨fun h => absurd h (by simp), fun h => absurd h HS.out⟩).mono ?_
    rintro e w1 ⟨rfl, hb1⟩
    have HB1 := hide (HB0.out.trans (hb1.mono HB0.out.size))
    clear hb1
    go_wp2_with fail
    go_ret2
    exact ⟨_, _, rfl, HB1.out, .inl ⟨rfl, rfl⟩⟩
end Go.Proofs.Ytiaebilcgmahlaa
