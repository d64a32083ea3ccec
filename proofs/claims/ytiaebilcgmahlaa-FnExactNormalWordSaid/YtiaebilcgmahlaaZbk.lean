import Derived.Test.YtiaebilcgmahlaaZbj
namespace Go.Proofs.Ytiaebilcgmahlaa
open Go Go.RowKit
open Classical
set_option maxHeartbeats 4000000
theorem Obj2.first {ts t : TypeId} {lo hi : Nat} {w : World} {A : Option Addr} {rows : List (List Int)} (h : Obj2 ts t lo hi w A rows) (h0 : 0 < rows.length) : ∃ g R C, A = some ⟨g, 0, none⟩ ∧ w.cell? ⟨g, 0, none⟩ = some (.slice R (rows.getD 0 []).length C) ∧ Obj1 t lo hi w R (rows.getD 0 []) := by
  rcases h with ⟨_, rfl⟩ | ⟨g, R, C, rfl, _, _, ⟨cur, h1, h2⟩, h3, _⟩
  · simp at h0
  · exact ⟨g, R 0, C 0, rfl, by rw [cell_of_row w g 0 cur ts (0, 0) h1]; exact h2 0 h0, h3 0 h0⟩
/-- What the normal word is told. -/
def NwR (f s : List (List Int)) (xs zs : List Int) (code : Int) : Prop := ∃ L, CowR f s xs L code ∧ zs = L.getD 0 []
theorem CowR.zero {f s : List (List Int)} {xs : List Int} {L : List (List Int)} (h : CowR f s xs L 0) : WdC f s [xs] 0 ∧ Cls (leH f) (leH s) xs L ∧ Asc L ∧ L.length ≤ 1000 := by
  rcases h with ⟨h1, ⟨h2, h3, h4, _⟩ | ⟨_, _, h⟩⟩ | ⟨_, h, _⟩
  · exact ⟨h1, h2, h3, h4⟩
  · omega
  · omega
theorem CowR.none {f s : List (List Int)} {xs : List Int} {L : List (List Int)} {code : Int} (h : CowR f s xs L code) (hc : code ≠ 0) : L = [] := by
  rcases h with ⟨h1, ⟨_, _, _, h2⟩ | ⟨_, h2, _⟩⟩ | ⟨_, _, h2⟩
  · exact absurd h2 hc
  · exact h2
  · exact h2
theorem NwR.ex (f s : List (List Int)) (xs : List Int) : ∃ zs code, NwR f s xs zs code ∧ zs.length ≤ 1048576 := by
  obtain ⟨L, code, h, h1, h2⟩ := CowR.ex f s xs
  refine ⟨L.getD 0 [], code, ⟨L, h, rfl⟩, ?_⟩
  by_cases h0 : 0 < L.length
  · exact h2 0 h0
  · have e : L = [] := List.eq_nil_of_length_eq_zero (by omega)
    subst e; simp
set_option maxRecDepth 100000 in
theorem nwI (A : Option Addr) (n c : Nat) (f : List (List Int)) (B : Option Addr) (k d : Nat) (s : List (List Int)) (C : Option Addr) (m e : Nat) (xs zs : List Int) (code : Int) (kz : Nat) (w : World) (hz : ZArg 1048576 w A n f B k s) (hm : xs.length = m) (hb : m ≤ 1048576) (hr : Rd w C xs) (hres : NwR f s xs zs code) (hkz : zs.length = kz) :
    Calls Try.prog 34 #[.agg #[.slice A n c, .slice B k d], .slice C m e] w (RPost 2 kz zs code w) := by
  have HZ := hide hz
  have HM := hide hm
  have HR := hide hr
  have HKZ := hide hkz
  obtain ⟨L, hL, hzL⟩ := hres
  have HC := hide hL
  have HZL := hide hzL
  have HB0 := hide ((Below.refl _ w).alloc (Nat.le_refl _) (Obj.cells #[Value.slice A n c, Value.slice B k d] 29))
  have HK0 := hide (Blk.new w 29 [.slice A n c, .slice B k d])
  have d0 : ¬ code = 0 → (code != 0) = true := fun h => by simpa using h
  clear hz hm hr hkz hL hzL
  go_enter Try.func34, Try.ntmps34
  have k0 := HK0.out.cell 0 _ rfl
  have k1 := HK0.out.cell 1 _ rfl
  go_wp2_with fail
  clear k0 k1
  refine (cowI A n c f B k d s C m e xs L code _ _ (HZ.out.later HB0.out) HM.out hb (HR.out.later HB0.out) HC.out rfl).mono ?_
  rintro e w1 ⟨A1, c1, rfl, hb1, hobj⟩
  have HB1 := hide (HB0.out.trans (hb1.mono HB0.out.size))
  have HO1 := hide (hobj.mono (lo' := w.heap.size) HB0.out.size (Nat.le_refl _))
  clear hb1 hobj
  by_cases hc0 : code = 0
  · subst hc0
    obtain ⟨_, hcl, _, _⟩ := HC.out.zero
    obtain ⟨g, R, CC, rfl, hcell, hrow⟩ := HO1.out.first hcl.pos
    rw [← HZL.out, HKZ.out] at hcell
    rw [← HZL.out] at hrow
    have HRO := hide hrow
    clear hcl hrow d0
    have hlp : (0 : Int) < L.length := by have h := HC.out.zero.2.1.pos; omega
    obtain ⟨ll, hll⟩ : ∃ ll, L.length = ll := ⟨_, rfl⟩
    rw [hll] at hlp ⊢
    go_wp2_with fail
    go_ret2
    exact ⟨_, _, rfl, HB1.out, HRO.out.res (Nat.le_refl _)⟩
  · have hz1 : zs = [] := by rw [HZL.out, HC.out.none hc0]; rfl
    subst hz1
    obtain rfl : kz = 0 := by simpa using HKZ.out.symm
    have hcb := d0 hc0
    clear d0
    go_wp2_with fail
    go_ret2
    exact ⟨_, _, rfl, HB1.out, .inl ⟨rfl, rfl⟩⟩
set_option maxRecDepth 100000 in
theorem nwS_any (A : Option Addr) (n c : Nat) (f : List (List Int)) (B : Option Addr) (k d : Nat) (s : List (List Int)) (C : Option Addr) (m e : Nat) (xs zs : List Int) (code : Int) (kz : Nat) (w : World) (hz : ZArg 1048576 w A n f B k s) (hm : xs.length = m) (hb : m ≤ 1048576) (he : m = 0 → e = 0) (hr : Rd w C xs) (hres : NwR f s xs zs code) (hkz : zs.length = kz) :
    Calls Try.prog 33 #[.agg #[.slice A n c, .slice B k d], .slice C m e] w (RPost 2 kz zs code w) := by
  have HZ := hide hz
  have HM := hide hm
  have HR := hide hr
  have HKZ := hide hkz
  obtain ⟨L, hL, hzL⟩ := hres
  have HC := hide hL
  have HZL := hide hzL
  have HB0 := hide ((Below.refl _ w).alloc (Nat.le_refl _) (Obj.cells #[Value.slice A n c, Value.slice B k d] 29))
  have HK0 := hide (Blk.new w 29 [.slice A n c, .slice B k d])
  have d0 : ¬ code = 0 → (code != 0) = true := fun h => by simpa using h
  clear hz hm hr hkz hL hzL
  go_enter Try.func33, Try.ntmps33
  have k0 := HK0.out.cell 0 _ rfl
  have k1 := HK0.out.cell 1 _ rfl
  go_wp2_with fail
  clear k0 k1
  refine (cowS_any A n c f B k d s C m e xs L code _ (HZ.out.later HB0.out) HM.out hb he (HR.out.later HB0.out) HC.out).mono ?_
  rintro e w1 ⟨v1, vals1, rfl, hb1, hl1⟩
  obtain ⟨A1, c1, hv1, hobj⟩ := hl1.shape
  subst hv1
  have HB1 := hide (HB0.out.trans (hb1.mono HB0.out.size))
  have HO1 := hide (hobj.mono (lo' := w.heap.size) HB0.out.size (Nat.le_refl _))
  clear hb1 hobj hl1
  by_cases hc0 : code = 0
  · subst hc0
    obtain ⟨_, hcl, _, _⟩ := HC.out.zero
    obtain ⟨g, R, CC, rfl, hcell, hrow⟩ := HO1.out.first hcl.pos
    rw [← HZL.out, HKZ.out] at hcell
    rw [← HZL.out] at hrow
    have HRO := hide hrow
    clear hcl hrow d0
    have hlp : (0 : Int) < L.length := by have h := HC.out.zero.2.1.pos; omega
    obtain ⟨ll, hll⟩ : ∃ ll, L.length = ll := ⟨_, rfl⟩
    rw [hll] at hlp ⊢
    go_wp2_with fail
    go_ret2
    exact ⟨_, _, rfl, HB1.out, HRO.out.res (Nat.le_refl _)⟩
  · have hz1 : zs = [] := by rw [HZL.out, HC.out.none hc0]; rfl
    subst hz1
    obtain rfl : kz = 0 := by simpa using HKZ.out.symm
    have hcb := d0 hc0
    clear d0
    go_wp2_with fail
    go_ret2
    exact ⟨_, _, rfl, HB1.out, .inl ⟨rfl, rfl⟩⟩
theorem nwS (A : Option Addr) (n c : Nat) (f : List (List Int)) (B : Option Addr) (k d : Nat) (s : List (List Int)) (C : Option Addr) (m : Nat) (xs zs : List Int) (code : Int) (kz : Nat) (w : World) (hz : ZArg 1048576 w A n f B k s) (hm : xs.length = m) (hb : m ≤ 1048576) (hr : Rd w C xs) (hres : NwR f s xs zs code) (hkz : zs.length = kz) :
    Calls Try.prog 33 #[.agg #[.slice A n c, .slice B k d], .slice C m m] w (RPost 2 kz zs code w) :=
  nwS_any A n c f B k d s C m m xs zs code kz w hz hm hb (fun h => h) hr hres hkz
end Go.Proofs.Ytiaebilcgmahlaa
