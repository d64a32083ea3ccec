import Derived.Test.YtaejgmdeiemhcabZaf
import Derived.Test.YtaejgmdeiemhcabZad
import Derived.Test.YtaejgmdeiemhcabZa
import Derived.Test.YtaejgmdeiemhcabZag
import Derived.Test.YtaejgmdeiemhcabZu
import Derived.Test.YtaejgmdeiemhcabZab
namespace Go.Proofs.Ytaejgmdeiemhcab
open Go Go.RowKit
open Classical
set_option maxHeartbeats 4000000
set_option maxRecDepth 100000 in
theorem cfwI_any (A : Option Addr) (n c : Nat) (f : List (List Int)) (x y : Int) (zs : List Int) (code : Int) (k : Nat) (w : World) (hn : f.length = n) (hb : n ≤ 1048576) (hbs : ∀ i, i < f.length → (f.getD i []).length ≤ 1048576) (hr : Rd2 w A f) (_hx0 : -9223372036854775808 ≤ x) (_hx1 : x ≤ 9223372036854775807) (_hy0 : -9223372036854775808 ≤ y) (_hy1 : y ≤ 9223372036854775807) (hres : CfRes f x y zs code) (hk : zs.length = k) :
    Calls Try.prog 29 #[.agg #[.slice A n c], .int .i64 x, .int .i64 y] w (RPost 2 k zs code w) := by
  have HN := hide hn
  have HBS := hide hbs
  have HRD := hide hr
  have HB0 := hide ((Below.refl _ w).alloc (Nat.le_refl _) (Obj.cells #[Value.slice A n c] 49))
  have HK0 := hide (Blk.new w 49 [.slice A n c])
  have h12 : Rck f → n ≤ 12 := fun h => by rw [← hn]; exact h.tbl.2.1
  rcases hres with ⟨hp, hin, rfl, rfl⟩ | ⟨hp, hin, rfl, rfl⟩ | ⟨hp, rfl, rfl⟩
  · have HIN := hide hin
    have hk2 : k = n := by rw [← hk, cfL_length, hn]
    have hn12 := h12 hp
    clear hin hk h12
    have HRK : Hid (RkRes f true) := hide (by unfold RkRes; simp [hp])
    have HP := hide hp
    clear hn hbs hr hp
    go_enter Try.func29, Try.ntmps29
    go_wp2_with fail
    refine (isRackI _ _ _ f true _ HN.out hb HBS.out (HRD.out.later HB0.out) HRK.out).mono ?_
    rintro e w1 ⟨rfl, hb1⟩
    have HB1 := hide (HB0.out.trans (hb1.mono HB0.out.size))
    have HK1 := hide (HK0.out.later hb1)
    clear hb1
    have k0 := HK1.out.cell 0 _ rfl
    go_wp2_with fail
    refine (ksize_any _ _ _ _ (by omega)).mono ?_
    rintro e w2 ⟨rfl, hb2⟩
    have HB2 := hide (HB1.out.trans (hb2.mono HB1.out.size))
    have HK2 := hide (HK1.out.later hb2)
    clear hb2 k0
    go_wp2_with fail
    refine calls_gen fun w3 hw3 => ?_
    obtain ⟨B, hB⟩ : ∃ B, w2.heap.size = B := ⟨_, rfl⟩
    have hb3 : Below w2.heap.size w2 w3 := by rw [hw3]; exact (Below.refl _ _).alloc (Nat.le_refl _) _
    have HR3 : Hid (Rd w3 (some ⟨B, 0, none⟩) [x, y]) := hide (by rw [hw3, ← hB]; exact rd_two _ _ _ _)
    have HB3 := hide (HB2.out.trans (hb3.mono HB2.out.size))
    have HK3 := hide (HK2.out.later hb3)
    have HEL : Hid (true = true ↔ ∀ j, j < 2 → 0 ≤ [x, y].getD j 0 ∧ [x, y].getD j 0 < (n : Int)) := hide (by simp only [true_iff]; exact els2 n x y (by rw [← HN.out]; exact HIN.out))
    rw [hB]
    clear hw3 hb3 hB
    refine (els_any n _ 2 2 [x, y] true _ rfl (by omega) (HR3.out) HEL.out).mono ?_
    rintro e w4 ⟨rfl, hq4⟩
    have HB4 := hide (HB3.out.trans ((hq4.below _).mono HB3.out.size))
    have HK4 := hide (HK3.out.later (hq4.below _))
    clear hq4
    obtain ⟨a, ha⟩ : ∃ a : Nat, x = (a : Int) := ⟨x.toNat, by have := HIN.out.1.1; omega⟩
    obtain ⟨b, hb2⟩ : ∃ b : Nat, y = (b : Int) := ⟨y.toNat, by have := HIN.out.2.1; omega⟩
    subst ha hb2 hk2
    have hax : a < k := by have h := HIN.out.1.2; have h2 := HN.out; omega
    have hby : b < k := by have h := HIN.out.2.2; have h2 := HN.out; omega
    have k0 := HK4.out.cell 0 _ rfl
    go_wp2_with fail
    refine (congI_any _ k _ a b f _ HN.out HP.out.tbl (HRD.out.later HB4.out) hax hby).mono ?_
    rintro e w5 ⟨g, c', rfl, hb5, hg5, ho5⟩
    have HB5 := hide (HB4.out.trans (hb5.mono HB4.out.size))
    have HO5 := hide ho5
    have hgw : w.heap.size ≤ g := Nat.le_trans HB4.out.size hg5
    clear hb5 ho5 hg5 k0
    go_wp2_with fail
    go_ret2
    exact ⟨_, _, rfl, HB5.out, .inr ⟨g, rfl, hgw, by simpa using HO5.out⟩⟩
  · have HIN := hide hin
    have hk2 : k = 0 := by rw [← hk]; rfl
    have hn12 := h12 hp
    clear hin hk h12
    subst hk2
    have HRK : Hid (RkRes f true) := hide (by unfold RkRes; simp [hp])
    have HP := hide hp
    clear hn hbs hr hp
    go_enter Try.func29, Try.ntmps29
    go_wp2_with fail
    refine (isRackI _ _ _ f true _ HN.out hb HBS.out (HRD.out.later HB0.out) HRK.out).mono ?_
    rintro e w1 ⟨rfl, hb1⟩
    have HB1 := hide (HB0.out.trans (hb1.mono HB0.out.size))
    have HK1 := hide (HK0.out.later hb1)
    clear hb1
    have k0 := HK1.out.cell 0 _ rfl
    go_wp2_with fail
    refine (ksize_any _ _ _ _ (by omega)).mono ?_
    rintro e w2 ⟨rfl, hb2⟩
    have HB2 := hide (HB1.out.trans (hb2.mono HB1.out.size))
    have HK2 := hide (HK1.out.later hb2)
    clear hb2 k0
    go_wp2_with fail
    refine calls_gen fun w3 hw3 => ?_
    obtain ⟨B, hB⟩ : ∃ B, w2.heap.size = B := ⟨_, rfl⟩
    have hb3 : Below w2.heap.size w2 w3 := by rw [hw3]; exact (Below.refl _ _).alloc (Nat.le_refl _) _
    have HR3 : Hid (Rd w3 (some ⟨B, 0, none⟩) [x, y]) := hide (by rw [hw3, ← hB]; exact rd_two _ _ _ _)
    have HB3 := hide (HB2.out.trans (hb3.mono HB2.out.size))
    have HK3 := hide (HK2.out.later hb3)
    have HEL : Hid (false = true ↔ ∀ j, j < 2 → 0 ≤ [x, y].getD j 0 ∧ [x, y].getD j 0 < (n : Int)) := hide (by simp only [Bool.false_eq_true, false_iff]; exact fun h => HIN.out (by have h2 := els2' n x y h; rw [HN.out]; exact h2))
    rw [hB]
    clear hw3 hb3 hB
    refine (els_any n _ 2 2 [x, y] false _ rfl (by omega) (HR3.out) HEL.out).mono ?_
    rintro e w4 ⟨rfl, hq4⟩
    have HB4 := hide (HB3.out.trans ((hq4.below _).mono HB3.out.size))
    have HK4 := hide (HK3.out.later (hq4.below _))
    clear hq4
    go_wp2_with fail
    go_ret2
    exact ⟨_, _, rfl, HB4.out, .inl ⟨rfl, rfl⟩⟩
  · have hk2 : k = 0 := by rw [← hk]; rfl
    clear hk h12
    subst hk2
    have HRK : Hid (RkRes f false) := hide (by unfold RkRes; simp [hp])
    have HP := hide hp
    clear hn hbs hr hp
    go_enter Try.func29, Try.ntmps29
    go_wp2_with fail
    refine (isRackI _ _ _ f false _ HN.out hb HBS.out (HRD.out.later HB0.out) HRK.out).mono ?_
    rintro e w1 ⟨rfl, hb1⟩
    have HB1 := hide (HB0.out.trans (hb1.mono HB0.out.size))
    have HK1 := hide (HK0.out.later hb1)
    clear hb1
    go_wp2_with fail
    go_ret2
    exact ⟨_, _, rfl, HB1.out, .inl ⟨rfl, rfl⟩⟩
end Go.Proofs.Ytaejgmdeiemhcab
namespace Go.Proofs.Ytaejgmdeiemhcab
open Go Go.RowKit
open Classical
set_option maxHeartbeats 4000000
set_option maxRecDepth 100000 in
theorem cfwS_any (A : Option Addr) (n c : Nat) (f : List (List Int)) (x y : Int) (zs : List Int) (code : Int) (k : Nat) (w : World) (hn : f.length = n) (hb : n ≤ 1048576) (hbs : ∀ i, i < f.length → (f.getD i []).length ≤ 1048576) (hr : Rd2 w A f) (_hx0 : -9223372036854775808 ≤ x) (_hx1 : x ≤ 9223372036854775807) (_hy0 : -9223372036854775808 ≤ y) (_hy1 : y ≤ 9223372036854775807) (hres : CfRes f x y zs code) (hk : zs.length = k) :
    Calls Try.prog 27 #[.agg #[.slice A n c], .int .i64 x, .int .i64 y] w (RPost 2 k zs code w) := by
  have HN := hide hn
  have HBS := hide hbs
  have HRD := hide hr
  have HB0 := hide ((Below.refl _ w).alloc (Nat.le_refl _) (Obj.cells #[Value.slice A n c] 49))
  have HK0 := hide (Blk.new w 49 [.slice A n c])
  have h12 : Rck f → n ≤ 12 := fun h => by rw [← hn]; exact h.tbl.2.1
  rcases hres with ⟨hp, hin, rfl, rfl⟩ | ⟨hp, hin, rfl, rfl⟩ | ⟨hp, rfl, rfl⟩
  · have HIN := hide hin
    have hk2 : k = n := by rw [← hk, cfL_length, hn]
    have hn12 := h12 hp
    clear hin hk h12
    have HRK : Hid (RkRes f true) := hide (by unfold RkRes; simp [hp])
    have HP := hide hp
    clear hn hbs hr hp
    go_enter Try.func27, Try.ntmps27
    go_wp2_with fail
    refine (isRackS _ _ _ f true _ HN.out hb HBS.out (HRD.out.later HB0.out) HRK.out).mono ?_
    rintro e w1 ⟨rfl, hb1⟩
    have HB1 := hide (HB0.out.trans (hb1.mono HB0.out.size))
    have HK1 := hide (HK0.out.later hb1)
    clear hb1
    have k0 := HK1.out.cell 0 _ rfl
    have HB2 := HB1
    have HK2 := HK1
    go_wp2_with fail
    refine calls_gen fun w3 hw3 => ?_
    obtain ⟨B, hB⟩ : ∃ B, w1.heap.size = B := ⟨_, rfl⟩
    have hb3 : Below w1.heap.size w1 w3 := by rw [hw3]; exact (Below.refl _ _).alloc (Nat.le_refl _) _
    have HR3 : Hid (Rd w3 (some ⟨B, 0, none⟩) [x, y]) := hide (by rw [hw3, ← hB]; exact rd_two _ _ _ _)
    have HB3 := hide (HB2.out.trans (hb3.mono HB2.out.size))
    have HK3 := hide (HK2.out.later hb3)
    have HEL : Hid (true = true ↔ Els n [x, y]) := hide (by simp only [true_iff]; exact els2 n x y (by rw [← HN.out]; exact HIN.out))
    rw [hB]
    clear hw3 hb3 hB k0
    refine (l04Elements_any n _ 2 2 [x, y] true _ hb rfl (by omega) HR3.out HEL.out).mono ?_
    rintro e w4 ⟨rfl, hb4⟩
    have HB4 := hide (HB3.out.trans (hb4.mono HB3.out.size))
    have HK4 := hide (HK3.out.later hb4)
    clear hb4
    obtain ⟨a, ha⟩ : ∃ a : Nat, x = (a : Int) := ⟨x.toNat, by have := HIN.out.1.1; omega⟩
    obtain ⟨b, hb2⟩ : ∃ b : Nat, y = (b : Int) := ⟨y.toNat, by have := HIN.out.2.1; omega⟩
    subst ha hb2 hk2
    have hax : a < k := by have h := HIN.out.1.2; have h2 := HN.out; omega
    have hby : b < k := by have h := HIN.out.2.2; have h2 := HN.out; omega
    have k0 := HK4.out.cell 0 _ rfl
    go_wp2_with fail
    refine (from_any _ k _ a b f _ HN.out HP.out.tbl (HRD.out.later HB4.out) hax hby).mono ?_
    rintro e w5 ⟨A', c', rfl, hb5, hres5⟩
    have HB5 := hide (HB4.out.trans (hb5.mono HB4.out.size))
    have HO5 := hide (hres5.mono HB4.out.size)
    clear hb5 hres5 k0
    go_wp2_with fail
    go_ret2
    exact ⟨_, _, rfl, HB5.out, by simpa using HO5.out⟩
  · have HIN := hide hin
    have hk2 : k = 0 := by rw [← hk]; rfl
    have hn12 := h12 hp
    clear hin hk h12
    subst hk2
    have HRK : Hid (RkRes f true) := hide (by unfold RkRes; simp [hp])
    have HP := hide hp
    clear hn hbs hr hp
    go_enter Try.func27, Try.ntmps27
    go_wp2_with fail
    refine (isRackS _ _ _ f true _ HN.out hb HBS.out (HRD.out.later HB0.out) HRK.out).mono ?_
    rintro e w1 ⟨rfl, hb1⟩
    have HB1 := hide (HB0.out.trans (hb1.mono HB0.out.size))
    have HK1 := hide (HK0.out.later hb1)
    clear hb1
    have k0 := HK1.out.cell 0 _ rfl
    have HB2 := HB1
    have HK2 := HK1
    go_wp2_with fail
    refine calls_gen fun w3 hw3 => ?_
    obtain ⟨B, hB⟩ : ∃ B, w1.heap.size = B := ⟨_, rfl⟩
    have hb3 : Below w1.heap.size w1 w3 := by rw [hw3]; exact (Below.refl _ _).alloc (Nat.le_refl _) _
    have HR3 : Hid (Rd w3 (some ⟨B, 0, none⟩) [x, y]) := hide (by rw [hw3, ← hB]; exact rd_two _ _ _ _)
    have HB3 := hide (HB2.out.trans (hb3.mono HB2.out.size))
    have HK3 := hide (HK2.out.later hb3)
    have HEL : Hid (false = true ↔ Els n [x, y]) := hide (by simp only [Bool.false_eq_true, false_iff]; exact fun h => HIN.out (by have h2 := els2' n x y h; rw [HN.out]; exact h2))
    rw [hB]
    clear hw3 hb3 hB k0
    refine (l04Elements_any n _ 2 2 [x, y] false _ hb rfl (by omega) HR3.out HEL.out).mono ?_
    rintro e w4 ⟨rfl, hb4⟩
    have HB4 := hide (HB3.out.trans (hb4.mono HB3.out.size))
    have HK4 := hide (HK3.out.later hb4)
    clear hb4
    go_wp2_with fail
    go_ret2
    exact ⟨_, _, rfl, HB4.out, .inl ⟨rfl, rfl⟩⟩
  · have hk2 : k = 0 := by rw [← hk]; rfl
    clear hk h12
    subst hk2
    have HRK : Hid (RkRes f false) := hide (by unfold RkRes; simp [hp])
    have HP := hide hp
    clear hn hbs hr hp
    go_enter Try.func27, Try.ntmps27
    go_wp2_with fail
    refine (isRackS _ _ _ f false _ HN.out hb HBS.out (HRD.out.later HB0.out) HRK.out).mono ?_
    rintro e w1 ⟨rfl, hb1⟩
    have HB1 := hide (HB0.out.trans (hb1.mono HB0.out.size))
    have HK1 := hide (HK0.out.later hb1)
    clear hb1
    go_wp2_with fail
    go_ret2
    exact ⟨_, _, rfl, HB1.out, .inl ⟨rfl, rfl⟩⟩
end Go.Proofs.Ytaejgmdeiemhcab
