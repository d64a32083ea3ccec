import Derived.Test.YtaejgmdeiemhcabZbf
import Derived.Test.YtaejgmdeiemhcabZbg
import Derived.Test.YtaejgmdeiemhcabZbe
import Derived.Test.YtaejgmdeiemhcabZu
import Derived.Test.YtaejgmdeiemhcabZas
namespace Go.Proofs.Ytaejgmdeiemhcab
open Go Go.RowKit
open Classical
set_option maxHeartbeats 1000000
set_option maxRecDepth 100000 in
theorem bwI_any (A : Option Addr) (n c : Nat) (f : List (List Int)) (B : Option Addr) (m d : Nat) (s : List (List Int)) (x y : Int) (zs : List Int) (code : Int) (kz : Nat) (w : World) (hz : ZArg 1048576 w A n f B m s) (_hx0 : -9223372036854775808 ≤ x) (_hx1 : x ≤ 9223372036854775807) (_hy0 : -9223372036854775808 ≤ y) (_hy1 : y ≤ 9223372036854775807) (hr : BkRes7 f s x y zs code) (hk : zs.length = kz) :
    Calls Try.prog 18 #[.agg #[.slice A n c, .slice B m d], .int .i64 x, .int .i64 y] w (RPost 2 kz zs code w) := by
  have HZ := hide hz
  have HB0 := hide ((Below.refl _ w).alloc (Nat.le_refl _) (Obj.cells #[Value.slice A n c, Value.slice B m d] 35))
  have HK0 := hide (Blk.new w 35 [.slice A n c, .slice B m d])
  rcases hr with ⟨hg, hin, ho, rfl, rfl⟩ | ⟨hg, hin, ho, rfl, rfl⟩ | ⟨hg, hin, rfl, rfl⟩ | ⟨hg, rfl, rfl⟩
  · skip
    obtain rfl := hz.same hg.map
    have hk2 : kz = m := by rw [← hk, blL_length]; exact hz.sz.fl
    subst hk2
    clear hk
    have h1 := (hg.sizes hz.sz.fl).1
    have h12 := (hg.sizes hz.sz.fl).2.1
    have hfn := hz.sz.fl
    rw [hfn] at hin
    have HG := hide hg
    have HFN := hide hfn
    have HO := hide ho
    clear ho
    clear hg hz hfn
    go_enter Try.func18, Try.ntmps18
    go_wp2_with fail
    refine (nd7I _ _ _ f _ _ _ s true _ (HZ.out.later HB0.out) (by simp [HG.out])).mono ?_
    rintro e w1 ⟨rfl, hb1⟩
    have HB1 := hide (HB0.out.trans (hb1.mono HB0.out.size))
    have HK1 := hide (HK0.out.later hb1)
    clear hb1
    have k0 := HK1.out.cell 0 _ rfl
    have k1 := HK1.out.cell 1 _ rfl
    have hne : (x == y) = false := by simpa using hin.2
    go_wp2_with fail
    refine (size_any _ _ _ _ _ _ _ (by omega)).mono ?_
    rintro e w2 ⟨rfl, hb2⟩
    have HB2 := hide (HB1.out.trans (hb2.mono HB1.out.size))
    have HK2 := hide (HK1.out.later hb2)
    clear hb2 k0 k1
    go_wp2_with fail
    refine calls_gen fun w3 hw3 => ?_
    obtain ⟨Bk, hB⟩ : ∃ B, w2.heap.size = B := ⟨_, rfl⟩
    have hb3 : Below w2.heap.size w2 w3 := by rw [hw3]; exact (Below.refl _ _).alloc (Nat.le_refl _) _
    have HR3 : Hid (Rd w3 (some ⟨Bk, 0, none⟩) [x, y]) := hide (by rw [hw3, ← hB]; exact rd_two _ _ _ _)
    have HB3 := hide (HB2.out.trans (hb3.mono HB2.out.size))
    have HK3 := hide (HK2.out.later hb3)
    have HEL : Hid (true = true ↔ ∀ j, j < 2 → 0 ≤ [x, y].getD j 0 ∧ [x, y].getD j 0 < (kz : Int)) := hide (by simp only [true_iff]; exact els2 kz x y hin.1)
    rw [hB]
    clear hw3 hb3 hB
    refine (els_any kz _ 2 2 [x, y] true _ rfl (by omega) HR3.out HEL.out).mono ?_
    rintro e w4 ⟨rfl, hq4⟩
    have HB4 := hide (HB3.out.trans (hq4.below _))
    have HK4 := hide (HK3.out.later (hq4.below _))
    clear hq4
    have k0 := HK4.out.cell 0 _ rfl
    have k1 := HK4.out.cell 1 _ rfl
    go_wp2_with fail
    refine (indZ_any _ _ _ f _ _ s true _ (HZ.out.later HB4.out) HG.out (by simp [HO.out])).mono ?_
    rintro e w5 ⟨rfl, hb5⟩
    have HB5 := hide (HB4.out.trans (hb5.mono HB4.out.size))
    have HK5 := hide (HK4.out.later hb5)
    clear hb5 k0 k1
    have k0 := HK5.out.cell 0 _ rfl
    have k1 := HK5.out.cell 1 _ rfl
    obtain ⟨a, ha⟩ : ∃ a : Nat, x = (a : Int) := ⟨x.toNat, by have := hin.1.1.1; omega⟩
    obtain ⟨b, hb⟩ : ∃ b : Nat, y = (b : Int) := ⟨y.toNat, by have := hin.1.2.1; omega⟩
    subst ha hb
    have hax : a < kz := by have h := hin.1.1.2; omega
    have hby : b < kz := by have h := hin.1.2.2; omega
    go_wp2_with fail
    refine (bsI_any _ _ _ f _ _ s a b _ (HZ.out.later HB5.out) HG.out hax hby).mono ?_
    rintro e w6 ⟨g, c', rfl, hb6, hg6, ho6⟩
    have HB6 := hide (HB5.out.trans (hb6.mono HB5.out.size))
    have HO6 := hide ho6
    have hgw : w.heap.size ≤ g := Nat.le_trans HB5.out.size hg6
    clear hb6 ho6 hg6 k0 k1
    go_wp2_with fail
    go_ret2
    exact ⟨_, _, rfl, HB6.out, .inr ⟨g, rfl, hgw, by simpa using HO6.out⟩⟩
  · skip
    obtain rfl := hz.same hg.map
    have hk2 : kz = 0 := by rw [← hk]; rfl
    subst hk2
    clear hk
    have h1 := (hg.sizes hz.sz.fl).1
    have h12 := (hg.sizes hz.sz.fl).2.1
    have hfn := hz.sz.fl
    rw [hfn] at hin
    have HG := hide hg
    have HFN := hide hfn
    have HO := hide ho
    clear ho
    clear hg hz hfn
    go_enter Try.func18, Try.ntmps18
    go_wp2_with fail
    refine (nd7I _ _ _ f _ _ _ s true _ (HZ.out.later HB0.out) (by simp [HG.out])).mono ?_
    rintro e w1 ⟨rfl, hb1⟩
    have HB1 := hide (HB0.out.trans (hb1.mono HB0.out.size))
    have HK1 := hide (HK0.out.later hb1)
    clear hb1
    have k0 := HK1.out.cell 0 _ rfl
    have k1 := HK1.out.cell 1 _ rfl
    have hne : (x == y) = false := by simpa using hin.2
    go_wp2_with fail
    refine (size_any _ _ _ _ _ _ _ (by omega)).mono ?_
    rintro e w2 ⟨rfl, hb2⟩
    have HB2 := hide (HB1.out.trans (hb2.mono HB1.out.size))
    have HK2 := hide (HK1.out.later hb2)
    clear hb2 k0 k1
    go_wp2_with fail
    refine calls_gen fun w3 hw3 => ?_
    obtain ⟨Bk, hB⟩ : ∃ B, w2.heap.size = B := ⟨_, rfl⟩
    have hb3 : Below w2.heap.size w2 w3 := by rw [hw3]; exact (Below.refl _ _).alloc (Nat.le_refl _) _
    have HR3 : Hid (Rd w3 (some ⟨Bk, 0, none⟩) [x, y]) := hide (by rw [hw3, ← hB]; exact rd_two _ _ _ _)
    have HB3 := hide (HB2.out.trans (hb3.mono HB2.out.size))
    have HK3 := hide (HK2.out.later hb3)
    have HEL : Hid (true = true ↔ ∀ j, j < 2 → 0 ≤ [x, y].getD j 0 ∧ [x, y].getD j 0 < (m : Int)) := hide (by simp only [true_iff]; exact els2 m x y hin.1)
    rw [hB]
    clear hw3 hb3 hB
    refine (els_any m _ 2 2 [x, y] true _ rfl (by omega) HR3.out HEL.out).mono ?_
    rintro e w4 ⟨rfl, hq4⟩
    have HB4 := hide (HB3.out.trans (hq4.below _))
    have HK4 := hide (HK3.out.later (hq4.below _))
    clear hq4
    have k0 := HK4.out.cell 0 _ rfl
    have k1 := HK4.out.cell 1 _ rfl
    go_wp2_with fail
    refine (indZ_any _ _ _ f _ _ s false _ (HZ.out.later HB4.out) HG.out (by simp [HO.out])).mono ?_
    rintro e w5 ⟨rfl, hb5⟩
    have HB5 := hide (HB4.out.trans (hb5.mono HB4.out.size))
    have HK5 := hide (HK4.out.later hb5)
    clear hb5 k0 k1
    go_wp2_with fail
    go_ret2
    exact ⟨_, _, rfl, HB5.out, .inl ⟨rfl, rfl⟩⟩
  · skip
    obtain rfl := hz.same hg.map
    have hk2 : kz = 0 := by rw [← hk]; rfl
    subst hk2
    clear hk
    have h1 := (hg.sizes hz.sz.fl).1
    have h12 := (hg.sizes hz.sz.fl).2.1
    have hfn := hz.sz.fl
    rw [hfn] at hin
    have HG := hide hg
    have HFN := hide hfn
    clear hg hz hfn
    go_enter Try.func18, Try.ntmps18
    go_wp2_with fail
    refine (nd7I _ _ _ f _ _ _ s true _ (HZ.out.later HB0.out) (by simp [HG.out])).mono ?_
    rintro e w1 ⟨rfl, hb1⟩
    have HB1 := hide (HB0.out.trans (hb1.mono HB0.out.size))
    have HK1 := hide (HK0.out.later hb1)
    clear hb1
    have k0 := HK1.out.cell 0 _ rfl
    have k1 := HK1.out.cell 1 _ rfl
    by_cases hni : (0 ≤ x ∧ x < (m : Int)) ∧ (0 ≤ y ∧ y < (m : Int))
    · skip
      have hin2 := hni
      have hq : (x == y) = true := by
        have : x = y := Classical.byContradiction fun h => hin ⟨hni, h⟩
        simpa using this
      go_wp2_with fail
      refine (size_any _ _ _ _ _ _ _ (by omega)).mono ?_
      rintro e w2 ⟨rfl, hb2⟩
      have HB2 := hide (HB1.out.trans (hb2.mono HB1.out.size))
      have HK2 := hide (HK1.out.later hb2)
      clear hb2 k0 k1
      go_wp2_with fail
      refine calls_gen fun w3 hw3 => ?_
      obtain ⟨Bk, hB⟩ : ∃ B, w2.heap.size = B := ⟨_, rfl⟩
      have hb3 : Below w2.heap.size w2 w3 := by rw [hw3]; exact (Below.refl _ _).alloc (Nat.le_refl _) _
      have HR3 : Hid (Rd w3 (some ⟨Bk, 0, none⟩) [x, y]) := hide (by rw [hw3, ← hB]; exact rd_two _ _ _ _)
      have HB3 := hide (HB2.out.trans (hb3.mono HB2.out.size))
      have HK3 := hide (HK2.out.later hb3)
      have HEL : Hid (true = true ↔ ∀ j, j < 2 → 0 ≤ [x, y].getD j 0 ∧ [x, y].getD j 0 < (m : Int)) := hide (by simp only [true_iff]; exact els2 m x y hni)
      rw [hB]
      clear hw3 hb3 hB
      refine (els_any m _ 2 2 [x, y] true _ rfl (by omega) HR3.out HEL.out).mono ?_
      rintro e w4 ⟨rfl, hq4⟩
      have HB4 := hide (HB3.out.trans (hq4.below _))
      have HK4 := hide (HK3.out.later (hq4.below _))
      clear hq4
      go_wp2_with fail
      go_ret2
      exact ⟨_, _, rfl, HB4.out, .inl ⟨rfl, rfl⟩⟩
    · skip
      go_wp2_with fail
      refine (size_any _ _ _ _ _ _ _ (by omega)).mono ?_
      rintro e w2 ⟨rfl, hb2⟩
      have HB2 := hide (HB1.out.trans (hb2.mono HB1.out.size))
      have HK2 := hide (HK1.out.later hb2)
      clear hb2 k0 k1
      go_wp2_with fail
      refine calls_gen fun w3 hw3 => ?_
      obtain ⟨Bk, hB⟩ : ∃ B, w2.heap.size = B := ⟨_, rfl⟩
      have hb3 : Below w2.heap.size w2 w3 := by rw [hw3]; exact (Below.refl _ _).alloc (Nat.le_refl _) _
      have HR3 : Hid (Rd w3 (some ⟨Bk, 0, none⟩) [x, y]) := hide (by rw [hw3, ← hB]; exact rd_two _ _ _ _)
      have HB3 := hide (HB2.out.trans (hb3.mono HB2.out.size))
      have HK3 := hide (HK2.out.later hb3)
      have HEL : Hid (false = true ↔ ∀ j, j < 2 → 0 ≤ [x, y].getD j 0 ∧ [x, y].getD j 0 < (m : Int)) := hide (by simp only [Bool.false_eq_true, false_iff]; exact fun h => hni (els2' m x y h))
      rw [hB]
      clear hw3 hb3 hB
      refine (els_any m _ 2 2 [x, y] false _ rfl (by omega) HR3.out HEL.out).mono ?_
      rintro e w4 ⟨rfl, hq4⟩
      have HB4 := hide (HB3.out.trans (hq4.below _))
      have HK4 := hide (HK3.out.later (hq4.below _))
      clear hq4
      go_wp2_with fail
      go_ret2
      exact ⟨_, _, rfl, HB4.out, .inl ⟨rfl, rfl⟩⟩
  · have hk2 : kz = 0 := by rw [← hk]; rfl
    subst hk2
    clear hk
    have HG := hide hg
    clear hg hz
    go_enter Try.func18, Try.ntmps18
    go_wp2_with fail
    refine (nd7I _ _ _ f _ _ _ s false _ (HZ.out.later HB0.out) (by simp [HG.out])).mono ?_
    rintro e w1 ⟨rfl, hb1⟩
    have HB1 := hide (HB0.out.trans (hb1.mono HB0.out.size))
    clear hb1
    go_wp2_with fail
    go_ret2
    exact ⟨_, _, rfl, HB1.out, .inl ⟨rfl, rfl⟩⟩
end Go.Proofs.Ytaejgmdeiemhcab
