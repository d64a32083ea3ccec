import Derived.Test.YtaejgmdeiemhcabZbf
import Derived.Test.YtaejgmdeiemhcabZbe
import Derived.Test.YtaejgmdeiemhcabZb
namespace Go.Proofs.Ytaejgmdeiemhcab
open Go Go.RowKit
open Classical
set_option maxHeartbeats 1000000
set_option maxRecDepth 100000 in
theorem bwS_any (A : Option Addr) (n c : Nat) (f : List (List Int)) (B : Option Addr) (m d : Nat) (s : List (List Int)) (x y : Int) (zs : List Int) (code : Int) (kz : Nat) (w : World) (hz : ZArg 1048576 w A n f B m s) (_hx0 : -9223372036854775808 ≤ x) (_hx1 : x ≤ 9223372036854775807) (_hy0 : -9223372036854775808 ≤ y) (_hy1 : y ≤ 9223372036854775807) (hr : BkRes7 f s x y zs code) (hk : zs.length = kz) :
    Calls Try.prog 16 #[.agg #[.slice A n c, .slice B m d], .int .i64 x, .int .i64 y] w (RPost 2 kz zs code w) := by
  have HZ := hide hz
  have HB0 := hide ((Below.refl _ w).alloc (Nat.le_refl _) (Obj.cells #[Value.slice A n c, Value.slice B m d] 35))
  have HK0 := hide (Blk.new w 35 [.slice A n c, .slice B m d])
  rcases hr with ⟨hg, hin, ho, rfl, rfl⟩ | ⟨hg, hin, ho, rfl, rfl⟩ | ⟨hg, hin, rfl, rfl⟩ | ⟨hg, rfl, rfl⟩
  · skip
    obtain rfl := hz.same hg.map
    have hk2 : kz = m := by rw [← hk, blL_length]; exact hz.sz.fl
    subst hk2
    clear hk
    have h1 := (hg.sizes hz.sz.fl).1
    have h12 := (hg.sizes hz.sz.fl).2.1
    have hfn := hz.sz.fl
    rw [hfn] at hin
    have HG := hide hg
    have HFN := hide hfn
    have HO := hide ho
    clear ho
    clear hg hz hfn
    go_enter Try.func16, Try.ntmps16
    go_wp2_with fail
    refine (nd7S _ _ _ f _ _ _ s true _ (HZ.out.later HB0.out) (by simp [HG.out])).mono ?_
    rintro e w1 ⟨rfl, hb1⟩
    have HB1 := hide (HB0.out.trans (hb1.mono HB0.out.size))
    have HK1 := hide (HK0.out.later hb1)
    clear hb1
    have k0 := HK1.out.cell 0 _ rfl
    have k1 := HK1.out.cell 1 _ rfl
    have hne : (x == y) = false := by simpa using hin.2
    have hx4 := hin.1.1
    have hy4 := hin.1.2
    have hnz : (kz : Int) ≤ 12 := by omega
    go_wp2_with fail
    refine (in_any x 0 ((kz : Int) - 1) true _ (by constructor <;> intro _ <;> first | rfl | omega)).mono ?_
    rintro e w2 ⟨rfl, hq4⟩
    have HB2 := hide (HB1.out.trans (hq4.below _))
    have HK2 := hide (HK1.out.later (hq4.below _))
    clear hq4
    go_wp2_with fail
    refine (in_any y 0 ((kz : Int) - 1) true _ (by constructor <;> intro _ <;> first | rfl | omega)).mono ?_
    rintro e w3 ⟨rfl, hq4⟩
    have HB3 := hide (HB2.out.trans (hq4.below _))
    have HK3 := hide (HK2.out.later (hq4.below _))
    clear hq4
    clear k0 k1
    have k0 := HK3.out.cell 0 _ rfl
    have k1 := HK3.out.cell 1 _ rfl
    go_wp2_with fail
    refine (orbS_any _ _ _ f _ _ s _ (HZ.out.later HB3.out) HG.out).mono ?_
    rintro e w4 ⟨A4, c4, rfl, hb4, hobj⟩
    have HB4 := hide (HB3.out.trans (hb4.mono HB3.out.size))
    have HK4 := hide (HK3.out.later hb4)
    have HO4 := hide hobj
    clear hb4 hobj k0 k1
    go_wp2_with fail
    refine (greatest_any _ _ _ (orbS f s) (orbN f s : Int) _ (by rw [orbS_length]; exact HZ.out.sz.fl) (by omega) HO4.out.rd (orb_12 HG.out HZ.out.sz.fl) (orb_great HG.out HZ.out.sz.fl)).mono ?_
    rintro e w5 ⟨rfl, hq5⟩
    have HB5 := hide (HB4.out.trans (hq5.below _))
    have HK5 := hide (HK4.out.later (hq5.below _))
    have hpos := orb_pos HG.out
    obtain ⟨q, hq⟩ : ∃ q, orbN f s = q := ⟨_, rfl⟩
    have hq1 : q = 1 := by rw [← hq]; exact HO.out
    rw [hq] at hpos ⊢
    have hdec : decide ((q : Int) > 1) = false := by simp; omega
    have hdec2 : decide ((1 : Int) < (q : Int)) = false := hdec
    clear hq5 hq
    have k0 := HK5.out.cell 0 _ rfl
    have k1 := HK5.out.cell 1 _ rfl
    obtain ⟨a, ha⟩ : ∃ a : Nat, x = (a : Int) := ⟨x.toNat, by have := hin.1.1.1; omega⟩
    obtain ⟨b, hb⟩ : ∃ b : Nat, y = (b : Int) := ⟨y.toNat, by have := hin.1.2.1; omega⟩
    subst ha hb
    have hax : a < kz := by have h := hin.1.1.2; omega
    have hby : b < kz := by have h := hin.1.2.2; omega
    go_wp2_with fail
    refine (blS_any _ _ _ f _ _ s a b _ (HZ.out.later HB5.out) HG.out hax hby).mono ?_
    rintro e w6 ⟨A6, c6, rfl, hb6, hres6⟩
    have HB6 := hide (HB5.out.trans (hb6.mono HB5.out.size))
    have HO6 := hide (hres6.mono HB5.out.size)
    clear hb6 hres6 k0 k1
    go_wp2_with fail
    go_ret2
    exact ⟨_, _, rfl, HB6.out, by simpa using HO6.out⟩
  · skip
    obtain rfl := hz.same hg.map
    have hk2 : kz = 0 := by rw [← hk]; rfl
    subst hk2
    clear hk
    have h1 := (hg.sizes hz.sz.fl).1
    have h12 := (hg.sizes hz.sz.fl).2.1
    have hfn := hz.sz.fl
    rw [hfn] at hin
    have HG := hide hg
    have HFN := hide hfn
    have HO := hide ho
    clear ho
    clear hg hz hfn
    go_enter Try.func16, Try.ntmps16
    go_wp2_with fail
    refine (nd7S _ _ _ f _ _ _ s true _ (HZ.out.later HB0.out) (by simp [HG.out])).mono ?_
    rintro e w1 ⟨rfl, hb1⟩
    have HB1 := hide (HB0.out.trans (hb1.mono HB0.out.size))
    have HK1 := hide (HK0.out.later hb1)
    clear hb1
    have k0 := HK1.out.cell 0 _ rfl
    have k1 := HK1.out.cell 1 _ rfl
    have hne : (x == y) = false := by simpa using hin.2
    have hx4 := hin.1.1
    have hy4 := hin.1.2
    have hnz : (m : Int) ≤ 12 := by omega
    go_wp2_with fail
    refine (in_any x 0 ((m : Int) - 1) true _ (by constructor <;> intro _ <;> first | rfl | omega)).mono ?_
    rintro e w2 ⟨rfl, hq4⟩
    have HB2 := hide (HB1.out.trans (hq4.below _))
    have HK2 := hide (HK1.out.later (hq4.below _))
    clear hq4
    go_wp2_with fail
    refine (in_any y 0 ((m : Int) - 1) true _ (by constructor <;> intro _ <;> first | rfl | omega)).mono ?_
    rintro e w3 ⟨rfl, hq4⟩
    have HB3 := hide (HB2.out.trans (hq4.below _))
    have HK3 := hide (HK2.out.later (hq4.below _))
    clear hq4
    clear k0 k1
    have k0 := HK3.out.cell 0 _ rfl
    have k1 := HK3.out.cell 1 _ rfl
    go_wp2_with fail
    refine (orbS_any _ _ _ f _ _ s _ (HZ.out.later HB3.out) HG.out).mono ?_
    rintro e w4 ⟨A4, c4, rfl, hb4, hobj⟩
    have HB4 := hide (HB3.out.trans (hb4.mono HB3.out.size))
    have HK4 := hide (HK3.out.later hb4)
    have HO4 := hide hobj
    clear hb4 hobj k0 k1
    go_wp2_with fail
    refine (greatest_any _ _ _ (orbS f s) (orbN f s : Int) _ (by rw [orbS_length]; exact HZ.out.sz.fl) (by omega) HO4.out.rd (orb_12 HG.out HZ.out.sz.fl) (orb_great HG.out HZ.out.sz.fl)).mono ?_
    rintro e w5 ⟨rfl, hq5⟩
    have HB5 := hide (HB4.out.trans (hq5.below _))
    have HK5 := hide (HK4.out.later (hq5.below _))
    have hpos := orb_pos HG.out
    obtain ⟨q, hq⟩ : ∃ q, orbN f s = q := ⟨_, rfl⟩
    have hq1 : q ≠ 1 := by rw [← hq]; exact HO.out
    rw [hq] at hpos ⊢
    have hdec : decide ((q : Int) > 1) = true := by simp; omega
    have hdec2 : decide ((1 : Int) < (q : Int)) = true := hdec
    clear hq5 hq
    go_wp2_with fail
    go_ret2
    exact ⟨_, _, rfl, HB5.out, .inl ⟨rfl, rfl⟩⟩
  · skip
    obtain rfl := hz.same hg.map
    have hk2 : kz = 0 := by rw [← hk]; rfl
    subst hk2
    clear hk
    have h1 := (hg.sizes hz.sz.fl).1
    have h12 := (hg.sizes hz.sz.fl).2.1
    have hfn := hz.sz.fl
    rw [hfn] at hin
    have HG := hide hg
    have HFN := hide hfn
    clear hg hz hfn
    go_enter Try.func16, Try.ntmps16
    go_wp2_with fail
    refine (nd7S _ _ _ f _ _ _ s true _ (HZ.out.later HB0.out) (by simp [HG.out])).mono ?_
    rintro e w1 ⟨rfl, hb1⟩
    have HB1 := hide (HB0.out.trans (hb1.mono HB0.out.size))
    have HK1 := hide (HK0.out.later hb1)
    clear hb1
    have k0 := HK1.out.cell 0 _ rfl
    have k1 := HK1.out.cell 1 _ rfl
    have hnz : (m : Int) ≤ 12 := by omega
    by_cases hnx : 0 ≤ x ∧ x < (m : Int)
    · by_cases hny : 0 ≤ y ∧ y < (m : Int)
      · skip
        have hq : (x == y) = true := by
          have : x = y := Classical.byContradiction fun h => hin ⟨⟨hnx, hny⟩, h⟩
          simpa using this
        go_wp2_with fail
        refine (in_any x 0 ((m : Int) - 1) true _ (by constructor <;> intro _ <;> first | rfl | omega)).mono ?_
        rintro e w2 ⟨rfl, hq4⟩
        have HB2 := hide (HB1.out.trans (hq4.below _))
        have HK2 := hide (HK1.out.later (hq4.below _))
        clear hq4
        go_wp2_with fail
        refine (in_any y 0 ((m : Int) - 1) true _ (by constructor <;> intro _ <;> first | rfl | omega)).mono ?_
        rintro e w3 ⟨rfl, hq4⟩
        have HB3 := hide (HB2.out.trans (hq4.below _))
        have HK3 := hide (HK2.out.later (hq4.below _))
        clear hq4
        go_wp2_with fail
        go_ret2
        exact ⟨_, _, rfl, HB3.out, .inl ⟨rfl, rfl⟩⟩
      · skip
        go_wp2_with fail
        refine (in_any x 0 ((m : Int) - 1) true _ (by constructor <;> intro _ <;> first | rfl | omega)).mono ?_
        rintro e w2 ⟨rfl, hq4⟩
        have HB2 := hide (HB1.out.trans (hq4.below _))
        have HK2 := hide (HK1.out.later (hq4.below _))
        clear hq4
        go_wp2_with fail
        refine (in_any y 0 ((m : Int) - 1) false _ (by simp only [Bool.false_eq_true, false_iff]; omega)).mono ?_
        rintro e w3 ⟨rfl, hq4⟩
        have HB3 := hide (HB2.out.trans (hq4.below _))
        have HK3 := hide (HK2.out.later (hq4.below _))
        clear hq4
        go_wp2_with fail
        go_ret2
        exact ⟨_, _, rfl, HB3.out, .inl ⟨rfl, rfl⟩⟩
    · skip
      go_wp2_with fail
      refine (in_any x 0 ((m : Int) - 1) false _ (by simp only [Bool.false_eq_true, false_iff]; omega)).mono ?_
      rintro e w2 ⟨rfl, hq4⟩
      have HB2 := hide (HB1.out.trans (hq4.below _))
      have HK2 := hide (HK1.out.later (hq4.below _))
      clear hq4
      go_wp2_with fail
      go_ret2
      exact ⟨_, _, rfl, HB2.out, .inl ⟨rfl, rfl⟩⟩
  · have hk2 : kz = 0 := by rw [← hk]; rfl
    subst hk2
    clear hk
    have HG := hide hg
    clear hg hz
    go_enter Try.func16, Try.ntmps16
    go_wp2_with fail
    refine (nd7S _ _ _ f _ _ _ s false _ (HZ.out.later HB0.out) (by simp [HG.out])).mono ?_
    rintro e w1 ⟨rfl, hb1⟩
    have HB1 := hide (HB0.out.trans (hb1.mono HB0.out.size))
    clear hb1
    go_wp2_with fail
    go_ret2
    exact ⟨_, _, rfl, HB1.out, .inl ⟨rfl, rfl⟩⟩
end Go.Proofs.Ytaejgmdeiemhcab
