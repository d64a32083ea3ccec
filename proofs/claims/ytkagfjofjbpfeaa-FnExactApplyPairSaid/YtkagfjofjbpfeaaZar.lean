import Derived.Test.YtkagfjofjbpfeaaZah
import Derived.Test.YtkagfjofjbpfeaaZai
import Derived.Test.YtkagfjofjbpfeaaZab
import Derived.Test.YtkagfjofjbpfeaaZae
import Derived.Test.YtkagfjofjbpfeaaZb
import Derived.Test.YtkagfjofjbpfeaaZc
namespace Go.Proofs.Ytkagfjofjbpfeaa
open Go Go.RowKit
set_option maxHeartbeats 1000000

theorem appI_any (A : Option Addr) (n c : Nat) (f : List (List Int)) (B : Option Addr) (m d : Nat) (s : List (List Int)) (x y : Int) (u v code : Int) (w : World) (hz : ZArg 1048576 w A n f B m s) (hxlo : -9223372036854775808 ≤ x) (hxhi : x ≤ 9223372036854775807) (hylo : -9223372036854775808 ≤ y) (hyhi : y ≤ 9223372036854775807) (hr : AppRes f s x y u v code) :
    Calls Try.prog 55 #[.agg #[.slice A n c, .slice B m d], .int .i64 x, .int .i64 y] w fun e w' => e = .returned (.tuple #[.int .i64 u, .int .i64 v, .int .i64 code]) ∧ Below w.heap.size w w' := by
  have hnb := hz.sz.nb
  have HZ := hide hz
  have HB0 := hide ((Below.refl _ w).alloc (Nat.le_refl _) (Obj.cells #[Value.slice A n c, Value.slice B m d] 44))
  have HK0 := hide (Blk.new w 44 [.slice A n c, .slice B m d])
  have hfl := hz.sz.fl
  rcases hr with ⟨hp, hx, hy, rfl, rfl, rfl⟩ | ⟨hp, hr, rfl, rfl, rfl⟩ | ⟨hp, rfl, rfl, rfl⟩
  · obtain ⟨i, rfl⟩ := Int.eq_ofNat_of_zero_le hx.1
    obtain ⟨j, rfl⟩ := Int.eq_ofNat_of_zero_le hy.1
    rw [Int.toNat_natCast, Int.toNat_natCast]
    have hi : i < n := by omega
    have hj : j < n := by omega
    have HP := hide hp
    clear hp hx hy hz hfl
    go_enter Try.func55, Try.ntmps55
    go_wp2_with fail
    refine (mapI_any _ _ _ f _ _ _ s true _ (HZ.out.later HB0.out) (by simp [HP.out])).mono ?_
    rintro e w1 ⟨rfl, hb1⟩
    have HB1 := hide (HB0.out.trans (hb1.mono HB0.out.size))
    have HK1 := hide (HK0.out.later hb1)
    have k0 := HK1.out.cell 0 _ rfl
    have k1 := HK1.out.cell 1 _ rfl
    clear hb1
    go_wp2_with fail
    all_goals
      refine (size_any _ _ _ _ _ _ _ hnb).mono ?_
      rintro e w2 ⟨rfl, hb2⟩
      have HB2 := hide (HB1.out.trans (hb2.mono HB1.out.size))
      have HK2 := hide (HK1.out.later hb2)
      have k0 := HK2.out.cell 0 _ rfl
      have k1 := HK2.out.cell 1 _ rfl
      clear hb2
      go_wp2_with fail
      refine (lead_any _ _ _ f _ _ _ s i j _ (HZ.out.later HB2.out) HP.out hi hj).mono ?_
      rintro e w3 ⟨rfl, hb3⟩
      have HB3 := hide (HB2.out.trans (hb3.mono HB2.out.size))
      clear hb3
      go_wp2_with fail
      first
        | (go_ret3; exact ⟨rfl, HB3.out.alloc HB3.out.size _⟩)
        | (go_region; all_goals (go_wp2_with fail; go_ret3; exact ⟨rfl, (HB3.out.alloc HB3.out.size _).drew⟩))
  · have HP := hide hp
    have hno : ¬ (0 ≤ x ∧ x < (n : Int) ∧ 0 ≤ y ∧ y < (n : Int)) := fun h => hr ⟨⟨h.1, by omega⟩, h.2.2.1, by omega⟩
    have HNO := hide hno
    clear hp hr hz hfl hno
    by_cases hlo : x < 0 ∨ y < 0
    · go_enter Try.func55, Try.ntmps55
      go_wp2_with fail
      refine (mapI_any _ _ _ f _ _ _ s true _ (HZ.out.later HB0.out) (by simp [HP.out])).mono ?_
      rintro e w1 ⟨rfl, hb1⟩
      have HB1 := hide (HB0.out.trans (hb1.mono HB0.out.size))
      clear hb1
      go_wp2_with fail
      all_goals (go_ret3; exact ⟨rfl, HB1.out⟩)
    · have hlo1 : 0 ≤ x := by omega
      have hlo2 : 0 ≤ y := by omega
      clear hlo
      go_enter Try.func55, Try.ntmps55
      go_wp2_with fail
      refine (mapI_any _ _ _ f _ _ _ s true _ (HZ.out.later HB0.out) (by simp [HP.out])).mono ?_
      rintro e w1 ⟨rfl, hb1⟩
      have HB1 := hide (HB0.out.trans (hb1.mono HB0.out.size))
      have HK1 := hide (HK0.out.later hb1)
      have k0 := HK1.out.cell 0 _ rfl
      have k1 := HK1.out.cell 1 _ rfl
      clear hb1
      go_wp2_with fail
      all_goals
        refine (size_any _ _ _ _ _ _ _ hnb).mono ?_
        rintro e w2 ⟨rfl, hb2⟩
        have HB2 := hide (HB1.out.trans (hb2.mono HB1.out.size))
        clear hb2
        have hno := HNO.out
        have hno2 : ¬ (x < (n : Int) ∧ y < (n : Int)) := fun h => hno ⟨hlo1, h.1, hlo2, h.2⟩
        clear hno
        go_wp2_with fail
        first
          | (go_ret3; exact ⟨rfl, HB2.out⟩)
          | (go_goals; sorry)
  · have HP := hide hp
    clear hp hz hfl
    go_enter Try.func55, Try.ntmps55
    go_wp2_with fail
    refine (mapI_any _ _ _ f _ _ _ s false _ (HZ.out.later HB0.out) (by simp [HP.out])).mono ?_
    rintro e w1 ⟨rfl, hb1⟩
    have HB1 := hide (HB0.out.trans (hb1.mono HB0.out.size))
    clear hb1
    go_wp2_with fail
    go_ret3
    exact ⟨rfl, HB1.out⟩
end Go.Proofs.Ytkagfjofjbpfeaa
namespace Go.Proofs.Ytkagfjofjbpfeaa
open Go Go.RowKit
set_option maxHeartbeats 1000000

theorem appS_any (A : Option Addr) (n c : Nat) (f : List (List Int)) (B : Option Addr) (m d : Nat) (s : List (List Int)) (x y : Int) (u v code : Int) (w : World) (hz : ZArg 1048576 w A n f B m s) (hxlo : -9223372036854775808 ≤ x) (hxhi : x ≤ 9223372036854775807) (hylo : -9223372036854775808 ≤ y) (hyhi : y ≤ 9223372036854775807) (hr : AppRes f s x y u v code) :
    Calls Try.prog 54 #[.agg #[.slice A n c, .slice B m d], .int .i64 x, .int .i64 y] w fun e w' => e = .returned (.tuple #[.int .i64 u, .int .i64 v, .int .i64 code]) ∧ Below w.heap.size w w' := by
  have hnb := hz.sz.nb
  have HZ := hide hz
  have HB0 := hide ((Below.refl _ w).alloc (Nat.le_refl _) (Obj.cells #[Value.slice A n c, Value.slice B m d] 44))
  have HK0 := hide (Blk.new w 44 [.slice A n c, .slice B m d])
  have hfl := hz.sz.fl
  rcases hr with ⟨hp, hx, hy, rfl, rfl, rfl⟩ | ⟨hp, hr, rfl, rfl, rfl⟩ | ⟨hp, rfl, rfl, rfl⟩
  · obtain ⟨i, rfl⟩ := Int.eq_ofNat_of_zero_le hx.1
    obtain ⟨j, rfl⟩ := Int.eq_ofNat_of_zero_le hy.1
    rw [Int.toNat_natCast, Int.toNat_natCast]
    have hi : i < n := by omega
    have hj : j < n := by omega
    have HP := hide hp
    clear hp hx hy hz hfl
    go_enter Try.func54, Try.ntmps54
    go_wp2_with fail
    refine (mapS_any _ _ _ f _ _ _ s true _ (HZ.out.later HB0.out) (by simp [HP.out])).mono ?_
    rintro e w1 ⟨rfl, hb1⟩
    have HB1 := hide (HB0.out.trans (hb1.mono HB0.out.size))
    have HK1 := hide (HK0.out.later hb1)
    have k0 := HK1.out.cell 0 _ rfl
    have k1 := HK1.out.cell 1 _ rfl
    clear hb1
    go_wp2_with fail
    refine (in_any _ _ _ true _ (by simp; omega)).mono ?_
    rintro e w2 ⟨rfl, hq2⟩
    have HB2 := hide (HB1.out.trans (hq2.below _))
    have HK2 := hide (HK1.out.later (hq2.below _))
    have k0 := HK2.out.cell 0 _ rfl
    have k1 := HK2.out.cell 1 _ rfl
    clear hq2
    go_wp2_with fail
    refine (in_any _ _ _ true _ (by simp; omega)).mono ?_
    rintro e w3 ⟨rfl, hq3⟩
    have HB3 := hide (HB2.out.trans (hq3.below _))
    have HK3 := hide (HK2.out.later (hq3.below _))
    have k0 := HK3.out.cell 0 _ rfl
    have k1 := HK3.out.cell 1 _ rfl
    clear hq3
    go_wp2_with fail
    obtain ⟨b, o, b2, o2, bx, ox, cx, by', oy, cy, rfl, rfl, h1, h2, h3, h4, _, _, _, _⟩ := (HZ.out.later HB3.out).reads HP.out hi hj
    obtain rfl := HZ.out.same HP.out
    have hiz : (i : Int) < m := by omega
    have hjz : (j : Int) < m := by omega
    have hiz0 : (0 : Int) ≤ i := by omega
    have hjz0 : (0 : Int) ≤ j := by omega
    go_quiet (fail)
    go_wp2_with fail
    go_ret3
    exact ⟨rfl, bdrewN HB3.out _⟩
  · have HP := hide hp
    by_cases h1 : 0 ≤ x ∧ x < (n : Int)
    · have h2 : ¬ (0 ≤ y ∧ y < (n : Int)) := fun h => hr ⟨by rw [hfl]; exact h1, by rw [hfl]; exact h⟩
      have H1 := hide h1
      have H2 := hide h2
      clear hp hr hz hfl h1 h2
      go_enter Try.func54, Try.ntmps54
      go_wp2_with fail
      refine (mapS_any _ _ _ f _ _ _ s true _ (HZ.out.later HB0.out) (by simp [HP.out])).mono ?_
      rintro e w1 ⟨rfl, hb1⟩
      have HB1 := hide (HB0.out.trans (hb1.mono HB0.out.size))
      have HK1 := hide (HK0.out.later hb1)
      have k0 := HK1.out.cell 0 _ rfl
      clear hb1
      go_wp2_with fail
      refine (in_any _ _ _ true _ (by have := H1.out; simp; omega)).mono ?_
      rintro e w2 ⟨rfl, hq2⟩
      have HB2 := hide (HB1.out.trans (hq2.below _))
      have HK2 := hide (HK1.out.later (hq2.below _))
      have k0 := HK2.out.cell 0 _ rfl
      clear hq2
      go_wp2_with fail
      refine (in_any _ _ _ false _ (by have := H2.out; simp; omega)).mono ?_
      rintro e w3 ⟨rfl, hq3⟩
      have HB3 := hide (HB2.out.trans (hq3.below _))
      clear hq3
      go_wp2_with fail
      go_ret3
      exact ⟨rfl, HB3.out⟩
    · have H1 := hide h1
      clear hp hr hz hfl h1
      go_enter Try.func54, Try.ntmps54
      go_wp2_with fail
      refine (mapS_any _ _ _ f _ _ _ s true _ (HZ.out.later HB0.out) (by simp [HP.out])).mono ?_
      rintro e w1 ⟨rfl, hb1⟩
      have HB1 := hide (HB0.out.trans (hb1.mono HB0.out.size))
      have HK1 := hide (HK0.out.later hb1)
      have k0 := HK1.out.cell 0 _ rfl
      clear hb1
      go_wp2_with fail
      refine (in_any _ _ _ false _ (by have := H1.out; simp; omega)).mono ?_
      rintro e w2 ⟨rfl, hq2⟩
      have HB2 := hide (HB1.out.trans (hq2.below _))
      clear hq2
      go_wp2_with fail
      go_ret3
      exact ⟨rfl, HB2.out⟩
  · have HP := hide hp
    clear hp hz hfl
    go_enter Try.func54, Try.ntmps54
    go_wp2_with fail
    refine (mapS_any _ _ _ f _ _ _ s false _ (HZ.out.later HB0.out) (by simp [HP.out])).mono ?_
    rintro e w1 ⟨rfl, hb1⟩
    have HB1 := hide (HB0.out.trans (hb1.mono HB0.out.size))
    clear hb1
    go_wp2_with fail
    go_ret3
    exact ⟨rfl, HB1.out⟩
end Go.Proofs.Ytkagfjofjbpfeaa
