import Derived.Test.YthknnpkalhachaaZs
import Derived.Test.YthknnpkalhachaaZa
namespace Go.Proofs.Ythknnpkalhachaa
open Go Go.RowKit
set_option maxHeartbeats 1000000

theorem twiceS_any (A : Option Addr) (n c : Nat) (f : List (List Int)) (B : Option Addr) (m d : Nat) (s : List (List Int)) (r : Bool) (w : World) (hz : ZArg 1048576 w A n f B m s) (hp : PMap f s) (hr : r = true ↔ InvF f s) :
    Calls Try.prog 51 #[.agg #[.slice A n c, .slice B m d]] w fun e w' => e = .returned (.bool r) ∧ Below w.heap.size w w' := by
  have hnb := hz.sz.nb
  have HZ := hide hz
  have HB0 := hide ((Below.refl _ w).alloc (Nat.le_refl _) (Obj.cells #[Value.slice A n c, Value.slice B m d] 27))
  have HK0 := hide (Blk.new w 27 [.slice A n c, .slice B m d])
  have HFL := hide hz.sz.fl
  have HP := hide hp
  have HR := hide hr
  have h12 := hz.small hp
  obtain rfl := hz.same hp
  clear hp hr hz
  go_enter Try.func51, Try.ntmps51
  go_wp2_with fail
  go_loopw [3] (fun i wr => ∃ x : Nat, x ≤ m ∧ i = .int .i64 x ∧ Below w.heap.size w wr ∧ Blk wr w.heap.size 27 [.slice A m c, .slice B m d] ∧ ∀ a b, a < x → b < m → ap f (ap f a b) (ap s a b) = a ∧ ap s (ap f a b) (ap s a b) = b) (fun i _ => m - (intOf i).toNat)
  case atStart => exact ⟨0, Nat.zero_le _, rfl, HB0.out, HK0.out, fun a b ha => absurd ha (Nat.not_lt_zero _)⟩
  case round =>
    obtain ⟨x, hx, rfl, hbe, hkk, hall⟩ := hrel
    have HB := hide hbe
    have HK := hide hkk
    have HALL := hide hall
    clear hbe hkk hall
    have k0 := HK.out.cell 0 _ rfl
    have k1 := HK.out.cell 1 _ rfl
    by_cases hlt : x < m
    · have hxz : (x : Int) < m := by omega
      go_wp2_with fail
      clear k0 k1
      obtain ⟨wo, rfl⟩ : ∃ wo : World, wo = wr := ⟨_, rfl⟩
      go_loopw [4] (fun i wi => ∃ y : Nat, y ≤ m ∧ i = .int .i64 y ∧ Below w.heap.size w wi ∧ Blk wi w.heap.size 27 [.slice A m c, .slice B m d] ∧ ∀ b, b < y → ap f (ap f x b) (ap s x b) = x ∧ ap s (ap f x b) (ap s x b) = b) (fun i _ => m - (intOf i).toNat)
      case atStart => exact ⟨0, Nat.zero_le _, rfl, HB.out, HK.out, fun b hb => absurd hb (Nat.not_lt_zero _)⟩
      case round =>
        obtain ⟨y, hy, rfl, hbi, hki, halli⟩ := hrel
        have HBI := hide hbi
        have HKI := hide hki
        have HALLI := hide halli
        clear hbi hki halli
        have k0 := HKI.out.cell 0 _ rfl
        have k1 := HKI.out.cell 1 _ rfl
        by_cases hlty : y < m
        · have hyz : (y : Int) < m := by omega
          obtain ⟨b, o, b2, o2, bx, ox, cx, by', oy, cy, rfl, rfl, h1, h2, h3, h4, _, _, _, _⟩ := (HZ.out.later HBI.out).reads HP.out hlt hlty
          have hu := HP.out.lt1 HFL.out hlt hlty
          have hv := HP.out.lt2 HFL.out hlt hlty
          obtain ⟨u, hue⟩ : ∃ u, ap f x y = u := ⟨_, rfl⟩
          obtain ⟨v, hve⟩ : ∃ v, ap s x y = v := ⟨_, rfl⟩
          rw [hue] at h3 hu
          rw [hve] at h4 hv
          obtain ⟨b', o', b2', o2', bu, ou, cu, bv, ov, cv, e1, e2, g1, g2, g3, g4, _, _, _, _⟩ := (HZ.out.later HBI.out).reads HP.out hu hv
          injection e1 with e1
          injection e1 with e1 e3 _
          injection e2 with e2
          injection e2 with e2 e4 _
          subst e1
          subst e3
          subst e2
          subst e4
          obtain ⟨u2, hue2⟩ : ∃ u2, ap f u v = u2 := ⟨_, rfl⟩
          obtain ⟨v2, hve2⟩ : ∃ v2, ap s u v = v2 := ⟨_, rfl⟩
          rw [hue2] at g3
          rw [hve2] at g4
          have HU := hide hue
          have HV := hide hve
          have HU2 := hide hue2
          have HV2 := hide hve2
          clear hue hve hue2 hve2
          have huz : (u : Int) < m := by omega
          have hvz : (v : Int) < m := by omega
          have hno : ¬ (u2 = x ∧ v2 = y) → r = false := fun h => by
            cases r
            · rfl
            · have h0 := (HR.out.1 rfl) x y (by have := HFL.out; omega) (by have := HFL.out; omega)
              rw [HU.out, HV.out, HU2.out, HV2.out] at h0
              exact absurd h0 h
          have HNO := hide hno
          clear hno
          have hcs : (((u2 : Int) != (x : Int)) = false ∧ ((v2 : Int) != (y : Int)) = false ∧ u2 = x ∧ v2 = y) ∨ (((u2 : Int) != (x : Int)) = true ∧ ¬ u2 = x) ∨ (((u2 : Int) != (x : Int)) = false ∧ ((v2 : Int) != (y : Int)) = true ∧ ¬ v2 = y) := by
            by_cases q1 : u2 = x
            · by_cases q2 : v2 = y
              · exact .inl ⟨by simp [q1], by simp [q2], q1, q2⟩
              · exact .inr (.inr ⟨by simp [q1], by simp; omega, q2⟩)
            · exact .inr (.inl ⟨by simp; omega, q1⟩)
          go_wp2_with fail
          go_quiet (fail)
          have hBN := bdrewN HBI.out nq
          have hKN := HKI.out.drewN nq
          have HBN := hide hBN
          have HKN := hide hKN
          clear hBN hKN
          rcases hcs with ⟨t1, t2, t3, t4⟩ | ⟨t1, t2⟩ | ⟨t1, t2, t3⟩
          · have HT := hide (And.intro t3 t4)
            clear t3 t4
            go_wp2_with fail
            go_roundw
            case rel =>
              refine ⟨y + 1, by omega, by go_num, HBN.out, HKN.out, fun b hb => ?_⟩
              by_cases e : b = y
              · subst e; rw [HU.out, HV.out, HU2.out, HV2.out]; exact HT.out
              · exact HALLI.out b (by omega)
            case measure => simp [intOf]; omega
          · have hrf := HNO.out (fun h => t2 h.1)
            subst hrf
            clear t2
            go_wp2_with fail
            go_ret
            exact ⟨rfl, HBN.out⟩
          · have hrf := HNO.out (fun h => t3 h.2)
            subst hrf
            clear t3
            go_wp2_with fail
            go_ret
            exact ⟨rfl, HBN.out⟩
        · have hyn : y = m := by omega
          subst hyn
          go_wp2_with fail
          go_roundw
          case rel =>
            refine ⟨x + 1, by omega, by go_num, HBI.out, HKI.out, fun a b ha hb => ?_⟩
            by_cases e : a = x
            · subst e; exact HALLI.out b hb
            · exact HALL.out a b (by omega) hb
          case measure => simp [intOf]; omega
    · have hxn : x = m := by omega
      subst hxn
      have hrt : r = true := HR.out.2 (fun a b ha hb => HALL.out a b (by have := HFL.out; omega) (by have := HFL.out; omega))
      subst hrt
      go_wp2_with fail
      go_ret
      exact ⟨rfl, HB.out⟩
end Go.Proofs.Ythknnpkalhachaa
