import Derived.Test.YtgmloaemnbnbgaaZj
import Derived.Test.YtgmloaemnbnbgaaZa
import Derived.Test.YtgmloaemnbnbgaaZl
namespace Go.Proofs.Ytgmloaemnbnbgaa
open Go Go.RowKit
set_option maxHeartbeats 2000000
theorem sqf_div {m a : Nat} (h : a < m * m) : a / m < m := Nat.div_lt_of_lt_mul h
theorem sqf_mod {m a : Nat} (h : a < m * m) : a % m < m := Nat.mod_lt _ (by rcases Nat.eq_zero_or_pos m with e | e; (subst e; simp at h); exact e)
theorem tdivN (a m : Nat) : Int.tdiv (a : Int) (m : Int) = ((a / m : Nat) : Int) := (Int.ofNat_tdiv a m).symm
theorem tmodN (a m : Nat) : Int.tmod (a : Int) (m : Int) = ((a % m : Nat) : Int) := (Int.ofNat_tmod a m).symm

set_option maxRecDepth 100000 in
theorem collS_any (A : Option Addr) (n c : Nat) (f : List (List Int)) (B : Option Addr) (m d : Nat) (s : List (List Int)) (w : World) (hz : ZArg 1048576 w A n f B m s) (hp : PMap f s) :
    Calls Try.prog 112 #[.agg #[.slice A n c, .slice B m d]] w fun e w' => ∃ g k zs, e = .returned (.slice (some ⟨g, 0, none⟩) k k) ∧ Below w.heap.size w w' ∧ w.heap.size ≤ g ∧ OwnB 2 w' g zs ∧ ((NoCol f s n ∧ zs = [] ∧ k = 0) ∨ ∃ a b, FstCol f s n a b ∧ zs = [((a / n : Nat) : Int), ((a % n : Nat) : Int), ((b / n : Nat) : Int), ((b % n : Nat) : Int)] ∧ k = 4) := by
  have hnb := hz.sz.nb
  have HZ := hide hz
  have HB0 := hide ((Below.refl _ w).alloc (Nat.le_refl _) (Obj.cells #[Value.slice A n c, Value.slice B m d] 29))
  have HK0 := hide (Blk.new w 29 [.slice A n c, .slice B m d])
  have HFL := hide hz.sz.fl
  have HP := hide hp
  have h12 := hz.small hp
  obtain rfl := hz.same hp
  have hm0 : (m : Int) ≠ 0 := by omega
  have hm1 : (m : Int) ≠ -1 := by omega
  clear hp hz
  obtain ⟨N, hN⟩ : ∃ N, m * m = N := ⟨_, rfl⟩
  have hN144 : N ≤ 144 := by rw [← hN]; exact Nat.mul_le_mul h12.2 h12.2
  have hNz : (m : Int) * (m : Int) = (N : Int) := by rw [← hN]; exact (Int.natCast_mul m m).symm
  have HN := hide hN
  clear hN
  go_enter Try.func112, Try.ntmps112
  go_wp2_with fail
  go_loopw [4] (fun i wr => ∃ x : Nat, x ≤ N ∧ i = .int .i64 x ∧ Below w.heap.size w wr ∧ Blk wr w.heap.size 29 [.slice A m c, .slice B m d] ∧ ∀ i j, i < x → j < N → j ≠ i → ledK f s m i ≠ ledK f s m j) (fun i _ => N - (intOf i).toNat)
  case atStart => exact ⟨0, Nat.zero_le _, rfl, HB0.out, HK0.out, fun a b ha => absurd ha (Nat.not_lt_zero _)⟩
  case round =>
    obtain ⟨a, ha, rfl, hbe, hkk, hall⟩ := hrel
    have HB := hide hbe
    have HK := hide hkk
    have HALL := hide hall
    clear hbe hkk hall
    by_cases hlt : a < N
    · have haz : (a : Int) < N := by omega
      go_wp2_with fail
      obtain ⟨wo, rfl⟩ : ∃ wo : World, wo = wr := ⟨_, rfl⟩
      go_loopw [5] (fun i wi => ∃ y : Nat, y ≤ N ∧ i = .int .i64 y ∧ Below w.heap.size w wi ∧ Blk wi w.heap.size 29 [.slice A m c, .slice B m d] ∧ ∀ j, j < y → j ≠ a → ledK f s m a ≠ ledK f s m j) (fun i _ => N - (intOf i).toNat)
      case atStart => exact ⟨0, Nat.zero_le _, rfl, HB.out, HK.out, fun b hb => absurd hb (Nat.not_lt_zero _)⟩
      case round =>
        obtain ⟨b, hb, rfl, hbi, hki, halli⟩ := hrel
        have HBI := hide hbi
        have HKI := hide hki
        have HALLI := hide halli
        clear hbi hki halli
        by_cases hlty : b < N
        · have hbz : (b : Int) < N := by omega
          have td1 := tdivN a m
          have td2 := tmodN a m
          have td3 := tdivN b m
          have td4 := tmodN b m
          obtain ⟨x, hx⟩ : ∃ x, a / m = x := ⟨_, rfl⟩
          obtain ⟨y, hy⟩ : ∃ y, a % m = y := ⟨_, rfl⟩
          obtain ⟨u, hu⟩ : ∃ u, b / m = u := ⟨_, rfl⟩
          obtain ⟨v, hv⟩ : ∃ v, b % m = v := ⟨_, rfl⟩
          have hxn : x < m := by rw [← hx]; exact sqf_div (by rw [HN.out]; exact hlt)
          have hyn : y < m := by rw [← hy]; exact sqf_mod (by rw [HN.out]; exact hlt)
          have hun : u < m := by rw [← hu]; exact sqf_div (by rw [HN.out]; exact hlty)
          have hvn : v < m := by rw [← hv]; exact sqf_mod (by rw [HN.out]; exact hlty)
          rw [hx] at td1
          rw [hy] at td2
          rw [hu] at td3
          rw [hv] at td4
          have HX := hide hx
          have HY := hide hy
          have HU := hide hu
          have HV := hide hv
          clear hx hy hu hv
          go_wp2_with fail
          go_region
          clear td1 td2 td3 td4
          have k0 := HKI.out.cell 0 _ rfl
          have k1 := HKI.out.cell 1 _ rfl
          obtain ⟨bb, o, b2, o2, bx, ox, cx, by', oy, cy, rfl, rfl, h1, h2, h3, h4, _, _, _, _⟩ := (HZ.out.later HBI.out).reads HP.out hxn hyn
          obtain ⟨b', o', b2', o2', bu, ou, cu, bv, ov, cv, e1, e2, g1, g2, g3, g4, _, _, _, _⟩ := (HZ.out.later HBI.out).reads HP.out hun hvn
          injection e1 with e1
          injection e1 with e1 e3 _
          injection e2 with e2
          injection e2 with e2 e4 _
          subst e1
          subst e3
          subst e2
          subst e4
          obtain ⟨p1, hp1⟩ : ∃ zz, ap f x y = zz := ⟨_, rfl⟩
          obtain ⟨p2, hp2⟩ : ∃ zz, ap s x y = zz := ⟨_, rfl⟩
          obtain ⟨q1, hq1⟩ : ∃ zz, ap f u v = zz := ⟨_, rfl⟩
          obtain ⟨q2, hq2⟩ : ∃ zz, ap s u v = zz := ⟨_, rfl⟩
          rw [hp1] at h3
          rw [hp2] at h4
          rw [hq1] at g3
          rw [hq2] at g4
          have hka : ledK f s m a = (p1, p2) := by unfold ledK; rw [HX.out, HY.out, hp1, hp2]
          have hkb : ledK f s m b = (q1, q2) := by unfold ledK; rw [HU.out, HV.out, hq1, hq2]
          have HKA := hide hka
          have HKB := hide hkb
          clear hka hkb hp1 hp2 hq1 hq2
          have hxz : (x : Int) < m := by omega
          have hyz : (y : Int) < m := by omega
          have huz : (u : Int) < m := by omega
          have hvz : (v : Int) < m := by omega
          have hcs : (((a : Int) != (b : Int)) = false ∧ Hid (b = a)) ∨ (((a : Int) != (b : Int)) = true ∧ ((p1 : Int) == (q1 : Int)) = false ∧ Hid (ledK f s m a ≠ ledK f s m b)) ∨ (((a : Int) != (b : Int)) = true ∧ ((p1 : Int) == (q1 : Int)) = true ∧ ((p2 : Int) == (q2 : Int)) = false ∧ Hid (ledK f s m a ≠ ledK f s m b)) ∨ (((a : Int) != (b : Int)) = true ∧ ((p1 : Int) == (q1 : Int)) = true ∧ ((p2 : Int) == (q2 : Int)) = true ∧ Hid (b ≠ a ∧ ledK f s m a = ledK f s m b)) := by
            by_cases z0 : b = a
            · exact .inl ⟨by simp [z0], hide z0⟩
            · by_cases z1 : p1 = q1
              · by_cases z2 : p2 = q2
                · exact .inr (.inr (.inr ⟨by simp; omega, by simp [z1], by simp [z2], hide ⟨z0, by rw [HKA.out, HKB.out, z1, z2]⟩⟩))
                · exact .inr (.inr (.inl ⟨by simp; omega, by simp [z1], by simp; omega, hide (by rw [HKA.out, HKB.out]; intro e; injection e with _ e; exact z2 e)⟩))
              · exact .inr (.inl ⟨by simp; omega, by simp; omega, hide (by rw [HKA.out, HKB.out]; intro e; injection e with e _; exact z1 e)⟩)
          rcases hcs with ⟨t1, HT⟩ | ⟨t1, t2, HT⟩ | ⟨t1, t2, t3, HT⟩ | ⟨t1, t2, t3, HT⟩
          · go_wp2_with fail
            go_quiet (fail)
            clear h1 h2 h3 h4 g1 g2 g3 g4 k0 k1
            have hBN := bdrewN HBI.out (1 + nq)
            have hKN := HKI.out.drewN (1 + nq)
            have HBN := hide hBN
            have HKN := hide hKN
            clear hBN hKN
            go_wp2_with fail
            go_roundw
            case rel =>
              exact ⟨b + 1, by omega, by go_num, HBN.out, HKN.out, fun j hj hne => by
                by_cases e : j = b
                · exact absurd (e.trans HT.out) hne
                · exact HALLI.out j (by omega) hne⟩
            case measure => simp [intOf]; omega
          · go_wp2_with fail
            go_quiet (fail)
            clear h1 h2 h3 h4 g1 g2 g3 g4 k0 k1
            have hBN := bdrewN HBI.out (1 + nq)
            have hKN := HKI.out.drewN (1 + nq)
            have HBN := hide hBN
            have HKN := hide hKN
            clear hBN hKN
            go_wp2_with fail
            go_roundw
            case rel =>
              exact ⟨b + 1, by omega, by go_num, HBN.out, HKN.out, fun j hj hne => by
                by_cases e : j = b
                · rw [e]; exact HT.out
                · exact HALLI.out j (by omega) hne⟩
            case measure => simp [intOf]; omega
          · go_wp2_with fail
            go_quiet (fail)
            clear h1 h2 h3 h4 g1 g2 g3 g4 k0 k1
            have hBN := bdrewN HBI.out (1 + nq)
            have hKN := HKI.out.drewN (1 + nq)
            have HBN := hide hBN
            have HKN := hide hKN
            clear hBN hKN
            go_wp2_with fail
            go_roundw
            case rel =>
              exact ⟨b + 1, by omega, by go_num, HBN.out, HKN.out, fun j hj hne => by
                by_cases e : j = b
                · rw [e]; exact HT.out
                · exact HALLI.out j (by omega) hne⟩
            case measure => simp [intOf]; omega
          · go_wp2_with fail
            go_quiet (fail)
            clear h1 h2 h3 h4 g1 g2 g3 g4 k0 k1
            have hBN := bdrewN HBI.out (1 + nq)
            have hKN := HKI.out.drewN (1 + nq)
            have HBN := hide hBN
            have HKN := hide hKN
            clear hBN hKN
            go_wp2_with fail
            refine bp_gen fun wf hwf => ?_
            have HBF : Below w.heap.size w wf := by rw [hwf]; exact HBN.out.alloc HBN.out.size _
            have HOF : OwnB 2 wf (wr.drewN (1 + nq)).heap.size [(x : Int), (y : Int), (u : Int), (v : Int)] := by
              rw [hwf]
              refine ⟨_, heap_alloc_new _ _, fun i hi => ?_⟩
              simp at hi
              rcases i with _ | _ | _ | _ | i
              · rfl
              · rfl
              · rfl
              · rfl
              · omega
            have hlo : w.heap.size ≤ (wr.drewN (1 + nq)).heap.size := HBN.out.size
            clear hwf
            have HFC : Hid (FstCol f s m a b) := hide ⟨by rw [HN.out]; exact hlt, by rw [HN.out]; exact hlty, fun e => HT.out.1 e.symm, HT.out.2, fun i hi j hj => HALL.out i j hi (by rw [← HN.out]; exact hj), fun j hj hne => HALLI.out j hj hne⟩
            go_ret
            exact ⟨_, 4, _, rfl, HBF, hlo, HOF, .inr ⟨a, b, HFC.out, by rw [HX.out, HY.out, HU.out, HV.out], rfl⟩⟩
        · have hyn : b = N := by omega
          subst hyn
          go_wp2_with fail
          go_roundw
          case rel =>
            refine ⟨a + 1, by omega, by go_num, HBI.out, HKI.out, fun i j hi hj hne => ?_⟩
            by_cases e : i = a
            · subst e; exact HALLI.out j hj hne
            · exact HALL.out i j (by omega) hj hne
          case measure => simp [intOf]; omega
    · have hxn : a = N := by omega
      subst hxn
      go_wp2_with fail
      refine bp_gen fun wf hwf => ?_
      have HBF : Below w.heap.size w wf := by rw [hwf]; exact HB.out.alloc HB.out.size _
      have HOF : OwnB 2 wf wr.heap.size [] := by rw [hwf]; exact ⟨_, heap_alloc_new _ _, fun i hi => absurd hi (Nat.not_lt_zero _)⟩
      have hlo : w.heap.size ≤ wr.heap.size := HB.out.size
      clear hwf
      go_ret
      exact ⟨_, 0, [], rfl, HBF, hlo, HOF, .inl ⟨fun i j hi hj hne => HALL.out i j (by rw [← HN.out]; exact hi) (by rw [← HN.out]; exact hj) (fun e => hne e.symm), rfl, rfl⟩⟩
end Go.Proofs.Ytgmloaemnbnbgaa
