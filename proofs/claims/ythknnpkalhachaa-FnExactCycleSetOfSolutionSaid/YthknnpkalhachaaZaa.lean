import Derived.Test.YthknnpkalhachaaZs
import Derived.Test.YthknnpkalhachaaZp
import Derived.Test.YthknnpkalhachaaZv
namespace Go.Proofs.Ythknnpkalhachaa
open Go Go.RowKit
set_option maxHeartbeats 1000000

theorem invZ_any (A : Option Addr) (n c : Nat) (f : List (List Int)) (B : Option Addr) (d : Nat) (s : List (List Int)) (r : Bool) (w : World) (hz : ZArg 1048576 w A n f B n s) (hp : PMap f s) (hrr : r = true ↔ InvF f s) :
    Calls Try.prog 52 #[.agg #[.slice A n c, .slice B n d]] w fun e w' => e = .returned (.bool r) ∧ Below w.heap.size w w' := by
  have hnb := hz.sz.nb
  have HZ := hide hz
  have HB0 := hide ((Below.refl _ w).alloc (Nat.le_refl _) (Obj.cells #[Value.slice A n c, Value.slice B n d] 27))
  have HK0 := hide (Blk.new w 27 [.slice A n c, .slice B n d])
  have hfl := hz.sz.fl
  have HP := hide hp
  have HR := hide hrr
  have HFL := hide hfl
  have h12 := hz.small hp
  obtain ⟨N, hN⟩ : ∃ N, n * n = N := ⟨_, rfl⟩
  have hN144 : N ≤ 144 := by rw [← hN]; exact sq_le n h12.2
  have HN := hide hN
  clear hp hrr hfl hz hN
  go_enter Try.func52, Try.ntmps52
  have k0 := HK0.out.cell 0 _ rfl
  have k1 := HK0.out.cell 1 _ rfl
  go_wp2_with fail
  refine (size_any _ _ _ _ _ _ _ hnb).mono ?_
  rintro e w2 ⟨rfl, hb2⟩
  have HB2 := hide (HB0.out.trans (hb2.mono HB0.out.size))
  have HK2 := hide (HK0.out.later hb2)
  clear hb2 k0 k1
  go_wp2_with fail
  refine (pairsOf_any n N _ h12.1 h12.2 HN.out).mono ?_
  rintro e w3 ⟨g, rfl, hb3, hg3, hpa⟩
  have HB3 := hide (HB2.out.trans (hb3.mono HB2.out.size))
  have HK3 := hide (HK2.out.later hb3)
  have HPA3 := hide hpa
  clear hb3 hpa
  go_wp2_with fail
  go_loopw [9] (fun i wr => ∃ k : Nat, k ≤ N ∧ i = .int .i64 k ∧ Below w.heap.size w wr ∧ Blk wr w.heap.size 27 [.slice A n c, .slice B n d] ∧ PairsAt wr g n ∧ ∀ a, a < k → ap f (ap f (a / n) (a % n)) (ap s (a / n) (a % n)) = a / n ∧ ap s (ap f (a / n) (a % n)) (ap s (a / n) (a % n)) = a % n) (fun i _ => N - (intOf i).toNat)
  case atStart => exact ⟨0, Nat.zero_le _, rfl, HB3.out, HK3.out, HPA3.out, fun a ha => absurd ha (Nat.not_lt_zero _)⟩
  case round =>
    obtain ⟨k, hk, rfl, hbe, hkk, hpa, hall⟩ := hrel
    have HB := hide hbe
    have HK := hide hkk
    have HPA := hide hpa
    have HALL := hide hall
    clear hbe hkk hpa hall
    have k0 := HK.out.cell 0 _ rfl
    have k1 := HK.out.cell 1 _ rfl
    by_cases hlt : k < N
    · have hkz : (k : Int) < N := by omega
      obtain ⟨p0, p1⟩ := HPA.out.2 k (by rw [HN.out]; exact hlt)
      have hxn : k / n < n := div_lt_sq (by rw [HN.out]; exact hlt)
      have hyn : k % n < n := mod_lt_sq (by rw [HN.out]; exact hlt)
      obtain ⟨x, hx⟩ : ∃ x, k / n = x := ⟨_, rfl⟩
      obtain ⟨y, hy⟩ : ∃ y, k % n = y := ⟨_, rfl⟩
      rw [hx] at p0 hxn
      rw [hy] at p1 hyn
      have HX := hide hx
      have HY := hide hy
      clear hx hy
      have hu := HP.out.lt1 HFL.out hxn hyn
      have hv := HP.out.lt2 HFL.out hxn hyn
      obtain ⟨u, hue⟩ : ∃ u, ap f x y = u := ⟨_, rfl⟩
      obtain ⟨v, hve⟩ : ∃ v, ap s x y = v := ⟨_, rfl⟩
      rw [hue] at hu
      rw [hve] at hv
      obtain ⟨u2, hue2⟩ : ∃ u2, ap f u v = u2 := ⟨_, rfl⟩
      obtain ⟨v2, hve2⟩ : ∃ v2, ap s u v = v2 := ⟨_, rfl⟩
      have HU := hide hue
      have HV := hide hve
      have HU2 := hide hue2
      have HV2 := hide hve2
      clear hue hve hue2 hve2
      have hno : ¬ (u2 = x ∧ v2 = y) → r = false := fun h => by
        cases r
        · rfl
        · have h0 := (HR.out.1 rfl) x y (by have := HFL.out; omega) (by have := HFL.out; omega)
          rw [HU.out, HV.out, HU2.out, HV2.out] at h0
          exact absurd h0 h
      have HNO := hide hno
      clear hno
      go_wp2_with fail
      refine wp_gen fun w4 hw4 => ?_
      obtain ⟨P, hPe⟩ : ∃ P, wr.heap.size = P := ⟨_, rfl⟩
      have HBc : Hid (Below w.heap.size w w4) := hide (by rw [hw4]; exact HB.out.alloc HB.out.size _)
      have HKc : Hid (Blk w4 w.heap.size 27 [.slice A n c, .slice B n d]) := hide (by rw [hw4]; exact HK.out.alloc _)
      have HPc : Hid (Blk w4 P 65 [.int .i64 x, .int .i64 y]) := hide (by rw [hw4, ← hPe]; exact Blk.new _ _ _)
      have HAc : Hid (PairsAt w4 g n) := hide (by rw [hw4]; exact HPA.out.later ((Below.refl _ _).alloc (Nat.le_refl _) _))
      rw [hPe]
      clear hw4 k0 k1 p0 p1 hPe
      have k0 := HKc.out.cell 0 _ rfl
      have k1 := HKc.out.cell 1 _ rfl
      have k2 := HPc.out.cell 0 _ rfl
      have k3 := HPc.out.cell 1 _ rfl
      have hcs : (((u2 : Int) = x) ∧ ((v2 : Int) = y)) ∨ (¬ ((u2 : Int) = x)) ∨ (((u2 : Int) = x) ∧ ¬ ((v2 : Int) = y)) := by omega
      rcases hcs with ⟨e1, e2⟩ | e1 | ⟨e1, e2⟩
      · have hyes : u2 = x ∧ v2 = y := by omega
        have HYES := hide hyes
        clear hyes
        go_region_held3 (fun w' => w'.cell? ⟨w.heap.size, 0, none⟩ = some (.slice A n c) ∧ w'.cell? ⟨w.heap.size, 1, none⟩ = some (.slice B n d) ∧ w'.cell? ⟨P, 0, none⟩ = some (.int .i64 x) ∧ w'.cell? ⟨P, 1, none⟩ = some (.int .i64 y)) (first | exact ⟨k0, k1, k2, k3⟩ | go_keep) (first | (go_at_call 94; go_must (refine calls_gen fun wc hwc => ?_; replace HBc : Hid (Below w.heap.size w wc) := hide (by rw [hwc]; first | exact HBc.out | exact HBc.out.drew); replace HKc : Hid (Blk wc w.heap.size 27 [.slice A n c, .slice B n d]) := hide (by rw [hwc]; first | exact HKc.out | exact HKc.out.drew); replace HPc : Hid (Blk wc P 65 [.int .i64 x, .int .i64 y]) := hide (by rw [hwc]; first | exact HPc.out | exact HPc.out.drew); replace HAc : Hid (PairsAt wc g n) := hide (by rw [hwc]; first | exact HAc.out | exact HAc.out.later ((Below.refl _ _).drew)); clear hwc; refine (lead_any _ _ _ f _ _ _ s _ _ _ (HZ.out.later HBc.out) HP.out (by assumption) (by assumption)).mono ?_; rintro e wd ⟨rfl, hbd⟩; replace HBc := hide (HBc.out.trans (hbd.mono HBc.out.size)); replace HKc := hide (HKc.out.later hbd); replace HPc := hide (HPc.out.later hbd); replace HAc := hide (HAc.out.later hbd); clear hbd; have k0 := HKc.out.cell 0 _ rfl; have k1 := HKc.out.cell 1 _ rfl; have k2 := HPc.out.cell 0 _ rfl; have k3 := HPc.out.cell 1 _ rfl; (first | rw [HU.out, HV.out] | rw [HU2.out, HV2.out]))))
        go_wp2_with fail
        go_roundw
        case rel =>
          refine ⟨k + 1, by omega, by go_num, HBc.out, HKc.out, HAc.out, fun a ha => ?_⟩
          by_cases e : a = k
          · subst e; rw [HX.out, HY.out, HU.out, HV.out, HU2.out, HV2.out]; exact HYES.out
          · exact HALL.out a (by omega)
        case measure => simp [intOf]; omega
      all_goals
        have hrf := HNO.out (by omega)
        subst hrf
        go_region_held3 (fun w' => w'.cell? ⟨w.heap.size, 0, none⟩ = some (.slice A n c) ∧ w'.cell? ⟨w.heap.size, 1, none⟩ = some (.slice B n d) ∧ w'.cell? ⟨P, 0, none⟩ = some (.int .i64 x) ∧ w'.cell? ⟨P, 1, none⟩ = some (.int .i64 y)) (first | exact ⟨k0, k1, k2, k3⟩ | go_keep) (first | (go_at_call 94; go_must (refine calls_gen fun wc hwc => ?_; replace HBc : Hid (Below w.heap.size w wc) := hide (by rw [hwc]; first | exact HBc.out | exact HBc.out.drew); replace HKc : Hid (Blk wc w.heap.size 27 [.slice A n c, .slice B n d]) := hide (by rw [hwc]; first | exact HKc.out | exact HKc.out.drew); replace HPc : Hid (Blk wc P 65 [.int .i64 x, .int .i64 y]) := hide (by rw [hwc]; first | exact HPc.out | exact HPc.out.drew); replace HAc : Hid (PairsAt wc g n) := hide (by rw [hwc]; first | exact HAc.out | exact HAc.out.later ((Below.refl _ _).drew)); clear hwc; refine (lead_any _ _ _ f _ _ _ s _ _ _ (HZ.out.later HBc.out) HP.out (by assumption) (by assumption)).mono ?_; rintro e wd ⟨rfl, hbd⟩; replace HBc := hide (HBc.out.trans (hbd.mono HBc.out.size)); replace HKc := hide (HKc.out.later hbd); replace HPc := hide (HPc.out.later hbd); replace HAc := hide (HAc.out.later hbd); clear hbd; have k0 := HKc.out.cell 0 _ rfl; have k1 := HKc.out.cell 1 _ rfl; have k2 := HPc.out.cell 0 _ rfl; have k3 := HPc.out.cell 1 _ rfl; (first | rw [HU.out, HV.out] | rw [HU2.out, HV2.out]))))
        go_wp2_with fail
        go_ret
        exact ⟨rfl, HBc.out⟩
    · have hkn : k = N := by omega
      subst hkn
      have hrt : r = true := HR.out.2 (fun a b ha hb => by
        have ha' : a < n := by have := HFL.out; omega
        have hb' : b < n := by have := HFL.out; omega
        have h := HALL.out (a * n + b) (by rw [← HN.out]; exact pair_lt n a b ha' hb')
        rw [pair_div n a b hb', pair_mod n a b hb'] at h
        exact h)
      subst hrt
      go_wp2_with fail
      go_ret
      exact ⟨rfl, HB.out⟩
end Go.Proofs.Ythknnpkalhachaa
