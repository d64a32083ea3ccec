import Derived.Test.YtanldiildinbdaaZy
import Derived.Test.YtanldiildinbdaaZz
import Derived.Test.YtanldiildinbdaaZu
import Derived.Test.YtanldiildinbdaaZa
namespace Go.Proofs.Ytanldiildinbdaa
open Go Go.RowKit
set_option maxHeartbeats 1000000

theorem sqI_any (A : Option Addr) (n c : Nat) (f : List (List Int)) (B : Option Addr) (m d : Nat) (s : List (List Int)) (r : Bool) (code : Int) (w : World) (hz : ZArg 1048576 w A n f B m s) (hr : SqRes f s r code) :
    Calls Try.prog 33 #[.agg #[.slice A n c, .slice B m d]] w fun e w' => e = .returned (.tuple #[.bool r, .int .i64 code]) ∧ Below w.heap.size w w' := by
  have hnb := hz.sz.nb
  have HZ := hide hz
  have HB0 := hide ((Below.refl _ w).alloc (Nat.le_refl _) (Obj.cells #[Value.slice A n c, Value.slice B m d] 27))
  have HK0 := hide (Blk.new w 27 [.slice A n c, .slice B m d])
  have hfl := hz.sz.fl
  rcases hr with ⟨hp, hrr, rfl⟩ | ⟨hp, rfl, rfl⟩
  · have HP := hide hp
    have HR := hide hrr
    have HFL := hide hfl
    have h12 := hz.small hp
    clear hp hrr hfl hz
    go_enter Try.func33, Try.ntmps33
    go_wp2_with fail
    refine (mapI_any _ _ _ f _ _ _ s true _ (HZ.out.later HB0.out) (by simp [HP.out])).mono ?_
    rintro e w1 ⟨rfl, hb1⟩
    have HB1 := hide (HB0.out.trans (hb1.mono HB0.out.size))
    have HK1 := hide (HK0.out.later hb1)
    have k0 := HK1.out.cell 0 _ rfl
    have k1 := HK1.out.cell 1 _ rfl
    clear hb1
    go_wp2_with fail
    refine (size_any _ _ _ _ _ _ _ hnb).mono ?_
    rintro e w2 ⟨rfl, hb2⟩
    have HB2 := hide (HB1.out.trans (hb2.mono HB1.out.size))
    have HK2 := hide (HK1.out.later hb2)
    clear hb2
    go_wp2_with fail
    go_loopw [11] (fun i wr => ∃ k : Nat, k ≤ n ∧ i = .int .i64 k ∧ Below w.heap.size w wr ∧ Blk wr w.heap.size 27 [.slice A n c, .slice B m d] ∧ ∀ x, x < k → ap f x x = x ∧ ap s x x = x) (fun i _ => n - (intOf i).toNat)
    case atStart => exact ⟨0, Nat.zero_le _, rfl, HB2.out, HK2.out, fun i hi => absurd hi (Nat.not_lt_zero _)⟩
    case round =>
      obtain ⟨k, hk, rfl, hbe, hkk, hall⟩ := hrel
      have HB := hide hbe
      have HK := hide hkk
      have HALL := hide hall
      clear hbe hkk hall
      have k0 := HK.out.cell 0 _ rfl
      have k1 := HK.out.cell 1 _ rfl
      by_cases hlt : k < n
      · have hkz : (k : Int) < n := by omega
        obtain ⟨u, hu⟩ : ∃ u, ap f k k = u := ⟨_, rfl⟩
        obtain ⟨v, hv⟩ : ∃ v, ap s k k = v := ⟨_, rfl⟩
        have HU := hide hu
        have HV := hide hv
        clear hu hv
        have hno : ¬ (u = k ∧ v = k) → r = false := fun h => by
          cases r
          · rfl
          · have h0 := (HR.out.1 rfl) k (by have := HFL.out; omega)
            rw [HU.out, HV.out] at h0
            exact absurd h0 h
        have HNO := hide hno
        clear hno
        go_wp2_with fail
        refine wp_gen fun w3 hw3 => ?_
        have HB3 : Hid (Below w.heap.size w w3) := hide (by rw [hw3]; exact HB.out.alloc HB.out.size _)
        have HK3 : Hid (Blk w3 w.heap.size 27 [.slice A n c, .slice B m d]) := hide (by rw [hw3]; exact HK.out.alloc _)
        have HP3 : Hid (Blk w3 wr.heap.size 53 [.int .i64 k, .int .i64 k]) := hide (by rw [hw3]; exact Blk.new _ _ _)
        clear hw3 k0 k1
        have k0 := HK3.out.cell 0 _ rfl
        have k1 := HK3.out.cell 1 _ rfl
        have k2 := HP3.out.cell 0 _ rfl
        have k3 := HP3.out.cell 1 _ rfl
        have hcs : (((u : Int) = k) ∧ ((v : Int) = k)) ∨ (¬ ((u : Int) = k)) ∨ (((u : Int) = k) ∧ ¬ ((v : Int) = k)) := by omega
        rcases hcs with ⟨e1, e2⟩ | e1 | ⟨e1, e2⟩
        · have hyes : u = k ∧ v = k := by omega
          have HYES := hide hyes
          clear hyes
          go_region_held3 (fun w' => w'.cell? ⟨w.heap.size, 0, none⟩ = some (.slice A n c) ∧ w'.cell? ⟨w.heap.size, 1, none⟩ = some (.slice B m d) ∧ w'.cell? ⟨wr.heap.size, 0, none⟩ = some (.int .i64 k) ∧ w'.cell? ⟨wr.heap.size, 1, none⟩ = some (.int .i64 k)) (first | exact ⟨k0, k1, k2, k3⟩ | go_keep) (first | (go_at_call 64; go_must (refine calls_gen fun w4 hw4 => ?_; have HB4 : Hid (Below w.heap.size w w4) := hide (by rw [hw4]; exact HB3.out.drew); have HK4 : Hid (Blk w4 w.heap.size 27 [.slice A n c, .slice B m d]) := hide (by rw [hw4]; exact HK3.out.drew); have HP4 : Hid (Blk w4 wr.heap.size 53 [.int .i64 k, .int .i64 k]) := hide (by rw [hw4]; exact HP3.out.drew); clear hw4; refine (lead_any _ _ _ f _ _ _ s k k _ (HZ.out.later HB4.out) HP.out hlt hlt).mono ?_; rintro e w5 ⟨rfl, hb5⟩; have HB5 := hide (HB4.out.trans (hb5.mono HB4.out.size)); have HK5 := hide (HK4.out.later hb5); have HP5 := hide (HP4.out.later hb5); clear hb5; have k0 := HK5.out.cell 0 _ rfl; have k1 := HK5.out.cell 1 _ rfl; have k2 := HP5.out.cell 0 _ rfl; have k3 := HP5.out.cell 1 _ rfl; rw [HU.out, HV.out])))
          go_wp2_with fail
          go_roundw
          case rel =>
            refine ⟨k + 1, by omega, by go_num, HB5.out, HK5.out, fun i hi => ?_⟩
            by_cases e : i = k
            · subst e; exact ⟨HU.out.trans HYES.out.1, HV.out.trans HYES.out.2⟩
            · exact HALL.out i (by omega)
          case measure => simp [intOf]; omega
        all_goals
          have hrf := HNO.out (by omega)
          subst hrf
          go_region_held3 (fun w' => w'.cell? ⟨w.heap.size, 0, none⟩ = some (.slice A n c) ∧ w'.cell? ⟨w.heap.size, 1, none⟩ = some (.slice B m d) ∧ w'.cell? ⟨wr.heap.size, 0, none⟩ = some (.int .i64 k) ∧ w'.cell? ⟨wr.heap.size, 1, none⟩ = some (.int .i64 k)) (first | exact ⟨k0, k1, k2, k3⟩ | go_keep) (first | (go_at_call 64; go_must (refine calls_gen fun w4 hw4 => ?_; have HB4 : Hid (Below w.heap.size w w4) := hide (by rw [hw4]; exact HB3.out.drew); have HK4 : Hid (Blk w4 w.heap.size 27 [.slice A n c, .slice B m d]) := hide (by rw [hw4]; exact HK3.out.drew); have HP4 : Hid (Blk w4 wr.heap.size 53 [.int .i64 k, .int .i64 k]) := hide (by rw [hw4]; exact HP3.out.drew); clear hw4; refine (lead_any _ _ _ f _ _ _ s k k _ (HZ.out.later HB4.out) HP.out hlt hlt).mono ?_; rintro e w5 ⟨rfl, hb5⟩; have HB5 := hide (HB4.out.trans (hb5.mono HB4.out.size)); have HK5 := hide (HK4.out.later hb5); have HP5 := hide (HP4.out.later hb5); clear hb5; have k0 := HK5.out.cell 0 _ rfl; have k1 := HK5.out.cell 1 _ rfl; have k2 := HP5.out.cell 0 _ rfl; have k3 := HP5.out.cell 1 _ rfl; rw [HU.out, HV.out])))
          go_wp2_with fail
          go_ret2
          exact ⟨rfl, HB5.out⟩
      · have hkn : k = n := by omega
        subst hkn
        have hrt : r = true := HR.out.2 (fun x hx => HALL.out x (by have := HFL.out; omega))
        subst hrt
        go_wp2_with fail
        go_ret2
        exact ⟨rfl, HB.out⟩
  · have HP := hide hp
    clear hp hfl hz
    go_enter Try.func33, Try.ntmps33
    go_wp2_with fail
    refine (mapI_any _ _ _ f _ _ _ s false _ (HZ.out.later HB0.out) (by simp [HP.out])).mono ?_
    rintro e w1 ⟨rfl, hb1⟩
    have HB1 := hide (HB0.out.trans (hb1.mono HB0.out.size))
    clear hb1
    go_wp2_with fail
    go_ret2
    exact ⟨rfl, HB1.out⟩
end Go.Proofs.Ytanldiildinbdaa
namespace Go.Proofs.Ytanldiildinbdaa
open Go Go.RowKit
set_option maxHeartbeats 1000000

theorem sqS_any (A : Option Addr) (n c : Nat) (f : List (List Int)) (B : Option Addr) (m d : Nat) (s : List (List Int)) (r : Bool) (code : Int) (w : World) (hz : ZArg 1048576 w A n f B m s) (hr : SqRes f s r code) :
    Calls Try.prog 32 #[.agg #[.slice A n c, .slice B m d]] w fun e w' => e = .returned (.tuple #[.bool r, .int .i64 code]) ∧ Below w.heap.size w w' := by
  have hnb := hz.sz.nb
  have HZ := hide hz
  have HB0 := hide ((Below.refl _ w).alloc (Nat.le_refl _) (Obj.cells #[Value.slice A n c, Value.slice B m d] 27))
  have HK0 := hide (Blk.new w 27 [.slice A n c, .slice B m d])
  have hfl := hz.sz.fl
  rcases hr with ⟨hp, hrr, rfl⟩ | ⟨hp, rfl, rfl⟩
  · have HP := hide hp
    have HR := hide hrr
    have HFL := hide hfl
    have h12 := hz.small hp
    clear hp hrr hfl hz
    go_enter Try.func32, Try.ntmps32
    go_wp2_with fail
    refine (mapS_any _ _ _ f _ _ _ s true _ (HZ.out.later HB0.out) (by simp [HP.out])).mono ?_
    rintro e w1 ⟨rfl, hb1⟩
    have HB1 := hide (HB0.out.trans (hb1.mono HB0.out.size))
    have HK1 := hide (HK0.out.later hb1)
    clear hb1
    go_wp2_with fail
    go_loopw [4] (fun i wr => ∃ k : Nat, k ≤ n ∧ i = .int .i64 k ∧ Below w.heap.size w wr ∧ Blk wr w.heap.size 27 [.slice A n c, .slice B m d] ∧ ∀ x, x < k → ap f x x = x ∧ ap s x x = x) (fun i _ => n - (intOf i).toNat)
    case atStart => exact ⟨0, Nat.zero_le _, rfl, HB1.out, HK1.out, fun i hi => absurd hi (Nat.not_lt_zero _)⟩
    case round =>
      obtain ⟨k, hk, rfl, hbe, hkk, hall⟩ := hrel
      have HB := hide hbe
      have HK := hide hkk
      have HALL := hide hall
      clear hbe hkk hall
      have k0 := HK.out.cell 0 _ rfl
      have k1 := HK.out.cell 1 _ rfl
      by_cases hlt : k < n
      · obtain ⟨b, o, b2, o2, bx, ox, cx, by', oy, cy, rfl, rfl, h1, h2, h3, h4, _, _, _, _⟩ := (HZ.out.later HB.out).reads HP.out hlt hlt
        obtain rfl := HZ.out.same HP.out
        have hkz : (k : Int) < m := by omega
        obtain ⟨u, hu⟩ : ∃ u, ap f k k = u := ⟨_, rfl⟩
        obtain ⟨v, hv⟩ : ∃ v, ap s k k = v := ⟨_, rfl⟩
        rw [hu] at h3
        rw [hv] at h4
        have HU := hide hu
        have HV := hide hv
        clear hu hv
        have hno : ¬ (u = k ∧ v = k) → r = false := fun h => by
          cases r
          · rfl
          · have h0 := (HR.out.1 rfl) k (by have := HFL.out; omega)
            rw [HU.out, HV.out] at h0
            exact absurd h0 h
        have HNO := hide hno
        clear hno
        by_cases huk : u = k
        · by_cases hvk : v = k
          · subst huk
            subst hvk
            go_wp2_with fail
            go_roundw
            case rel =>
              refine ⟨v + 1, by omega, by go_num, HB.out, HK.out, fun i hi => ?_⟩
              by_cases e : i = v
              · subst e; exact ⟨HU.out, HV.out⟩
              · exact HALL.out i (by omega)
            case measure => simp [intOf]; omega
          · subst huk
            have hne : ((v : Int) != (u : Int)) = true := by simp; omega
            have hrf := HNO.out (fun h => hvk h.2)
            subst hrf
            clear hvk
            go_wp2_with fail
            go_ret2
            exact ⟨rfl, HB.out⟩
        · have hne : ((u : Int) != (k : Int)) = true := by simp; omega
          have hrf := HNO.out (fun h => huk h.1)
          subst hrf
          clear huk
          go_wp2_with fail
          go_ret2
          exact ⟨rfl, HB.out⟩
      · have hkn : k = n := by omega
        subst hkn
        have hrt : r = true := HR.out.2 (fun x hx => HALL.out x (by have := HFL.out; omega))
        subst hrt
        go_wp2_with fail
        go_ret2
        exact ⟨rfl, HB.out⟩
  · have HP := hide hp
    clear hp hfl hz
    go_enter Try.func32, Try.ntmps32
    go_wp2_with fail
    refine (mapS_any _ _ _ f _ _ _ s false _ (HZ.out.later HB0.out) (by simp [HP.out])).mono ?_
    rintro e w1 ⟨rfl, hb1⟩
    have HB1 := hide (HB0.out.trans (hb1.mono HB0.out.size))
    clear hb1
    go_wp2_with fail
    go_ret2
    exact ⟨rfl, HB1.out⟩
end Go.Proofs.Ytanldiildinbdaa
