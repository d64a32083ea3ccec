import Derived.Test.YtkflmhmbkilmpabCmpI
namespace Go.Proofs.Ytkflmhmbkilmpab
open Go Go.RowKit
set_option maxHeartbeats 1000000

theorem cmpF_any (A B : Option Addr) (n c d : Nat) (xs ys : List (List Int)) (w : World) (hn : xs.length = n) (hm : ys.length = n) (hb : n ≤ 1048576) (hxs : ∀ i, i < xs.length → (xs.getD i []).length = n) (hys : ∀ i, i < ys.length → (ys.getD i []).length = n) (hx : Rd2 w A xs) (hy : Rd2 w B ys) :
    Calls Try.prog 98 #[.slice A n c, .slice B n d, .func (.func 99) #[] #[]] w fun e w' => e = .returned (.int .i64 (cmpT xs ys)) ∧ Quiet w w' := by
  have HN := hide hn
  have HM := hide hm
  clear hn hm
  go_enter Try.func98, Try.ntmps98
  go_wp2_with fail
  go_loopw [13] (fun i wr => ∃ k : Nat, k ≤ n ∧ i = .int .i64 k ∧ Quiet w wr ∧ cmpT xs ys = cmpT (xs.drop k) (ys.drop k)) (fun i _ => n - (intOf i).toNat)
  case atStart => exact ⟨0, Nat.zero_le _, rfl, Quiet.refl w, rfl⟩
  case round =>
    obtain ⟨k, hk, rfl, hq, hall⟩ := hrel
    have HQ := hide hq
    have HALL := hide hall
    clear hq hall
    by_cases hlt : k < n
    · obtain ⟨b, o, rfl, _, hc⟩ := HQ.out.rd2 hx (by have := HN.out; omega)
      obtain ⟨b2, o2, rfl, _, hc2⟩ := HQ.out.rd2 hy (by have := HM.out; omega)
      obtain ⟨A1, c1, h1, r1⟩ := hc k (by have := HN.out; omega)
      obtain ⟨A2, c2, h2, r2⟩ := hc2 k (by have := HM.out; omega)
      have l1 := hxs k (by have := HN.out; omega)
      have l2 := hys k (by have := HM.out; omega)
      have e1 := drop_cons2 xs k (by have := HN.out; omega)
      have e2 := drop_cons2 ys k (by have := HM.out; omega)
      obtain ⟨x, hx⟩ : ∃ x, xs.getD k [] = x := ⟨_, rfl⟩
      obtain ⟨y, hy⟩ : ∃ y, ys.getD k [] = y := ⟨_, rfl⟩
      rw [hx] at h1 e1 r1 l1
      rw [hy] at h2 e2 r2 l2
      rw [l1] at h1
      rw [l2] at h2
      have E1 := hide e1
      have E2 := hide e2
      have L1 := hide l1
      have L2 := hide l2
      obtain ⟨v, hv⟩ : ∃ v, cmpL x y = v := ⟨_, rfl⟩
      have HV := hide hv
      clear hx hy hc hc2 e1 e2 hv l1 l2 hxs hys
      have hltz : (k : Int) < n := by omega
      by_cases hv0 : v = 0
      · subst hv0
        go_wp2_with fail
        refine (cmpR_any _ _ _ _ _ x y _ L1.out L2.out (by omega) r1 r2).mono ?_
        rintro e w2 ⟨rfl, hq2⟩
        have HQ2 := hide hq2
        rw [HV.out]
        clear hq2
        go_wp2_with fail
        go_roundw
        case rel =>
          refine ⟨k + 1, by omega, by go_num, HQ.out.trans HQ2.out, ?_⟩
          rw [HALL.out, E1.out, E2.out, cmpT, if_pos HV.out]
        case measure => simp [intOf]; omega
      · have hne : (v != 0) = true := by simpa using hv0
        have HV0 := hide hv0
        clear hv0
        go_wp2_with fail
        refine (cmpR_any _ _ _ _ _ x y _ L1.out L2.out (by omega) r1 r2).mono ?_
        rintro e w2 ⟨rfl, hq2⟩
        have HQ2 := hide hq2
        rw [HV.out]
        clear hq2
        go_wp2_with fail
        go_ret
        have hres : cmpT xs ys = v := by
          rw [HALL.out, E1.out, E2.out, cmpT, HV.out, if_neg HV0.out]
        exact ⟨by rw [hres]; rfl, HQ.out.trans HQ2.out⟩
    · have hkn : k = n := by omega
      subst hkn
      go_wp2_with fail
      go_ret
      have h := HALL.out
      rw [List.drop_of_length_le (by have := HN.out; omega), List.drop_of_length_le (by have := HM.out; omega)] at h
      exact ⟨by rw [h]; rfl, HQ.out⟩

theorem compareTables_any (A B : Option Addr) (n c d : Nat) (xs ys : List (List Int)) (v : Int) (w : World) (hn : xs.length = n) (hm : ys.length = n) (hb : n ≤ 1048576) (hxs : ∀ i, i < xs.length → (xs.getD i []).length = n) (hys : ∀ i, i < ys.length → (ys.getD i []).length = n) (hx : Rd2 w A xs) (hy : Rd2 w B ys) (hv : cmpT xs ys = v) :
    Calls Try.prog 83 #[.slice A n c, .slice B n d] w fun e w' => e = .returned (.int .i64 v) ∧ Quiet w w' := by
  have HN := hide hn
  have HM := hide hm
  have HV := hide hv
  clear hn hm hv
  go_enter Try.func83, Try.ntmps83
  go_wp2_with fail
  refine (cmpF_any _ _ _ _ _ xs ys _ HN.out HM.out hb hxs hys hx hy).mono ?_
  rintro e w2 ⟨rfl, hq2⟩
  rw [HV.out]
  have HQ2 := hide hq2
  clear hq2
  go_wp2_with fail
  go_ret
  exact ⟨rfl, HQ2.out⟩
end Go.Proofs.Ytkflmhmbkilmpab
