import Derived.Test.YtgahmfkmhaeniaaLessS
namespace Go.Proofs.Ytgahmfkmhaeniaa
open Go Go.RowKit
set_option maxHeartbeats 1000000

theorem less2_any (A B : Option Addr) (n c d : Nat) (xs ys : List (List Int)) (w : World) (hn : xs.length = n) (hm : ys.length = n) (hb : n ≤ 1048576) (hxs : ∀ i, i < xs.length → (xs.getD i []).length = n) (hys : ∀ i, i < ys.length → (ys.getD i []).length = n) (hx : Rd2 w A xs) (hy : Rd2 w B ys) :
    Calls Try.prog 130 #[.slice A n c, .slice B n d] w fun e w' => e = .returned (.bool (lessT xs ys)) ∧ Quiet w w' := by
  have HN := hide hn
  have HM := hide hm
  clear hn hm
  go_enter Try.func130, Try.ntmps130
  go_wp2_with fail
  go_loopw [5] (fun i wr => ∃ k : Nat, k ≤ n ∧ i = .int .i64 k ∧ Quiet w wr ∧ lessT xs ys = lessT (xs.drop k) (ys.drop k)) (fun i _ => n - (intOf i).toNat)
  case atStart => exact ⟨0, Nat.zero_le _, rfl, Quiet.refl w, rfl⟩
  case round =>
    obtain ⟨k, hk, rfl, hq, hall⟩ := hrel
    have HQ := hide hq
    have HALL := hide hall
    clear hq hall
    by_cases hlt : k < n
    · obtain ⟨b, o, rfl, _, hc⟩ := HQ.out.rd2 hx (by have := HN.out; omega)
      obtain ⟨b2, o2, rfl, _, hc2⟩ := HQ.out.rd2 hy (by have := HM.out; omega)
      obtain ⟨A1, c1, h1, r1⟩ := hc k (by have := HN.out; omega)
      obtain ⟨A2, c2, h2, r2⟩ := hc2 k (by have := HM.out; omega)
      have l1 := hxs k (by have := HN.out; omega)
      have l2 := hys k (by have := HM.out; omega)
      have e1 := drop_cons2 xs k (by have := HN.out; omega)
      have e2 := drop_cons2 ys k (by have := HM.out; omega)
      obtain ⟨x, hx⟩ : ∃ x, xs.getD k [] = x := ⟨_, rfl⟩
      obtain ⟨y, hy⟩ : ∃ y, ys.getD k [] = y := ⟨_, rfl⟩
      rw [hx] at h1 e1 r1 l1
      rw [hy] at h2 e2 r2 l2
      rw [l1] at h1
      rw [l2] at h2
      have E1 := hide e1
      have E2 := hide e2
      have L1 := hide l1
      have L2 := hide l2
      have R1 := hide r1
      have R2 := hide r2
      clear hx hy hc hc2 e1 e2 l1 l2 hxs hys r1 r2
      have hltz : (k : Int) < n := by omega
      by_cases hxy : x = y
      · subst hxy
        go_wp2_with fail
        go_quiet ((go_at_call 82; exact quiet_call (same_any _ _ _ _ _ _ x x true _ L1.out L1.out (by omega) (by omega) R1.out R2.out (by simp))))
        go_wp2_with fail
        go_roundw
        case rel =>
          refine ⟨k + 1, by omega, by go_num, HQ.out.drewN _, ?_⟩
          rw [HALL.out, E1.out, E2.out, lessT, if_pos rfl]
        case measure => simp [intOf]; omega
      · have HNE := hide hxy
        clear hxy
        have hres : lessT xs ys = lessL x y := by
          rw [HALL.out, E1.out, E2.out, lessT, if_neg HNE.out]
        have HRES := hide hres
        clear hres
        go_wp2_with fail
        go_quiet ((go_at_call 82; exact quiet_call (same_any _ _ _ _ _ _ x y false _ L1.out L2.out (by omega) (by omega) R1.out R2.out (by simp [HNE.out]))))
        obtain ⟨w5, hw5⟩ : ∃ w5, wr.drewN nq = w5 := ⟨_, rfl⟩
        have h1' : w5.cell? ⟨b, o + k, none⟩ = some (.slice A1 n c1) := by subst hw5; exact h1
        have h2' : w5.cell? ⟨b2, o2 + k, none⟩ = some (.slice A2 n c2) := by subst hw5; exact h2
        have R1' : Hid (Rd w5 A1 x) := hide (by subst hw5; exact R1.out)
        have R2' : Hid (Rd w5 A2 y) := hide (by subst hw5; exact R2.out)
        have HQ5 : Hid (Quiet w w5) := hide (by subst hw5; exact HQ.out.drewN _)
        rw [hw5]
        clear h1 h2 hw5
        go_wp2_with fail
        go_quiet ((go_at_call 143; exact quiet_call (less_any _ _ _ _ _ x y _ L1.out L2.out hb R1'.out R2'.out)))
        go_wp2_with fail
        go_ret
        exact ⟨by rw [HRES.out]; rfl, HQ5.out.drewN _⟩
    · have hkn : k = n := by omega
      subst hkn
      go_wp2_with fail
      go_ret
      have h := HALL.out
      rw [List.drop_of_length_le (by have := HN.out; omega), List.drop_of_length_le (by have := HM.out; omega)] at h
      exact ⟨by rw [h]; simp [lessT], HQ.out⟩
end Go.Proofs.Ytgahmfkmhaeniaa
