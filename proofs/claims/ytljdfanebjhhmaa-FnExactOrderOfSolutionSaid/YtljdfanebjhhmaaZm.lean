import Derived.Test.YtljdfanebjhhmaaZi
namespace Go.Proofs.Ytljdfanebjhhmaa
open Go Go.RowKit

def isP (n : Nat) (p : List Int) : Bool := (p.all fun x => decide (0 ≤ x) && decide (x < (n : Int))) && ((List.range n).all fun y => p.any fun x => x == Int.ofNat y)
theorem isP1 : ((permsS 1).all (isP 1)) = true := by decide +kernel
theorem isP2 : ((permsS 2).all (isP 2)) = true := by decide +kernel
theorem isP3 : ((permsS 3).all (isP 3)) = true := by decide +kernel
theorem isP4 : ((permsS 4).all (isP 4)) = true := by decide +kernel
theorem isP5 : ((permsS 5).all (isP 5)) = true := by decide +kernel
theorem isP6 : ((permsS 6).all (isP 6)) = true := by decide +kernel
theorem isP7 : ((permsS 7).all (isP 7)) = true := by decide +kernel
theorem isP_all (n : Nat) (h1 : 1 ≤ n) (h2 : n ≤ 7) : (permsS n).all (isP n) = true := by
  match n, h1, h2 with
  | 1, _, _ => exact isP1
  | 2, _, _ => exact isP2
  | 3, _, _ => exact isP3
  | 4, _, _ => exact isP4
  | 5, _, _ => exact isP5
  | 6, _, _ => exact isP6
  | 7, _, _ => exact isP7

theorem perms_isP (n : Nat) (h1 : 1 ≤ n) (h2 : n ≤ 7) (k : Nat) (hk : k < (permsS n).length) :
    (∀ x ∈ (permsS n).getD k [], 0 ≤ x ∧ x < (n : Int)) ∧ ∀ y, y < n → ∃ i, i < n ∧ (((permsS n).getD k []).getD i 0).toNat = y := by
  have h := isP_all n h1 h2
  have e : (permsS n).getD k [] = (permsS n)[k] := by simp [hk]
  have hl := (perms_all n h1 h2).len k hk
  have hp := List.all_eq_true.1 h ((permsS n)[k]) (List.getElem_mem hk)
  rw [← e] at hp
  obtain ⟨p, hpe⟩ : ∃ p, p = (permsS n).getD k [] := ⟨_, rfl⟩
  rw [← hpe] at hp hl ⊢
  clear hpe e h
  unfold isP at hp
  rw [Bool.and_eq_true, List.all_eq_true, List.all_eq_true] at hp
  refine ⟨fun x hx => ?_, fun y hy => ?_⟩
  · have := hp.1 x hx
    simpa using this
  · have := hp.2 y (List.mem_range.2 hy)
    rw [List.any_eq_true] at this
    obtain ⟨x, hx, he⟩ := this
    have hxy : x = (y : Int) := by simpa using he
    obtain ⟨i, hi, hxi⟩ := List.getElem_of_mem hx
    refine ⟨i, by omega, ?_⟩
    have : p.getD i 0 = x := by simp [hi, hxi]
    rw [this, hxy]
    simp
end Go.Proofs.Ytljdfanebjhhmaa
namespace Go.Proofs.Ytljdfanebjhhmaa
open Go Go.RowKit
set_option maxHeartbeats 1000000

theorem cmpF_any (A B : Option Addr) (n c d : Nat) (xs ys : List (List Int)) (w : World) (hn : xs.length = n) (hm : ys.length = n) (hb : n ≤ 1048576) (hxs : ∀ i, i < xs.length → (xs.getD i []).length = n) (hys : ∀ i, i < ys.length → (ys.getD i []).length = n) (hx : Rd2 w A xs) (hy : Rd2 w B ys) :
    Calls Try.prog 111 #[.slice A n c, .slice B n d, .func (.func 112) #[] #[]] w fun e w' => e = .returned (.int .i64 (cmpT xs ys)) ∧ Quiet w w' := by
  have HN := hide hn
  have HM := hide hm
  clear hn hm
  go_enter Try.func111, Try.ntmps111
  go_wp2_with fail
  go_loopw [13] (fun i wr => ∃ k : Nat, k ≤ n ∧ i = .int .i64 k ∧ Quiet w wr ∧ cmpT xs ys = cmpT (xs.drop k) (ys.drop k)) (fun i _ => n - (intOf i).toNat)
  case atStart => exact ⟨0, Nat.zero_le _, rfl, Quiet.refl w, rfl⟩
  case round =>
    obtain ⟨k, hk, rfl, hq, hall⟩ := hrel
    have HQ := hide hq
    have HALL := hide hall
    clear hq hall
    by_cases hlt : k < n
    · obtain ⟨b, o, rfl, _, hc⟩ := HQ.out.rd2 hx (by have := HN.out; omega)
      obtain ⟨b2, o2, rfl, _, hc2⟩ := HQ.out.rd2 hy (by have := HM.out; omega)
      obtain ⟨A1, c1, h1, r1⟩ := hc k (by have := HN.out; omega)
      obtain ⟨A2, c2, h2, r2⟩ := hc2 k (by have := HM.out; omega)
      have l1 := hxs k (by have := HN.out; omega)
      have l2 := hys k (by have := HM.out; omega)
      have e1 := drop_cons2 xs k (by have := HN.out; omega)
      have e2 := drop_cons2 ys k (by have := HM.out; omega)
      obtain ⟨x, hx⟩ : ∃ x, xs.getD k [] = x := ⟨_, rfl⟩
      obtain ⟨y, hy⟩ : ∃ y, ys.getD k [] = y := ⟨_, rfl⟩
      rw [hx] at h1 e1 r1 l1
      rw [hy] at h2 e2 r2 l2
      rw [l1] at h1
      rw [l2] at h2
      have E1 := hide e1
      have E2 := hide e2
      have L1 := hide l1
      have L2 := hide l2
      obtain ⟨v, hv⟩ : ∃ v, cmpL x y = v := ⟨_, rfl⟩
      have HV := hide hv
      clear hx hy hc hc2 e1 e2 hv l1 l2 hxs hys
      have hltz : (k : Int) < n := by omega
      by_cases hv0 : v = 0
      · subst hv0
        go_wp2_with fail
        refine (cmpR_any _ _ _ _ _ x y _ L1.out L2.out (by omega) r1 r2).mono ?_
        rintro e w2 ⟨rfl, hq2⟩
        have HQ2 := hide hq2
        rw [HV.out]
        clear hq2
        go_wp2_with fail
        go_roundw
        case rel =>
          refine ⟨k + 1, by omega, by go_num, HQ.out.trans HQ2.out, ?_⟩
          rw [HALL.out, E1.out, E2.out, cmpT, if_pos HV.out]
        case measure => simp [intOf]; omega
      · have hne : (v != 0) = true := by simpa using hv0
        have HV0 := hide hv0
        clear hv0
        go_wp2_with fail
        refine (cmpR_any _ _ _ _ _ x y _ L1.out L2.out (by omega) r1 r2).mono ?_
        rintro e w2 ⟨rfl, hq2⟩
        have HQ2 := hide hq2
        rw [HV.out]
        clear hq2
        go_wp2_with fail
        go_ret
        have hres : cmpT xs ys = v := by
          rw [HALL.out, E1.out, E2.out, cmpT, HV.out, if_neg HV0.out]
        exact ⟨by rw [hres]; rfl, HQ.out.trans HQ2.out⟩
    · have hkn : k = n := by omega
      subst hkn
      go_wp2_with fail
      go_ret
      have h := HALL.out
      rw [List.drop_of_length_le (by have := HN.out; omega), List.drop_of_length_le (by have := HM.out; omega)] at h
      exact ⟨by rw [h]; rfl, HQ.out⟩

theorem compareTables_any (A B : Option Addr) (n c d : Nat) (xs ys : List (List Int)) (v : Int) (w : World) (hn : xs.length = n) (hm : ys.length = n) (hb : n ≤ 1048576) (hxs : ∀ i, i < xs.length → (xs.getD i []).length = n) (hys : ∀ i, i < ys.length → (ys.getD i []).length = n) (hx : Rd2 w A xs) (hy : Rd2 w B ys) (hv : cmpT xs ys = v) :
    Calls Try.prog 90 #[.slice A n c, .slice B n d] w fun e w' => e = .returned (.int .i64 v) ∧ Quiet w w' := by
  have HN := hide hn
  have HM := hide hm
  have HV := hide hv
  clear hn hm hv
  go_enter Try.func90, Try.ntmps90
  go_wp2_with fail
  refine (cmpF_any _ _ _ _ _ xs ys _ HN.out HM.out hb hxs hys hx hy).mono ?_
  rintro e w2 ⟨rfl, hq2⟩
  rw [HV.out]
  have HQ2 := hide hq2
  clear hq2
  go_wp2_with fail
  go_ret
  exact ⟨rfl, HQ2.out⟩
end Go.Proofs.Ytljdfanebjhhmaa
namespace Go.Proofs.Ytljdfanebjhhmaa
open Go Go.RowKit
set_option maxHeartbeats 1000000

set_option maxRecDepth 100000 in
theorem befS_any (ba ca bb cb : Nat) (A B : Option Addr) (n c d : Nat) (xs ys : List (List Int)) (w : World) (hn : xs.length = n) (hm : ys.length = n) (hb : n ≤ 1048576) (hxs : ∀ i, i < xs.length → (xs.getD i []).length = n) (hys : ∀ i, i < ys.length → (ys.getD i []).length = n) (ha : w.cell? ⟨ba, 0, none⟩ = some (.slice A n c)) (hbc : w.cell? ⟨bb, 0, none⟩ = some (.slice B n d)) (hx : Rd2 w A xs) (hy : Rd2 w B ys) :
    Calls Try.prog 87 #[.slice (some ⟨ba, 0, none⟩) 1 ca, .slice (some ⟨bb, 0, none⟩) 1 cb] w fun e w' => e = .returned (.bool (lessT xs ys)) ∧ Quiet w w' := by
  have HN := hide hn
  have HM := hide hm
  have HA := hide ha
  have HBB := hide hbc
  clear hn hm ha hbc
  go_enter Try.func87, Try.ntmps87
  go_wp2_with fail
  go_loopw [5] (fun i wr => ∃ q : Nat, q ≤ 1 ∧ i = .int .i64 q ∧ Quiet w wr ∧ (q = 1 → lessT xs ys = false)) (fun i _ => 1 - (intOf i).toNat)
  case atStart => exact ⟨0, Nat.zero_le _, rfl, Quiet.refl w, fun h => by cases h⟩
  case round =>
    obtain ⟨q, hq1, rfl, hq, hfin⟩ := hrel
    have HQ := hide hq
    clear hq
    by_cases hlq : q < 1
    · have hq0 : q = 0 := by omega
      subst hq0
      clear hfin
      have ha2 := (HQ.out.cell ⟨ba, 0, none⟩).trans HA.out
      go_wp2_with fail
      clear ha2
      go_loopw [6] (fun i wi => ∃ k : Nat, k ≤ n ∧ i = .int .i64 k ∧ Quiet w wi ∧ lessT xs ys = lessT (xs.drop k) (ys.drop k)) (fun i _ => n - (intOf i).toNat)
      case atStart => exact ⟨0, Nat.zero_le _, rfl, HQ.out, rfl⟩
      case round =>
        clear HQ
        obtain ⟨k, hk, rfl, hq, hall⟩ := hrel
        have HQ := hide hq
        have HALL := hide hall
        clear hq hall
        by_cases hlt : k < n
        · have ha2 := (HQ.out.cell ⟨ba, 0, none⟩).trans HA.out
          have hb2 := (HQ.out.cell ⟨bb, 0, none⟩).trans HBB.out
          obtain ⟨b, o, rfl, _, hc⟩ := HQ.out.rd2 hx (by have := HN.out; omega)
          obtain ⟨b2, o2, rfl, _, hc2⟩ := HQ.out.rd2 hy (by have := HM.out; omega)
          obtain ⟨A1, c1, h1, r1⟩ := hc k (by have := HN.out; omega)
          obtain ⟨A2, c2, h2, r2⟩ := hc2 k (by have := HM.out; omega)
          have l1 := hxs k (by have := HN.out; omega)
          have l2 := hys k (by have := HM.out; omega)
          have e1 := drop_cons2 xs k (by have := HN.out; omega)
          have e2 := drop_cons2 ys k (by have := HM.out; omega)
          obtain ⟨x, hx⟩ : ∃ x, xs.getD k [] = x := ⟨_, rfl⟩
          obtain ⟨y, hy⟩ : ∃ y, ys.getD k [] = y := ⟨_, rfl⟩
          rw [hx] at h1 e1 r1 l1
          rw [hy] at h2 e2 r2 l2
          rw [l1] at h1
          rw [l2] at h2
          have E1 := hide e1
          have E2 := hide e2
          have L1 := hide l1
          have L2 := hide l2
          have R1 := hide r1
          have R2 := hide r2
          clear hx hy hc hc2 e1 e2 l1 l2 hxs hys r1 r2
          have hltz : (k : Int) < n := by omega
          by_cases hxy : x = y
          · subst hxy
            go_wp2_with fail
            go_quiet ((go_at_call 108; exact quiet_call (same_any _ _ _ _ _ _ x x true _ L1.out L1.out (by omega) (by omega) R1.out R2.out (by simp))))
            go_wp2_with fail
            go_roundw
            case rel =>
              refine ⟨k + 1, by omega, by go_num, HQ.out.drewN _, ?_⟩
              rw [HALL.out, E1.out, E2.out, lessT, if_pos rfl]
            case measure => simp [intOf]; omega
          · have HNE := hide hxy
            clear hxy
            have hres : lessT xs ys = lessL x y := by
              rw [HALL.out, E1.out, E2.out, lessT, if_neg HNE.out]
            have HRES := hide hres
            clear hres
            go_wp2_with fail
            go_quiet ((go_at_call 108; exact quiet_call (same_any _ _ _ _ _ _ x y false _ L1.out L2.out (by omega) (by omega) R1.out R2.out (by simp [HNE.out]))))
            obtain ⟨w5, hw5⟩ : ∃ w5, wr.drewN nq = w5 := ⟨_, rfl⟩
            have a5 : w5.cell? ⟨ba, 0, none⟩ = some (.slice (some ⟨b, o, none⟩) n c) := by subst hw5; exact ha2
            have b5 : w5.cell? ⟨bb, 0, none⟩ = some (.slice (some ⟨b2, o2, none⟩) n d) := by subst hw5; exact hb2
            have h1' : w5.cell? ⟨b, o + k, none⟩ = some (.slice A1 n c1) := by subst hw5; exact h1
            have h2' : w5.cell? ⟨b2, o2 + k, none⟩ = some (.slice A2 n c2) := by subst hw5; exact h2
            have R1' : Hid (Rd w5 A1 x) := hide (by subst hw5; exact R1.out)
            have R2' : Hid (Rd w5 A2 y) := hide (by subst hw5; exact R2.out)
            have HQ5 : Hid (Quiet w w5) := hide (by subst hw5; exact HQ.out.drewN _)
            rw [hw5]
            clear h1 h2 ha2 hb2 hw5
            go_wp2_with fail
            go_quiet ((go_at_call 109; exact quiet_call (less_any _ _ _ _ _ x y _ L1.out L2.out hb R1'.out R2'.out)))
            go_wp2_with fail
            go_ret
            exact ⟨by rw [HRES.out]; rfl, HQ5.out.drewN _⟩
        · have hkn : k = n := by omega
          subst hkn
          have ha2 := (HQ.out.cell ⟨ba, 0, none⟩).trans HA.out
          go_wp2_with fail
          go_roundw
          case rel => exact ⟨1, by omega, by go_num, HQ.out, fun _ => by
            have h := HALL.out
            rw [List.drop_of_length_le (by have := HN.out; omega), List.drop_of_length_le (by have := HM.out; omega)] at h
            rw [h]; rfl⟩
          case measure => simp [intOf]
    · have hq1 : q = 1 := by omega
      subst hq1
      have hf := hfin rfl
      go_wp2_with fail
      go_ret
      exact ⟨rfl, HQ.out⟩
end Go.Proofs.Ytljdfanebjhhmaa
