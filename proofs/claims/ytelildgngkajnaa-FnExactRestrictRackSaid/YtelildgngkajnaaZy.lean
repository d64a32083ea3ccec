import Derived.Test.YtelildgngkajnaaZx
import Derived.Test.YtelildgngkajnaaZt
import Derived.Test.YtelildgngkajnaaZb
import Derived.Test.YtelildgngkajnaaZa
namespace Go.Proofs.Ytelildgngkajnaa
open Go Go.RowKit
set_option maxHeartbeats 2000000
theorem actM_any (A : Option Addr) (n c : Nat) (f : List (List Int)) (w : World) (hn : f.length = n) (ht : Tbl f) (hr : Rd2 w A f) : MadeFn Try.prog 93 #[.agg #[.slice A n c]] #[] n f w := fun W x y hx hy hb => by
  show Calls Try.prog 93 #[.agg #[.slice A n c], .int .i64 x, .int .i64 y] W _
  exact act_any A n c f x y (ap f x y) W hn ht (hr.later hb) hx hy rfl

set_option maxRecDepth 100000 in
theorem grownK_any (A : Option Addr) (n c : Nat) (f : List (List Int)) (S : Nat) (w : World) (hn : f.length = n) (ht : Tbl f) (hr : Rd2 w A f) (hS : S < 2 ^ n) :
    Calls Try.prog 92 #[.int .i64 S, .func (.func 93) #[.agg #[.slice A n c]] #[]] w fun e w' => ∃ V : Nat, e = .returned (.int .i64 V) ∧ Below w.heap.size w w' ∧ GrF f S V ∧ V < 2 ^ n :=
  grownF_any 93 #[.agg #[.slice A n c]] #[] n f S w (fun _ _ => rfl) (by rw [← hn]; exact ht.2.1) (fun _ _ hx hy => ht.ap_lt hn hx hy) hS (actM_any A n c f w hn ht hr)

set_option maxRecDepth 100000 in
theorem isSubrack_any (A : Option Addr) (n c : Nat) (f : List (List Int)) (S : Nat) (r : Bool) (w : World) (hn : f.length = n) (ht : Tbl f) (hr : Rd2 w A f) (hS : S < 2 ^ n) (hres : r = true ↔ SubF f S) :
    Calls Try.prog 91 #[.agg #[.slice A n c], .int .i64 S] w fun e w' => e = .returned (.bool r) ∧ Below w.heap.size w w' := by
  have HN := hide hn
  have HTB := hide ht
  have HR := hide hr
  have HRES := hide hres
  have HB0 := hide ((Below.refl _ w).alloc (Nat.le_refl _) (Obj.cells #[Value.slice A n c] 53))
  have HK0 := hide (Blk.new w 53 [.slice A n c])
  clear hn ht hr hres
  by_cases h0 : S = 0
  · subst h0
    have hrf : r = false := by
      cases r
      · rfl
      · exact absurd rfl (HRES.out.1 rfl).1
    subst hrf
    go_enter Try.func91, Try.ntmps91
    go_wp2_with fail
    go_ret
    exact ⟨rfl, HB0.out⟩
  · have h0z : ((S : Int) == 0) = false := by simpa using h0
    have h0z2 : ((S : Int) != 0) = true := by simpa using h0
    have HNZ := hide h0
    have HS := hide hS
    clear h0 hS
    go_enter Try.func91, Try.ntmps91
    have k0 := HK0.out.cell 0 _ rfl
    go_wp2_with fail
    clear k0
    refine (grownF_any 93 #[.agg #[.slice A n c]] #[] n f S _ (fun _ _ => rfl) (by rw [← HN.out]; exact HTB.out.2.1) (fun x y hx hy => HTB.out.ap_lt HN.out hx hy) HS.out (actM_any A n c f _ HN.out HTB.out (HR.out.later HB0.out))).mono ?_
    rintro e w1 ⟨V, rfl, hb1, hg, hv⟩
    have HB1 := hide (HB0.out.trans (hb1.mono HB0.out.size))
    have HG := hide hg
    clear hb1 hg hv
    by_cases he : V = S
    · have hrt : r = true := HRES.out.2 ⟨HNZ.out, HG.out.closed.1 he⟩
      subst hrt
      subst he
      go_wp2_with fail
      go_ret
      exact ⟨rfl, HB1.out⟩
    · have hrf : r = false := by
        cases r
        · rfl
        · exact absurd (HG.out.closed.2 (HRES.out.1 rfl).2) he
      subst hrf
      have hez : ((V : Int) == (S : Int)) = false := by simpa using fun h => he (by omega)
      go_wp2_with fail
      go_ret
      exact ⟨rfl, HB1.out⟩
end Go.Proofs.Ytelildgngkajnaa
namespace Go.Proofs.Ytelildgngkajnaa
open Go Go.RowKit
set_option maxHeartbeats 1000000

theorem areEls_any (n : Nat) (B : Option Addr) (m d : Nat) (xs : List Int) (r : Bool) (w : World) (hm : xs.length = m) (hb : m ≤ 1048576) (hr : Rd w B xs) (hres : r = true ↔ Els n xs) :
    Calls Try.prog 88 #[.int .i64 n, .slice B m d] w fun e w' => e = .returned (.bool r) ∧ Below w.heap.size w w' := (els_any n B m d xs r w hm (by omega) hr (by rw [hres]; unfold Els; rw [hm])).mono fun _ _ ⟨he, hq⟩ => ⟨he, hq.below _⟩

set_option maxRecDepth 100000 in
theorem setOf_any (n : Nat) (B : Option Addr) (m d : Nat) (xs : List Int) (w : World) (hn : n ≤ 12) (hm : xs.length = m) (hb : m ≤ 1048576) (hr : Rd w B xs) (he : Els n xs) :
    Calls Try.prog 90 #[.slice B m d] w fun e w' => e = .returned (.int .i64 (sN xs m)) ∧ Below w.heap.size w w' := by
  have HM := hide hm
  have HE := hide he
  have HR := hide hr
  clear hm he hr
  go_enter Try.func90, Try.ntmps90
  go_wp2_with fail
  go_loopw [3, 8] (fun s i wr => ∃ k : Nat, k ≤ m ∧ i = .int .i64 k ∧ s = .int .i64 (sN xs k) ∧ Below w.heap.size w wr) (fun _ i _ => m - (intOf i).toNat)
  case atStart => exact ⟨0, Nat.zero_le _, rfl, rfl, Below.refl _ _⟩
  case round =>
    obtain ⟨k, hk, rfl, rfl, hbe⟩ := hrel
    have HB := hide hbe
    clear hbe
    have hS : sN xs k < 4096 := Nat.lt_of_lt_of_le (sN_lt HE.out (by have := HM.out; omega)) (pow_le n hn)
    have hs1 : sN xs (k + 1) = sN xs k ||| 2 ^ el xs k := rfl
    obtain ⟨S, hSe⟩ : ∃ S, sN xs k = S := ⟨_, rfl⟩
    rw [hSe] at hS hs1 ⊢
    have HSE := hide hSe
    clear hSe
    by_cases hlt : k < m
    · obtain ⟨b, o, rfl, hbw, hc⟩ := HR.out (by have := HM.out; omega)
      have hv := HE.out.val (i := k) (by have := HM.out; omega)
      have hc1 := (HB.out.cell (p := ⟨b, o + k, none⟩) hbw).trans (hc k (by have := HM.out; omega))
      rw [hv.1] at hc1
      have hv2 := hv.2
      obtain ⟨v, hve⟩ : ∃ v, el xs k = v := ⟨_, rfl⟩
      rw [hve] at hc1 hs1 hv2
      have hltz : (k : Int) < m := by omega
      obtain ⟨p, hp⟩ : ∃ p, 2 ^ v = p := ⟨_, rfl⟩
      have hp12 : p < 4096 := by rw [← hp]; exact Nat.lt_of_lt_of_le (Nat.pow_lt_pow_right (by decide) (by omega : v < 12)) (Nat.le_refl _)
      have g1 : (2 : Int) ^ v = (p : Int) := by rw [← hp]; simp
      have g2 := bt_or S p (by omega) (by omega)
      rw [hp] at hs1
      have hS2 : sN xs (k + 1) < 4096 := Nat.lt_of_lt_of_le (sN_lt HE.out (by have := HM.out; omega)) (pow_le n hn)
      obtain ⟨S2, hS2e⟩ : ∃ S2, S ||| p = S2 := ⟨_, rfl⟩
      rw [hS2e] at hs1 g2
      rw [hs1] at hS2
      have HS1 := hide hs1
      clear hve hp hS2e hs1 hc hv
      go_wp2_with fail
      go_roundw
      case rel => exact ⟨k + 1, by omega, by go_num, by rw [HS1.out], HB.out⟩
      case measure => simp [intOf]; omega
    · have hkn : k = m := by omega
      subst hkn
      go_wp2_with fail
      go_ret
      exact ⟨by rw [HSE.out]; rfl, HB.out⟩
end Go.Proofs.Ytelildgngkajnaa
namespace Go.Proofs.Ytelildgngkajnaa
open Go Go.RowKit
set_option maxHeartbeats 1000000

set_option maxRecDepth 100000 in
theorem l04Elements_any (n : Nat) (B : Option Addr) (m d : Nat) (xs : List Int) (r : Bool) (w : World) (hn : n ≤ 1048576) (hm : xs.length = m) (hb : m ≤ 1048576) (hr : Rd w B xs) (hres : r = true ↔ Els n xs) :
    Calls Try.prog 84 #[.int .i64 n, .slice B m d] w fun e w' => e = .returned (.bool r) ∧ Below w.heap.size w w' := by
  have HM := hide hm
  have HRES := hide hres
  have HR := hide hr
  clear hm hres hr
  go_enter Try.func84, Try.ntmps84
  go_wp2_with fail
  go_loopw [5] (fun i wr => ∃ k : Nat, k ≤ m ∧ i = .int .i64 k ∧ Below w.heap.size w wr ∧ ∀ j, j < k → 0 ≤ xs.getD j 0 ∧ xs.getD j 0 < (n : Int)) (fun i _ => m - (intOf i).toNat)
  case atStart => exact ⟨0, Nat.zero_le _, rfl, Below.refl _ _, fun j hj => absurd hj (Nat.not_lt_zero _)⟩
  case round =>
    obtain ⟨k, hk, rfl, hbe, hall⟩ := hrel
    have HB := hide hbe
    have HALL := hide hall
    clear hbe hall
    by_cases hlt : k < m
    · obtain ⟨b, o, rfl, hbw, hc⟩ := HR.out (by have := HM.out; omega)
      have hc1 := (HB.out.cell (p := ⟨b, o + k, none⟩) hbw).trans (hc k (by have := HM.out; omega))
      have hltz : (k : Int) < m := by omega
      obtain ⟨x, hx⟩ : ∃ x, xs.getD k 0 = x := ⟨_, rfl⟩
      rw [hx] at hc1
      have HX := hide hx
      clear hx hc
      by_cases h1 : 0 ≤ x ∧ x < (n : Int)
      · have HIN := hide h1
        clear h1
        go_wp2_with fail
        refine (in_any x 0 ((n : Int) - 1) true _ ⟨fun _ => by have := HIN.out; omega, fun _ => rfl⟩).mono ?_
        rintro e w5 ⟨rfl, hq5⟩
        have HB5 := hide (HB.out.trans (hq5.below _))
        clear hq5
        go_wp2_with fail
        go_roundw
        case rel => exact ⟨k + 1, by omega, by go_num, HB5.out, fun j hj => by
          by_cases e : j = k
          · rw [e, HX.out]; exact HIN.out
          · exact HALL.out j (by omega)⟩
        case measure => simp [intOf]; omega
      · have hrf : r = false := by
          cases r
          · rfl
          · exact absurd (by have h := HRES.out.1 rfl k (by have := HM.out; omega); rw [HX.out] at h; exact h) h1
        subst hrf
        have HIN := hide h1
        clear h1
        go_wp2_with fail
        refine (in_any x 0 ((n : Int) - 1) false _ (by simp only [Bool.false_eq_true, false_iff]; have := HIN.out; omega)).mono ?_
        rintro e w5 ⟨rfl, hq5⟩
        have HB5 := hide (HB.out.trans (hq5.below _))
        clear hq5
        go_wp2_with fail
        go_ret
        exact ⟨rfl, HB5.out⟩
    · have hkn : k = m := by omega
      subst hkn
      have hrt : r = true := HRES.out.2 fun i hi => HALL.out i (by have := HM.out; omega)
      subst hrt
      go_wp2_with fail
      go_ret
      exact ⟨rfl, HB.out⟩
end Go.Proofs.Ytelildgngkajnaa
