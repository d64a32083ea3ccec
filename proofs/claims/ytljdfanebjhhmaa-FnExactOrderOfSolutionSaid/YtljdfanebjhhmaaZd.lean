import Derived.Test.YtljdfanebjhhmaaZb
namespace Go.Proofs.Ytljdfanebjhhmaa
open Go Go.RowKit
set_option maxHeartbeats 400000

theorem l01Table_any (A : Option Addr) (n c : Nat) (rows : List (List Int)) (r : Bool) (w : World) (hn : rows.length = n) (hb : n ≤ 9223372036854775807) (hbs : ∀ i, i < rows.length → (rows.getD i []).length ≤ 9223372036854775807) (hr : Rd2 w A rows) (hrr : r = true ↔ Tbl rows) :
    Calls Try.prog 76 #[.slice A n c] w fun e w' => e = .returned (.bool r) ∧ Quiet w w' := by
  have HN := hide hn
  have HR := hide hrr
  clear hn hrr
  by_cases h12 : 1 ≤ n ∧ n ≤ 12
  · obtain ⟨h1, h2⟩ := h12
    have hno : ¬ Tbl rows → r = false := fun h => by
      cases r
      · rfl
      · exact absurd (HR.out.1 rfl) h
    have HNO := hide hno
    clear hno
    go_enter Try.func76, Try.ntmps76
    go_wp2_with (go_at_call 101; refine (in_any _ _ _ true _ (by simp; omega)).mono ?_; rintro e w1 ⟨rfl, hq1⟩)
    have HQ1 := hide hq1
    clear hq1
    go_loopw [4] (fun i wr => ∃ k : Nat, k ≤ n ∧ i = .int .i64 k ∧ Quiet w wr ∧ ∀ i, i < k → RowOk n (rows.getD i [])) (fun i _ => n - (intOf i).toNat)
    case atStart => exact ⟨0, Nat.zero_le _, rfl, HQ1.out, fun i hi => absurd hi (Nat.not_lt_zero _)⟩
    case round =>
      obtain ⟨k, hk, rfl, hq, hall⟩ := hrel
      have HQ := hide hq
      have HALL := hide hall
      clear hq hall
      by_cases hlt : k < n
      · obtain ⟨b, o, rfl, _, hc⟩ := HQ.out.rd2 hr (by have := HN.out; omega)
        obtain ⟨Ak, ck, hcell, hrd⟩ := hc k (by have := HN.out; omega)
        have hbk := hbs k (by have := HN.out; omega)
        obtain ⟨x, hx⟩ : ∃ x, x = rows.getD k [] := ⟨_, rfl⟩
        obtain ⟨m, hm⟩ : ∃ m, x.length = m := ⟨_, rfl⟩
        rw [← hx] at hcell hrd hbk
        rw [hm] at hcell hbk
        have HX := hide hx
        have HM := hide hm
        clear hx hm hc hbs
        have hltz : (k : Int) < n := by omega
        by_cases hmn : m = n
        · subst hmn
          go_wp2_with fail
          obtain ⟨wo, rfl⟩ : ∃ wo : World, wo = wr := ⟨_, rfl⟩
          go_loopw [5] (fun i wi => ∃ j : Nat, j ≤ m ∧ i = .int .i64 j ∧ Quiet wo wi ∧ ∀ i, i < j → 0 ≤ x.getD i 0 ∧ x.getD i 0 < (m : Int)) (fun i _ => m - (intOf i).toNat)
          case atStart => exact ⟨0, Nat.zero_le _, rfl, Quiet.refl _, fun i hi => absurd hi (Nat.not_lt_zero _)⟩
          case round =>
            obtain ⟨j, hj, rfl, hqi, hin⟩ := hrel
            have HIN := hide hin
            have HQI := hide hqi
            clear hin
            by_cases hjm : j < m
            · obtain ⟨b2, o2, rfl, _, hc2⟩ := hqi.rd hrd (by have := HM.out; omega)
              have hcell2 := (hqi.cell ⟨b, o + k, none⟩).trans hcell
              have hv := hc2 j (by have := HM.out; omega)
              obtain ⟨y, hy⟩ : ∃ y, y = x.getD j 0 := ⟨_, rfl⟩
              rw [← hy] at hv
              have HY := hide hy
              clear hy hc2 hqi hcell
              have hjz : (j : Int) < m := by omega
              by_cases hyr : 0 ≤ y ∧ y ≤ (m : Int) - 1
              · have HYR := hide hyr
                clear hyr
                go_wp2_with (go_at_call 101; refine (in_any _ _ _ true _ (by simp [HYR.out.1, HYR.out.2])).mono ?_; rintro e w1 ⟨rfl, hq1⟩)
                go_roundw
                case rel =>
                  refine ⟨j + 1, by omega, by go_num, HQI.out.trans hq1, fun i hi => ?_⟩
                  by_cases e : i = j
                  · subst e; rw [← HY.out]; have := HYR.out; exact ⟨this.1, by omega⟩
                  · exact HIN.out i (by omega)
                case measure => simp [intOf]; omega
              · have HYR := hide hyr
                clear hyr
                go_wp2_with (go_at_call 101; refine (in_any _ _ _ false _ (by simpa using HYR.out)).mono ?_; rintro e w1 ⟨rfl, hq1⟩)
                go_ret
                have : r = false := HNO.out fun h => HYR.out (by
                  have h := (h.2.2 k (by have := HN.out; omega)).2 j (by have := HN.out; omega)
                  rw [← HX.out, ← HY.out, HN.out] at h
                  exact ⟨h.1, by omega⟩)
                exact ⟨by subst this; rfl, HQ.out.trans (HQI.out.trans hq1)⟩
            · have hjm' : j = m := by omega
              subst hjm'
              go_wp2_with fail
              go_roundw
              case rel => 
                refine ⟨k + 1, by omega, by go_num, HQ.out.trans HQI.out, fun i hi => ?_⟩
                by_cases e : i = k
                · subst e; rw [← HX.out]; exact ⟨HM.out, HIN.out⟩
                · exact HALL.out i (by omega)
              case measure => simp [intOf]; omega
        · have hne : ((m : Int) != (n : Int)) = true := by simp; omega
          have HMN := hide hmn
          clear hmn
          go_wp2_with fail
          go_ret
          have : r = false := HNO.out fun h => HMN.out (by
            have h := (h.2.2 k (by have := HN.out; omega)).1
            rw [← HX.out, HM.out, HN.out] at h
            exact h)
          exact ⟨by subst this; rfl, by first | exact HQ.out | exact HQ.out.drewN _⟩
      · have hkn : k = n := by omega
        subst hkn
        go_wp2_with fail
        go_ret
        have : r = true := HR.out.2 ⟨by have := HN.out; omega, by have := HN.out; omega, fun i hi => by
          have h := HALL.out i (by have := HN.out; omega)
          rw [HN.out]
          exact h⟩
        exact ⟨by subst this; rfl, HQ.out⟩
  · have : r = false := by
      cases r
      · rfl
      · have := HR.out.1 rfl
        have h := HN.out
        unfold Tbl at this
        omega
    subst this
    go_enter Try.func76, Try.ntmps76
    go_wp2_with (go_at_call 101; refine (in_any _ _ _ false _ (by simp; omega)).mono ?_; rintro e w1 ⟨rfl, hq1⟩)
    go_ret
    exact ⟨rfl, hq1⟩

end Go.Proofs.Ytljdfanebjhhmaa
namespace Go.Proofs.Ytljdfanebjhhmaa
open Go Go.RowKit
set_option maxHeartbeats 400000

theorem l01Perm_any (A : Option Addr) (n c : Nat) (xs : List Int) (r : Bool) (w : World) (hn : xs.length = n) (hb : n ≤ 9223372036854775807) (hr : Rd w A xs) (hrr : r = true ↔ 1 ≤ n ∧ n ≤ 12 ∧ ∀ x : Int, 0 ≤ x → x < (n : Int) → x ∈ xs) :
    Calls Try.prog 77 #[.slice A n c] w fun e w' => e = .returned (.bool r) ∧ Quiet w w' := by
  have HN := hide hn
  have HR := hide hrr
  clear hn hrr
  by_cases h12 : 1 ≤ n ∧ n ≤ 12
  · obtain ⟨h1, h2⟩ := h12
    go_enter Try.func77, Try.ntmps77
    go_wp2_with (go_at_call 101; refine (in_any _ _ _ true _ (by simp; omega)).mono ?_; rintro e w1 ⟨rfl, hq1⟩)
    have HQ1 := hide hq1
    clear hq1
    go_loopw [4] (fun i wr => ∃ k : Nat, k ≤ n ∧ i = .int .i64 k ∧ Quiet w wr ∧ ∀ x : Int, 0 ≤ x → x < (k : Int) → x ∈ xs) (fun i _ => n - (intOf i).toNat)
    case atStart => exact ⟨0, Nat.zero_le _, rfl, HQ1.out, fun x h0 h1 => by omega⟩
    case round =>
      obtain ⟨k, hk, rfl, hq, hall⟩ := hrel
      have HQ := hide hq
      have HALL := hide hall
      clear hq hall
      by_cases hlt : k < n
      · have hltz : (k : Int) < n := by omega
        by_cases hm : (k : Int) ∈ xs
        · have HM := hide hm
          clear hm
          go_wp2_with (go_at_call 102; refine (has_any _ _ _ xs _ true _ HN.out hb (HQ.out.rd hr) (by simp [HM.out])).mono ?_; rintro e w2 ⟨rfl, hq2⟩)
          have HQ2 := hide hq2
          clear hq2
          go_roundw
          case rel =>
            refine ⟨k + 1, by omega, by go_num, HQ.out.trans HQ2.out, fun x h0 h1 => ?_⟩
            by_cases e : x = (k : Int)
            · subst e; exact HM.out
            · exact HALL.out x h0 (by omega)
          case measure => simp [intOf]; omega
        · have HM := hide hm
          clear hm
          go_wp2_with (go_at_call 102; refine (has_any _ _ _ xs _ false _ HN.out hb (HQ.out.rd hr) (by simp [HM.out])).mono ?_; rintro e w2 ⟨rfl, hq2⟩)
          go_ret
          have : r = false := by
            cases r
            · rfl
            · exact absurd ((HR.out.1 rfl).2.2 k (by omega) (by omega)) HM.out
          exact ⟨by subst this; rfl, HQ.out.trans hq2⟩
      · have hkn : k = n := by omega
        subst hkn
        go_wp2_with fail
        go_ret
        have : r = true := HR.out.2 ⟨h1, h2, HALL.out⟩
        exact ⟨by subst this; rfl, HQ.out⟩
  · have : r = false := by
      cases r
      · rfl
      · have := HR.out.1 rfl
        omega
    subst this
    go_enter Try.func77, Try.ntmps77
    go_wp2_with (go_at_call 101; refine (in_any _ _ _ false _ (by simp; omega)).mono ?_; rintro e w1 ⟨rfl, hq1⟩)
    go_ret
    exact ⟨rfl, hq1⟩

theorem prmS_any (A : Option Addr) (n c : Nat) (xs : List Int) (r : Bool) (w : World) (hn : xs.length = n) (hb : n ≤ 9223372036854775807) (hr : Rd w A xs) (hrr : r = true ↔ Prm xs) :
    Calls Try.prog 77 #[.slice A n c] w fun e w' => e = .returned (.bool r) ∧ Quiet w w' :=
  l01Perm_any A n c xs r w hn hb hr (by rw [hrr, prm_iff, hn])
theorem prmS_below (A : Option Addr) (n c : Nat) (xs : List Int) (r : Bool) (w : World) (hn : xs.length = n) (hb : n ≤ 9223372036854775807) (hr : Rd w A xs) (hrr : r = true ↔ Prm xs) :
    Calls Try.prog 77 #[.slice A n c] w fun e w' => e = .returned (.bool r) ∧ Below w.heap.size w w' :=
  (prmS_any A n c xs r w hn hb hr hrr).mono fun _ _ ⟨he, hq⟩ => ⟨he, hq.below _⟩
end Go.Proofs.Ytljdfanebjhhmaa
