import Derived.Test.YtaejgmdeiemhcaaZs
import Derived.Test.YtaejgmdeiemhcaaZy
import Derived.Test.YtaejgmdeiemhcaaZav
import Derived.Deep.Cut
namespace Go.Proofs.Ytaejgmdeiemhcaa
open Go Go.RowKit
set_option maxHeartbeats 2000000
/-- All pairs before the place (i, j) commute. -/
def ComTo (rows : List (List Int)) (i j : Nat) : Prop := (∀ a, a < i → ∀ b, b < a → thenL (rows.getD a []) (rows.getD b []) = thenL (rows.getD b []) (rows.getD a [])) ∧ ∀ b, b < j → thenL (rows.getD i []) (rows.getD b []) = thenL (rows.getD b []) (rows.getD i [])
theorem ComTo.start (rows : List (List Int)) : ComTo rows 0 0 := ⟨fun _ ha => absurd ha (Nat.not_lt_zero _), fun _ hb => absurd hb (Nat.not_lt_zero _)⟩
theorem ComTo.step {rows : List (List Int)} {i j : Nat} (h : ComTo rows i j) (e : thenL (rows.getD i []) (rows.getD j []) = thenL (rows.getD j []) (rows.getD i [])) : ComTo rows i (j + 1) :=
  ⟨h.1, fun b hb => by
    by_cases e2 : b = j
    · subst e2; exact e
    · exact h.2 b (by omega)⟩
theorem ComTo.next {rows : List (List Int)} {i : Nat} (h : ComTo rows i i) : ComTo rows (i + 1) 0 :=
  ⟨fun a ha b hb => by
    by_cases e2 : a = i
    · subst e2; exact h.2 b hb
    · exact h.1 a (by omega) b hb, fun _ hb => absurd hb (Nat.not_lt_zero _)⟩
theorem ComTo.fin {rows : List (List Int)} (h : ComTo rows rows.length 0) : ComF rows := h.1
set_option maxRecDepth 100000 in
theorem comI_any (A : Option Addr) (n c q : Nat) (rows : List (List Int)) (r : Bool) (w : World) (hn : rows.length = n) (hb : n ≤ 4096) (hcap : n ≤ c) (hq : q ≤ 12) (hg : Gens rows q) (hr : Rd2 w A rows) (hrr : r = true ↔ ComF rows) :
    Calls Try.prog 74 #[.slice A n c] w fun e w' => e = .returned (.bool r) ∧ Below w.heap.size w w' := by
  have HN := hide hn
  have HG := hide hg
  have HR := hide hr
  have HRR := hide hrr
  clear hn hg hr hrr
  go_enter Try.func74, Try.ntmps74
  go_wp2_with fail
  go_loopw [9] (fun i wr => ∃ k : Nat, k ≤ n ∧ i = .int .i64 k ∧ Below w.heap.size w wr ∧ ComTo rows k 0) (fun i _ => n - (intOf i).toNat)
  case atStart => exact ⟨0, Nat.zero_le _, rfl, Below.refl _ _, ComTo.start rows⟩
  case round =>
    obtain ⟨i, hi, rfl, hbe, hco⟩ := hrel
    have HB := hide hbe
    have HC := hide hco
    clear hbe hco
    by_cases hlt : i < n
    · have hltz : (i : Int) < n := by omega
      have hil : i < rows.length := by have := HN.out; omega
      obtain ⟨b, o, rfl, hbw, hc⟩ := HR.out (by omega)
      obtain ⟨Ai, ci, hcell, hrd⟩ := hc i hil
      rw [(HG.out i hil).1] at hcell
      have hcell' : wr.cell? ⟨b, o + i, none⟩ = some (.slice Ai q ci) := (HB.out.cell (p := ⟨b, o + i, none⟩) hbw).trans hcell
      have HRI := hide hrd
      have HCC := hide hc
      clear hc hcell hrd
      have hic : i ≤ c := by omega
      go_wp2_with fail
      go_loopw [18] (fun j wr2 => ∃ k : Nat, k ≤ i ∧ j = .int .i64 k ∧ Below w.heap.size w wr2 ∧ ComTo rows i k) (fun j _ => i - (intOf j).toNat)
      case atStart => exact ⟨0, Nat.zero_le _, rfl, HB.out, HC.out⟩
      case round =>
        clear HB HC hcell'
        obtain ⟨j, hj, rfl, hbe, hco⟩ := hrel
        have HB := hide hbe
        have HC := hide hco
        clear hbe hco
        by_cases hlt2 : j < i
        · have hltz2 : (j : Int) < i := by omega
          have hjl : j < rows.length := by omega
          obtain ⟨Aj, cj, hcellj, hrdj⟩ := HCC.out j hjl
          rw [(HG.out j hjl).1] at hcellj
          have hcellj' := (HB.out.cell (p := ⟨b, o + j, none⟩) hbw).trans hcellj
          have HRJ := hide hrdj
          clear hcellj hrdj
          obtain ⟨p, hpe⟩ : ∃ p, rows.getD i [] = p := ⟨_, rfl⟩
          obtain ⟨u, hue⟩ : ∃ u, rows.getD j [] = u := ⟨_, rfl⟩
          have hp := HG.out i hil
          have hu := HG.out j hjl
          rw [hpe] at hp
          rw [hue] at hu
          have HPE := hide hpe
          have HUE := hide hue
          have HP := hide hp
          have HU := hide hu
          have HRP : Hid (Rd w Ai p) := hide (by rw [← hpe]; exact HRI.out)
          have HRU : Hid (Rd w Aj u) := hide (by rw [← hue]; exact HRJ.out)
          have hinp : ∀ x ∈ p, 0 ≤ x ∧ x < (q : Int) := by have h := hp.2.2.2.1; rw [hp.1] at h; exact h
          have hinu : ∀ x ∈ u, 0 ≤ x ∧ x < (q : Int) := by have h := hu.2.2.2.1; rw [hu.1] at h; exact h
          have HINP := hide hinp
          have HINU := hide hinu
          clear hpe hue hp hu hinp hinu HRJ
          go_wp2_with fail
          refine (then_any' _ _ q _ q _ p u _ HP.out.1 HU.out.1 (by omega) (by omega) (HRP.out.later HB.out) (HRU.out.later HB.out) HINP.out).mono ?_
          rintro e w2 ⟨A2, c2, rfl, hb2, hr2⟩
          have HB2 := hide (HB.out.trans (hb2.mono HB.out.size))
          have HR2 := hide hr2.obj
          clear hb2 hr2
          go_wp2_with fail
          refine (then_any' _ _ q _ q _ u p _ HU.out.1 HP.out.1 (by omega) (by omega) (HRU.out.later HB2.out) (HRP.out.later HB2.out) HINU.out).mono ?_
          rintro e w3 ⟨A3, c3, rfl, hb3, hr3⟩
          have HB3 := hide (HB2.out.trans (hb3.mono HB2.out.size))
          have HR3 := hide hr3.obj
          replace HR2 := hide (HR2.out.later hb3)
          clear hb3 hr3
          go_wp2_with fail
          by_cases heq : thenL p u = thenL u p
          · have HE := hide heq
            clear heq
            refine (eql_any _ _ _ _ _ _ (thenL p u) (thenL u p) true _ (by rw [thenL_length]; exact HP.out.1) (by rw [thenL_length]; exact HU.out.1) (by omega) (by omega) HR2.out.rd HR3.out.rd (by simp [HE.out])).mono ?_
            rintro e w4 ⟨rfl, hq4⟩
            have HB4 := hide (HB3.out.trans (hq4.below _))
            clear hq4
            go_wp2_with fail
            go_roundw
            case rel => exact ⟨j + 1, by omega, by go_num, HB4.out, HC.out.step (by rw [HPE.out, HUE.out]; exact HE.out)⟩
            case measure => simp [intOf]; omega
          · have HE := hide heq
            clear heq
            have hrf : r = false := by
              cases r
              · rfl
              · have h := HRR.out.1 rfl i hil j (by omega)
                rw [HPE.out, HUE.out] at h
                exact absurd h HE.out
            subst hrf
            refine (eql_any _ _ _ _ _ _ (thenL p u) (thenL u p) false _ (by rw [thenL_length]; exact HP.out.1) (by rw [thenL_length]; exact HU.out.1) (by omega) (by omega) HR2.out.rd HR3.out.rd (by simp [HE.out])).mono ?_
            rintro e w4 ⟨rfl, hq4⟩
            have HB4 := hide (HB3.out.trans (hq4.below _))
            clear hq4
            go_wp2_with fail
            go_ret
            exact ⟨rfl, HB4.out⟩
        · have hji : j = i := by omega
          subst hji
          go_wp2_with fail
          go_roundw
          case rel => exact ⟨j + 1, by omega, by go_num, HB.out, HC.out.next⟩
          case measure => simp [intOf]; omega
    · have hin : i = n := by omega
      subst hin
      have hrt : r = true := HRR.out.2 (by have h := HC.out; rw [← HN.out] at h; exact h.fin)
      subst hrt
      go_wp2_with fail
      go_ret
      exact ⟨rfl, HB.out⟩
end Go.Proofs.Ytaejgmdeiemhcaa
