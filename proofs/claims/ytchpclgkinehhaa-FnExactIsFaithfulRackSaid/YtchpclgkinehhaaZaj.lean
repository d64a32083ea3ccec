import Derived.Test.YtchpclgkinehhaaZu
import Derived.Test.YtchpclgkinehhaaZn
import Derived.Test.YtchpclgkinehhaaZf
import Derived.Test.YtchpclgkinehhaaZag
namespace Go.Proofs.Ytchpclgkinehhaa
open Go Go.RowKit
set_option maxHeartbeats 2000000

set_option maxRecDepth 100000 in
theorem isFa_any (A : Option Addr) (n c : Nat) (f : List (List Int)) (r : Bool) (w : World) (hn : f.length = n) (hcap : n ≤ c) (ht : Tbl f) (hr : Rd2 w A f) (hrc : r = true ↔ FaF f) :
    Calls Try.prog 73 #[.agg #[.slice A n c]] w fun e w' => e = .returned (.bool r) ∧ Below w.heap.size w w' := by
  have h1 : 1 ≤ n := by rw [← hn]; exact ht.1
  have h12 : n ≤ 12 := by rw [← hn]; exact ht.2.1
  have HN := hide hn
  have HTB := hide ht
  have HRC := hide hrc
  obtain ⟨b, o, hA, hbw, hc⟩ := rd_rows ht hr hn
  subst hA
  have HC := hide hc
  have HB0 := hide ((Below.refl _ w).alloc (Nat.le_refl _) (Obj.cells #[Value.slice (some ⟨b, o, none⟩) n c] 27))
  have HK0 := hide (Blk.new w 27 [.slice (some ⟨b, o, none⟩) n c])
  clear hn ht hr hrc hc
  go_enter Try.func73, Try.ntmps73
  go_wp2_with fail
  go_loopw [10] (fun i wr => ∃ x : Nat, x ≤ n ∧ i = .int .i64 x ∧ Below w.heap.size w wr ∧ Blk wr w.heap.size 27 [.slice (some ⟨b, o, none⟩) n c] ∧ ∀ a, a < x → ∀ d, d < a → f.getD a [] ≠ f.getD d []) (fun i _ => n - (intOf i).toNat)
  case atStart => exact ⟨0, Nat.zero_le _, rfl, HB0.out, HK0.out, fun i hi => absurd hi (Nat.not_lt_zero _)⟩
  case round =>
    obtain ⟨x, hx, rfl, hbe, hkk, hall⟩ := hrel
    have HB := hide hbe
    have HK := hide hkk
    have HALL := hide hall
    clear hbe hkk hall
    by_cases hlt : x < n
    · have hxz : (x : Int) < n := by omega
      obtain ⟨Bx, cx, r1, hrdx⟩ := HC.out x hlt
      have HRX := hide hrdx
      replace r1 := (HB.out.cell (p := ⟨b, o + x, none⟩) hbw).trans r1
      have HLX : Hid ((f.getD x []).length = n) := hide (HTB.out.row_len HN.out hlt)
      have k0 := HK.out.cell 0 _ rfl
      have hxc : (x : Int) ≤ c := by omega
      have hx0 : (0 : Int) ≤ x := by omega
      clear hrdx
      go_wp2_with fail
      clear k0 r1
      go_loopw [20] (fun i wi => ∃ y : Nat, y ≤ x ∧ i = .int .i64 y ∧ Below w.heap.size w wi ∧ Blk wi w.heap.size 27 [.slice (some ⟨b, o, none⟩) n c] ∧ ∀ d, d < y → f.getD x [] ≠ f.getD d []) (fun i _ => x - (intOf i).toNat)
      case atStart => exact ⟨0, Nat.zero_le _, rfl, HB.out, HK.out, fun i hi => absurd hi (Nat.not_lt_zero _)⟩
      case round =>
        obtain ⟨y, hy, rfl, hbe, hkk, hall⟩ := hrel
        have HBc := hide hbe
        have HKc := hide hkk
        have HALLI := hide hall
        clear hbe hkk hall
        by_cases hlty : y < x
        · have hyz : (y : Int) < x := by omega
          obtain ⟨By, cy, s1, hrdy⟩ := HC.out y (by omega)
          have HRY := hide hrdy
          replace s1 := (HBc.out.cell (p := ⟨b, o + y, none⟩) hbw).trans s1
          have HLY : Hid ((f.getD y []).length = n) := hide (HTB.out.row_len HN.out (by omega))
          clear hrdy
          go_wp2_with fail
          by_cases hcs : f.getD x [] = f.getD y []
          · have hrf : r = false := by
              cases r
              · rfl
              · exact absurd hcs (HRC.out.1 rfl x y (by have := HN.out; omega) hlty)
            subst hrf
            have HCS := hide hcs
            clear hcs
            refine (eqr_any _ _ _ _ _ _ (f.getD x []) (f.getD y []) true _ HLX.out HLY.out (by omega) (by omega) (HRX.out.later HBc.out) (HRY.out.later HBc.out) ⟨fun _ => HCS.out, fun _ => rfl⟩).mono ?_
            rintro e w4 ⟨rfl, hq4⟩
            have HB4 := hide (HBc.out.trans ((hq4.below _).mono HBc.out.size))
            clear hq4 s1
            go_wp2_with fail
            go_ret
            exact ⟨rfl, HB4.out⟩
          · have HCS := hide hcs
            clear hcs
            refine (eqr_any _ _ _ _ _ _ (f.getD x []) (f.getD y []) false _ HLX.out HLY.out (by omega) (by omega) (HRX.out.later HBc.out) (HRY.out.later HBc.out) ⟨fun h => (by cases h), fun h => absurd h HCS.out⟩).mono ?_
            rintro e w4 ⟨rfl, hq4⟩
            have HB4 := hide (HBc.out.trans ((hq4.below _).mono HBc.out.size))
            have HK4 := hide (HKc.out.later (hq4.below _))
            clear hq4 s1
            go_wp2_with fail
            go_roundw
            case rel => exact ⟨y + 1, by omega, by go_num, HB4.out, HK4.out, fun d hd => by
              by_cases e : d = y
              · rw [e]; exact HCS.out
              · exact HALLI.out d (by omega)⟩
            case measure => simp [intOf]; omega
        · have hyn : y = x := by omega
          subst hyn
          go_wp2_with fail
          go_roundw
          case rel => exact ⟨y + 1, by omega, by go_num, HBc.out, HKc.out, fun a ha => by
            by_cases e : a = y
            · rw [e]; exact HALLI.out
            · exact HALL.out a (by omega)⟩
          case measure => simp [intOf]; omega
    · have hxn : x = n := by omega
      subst hxn
      have hrt : r = true := HRC.out.2 (fun a d ha hd => HALL.out a (by have := HN.out; omega) d hd)
      subst hrt
      go_wp2_with fail
      go_ret
      exact ⟨rfl, HB.out⟩

end Go.Proofs.Ytchpclgkinehhaa
