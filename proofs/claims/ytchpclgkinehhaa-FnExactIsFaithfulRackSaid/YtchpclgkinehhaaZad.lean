import Derived.Test.YtchpclgkinehhaaZu
import Derived.Test.YtchpclgkinehhaaZn
import Derived.Test.YtchpclgkinehhaaZy
import Derived.Test.YtchpclgkinehhaaZi
namespace Go.Proofs.Ytchpclgkinehhaa
open Go Go.RowKit
set_option maxHeartbeats 2000000

set_option maxRecDepth 100000 in
theorem jwFaithfulRackS (A : Option Addr) (n c : Nat) (f : List (List Int)) (r : Bool) (code : Int) (w : World) (hn : f.length = n) (hb : n ≤ 1048576) (hbs : ∀ i, i < f.length → (f.getD i []).length ≤ 1048576) (hr : Rd2 w A f) (hres : FaRes f r code) :
    Calls Try.prog 35 #[.agg #[.slice A n c]] w fun e w' => e = .returned (.tuple #[.bool r, .int .i64 code]) ∧ Below w.heap.size w w' := by
  have HN := hide hn
  have HBS := hide hbs
  have HRD := hide hr
  have HB0 := hide ((Below.refl _ w).alloc (Nat.le_refl _) (Obj.cells #[Value.slice A n c] 27))
  have HK0 := hide (Blk.new w 27 [.slice A n c])
  rcases hres with ⟨hp, hrc, rfl⟩ | ⟨hp, rfl, rfl⟩
  · have HTB := hide hp.tbl
    have h1 : 1 ≤ n := by rw [← hn]; exact hp.tbl.1
    have h12 : n ≤ 12 := by rw [← hn]; exact hp.tbl.2.1
    have HRC := hide hrc
    clear hrc
    have HRK : Hid (RkRes f true) := hide (by unfold RkRes; simp [hp])
    have HP := hide hp
    clear hn hbs hr hp
    go_enter Try.func35, Try.ntmps35
    go_wp2_with fail
    refine (isRackS _ _ _ f true _ HN.out hb HBS.out (HRD.out.later HB0.out) HRK.out).mono ?_
    rintro e w1 ⟨rfl, hb1⟩
    have HB1 := hide (HB0.out.trans (hb1.mono HB0.out.size))
    have HK1 := hide (HK0.out.later hb1)
    clear hb1
    obtain ⟨b, o, hA, hbw, hc⟩ := rd_rows HTB.out HRD.out HN.out
    subst hA
    have HC := hide hc
    clear hc
    go_wp2_with fail
    go_outline
    go_loopw [4] (fun i wr => ∃ x : Nat, x ≤ n ∧ i = .int .i64 x ∧ Below w.heap.size w wr ∧ Blk wr w.heap.size 27 [.slice (some ⟨b, o, none⟩) n c] ∧ ∀ a, a < x → ∀ d, d < a → f.getD a [] ≠ f.getD d []) (fun i _ => n - (intOf i).toNat)
    case atStart => exact ⟨0, Nat.zero_le _, rfl, HB1.out, HK1.out, fun i hi => absurd hi (Nat.not_lt_zero _)⟩
    case round =>
      obtain ⟨x, hx, rfl, hbe, hkk, hall⟩ := hrel
      have HB := hide hbe
      have HK := hide hkk
      have HALL := hide hall
      clear hbe hkk hall
      have k0 := HK.out.cell 0 _ rfl
      by_cases hlt : x < n
      · have hxz : (x : Int) < n := by omega
        obtain ⟨Bx, cx, r1, hrdx⟩ := HC.out x hlt
        have HRX := hide hrdx
        have R1 := hide r1
        have HLX : Hid ((f.getD x []).length = n) := hide (HTB.out.row_len HN.out hlt)
        clear hrdx r1
        go_wp2_with fail
        clear k0
        go_outline
        go_loopw [5] (fun i wi => ∃ y : Nat, y ≤ x ∧ i = .int .i64 y ∧ Below w.heap.size w wi ∧ Blk wi w.heap.size 27 [.slice (some ⟨b, o, none⟩) n c] ∧ ∀ d, d < y → f.getD x [] ≠ f.getD d []) (fun i _ => x - (intOf i).toNat)
        case atStart => exact ⟨0, Nat.zero_le _, rfl, HB.out, HK.out, fun i hi => absurd hi (Nat.not_lt_zero _)⟩
        case round =>
          obtain ⟨y, hy, rfl, hbe, hkk, hall⟩ := hrel
          have HBc := hide hbe
          have HKc := hide hkk
          have HALLI := hide hall
          clear hbe hkk hall
          by_cases hlty : y < x
          · have hyz : (y : Int) < x := by omega
            have hyn : (y : Int) < n := by omega
            obtain ⟨By, cy, s1, hrdy⟩ := HC.out y (by omega)
            have HRY := hide hrdy
            have S1 := hide s1
            have HLY : Hid ((f.getD y []).length = n) := hide (HTB.out.row_len HN.out (by omega))
            clear hrdy s1
            have k0 := HKc.out.cell 0 _ rfl
            have r1 := (HBc.out.cell (p := ⟨b, o + x, none⟩) hbw).trans R1.out
            have s1 := (HBc.out.cell (p := ⟨b, o + y, none⟩) hbw).trans S1.out
            go_wp2_with fail
            by_cases hcs : f.getD x [] = f.getD y []
            · have hrf : r = false := by
                cases r
                · rfl
                · exact absurd hcs (HRC.out.1 rfl x y (by have := HN.out; omega) hlty)
              subst hrf
              have HCS := hide hcs
              clear hcs
              go_region_held3 (fun w' => w'.cell? ⟨w.heap.size, 0, none⟩ = some (.slice (some ⟨b, o, none⟩) n c) ∧ w'.cell? ⟨b, o + x, none⟩ = some (.slice Bx n cx) ∧ w'.cell? ⟨b, o + y, none⟩ = some (.slice By n cy)) (first | exact ⟨k0, r1, s1⟩ | go_keep) (first | (go_at_call 72; go_must (refine calls_gen fun wc hwc => ?_; (first | have hbx := drew_below hwc | have hbx := eq_below hwc); replace HBc := hide (HBc.out.trans (hbx.mono HBc.out.size)); replace HKc := hide (HKc.out.later hbx); clear hwc hbx; refine (same_any _ _ _ _ _ _ (f.getD x []) (f.getD y []) true _ HLX.out HLY.out (by omega) (by omega) (HRX.out.later HBc.out) (HRY.out.later HBc.out) ⟨fun _ => HCS.out, fun _ => rfl⟩).mono ?_; rintro e wd ⟨rfl, hqd⟩; have hbd := hqd.below wc.heap.size; replace HBc := hide (HBc.out.trans (hbd.mono HBc.out.size)); replace HKc := hide (HKc.out.later hbd); clear hbd; have k0 := HKc.out.cell 0 _ rfl; have r1 := (HBc.out.cell (p := ⟨b, o + x, none⟩) hbw).trans R1.out; have s1 := (HBc.out.cell (p := ⟨b, o + y, none⟩) hbw).trans S1.out)))
              clear k0 r1 s1
              go_wp2_with fail
              go_ret2
              exact ⟨rfl, HBc.out⟩
            · have HCS := hide hcs
              clear hcs
              go_region_held3 (fun w' => w'.cell? ⟨w.heap.size, 0, none⟩ = some (.slice (some ⟨b, o, none⟩) n c) ∧ w'.cell? ⟨b, o + x, none⟩ = some (.slice Bx n cx) ∧ w'.cell? ⟨b, o + y, none⟩ = some (.slice By n cy)) (first | exact ⟨k0, r1, s1⟩ | go_keep) (first | (go_at_call 72; go_must (refine calls_gen fun wc hwc => ?_; (first | have hbx := drew_below hwc | have hbx := eq_below hwc); replace HBc := hide (HBc.out.trans (hbx.mono HBc.out.size)); replace HKc := hide (HKc.out.later hbx); clear hwc hbx; refine (same_any _ _ _ _ _ _ (f.getD x []) (f.getD y []) false _ HLX.out HLY.out (by omega) (by omega) (HRX.out.later HBc.out) (HRY.out.later HBc.out) ⟨fun h => (by cases h), fun h => absurd h HCS.out⟩).mono ?_; rintro e wd ⟨rfl, hqd⟩; have hbd := hqd.below wc.heap.size; replace HBc := hide (HBc.out.trans (hbd.mono HBc.out.size)); replace HKc := hide (HKc.out.later hbd); clear hbd; have k0 := HKc.out.cell 0 _ rfl; have r1 := (HBc.out.cell (p := ⟨b, o + x, none⟩) hbw).trans R1.out; have s1 := (HBc.out.cell (p := ⟨b, o + y, none⟩) hbw).trans S1.out)))
              clear k0 r1 s1
              go_wp2_with fail
              go_roundw
              case rel => exact ⟨y + 1, by omega, by go_num, HBc.out, HKc.out, fun d hd => by
                by_cases e : d = y
                · rw [e]; exact HCS.out
                · exact HALLI.out d (by omega)⟩
              case measure => simp [intOf]; omega
          · have hyn : y = x := by omega
            subst hyn
            go_wp2_with fail
            go_roundw
            case rel => exact ⟨y + 1, by omega, by go_num, HBc.out, HKc.out, fun a ha => by
              by_cases e : a = y
              · rw [e]; exact HALLI.out
              · exact HALL.out a (by omega)⟩
            case measure => simp [intOf]; omega
      · have hxn : x = n := by omega
        subst hxn
        have hrt : r = true := HRC.out.2 (fun a d ha hd => HALL.out a (by have := HN.out; omega) d hd)
        subst hrt
        go_wp2_with fail
        go_ret2
        exact ⟨rfl, HB.out⟩
  · skip
    have HRK : Hid (RkRes f false) := hide (by unfold RkRes; simp [hp])
    have HP := hide hp
    clear hn hbs hr hp
    go_enter Try.func35, Try.ntmps35
    go_wp2_with fail
    refine (isRackS _ _ _ f false _ HN.out hb HBS.out (HRD.out.later HB0.out) HRK.out).mono ?_
    rintro e w1 ⟨rfl, hb1⟩
    have HB1 := hide (HB0.out.trans (hb1.mono HB0.out.size))
    have HK1 := hide (HK0.out.later hb1)
    clear hb1
    go_wp2_with fail
    go_ret2
    exact ⟨rfl, HB1.out⟩

end Go.Proofs.Ytchpclgkinehhaa
