import Derived.Test.YtaejgmdeiemhcaaZm
import Derived.Test.YtaejgmdeiemhcaaZe
import Derived.Test.YtaejgmdeiemhcaaZa
import Derived.Test.YtaejgmdeiemhcaaZd
import Derived.Shelf.Abstract
import Derived.Shelf.Lay
import Derived.Deep.Cut
import Derived.Deep.RegionHeld3
namespace Go.Proofs.Ytaejgmdeiemhcaa
open Go Go.RowKit
set_option maxHeartbeats 2000000
/-- What is asked of the function value: at each row of n numbers, in each later world, it says whether it is as asked, and leaves what there was. -/
def RowFn (P : Program) (F : FuncId) (lb : Array Value) (n : Nat) (q : List Int → Bool) (w : World) : Prop :=
  ∀ (W : World) (A : Option Addr) (c : Nat) (xs : List Int), xs.length = n → Rd W A xs → Below w.heap.size w W → Calls P F (#[.slice A n c] ++ lb) W fun e w' => e = .returned (.bool (q xs)) ∧ Below W.heap.size W w'
theorem RowFn.later {P : Program} {F : FuncId} {lb : Array Value} {n : Nat} {q : List Int → Bool} {w w' : World} (h : RowFn P F lb n q w) (hb : Below w.heap.size w w') : RowFn P F lb n q w' :=
  fun W A c xs hl hr hB => h W A c xs hl hr (hb.trans (hB.mono hb.size))
def IdxR (rows : List (List Int)) (q : List Int → Bool) (r : Int) : Prop := (r = -1 ∧ ∀ i, i < rows.length → q (rows.getD i []) = false) ∨ ∃ i : Nat, i < rows.length ∧ r = (i : Int) ∧ q (rows.getD i []) = true
set_option maxRecDepth 100000 in
theorem indexFunc_any (F : FuncId) (lb : Array Value) (n : Nat) (q : List Int → Bool) (A : Option Addr) (m c : Nat) (rows : List (List Int)) (w : World) (eg : ∀ args w, (callFunc F args).run Try.prog w = .ok (.enter F args) w) (hm : rows.length = m) (h1 : 1 ≤ m) (hb : m ≤ 4096) (hls : ∀ i, i < rows.length → (rows.getD i []).length = n) (hr : Rd2 w A rows) (hf : RowFn Try.prog F lb n q w) :
    Calls Try.prog 129 #[.slice A m c, .func (.func F) #[] lb] w fun e w' => ∃ r, e = .returned (.int .i64 r) ∧ Below w.heap.size w w' ∧ IdxR rows q r := by
  have HM := hide hm
  have HLS := hide hls
  have HF := hide hf
  obtain ⟨b, o, rfl, hbw, hc⟩ := hr (by omega)
  have HC := hide hc
  clear hm hls hf hr hc
  go_enter Try.func129, Try.ntmps129
  go_wp2_with fail
  go_loopw [8] (fun i wr => ∃ k : Nat, k ≤ m ∧ i = .int .i64 k ∧ Below w.heap.size w wr ∧ ∀ j, j < k → q (rows.getD j []) = false) (fun i _ => m - (intOf i).toNat)
  case atStart => exact ⟨0, Nat.zero_le _, rfl, Below.refl _ _, fun j hj => absurd hj (Nat.not_lt_zero _)⟩
  case round =>
    obtain ⟨i, hi, rfl, hbe, hall⟩ := hrel
    have HB := hide hbe
    have HA := hide hall
    clear hbe hall
    by_cases hlt : i < m
    · have hltz : (i : Int) < m := by omega
      have hil : i < rows.length := by have := HM.out; omega
      obtain ⟨Ai, ci, hcell, hrd⟩ := HC.out i hil
      rw [HLS.out i hil] at hcell
      obtain ⟨p, hpe⟩ : ∃ p, rows.getD i [] = p := ⟨_, rfl⟩
      have hpl := HLS.out i hil
      rw [hpe] at hrd hpl
      have HPE := hide hpe
      have HPL := hide hpl
      have HRD := hide hrd
      have hcell' := (HB.out.cell (p := ⟨b, o + i, none⟩) hbw).trans hcell
      obtain ⟨r, hqr⟩ : ∃ r, q p = r := ⟨_, rfl⟩
      have HQ := hide hqr
      clear hcell hrd hpe hpl hqr
      have heg := fun args => eg args
      cases r with
      | true =>
        go_wp2_with (go_at_fn F; go_must (refine calls_gen fun wc hwc => ?_; (first | have hbx := drew_below hwc | have hbx := eq_below hwc); have HBc := hide (HB.out.trans (hbx.mono HB.out.size)); clear hwc hbx; refine (HF.out _ _ _ p HPL.out (HRD.out.later HBc.out) HBc.out).mono ?_; rw [HQ.out]; rintro e wd ⟨rfl, hbd⟩; have HB2 := hide (HBc.out.trans (hbd.mono HBc.out.size)); clear hbd))
        go_ret
        exact ⟨_, rfl, HB2.out, .inr ⟨i, hil, rfl, by rw [HPE.out]; exact HQ.out⟩⟩
      | false =>
        go_wp2_with (go_at_fn F; go_must (refine calls_gen fun wc hwc => ?_; (first | have hbx := drew_below hwc | have hbx := eq_below hwc); have HBc := hide (HB.out.trans (hbx.mono HB.out.size)); clear hwc hbx; refine (HF.out _ _ _ p HPL.out (HRD.out.later HBc.out) HBc.out).mono ?_; rw [HQ.out]; rintro e wd ⟨rfl, hbd⟩; have HB2 := hide (HBc.out.trans (hbd.mono HBc.out.size)); clear hbd))
        go_roundw
        case rel => exact ⟨i + 1, by omega, by go_num, HB2.out, fun j hj => by
          by_cases e : j = i
          · subst e; rw [HPE.out]; exact HQ.out
          · exact HA.out j (by omega)⟩
        case measure => simp [intOf]; omega
    · have hin : i = m := by omega
      subst hin
      go_wp2_with fail
      go_ret
      exact ⟨_, rfl, HB.out, .inl ⟨rfl, fun j hj => HA.out j (by have := HM.out; omega)⟩⟩
set_option maxRecDepth 100000 in
theorem containsFunc_any (F : FuncId) (lb : Array Value) (n : Nat) (q : List Int → Bool) (A : Option Addr) (m c : Nat) (rows : List (List Int)) (r : Bool) (w : World) (eg : ∀ args w, (callFunc F args).run Try.prog w = .ok (.enter F args) w) (hm : rows.length = m) (h1 : 1 ≤ m) (hb : m ≤ 4096) (hls : ∀ i, i < rows.length → (rows.getD i []).length = n) (hr : Rd2 w A rows) (hf : RowFn Try.prog F lb n q w) (hrr : r = true ↔ ∃ i, i < rows.length ∧ q (rows.getD i []) = true) :
    Calls Try.prog 104 #[.slice A m c, .func (.func F) #[] lb] w fun e w' => e = .returned (.bool r) ∧ Below w.heap.size w w' := by
  have HRR := hide hrr
  clear hrr
  go_enter Try.func104, Try.ntmps104
  go_wp2_with fail
  refine (indexFunc_any F lb n q _ _ _ rows _ eg hm h1 hb hls hr hf).mono ?_
  rintro e w1 ⟨x, rfl, hb1, hx⟩
  have HB1 := hide hb1
  clear hb1
  rcases hx with ⟨rfl, hall⟩ | ⟨i, hi, rfl, hq⟩
  · have hrf : r = false := by
      cases r
      · rfl
      · obtain ⟨i, hi, h⟩ := HRR.out.1 rfl
        rw [hall i hi] at h
        cases h
    subst hrf
    clear hall
    go_wp2_with fail
    go_ret
    exact ⟨rfl, HB1.out⟩
  · have hrt : r = true := HRR.out.2 ⟨i, hi, hq⟩
    subst hrt
    have hge : (0 : Int) ≤ (i : Int) := by omega
    go_wp2_with fail
    go_ret
    exact ⟨rfl, HB1.out⟩
end Go.Proofs.Ytaejgmdeiemhcaa
