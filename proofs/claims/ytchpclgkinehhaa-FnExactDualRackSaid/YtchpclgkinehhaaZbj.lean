import Derived.Test.YtchpclgkinehhaaZn
import Derived.Test.YtchpclgkinehhaaZbc
import Derived.Test.YtchpclgkinehhaaZbh
import Derived.Test.YtchpclgkinehhaaZt
import Derived.Test.YtchpclgkinehhaaZs
import Derived.Shelf.Abstract
import Derived.Shelf.Lay
namespace Go.Proofs.Ytchpclgkinehhaa
open Go Go.RowKit
set_option maxHeartbeats 2000000
theorem wrInfo2 : (Try.prog.info? 31).map (fun i => (i.zero, i.size, i.bytes)) = some (some (.slice none 0 0), 1, 24) := by kernel_rfl

set_option maxRecDepth 100000 in
theorem withRows_any (F : FuncId) (post : Array Value) (h : Nat → List Int) (A : Option Addr) (n c : Nat) (f : List (List Int)) (w : World) (eg : ∀ args w, (callFunc F args).run Try.prog w = .ok (.enter F args) w) (hn : f.length = n) (ht : Tbl f) (hr : Rd2 w A f) (hl : ∀ i, i < n → (h i).length = n) (hf : RowFn Try.prog 2 F post w n f h) :
    Calls Try.prog 77 #[.agg #[.slice A n c], .func (.func F) #[] post] w fun e w' => ∃ A' c', e = .returned (.agg #[.slice A' n c']) ∧ Below w.heap.size w w' ∧ Obj2 31 2 w.heap.size w'.heap.size w' A' (rowsL f h) := by
  have h1 : 1 ≤ n := by rw [← hn]; exact ht.1
  have h12 : n ≤ 12 := by rw [← hn]; exact ht.2.1
  have HN := hide hn
  have HTB := hide ht
  have HR := hide hr
  have HL := hide hl
  have HF := hide hf
  have HB0 := hide ((Below.refl _ w).alloc (Nat.le_refl _) (Obj.cells #[Value.slice A n c] 27))
  have HK0 := hide (Blk.new w 27 [.slice A n c])
  have hmk := run_make_row' (P := Try.prog) 22 31 (.slice none 0 0) 24 Try.underlying22 wrInfo2 rfl .i64 .i64 n (by omega) (by omega)
  clear hn ht hr hl hf
  go_enter Try.func77, Try.ntmps77
  go_wp2_with fail
  clear hmk
  refine wp_gen fun w0 hw0 => ?_
  have HBm : Hid (Below w.heap.size w w0) := hide (by rw [hw0]; exact ((HB0.out.alloc (by simp) _).alloc (by simp; omega) _))
  have HRm : Hid (Blk w0 (w.heap.size + 1) 27 [.slice none 0 0]) := hide (by rw [hw0]; have h := (Blk.new (w.alloc (Obj.cells #[Value.slice A n c] 27)) 27 [.slice none 0 0]).alloc (Obj.cells (madeCells #[.slice none 0 0] n) 31); simpa using h)
  have HFm : Hid (Fil 31 2 n 0 h (w.heap.size + 1 + 1) (w.heap.size + 1 + 1) w0) := hide (by rw [hw0]; have h := Fil.start (ts := 31) (t := 2) (n := n) (h := h) (lo := w.heap.size + 1 + 1) ((w.alloc (Obj.cells #[Value.slice A n c] 27)).alloc (Obj.cells #[.slice none 0 0] 27)) (by simp); simpa using h)
  clear hw0
  go_loopw [15] (fun i wr => ∃ k : Nat, k ≤ n ∧ i = .int .i64 k ∧ Below w.heap.size w wr ∧ Blk wr (w.heap.size + 1) 27 [.slice none 0 0] ∧ Fil 31 2 n k h (w.heap.size + 1 + 1) (w.heap.size + 1 + 1) wr) (fun i _ => n - (intOf i).toNat)
  case atStart => exact ⟨0, Nat.zero_le _, rfl, HBm.out, HRm.out, HFm.out⟩
  case round =>
    obtain ⟨k, hk, rfl, hbe, hrr, hff⟩ := hrel
    have HBc := hide hbe
    have HRc := hide hrr
    have HFc := hide hff
    clear hbe hrr hff
    by_cases hlt : k < n
    · have hkl : Hid (k < f.length) := hide (by have := HN.out; omega)
      obtain ⟨b, o, hA, hbw, hc⟩ := (HR.out.later HBc.out) (by have := hkl.out; omega)
      obtain ⟨Ak, ck, hcell, hrd⟩ := hc k hkl.out
      rw [HTB.out.row_len HN.out hlt] at hcell
      have HRR := hide hrd
      have hltz : (k : Int) < n := by omega
      subst hA
      clear hc hrd
      have HLk := hide (HL.out k hlt)
      go_wp2_with (go_at_fn F; go_must (refine calls_gen fun wc hwc => ?_; (first | have hbx := drew_below hwc | have hbx := eq_below hwc); replace HBc := hide (HBc.out.trans (hbx.mono HBc.out.size)); replace HRc := hide (HRc.out.later hbx); replace HFc := hide (HFc.out.later hbx); replace HRR := hide (HRR.out.later hbx); clear hwc hbx; refine (HF.out _ k _ _ hlt HBc.out HRR.out).mono ?_; rintro e wd ⟨A5, c5, rfl, hbd, hres⟩; have HPU := hide (HFc.out.push (c := c5) hbd hres hlt); have HBd := hide (HBc.out.trans (hbd.mono HBc.out.size)); have HRd := hide (HRc.out.later hbd); have HFd := hide (HFc.out.later hbd); clear hbd hres; rw [HLk.out] at HPU ⊢; obtain ⟨⟨v0, hv0⟩, hz0⟩ := HFd.out.at k hlt))
      go_roundw
      case rel => exact ⟨k + 1, by omega, by go_num, HBd.out.setCell (p := ⟨w.heap.size + 1 + 1, k, none⟩) (by show w.heap.size ≤ w.heap.size + 1 + 1; omega) _, HRd.out.far (p := ⟨w.heap.size + 1 + 1, k, none⟩) (by show w.heap.size + 1 ≠ w.heap.size + 1 + 1; omega) _, HPU.out⟩
      case measure => simp [intOf]; omega
    · have hkn : k = n := by omega
      subst hkn
      have HO := hide HFc.out.done
      have k0 := HRc.out.cell 0 _ rfl
      have k1 := HRc.out.frozen 0
      go_wp2_with fail
      refine bp_gen fun wf hwf => ?_
      obtain ⟨q0, hbf, hof⟩ := kend hwf HRc.out (by omega) HBc.out HO.out (by omega) (Nat.lt_succ_self _) (Nat.le_refl _)
      have hrl : rowsL f h = (List.range k).map h := by unfold rowsL; rw [HN.out]
      clear hwf k0 k1
      exact bodyPost_ret (v := .agg #[.slice (some ⟨w.heap.size + 1 + 1, 0, none⟩) k k]) (by simp [results, Try.results77, go_sem, q0]) rfl ⟨_, _, rfl, hbf, by rw [hrl]; exact hof⟩
end Go.Proofs.Ytchpclgkinehhaa
