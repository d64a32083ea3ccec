import Derived.Test.YtkflmhmbkilmpabProg
import Derived.Test.YtkflmhmbkilmpabRkF
import Derived.Test.YtkflmhmbkilmpabHeld
import Derived.Test.YtkflmhmbkilmpabBlk
import Derived.Test.YtkflmhmbkilmpabKiF
import Derived.Test.YtkflmhmbkilmpabDuF
import Derived.Test.YtkflmhmbkilmpabThenS
import Derived.Test.YtkflmhmbkilmpabWr
import Derived.Test.YtkflmhmbkilmpabLst1
import Derived.Shelf.Abstract
import Derived.Shelf.Lay
import Derived.Test.YtkflmhmbkilmpabTblI
import Derived.Test.YtkflmhmbkilmpabRowsI
import Derived.Test.YtkflmhmbkilmpabPairsI
import Derived.Test.YtkflmhmbkilmpabReads
import Derived.Test.YtkflmhmbkilmpabKLe
import Derived.Test.YtkflmhmbkilmpabFtI
import Derived.WalkSpells
import Derived.Test.YtkflmhmbkilmpabThenI
import Derived.Test.YtkflmhmbkilmpabBackI
import Derived.Test.YtkflmhmbkilmpabObj
import Derived.Test.YtkflmhmbkilmpabTblS
import Derived.Test.YtkflmhmbkilmpabPrmS
import Derived.Deep.AppendLies
import Derived.Deep.RegionLaw
namespace Go.Proofs.Ytkflmhmbkilmpab
open Go Go.RowKit
set_option maxHeartbeats 1000000

theorem ksize_any (A : Option Addr) (n c : Nat) (w : World) (_hn : n ≤ 1048576) :
    Calls Try.prog 73 #[.agg #[.slice A n c]] w fun e w' => e = .returned (.int .i64 n) ∧ Below w.heap.size w w' := by
  have HB0 := hide ((Below.refl _ w).alloc (Nat.le_refl _) (Obj.cells #[Value.slice A n c] 26))
  go_enter Try.func73, Try.ntmps73
  go_wp2_with fail
  go_ret
  exact ⟨rfl, HB0.out⟩

theorem act_any (A : Option Addr) (n c : Nat) (f : List (List Int)) (x y u : Nat) (w : World) (hn : f.length = n) (ht : Tbl f) (hr : Rd2 w A f) (hx : x < n) (hy : y < n) (hu : ap f x y = u) :
    Calls Try.prog 74 #[.agg #[.slice A n c], .int .i64 x, .int .i64 y] w fun e w' => e = .returned (.int .i64 u) ∧ Below w.heap.size w w' := by
  have h12 : n ≤ 12 := by rw [← hn]; exact ht.2.1
  obtain ⟨b, o, rfl, hb, hc⟩ := ht.cells hr hn
  obtain ⟨bx, ox, cx, h1, h2, h3⟩ := hc x hx
  have h4 := h3 y hy
  rw [hu] at h4
  have hbb := ((Below.refl _ w).alloc (Nat.le_refl _) (Obj.cells #[Value.slice (some ⟨b, o, none⟩) n c] 26))
  have HB0 := hide hbb
  have a4 := (hbb.cell (p := ⟨b, o + x, none⟩) hb).trans h1
  have a6 := (hbb.cell (p := ⟨bx, ox + y, none⟩) h2).trans h4
  have hxz : (x : Int) < n := by omega
  have hyz : (y : Int) < n := by omega
  have hxz0 : (0 : Int) ≤ x := by omega
  have hyz0 : (0 : Int) ≤ y := by omega
  clear hbb h1 h3 h4 hc hu hr ht hn
  go_enter Try.func74, Try.ntmps74
  go_wp2_with fail
  go_ret
  exact ⟨rfl, HB0.out⟩
end Go.Proofs.Ytkflmhmbkilmpab
namespace Go.Proofs.Ytkflmhmbkilmpab
open Go Go.RowKit
set_option maxHeartbeats 1000000

set_option maxRecDepth 100000 in
theorem kink_any (A : Option Addr) (n c : Nat) (f : List (List Int)) (w : World) (hn : f.length = n) (ht : Tbl f) (hr : Rd2 w A f) :
    Calls Try.prog 50 #[.agg #[.slice A n c]] w fun e w' => ∃ g, e = .returned (.slice (some ⟨g, 0, none⟩) n n) ∧ Below w.heap.size w w' ∧ w.heap.size ≤ g ∧ OwnB 2 w' g (kinkL f) := by
  have h1 : 1 ≤ n := by rw [← hn]; exact ht.1
  have h12 : n ≤ 12 := by rw [← hn]; exact ht.2.1
  have HN := hide hn
  have HTB := hide ht
  have HR := hide hr
  have HZ : Hid ((kinkL f).length = n) := hide ((kinkL_length f).trans hn)
  have HB0 := hide ((Below.refl _ w).alloc (Nat.le_refl _) (Obj.cells #[Value.slice A n c] 26))
  have HK0 := hide (Blk.new w 26 [.slice A n c])
  have hmk := run_make_row' (P := Try.prog) 53 2 (.int .i64 0) 8 Try.underlying53 kqInfo rfl .i64 .i64 n (by omega) (by omega)
  clear hn ht hr
  go_enter Try.func50, Try.ntmps50
  go_wp2_with fail
  clear hmk
  refine calls_gen fun w1 hw1 => ?_
  have HB1 : Hid (Below w.heap.size w w1) := hide (by rw [hw1]; exact HB0.out.alloc (by simp) _)
  have HK1 : Hid (Blk w1 w.heap.size 26 [.slice A n c]) := hide (by rw [hw1]; exact HK0.out.alloc _)
  have HROW1 : Hid (Row 2 w1 (w.heap.size + 1) (List.replicate n 0)) := hide (by rw [hw1]; simpa using Row.made 2 (w.alloc (Obj.cells #[Value.slice A n c] 26)) n)
  clear hw1
  refine (ksize_any _ _ _ _ (by omega)).mono ?_
  rintro e w2 ⟨rfl, hb2⟩
  have HB2 := hide (HB1.out.trans (hb2.mono HB1.out.size))
  have HK2 := hide (HK1.out.later hb2)
  have HROW2 := hide (HROW1.out.own.later hb2 HROW1.out.own.lt)
  clear hb2
  go_wp2_with fail
  go_loopw [11] (fun i wr => ∃ k : Nat, k ≤ n ∧ i = .int .i64 k ∧ Below w.heap.size w wr ∧ Blk wr w.heap.size 26 [.slice A n c] ∧ OwnB 2 wr (w.heap.size + 1) ((kinkL f).take k ++ List.replicate (n - k) 0)) (fun i _ => n - (intOf i).toNat)
  case atStart => exact ⟨0, Nat.zero_le _, rfl, HB2.out, HK2.out, by simpa using HROW2.out⟩
  case round =>
    obtain ⟨k, hk, rfl, hbe, hkk, hrow⟩ := hrel
    have HBc := hide hbe
    have HKc := hide hkk
    have HOc := hide hrow
    clear hbe hkk hrow
    by_cases hlt : k < n
    · have hltz : (k : Int) < n := by omega
      have k0 := HKc.out.cell 0 _ rfl
      obtain ⟨u, hu⟩ : ∃ u, ap f k k = u := ⟨_, rfl⟩
      have HU := hide hu
      have hl : ((kinkL f).take k ++ List.replicate (n - k) 0).length = n := by have := HZ.out; simp; omega
      have HL := hide hl
      clear hu hl
      go_wp2_with fail
      clear k0
      refine (act_any _ _ _ f k k u _ HN.out HTB.out (HR.out.later HBc.out) hlt hlt HU.out).mono ?_
      rintro e wd ⟨rfl, hbd⟩
      have HBd := hide (HBc.out.trans (hbd.mono HBc.out.size))
      have HKd := hide (HKc.out.later hbd)
      have HOd := hide (HOc.out.later hbd HOc.out.lt)
      clear hbd
      have h2 := HOd.out.cell (i := k) (by have := HL.out; omega)
      have h3 := HOd.out.frozen k
      go_wp2_with fail
      go_roundw
      case rel =>
        have hst := HOd.out.set k (u : Int) (by have := HL.out; omega)
        have hg : (kinkL f).getD k 0 = (u : Int) := by rw [kinkL_getD f k (by have := HN.out; omega), HU.out]
        rw [← hg, kq_fill (kinkL f) n k HZ.out hlt, hg] at hst
        exact ⟨k + 1, by omega, by go_num, HBd.out.setCell (p := ⟨w.heap.size + 1, k, none⟩) (by show w.heap.size ≤ w.heap.size + 1; omega) _, HKd.out.far (p := ⟨w.heap.size + 1, k, none⟩) (by show w.heap.size ≠ w.heap.size + 1; omega) _, hst⟩
      case measure => simp [intOf]; omega
    · have hkn : k = n := by omega
      subst hkn
      go_wp2_with fail
      go_ret
      have h := HOc.out
      have hz := HZ.out
      rw [Nat.sub_self, List.replicate_zero, List.append_nil, List.take_of_length_le (by omega)] at h
      exact ⟨_, rfl, HBc.out, by omega, h⟩
end Go.Proofs.Ytkflmhmbkilmpab
namespace Go.Proofs.Ytkflmhmbkilmpab
open Go Go.RowKit
set_option maxHeartbeats 1000000

set_option maxRecDepth 100000 in
theorem kinkS_any (A : Option Addr) (n c : Nat) (f : List (List Int)) (w : World) (hn : f.length = n) (ht : Tbl f) (hr : Rd2 w A f) :
    Calls Try.prog 49 #[.agg #[.slice A n c]] w fun e w' => ∃ A' c', e = .returned (.slice A' n c') ∧ Below w.heap.size w w' ∧ Res 2 w.heap.size w' A' (kinkL f) := by
  have h1 : 1 ≤ n := by rw [← hn]; exact ht.1
  have h12 : n ≤ 12 := by rw [← hn]; exact ht.2.1
  obtain ⟨b, o, rfl, hb, hc⟩ := ht.cells hr hn
  have HC := hide hc
  have HN := hide hn
  have HZ : Hid ((kinkL f).length = n) := hide ((kinkL_length f).trans hn)
  obtain ⟨i0, hi, hz0, hz1, hz2⟩ := info_parts kqInfo
  have HB0 := hide (((Below.refl _ w).alloc (Nat.le_refl _) (Obj.cells #[Value.slice (some ⟨b, o, none⟩) n c] 26)).alloc (by simp) (Obj.cells #[] 2))
  have HK0 := hide ((Blk.new w 26 [.slice (some ⟨b, o, none⟩) n c]).alloc (Obj.cells #[] 2))
  have HE0 := hide (kq_empty (w.alloc (Obj.cells #[Value.slice (some ⟨b, o, none⟩) n c] 26)) 2)
  clear hn ht hr hc
  go_enter Try.func49, Try.ntmps49
  go_wp2_with fail
  go_loopw [3, 4] (fun v i wr => ∃ k : Nat, k ≤ n ∧ i = .int .i64 k ∧ Below w.heap.size w wr ∧ Blk wr w.heap.size 26 [.slice (some ⟨b, o, none⟩) n c] ∧ wr.ownsRow (w.heap.size + 1) 2 1 v k (ints ((kinkL f).take k)) ∧ w.heap.size + 1 ≤ wr.heap.size) (fun _ i _ => n - (intOf i).toNat)
  case atStart => exact ⟨0, Nat.zero_le _, rfl, HB0.out, HK0.out, by simpa [ints] using HE0.out, by simp⟩
  case round =>
    obtain ⟨k, hk, rfl, hbe, hkk, hown, hsz⟩ := hrel
    have HB := hide hbe
    have HK := hide hkk
    have HO := hide hown
    clear hbe hkk hown
    have k0 := HK.out.cell 0 _ rfl
    by_cases hlt : k < n
    · obtain ⟨bx, ox, cx, r1, r2, r3⟩ := HC.out k hlt
      have e1 := r3 k hlt
      obtain ⟨u, hu⟩ : ∃ u, ap f k k = u := ⟨_, rfl⟩
      rw [hu] at e1
      have HU := hide hu
      replace r1 := (HB.out.cell (p := ⟨b, o + k, none⟩) hb).trans r1
      replace e1 := (HB.out.cell (p := ⟨bx, ox + k, none⟩) r2).trans e1
      clear r3 hu
      have hltz : (k : Int) < n := by omega
      go_wp2_with (at_builtin; refine wpList_append_own _ rfl _ _ 33 rfl (w.heap.size + 1) 2 i0 (.int .i64 0) 1 8 Try.underlying33 hi hz0 hz1 hz2 rfl (by decide) _ _ _ rfl (HO.out.alloc _) ⟨wr.heap.size, 0, none⟩ 1 1 [.int .i64 (u : Int)] rfl rfl ?c1 ?c2 ?c3 ?c4 ?c5 ?_)
      case c1 => exact kq_new
      case c2 => intro u hu; simp at hu; subst hu; rfl
      case c3 => unfold maxLen; omega
      case c4 => omega
      case c5 => simp; omega
      intro v' w1 hown' hgrow _
      have HO' := hide hown'
      have HG := hide hgrow
      clear hown' hgrow k0
      go_wp2_with fail
      go_roundw
      case rel =>
        have hlow : w.heap.size ≤ wr.heap.size := by omega
        have hs1 : w.heap.size + 1 ≤ (wr.alloc (.cells #[.int .i64 (u : Int)] 2)).heap.size := by simp; omega
        have hB1 : Below w.heap.size w w1 := (HB.out.alloc hlow _).grown HG.out (by simp; omega) (fun g hg => by have h := ((HO.out.alloc (.cells #[.int .i64 (u : Int)] 2)).lt g hg).1; omega)
        have hB2 : Below (w.heap.size + 1) (wr.alloc (.cells #[.int .i64 (u : Int)] 2)) w1 := (Below.refl _ _).grown HG.out hs1 (fun g hg => ((HO.out.alloc (.cells #[.int .i64 (u : Int)] 2)).lt g hg).1)
        have hK1 : Blk w1 w.heap.size 26 [.slice (some ⟨b, o, none⟩) n c] := (hB2.block w.heap.size (by omega)).trans (HK.out.alloc _)
        refine ⟨k + 1, by omega, by go_num, hB1, hK1, ?_, by have := hB2.size; simp at this; omega⟩
        have h := HO'.out
        rw [kq_take _ k (u : Int) (by have := HZ.out; omega) (by rw [kinkL_getD f k (by have := HN.out; omega), HU.out])] at h
        exact h
      case measure => simp [intOf]; omega
    · have hkn : k = n := by omega
      subst hkn
      go_wp2_with fail
      have h := HO.out
      rw [List.take_of_length_le (by have := HZ.out; omega)] at h
      go_ret
      obtain ⟨A', c', hv, hres⟩ := own_shape h
      exact ⟨A', c', by rw [← hv]; rfl, HB.out, hres.mono (by omega)⟩
end Go.Proofs.Ytkflmhmbkilmpab
namespace Go.Proofs.Ytkflmhmbkilmpab
open Go Go.RowKit
def qoL (f : List (List Int)) : List (List Int) := rowsL f (fun i => thenL (f.getD i []) (backTo (kinkL f) f.length))
def QoRes (f zs : List (List Int)) (code : Int) : Prop := (Rck f ∧ zs = qoL f ∧ code = 0) ∨ (¬ Rck f ∧ zs = [] ∧ code = 1)
theorem QoRes.ex (f : List (List Int)) : ∃ zs code, QoRes f zs code ∧ zs.length ≤ 1048576 ∧ ∀ i, i < zs.length → (zs.getD i []).length ≤ 1048576 := by
  by_cases h : Rck f
  · have h12 := h.tbl.2.1
    refine ⟨_, _, .inl ⟨h, rfl, rfl⟩, ?_, fun i hi => ?_⟩
    · rw [qoL, rowsL_length]; omega
    · rw [qoL, rowsL_length] at hi
      rw [qoL, rowsL_at f _ i hi, thenL_length, h.tbl.rows i hi]
      omega
  · exact ⟨_, _, .inr ⟨h, rfl, rfl⟩, by simp, by simp⟩
theorem kink_in {f : List (List Int)} (h : Tbl f) {n : Nat} (hn : f.length = n) : ∀ x ∈ kinkL f, 0 ≤ x ∧ x < (n : Int) := by
  intro x hx
  unfold kinkL at hx
  obtain ⟨a, ha, rfl⟩ := List.mem_map.1 hx
  have ha := List.mem_range.1 ha
  have := h.ap_lt hn (show a < n by omega) (show a < n by omega)
  omega
end Go.Proofs.Ytkflmhmbkilmpab
namespace Go.Proofs.Ytkflmhmbkilmpab
open Go Go.RowKit
set_option maxHeartbeats 2000000
theorem wrInfo2 : (Try.prog.info? 33).map (fun i => (i.zero, i.size, i.bytes)) = some (some (.slice none 0 0), 1, 24) := by kernel_rfl

set_option maxRecDepth 100000 in
theorem withRows_any (F : FuncId) (post : Array Value) (h : Nat → List Int) (A : Option Addr) (n c : Nat) (f : List (List Int)) (w : World) (eg : ∀ args w, (callFunc F args).run Try.prog w = .ok (.enter F args) w) (hn : f.length = n) (ht : Tbl f) (hr : Rd2 w A f) (hl : ∀ i, i < n → (h i).length = n) (hf : RowFn Try.prog 2 F post w n f h) :
    Calls Try.prog 44 #[.agg #[.slice A n c], .func (.func F) #[] post] w fun e w' => ∃ A' c', e = .returned (.agg #[.slice A' n c']) ∧ Below w.heap.size w w' ∧ Obj2 33 2 w.heap.size w'.heap.size w' A' (rowsL f h) := by
  have h1 : 1 ≤ n := by rw [← hn]; exact ht.1
  have h12 : n ≤ 12 := by rw [← hn]; exact ht.2.1
  have HN := hide hn
  have HTB := hide ht
  have HR := hide hr
  have HL := hide hl
  have HF := hide hf
  have HB0 := hide ((Below.refl _ w).alloc (Nat.le_refl _) (Obj.cells #[Value.slice A n c] 26))
  have HK0 := hide (Blk.new w 26 [.slice A n c])
  have hmk := run_make_row' (P := Try.prog) 22 33 (.slice none 0 0) 24 Try.underlying22 wrInfo2 rfl .i64 .i64 n (by omega) (by omega)
  clear hn ht hr hl hf
  go_enter Try.func44, Try.ntmps44
  go_wp2_with fail
  clear hmk
  refine wp_gen fun w0 hw0 => ?_
  have HBm : Hid (Below w.heap.size w w0) := hide (by rw [hw0]; exact ((HB0.out.alloc (by simp) _).alloc (by simp; omega) _))
  have HRm : Hid (Blk w0 (w.heap.size + 1) 26 [.slice none 0 0]) := hide (by rw [hw0]; have h := (Blk.new (w.alloc (Obj.cells #[Value.slice A n c] 26)) 26 [.slice none 0 0]).alloc (Obj.cells (madeCells #[.slice none 0 0] n) 33); simpa using h)
  have HFm : Hid (Fil 33 2 n 0 h (w.heap.size + 1 + 1) (w.heap.size + 1 + 1) w0) := hide (by rw [hw0]; have h := Fil.start (ts := 33) (t := 2) (n := n) (h := h) (lo := w.heap.size + 1 + 1) ((w.alloc (Obj.cells #[Value.slice A n c] 26)).alloc (Obj.cells #[.slice none 0 0] 26)) (by simp); simpa using h)
  clear hw0
  go_loopw [15] (fun i wr => ∃ k : Nat, k ≤ n ∧ i = .int .i64 k ∧ Below w.heap.size w wr ∧ Blk wr (w.heap.size + 1) 26 [.slice none 0 0] ∧ Fil 33 2 n k h (w.heap.size + 1 + 1) (w.heap.size + 1 + 1) wr) (fun i _ => n - (intOf i).toNat)
  case atStart => exact ⟨0, Nat.zero_le _, rfl, HBm.out, HRm.out, HFm.out⟩
  case round =>
    obtain ⟨k, hk, rfl, hbe, hrr, hff⟩ := hrel
    have HBc := hide hbe
    have HRc := hide hrr
    have HFc := hide hff
    clear hbe hrr hff
    by_cases hlt : k < n
    · have hkl : Hid (k < f.length) := hide (by have := HN.out; omega)
      obtain ⟨b, o, hA, hbw, hc⟩ := (HR.out.later HBc.out) (by have := hkl.out; omega)
      obtain ⟨Ak, ck, hcell, hrd⟩ := hc k hkl.out
      rw [HTB.out.row_len HN.out hlt] at hcell
      have HRR := hide hrd
      have hltz : (k : Int) < n := by omega
      subst hA
      clear hc hrd
      have HLk := hide (HL.out k hlt)
      go_wp2_with (go_at_fn F; go_must (refine calls_gen fun wc hwc => ?_; (first | have hbx := drew_below hwc | have hbx := eq_below hwc); replace HBc := hide (HBc.out.trans (hbx.mono HBc.out.size)); replace HRc := hide (HRc.out.later hbx); replace HFc := hide (HFc.out.later hbx); replace HRR := hide (HRR.out.later hbx); clear hwc hbx; refine (HF.out _ k _ _ hlt HBc.out HRR.out).mono ?_; rintro e wd ⟨A5, c5, rfl, hbd, hres⟩; have HPU := hide (HFc.out.push (c := c5) hbd hres hlt); have HBd := hide (HBc.out.trans (hbd.mono HBc.out.size)); have HRd := hide (HRc.out.later hbd); have HFd := hide (HFc.out.later hbd); clear hbd hres; rw [HLk.out] at HPU ⊢; obtain ⟨⟨v0, hv0⟩, hz0⟩ := HFd.out.at k hlt))
      go_roundw
      case rel => exact ⟨k + 1, by omega, by go_num, HBd.out.setCell (p := ⟨w.heap.size + 1 + 1, k, none⟩) (by show w.heap.size ≤ w.heap.size + 1 + 1; omega) _, HRd.out.far (p := ⟨w.heap.size + 1 + 1, k, none⟩) (by show w.heap.size + 1 ≠ w.heap.size + 1 + 1; omega) _, HPU.out⟩
      case measure => simp [intOf]; omega
    · have hkn : k = n := by omega
      subst hkn
      have HO := hide HFc.out.done
      have k0 := HRc.out.cell 0 _ rfl
      have k1 := HRc.out.frozen 0
      go_wp2_with fail
      refine bp_gen fun wf hwf => ?_
      obtain ⟨q0, hbf, hof⟩ := kend hwf HRc.out (by omega) HBc.out HO.out (by omega) (Nat.lt_succ_self _) (Nat.le_refl _)
      have hrl : rowsL f h = (List.range k).map h := by unfold rowsL; rw [HN.out]
      clear hwf k0 k1
      exact bodyPost_ret (v := .agg #[.slice (some ⟨w.heap.size + 1 + 1, 0, none⟩) k k]) (by simp [results, Try.results44, go_sem, q0]) rfl ⟨_, _, rfl, hbf, by rw [hrl]; exact hof⟩
end Go.Proofs.Ytkflmhmbkilmpab
namespace Go.Proofs.Ytkflmhmbkilmpab
open Go Go.RowKit
set_option maxHeartbeats 2000000
/-- Whether three elements show that a table is no rack's. -/
def rkq (f : List (List Int)) : Nat → Nat → Nat → Bool := fun x y z => !decide (ap f x (ap f y z) = ap f (ap f x y) (ap f x z))
theorem rkq_not (f : List (List Int)) (n i : Nat) : qAt (rkq f) n i = false ↔ Rk3 f n i := by
  unfold qAt rkq Rk3
  simp
theorem rkq_is (f : List (List Int)) (n i : Nat) : qAt (rkq f) n i = true ↔ ¬ Rk3 f n i := by
  rw [← rkq_not]
  simp
theorem FirstK.q {f : List (List Int)} {n T : Nat} (h : FirstK f n T) : FirstQ (rkq f) n T :=
  ⟨fun i hi => (rkq_not f n i).2 (h.1 i hi), h.2.1, fun ht => (rkq_is f n T).2 (h.2.2 ht)⟩

set_option maxRecDepth 100000 in
theorem kfC_any (A : Option Addr) (n c : Nat) (f : List (List Int)) (b : Nat) (w : World) (hn : f.length = n) (ht : Tbl f) (hr : Rd2 w A f) (hk : Blk w b 26 [.slice A n c]) :
    BoolFn3 Try.prog 93 #[.pointer (some ⟨b, 0, none⟩)] n (rkq f) w := by
  intro W x y z hx hy hz hb
  have HR := hide (hr.later hb)
  have HKc := hide (hk.later hb)
  have HBc := hide (Below.refl W.heap.size W)
  have HN := hide hn
  have HTB := hide ht
  show Calls Try.prog 93 #[.int .i64 x, .int .i64 y, .int .i64 z, .pointer (some ⟨b, 0, none⟩)] W _
  clear hn ht hr hk hb
  have hq1 := HTB.out.ap_lt HN.out hy hz
  have hq2 := HTB.out.ap_lt HN.out hx hy
  have hq3 := HTB.out.ap_lt HN.out hx hz
  obtain ⟨bq, hat⟩ : ∃ bq, rkq f x y z = bq := ⟨_, rfl⟩
  rw [hat]
  unfold rkq at hat
  obtain ⟨q1, h_1⟩ : ∃ u, ap f y z = u := ⟨_, rfl⟩
  obtain ⟨q2, h_2⟩ : ∃ u, ap f x y = u := ⟨_, rfl⟩
  obtain ⟨q3, h_3⟩ : ∃ u, ap f x z = u := ⟨_, rfl⟩
  rw [h_1, h_2, h_3] at hat
  rw [h_1] at hq1
  rw [h_2] at hq2
  rw [h_3] at hq3
  obtain ⟨q4, h_4⟩ : ∃ u, ap f x q1 = u := ⟨_, rfl⟩
  obtain ⟨q5, h_5⟩ : ∃ u, ap f q2 q3 = u := ⟨_, rfl⟩
  rw [h_4, h_5] at hat
  have HAT : Hid ((!decide (q4 = q5)) = bq) := hide hat
  have U1 := hide h_1
  have U2 := hide h_2
  have U3 := hide h_3
  have U4 := hide h_4
  have U5 := hide h_5
  clear h_1 h_2 h_3 h_4 h_5 hat
  have k0 := HKc.out.cell 0 _ rfl
  have tok0 : True := trivial
  have tok1 : True := trivial
  have tok2 : True := trivial
  have tok3 : True := trivial
  go_enter Try.func93, Try.ntmps93
  by_cases hcs : q4 = q5
  · have hbq : bq = false := by rw [← HAT.out, hcs]; simp
    subst hcs
    subst hbq
    go_wp2_with fail
    go_region_held3 (fun w' => w'.cell? ⟨b, 0, none⟩ = some (.slice A n c)) (first | exact k0 | go_keep) (first | (go_at_call 74; have _t := tok0; clear _t tok0; go_must (refine calls_gen fun wc hwc => ?_; (first | have hbx := drew_below hwc | have hbx := eq_below hwc); replace HBc := hide (HBc.out.trans (hbx.mono HBc.out.size)); replace HKc := hide (HKc.out.later hbx); clear hwc hbx; refine (act_any _ _ _ f y z q1 _ HN.out HTB.out (HR.out.later HBc.out) hy hz U1.out).mono ?_; rintro e wd ⟨rfl, hbd⟩; replace HBc := hide (HBc.out.trans (hbd.mono HBc.out.size)); replace HKc := hide (HKc.out.later hbd); clear hbd; have k0 := HKc.out.cell 0 _ rfl)) | (go_at_call 74; have _t := tok1; clear _t tok1; go_must (refine calls_gen fun wc hwc => ?_; (first | have hbx := drew_below hwc | have hbx := eq_below hwc); replace HBc := hide (HBc.out.trans (hbx.mono HBc.out.size)); replace HKc := hide (HKc.out.later hbx); clear hwc hbx; refine (act_any _ _ _ f x q1 q4 _ HN.out HTB.out (HR.out.later HBc.out) hx hq1 U4.out).mono ?_; rintro e wd ⟨rfl, hbd⟩; replace HBc := hide (HBc.out.trans (hbd.mono HBc.out.size)); replace HKc := hide (HKc.out.later hbd); clear hbd; have k0 := HKc.out.cell 0 _ rfl)) | (go_at_call 74; have _t := tok2; clear _t tok2; go_must (refine calls_gen fun wc hwc => ?_; (first | have hbx := drew_below hwc | have hbx := eq_below hwc); replace HBc := hide (HBc.out.trans (hbx.mono HBc.out.size)); replace HKc := hide (HKc.out.later hbx); clear hwc hbx; refine (act_any _ _ _ f x y q2 _ HN.out HTB.out (HR.out.later HBc.out) hx hy U2.out).mono ?_; rintro e wd ⟨rfl, hbd⟩; replace HBc := hide (HBc.out.trans (hbd.mono HBc.out.size)); replace HKc := hide (HKc.out.later hbd); clear hbd; have k0 := HKc.out.cell 0 _ rfl)) | (go_at_call 74; have _t := tok3; clear _t tok3; go_must (refine calls_gen fun wc hwc => ?_; (first | have hbx := drew_below hwc | have hbx := eq_below hwc); replace HBc := hide (HBc.out.trans (hbx.mono HBc.out.size)); replace HKc := hide (HKc.out.later hbx); clear hwc hbx; refine (act_any _ _ _ f x z q3 _ HN.out HTB.out (HR.out.later HBc.out) hx hz U3.out).mono ?_; rintro e wd ⟨rfl, hbd⟩; replace HBc := hide (HBc.out.trans (hbd.mono HBc.out.size)); replace HKc := hide (HKc.out.later hbd); clear hbd; have k0 := HKc.out.cell 0 _ rfl)) | (go_at_call 74; go_must (refine calls_gen fun wc hwc => ?_; (first | have hbx := drew_below hwc | have hbx := eq_below hwc); replace HBc := hide (HBc.out.trans (hbx.mono HBc.out.size)); replace HKc := hide (HKc.out.later hbx); clear hwc hbx; refine (act_any _ _ _ f q2 q3 q4 _ HN.out HTB.out (HR.out.later HBc.out) hq2 hq3 U5.out).mono ?_; rintro e wd ⟨rfl, hbd⟩; replace HBc := hide (HBc.out.trans (hbd.mono HBc.out.size)); replace HKc := hide (HKc.out.later hbd); clear hbd; have k0 := HKc.out.cell 0 _ rfl)))
    go_wp2_with fail
    go_ret
    exact ⟨rfl, HBc.out⟩
  · have hbq : bq = true := by rw [← HAT.out]; simp [hcs]
    have hcz : ((q4 : Int) != (q5 : Int)) = true := by rw [bne_iff_ne]; omega
    subst hbq
    go_wp2_with fail
    go_region_held3 (fun w' => w'.cell? ⟨b, 0, none⟩ = some (.slice A n c)) (first | exact k0 | go_keep) (first | (go_at_call 74; have _t := tok0; clear _t tok0; go_must (refine calls_gen fun wc hwc => ?_; (first | have hbx := drew_below hwc | have hbx := eq_below hwc); replace HBc := hide (HBc.out.trans (hbx.mono HBc.out.size)); replace HKc := hide (HKc.out.later hbx); clear hwc hbx; refine (act_any _ _ _ f y z q1 _ HN.out HTB.out (HR.out.later HBc.out) hy hz U1.out).mono ?_; rintro e wd ⟨rfl, hbd⟩; replace HBc := hide (HBc.out.trans (hbd.mono HBc.out.size)); replace HKc := hide (HKc.out.later hbd); clear hbd; have k0 := HKc.out.cell 0 _ rfl)) | (go_at_call 74; have _t := tok1; clear _t tok1; go_must (refine calls_gen fun wc hwc => ?_; (first | have hbx := drew_below hwc | have hbx := eq_below hwc); replace HBc := hide (HBc.out.trans (hbx.mono HBc.out.size)); replace HKc := hide (HKc.out.later hbx); clear hwc hbx; refine (act_any _ _ _ f x q1 q4 _ HN.out HTB.out (HR.out.later HBc.out) hx hq1 U4.out).mono ?_; rintro e wd ⟨rfl, hbd⟩; replace HBc := hide (HBc.out.trans (hbd.mono HBc.out.size)); replace HKc := hide (HKc.out.later hbd); clear hbd; have k0 := HKc.out.cell 0 _ rfl)) | (go_at_call 74; have _t := tok2; clear _t tok2; go_must (refine calls_gen fun wc hwc => ?_; (first | have hbx := drew_below hwc | have hbx := eq_below hwc); replace HBc := hide (HBc.out.trans (hbx.mono HBc.out.size)); replace HKc := hide (HKc.out.later hbx); clear hwc hbx; refine (act_any _ _ _ f x y q2 _ HN.out HTB.out (HR.out.later HBc.out) hx hy U2.out).mono ?_; rintro e wd ⟨rfl, hbd⟩; replace HBc := hide (HBc.out.trans (hbd.mono HBc.out.size)); replace HKc := hide (HKc.out.later hbd); clear hbd; have k0 := HKc.out.cell 0 _ rfl)) | (go_at_call 74; have _t := tok3; clear _t tok3; go_must (refine calls_gen fun wc hwc => ?_; (first | have hbx := drew_below hwc | have hbx := eq_below hwc); replace HBc := hide (HBc.out.trans (hbx.mono HBc.out.size)); replace HKc := hide (HKc.out.later hbx); clear hwc hbx; refine (act_any _ _ _ f x z q3 _ HN.out HTB.out (HR.out.later HBc.out) hx hz U3.out).mono ?_; rintro e wd ⟨rfl, hbd⟩; replace HBc := hide (HBc.out.trans (hbd.mono HBc.out.size)); replace HKc := hide (HKc.out.later hbd); clear hbd; have k0 := HKc.out.cell 0 _ rfl)) | (go_at_call 74; go_must (refine calls_gen fun wc hwc => ?_; (first | have hbx := drew_below hwc | have hbx := eq_below hwc); replace HBc := hide (HBc.out.trans (hbx.mono HBc.out.size)); replace HKc := hide (HKc.out.later hbx); clear hwc hbx; refine (act_any _ _ _ f q2 q3 q5 _ HN.out HTB.out (HR.out.later HBc.out) hq2 hq3 U5.out).mono ?_; rintro e wd ⟨rfl, hbd⟩; replace HBc := hide (HBc.out.trans (hbd.mono HBc.out.size)); replace HKc := hide (HKc.out.later hbd); clear hbd; have k0 := HKc.out.cell 0 _ rfl)))
    go_wp2_with fail
    go_ret
    exact ⟨rfl, HBc.out⟩

set_option maxRecDepth 100000 in
theorem kfaultQ_any (A : Option Addr) (n c : Nat) (f : List (List Int)) (T : Nat) (w : World) (hn : f.length = n) (ht : Tbl f) (hr : Rd2 w A f) (hT : FirstQ (rkq f) n T) :
    Calls Try.prog 72 #[.agg #[.slice A n c]] w fun e w' => (T = n * n * n ∧ e = .returned (.slice none 0 0) ∧ Below w.heap.size w w') ∨ (T < n * n * n ∧ ∃ g, e = .returned (.slice (some ⟨g, 0, none⟩) 3 3) ∧ Below w.heap.size w w' ∧ w.heap.size ≤ g ∧ OwnB 2 w' g (lst3 (trip n T))) := by
  have h1 : 1 ≤ n := by rw [← hn]; exact ht.1
  have h12 : n ≤ 12 := by rw [← hn]; exact ht.2.1
  have HN := hide hn
  have HTB := hide ht
  have HR := hide hr
  have HT := hide hT
  have HB0 := hide ((Below.refl _ w).alloc (Nat.le_refl _) (Obj.cells #[Value.slice A n c] 26))
  have HK0 := hide (Blk.new w 26 [.slice A n c])
  clear hn ht hr hT
  go_enter Try.func72, Try.ntmps72
  go_wp2_with fail
  refine (ksize_any _ _ _ _ (by omega)).mono ?_
  rintro e w2 ⟨rfl, hb2⟩
  have HB2 := hide (HB0.out.trans (hb2.mono HB0.out.size))
  have HK2 := hide (HK0.out.later hb2)
  clear hb2
  go_wp2_with fail
  refine (firstTriple_any 93 _ n (rkq f) T _ (fun _ _ => rfl) h1 h12 (kfC_any A n c f w.heap.size _ HN.out HTB.out (HR.out.later HB2.out) HK2.out) HT.out).mono ?_
  rintro e w3 (⟨hTe, rfl, hb3⟩ | ⟨hTl, g, rfl, hb3, hg, hob⟩)
  · have HB3 := hide (HB2.out.trans (hb3.mono HB2.out.size))
    clear hb3
    go_wp2_with fail
    go_ret
    exact .inl ⟨hTe, rfl, HB3.out⟩
  · have HB3 := hide (HB2.out.trans (hb3.mono HB2.out.size))
    have HO3 := hide hob
    have hlo : w.heap.size ≤ g := by have := HB2.out.size; omega
    clear hb3 hob
    go_wp2_with fail
    go_ret
    exact .inr ⟨hTl, _, rfl, HB3.out, hlo, HO3.out⟩

theorem kfault_any (A : Option Addr) (n c : Nat) (f : List (List Int)) (T : Nat) (w : World) (hn : f.length = n) (ht : Tbl f) (hr : Rd2 w A f) (hT : FirstK f n T) :
    Calls Try.prog 72 #[.agg #[.slice A n c]] w fun e w' => (T = n * n * n ∧ e = .returned (.slice none 0 0) ∧ Below w.heap.size w w') ∨ (T < n * n * n ∧ ∃ g, e = .returned (.slice (some ⟨g, 0, none⟩) 3 3) ∧ Below w.heap.size w w' ∧ w.heap.size ≤ g ∧ OwnB 2 w' g (lst3 (trip n T))) :=
  kfaultQ_any A n c f T w hn ht hr hT.q
end Go.Proofs.Ytkflmhmbkilmpab
namespace Go.Proofs.Ytkflmhmbkilmpab
open Go Go.RowKit
set_option maxHeartbeats 2000000

set_option maxRecDepth 100000 in
theorem isRackI (A : Option Addr) (n c : Nat) (f : List (List Int)) (r : Bool) (w : World) (hn : f.length = n) (hb : n ≤ 1048576) (hbs : ∀ i, i < f.length → (f.getD i []).length ≤ 1048576) (hr : Rd2 w A f) (hres : RkRes f r) :
    Calls Try.prog 43 #[.agg #[.slice A n c]] w fun e w' => e = .returned (.bool r) ∧ Below w.heap.size w w' := by
  have HN := hide hn
  have HBS := hide hbs
  have HRD := hide hr
  have HR := hide hres
  have hnil : ∀ (u : World) (a : Option Addr) (n c : Nat), (binOp .eql 33 (.slice a n c) (.slice none 0 0)).run Try.prog u = .ok (.bool a.isNone) u := fun u a n c => Lib.run_eql_slice_nil u 33 _ a n c 0 0 Try.underlying33
  have HB0 := hide ((Below.refl _ w).alloc (Nat.le_refl _) (Obj.cells #[Value.slice A n c] 26))
  have HK0 := hide (Blk.new w 26 [.slice A n c])
  by_cases ht : Tbl f
  · have HTB := hide ht
    have hTm : ∃ T, FirstK f n T := FirstK.ex f n
    by_cases hp : AllPrm f
    · have HP := hide hp
      obtain ⟨T, hT⟩ := hTm
      have HT := hide hT
      have hiff : r = true ↔ T = n * n * n := by
        have hrr : r = true ↔ Rck f := HR.out
        rw [hrr, hT.iff, ← hn]
        exact ⟨fun h => h.2, fun h => ⟨⟨ht, hp⟩, h⟩⟩
      have HI := hide hiff
      clear hn hbs hr hres ht hp hT hiff
      go_enter Try.func43, Try.ntmps43
      go_wp2_with fail
      refine (isTable_any _ _ _ f true _ HN.out (by omega) (fun i hi => by have := HBS.out i hi; omega) (HRD.out.later HB0.out) (by simp [HTB.out])).mono ?_
      rintro e w1 ⟨rfl, hq1⟩
      have HB1 := hide (HB0.out.trans (hq1.below _))
      have HK1 := hide (HK0.out.later (hq1.below _))
      clear hq1
      have k0 := HK1.out.cell 0 _ rfl
      go_wp2_with fail
      clear k0
      refine (rowsI_any _ _ _ f true _ HN.out hb HBS.out (HRD.out.later HB1.out) ⟨fun _ => HP.out, fun _ => rfl⟩).mono ?_
      rintro e w2 ⟨rfl, hb2⟩
      have HB2 := hide (HB1.out.trans (hb2.mono HB1.out.size))
      have HK2 := hide (HK1.out.later hb2)
      clear hb2
      have k0 := HK2.out.cell 0 _ rfl
      go_wp2_with fail
      clear k0
      refine (kfault_any _ _ _ f T _ HN.out HTB.out (HRD.out.later HB2.out) HT.out).mono ?_
      rintro e w3 (⟨hTe, rfl, hb3⟩ | ⟨hTl, g, rfl, hb3, hg, hob⟩)
      · have hrt : r = true := HI.out.2 hTe
        subst hrt
        have HB3 := hide (HB2.out.trans (hb3.mono HB2.out.size))
        clear hb3 hTe
        go_wp2_with fail
        go_ret
        exact ⟨rfl, HB3.out⟩
      · have hrf : r = false := by
          cases r
          · rfl
          · have := HI.out.1 rfl; omega
        subst hrf
        have HB3 := hide (HB2.out.trans (hb3.mono HB2.out.size))
        clear hb3 hTl hob
        go_wp2_with fail
        go_ret
        exact ⟨rfl, HB3.out⟩
    · have hrf : r = false := by
        cases r
        · rfl
        · exact absurd (HR.out.1 rfl).prm hp
      subst hrf
      have HP := hide hp
      clear hn hbs hr hres ht hp
      go_enter Try.func43, Try.ntmps43
      go_wp2_with fail
      refine (isTable_any _ _ _ f true _ HN.out (by omega) (fun i hi => by have := HBS.out i hi; omega) (HRD.out.later HB0.out) (by simp [HTB.out])).mono ?_
      rintro e w1 ⟨rfl, hq1⟩
      have HB1 := hide (HB0.out.trans (hq1.below _))
      have HK1 := hide (HK0.out.later (hq1.below _))
      clear hq1
      have k0 := HK1.out.cell 0 _ rfl
      go_wp2_with fail
      clear k0
      refine (rowsI_any _ _ _ f false _ HN.out hb HBS.out (HRD.out.later HB1.out) ⟨fun h => (by cases h), fun h => absurd h HP.out⟩).mono ?_
      rintro e w2 ⟨rfl, hb2⟩
      have HB2 := hide (HB1.out.trans (hb2.mono HB1.out.size))
      clear hb2
      go_wp2_with fail
      go_ret
      exact ⟨rfl, HB2.out⟩
  · have hrf : r = false := by
      cases r
      · rfl
      · exact absurd (HR.out.1 rfl).tbl ht
    subst hrf
    have HTB := hide ht
    clear hn hbs hr hres ht
    go_enter Try.func43, Try.ntmps43
    go_wp2_with fail
    refine (isTable_any _ _ _ f false _ HN.out (by omega) (fun i hi => by have := HBS.out i hi; omega) (HRD.out.later HB0.out) (by simp [HTB.out])).mono ?_
    rintro e w1 ⟨rfl, hq1⟩
    have HB1 := hide (HB0.out.trans (hq1.below _))
    clear hq1
    go_wp2_with fail
    go_ret
    exact ⟨rfl, HB1.out⟩
end Go.Proofs.Ytkflmhmbkilmpab
namespace Go.Proofs.Ytkflmhmbkilmpab
open Go Go.RowKit
set_option maxHeartbeats 2000000

/-- The function that does a row, then the list behind its pointer. -/
theorem qoC_any (pb : Nat) (C : Option Addr) (n c : Nat) (f : List (List Int)) (q : List Int) (w : World) (hn : f.length = n) (ht : Tbl f) (hq : q.length = n) (hp : Blk w pb 53 [.slice C n c]) (hrq : Rd w C q) :
    RowFn Try.prog 2 52 #[.pointer (some ⟨pb, 0, none⟩)] w n f (fun i => thenL (f.getD i []) q) := by
  intro W x B d hx hbe hrd
  show Calls Try.prog 52 #[.slice B n d, .pointer (some ⟨pb, 0, none⟩)] W _
  have h12 : n ≤ 12 := by rw [← hn]; exact ht.2.1
  have HL := hide (ht.row_len hn hx)
  have HTL : Hid ((thenL (f.getD x []) q).length = n) := hide ((thenL_length _ _).trans (ht.row_len hn hx))
  have HIN : Hid (∀ y ∈ f.getD x [], 0 ≤ y ∧ y < (n : Int)) := hide (fun y hy => by
    obtain ⟨i, hi, rfl⟩ := List.getElem_of_mem hy
    have h := (ht.2.2 x (by omega)).2 i (by have := HL.out; omega)
    rw [hn] at h
    have e9 : (f.getD x []).getD i 0 = (f.getD x [])[i] := by rw [List.getD_eq_getElem?_getD, List.getElem?_eq_getElem hi]; rfl
    rw [e9] at h
    exact h)
  have HQ := hide (hrq.later hbe)
  have HQL := hide hq
  have HRD := hide hrd
  have k0 := (hp.later hbe).cell 0 _ rfl
  clear hn ht hq hp hrq hrd hbe
  go_enter Try.func52, Try.ntmps52
  go_wp2_with fail
  refine (then_any _ _ _ _ _ _ (f.getD x []) q _ HL.out HQL.out (by omega) (by omega) HRD.out HQ.out HIN.out).mono ?_
  rintro e w1 ⟨rfl, hb1, hrow⟩
  have HB1 := hide hb1
  have HO := hide hrow.own
  clear hb1 hrow k0
  go_wp2_with fail
  go_ret
  exact ⟨some ⟨W.heap.size, 0, none⟩, n, by rw [HTL.out]; rfl, HB1.out, .inr ⟨_, rfl, Nat.le_refl _, HO.out⟩⟩

set_option maxRecDepth 100000 in
theorem qoI_any (A : Option Addr) (n c : Nat) (f : List (List Int)) (zs : List (List Int)) (code : Int) (k : Nat) (w : World) (hn : f.length = n) (hb : n ≤ 1048576) (hbs : ∀ i, i < f.length → (f.getD i []).length ≤ 1048576) (hr : Rd2 w A f) (hres : QoRes f zs code) (hk : zs.length = k) :
    Calls Try.prog 25 #[.agg #[.slice A n c]] w (fun e w' => ∃ A' c', e = .returned (.tuple #[.agg #[.slice A' k c'], .int .i64 code]) ∧ Below w.heap.size w w' ∧ Obj2 33 2 w.heap.size w'.heap.size w' A' zs) := by
  have HN := hide hn
  have HBS := hide hbs
  have HRD := hide hr
  have HB0 := hide (((Below.refl _ w).alloc (Nat.le_refl _) (Obj.cells #[Value.slice A n c] 26)).alloc (by simp) (Obj.cells #[.slice none 0 0] 26))
  have HK0 := hide ((Blk.new w 26 [.slice A n c]).alloc (Obj.cells #[.slice none 0 0] 26))
  have HR0 : Hid (Blk ((w.alloc (Obj.cells #[Value.slice A n c] 26)).alloc (Obj.cells #[.slice none 0 0] 26)) (w.heap.size + 1) 26 [.slice none 0 0]) := hide (by have h := Blk.new (w.alloc (Obj.cells #[Value.slice A n c] 26)) 26 [.slice none 0 0]; simpa using h)
  rcases hres with ⟨hp, rfl, rfl⟩ | ⟨hp, rfl, rfl⟩
  · have hk2 : k = n := by rw [← hk, qoL, rowsL_length, hn]
    subst hk2
    have HTB := hide hp.tbl
    have HPM := hide hp.prm
    have h12 : k ≤ 12 := by rw [← hn]; exact hp.tbl.2.1
    clear hk
    have HRK : Hid (RkRes f true) := hide (by unfold RkRes; simp [hp])
    have HP := hide hp
    clear hn hbs hr hp
    go_enter Try.func25, Try.ntmps25
    go_wp2_with fail
    refine (isRackI _ _ _ f true _ HN.out hb HBS.out (HRD.out.later HB0.out) HRK.out).mono ?_
    rintro e w1 ⟨rfl, hb1⟩
    have HB1 := hide (HB0.out.trans (hb1.mono HB0.out.size))
    have HK1 := hide (HK0.out.later hb1)
    have HR1 := hide (HR0.out.later hb1)
    clear hb1
    have HKL : Hid ((kinkL f).length = k) := hide ((kinkL_length f).trans HN.out)
    have HBKL : Hid ((backTo (kinkL f) f.length).length = k) := hide ((backTo_length _ _).trans HKL.out)
    have HFL : Hid (∀ i, i < k → (thenL (f.getD i []) (backTo (kinkL f) f.length)).length = k) := hide (fun i hi => by rw [thenL_length]; exact HTB.out.row_len HN.out hi)
    have k0 := HK1.out.cell 0 _ rfl
    go_wp2_with fail
    clear k0
    refine (kink_any _ _ _ f _ HN.out HTB.out (HRD.out.later HB1.out)).mono ?_
    rintro e w5 ⟨g, rfl, hb5, hg, ho⟩
    have HB5 := hide (HB1.out.trans (hb5.mono HB1.out.size))
    have HK5 := hide (HK1.out.later hb5)
    have HR5 := hide (HR1.out.later hb5)
    have HO5 := hide ho
    clear hb5 ho
    have k0 := HK5.out.cell 0 _ rfl
    go_wp2_with fail
    clear k0
    refine (inverse_any _ k _ (kinkL f) _ HKL.out (by omega) HO5.out.rd (kink_in HTB.out HN.out)).mono ?_
    rintro e w6 ⟨A6, c6, rfl, hb6, hres6⟩
    have HB6 := hide (HB5.out.trans (hb6.mono HB5.out.size))
    have HK6 := hide (HK5.out.later hb6)
    have HR6 := hide (HR5.out.later hb6)
    have HQ6 : Hid (Rd w6 A6 (backTo (kinkL f) f.length)) := hide (by rw [HN.out]; exact hres6.rd)
    have kc := fun o => (HK6.out.alloc o).cell 0 _ rfl
    clear hb6 hres6
    have k0 := HK6.out.cell 0 _ rfl
    go_wp2_with fail
    clear k0
    refine calls_gen fun w7 hw7 => ?_
    obtain ⟨pb, hpb⟩ : ∃ pb, w6.heap.size = pb := ⟨_, rfl⟩
    have hbx : Below w6.heap.size w6 w7 := by rw [hw7]; exact (Below.refl _ _).alloc (Nat.le_refl _) _
    have HP7 : Hid (Blk w7 pb 53 [.slice A6 k c6]) := hide (by rw [hw7, ← hpb]; exact Blk.new _ _ _)
    have HB7 := hide (HB6.out.trans (hbx.mono HB6.out.size))
    have HR7 := hide (HR6.out.later hbx)
    have HQ7 := hide (HQ6.out.later hbx)
    rw [hpb]
    clear hw7 hbx hpb
    refine (withRows_any 52 #[.pointer (some ⟨pb, 0, none⟩)] (fun i => thenL (f.getD i []) (backTo (kinkL f) f.length)) _ _ _ f _ (enters_of Try.func52 (by kernel_rfl) rfl) HN.out HTB.out (HRD.out.later HB7.out) HFL.out (qoC_any pb A6 k c6 f (backTo (kinkL f) f.length) _ HN.out HTB.out HBKL.out HP7.out HQ7.out)).mono ?_
    rintro e w2 ⟨A2, c2, rfl, hb2, ho2⟩
    have HB2 := hide (HB7.out.trans (hb2.mono HB7.out.size))
    have HR2 := hide (HR7.out.later hb2)
    have HO2 := hide ho2
    have hlow : w.heap.size + 1 < w7.heap.size := HR7.out.lt
    clear hb2 ho2
    have k2 := HR2.out.cell 0 _ rfl
    have k3 := HR2.out.frozen 0
    go_wp2_with fail
    refine bp_gen fun wf hwf => ?_
    obtain ⟨q0, hbf, hof⟩ := kend hwf HR2.out (by omega) HB2.out HO2.out (by omega) hlow (Nat.le_refl _)
    clear hwf k2 k3
    exact bodyPost_ret (v := .tuple #[.agg #[.slice A2 k c2], .int .i64 0]) (by simp [results, Try.results25, go_sem, q0]) rfl ⟨_, _, rfl, hbf, hof⟩
  · have hk0 : k = 0 := by rw [← hk]; rfl
    subst hk0
    clear hk
    have HRK : Hid (RkRes f false) := hide (by unfold RkRes; simp [hp])
    have HP := hide hp
    clear hn hbs hr hp
    go_enter Try.func25, Try.ntmps25
    go_wp2_with fail
    refine (isRackI _ _ _ f false _ HN.out hb HBS.out (HRD.out.later HB0.out) HRK.out).mono ?_
    rintro e w1 ⟨rfl, hb1⟩
    have HB1 := hide (HB0.out.trans (hb1.mono HB0.out.size))
    have HK1 := hide (HK0.out.later hb1)
    have HR1 := hide (HR0.out.later hb1)
    clear hb1
    have k2 := HR1.out.cell 0 _ rfl
    have k3 := HR1.out.frozen 0
    go_wp2_with fail
    refine bp_gen fun wf hwf => ?_
    have HRF : Blk wf (w.heap.size + 1) 26 [.slice none 0 0] := by rw [hwf]; first | exact HR1.out | exact HR1.out.set 0 _ | exact (HR1.out.set 0 _).set 1 _
    have hbf : Below w.heap.size w wf := by rw [hwf]; first | exact HB1.out | exact HB1.out.setCell (p := ⟨w.heap.size + 1, 0, none⟩) (by show w.heap.size ≤ w.heap.size + 1; omega) _ | exact (HB1.out.setCell (p := ⟨w.heap.size + 1, 0, none⟩) (by show w.heap.size ≤ w.heap.size + 1; omega) _).setCell (p := ⟨w.heap.size + 1, 1, none⟩) (by show w.heap.size ≤ w.heap.size + 1; omega) _
    have q0 := HRF.cell 0 _ rfl
    clear hwf k2 k3
    exact bodyPost_ret (v := .tuple #[.agg #[.slice none 0 0], .int .i64 1]) (by simp [results, Try.results25, go_sem, q0]) rfl ⟨_, _, rfl, hbf, .inl ⟨rfl, rfl⟩⟩

end Go.Proofs.Ytkflmhmbkilmpab
namespace Go.Proofs.Ytkflmhmbkilmpab
open Go Go.RowKit
set_option maxHeartbeats 2000000

set_option maxRecDepth 100000 in
theorem faultK_any (A : Option Addr) (n c : Nat) (f : List (List Int)) (T : Nat) (w : World) (hn : f.length = n) (ht : Tbl f) (hr : Rd2 w A f) (hT : FirstK f n T) :
    Calls Try.prog 69 #[.slice A n c] w fun e w' => (T = n * n * n ∧ e = .returned (.slice none 0 0) ∧ Below w.heap.size w w') ∨ (T < n * n * n ∧ ∃ g, e = .returned (.slice (some ⟨g, 0, none⟩) 3 3) ∧ Below w.heap.size w w' ∧ w.heap.size ≤ g ∧ OwnB 2 w' g (lst3 (trip n T))) := by
  have h1 : 1 ≤ n := by rw [← hn]; exact ht.1
  have h12 : n ≤ 12 := by rw [← hn]; exact ht.2.1
  obtain ⟨b, o, rfl, hb, hc⟩ := ht.cells hr hn
  have HC := hide hc
  have HN := hide hn
  have HTB := hide ht
  have HT := hide hT
  clear hn ht hr hT hc
  go_enter Try.func69, Try.ntmps69
  go_wp2_with fail
  go_loopw [4] (fun i wr => ∃ x : Nat, x ≤ n ∧ i = .int .i64 x ∧ Quiet w wr ∧ ∀ i, i < x * n * n → Rk3 f n i) (fun i _ => n - (intOf i).toNat)
  case atStart => exact ⟨0, Nat.zero_le _, rfl, Quiet.refl _, fun i hi => absurd hi (by omega)⟩
  case round =>
    obtain ⟨x, hx, rfl, hq, hall⟩ := hrel
    have HQ := hide hq
    clear hq
    have HALL := hide hall
    clear hall
    by_cases hlt : x < n
    · have hxz : (x : Int) < n := by omega
      go_wp2_with fail
      go_loopw [5] (fun i wi => ∃ y : Nat, y ≤ n ∧ i = .int .i64 y ∧ Quiet w wi ∧ ∀ i, i < (x * n + y) * n → Rk3 f n i) (fun i _ => n - (intOf i).toNat)
      case atStart => exact ⟨0, Nat.zero_le _, rfl, HQ.out, fun i hi => HALL.out i (by rw [Nat.add_zero] at hi; exact hi)⟩
      case round =>
        obtain ⟨y, hy, rfl, hq, halli⟩ := hrel
        have HQI := hide hq
        clear hq
        have HALLI := hide halli
        clear halli
        by_cases hlty : y < n
        · have hyz : (y : Int) < n := by omega
          go_wp2_with fail
          go_loopw [6] (fun i wi => ∃ z : Nat, z ≤ n ∧ i = .int .i64 z ∧ Quiet w wi ∧ ∀ i, i < (x * n + y) * n + z → Rk3 f n i) (fun i _ => n - (intOf i).toNat)
          case atStart => exact ⟨0, Nat.zero_le _, rfl, HQI.out, HALLI.out⟩
          case round =>
            obtain ⟨z, hzn, rfl, hq, hallj⟩ := hrel
            have HQJ := hide hq
            clear hq
            have HALLJ := hide hallj
            clear hallj
            by_cases hltz : z < n
            · have hzz : (z : Int) < n := by omega
              have hq1 := HTB.out.ap_lt HN.out hlty hltz
              have hq2 := HTB.out.ap_lt HN.out hlt hlty
              have hq3 := HTB.out.ap_lt HN.out hlt hltz
              have hat := Rk3.at (f := f) (n := n) (x := x) hlty hltz
              have HTR := hide (trip_of (n := n) (x := x) hlty hltz)
              have HKL := hide (trip_lt (n := n) hlt hlty hltz)
              obtain ⟨q1, h_1⟩ : ∃ u, ap f y z = u := ⟨_, rfl⟩
              obtain ⟨q2, h_2⟩ : ∃ u, ap f x y = u := ⟨_, rfl⟩
              obtain ⟨q3, h_3⟩ : ∃ u, ap f x z = u := ⟨_, rfl⟩
              rw [h_1, h_2, h_3] at hat
              rw [h_1] at hq1
              rw [h_2] at hq2
              rw [h_3] at hq3
              obtain ⟨q4, h_4⟩ : ∃ u, ap f x q1 = u := ⟨_, rfl⟩
              obtain ⟨q5, h_5⟩ : ∃ u, ap f q2 q3 = u := ⟨_, rfl⟩
              rw [h_4, h_5] at hat
              have HAT := hide hat
              obtain ⟨bx, ox, cx, r1, r2, r3⟩ := HC.out x hlt
              obtain ⟨by', oy, cy, s1, s2, s3⟩ := HC.out y hlty
              obtain ⟨bq, oq, cq, t1, t2, t3⟩ := HC.out q2 hq2
              have e1 := s3 z hltz
              rw [h_1] at e1
              have e2 := r3 y hlty
              rw [h_2] at e2
              have e3 := r3 z hltz
              rw [h_3] at e3
              have e4 := r3 q1 hq1
              rw [h_4] at e4
              have e5 := t3 q3 hq3
              rw [h_5] at e5
              have z1 : (q1 : Int) < n := by omega
              have z2 : (q2 : Int) < n := by omega
              have z3 : (q3 : Int) < n := by omega
              have hbl := HQJ.out.below w.heap.size
              replace r1 := (hbl.cell (p := ⟨b, o + x, none⟩) hb).trans r1
              replace s1 := (hbl.cell (p := ⟨b, o + y, none⟩) hb).trans s1
              replace t1 := (hbl.cell (p := ⟨b, o + q2, none⟩) hb).trans t1
              replace e1 := (hbl.cell (p := ⟨by', oy + z, none⟩) s2).trans e1
              replace e2 := (hbl.cell (p := ⟨bx, ox + y, none⟩) r2).trans e2
              replace e3 := (hbl.cell (p := ⟨bx, ox + z, none⟩) r2).trans e3
              replace e4 := (hbl.cell (p := ⟨bx, ox + q1, none⟩) r2).trans e4
              replace e5 := (hbl.cell (p := ⟨bq, oq + q3, none⟩) t2).trans e5
              clear hbl h_1 h_2 h_3 h_4 h_5 hat r3 s3 t3
              by_cases hcs : q4 = q5
              · have HGOOD := hide (HAT.out.2 hcs)
                subst hcs
                go_wp2_with fail
                go_quiet (fail)
                go_wp2_with fail
                go_roundw
                case rel => exact ⟨z + 1, by omega, by go_num, HQJ.out.drewN _, fun i hi => by
                  by_cases e : i = (x * n + y) * n + z
                  · rw [e]; exact HGOOD.out
                  · exact HALLJ.out i (by omega)⟩
                case measure => simp [intOf]; omega
              · have hbad : ¬ Rk3 f n ((x * n + y) * n + z) := fun h => hcs (HAT.out.1 h)
                have HTB2 := hide (HT.out.bad HALLJ.out HKL.out hbad)
                have hcz : ¬ (q4 : Int) = q5 := by omega
                clear hbad
                go_wp2_with fail
                go_quiet (fail)
                go_wp2_with fail
                refine bp_gen fun wf hwf => ?_
                have HBF : Below w.heap.size w wf := by rw [hwf]; exact ((HQJ.out.drewN nq).below _).alloc ((HQJ.out.drewN nq).below 0).size _
                have HLF : Hid (Blk wf (wr.drewN nq).heap.size 2 [.int .i64 x, .int .i64 y, .int .i64 z]) := hide (by rw [hwf]; exact Blk.new _ _ _)
                have hlo : w.heap.size ≤ (wr.drewN nq).heap.size := ((HQJ.out.drewN nq).below 0).size
                clear hwf
                go_ret
                exact .inr ⟨by rw [HTB2.out]; exact HKL.out, _, rfl, HBF, hlo, _, HLF.out, fun i hi => by
                  rw [HTB2.out, HTR.out] at hi ⊢
                  simp [lst3] at hi
                  rcases i with _ | _ | _ | i
                  · rfl
                  · rfl
                  · rfl
                  · omega⟩
            · have hzn' : z = n := by omega
              subst hzn'
              go_wp2_with fail
              go_roundw
              case rel => exact ⟨y + 1, by omega, by go_num, HQJ.out, fun i hi => HALLJ.out i (by rw [← Nat.add_assoc, Nat.add_mul _ 1, Nat.one_mul] at hi; exact hi)⟩
              case measure => simp [intOf]; omega
        · have hyn' : y = n := by omega
          subst hyn'
          go_wp2_with fail
          go_roundw
          case rel => exact ⟨x + 1, by omega, by go_num, HQI.out, fun i hi => HALLI.out i (by rw [Nat.add_mul x 1, Nat.one_mul] at hi; exact hi)⟩
          case measure => simp [intOf]; omega
    · have hxn : x = n := by omega
      subst hxn
      go_wp2_with fail
      go_ret
      exact .inl ⟨HT.out.all HALL.out, rfl, HQ.out.below _⟩
end Go.Proofs.Ytkflmhmbkilmpab
namespace Go.Proofs.Ytkflmhmbkilmpab
open Go Go.RowKit
set_option maxHeartbeats 2000000

set_option maxRecDepth 100000 in
theorem isRackS (A : Option Addr) (n c : Nat) (f : List (List Int)) (r : Bool) (w : World) (hn : f.length = n) (hb : n ≤ 1048576) (hbs : ∀ i, i < f.length → (f.getD i []).length ≤ 1048576) (hr : Rd2 w A f) (hres : RkRes f r) :
    Calls Try.prog 40 #[.agg #[.slice A n c]] w fun e w' => e = .returned (.bool r) ∧ Below w.heap.size w w' := by
  have HN := hide hn
  have HBS := hide hbs
  have HRD := hide hr
  have HR := hide hres
  have HB0 := hide ((Below.refl _ w).alloc (Nat.le_refl _) (Obj.cells #[Value.slice A n c] 26))
  have HK0 := hide (Blk.new w 26 [.slice A n c])
  by_cases ht : Tbl f
  · have HTB := hide ht
    obtain ⟨T, hT⟩ := FirstK.ex f n
    have HT := hide hT
    clear hn hbs hr hres ht hT
    go_enter Try.func40, Try.ntmps40
    go_wp2_with fail
    refine (l01Table_any _ _ _ f true _ HN.out (by omega) (fun i hi => by have := HBS.out i hi; omega) (HRD.out.later HB0.out) (by simp [HTB.out])).mono ?_
    rintro e w1 ⟨rfl, hq1⟩
    have HB1 := hide (HB0.out.trans (hq1.below _))
    have HK1 := hide (HK0.out.later (hq1.below _))
    clear hq1
    go_wp2_with fail
    go_loopw [3] (fun i wr => ∃ k : Nat, k ≤ n ∧ i = .int .i64 k ∧ Below w.heap.size w wr ∧ Blk wr w.heap.size 26 [.slice A n c] ∧ ∀ i, i < k → Prm (f.getD i [])) (fun i _ => n - (intOf i).toNat)
    case atStart => exact ⟨0, Nat.zero_le _, rfl, HB1.out, HK1.out, fun i hi => absurd hi (Nat.not_lt_zero _)⟩
    case round =>
      obtain ⟨k, hk, rfl, hbe, hkk, hall⟩ := hrel
      have HB := hide hbe
      have HK := hide hkk
      have HALL := hide hall
      clear hbe hkk hall
      have k0 := HK.out.cell 0 _ rfl
      by_cases hlt : k < n
      · obtain ⟨b, o, hA, _, hc⟩ := (HRD.out.later HB.out) (by have := HN.out; omega)
        obtain ⟨Ak, ck, hcell, hrd⟩ := hc k (by have := HN.out; omega)
        have hbk := HBS.out k (by have := HN.out; omega)
        obtain ⟨x, hx⟩ : ∃ x, x = f.getD k [] := ⟨_, rfl⟩
        obtain ⟨m, hm⟩ : ∃ m, x.length = m := ⟨_, rfl⟩
        rw [← hx] at hcell hrd hbk
        rw [hm] at hcell hbk
        have HX := hide hx
        have HM := hide hm
        have hltz : (k : Int) < n := by omega
        clear hx hm hc
        subst hA
        by_cases hp : Prm x
        · have HP := hide hp
          clear hp
          go_wp2_with fail
          clear k0
          refine (prmS_below _ _ _ x true _ HM.out (by omega) hrd (by simp [HP.out])).mono ?_
          rintro e w2 ⟨rfl, hq1⟩
          have HQ1 := hide hq1
          clear hq1
          go_wp2_with fail
          go_roundw
          case rel =>
            refine ⟨k + 1, by omega, by go_num, HB.out.trans (HQ1.out.mono HB.out.size), HK.out.later HQ1.out, fun i hi => ?_⟩
            by_cases e : i = k
            · subst e; rw [← HX.out]; exact HP.out
            · exact HALL.out i (by omega)
          case measure => simp [intOf]; omega
        · have HP := hide hp
          clear hp
          go_wp2_with fail
          clear k0
          refine (prmS_below _ _ _ x false _ HM.out (by omega) hrd (by simp [HP.out])).mono ?_
          rintro e w2 ⟨rfl, hq1⟩
          have HQ1 := hide hq1
          clear hq1
          have hnp : ¬ AllPrm f := fun h => by
            have h := h k (by have := HN.out; omega)
            rw [← HX.out] at h
            exact HP.out h
          have hrf : r = false := by
            cases r
            · rfl
            · have hrr : true = true ↔ Rck f := HR.out
              exact absurd (hrr.1 rfl).prm hnp
          subst hrf
          clear hnp
          go_wp2_with fail
          go_ret
          exact ⟨rfl, HB.out.trans (HQ1.out.mono HB.out.size)⟩
      · have hkn : k = n := by omega
        subst hkn
        have HAP : Hid (AllPrm f) := hide (fun i hi => HALL.out i (by have := HN.out; omega))
        go_wp2_with fail
        clear k0
        refine (faultK_any _ _ _ f T _ HN.out HTB.out (HRD.out.later HB.out) HT.out).mono ?_
        rintro e w3 (⟨hTe, rfl, hb3⟩ | ⟨hTl, g, rfl, hb3, hg, hob⟩)
        · have hrt : r = true := by
            have hrr : r = true ↔ Rck f := HR.out
            rw [hrr]
            refine ⟨⟨HTB.out, HAP.out⟩, ?_⟩
            rw [HN.out]
            exact HT.out.iff.1 hTe
          subst hrt
          have HB3 := hide (HB.out.trans (hb3.mono HB.out.size))
          clear hb3 hTe
          go_wp2_with fail
          go_ret
          exact ⟨rfl, HB3.out⟩
        · have hrf : r = false := by
            cases r
            · rfl
            · have hrr : true = true ↔ Rck f := HR.out
              have h := (hrr.1 rfl).2
              rw [HN.out] at h
              have := HT.out.iff.2 h
              omega
          subst hrf
          have HB3 := hide (HB.out.trans (hb3.mono HB.out.size))
          clear hb3 hTl hob
          go_wp2_with fail
          go_ret
          exact ⟨rfl, HB3.out⟩
  · have HTB := hide ht
    have hrf : r = false := by
      cases r
      · rfl
      · have hrr : true = true ↔ Rck f := HR.out
        exact absurd (hrr.1 rfl).tbl ht
    subst hrf
    clear hn hbs hr hres ht
    go_enter Try.func40, Try.ntmps40
    go_wp2_with fail
    refine (l01Table_any _ _ _ f false _ HN.out (by omega) (fun i hi => by have := HBS.out i hi; omega) (HRD.out.later HB0.out) (by simp [HTB.out])).mono ?_
    rintro e w1 ⟨rfl, hq1⟩
    have HB1 := hide (HB0.out.trans (hq1.below _))
    clear hq1
    go_wp2_with fail
    go_ret
    exact ⟨rfl, HB1.out⟩

end Go.Proofs.Ytkflmhmbkilmpab
namespace Go.Proofs.Ytkflmhmbkilmpab
open Go Go.RowKit
set_option maxHeartbeats 4000000
theorem qoInfo2 : (Try.prog.info? 33).map (fun i => (i.zero, i.size, i.bytes)) = some (some (.slice none 0 0), 1, 24) := by kernel_rfl
theorem rd_frame {w w' : World} {A : Option Addr} {xs : List Int} {B : Nat} (h : Rd w A xs) (hA : ∀ a, A = some a → a.block < B) (hb : ∀ b, b < B → b ≠ B → w'.heap[b]? = w.heap[b]?) : Rd w' A xs := by
  intro hn
  obtain ⟨b, o, rfl, hbw, hc⟩ := h hn
  have hlt := hA _ rfl
  have e := hb b hlt (by have h2 : b < B := hlt; omega)
  refine ⟨b, o, rfl, ?_, fun i hi => ?_⟩
  · have h2 : (w'.heap[b]?).isSome := by rw [e]; simp [hbw]
    simpa using h2
  · rw [World.cell?_of_block (a := ⟨b, o + i, none⟩) e]
    exact hc i hi
theorem rowsL_take2 (f : List (List Int)) (h : Nat → List Int) (x : Nat) (hx : x < f.length) : (rowsL f h).take (x + 1) = (rowsL f h).take x ++ [h x] := by
  rw [List.take_succ_eq_append_getElem (by rw [rowsL_length]; exact hx)]
  simp [rowsL]

set_option maxRecDepth 100000 in
theorem qoS_any (A : Option Addr) (n c : Nat) (f : List (List Int)) (zs : List (List Int)) (code : Int) (k : Nat) (w : World) (hn : f.length = n) (hb : n ≤ 1048576) (hbs : ∀ i, i < f.length → (f.getD i []).length ≤ 1048576) (hr : Rd2 w A f) (hres : QoRes f zs code) (hk : zs.length = k) :
    Calls Try.prog 24 #[.agg #[.slice A n c]] w (fun e w' => ∃ A' c', e = .returned (.tuple #[.agg #[.slice A' k c'], .int .i64 code]) ∧ Below w.heap.size w w' ∧ Obj2 33 2 w.heap.size w'.heap.size w' A' zs) := by
  have HN := hide hn
  have HBS := hide hbs
  have HRD := hide hr
  have HB0 := hide (((Below.refl _ w).alloc (Nat.le_refl _) (Obj.cells #[Value.slice A n c] 26)).alloc (by simp) (Obj.cells #[.slice none 0 0] 26))
  have HK0 := hide ((Blk.new w 26 [.slice A n c]).alloc (Obj.cells #[.slice none 0 0] 26))
  have HR0 : Hid (Blk ((w.alloc (Obj.cells #[Value.slice A n c] 26)).alloc (Obj.cells #[.slice none 0 0] 26)) (w.heap.size + 1) 26 [.slice none 0 0]) := hide (by have h := Blk.new (w.alloc (Obj.cells #[Value.slice A n c] 26)) 26 [.slice none 0 0]; simpa using h)
  rcases hres with ⟨hp, rfl, rfl⟩ | ⟨hp, rfl, rfl⟩
  · have hk2 : k = n := by rw [← hk, qoL, rowsL_length, hn]
    subst hk2
    have HTB := hide hp.tbl
    have HPM := hide hp.prm
    have h1 : 1 ≤ k := by rw [← hn]; exact hp.tbl.1
    have h12 : k ≤ 12 := by rw [← hn]; exact hp.tbl.2.1
    obtain ⟨i2, hj, hy0, hy1, hy2⟩ := info_parts qoInfo2
    clear hk
    have HRK : Hid (RkRes f true) := hide (by unfold RkRes; simp [hp])
    have HP := hide hp
    clear hn hbs hr hp
    go_enter Try.func24, Try.ntmps24
    go_wp2_with fail
    refine (isRackS _ _ _ f true _ HN.out hb HBS.out (HRD.out.later HB0.out) HRK.out).mono ?_
    rintro e w1 ⟨rfl, hb1⟩
    have HB1 := hide (HB0.out.trans (hb1.mono HB0.out.size))
    have HK1 := hide (HK0.out.later hb1)
    have HR1 := hide (HR0.out.later hb1)
    clear hb1
    obtain ⟨b, o, hA, hbw, hc⟩ := rd_rows HTB.out HRD.out HN.out
    subst hA
    have HC := hide hc
    clear hc
    have HKL : Hid ((kinkL f).length = k) := hide ((kinkL_length f).trans HN.out)
    have HBKL : Hid ((backTo (kinkL f) f.length).length = k) := hide ((backTo_length _ _).trans HKL.out)
    have k0 := HK1.out.cell 0 _ rfl
    go_wp2_with fail
    clear k0
    refine (kinkS_any _ k _ f _ HN.out HTB.out (HRD.out.later HB1.out)).mono ?_
    rintro e w5 ⟨A5, c5, rfl, hb5, hres5⟩
    have HB5 := hide (HB1.out.trans (hb5.mono HB1.out.size))
    have HK5 := hide (HK1.out.later hb5)
    have HR5 := hide (HR1.out.later hb5)
    have HQ5 := hide hres5.rd
    clear hb5 hres5
    go_wp2_with fail
    refine (l01Back_any _ k _ (kinkL f) _ HKL.out (by omega) HQ5.out (kink_in HTB.out HN.out)).mono ?_
    rintro e w6 ⟨A6, c6, rfl, hb6, hres6⟩
    have HB6 := hide (HB5.out.trans (hb6.mono HB5.out.size))
    have HK6 := hide (HK5.out.later hb6)
    have HR6 := hide (HR5.out.later hb6)
    have hA6' : ∀ a, A6 = some a → a.block < w6.heap.size := fun a ha => (hres6.obj.bounds a ha).2
    have HQ6 : Hid (Rd w6 A6 (backTo (kinkL f) f.length)) := hide (by rw [HN.out]; exact hres6.rd)
    clear hb6 hres6 HB1 HK1 HR1 HB5 HK5 HR5 HQ5
    go_wp2_with fail
    refine wp_gen fun w2 hw2 => ?_
    obtain ⟨ob, hob⟩ : ∃ ob, w6.heap.size = ob := ⟨_, rfl⟩
    have hob1 : w.heap.size + 1 < ob := by rw [← hob]; exact HR6.out.lt
    have HB2 : Hid (Below w.heap.size w w2) := hide (by rw [hw2]; exact HB6.out.alloc HB6.out.size _)
    have HK2 : Hid (Blk w2 w.heap.size 26 [.slice (some ⟨b, o, none⟩) k c]) := hide (by rw [hw2]; exact HK6.out.alloc _)
    have HR2 : Hid (Blk w2 (w.heap.size + 1) 26 [.slice none 0 0]) := hide (by rw [hw2]; exact HR6.out.alloc _)
    have HO2 : Hid (Blk w2 ob 26 [.slice none 0 0]) := hide (by rw [hw2, ← hob]; exact Blk.new _ _ _)
    have HQ2 : Hid (Rd w2 A6 (backTo (kinkL f) f.length)) := hide (by rw [hw2]; exact HQ6.out.later ((Below.refl _ _).alloc (Nat.le_refl _) _))
    have HT2 : Hid (One 33 2 26 (ob + 1) w2 ob 0 [.slice none 0 0] (.slice none 0 0) [] []) := hide (One.start w2 _ _ _ HO2.out (Nat.lt_succ_self _) HO2.out.lt)
    have hA6 : ∀ a, A6 = some a → a.block < ob := fun a ha => by rw [← hob]; exact hA6' a ha
    rw [hob]
    clear hw2 hob hA6'
    go_loopw [6] (fun i wr => ∃ (x : Nat) (v : Value) (vals : List Value), x ≤ k ∧ i = .int .i64 x ∧ Below w.heap.size w wr ∧ Blk wr w.heap.size 26 [.slice (some ⟨b, o, none⟩) k c] ∧ Blk wr (w.heap.size + 1) 26 [.slice none 0 0] ∧ Rd wr A6 (backTo (kinkL f) f.length) ∧ One 33 2 26 (ob + 1) wr ob 0 [.slice none 0 0] v ((qoL f).take x) vals) (fun i _ => k - (intOf i).toNat)
    case atStart => exact ⟨0, _, _, Nat.zero_le _, rfl, HB2.out, HK2.out, HR2.out, HQ2.out, by simpa using HT2.out⟩
    case round =>
      obtain ⟨x, v, vals, hx, rfl, hbe, hkk, hrr, hqq, htw⟩ := hrel
      clear HB2 HK2 HR2 HT2 HO2 HQ2
      have HB2 := hide hbe
      have HK2 := hide hkk
      have HR2 := hide hrr
      have HT2 := hide htw
      have HQ2 := hide hqq
      clear hbe hkk hrr hqq htw
      have j0 := HK2.out.cell 0 _ rfl
      by_cases hlt : x < k
      · have hxz : (x : Int) < k := by omega
        obtain ⟨Bx, cx, r1, hrd⟩ := HC.out x hlt
        have R1 := hide r1
        have HRR := hide hrd
        have HRL : Hid ((f.getD x []).length = k) := hide (HTB.out.row_len HN.out hlt)
        have HIN : Hid (∀ y ∈ f.getD x [], 0 ≤ y ∧ y < (k : Int)) := hide (by have h := (HPM.out x (by have := HN.out; omega)).2.2.1; rw [HRL.out] at h; exact h)
        have HBL : Hid ((thenL (f.getD x []) (backTo (kinkL f) f.length)).length = k) := hide ((thenL_length _ _).trans HRL.out)
        have HTL : Hid (((qoL f).take x).length = x) := hide (by rw [List.length_take, qoL, rowsL_length]; have := HN.out; omega)
        replace r1 := (HB2.out.cell (p := ⟨b, o + x, none⟩) hbw).trans R1.out
        clear hrd
        go_wp2_with fail
        have k0 := HT2.out.box.cell 0 _ rfl
        have k2 := HT2.out.box.frozen 0
        go_region_law (first | (go_simp; go_at_call 51; go_must (refine calls_gen fun wc hwc => ?_; (first | have hbx := drew_below hwc | have hbx := eq_below hwc); replace HB2 := hide (HB2.out.trans (hbx.mono HB2.out.size)); replace HT2 := hide (HT2.out.later hbx); replace HR2 := hide (HR2.out.later hbx); replace HK2 := hide (HK2.out.later hbx); replace HQ2 := hide (HQ2.out.later hbx); clear hwc hbx; refine (l01Then_any _ _ _ _ _ _ (f.getD x []) (backTo (kinkL f) f.length) _ HRL.out HBKL.out (by omega) (by omega) (HRR.out.later HB2.out) HQ2.out HIN.out).mono ?_; rintro e wd ⟨A5, c5, rfl, hbd, hr5⟩; have HLW := hide HT2.out; replace HB2 := hide (HB2.out.trans (hbd.mono HB2.out.size)); replace HT2 := hide (HT2.out.later hbd); replace HR2 := hide (HR2.out.later hbd); replace HK2 := hide (HK2.out.later hbd); replace HQ2 := hide (HQ2.out.later hbd); have HR5 := hide hr5; have HOW1 : Hid (wd.ownsRow (ob + 1) 33 1 v x vals) := hide (by have h := HT2.out.l.own; rw [HTL.out] at h; exact h); have hobl := HT2.out.box.lt; clear hbd hr5; have k0 := HT2.out.box.cell 0 _ rfl; have k2 := HT2.out.box.frozen 0; have j0 := HK2.out.cell 0 _ rfl; have r1 := (HB2.out.cell (p := ⟨b, o + x, none⟩) hbw).trans R1.out)) | (refine step_append_lies _ (by rfl) _ _ _ (by rfl) (ob + 1) 33 i2 _ 1 24 Try.underlying22 hj hy0 hy1 hy2 rfl (by omega) v x vals (by rfl) (HOW1.out.alloc _) ⟨wd.heap.size, 0, none⟩ 1 1 [.slice A5 k c5] (by rfl) (by rfl) kq_new (by simp [Value.oneCell']) (by omega) (by unfold maxLen; omega) (by omega) (by simp; omega) (wd.heap.size + 1) (by simp) ?_; intro gg cap w5 hown5 hgrow5 hat5 hlt5; have hbk := HT2.out.kept hgrow5; have k0 := hbk.cell 0 _ rfl; have k2 := hbk.frozen 0))
        all_goals
          have HT3 := hide (One.add (by decide) HLW.out HT2.out (Nat.le_refl _) HR5.out.obj HTL.out HBL.out hown5 hgrow5)
          have HB3 := hide (HT2.out.below hgrow5 (.slice (some ⟨gg, 0, none⟩) (x + 1) cap) HB2.out (by omega))
          have HK3 := hide ((HT2.out.frame hgrow5 (.slice (some ⟨gg, 0, none⟩) (x + 1) cap) (by omega) (by omega) HK2.out.lt).trans HK2.out)
          have HR3 := hide ((HT2.out.frame hgrow5 (.slice (some ⟨gg, 0, none⟩) (x + 1) cap) (by omega) (by omega) HR2.out.lt).trans HR2.out)
          have HQ3 : Hid (Rd (w5.setCell ⟨ob, 0, none⟩ (.slice (some ⟨gg, 0, none⟩) (x + 1) cap)) A6 (backTo (kinkL f) f.length)) := hide (rd_frame HQ2.out hA6 (fun b hb hne => HT2.out.frame hgrow5 (.slice (some ⟨gg, 0, none⟩) (x + 1) cap) (by omega) hne (by have := HT2.out.box.lt; omega)))
          clear hown5 hat5 hlt5 hgrow5 hbk k0 k2 j0 r1
          go_wp2_with fail
          go_roundw
          case rel =>
            refine ⟨x + 1, .slice (some ⟨gg, 0, none⟩) (x + 1) cap, vals ++ [.slice A5 k c5], by omega, by go_num, HB3.out, HK3.out, HR3.out, HQ3.out, ?_⟩
            rw [qoL, rowsL_take2 f _ x (by have := HN.out; omega)]
            have h := HT3.out
            rw [← HN.out] at h
            rw [qoL, HN.out] at h
            rw [HN.out]
            exact h
          case measure => simp [intOf]; omega
      · have hxn : x = k := by omega
        subst hxn
        obtain ⟨A1, c1, hv1, ho1⟩ := HT2.out.l.shape
        have hll : (qoL f).length = x := by rw [qoL, rowsL_length]; exact HN.out
        rw [List.take_of_length_le (by omega)] at hv1 ho1
        rw [hll] at hv1
        subst hv1
        have HA1 := hide ho1
        clear ho1
        have k0 := HT2.out.box.cell 0 _ rfl
        have k2 := HR2.out.cell 0 _ rfl
        have k3 := HR2.out.frozen 0
        go_wp2_with fail
        refine bp_gen fun wf hwf => ?_
        obtain ⟨q0, hbf, hof⟩ := kend hwf HR2.out (by omega) HB2.out HA1.out (by omega) (by omega) (Nat.le_refl _)
        clear hwf k0 k2 k3
        exact bodyPost_ret (v := .tuple #[.agg #[.slice A1 x c1], .int .i64 0]) (by simp [results, Try.results24, go_sem, q0]) rfl ⟨_, _, rfl, hbf, hof⟩
  · have hk0 : k = 0 := by rw [← hk]; rfl
    subst hk0
    clear hk
    have HRK : Hid (RkRes f false) := hide (by unfold RkRes; simp [hp])
    have HP := hide hp
    clear hn hbs hr hp
    go_enter Try.func24, Try.ntmps24
    go_wp2_with fail
    refine (isRackS _ _ _ f false _ HN.out hb HBS.out (HRD.out.later HB0.out) HRK.out).mono ?_
    rintro e w1 ⟨rfl, hb1⟩
    have HB1 := hide (HB0.out.trans (hb1.mono HB0.out.size))
    have HK1 := hide (HK0.out.later hb1)
    have HR1 := hide (HR0.out.later hb1)
    clear hb1
    have k2 := HR1.out.cell 0 _ rfl
    have k3 := HR1.out.frozen 0
    go_wp2_with fail
    refine bp_gen fun wf hwf => ?_
    have HRF : Blk wf (w.heap.size + 1) 26 [.slice none 0 0] := by rw [hwf]; first | exact HR1.out | exact HR1.out.set 0 _ | exact (HR1.out.set 0 _).set 1 _
    have hbf : Below w.heap.size w wf := by rw [hwf]; first | exact HB1.out | exact HB1.out.setCell (p := ⟨w.heap.size + 1, 0, none⟩) (by show w.heap.size ≤ w.heap.size + 1; omega) _ | exact (HB1.out.setCell (p := ⟨w.heap.size + 1, 0, none⟩) (by show w.heap.size ≤ w.heap.size + 1; omega) _).setCell (p := ⟨w.heap.size + 1, 1, none⟩) (by show w.heap.size ≤ w.heap.size + 1; omega) _
    have q0 := HRF.cell 0 _ rfl
    clear hwf k2 k3
    exact bodyPost_ret (v := .tuple #[.agg #[.slice none 0 0], .int .i64 1]) (by simp [results, Try.results24, go_sem, q0]) rfl ⟨_, _, rfl, hbf, .inl ⟨rfl, rfl⟩⟩

end Go.Proofs.Ytkflmhmbkilmpab
