import Derived.Test.YtiaebilcgmahlaaProg
import Derived.Test.YtiaebilcgmahlaaZv
import Derived.Test.YtiaebilcgmahlaaZc
import Derived.Test.YtiaebilcgmahlaaZo
import Derived.RangeFuncBound
import Derived.RangeFuncCalls
import Derived.Shelf.Abstract
import Derived.Shelf.Lay
import Derived.WalkKit
import Derived.OwnWalkIn
import Derived.TacticsInMore
import Derived.LoopNIn
import Derived.LoopIn
import Derived.RegionIn
import Derived.Deep.Cut
import Derived.Deep.DeepCutAuto
import Derived.RangeFuncLeaves
namespace Go.Proofs.Ytiaebilcgmahlaa
open Go Go.RowKit
set_option maxHeartbeats 2000000
theorem bwdC_any (u : Value) (C : Option Addr) (n c : Nat) (w : World) (hu : u = .slice C n c) :
    Calls Try.prog 111 #[u] w fun e w' => e = .returned (.func (.func 123) #[] #[.pointer (some ⟨w.heap.size, 0, none⟩)]) ∧ w' = w.alloc (.cells #[u] 25) := by
  subst hu
  go_enter Try.func111, Try.ntmps111
  go_wp2_with fail
  go_ret
  exact ⟨rfl, rfl⟩
/-- The elements of a slice from the last one on. -/
theorem bwdI_any (C : Option Addr) (n c : Nat) (xs : List Int) (pz : Nat) (U0 : Nat → Prop) (w00 w0 : World) (hn : n ≤ xs.length) (h12 : n ≤ 12) (hr : Rd w00 C xs) (hb00 : Below w00.heap.size w00 w0) (hU : ∀ b, b < w00.heap.size → U0 b) (hUp : U0 pz) (hk : Blk w0 pz 25 [.slice C n c]) (mm : Nat) :
    IterN Try.prog mm 123 #[.pointer (some ⟨pz, 0, none⟩)] n (fun k _ v _ _ => v = #[.int .i64 ((n : Int) - 1 - (k : Int)), .int .i64 (xs.getD (n - 1 - k) 0)]) U0 w0 := by
  intro l J Jx V0 hW hJ hY h0
  have HK1 := hide (hk.later hW)
  have HY := hide hY
  have HJ := hide hJ
  have HR := hide hr
  have H0 := hide (h0 V0.heap.size (Nat.le_refl _))
  have HUP := hide hUp
  have HC : Hid (∀ b, b < w00.heap.size → U0 b ∧ b < V0.heap.size ∧ V0.heap[b]? = w00.heap[b]?) := hide fun b hb => ⟨hU b hb, by have := hb00.size; have := hW.size; omega, (hW.block b (by have := hb00.size; omega)).trans (hb00.block b hb)⟩
  clear hk hW hY hJ hr h0 hU hUp hb00
  show Calls Try.prog 123 #[.func (.yield l) #[] #[], .pointer (some ⟨pz, 0, none⟩)] V0 _
  have k0 := HK1.out.cell 0 _ rfl
  go_enter Try.func123, Try.ntmps123
  go_wp2_with fail
  go_loopw [3] (fun v3 wr => ∃ k : Nat, k ≤ n ∧ v3 = .int .i64 ((n : Int) - 1 - (k : Int)) ∧ J k V0.heap.size U0 wr ∧ KeepU U0 V0 wr) (fun v3 _ => (intOf v3 + 1).toNat)
  case atStart => exact ⟨0, Nat.zero_le _, by simp, H0.out, KeepU.refl _ _⟩
  case round =>
    clear k0
    obtain ⟨k, hk, rfl, hj, hku⟩ := hrel
    by_cases hlt : k < n
    · obtain ⟨q, hq⟩ : ∃ q : Nat, n - 1 - k = q := ⟨_, rfl⟩
      have hqz : (n : Int) - 1 - (k : Int) = (q : Int) := by omega
      have hqn : q < n := by omega
      have hyy := HY.out k V0.heap.size #[.int .i64 (q : Int), .int .i64 (xs.getD q 0)] U0 wr hlt hj (by rw [hqz, hq])
      obtain ⟨fn, tmps, assign, body, hy, hR⟩ := hyy
      have HRR := hide hR
      obtain ⟨b, o, rfl, hb, hc⟩ := HR.out (by omega)
      obtain ⟨hc1, hc2, hc3⟩ := HC.out b hb
      have e1 : wr.cell? ⟨b, o + q, none⟩ = some (.int .i64 (xs.getD q 0)) := (World.cell?_of_block (a := ⟨b, o + q, none⟩) ((hku.2 b hc2 hc1).trans hc3)).trans (hc q (by omega))
      have e0 : wr.cell? ⟨pz, 0, none⟩ = some (.slice (some ⟨b, o, none⟩) n c) := (World.cell?_of_block (a := ⟨pz, 0, none⟩) (hku.2 pz HK1.out.lt HUP.out)).trans (HK1.out.cell 0 _ rfl)
      obtain ⟨v, hv⟩ : ∃ v, xs.getD q 0 = v := ⟨_, rfl⟩
      rw [hv] at e1 hy
      rw [hqz]
      have HQZ := hide hqz
      have HKU := hide hku
      have hqn2 : (q : Int) < (n : Int) := by omega
      clear hj hku hR hc hv hqz hq
      go_upto_region 3 with fail
      refine (wpIn_wide (n := mm + 1)).1 ?_
      gi_wp2
      refine HRR.out.mono ?_
      rintro e W3 (⟨rfl, hj3, hku3⟩ | ⟨rfl, hjx⟩)
      · have HJ3 := hide hj3
        have HK3 := hide (HKU.out.trans hku3)
        clear hj3 hku3
        gi_wp2
        go_wp2_with fail
        go_roundw
        case rel => exact ⟨k + 1, by omega, by congr 1; have := HQZ.out; omega, HJ3.out, HK3.out⟩
        case measure => simp [intOf]
      · gi_wp2
        go_wp2_with fail
        refine bodyPost_ret (results_none rfl _ _ _) rfl ?_
        exact ⟨⟨_, rfl⟩, .inr ⟨k, _, _, hlt, hjx⟩⟩
    · obtain rfl : k = n := by omega
      have hm : (k : Int) - 1 - (k : Int) = -1 := by omega
      rw [hm]
      have HJ3 := hide hj
      clear hj hku
      go_wp2_with fail
      go_end0
      exact ⟨⟨_, rfl⟩, .inl ⟨_, _, HJ3.out⟩⟩
end Go.Proofs.Ytiaebilcgmahlaa
namespace Go.Proofs.Ytiaebilcgmahlaa
open Go Go.RowKit
/-! What a loop over an iterator holds, whose body writes to one row of the function's own: its boxes and that row. -/
structure BoxI (w : World) (D : Nat) (Bs : List (Nat × TypeId × List Value)) (g : Nat) (t : TypeId) (xs : List Int) (L : Nat) (U : Nat → Prop) (W : World) : Prop where
  below : Below w.heap.size w W
  bx : ∀ p ∈ Bs, Blk W p.1 p.2.1 p.2.2 ∧ p.1 ≠ L ∧ w.heap.size ≤ p.1 ∧ p.1 < D ∧ p.1 ≠ g
  own : OwnB t W g xs
  nU : ¬ U g
  nL : g ≠ L
  low : w.heap.size ≤ g
  up : g < D
section
variable {w W W' : World} {D L g : Nat} {Bs : List (Nat × TypeId × List Value)} {t : TypeId} {xs : List Int} {U U' : Nat → Prop}
theorem BoxI.step (h : BoxI w D Bs g t xs L U W) (hL : w.heap.size ≤ L) (hs : StepL L W W') (hu : ∀ b, U' b → U b ∨ W.heap.size ≤ b) : BoxI w D Bs g t xs L U' W' := by
  refine ⟨hs.below h.below h.below.size hL, fun p hp => ?_, h.own.of_block (hs.same _ h.own.lt h.nL), fun h5 => ?_, h.nL, h.low, h.up⟩
  · obtain ⟨h1, h3, h4⟩ := h.bx p hp
    exact ⟨(hs.same _ h1.lt h3).trans h1, h3, h4⟩
  · have hl := h.own.lt
    rcases hu _ h5 with h6 | h6
    · exact h.nU h6
    · omega
theorem BoxI.put {b : Nat} (o' : Obj) (h : BoxI w D Bs g t xs L U W) (hb : D ≤ b) (hw : w.heap.size ≤ D) : BoxI w D Bs g t xs L U (W.putObj b o') := by
  have hu := h.up
  refine ⟨h.below.grown (grownBy_putObj' W b o') h.below.size (fun k e => by cases e; omega), fun p hp => ?_, h.own.of_block (World.putObj_heap_other (by omega)), h.nU, h.nL, h.low, h.up⟩
  obtain ⟨h1, h3, h4, h5, h6⟩ := h.bx p hp
  exact ⟨(World.putObj_heap_other (by omega)).trans h1, h3, h4, h5, h6⟩
/-- A round has written one element. -/
theorem BoxI.next {i : Nat} {v : Int} {W1 : World} (h : BoxI w D Bs g t xs L U W) (hi : i < xs.length) (hW : W1 = W.drew.setCell ⟨g, i, none⟩ (.int .i64 v)) : KeepR D W W1 ∧ KeepU U W W1 ∧ BoxI w D Bs g t (xs.set i v) L U W1 := by
  have hu := h.up
  have hsz : W1.heap.size = W.heap.size := by rw [hW]; show (W.drew.setCell _ _).heap.size = W.drew.heap.size; simp [World.setCell]
  have hsame : ∀ b, b ≠ g → W1.heap[b]? = W.heap[b]? := fun b hb => by rw [hW]; exact Below.heap_setCell W.drew ⟨g, i, none⟩ _ b hb
  refine ⟨⟨by omega, fun b h2 h3 => hsame b (by omega)⟩, ⟨by omega, fun b h2 h3 => hsame b fun e => h.nU (e ▸ h3)⟩, ⟨?_, fun p hp => ?_, ?_, h.nU, h.nL, h.low, h.up⟩⟩
  · rw [hW]; exact (h.below.trans ((Below.refl _ W).drew.mono h.below.size)).setCell (p := ⟨g, i, none⟩) h.low _
  · obtain ⟨h1, h3, h4, h5, h6⟩ := h.bx p hp
    exact ⟨(hsame _ h6).trans h1, h3, h4, h5, h6⟩
  · rw [hW]; exact OwnB.set (w := W.drew) h.own i v hi
end
end Go.Proofs.Ytiaebilcgmahlaa
namespace Go.Proofs.Ytiaebilcgmahlaa
open Go Go.RowKit
/-! A function that has ranged over several iterators: the marks among its defers. -/
def mks (Ds : List Nat) : List Deferred := Ds.map fun D => { target := .collected D, args := #[] }
def closeW : List Nat → World → World
  | [], W => W
  | D :: Ds, W => closeW Ds (W.putObj D (.deferred none))
theorem closeW_size (Ds : List Nat) (W : World) : (closeW Ds W).heap.size = W.heap.size := by
  induction Ds generalizing W with
  | nil => rfl
  | cons D Ds ih => show (closeW Ds _).heap.size = _; rw [ih]; simp
theorem closeW_same (Ds : List Nat) (W : World) {b : Nat} (h : b ∉ Ds) : (closeW Ds W).heap[b]? = W.heap[b]? := by
  induction Ds generalizing W with
  | nil => rfl
  | cons D Ds ih =>
    rw [List.mem_cons, not_or] at h
    exact (ih (W.putObj D (.deferred none)) h.2).trans (World.putObj_heap_other h.1)
theorem closeW_below {w : World} (Ds : List Nat) (W : World) (h : Below w.heap.size w W) (hD : ∀ D ∈ Ds, w.heap.size ≤ D) : Below w.heap.size w (closeW Ds W) := by
  induction Ds generalizing W with
  | nil => exact h
  | cons D Ds ih => exact ih _ (h.grown (grownBy_putObj' W D (.deferred none)) h.size (fun k e => by cases e; exact hD D List.mem_cons_self)) fun E hE => hD E (List.mem_cons_of_mem _ hE)
theorem leaves_mks {F : Fence} {n : Nat} {P : Program} {fn : Func} {tmps : Array Value} {R : Ending → World → Prop} (Ds : List Nat) (W : World) (hn : Ds.Nodup) (hm : ∀ D ∈ Ds, W.heap[D]? = some (.deferred (some []))) (h : LeavesInM F n P fn tmps R [] .returning (closeW Ds W)) : LeavesInM F n P fn tmps R (mks Ds) .returning W := by
  induction Ds generalizing W with
  | nil => exact h
  | cons D Ds ih =>
    rw [List.nodup_cons] at hn
    refine ⟨by simp, .inl ⟨D, _, rfl, run_takeDeferred (hm D List.mem_cons_self), ih _ hn.2 (fun E hE => ?_) h⟩⟩
    exact (World.putObj_heap_other (fun (e : E = D) => hn.1 (e ▸ hE))).trans (hm E (List.mem_cons_of_mem _ hE))
theorem bpm_gen2 {F : Fence} {n : Nat} {P : Program} {fn : Func} {R : Ending → World → Prop} {e : Exit} {a : Act} {w : World} (h : ∀ wf, wf = w → bodyPostM F n P fn R e a wf) : bodyPostM F n P fn R e a w := h w rfl
end Go.Proofs.Ytiaebilcgmahlaa
