import Derived.Test.YthknnpkalhachaaZp
import Derived.Test.YthknnpkalhachaaZl
import Derived.Test.YthknnpkalhachaaZr
import Derived.Test.YthknnpkalhachaaProg
import Derived.Test.YthknnpkalhachaaZc
import Derived.Test.YthknnpkalhachaaZm
import Derived.RangeFuncBound
import Derived.RangeFuncCalls
import Derived.Shelf.Abstract
import Derived.Shelf.Lay
import Derived.WalkKit
import Derived.OwnWalkIn
import Derived.TacticsInMore
import Derived.LoopNIn
import Derived.LoopIn
import Derived.RegionIn
import Derived.Deep.Cut
import Derived.Deep.DeepCutAuto
import Derived.RangeFuncLeaves
import Derived.Test.YthknnpkalhachaaZq
namespace Go.Proofs.Ythknnpkalhachaa
open Go Go.RowKit

theorem grid_sz {n : Nat} (h : n ≤ 1048576) (f g : Nat → Nat → Int) : ZSz 1048576 (grid n f) (grid n f).length (grid n g) (grid n g).length :=
  ⟨rfl, by rw [grid_length]; exact h, fun i hi => by rw [grid_length] at hi; rw [grid_row_length _ _ _ hi]; exact h, rfl, by rw [grid_length]; exact h, fun i hi => by rw [grid_length] at hi; rw [grid_row_length _ _ _ hi]; exact h⟩
theorem nil_sz : ZSz 1048576 [] ([] : List (List Int)).length [] ([] : List (List Int)).length := ⟨rfl, by simp, by simp, rfl, by simp, by simp⟩

/-- A pair of tables where all is well, else a code. -/
def GRes (good : Prop) (n : Nat) (h1 h2 : Nat → Nat → Int) (err : Int) (zf zg : List (List Int)) (code : Int) : Prop := (good ∧ zf = grid n h1 ∧ zg = grid n h2 ∧ code = 0) ∨ (¬ good ∧ zf = [] ∧ zg = [] ∧ code = err)
theorem GRes.ex (good : Prop) (n : Nat) (h1 h2 : Nat → Nat → Int) (err : Int) (hn : good → n ≤ 1048576) : ∃ zf zg code, GRes good n h1 h2 err zf zg code ∧ ZSz 1048576 zf zf.length zg zg.length := by
  by_cases h : good
  · exact ⟨_, _, _, .inl ⟨h, rfl, rfl, rfl⟩, grid_sz (hn h) _ _⟩
  · exact ⟨_, _, _, .inr ⟨h, rfl, rfl, rfl⟩, nil_sz⟩

def mir1 (s : List (List Int)) : Nat → Nat → Int := fun x y => ((ap s y x : Nat) : Int)
def MirRes (f s : List (List Int)) : List (List Int) → List (List Int) → Int → Prop := GRes (PMap f s) f.length (mir1 s) (mir1 f) 1
theorem MirRes.ex (f s : List (List Int)) : ∃ zf zg code, MirRes f s zf zg code ∧ ZSz 1048576 zf zf.length zg zg.length := GRes.ex _ _ _ _ _ (fun h => by have := h.1.2.1; omega)
theorem mir_turn {s : List (List Int)} (h : Tbl s) : grid s.length (mir1 s) = turnL s := by
  unfold turnL
  refine grid_congr _ _ _ fun a b ha hb => ?_
  unfold mir1
  rw [h.ap_eq rfl hb ha]
def FlipRes (n : Int) : List (List Int) → List (List Int) → Int → Prop := GRes (1 ≤ n ∧ n ≤ 12) n.toNat (fun _ y => (y : Int)) (fun x _ => (x : Int)) 2
theorem FlipRes.ex (n : Int) : ∃ zf zg code, FlipRes n zf zg code ∧ ZSz 1048576 zf zf.length zg zg.length := GRes.ex _ _ _ _ _ (fun h => by omega)
end Go.Proofs.Ythknnpkalhachaa
namespace Go.Proofs.Ythknnpkalhachaa
open Go Go.RowKit

/-- The elements reached from x, the steps of the first i of them done. -/
structure OInv (rows : List (List Int)) (n x : Nat) (out : List Int) (i : Nat) : Prop where
  mem : (x : Int) ∈ out
  rng : ∀ v ∈ out, 0 ≤ v ∧ v < (n : Int)
  nd : out.Nodup
  rch : ∀ v ∈ out, Rch rows x v.toNat
  cl : ∀ j, j < i → ∀ r, r < rows.length → (rows.getD r []).getD (out.getD j 0).toNat 0 ∈ out
  le : i ≤ out.length

theorem nodup_le (out : List Int) (n : Nat) (hr : ∀ v ∈ out, 0 ≤ v ∧ v < (n : Int)) (hn : out.Nodup) : out.length ≤ n := by
  obtain ⟨l, hl⟩ := subset_perm out (Go.Proofs.Ythknnpkalhachaa.rng n) hn (fun a ha => (mem_rng n a).2 (hr a ha))
  have := hl.length_eq
  rw [rng_length, List.length_append] at this
  omega
theorem OInv.most {rows : List (List Int)} {n x : Nat} {out : List Int} {i : Nat} (h : OInv rows n x out i) : out.length ≤ n := nodup_le out n h.rng h.nd
theorem OInv.start (rows : List (List Int)) (n x : Nat) (hx : x < n) : OInv rows n x [(x : Int)] 0 :=
  ⟨by simp, fun v hv => by simp at hv; subst hv; omega, by simp, fun v hv => by simp at hv; subst hv; rw [Int.toNat_natCast]; exact .start, fun j hj => absurd hj (Nat.not_lt_zero _), by simp⟩
theorem OInv.push {rows : List (List Int)} {n x : Nat} {out : List Int} {i r : Nat} (h : OInv rows n x out i) (hi : i < out.length) (hr : r < rows.length) (v : Int) (hv : v = (rows.getD r []).getD (out.getD i 0).toNat 0) (h0 : 0 ≤ v) (hn : v < (n : Int)) (hno : v ∉ out) : OInv rows n x (out ++ [v]) i := by
  refine ⟨by simp [h.mem], fun u hu => ?_, ?_, fun u hu => ?_, fun j hj s hs => ?_, by have := h.le; simp; omega⟩
  · rcases List.mem_append.1 hu with hu | hu
    · exact h.rng u hu
    · simp at hu; subst hu; exact ⟨h0, hn⟩
  · rw [List.nodup_append]
    exact ⟨h.nd, by simp, fun a ha b hb e => hno (by simp at hb; subst hb; subst e; exact ha)⟩
  · rcases List.mem_append.1 hu with hu | hu
    · exact h.rch u hu
    · simp at hu
      have hm : out.getD i 0 ∈ out := by simp [hi]
      subst hu
      exact .step (h.rch _ hm) ⟨r, hr, by rw [hv]⟩
  · have e : (out ++ [v]).getD j 0 = out.getD j 0 := by
      have : j < out.length := by omega
      simp [List.getElem?_append, this]
    rw [e]
    exact List.mem_append_left _ (h.cl j hj s hs)
theorem OInv.on {rows : List (List Int)} {n x : Nat} {out : List Int} {i : Nat} (h : OInv rows n x out i) (hi : i < out.length) (hr : ∀ r, r < rows.length → (rows.getD r []).getD (out.getD i 0).toNat 0 ∈ out) : OInv rows n x out (i + 1) :=
  ⟨h.mem, h.rng, h.nd, h.rch, fun j hj r hrr => by
    by_cases e : j = i
    · subst e; exact hr r hrr
    · exact h.cl j (by omega) r hrr, by omega⟩
theorem OInv.done {rows : List (List Int)} {n x : Nat} {out : List Int} (h : OInv rows n x out out.length) (y : Nat) : (y : Int) ∈ out ↔ Rch rows x y := by
  constructor
  · intro hy
    have := h.rch _ hy
    rwa [Int.toNat_natCast] at this
  · intro hy
    induction hy with
    | start => exact h.mem
    | step _ hs ih =>
      obtain ⟨r, hr, hz⟩ := hs
      obtain ⟨j, hj, hjy⟩ := List.getElem_of_mem ih
      have e : out.getD j 0 = out[j] := by simp [hj]
      have hc := h.cl j hj r hr
      rw [e, hjy, Int.toNat_natCast] at hc
      have h0 := (h.rng _ hc).1
      rw [← hz, Int.toNat_of_nonneg h0]
      exact hc
end Go.Proofs.Ythknnpkalhachaa
namespace Go.Proofs.Ythknnpkalhachaa
open Go Go.RowKit
set_option maxHeartbeats 2000000
theorem bwdC_any (u : Value) (C : Option Addr) (n c : Nat) (w : World) (hu : u = .slice C n c) :
    Calls Try.prog 119 #[u] w fun e w' => e = .returned (.func (.func 140) #[] #[.pointer (some ⟨w.heap.size, 0, none⟩)]) ∧ w' = w.alloc (.cells #[u] 43) := by
  subst hu
  go_enter Try.func119, Try.ntmps119
  go_wp2_with fail
  go_ret
  exact ⟨rfl, rfl⟩
/-- The elements of a slice from the last one on. -/
theorem bwdI_any (C : Option Addr) (n c : Nat) (xs : List Int) (pz : Nat) (U0 : Nat → Prop) (w00 w0 : World) (hn : n ≤ xs.length) (h12 : n ≤ 12) (hr : Rd w00 C xs) (hb00 : Below w00.heap.size w00 w0) (hU : ∀ b, b < w00.heap.size → U0 b) (hUp : U0 pz) (hk : Blk w0 pz 43 [.slice C n c]) (mm : Nat) :
    IterN Try.prog mm 140 #[.pointer (some ⟨pz, 0, none⟩)] n (fun k _ v _ _ => v = #[.int .i64 ((n : Int) - 1 - (k : Int)), .int .i64 (xs.getD (n - 1 - k) 0)]) U0 w0 := by
  intro l J Jx V0 hW hJ hY h0
  have HK1 := hide (hk.later hW)
  have HY := hide hY
  have HJ := hide hJ
  have HR := hide hr
  have H0 := hide (h0 V0.heap.size (Nat.le_refl _))
  have HUP := hide hUp
  have HC : Hid (∀ b, b < w00.heap.size → U0 b ∧ b < V0.heap.size ∧ V0.heap[b]? = w00.heap[b]?) := hide fun b hb => ⟨hU b hb, by have := hb00.size; have := hW.size; omega, (hW.block b (by have := hb00.size; omega)).trans (hb00.block b hb)⟩
  clear hk hW hY hJ hr h0 hU hUp hb00
  show Calls Try.prog 140 #[.func (.yield l) #[] #[], .pointer (some ⟨pz, 0, none⟩)] V0 _
  have k0 := HK1.out.cell 0 _ rfl
  go_enter Try.func140, Try.ntmps140
  go_wp2_with fail
  go_loopw [3] (fun v3 wr => ∃ k : Nat, k ≤ n ∧ v3 = .int .i64 ((n : Int) - 1 - (k : Int)) ∧ J k V0.heap.size U0 wr ∧ KeepU U0 V0 wr) (fun v3 _ => (intOf v3 + 1).toNat)
  case atStart => exact ⟨0, Nat.zero_le _, by simp, H0.out, KeepU.refl _ _⟩
  case round =>
    clear k0
    obtain ⟨k, hk, rfl, hj, hku⟩ := hrel
    by_cases hlt : k < n
    · obtain ⟨q, hq⟩ : ∃ q : Nat, n - 1 - k = q := ⟨_, rfl⟩
      have hqz : (n : Int) - 1 - (k : Int) = (q : Int) := by omega
      have hqn : q < n := by omega
      have hyy := HY.out k V0.heap.size #[.int .i64 (q : Int), .int .i64 (xs.getD q 0)] U0 wr hlt hj (by rw [hqz, hq])
      obtain ⟨fn, tmps, assign, body, hy, hR⟩ := hyy
      have HRR := hide hR
      obtain ⟨b, o, rfl, hb, hc⟩ := HR.out (by omega)
      obtain ⟨hc1, hc2, hc3⟩ := HC.out b hb
      have e1 : wr.cell? ⟨b, o + q, none⟩ = some (.int .i64 (xs.getD q 0)) := (World.cell?_of_block (a := ⟨b, o + q, none⟩) ((hku.2 b hc2 hc1).trans hc3)).trans (hc q (by omega))
      have e0 : wr.cell? ⟨pz, 0, none⟩ = some (.slice (some ⟨b, o, none⟩) n c) := (World.cell?_of_block (a := ⟨pz, 0, none⟩) (hku.2 pz HK1.out.lt HUP.out)).trans (HK1.out.cell 0 _ rfl)
      obtain ⟨v, hv⟩ : ∃ v, xs.getD q 0 = v := ⟨_, rfl⟩
      rw [hv] at e1 hy
      rw [hqz]
      have HQZ := hide hqz
      have HKU := hide hku
      have hqn2 : (q : Int) < (n : Int) := by omega
      clear hj hku hR hc hv hqz hq
      go_upto_region 3 with fail
      refine (wpIn_wide (n := mm + 1)).1 ?_
      gi_wp2
      refine HRR.out.mono ?_
      rintro e W3 (⟨rfl, hj3, hku3⟩ | ⟨rfl, hjx⟩)
      · have HJ3 := hide hj3
        have HK3 := hide (HKU.out.trans hku3)
        clear hj3 hku3
        gi_wp2
        go_wp2_with fail
        go_roundw
        case rel => exact ⟨k + 1, by omega, by congr 1; have := HQZ.out; omega, HJ3.out, HK3.out⟩
        case measure => simp [intOf]
      · gi_wp2
        go_wp2_with fail
        refine bodyPost_ret (results_none rfl _ _ _) rfl ?_
        exact ⟨⟨_, rfl⟩, .inr ⟨k, _, _, hlt, hjx⟩⟩
    · obtain rfl : k = n := by omega
      have hm : (k : Int) - 1 - (k : Int) = -1 := by omega
      rw [hm]
      have HJ3 := hide hj
      clear hj hku
      go_wp2_with fail
      go_end0
      exact ⟨⟨_, rfl⟩, .inl ⟨_, _, HJ3.out⟩⟩
end Go.Proofs.Ythknnpkalhachaa
namespace Go.Proofs.Ythknnpkalhachaa
open Go Go.RowKit
/-! What a loop over an iterator holds, whose body writes to one row of the function's own: its boxes and that row. -/
structure BoxI (w : World) (D : Nat) (Bs : List (Nat × TypeId × List Value)) (g : Nat) (t : TypeId) (xs : List Int) (L : Nat) (U : Nat → Prop) (W : World) : Prop where
  below : Below w.heap.size w W
  bx : ∀ p ∈ Bs, Blk W p.1 p.2.1 p.2.2 ∧ p.1 ≠ L ∧ w.heap.size ≤ p.1 ∧ p.1 < D ∧ p.1 ≠ g
  own : OwnB t W g xs
  nU : ¬ U g
  nL : g ≠ L
  low : w.heap.size ≤ g
  up : g < D
section
variable {w W W' : World} {D L g : Nat} {Bs : List (Nat × TypeId × List Value)} {t : TypeId} {xs : List Int} {U U' : Nat → Prop}
theorem BoxI.step (h : BoxI w D Bs g t xs L U W) (hL : w.heap.size ≤ L) (hs : StepL L W W') (hu : ∀ b, U' b → U b ∨ W.heap.size ≤ b) : BoxI w D Bs g t xs L U' W' := by
  refine ⟨hs.below h.below h.below.size hL, fun p hp => ?_, h.own.of_block (hs.same _ h.own.lt h.nL), fun h5 => ?_, h.nL, h.low, h.up⟩
  · obtain ⟨h1, h3, h4⟩ := h.bx p hp
    exact ⟨(hs.same _ h1.lt h3).trans h1, h3, h4⟩
  · have hl := h.own.lt
    rcases hu _ h5 with h6 | h6
    · exact h.nU h6
    · omega
theorem BoxI.put {b : Nat} (o' : Obj) (h : BoxI w D Bs g t xs L U W) (hb : D ≤ b) (hw : w.heap.size ≤ D) : BoxI w D Bs g t xs L U (W.putObj b o') := by
  have hu := h.up
  refine ⟨h.below.grown (grownBy_putObj' W b o') h.below.size (fun k e => by cases e; omega), fun p hp => ?_, h.own.of_block (World.putObj_heap_other (by omega)), h.nU, h.nL, h.low, h.up⟩
  obtain ⟨h1, h3, h4, h5, h6⟩ := h.bx p hp
  exact ⟨(World.putObj_heap_other (by omega)).trans h1, h3, h4, h5, h6⟩
/-- A round has written one element. -/
theorem BoxI.next {i : Nat} {v : Int} {W1 : World} (h : BoxI w D Bs g t xs L U W) (hi : i < xs.length) (hW : W1 = W.drew.setCell ⟨g, i, none⟩ (.int .i64 v)) : KeepR D W W1 ∧ KeepU U W W1 ∧ BoxI w D Bs g t (xs.set i v) L U W1 := by
  have hu := h.up
  have hsz : W1.heap.size = W.heap.size := by rw [hW]; show (W.drew.setCell _ _).heap.size = W.drew.heap.size; simp [World.setCell]
  have hsame : ∀ b, b ≠ g → W1.heap[b]? = W.heap[b]? := fun b hb => by rw [hW]; exact Below.heap_setCell W.drew ⟨g, i, none⟩ _ b hb
  refine ⟨⟨by omega, fun b h2 h3 => hsame b (by omega)⟩, ⟨by omega, fun b h2 h3 => hsame b fun e => h.nU (e ▸ h3)⟩, ⟨?_, fun p hp => ?_, ?_, h.nU, h.nL, h.low, h.up⟩⟩
  · rw [hW]; exact (h.below.trans ((Below.refl _ W).drew.mono h.below.size)).setCell (p := ⟨g, i, none⟩) h.low _
  · obtain ⟨h1, h3, h4, h5, h6⟩ := h.bx p hp
    exact ⟨(hsame _ h6).trans h1, h3, h4, h5, h6⟩
  · rw [hW]; exact OwnB.set (w := W.drew) h.own i v hi
end
end Go.Proofs.Ythknnpkalhachaa
namespace Go.Proofs.Ythknnpkalhachaa
open Go Go.RowKit
/-! A function that has ranged over several iterators: the marks among its defers. -/
def mks (Ds : List Nat) : List Deferred := Ds.map fun D => { target := .collected D, args := #[] }
def closeW : List Nat → World → World
  | [], W => W
  | D :: Ds, W => closeW Ds (W.putObj D (.deferred none))
theorem closeW_size (Ds : List Nat) (W : World) : (closeW Ds W).heap.size = W.heap.size := by
  induction Ds generalizing W with
  | nil => rfl
  | cons D Ds ih => show (closeW Ds _).heap.size = _; rw [ih]; simp
theorem closeW_same (Ds : List Nat) (W : World) {b : Nat} (h : b ∉ Ds) : (closeW Ds W).heap[b]? = W.heap[b]? := by
  induction Ds generalizing W with
  | nil => rfl
  | cons D Ds ih =>
    rw [List.mem_cons, not_or] at h
    exact (ih (W.putObj D (.deferred none)) h.2).trans (World.putObj_heap_other h.1)
theorem closeW_below {w : World} (Ds : List Nat) (W : World) (h : Below w.heap.size w W) (hD : ∀ D ∈ Ds, w.heap.size ≤ D) : Below w.heap.size w (closeW Ds W) := by
  induction Ds generalizing W with
  | nil => exact h
  | cons D Ds ih => exact ih _ (h.grown (grownBy_putObj' W D (.deferred none)) h.size (fun k e => by cases e; exact hD D List.mem_cons_self)) fun E hE => hD E (List.mem_cons_of_mem _ hE)
theorem leaves_mks {F : Fence} {n : Nat} {P : Program} {fn : Func} {tmps : Array Value} {R : Ending → World → Prop} (Ds : List Nat) (W : World) (hn : Ds.Nodup) (hm : ∀ D ∈ Ds, W.heap[D]? = some (.deferred (some []))) (h : LeavesInM F n P fn tmps R [] .returning (closeW Ds W)) : LeavesInM F n P fn tmps R (mks Ds) .returning W := by
  induction Ds generalizing W with
  | nil => exact h
  | cons D Ds ih =>
    rw [List.nodup_cons] at hn
    refine ⟨by simp, .inl ⟨D, _, rfl, run_takeDeferred (hm D List.mem_cons_self), ih _ hn.2 (fun E hE => ?_) h⟩⟩
    exact (World.putObj_heap_other (fun (e : E = D) => hn.1 (e ▸ hE))).trans (hm E (List.mem_cons_of_mem _ hE))
theorem bpm_gen2 {F : Fence} {n : Nat} {P : Program} {fn : Func} {R : Ending → World → Prop} {e : Exit} {a : Act} {w : World} (h : ∀ wf, wf = w → bodyPostM F n P fn R e a wf) : bodyPostM F n P fn R e a w := h w rfl
end Go.Proofs.Ythknnpkalhachaa
namespace Go.Proofs.Ythknnpkalhachaa
open Go Go.RowKit
section
variable {t : TypeId} {w w' : World} {g : Nat} {xs : List Int}
theorem own_read {B n c : Nat} {A : Option Addr} (h : w.ownsRow B t 1 (.slice A n c) n (ints xs)) (hn : 0 < n) : ∃ g, A = some ⟨g, 0, none⟩ ∧ OwnB t w g xs := by
  have hl := h.1
  rw [ints_length] at hl
  rcases ownB_of_ownsRow h with ⟨_, h0⟩ | ⟨g, h1, _, h2⟩
  · subst h0; simp at hl; omega
  · exact ⟨g, h1, h2⟩
theorem OwnB.keep (h : OwnB t w g xs) (hb : Below w.heap.size w w') : OwnB t w' g xs := h.later hb h.lt
theorem OwnB.cell1 (h : OwnB t w g xs) (i : Nat) (hi : i < xs.length) {v : Int} (hv : xs.getD i 0 = v) : w.cell? ⟨g, i, none⟩ = some (.int .i64 v) := by rw [← hv]; exact h.cell hi
end
theorem ints_snoc (xs : List Int) (x : Int) : ints (xs ++ [x]) = ints xs ++ [.int .i64 x] := by simp [ints]
end Go.Proofs.Ythknnpkalhachaa
