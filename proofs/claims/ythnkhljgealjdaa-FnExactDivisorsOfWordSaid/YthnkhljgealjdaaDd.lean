import Derived.Test.YthnkhljgealjdaaDa
import Derived.Test.YthnkhljgealjdaaDb
import Derived.Test.YthnkhljgealjdaaProg
import Derived.Test.YthnkhljgealjdaaDc
import Derived.RangeFuncNested
import Derived.RangeFuncLeaves
import Derived.Shelf.SlSortCmp.NoneTotal
namespace Go.Proofs.Ythnkhljgealjdaa
open Go Go.RowKit
theorem list12 {xs : List Int} (h : xs.length = 12) : ∃ a0 a1 a2 a3 a4 a5 a6 a7 a8 a9 a10 a11 : Int, xs = [a0, a1, a2, a3, a4, a5, a6, a7, a8, a9, a10, a11] := by
  match xs, h with
  | [a0, a1, a2, a3, a4, a5, a6, a7, a8, a9, a10, a11], _ => exact ⟨a0, a1, a2, a3, a4, a5, a6, a7, a8, a9, a10, a11, rfl⟩
theorem row12 {t : TypeId} {w : World} {b : Nat} {a0 a1 a2 a3 a4 a5 a6 a7 a8 a9 a10 a11 : Int} (h : Row t w b [a0, a1, a2, a3, a4, a5, a6, a7, a8, a9, a10, a11]) : w.cell? ⟨b, 0, none⟩ = some (.int .i64 a0) ∧ w.frozen? ⟨b, 0, none⟩ = false ∧ w.cell? ⟨b, 1, none⟩ = some (.int .i64 a1) ∧ w.frozen? ⟨b, 1, none⟩ = false ∧ w.cell? ⟨b, 2, none⟩ = some (.int .i64 a2) ∧ w.frozen? ⟨b, 2, none⟩ = false ∧ w.cell? ⟨b, 3, none⟩ = some (.int .i64 a3) ∧ w.frozen? ⟨b, 3, none⟩ = false ∧ w.cell? ⟨b, 4, none⟩ = some (.int .i64 a4) ∧ w.frozen? ⟨b, 4, none⟩ = false ∧ w.cell? ⟨b, 5, none⟩ = some (.int .i64 a5) ∧ w.frozen? ⟨b, 5, none⟩ = false ∧ w.cell? ⟨b, 6, none⟩ = some (.int .i64 a6) ∧ w.frozen? ⟨b, 6, none⟩ = false ∧ w.cell? ⟨b, 7, none⟩ = some (.int .i64 a7) ∧ w.frozen? ⟨b, 7, none⟩ = false ∧ w.cell? ⟨b, 8, none⟩ = some (.int .i64 a8) ∧ w.frozen? ⟨b, 8, none⟩ = false ∧ w.cell? ⟨b, 9, none⟩ = some (.int .i64 a9) ∧ w.frozen? ⟨b, 9, none⟩ = false ∧ w.cell? ⟨b, 10, none⟩ = some (.int .i64 a10) ∧ w.frozen? ⟨b, 10, none⟩ = false ∧ w.cell? ⟨b, 11, none⟩ = some (.int .i64 a11) ∧ w.frozen? ⟨b, 11, none⟩ = false :=
  ⟨h.cell (i := 0) (by simp), h.frozen 0, h.cell (i := 1) (by simp), h.frozen 1, h.cell (i := 2) (by simp), h.frozen 2, h.cell (i := 3) (by simp), h.frozen 3, h.cell (i := 4) (by simp), h.frozen 4, h.cell (i := 5) (by simp), h.frozen 5, h.cell (i := 6) (by simp), h.frozen 6, h.cell (i := 7) (by simp), h.frozen 7, h.cell (i := 8) (by simp), h.frozen 8, h.cell (i := 9) (by simp), h.frozen 9, h.cell (i := 10) (by simp), h.frozen 10, h.cell (i := 11) (by simp), h.frozen 11⟩
theorem row12_set {t : TypeId} {w : World} {r : Nat} {zs : List Int} (hz : zs.length = 12) (h : Row t w r zs) (a0 a1 a2 a3 a4 a5 a6 a7 a8 a9 a10 a11 : Int) : Row t ((((((((((((w.setCell ⟨r, 0, none⟩ (.int .i64 a0)).setCell ⟨r, 1, none⟩ (.int .i64 a1)).setCell ⟨r, 2, none⟩ (.int .i64 a2)).setCell ⟨r, 3, none⟩ (.int .i64 a3)).setCell ⟨r, 4, none⟩ (.int .i64 a4)).setCell ⟨r, 5, none⟩ (.int .i64 a5)).setCell ⟨r, 6, none⟩ (.int .i64 a6)).setCell ⟨r, 7, none⟩ (.int .i64 a7)).setCell ⟨r, 8, none⟩ (.int .i64 a8)).setCell ⟨r, 9, none⟩ (.int .i64 a9)).setCell ⟨r, 10, none⟩ (.int .i64 a10)).setCell ⟨r, 11, none⟩ (.int .i64 a11)) r [a0, a1, a2, a3, a4, a5, a6, a7, a8, a9, a10, a11] := by
  obtain ⟨z0, z1, z2, z3, z4, z5, z6, z7, z8, z9, z10, z11, rfl⟩ := list12 hz
  exact ((((((((((((h.set 0 a0).set 1 a1).set 2 a2).set 3 a3).set 4 a4).set 5 a5).set 6 a6).set 7 a7).set 8 a8).set 9 a9).set 10 a10).set 11 a11)
theorem below12_set {B r : Nat} {w0 w : World} (hb : Below B w0 w) (hr : B ≤ r) (v0 v1 v2 v3 v4 v5 v6 v7 v8 v9 v10 v11 : Value) : Below B w0 ((((((((((((w.setCell ⟨r, 0, none⟩ (v0)).setCell ⟨r, 1, none⟩ (v1)).setCell ⟨r, 2, none⟩ (v2)).setCell ⟨r, 3, none⟩ (v3)).setCell ⟨r, 4, none⟩ (v4)).setCell ⟨r, 5, none⟩ (v5)).setCell ⟨r, 6, none⟩ (v6)).setCell ⟨r, 7, none⟩ (v7)).setCell ⟨r, 8, none⟩ (v8)).setCell ⟨r, 9, none⟩ (v9)).setCell ⟨r, 10, none⟩ (v10)).setCell ⟨r, 11, none⟩ (v11)) :=
  ((((((((((((hb.setCell (p := ⟨r, 0, none⟩) hr _).setCell (p := ⟨r, 1, none⟩) hr _).setCell (p := ⟨r, 2, none⟩) hr _).setCell (p := ⟨r, 3, none⟩) hr _).setCell (p := ⟨r, 4, none⟩) hr _).setCell (p := ⟨r, 5, none⟩) hr _).setCell (p := ⟨r, 6, none⟩) hr _).setCell (p := ⟨r, 7, none⟩) hr _).setCell (p := ⟨r, 8, none⟩) hr _).setCell (p := ⟨r, 9, none⟩) hr _).setCell (p := ⟨r, 10, none⟩) hr _).setCell (p := ⟨r, 11, none⟩) hr _)
theorem row_zero (t : TypeId) (w : World) : Row t (w.alloc (.cells #[.int .i64 0, .int .i64 0, .int .i64 0, .int .i64 0, .int .i64 0, .int .i64 0, .int .i64 0, .int .i64 0, .int .i64 0, .int .i64 0, .int .i64 0, .int .i64 0] t)) w.heap.size (List.replicate 12 0) := heap_alloc_new _ _
theorem ints_at (xs : List Int) (k : Nat) (h : k < xs.length) : (ints xs)[k]? = some (.int .i64 (xs.getD k 0)) := by simp [ints, h]
end Go.Proofs.Ythnkhljgealjdaa
namespace Go.Proofs.Ythnkhljgealjdaa
open Go Go.RowKit
set_option maxHeartbeats 1000000

theorem ntInfo : (Try.prog.info? 2).map (fun i => (i.zero, i.size, i.bytes)) = some (some (.int .i64 0), 1, 8) := by kernel_rfl
theorem ntInfo2 : (Try.prog.info? 25).map (fun i => (i.zero, i.size, i.bytes)) = some (some (.slice none 0 0), 1, 24) := by kernel_rfl

structure NtRel (w wr : World) (n k : Nat) : Prop where
  below : Below w.heap.size w wr
  size : wr.heap.size = w.heap.size + 1 + k
  top : wr.rowIs w.heap.size 25 n (fun i => if i < k then .slice (some ⟨w.heap.size + 1 + i, 0, none⟩) n n else .slice none 0 0)
  row : ∀ i, i < k → wr.rowIs (w.heap.size + 1 + i) 2 n (fun _ => .int .i64 0)

theorem NtRel.start (w : World) (n : Nat) : NtRel w (w.alloc (.cells (madeCells #[.slice none 0 0] n) 25)) n 0 :=
  ⟨(Below.refl _ _).alloc (Nat.le_refl _) _, by simp, (World.rowIs_made w _ n _).congr (fun j _ => by simp), fun i hi => absurd hi (Nat.not_lt_zero _)⟩

theorem NtRel.step {w wr : World} {n k : Nat} (h : NtRel w wr n k) (_hk : k < n) :
    NtRel w ((wr.alloc (.cells (madeCells #[.int .i64 0] n) 2)).setCell ⟨w.heap.size, k, none⟩ (.slice (some ⟨wr.heap.size, 0, none⟩) n n)) n (k + 1) := by
  have hsz := h.size
  have hnew := World.rowIs_made wr (.int .i64 0) n 2
  rw [hsz] at hnew
  refine ⟨(h.below.alloc (by omega) _).setCell (Nat.le_refl _) _, by simp [World.setCell]; omega, ((h.top.alloc _).set k _).congr (fun j _ => ?_), fun i hi => ?_⟩
  · by_cases e : j = k
    · subst e; rw [if_pos rfl, if_pos (by omega), hsz]
    · rw [if_neg e]
      by_cases hlt : j < k
      · rw [if_pos hlt, if_pos (by omega)]
      · rw [if_neg hlt, if_neg (by omega)]
  · by_cases e : i = k
    · subst e
      exact hnew.setOther (by show w.heap.size + 1 + i ≠ w.heap.size; omega) _
    · exact ((h.row i (by omega)).alloc _).setOther (by show w.heap.size + 1 + i ≠ w.heap.size; omega) _

end Go.Proofs.Ythnkhljgealjdaa
namespace Go.Proofs.Ythnkhljgealjdaa
open Go Go.RowKit
set_option maxHeartbeats 1000000

def updF (f : Nat → Nat → Int) (x y : Nat) (v : Int) : Nat → Nat → Int := fun a b => if a = x ∧ b = y then v else f a b

theorem TabF.drew {ts t : TypeId} {w : World} {g : Nat} {G : Nat → Nat} {n : Nat} {f : Nat → Nat → Int} (h : TabF ts t w g G n f) : TabF ts t w.drew g G n f := ⟨h.top, h.row, h.ne, h.inj⟩
theorem Touch.drew {lo hi : Nat} {w w' : World} (h : Touch lo hi w w') : Touch lo hi w w'.drew := ⟨h.os, h.tape, h.output, h.size, h.block⟩
theorem Touch.store {lo hi : Nat} {w w' : World} (h : Touch lo hi w w') {p : Addr} (h1 : lo ≤ p.block) (h2 : p.block < hi) (v : Value) : Touch lo hi w (w'.setCell p v) :=
  ⟨h.os, h.tape, h.output, by simpa [World.setCell] using h.size, fun k hk hne => (Below.heap_setCell w' p v k (by omega)).trans (h.block k hk hne)⟩
theorem TabF.far1 {ts t : TypeId} {w : World} {g : Nat} {G : Nat → Nat} {n : Nat} {f : Nat → Nat → Int} (h : TabF ts t w g G n f) {p : Addr} (hg : g ≠ p.block) (hG : ∀ i, i < n → G i ≠ p.block) (v : Value) : TabF ts t (w.setCell p v) g G n f := by
  obtain ⟨C, r⟩ := h.top
  exact ⟨⟨C, r.far hg v⟩, fun i hi => (h.row i hi).far (hG i hi) v, h.ne, h.inj⟩

end Go.Proofs.Ythnkhljgealjdaa
namespace Go.Proofs.Ythnkhljgealjdaa
open Go Go.RowKit
/-! A range over an iterator that tells its rounds what lies in memory, and that asks of them to keep a set of blocks. -/
/-- The blocks of U are as they were. -/
def KeepU (U : Nat → Prop) (W W' : World) : Prop := W.heap.size ≤ W'.heap.size ∧ ∀ b, b < W.heap.size → U b → W'.heap[b]? = W.heap[b]?
section
variable {U U' : Nat → Prop} {W W' V : World}
theorem KeepU.refl (U : Nat → Prop) (W : World) : KeepU U W W := ⟨Nat.le_refl _, fun _ _ _ => rfl⟩
theorem KeepU.trans (h : KeepU U W W') (k : KeepU U W' V) : KeepU U W V := ⟨Nat.le_trans h.1 k.1, fun b hb hu => (k.2 b (Nat.lt_of_lt_of_le hb h.1) hu).trans (h.2 b hb hu)⟩
theorem KeepU.below (h : Below W.heap.size W W') : KeepU U W W' := ⟨h.size, fun b hb _ => h.block b hb⟩
theorem KeepU.less (h : KeepU U W W') (hs : ∀ b, U' b → U b ∨ W.heap.size ≤ b) : KeepU U' W W' := ⟨h.1, fun b hb hu => by
  rcases hs b hu with h1 | h1
  · exact h.2 b hb h1
  · omega⟩
theorem KeepU.put {l : Nat} (o : Obj) (hl : ¬ U l) : KeepU U W (W.putObj l o) := ⟨by simp, fun b _ hu => World.putObj_heap_other (fun e => hl (e ▸ hu))⟩
end
/-- Of the blocks that lay only L has turned. -/
structure StepL (L : Nat) (W W' : World) : Prop where
  os : W'.os = W.os
  tape : W'.tape = W.tape
  output : W'.output = W.output
  size : W.heap.size ≤ W'.heap.size
  same : ∀ b, b < W.heap.size → b ≠ L → W'.heap[b]? = W.heap[b]?
theorem StepL.of (L : Nat) {W W' : World} (h : Below W.heap.size W W') : StepL L W W' := ⟨h.os, h.tape, h.output, h.size, fun b hb _ => h.block b hb⟩
theorem StepL.trans {L : Nat} {W W' V : World} (h : StepL L W W') (k : StepL L W' V) : StepL L W V :=
  ⟨k.os.trans h.os, k.tape.trans h.tape, k.output.trans h.output, Nat.le_trans h.size k.size, fun b hb hn => (k.same b (Nat.lt_of_lt_of_le hb h.size) hn).trans (h.same b hb hn)⟩
theorem StepL.below {L B : Nat} {w W W' : World} (hb : Below B w W) (h : StepL L W W') (hB : B ≤ W.heap.size) (hL : B ≤ L) : Below B w W' :=
  hb.trans ⟨h.os, h.tape, h.output, h.size, fun b hb2 => h.same b (by omega) (by omega)⟩
/-- What an iterator with K + 1 elements promises: T: what each round is told; L: the one block that it writes to between rounds. -/
def IterU (P : Program) (n : Nat) (gf : FuncId) (lb : Array Value) (K : Nat) (T : Nat → Nat → Array Value → (Nat → Prop) → World → Prop) (U0 : Nat → Prop) (w0 : World) : Prop :=
  ∀ (l : Nat) (J Jx : Nat → Nat → (Nat → Prop) → World → Prop) (W : World), Below w0.heap.size w0 W →
    (∀ k L U U' W W', J k L U W → StepL L W W' → (∀ b, U' b → U b ∨ W.heap.size ≤ b) → J k L U' W') →
    (∀ k L v U W, k ≤ K → J k L U W → T k L v U W → YieldAt Fence.wide n P l v W fun e W' => (e = .returned (.bool true) ∧ J (k + 1) L U W' ∧ KeepU U W W') ∨ (e = .returned (.bool false) ∧ Jx (k + 1) L U W')) →
    (∀ L, W.heap.size ≤ L → J 0 L U0 W) →
    Calls P gf (#[.func (.yield l) #[] #[]] ++ lb) W fun e W' => (∃ v, e = .returned v) ∧ ((∃ L U, J (K + 1) L U W') ∨ (∃ k L U, k ≤ K ∧ Jx (k + 1) L U W'))
/-- The two blocks of the loop's own are as they were. -/
def KeepR (B : Nat) (W W' : World) : Prop := W.heap.size ≤ W'.heap.size ∧ ∀ b, B ≤ b → b < B + 2 → W'.heap[b]? = W.heap[b]?
/-- How a round may be left. -/
def roundU (B : Nat) (I : Nat → Nat → (Nat → Prop) → World → Prop) (Ix : Code → Nat → Nat → (Nat → Prop) → World → Prop) (k L : Nat) (U : Nat → Prop) (W : World) : Exit → Act → World → Prop
  | .normal, _, W' => KeepR B W W' ∧ KeepU U W W' ∧ I (k + 1) L U W'
  | .ret, _, W' => KeepR B W W' ∧ Ix .ret (k + 1) L U W'
  | .exit id, _, W' => KeepR B W W' ∧ Ix (.exit id) (k + 1) L U W'
  | .goto t, _, W' => KeepR B W W' ∧ Ix (.goto t) (k + 1) L U W'
  | .panic _, _, _ => False
  | .outgrown, _, _ => False
theorem hb_same {B : Nat} {W W' : World} (h : Below B W W') {b : Nat} (hb : b < B) : W'.heap[b]? = W.heap[b]? := h.block b hb
variable {P : Program} {n : Nat}
theorem wpIn_iterU {g : Operand} {ps : Array Tmp} {assign body : Code} {Q : Exit → Act → World → Prop} {a : Act} {w : World} {gf : FuncId} {lb : Array Value}
    (hg : a.eval g = .func (.func gf) #[] lb) (eg : ∀ args w, (callFunc gf args).run P w = .ok (.enter gf args) w)
    {K : Nat} {T : Nat → Nat → Array Value → (Nat → Prop) → World → Prop} {U0 : Nat → Prop} (hseq : IterU P n gf lb K T U0 w) (hps : ∀ k L v U W, T k L v U W → v.size = ps.size)
    (hT : ∀ k L v U W W', T k L v U W → KeepU U W W' → T k L v U W') (hU0 : ∀ b, U0 b → b < w.heap.size)
    (I : Nat → Nat → (Nat → Prop) → World → Prop) (Ix : Code → Nat → Nat → (Nat → Prop) → World → Prop)
    (hI : ∀ k L U U' W W', w.heap.size ≤ L → I k L U W → StepL L W W' → (∀ b, U' b → U b ∨ W.heap.size ≤ b) → I k L U' W')
    (hIp : ∀ k L U W b o o', w.heap.size ≤ b → b < w.heap.size + 2 → (∀ b, U b → b < w.heap.size ∨ w.heap.size + 2 ≤ b) → W.heap[b]? = some o → o.isCells = false → I k L U W → I k L U (W.putObj b o'))
    (hXp : ∀ c k L U W b o o', w.heap.size ≤ b → b < w.heap.size + 2 → W.heap[b]? = some o → o.isCells = false → Ix c k L U W → Ix c k L U (W.putObj b o'))
    (h0 : ∀ L, w.heap.size + 2 ≤ L → I 0 L U0 w) (Ax : Nat → Array Value → Act → World → Prop)
    (hAp : ∀ k v a' W b o o', w.heap.size ≤ b → W.heap[b]? = some o → o.isCells = false → Ax k v a' W → Ax k v a' (W.putObj b o'))
    (hassign : ∀ (l k L : Nat) (v : Array Value) (U : Nat → Prop) (W : World) (K' : Act → World → Prop), T k L v U W → w.heap.size + 2 ≤ W.heap.size → (∀ a' W', Below W.heap.size W W' → Ax k v a' W' → K' a' W') →
      assign.wpIn (Fence.wide.inRound l) n P (Exit.then K' (fun _ _ _ => False)) { tmps := (ps.zip v).foldl (fun t (p, v) => t.setIfInBounds p v) a.tmps, defers := [] } W)
    (hbody : ∀ (l k L : Nat) (v : Array Value) (U : Nat → Prop) (a' : Act) (W : World), k ≤ K → w.heap.size + 2 ≤ L → (∀ b, U b → b < w.heap.size ∨ w.heap.size + 2 ≤ b) → I k L U W → T k L v U W → Ax k v a' W → w.heap.size + 2 ≤ W.heap.size → body.wpIn (Fence.wide.inRound l) n P (roundU w.heap.size I Ix k L U W) a' W)
    (hdone : ∀ (L : Nat) (U : Nat → Prop) (W : World), I (K + 1) L U W → W.heap[w.heap.size]? = some (.deferred (some [])) → Q .normal { a with defers := { target := .collected w.heap.size, args := #[] } :: a.defers } W)
    (hstop : ∀ (c : Code) (k L : Nat) (U : Nat → Prop) (W : World), k ≤ K → Ix c (k + 1) L U W → W.heap[w.heap.size]? = some (.deferred (some [])) → c.wpIn Fence.wide n P Q { a with defers := { target := .collected w.heap.size, args := #[] } :: a.defers } W) :
    (Code.rangeFunc g ps assign body).wpIn Fence.wide n P Q a w := by
  refine wpIn_rangeFunc fun fn hfn => ?_
  obtain ⟨D, hD⟩ : ∃ D, w.heap.size = D := ⟨_, rfl⟩
  obtain ⟨rec, hrec⟩ : ∃ rec : LoopState → Option Code → Loop, rec = fun st pe => { state := st, pending := pe, fn, tmps := a.tmps, params := ps, assign, body, defers := D } := ⟨_, rfl⟩
  have hD1 : ((w.alloc (.deferred (some []))).alloc (.loop (rec .ready none))).heap[D]? = some (.deferred (some [])) := by
    rw [← hD]
    exact (Below.heap_alloc _ _ _ (by simp)).trans (World.alloc_heap_new w _)
  have hL1 : ((w.alloc (.deferred (some []))).alloc (.loop (rec .ready none))).heap[D + 1]? = some (.loop (rec .ready none)) := by
    have h := World.alloc_heap_new (w.alloc (.deferred (some []))) (.loop (rec .ready none))
    rw [World.size_alloc, hD] at h
    exact h
  have hb1 : Below w.heap.size w ((w.alloc (.deferred (some []))).alloc (.loop (rec .ready none))) := ((Below.refl _ w).alloc (Nat.le_refl _) _).alloc (by simp) _
  obtain ⟨W1, hW1⟩ : ∃ W1, (w.alloc (.deferred (some []))).alloc (.loop (rec .ready none)) = W1 := ⟨_, rfl⟩
  rw [hW1] at hD1 hL1 hb1
  have hs1 := (Array.getElem?_eq_some_iff.1 hL1).1
  have hnl : ∀ st pe, Obj.isCells (.loop (rec st pe)) = false := fun _ _ => rfl
  refine ⟨D + 1, [{ target := .collected D, args := #[] }], W1, { target := .fn (.func gf) lb, args := #[.func (.yield (D + 1)) #[] #[]] }, W1, gf, #[.func (.yield (D + 1)) #[] #[]] ++ lb, W1, ?_, ?_, fun _ _ => trivial, ?_, (fun h => by cases h), ?_⟩
  · show (Instr.enterLoop fn a.tmps ps assign body none).run P w = _
    rw [run_enterLoop_outer, hD, ← hW1, hrec]
  · simp only [resolve, hg]
    simp [go_sem]
  · simp [invoke, go_sem, eg]
  · refine callsIn_wide.2 ((hseq (D + 1) (fun k L U W => (I k L U W ∧ (∀ b, U b → b < D ∨ D + 2 ≤ b) ∧ D + 2 ≤ L) ∧ W.heap[D + 1]? = some (.loop (rec .ready none)) ∧ W.heap[D]? = some (.deferred (some [])))
      (fun k L U W => ∃ c, Ix c k L U W ∧ W.heap[D + 1]? = some (.loop (rec .done (some c))) ∧ W.heap[D]? = some (.deferred (some []))) _ hb1 ?_ ?_ (fun L hL => ⟨⟨hI 0 L U0 U0 _ _ (by omega) (h0 L (by omega)) (StepL.of L hb1) (fun _ h => .inl h), fun b hb => .inl (by have := hU0 b hb; omega), by omega⟩, hL1, hD1⟩)).mono ?_)
    · rintro k L U U' W W' ⟨⟨hi, hu, hL⟩, hl, hd⟩ hb hs
      have l1 := (Array.getElem?_eq_some_iff.1 hl).1
      refine ⟨⟨hI k L U U' W W' (by omega) hi hb hs, fun b hb2 => ?_, hL⟩, (hb.same _ l1 (by omega)).trans hl, (hb.same _ (by omega) (by omega)).trans hd⟩
      rcases hs b hb2 with h | h
      · exact hu b h
      · exact .inr (by omega)
    · rintro k L v U W hk ⟨⟨hi, hu, hL⟩, hl, hd⟩ ht
      have l1 := (Array.getElem?_eq_some_iff.1 hl).1
      have hnU : ¬ U (D + 1) := fun h => by have := hu _ h; omega
      have hu' : ∀ b, U b → b < w.heap.size ∨ w.heap.size + 2 ≤ b := by rw [hD]; exact hu
      have hy := run_yield (P := P) (args := v) hl (by rw [hrec]; exact hps k L v U W ht)
      rw [hrec] at hy
      refine ⟨fn, _, assign, body, hy, roundIn_of_wpIn hfn (hassign _ k L v U W _ ht (by omega) fun a' Wa hba hax => ?_)⟩
      have hla := (hb_same hba l1).trans hl
      have hda := (hb_same hba (by omega : D < W.heap.size)).trans hd
      have hia := hI k L U U W Wa (by omega) hi (StepL.of L hba) (fun _ h => .inl h)
      have hta := hT k L v U W Wa ht (KeepU.below hba)
      have la := (Array.getElem?_eq_some_iff.1 hla).1
      obtain ⟨W2, hW2⟩ : ∃ W2, Wa.putObj (D + 1) (.loop (rec .busy none)) = W2 := ⟨_, rfl⟩
      refine ⟨W2, ?_, ?_⟩
      · have h := run_beginRound (P := P) hla (by rw [hrec])
        rw [← hW2, hrec] at *
        exact h
      have hl2 : W2.heap[D + 1]? = some (.loop (rec .busy none)) := by rw [← hW2]; exact World.putObj_heap_same la
      have hd2 : W2.heap[D]? = some (.deferred (some [])) := by rw [← hW2]; exact (World.putObj_heap_other (by omega)).trans hda
      have hi2 : I k L U W2 := by rw [← hW2]; exact hIp k L U Wa (D + 1) _ _ (by omega) (by omega) hu' hla (hnl _ _) hia
      have hku2 : KeepU U W W2 := by rw [← hW2]; exact (KeepU.below hba).trans (KeepU.put _ hnU)
      have ht2 : T k L v U W2 := hT k L v U W W2 ht hku2
      have hax2 : Ax k v a' W2 := by rw [← hW2]; exact hAp k v a' Wa (D + 1) _ _ (by omega) hla (hnl _ _) hax
      have l2 := (Array.getElem?_eq_some_iff.1 hl2).1
      refine wpIn_mono (hbody _ k L v U a' W2 hk (by omega) hu' hi2 ht2 hax2 (by omega)) ?_
      rw [hD]
      have fin : ∀ (j : Option Code) (W3 : World), KeepR D W2 W3 → (Instr.endRound (D + 1) j).run P W3 = .ok (.bool j.isNone) (W3.putObj (D + 1) (.loop (rec (if j.isNone then .ready else .done) j))) ∧ W3.heap[D + 1]? = some (.loop (rec .busy none)) ∧ (W3.putObj (D + 1) (.loop (rec (if j.isNone then .ready else .done) j))).heap[D + 1]? = some (.loop (rec (if j.isNone then .ready else .done) j)) ∧ (W3.putObj (D + 1) (.loop (rec (if j.isNone then .ready else .done) j))).heap[D]? = some (.deferred (some [])) := fun j W3 hr => by
        have hl3 := (hr.2 (D + 1) (by omega) (by omega)).trans hl2
        have hd3 := (hr.2 D (by omega) (by omega)).trans hd2
        refine ⟨?_, hl3, World.putObj_heap_same (Array.getElem?_eq_some_iff.1 hl3).1, (World.putObj_heap_other (by omega)).trans hd3⟩
        have h := run_endRound (P := P) j hl3
        rw [hrec] at h ⊢
        exact h
      have leave : ∀ (c : Code) (W3 : World), KeepR D W2 W3 → Ix c (k + 1) L U W3 → ∃ v w', (Instr.endRound (D + 1) (some c)).run P W3 = .ok v w' ∧ (((Ending.returned v) = .returned (.bool true) ∧ ((I (k + 1) L U w' ∧ (∀ b, U b → b < D ∨ D + 2 ≤ b) ∧ D + 2 ≤ L) ∧ w'.heap[D + 1]? = some (.loop (rec .ready none)) ∧ w'.heap[D]? = some (.deferred (some []))) ∧ KeepU U W w') ∨ ((Ending.returned v) = .returned (.bool false) ∧ ∃ c, Ix c (k + 1) L U w' ∧ w'.heap[D + 1]? = some (.loop (rec .done (some c))) ∧ w'.heap[D]? = some (.deferred (some [])))) := fun c W3 hr hx => by
        obtain ⟨h1, h2, h3, h4⟩ := fin (some c) W3 hr
        exact ⟨_, _, h1, .inr ⟨rfl, c, hXp c (k + 1) L U W3 (D + 1) _ _ (by omega) (by omega) h2 (hnl _ _) hx, h3, h4⟩⟩
      rintro e a3 W3 hp
      cases e with
      | normal =>
        obtain ⟨hr, hku, hi3⟩ := hp
        obtain ⟨h1, h2, h3, h4⟩ := fin none W3 hr
        exact ⟨_, _, h1, .inl ⟨rfl, ⟨⟨hIp (k + 1) L U W3 (D + 1) _ _ (by omega) (by omega) hu' h2 (hnl _ _) hi3, hu, hL⟩, h3, h4⟩, (hku2.trans hku).trans (KeepU.put _ hnU)⟩⟩
      | ret => exact leave .ret W3 hp.1 hp.2
      | exit id => exact leave (.exit id) W3 hp.1 hp.2
      | goto t => exact leave (.goto t) W3 hp.1 hp.2
      | panic ch => exact hp.elim
      | outgrown => exact hp.elim
    · rintro e W2 ⟨⟨v, rfl⟩, (⟨L, U, ⟨hi, hu, _⟩, hl, hd⟩ | ⟨k, L, U, hk, c, hx, hl, hd⟩)⟩
      · refine ⟨none, W2.putObj (D + 1) (.loop { rec .ready none with state := .exhausted }), ?_, ?_⟩
        · have h := run_endLoop (P := P) hl (by rw [hrec]; simp)
          rw [hrec] at h ⊢
          exact h
        · have h := hdone L U _ (hIp (K + 1) L U W2 (D + 1) _ (.loop { rec .ready none with state := .exhausted }) (by omega) (by omega) (by rw [hD]; exact hu) hl (hnl _ _) hi) (by rw [hD]; exact (World.putObj_heap_other (by omega)).trans hd)
          rw [hD] at h
          exact h
      · refine ⟨some c, W2.putObj (D + 1) (.loop { rec .done (some c) with state := .exhausted }), ?_, ?_⟩
        · have h := run_endLoop (P := P) hl (by rw [hrec]; simp)
          rw [hrec] at h ⊢
          exact h
        · have h := hstop c k L U _ hk (hXp c (k + 1) L U W2 (D + 1) _ (.loop { rec .done (some c) with state := .exhausted }) (by omega) (by omega) hl (hnl _ _) hx) (by rw [hD]; exact (World.putObj_heap_other (by omega)).trans hd)
          rw [hD] at h
          exact h
end Go.Proofs.Ythnkhljgealjdaa
namespace Go.Proofs.Ythnkhljgealjdaa
open Go Go.RowKit
set_option maxHeartbeats 1000000
/-- Block g is a list of N truth values. -/
def BoolB (t : TypeId) (w : World) (g N : Nat) (F : Nat → Bool) : Prop := ∃ cur : Array Value, w.heap[g]? = some (.cells cur t (0, 0)) ∧ cur.size = N ∧ ∀ i, i < N → cur[i]? = some (.bool (F i))
section
variable {t : TypeId} {w w' : World} {g N : Nat} {F F' : Nat → Bool}
theorem BoolB.lt (h : BoolB t w g N F) : g < w.heap.size := by obtain ⟨_, h, _⟩ := h; exact (Array.getElem?_eq_some_iff.1 h).1
theorem BoolB.cell (h : BoolB t w g N F) {i : Nat} (hi : i < N) : w.cell? ⟨g, i, none⟩ = some (.bool (F i)) := by
  obtain ⟨cur, h1, _, h2⟩ := h
  rw [cell_of_row w g i cur t (0, 0) h1]; exact h2 i hi
theorem BoolB.frozen (h : BoolB t w g N F) (i : Nat) : w.frozen? ⟨g, i, none⟩ = false := by
  obtain ⟨cur, h1, _⟩ := h
  simp [World.frozen?, h1]
theorem BoolB.of_block (h : BoolB t w g N F) (e : w'.heap[g]? = w.heap[g]?) : BoolB t w' g N F := by
  obtain ⟨cur, h1, h2⟩ := h
  exact ⟨cur, e.trans h1, h2⟩
theorem BoolB.later (h : BoolB t w g N F) (hb : Below w.heap.size w w') : BoolB t w' g N F := h.of_block (hb.block g h.lt)
theorem BoolB.congr (h : BoolB t w g N F) (e : ∀ i, i < N → F i = F' i) : BoolB t w g N F' := by
  obtain ⟨cur, h1, h2, h3⟩ := h
  exact ⟨cur, h1, h2, fun i hi => by rw [h3 i hi, e i hi]⟩
theorem BoolB.set (h : BoolB t w g N F) (j : Nat) : BoolB t (w.setCell ⟨g, j, none⟩ (.bool true)) g N (fun i => if i = j then true else F i) := by
  obtain ⟨cur, h1, h2, h3⟩ := h
  refine ⟨cur.setIfInBounds j (.bool true), ?_, by simp [h2], fun i hi => ?_⟩
  · simp [World.setCell, Array.getElem?_modify, h1]
  · rw [Array.getElem?_setIfInBounds]
    by_cases e : i = j
    · subst e; simp [h2, hi]
    · rw [if_neg (fun h => e h.symm)]; show cur[i]? = some (.bool (if i = j then true else F i)); rw [if_neg e]; exact h3 i hi
theorem BoolB.made (t : TypeId) (w : World) (n : Nat) : BoolB t (w.alloc (.cells (madeCells #[.bool false] n) t)) w.heap.size n (fun _ => false) := by
  refine ⟨_, heap_alloc_new _ _, ?_, fun i hi => ?_⟩
  · rw [← Array.length_toList, toList_madeCells_one]; simp
  · rw [← Array.getElem?_toList, toList_madeCells_one]; simp [hi]
end
theorem boInfo : (Try.prog.info? 4).map (fun i => (i.zero, i.size, i.bytes)) = some (some (.bool false), 1, 1) := by kernel_rfl
end Go.Proofs.Ythnkhljgealjdaa
namespace Go.Proofs.Ythnkhljgealjdaa
open Go Go.RowKit
set_option maxHeartbeats 1000000

theorem copyZ (A : Option Addr) (n c : Nat) (f : List (List Int)) (B : Option Addr) (m d : Nat) (s : List (List Int)) (w : World) (hz : ZArg 1048576 w A n f B m s) :
    Calls Try.prog 6 #[.agg #[.slice A n c, .slice B m d]] w fun e w' => ∃ A' c' B' d', e = .returned (.agg #[.slice A' n c', .slice B' m d']) ∧ Below w.heap.size w w' ∧ ObjZ 25 2 w.heap.size w'.heap.size w' A' f B' s := by
  have HZ := hide hz
  clear hz
  go_enter Try.func6, Try.ntmps6
  go_wp2_with fail
  have HB0 := hide (((((Below.refl _ w).alloc (Nat.le_refl _) (Obj.cells #[Value.slice A n c, Value.slice B m d] 24)).alloc (by simp) (Obj.cells #[Value.slice none 0 0, Value.slice none 0 0] 29)).alloc (by simp; omega) (Obj.cells #[Value.slice none 0 0, Value.slice none 0 0] 29)))
  have HK0 := hide (Blk.new ((w.alloc (Obj.cells #[Value.slice A n c, Value.slice B m d] 24)).alloc (Obj.cells #[Value.slice none 0 0, Value.slice none 0 0] 29)) 29 [.slice none 0 0, .slice none 0 0])
  have HL0 := hide (((Blk.new w 24 [.slice A n c, .slice B m d]).alloc (Obj.cells #[Value.slice none 0 0, Value.slice none 0 0] 29)).alloc (Obj.cells #[Value.slice none 0 0, Value.slice none 0 0] 29))
  have HR0 := hide ((Blk.new (w.alloc (Obj.cells #[Value.slice A n c, Value.slice B m d] 24)) 29 [.slice none 0 0, .slice none 0 0]).alloc (Obj.cells #[Value.slice none 0 0, Value.slice none 0 0] 29))
  refine (copyT _ _ _ f _ HZ.out.sz.fl HZ.out.sz.nb HZ.out.sz.nr (HZ.out.fst.later HB0.out)).mono ?_
  rintro e w1 ⟨A1, rfl, hb1, ho1⟩
  have hs1 := hb1.size
  simp at hs1
  have HB1 := hide (HB0.out.trans (hb1.mono (by simp; omega)))
  have HO1 := hide ho1
  have HK1 := hide (HK0.out.later hb1)
  have HL1 := hide (HL0.out.later hb1)
  have HR1 := hide (HR0.out.later hb1)
  clear hb1 ho1 HK0 HL0 HR0
  simp at HK1 HR1
  have k0 := HK1.out.cell 0 _ rfl
  have k1 := HK1.out.frozen 0
  have k2 := HL1.out.cell 1 _ rfl
  go_wp2_with fail
  clear k0 k1 k2
  have HK2 := hide (HK1.out.set 0 (.slice A1 n n))
  have HB2 := hide (HB1.out.setCell (p := ⟨w.heap.size + 1 + 1, 0, none⟩) (by simp; omega) (Value.slice A1 n n))
  refine (copyT _ _ _ s _ HZ.out.sz.sl HZ.out.sz.mb HZ.out.sz.mr (HZ.out.snd.later HB2.out)).mono ?_
  rintro e w2 ⟨A2, rfl, hb2, ho2⟩
  have hs2 := hb2.size
  simp [World.setCell] at hs2
  have HB3 := hide (HB2.out.trans (hb2.mono HB2.out.size))
  have HO3 := hide (((HO1.out.set (p := ⟨w.heap.size + 1 + 1, 0, none⟩) (by simp) (Value.slice A1 n n)).later hb2))
  have HO2 := hide ho2
  have HK3 := hide (HK2.out.later hb2)
  have HR3 := hide ((HR1.out.far (p := ⟨w.heap.size + 1 + 1, 0, none⟩) (by simp) (Value.slice A1 n n)).later hb2)
  clear hb2 ho2 HK1 HK2
  have k0 := HK3.out.cell 0 _ rfl
  have k1 := HK3.out.cell 1 _ rfl
  have k2 := HK3.out.frozen 1
  have k3 := HR3.out.cell 0 _ rfl
  have k4 := HR3.out.cell 1 _ rfl
  have k5 := HR3.out.frozen 0
  have k6 := HR3.out.frozen 1
  go_wp2_with fail
  refine bp_gen fun wf hwf => ?_
  have HRF : Hid (Blk wf (w.heap.size + 1) 29 [.slice A1 n n, .slice A2 m m]) := hide (by rw [hwf]; exact ((HR3.out.far (by simp) _).set 0 _).set 1 _)
  have HBF : Hid (Below w.heap.size w wf) := hide (by rw [hwf]; exact ((HB3.out.setCell (by simp; omega) _).setCell (by simp) _).setCell (by simp) _)
  have HOF : Hid (Obj2 25 2 w.heap.size w1.heap.size wf A1 f) := hide (by rw [hwf]; exact ((((HO3.out.set (by simp) _).set (by simp) _).set (by simp) _).mono (by simp; omega) (Nat.le_refl _)))
  have HPF : Hid (Obj2 25 2 w1.heap.size wf.heap.size wf A2 s) := hide (by rw [hwf]; exact ((((HO2.out.set (by simp [World.setCell]; omega) _).set (by simp [World.setCell]; omega) _).set (by simp [World.setCell]; omega) _).mono (by simp [World.setCell]) (by simp [World.setCell])))
  have q0 := HRF.out.cell 0 _ rfl
  have q1 := HRF.out.cell 1 _ rfl
  have hsf : w1.heap.size ≤ wf.heap.size := by rw [hwf]; simp [World.setCell]; omega
  clear hwf k0 k1 k2 k3 k4 k5 k6
  exact bodyPost_ret (v := .agg #[.slice A1 n n, .slice A2 m m]) (by simp [results, Try.results6, go_sem, q0, q1]) rfl ⟨_, _, _, _, rfl, HBF.out, w1.heap.size, by omega, hsf, HOF.out, HPF.out⟩
end Go.Proofs.Ythnkhljgealjdaa
namespace Go.Proofs.Ythnkhljgealjdaa
open Go Go.RowKit
set_option maxHeartbeats 1000000

def SzZ (L : Int) (f : List (List Int)) (n : Nat) (s : List (List Int)) (m : Nat) (r : Int) : Prop := r = -1 ∨ (0 ≤ r ∧ r ≤ L ∧ ZSz 1048576 f n s m)
def SzZPost (L : Int) (f : List (List Int)) (n : Nat) (s : List (List Int)) (m : Nat) (w : World) (e : Ending) (w' : World) : Prop := ∃ r, SzZ L f n s m r ∧ e = .returned (.int .i64 r) ∧ Below w.heap.size w w'

theorem szZ_any (A : Option Addr) (n c : Nat) (f : List (List Int)) (B : Option Addr) (m d : Nat) (s : List (List Int)) (L : Int) (w : World) (hz : ZArg 9223372036854775807 w A n f B m s) (h0 : 0 ≤ L) (h1 : L ≤ 1048576) :
    Calls Try.prog 4 #[.agg #[.slice A n c, .slice B m d], .int .i64 L] w (SzZPost L f n s m w) := by
  have HZ := hide hz
  clear hz
  go_enter Try.func4, Try.ntmps4
  go_wp2_with fail
  have HB0 := hide ((Below.refl _ w).alloc (Nat.le_refl _) (Obj.cells #[Value.slice A n c, Value.slice B m d] 24))
  have HK0 := hide (Blk.new w 24 [.slice A n c, .slice B m d])
  refine (szz_any _ _ _ f L _ HZ.out.sz.fl HZ.out.sz.nb HZ.out.sz.nr h0 h1 (HZ.out.fst.later HB0.out)).mono ?_
  rintro e w1 ⟨l, hsz, rfl, rfl⟩
  have k1 := HK0.out.cell 1 _ rfl
  rcases hsz with rfl | ⟨p, q, u, y⟩
  · go_wp2_with fail
    go_ret
    exact ⟨-1, .inl rfl, rfl, HB0.out⟩
  · have U := hide u
    have Y := hide y
    clear u y
    go_wp2_with fail
    refine (szz_any _ _ _ s l _ HZ.out.sz.sl HZ.out.sz.mb HZ.out.sz.mr p (by omega) (HZ.out.snd.later HB0.out)).mono ?_
    rintro e w1 ⟨l2, hsz, rfl, rfl⟩
    rcases hsz with rfl | ⟨p2, q2, u2, y2⟩
    · go_wp2_with fail
      go_ret
      exact ⟨-1, .inl rfl, rfl, HB0.out⟩
    · have U2 := hide u2
      have Y2 := hide y2
      clear u2 y2
      go_wp2_with fail
      go_ret
      refine ⟨l2, .inr ⟨p2, by omega, ⟨HZ.out.sz.fl, ?_, fun i hi => ?_, HZ.out.sz.sl, ?_, fun i hi => ?_⟩⟩, rfl, HB0.out⟩
      · have := U.out; have := HZ.out.sz.fl; omega
      · have := Y.out i hi; omega
      · have := U2.out; have := HZ.out.sz.sl; omega
      · have := Y2.out i hi; omega
end Go.Proofs.Ythnkhljgealjdaa
namespace Go.Proofs.Ythnkhljgealjdaa
open Go Go.RowKit
set_option maxHeartbeats 1000000

theorem eqZ_any (A : Option Addr) (n c : Nat) (f : List (List Int)) (B : Option Addr) (m d : Nat) (s : List (List Int)) (A2 : Option Addr) (n2 c2 : Nat) (f2 : List (List Int)) (B2 : Option Addr) (m2 d2 : Nat) (s2 : List (List Int)) (r : Bool) (w : World)
    (hz : ZArg 1048576 w A n f B m s) (hz2 : ZArg 1048576 w A2 n2 f2 B2 m2 s2) (hr : r = true ↔ f = f2 ∧ s = s2) :
    Calls Try.prog 10 #[.agg #[.slice A n c, .slice B m d], .agg #[.slice A2 n2 c2, .slice B2 m2 d2]] w fun e w' => e = .returned (.bool r) ∧ Below w.heap.size w w' := by
  have HZ := hide hz
  have HZ2 := hide hz2
  have HR := hide hr
  clear hz hz2 hr
  have HB0 := hide (((Below.refl _ w).alloc (Nat.le_refl _) (Obj.cells #[Value.slice A n c, Value.slice B m d] 29)).alloc (by simp) (Obj.cells #[Value.slice A2 n2 c2, Value.slice B2 m2 d2] 29))
  have HK0 := hide ((Blk.new w 29 [.slice A n c, .slice B m d]).alloc (Obj.cells #[Value.slice A2 n2 c2, Value.slice B2 m2 d2] 29))
  have HL0 := hide (Blk.new (w.alloc (Obj.cells #[Value.slice A n c, Value.slice B m d] 29)) 29 [.slice A2 n2 c2, .slice B2 m2 d2])
  simp at HL0
  by_cases h1 : f = f2
  · have H1 := hide h1
    clear h1
    by_cases h2 : s = s2
    · have H2 := hide h2
      have hrt : r = true := HR.out.2 ⟨H1.out, h2⟩
      subst hrt
      clear h2
      go_enter Try.func10, Try.ntmps10
      go_wp2_with fail
      refine (eqq_any _ _ _ _ _ _ f f2 true _ HZ.out.sz.fl HZ2.out.sz.fl (by have := HZ.out.sz.nb; omega) (by have := HZ2.out.sz.nb; omega) (fun i hi => by have := HZ.out.sz.nr i hi; omega) (fun i hi => by have := HZ2.out.sz.nr i hi; omega) (HZ.out.fst.later HB0.out) (HZ2.out.fst.later HB0.out) (by simp [H1.out])).mono ?_
      rintro e w1 ⟨rfl, hq1⟩
      have HB1 := hide (HB0.out.trans (hq1.below _))
      have k1 := (HK0.out.later (hq1.below _)).cell 1 _ rfl
      have k2 := (HL0.out.later (hq1.below _)).cell 1 _ rfl
      clear hq1
      go_wp2_with fail
      refine (eqq_any _ _ _ _ _ _ s s2 true _ HZ.out.sz.sl HZ2.out.sz.sl (by have := HZ.out.sz.mb; omega) (by have := HZ2.out.sz.mb; omega) (fun i hi => by have := HZ.out.sz.mr i hi; omega) (fun i hi => by have := HZ2.out.sz.mr i hi; omega) (HZ.out.snd.later HB1.out) (HZ2.out.snd.later HB1.out) (by simp [H2.out])).mono ?_
      rintro e w2 ⟨rfl, hq2⟩
      have HB2 := hide (HB1.out.trans (hq2.below _))
      clear hq2
      go_wp2_with fail
      go_ret
      exact ⟨rfl, HB2.out⟩
    · have H2 := hide h2
      have hrt : r = false := by
        cases r
        · rfl
        · exact absurd (HR.out.1 rfl).2 h2
      subst hrt
      clear h2
      go_enter Try.func10, Try.ntmps10
      go_wp2_with fail
      refine (eqq_any _ _ _ _ _ _ f f2 true _ HZ.out.sz.fl HZ2.out.sz.fl (by have := HZ.out.sz.nb; omega) (by have := HZ2.out.sz.nb; omega) (fun i hi => by have := HZ.out.sz.nr i hi; omega) (fun i hi => by have := HZ2.out.sz.nr i hi; omega) (HZ.out.fst.later HB0.out) (HZ2.out.fst.later HB0.out) (by simp [H1.out])).mono ?_
      rintro e w1 ⟨rfl, hq1⟩
      have HB1 := hide (HB0.out.trans (hq1.below _))
      have k1 := (HK0.out.later (hq1.below _)).cell 1 _ rfl
      have k2 := (HL0.out.later (hq1.below _)).cell 1 _ rfl
      clear hq1
      go_wp2_with fail
      refine (eqq_any _ _ _ _ _ _ s s2 false _ HZ.out.sz.sl HZ2.out.sz.sl (by have := HZ.out.sz.mb; omega) (by have := HZ2.out.sz.mb; omega) (fun i hi => by have := HZ.out.sz.mr i hi; omega) (fun i hi => by have := HZ2.out.sz.mr i hi; omega) (HZ.out.snd.later HB1.out) (HZ2.out.snd.later HB1.out) (by simp [H2.out])).mono ?_
      rintro e w2 ⟨rfl, hq2⟩
      have HB2 := hide (HB1.out.trans (hq2.below _))
      clear hq2
      go_wp2_with fail
      go_ret
      exact ⟨rfl, HB2.out⟩
  · have H1 := hide h1
    have hrt : r = false := by
      cases r
      · rfl
      · exact absurd (HR.out.1 rfl).1 h1
    subst hrt
    clear h1
    go_enter Try.func10, Try.ntmps10
    go_wp2_with fail
    refine (eqq_any _ _ _ _ _ _ f f2 false _ HZ.out.sz.fl HZ2.out.sz.fl (by have := HZ.out.sz.nb; omega) (by have := HZ2.out.sz.nb; omega) (fun i hi => by have := HZ.out.sz.nr i hi; omega) (fun i hi => by have := HZ2.out.sz.nr i hi; omega) (HZ.out.fst.later HB0.out) (HZ2.out.fst.later HB0.out) (by simp [H1.out])).mono ?_
    rintro e w1 ⟨rfl, hq1⟩
    have HB1 := hide (HB0.out.trans (hq1.below _))
    clear hq1
    go_wp2_with fail
    go_ret
    exact ⟨rfl, HB1.out⟩
end Go.Proofs.Ythnkhljgealjdaa
namespace Go.Proofs.Ythnkhljgealjdaa
open Go Go.RowKit
set_option maxHeartbeats 1000000

theorem markZ (ts t : TypeId) (hne : ts ≠ t) (lo hi : Nat) (A : Option Addr) (n c : Nat) (B : Option Addr) (m d : Nat) (k : Int) (f s : List (List Int)) (w : World) (sz : ZSz 1048576 f n s m) (ht : tot f + tot s ≤ 2305843009213693952) (hk : 0 ≤ k) (hk2 : k ≤ 1152921504606846976) (hr : ObjZ ts t lo hi w A f B s) (hhi : hi ≤ w.heap.size) :
    Calls Try.prog 12 #[.agg #[.slice A n c, .slice B m d], .int .i64 k] w fun e w' => e = .returned (.int .i64 (k + (tot f : Int) + (tot s : Int))) ∧ Touch lo hi w w' ∧ ObjZ ts t lo hi w' A (marks2 k f) B (marks2 (k + (tot f : Int)) s) := by
  obtain ⟨mid, h1, h2, h3, h4⟩ := hr
  have HNE := hide hne
  have SZ := hide sz
  have H3 := hide h3
  have H4 := hide h4
  have HT := hide ht
  have HTF := hide sz.totf
  clear hne sz h3 h4 ht
  have htf := HTF.out
  obtain ⟨F, hF⟩ : ∃ F, tot f = F := ⟨_, rfl⟩
  obtain ⟨S, hS⟩ : ∃ S, tot s = S := ⟨_, rfl⟩
  rw [hF, hS]
  rw [hF] at htf
  have HF := hide hF
  have HS := hide hS
  have hk0 : Below w.heap.size w (w.alloc (Obj.cells #[Value.slice A n c, Value.slice B m d] 29)) := (Below.refl _ w).alloc (Nat.le_refl _) _
  have HB0 := hide hk0
  have HK0 := hide (Blk.new w 29 [.slice A n c, .slice B m d])
  clear hF hS hk0
  go_enter Try.func12, Try.ntmps12
  go_wp2_with fail
  refine (markT ts t HNE.out lo mid _ _ _ _ f _ SZ.out.fl SZ.out.nb SZ.out.nr (by have := HT.out; omega) hk (by omega) (H3.out.later HB0.out)).mono ?_
  rintro e w1 ⟨rfl, ht1, ho1⟩
  have HT1 := hide ((Touch.of_below HB0.out).trans (ht1.wide (Nat.le_refl _) h2))
  have HO1 := hide ho1
  have HP1 := hide (((H4.out.later HB0.out).far ht1 (.inr (Nat.le_refl _))))
  have HK1 := hide (HK0.out.touch ht1 (.inr (by omega)))
  have k1 := HK1.out.cell 1 _ rfl
  clear ht1 ho1
  rw [HF.out]
  go_wp2_with fail
  refine (markT ts t HNE.out mid hi _ _ _ _ s _ SZ.out.sl SZ.out.mb SZ.out.mr (by have := HT.out; omega) (by omega) (by omega) HP1.out).mono ?_
  rintro e w2 ⟨rfl, ht2, ho2⟩
  have HT2 := hide (HT1.out.trans (ht2.wide h1 (Nat.le_refl _)))
  have HO2 := hide (HO1.out.far ht2 (.inl (Nat.le_refl _)))
  have HP2 := hide ho2
  clear ht2 ho2
  rw [HS.out]
  go_wp2_with fail
  go_ret
  exact ⟨rfl, HT2.out, mid, h1, h2, HO2.out, HP2.out⟩

end Go.Proofs.Ythnkhljgealjdaa
namespace Go.Proofs.Ythnkhljgealjdaa
open Go Go.RowKit

/-- What a pair map is. -/
def PMap (f s : List (List Int)) : Prop := Tbl f ∧ Tbl s ∧ f.length = s.length

/-- The value of a table at two elements. -/
def ap (rows : List (List Int)) (a b : Nat) : Nat := ((rows.getD a []).getD b 0).toNat

theorem Tbl.ap_lt {rows : List (List Int)} (h : Tbl rows) {a b n : Nat} (hn : rows.length = n) (ha : a < n) (hb : b < n) : ap rows a b < n := by
  have h1 := (h.2.2 a (by omega)).2 b (by omega)
  unfold ap
  omega
theorem Tbl.ap_eq {rows : List (List Int)} (h : Tbl rows) {a b n : Nat} (hn : rows.length = n) (ha : a < n) (hb : b < n) : (rows.getD a []).getD b 0 = (ap rows a b : Int) := by
  have h1 := (h.2.2 a (by omega)).2 b (by omega)
  unfold ap
  omega
theorem Tbl.row_len {rows : List (List Int)} (h : Tbl rows) {a n : Nat} (hn : rows.length = n) (ha : a < n) : (rows.getD a []).length = n := by
  rw [h.rows a (by omega), hn]

/-- The cells of a table that is read in a world, at two elements. -/
theorem Tbl.cells {rows : List (List Int)} {w : World} {A : Option Addr} (h : Tbl rows) (hr : Rd2 w A rows) {n : Nat} (hn : rows.length = n) :
    ∃ b o, A = some ⟨b, o, none⟩ ∧ b < w.heap.size ∧ ∀ x, x < n → ∃ bx ox cx, w.cell? ⟨b, o + x, none⟩ = some (.slice (some ⟨bx, ox, none⟩) n cx) ∧ bx < w.heap.size ∧ ∀ y, y < n → w.cell? ⟨bx, ox + y, none⟩ = some (.int .i64 (ap rows x y)) := by
  have h1 := h.1
  obtain ⟨b, o, rfl, hb, hc⟩ := hr (by omega)
  refine ⟨b, o, rfl, hb, fun x hx => ?_⟩
  obtain ⟨Ax, cx, h2, h3⟩ := hc x (by omega)
  rw [h.row_len hn hx] at h2
  obtain ⟨bx, ox, rfl, h4, h5⟩ := h3 (by rw [h.row_len hn hx]; omega)
  refine ⟨bx, ox, cx, h2, h4, fun y hy => ?_⟩
  rw [h5 y (by rw [h.row_len hn hx]; exact hy), h.ap_eq hn hx hy]

/-- A result that is told only of what is good. -/
def BRes (good cond : Prop) (r : Bool) (code : Int) : Prop := (good ∧ (r = true ↔ cond) ∧ code = 0) ∨ (¬ good ∧ r = false ∧ code = 1)
theorem BRes.ex (good cond : Prop) : ∃ r code, BRes good cond r code := by
  by_cases h : good
  · obtain ⟨r, hr⟩ := bool_of cond
    exact ⟨r, _, .inl ⟨h, hr, rfl⟩⟩
  · exact ⟨_, _, .inr ⟨h, rfl, rfl⟩⟩
def PRes (f s : List (List Int)) (r : Bool) : Prop := r = true ↔ PMap f s
theorem PRes.ex (f s : List (List Int)) : ∃ r, PRes f s r := bool_of _

/-- Each pair of equal elements is led to itself. -/
def SqF (f s : List (List Int)) : Prop := ∀ x, x < f.length → ap f x x = x ∧ ap s x x = x
def SqRes (f s : List (List Int)) : Bool → Int → Prop := BRes (PMap f s) (SqF f s)
theorem SqRes.ex (f s : List (List Int)) : ∃ r code, SqRes f s r code := BRes.ex _ _
/-- Doing it twice leads each pair to itself. -/
def InvF (f s : List (List Int)) : Prop := ∀ x y, x < f.length → y < f.length → ap f (ap f x y) (ap s x y) = x ∧ ap s (ap f x y) (ap s x y) = y
def InvoRes (f s : List (List Int)) : Bool → Int → Prop := BRes (PMap f s) (InvF f s)
theorem InvoRes.ex (f s : List (List Int)) : ∃ r code, InvoRes f s r code := BRes.ex _ _
def NonF (f s : List (List Int)) : Prop := AllPrm f ∧ AllPrm (turnL s)
def NonRes (f s : List (List Int)) : Bool → Int → Prop := BRes (PMap f s) (NonF f s)
theorem NonRes.ex (f s : List (List Int)) : ∃ r code, NonRes f s r code := BRes.ex _ _

/-- What a pair map leads a pair to. -/
def AppRes (f s : List (List Int)) (x y u v code : Int) : Prop :=
  (PMap f s ∧ (0 ≤ x ∧ x < (f.length : Int)) ∧ (0 ≤ y ∧ y < (f.length : Int)) ∧ u = (ap f x.toNat y.toNat : Int) ∧ v = (ap s x.toNat y.toNat : Int) ∧ code = 0) ∨
  (PMap f s ∧ ¬ ((0 ≤ x ∧ x < (f.length : Int)) ∧ (0 ≤ y ∧ y < (f.length : Int))) ∧ u = 0 ∧ v = 0 ∧ code = 2) ∨ (¬ PMap f s ∧ u = 0 ∧ v = 0 ∧ code = 1)
theorem AppRes.ex (f s : List (List Int)) (x y : Int) : ∃ u v code, AppRes f s x y u v code := by
  by_cases h : PMap f s
  · by_cases h1 : (0 ≤ x ∧ x < (f.length : Int)) ∧ (0 ≤ y ∧ y < (f.length : Int))
    · exact ⟨_, _, _, .inl ⟨h, h1.1, h1.2, rfl, rfl, rfl⟩⟩
    · exact ⟨_, _, _, .inr (.inl ⟨h, h1, rfl, rfl, rfl⟩)⟩
  · exact ⟨_, _, _, .inr (.inr ⟨h, rfl, rfl, rfl⟩)⟩
end Go.Proofs.Ythnkhljgealjdaa
namespace Go.Proofs.Ythnkhljgealjdaa
open Go Go.RowKit Go.Sort Go.Lib
section
variable {α : Type} [Inhabited α]
theorem sortWorld_block (enc : α → Value) (w : World) (g n : Nat) (d : Array α) (os : Array Obj) (k : Nat) (hk : k ≠ g) (hlt : k < w.heap.size) : (sortWorld enc w g 0 n d os).heap[k]? = w.heap[k]? := by
  unfold sortWorld grow putRow mapBlock Sort.ahead
  simp only [Array.getElem?_append, Array.size_modify]
  rw [if_pos hlt, Array.getElem?_modify, if_neg (fun e => hk e.symm)]
theorem sortWorld_top (enc : α → Value) (w : World) (g n : Nat) (d : Array α) (os : Array Obj) (cur : Array Value) (t : TypeId) (fr : Nat × Nat) (h : w.heap[g]? = some (.cells cur t fr)) : (sortWorld enc w g 0 n d os).heap[g]? = some (.cells (putCells enc 0 d cur) t fr) := by
  have hlt : g < w.heap.size := (Array.getElem?_eq_some_iff.1 h).1
  unfold sortWorld grow putRow mapBlock Sort.ahead
  simp only [Array.getElem?_append, Array.size_modify]
  rw [if_pos hlt, Array.getElem?_modify, if_pos rfl, h]
  rfl
theorem sortWorld_size (enc : α → Value) (w : World) (g n : Nat) (d : Array α) (os : Array Obj) : w.heap.size ≤ (sortWorld enc w g 0 n d os).heap.size := by
  unfold sortWorld grow putRow mapBlock Sort.ahead
  simp
theorem sortWorld_low (enc : α → Value) (w : World) (g n : Nat) (d : Array α) (os : Array Obj) (B : Nat) (hB : B ≤ g) (hBw : B ≤ w.heap.size) : Go.RowKit.Below B w (sortWorld enc w g 0 n d os) :=
  ⟨rfl, rfl, rfl, sortWorld_size enc w g n d os, fun k hk => sortWorld_block enc w g n d os k (by omega) (by omega)⟩
theorem sortWorld_keep (enc : α → Value) (w : World) (g n : Nat) (d : Array α) (os : Array Obj) {ts t : TypeId} (hne : ts ≠ t) {cur : Array Value} {fr : Nat × Nat} (h : w.heap[g]? = some (.cells cur ts fr)) : KeepT t w (sortWorld enc w g 0 n d os) := by
  intro k c e
  by_cases hk : k = g
  · subst hk
    rw [h] at e
    injection e with e
    injection e with _ e
    exact absurd e hne
  · exact (sortWorld_block enc w g n d os k hk (Array.getElem?_eq_some_iff.1 e).1).trans e
end
theorem cmpW_neg (p q : List Int) : cmpW p q < 0 ↔ lessL p q = true := by
  unfold cmpW
  by_cases h : lessL p q = true
  · simp [h]
  · by_cases h2 : lessL q p = true
    · simp [h, h2]
    · simp [h, h2]
section
variable {M : Nat} (R : Fin (M + 1) → List Int)
theorem rowLt (x y : Fin (M + 1)) : ltOf (fun i j => cmpW (R i) (R j)) x y = lessL (R x) (R y) := by
  unfold ltOf
  have h := cmpW_neg (R x) (R y)
  cases h2 : lessL (R x) (R y) with
  | true => rw [h2] at h; simpa using h.2 rfl
  | false =>
    rw [h2] at h
    have h3 : ¬ cmpW (R x) (R y) < 0 := fun h3 => by have := h.1 h3; cases this
    simpa using h3
theorem rowSwo : SWO (ltOf (fun i j => cmpW (R i) (R j))) where
  irrefl x := by rw [rowLt]; exact lessL_irr _
  trans x y z h1 h2 := by rw [rowLt] at *; exact lessL_trans _ _ _ h1 h2
  ntrans x y z h1 h2 := by
    rw [rowLt] at *
    cases h3 : lessL (R x) (R z) with
    | false => rfl
    | true =>
      exfalso
      by_cases e : R x = R y
      · rw [e] at h3; rw [h3] at h2; cases h2
      · rcases lessL_tri _ _ e with h | h
        · rw [h] at h1; cases h1
        · have := lessL_trans _ _ _ h h3
          rw [this] at h2; cases h2
theorem rowTot (hinj : ∀ x y, R x = R y → x = y) (x y : Fin (M + 1)) (h1 : ltOf (fun i j => cmpW (R i) (R j)) x y = false) (h2 : ltOf (fun i j => cmpW (R i) (R j)) y x = false) : x = y := by
  rw [rowLt] at h1 h2
  by_cases e : R x = R y
  · exact hinj x y e
  · rcases lessL_tri _ _ e with h | h
    · rw [h] at h1; cases h1
    · rw [h] at h2; cases h2
/-- The indices in the order of their rows. -/
def srtI : List (Fin (M + 1)) := (Array.ofFn (n := M + 1) id).toList.mergeSort fun x y => !(ltOf (fun i j => cmpW (R i) (R j))) y x
theorem srtI_perm : (srtI R).Perm (List.ofFn (n := M + 1) id) := by
  have h := List.mergeSort_perm (Array.ofFn (n := M + 1) id).toList (fun x y => !(ltOf (fun i j => cmpW (R i) (R j))) y x)
  unfold srtI
  simpa using h
theorem srtI_len : (srtI R).length = M + 1 := by
  have := (srtI_perm R).length_eq
  simpa using this
theorem srtI_mem (x : Fin (M + 1)) : x ∈ srtI R := (srtI_perm R).mem_iff.2 (List.mem_ofFn.2 ⟨x, rfl⟩)
theorem srtI_nd : (srtI R).Nodup := by
  refine (srtI_perm R).nodup_iff.2 ?_
  rw [List.nodup_iff_pairwise_ne, List.pairwise_iff_getElem]
  intro i j hi hj hij e
  rw [List.getElem_ofFn, List.getElem_ofFn] at e
  have e2 : i = j := congrArg Fin.val e
  omega
theorem srtI_asc (hinj : ∀ x y, R x = R y → x = y) : ((srtI R).map R).Pairwise fun a b => lessL a b = true := by
  have hs : (srtI R).Pairwise fun x y => (!(ltOf (fun i j => cmpW (R i) (R j))) y x) = true := by
    unfold srtI
    refine List.pairwise_mergeSort (fun x y z h1 h2 => ?_) (fun x y => ?_) _
    · simp only [Bool.not_eq_true'] at *
      exact (rowSwo R).ntrans _ _ _ h2 h1
    · cases h : ltOf (fun i j => cmpW (R i) (R j)) y x with
      | false => simp
      | true =>
        have : ltOf (fun i j => cmpW (R i) (R j)) x y = false := by
          cases h2 : ltOf (fun i j => cmpW (R i) (R j)) x y with
          | false => rfl
          | true =>
            have h3 := (rowSwo R).trans _ _ _ h h2
            rw [(rowSwo R).irrefl] at h3
            cases h3
        simp [this]
  have hn := List.nodup_iff_pairwise_ne.1 (srtI_nd R)
  rw [List.pairwise_map]
  refine List.Pairwise.imp₂ ?_ hs hn
  intro a b h1 h2
  rw [Bool.not_eq_true', rowLt] at h1
  rcases lessL_tri (R a) (R b) (fun e => h2 (hinj a b e)) with h | h
  · exact h
  · rw [h] at h1; cases h1
end
end Go.Proofs.Ythnkhljgealjdaa
namespace Go.Proofs.Ythnkhljgealjdaa
open Go Go.RowKit

/-- What a system is. -/
def Sys (n : Int) (rows : List (List Int)) : Prop := 1 ≤ n ∧ n ≤ 12 ∧ rows.length ≤ 16 ∧ ∀ i, i < rows.length → ((rows.getD i []).length : Int) = n ∧ Prm (rows.getD i [])
/-- A step of a system from an element to an element. -/
def stp (rows : List (List Int)) (x y : Nat) : Prop := ∃ i, i < rows.length ∧ ((rows.getD i []).getD x 0).toNat = y
inductive Rch (rows : List (List Int)) (x : Nat) : Nat → Prop
  | start : Rch rows x x
  | step {y z : Nat} : Rch rows x y → stp rows y z → Rch rows x z
end Go.Proofs.Ythnkhljgealjdaa
namespace Go.Proofs.Ythnkhljgealjdaa
open Go Go.RowKit
set_option maxHeartbeats 1000000

theorem size_any (A : Option Addr) (n c : Nat) (B : Option Addr) (m d : Nat) (w : World) (_hn : n ≤ 1048576) :
    Calls Try.prog 43 #[.agg #[.slice A n c, .slice B m d]] w fun e w' => e = .returned (.int .i64 n) ∧ Below w.heap.size w w' := by
  have HB0 := hide ((Below.refl _ w).alloc (Nat.le_refl _) (Obj.cells #[Value.slice A n c, Value.slice B m d] 29))
  go_enter Try.func43, Try.ntmps43
  go_wp2_with fail
  go_ret
  exact ⟨rfl, HB0.out⟩
end Go.Proofs.Ythnkhljgealjdaa
