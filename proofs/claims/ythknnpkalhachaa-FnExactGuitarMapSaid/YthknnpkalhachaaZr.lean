import Derived.Test.YthknnpkalhachaaZn
import Derived.Test.YthknnpkalhachaaZm
import Derived.Shelf.SlSortCmp.NoneTotal
import Derived.Test.YthknnpkalhachaaZf
import Derived.Test.YthknnpkalhachaaZl
import Derived.Test.YthknnpkalhachaaProg
import Derived.Test.YthknnpkalhachaaZa
namespace Go.Proofs.Ythknnpkalhachaa
open Go Go.RowKit Go.Sort Go.Lib
section
variable {α : Type} [Inhabited α]
theorem sortWorld_block (enc : α → Value) (w : World) (g n : Nat) (d : Array α) (os : Array Obj) (k : Nat) (hk : k ≠ g) (hlt : k < w.heap.size) : (sortWorld enc w g 0 n d os).heap[k]? = w.heap[k]? := by
  unfold sortWorld grow putRow mapBlock Sort.ahead
  simp only [Array.getElem?_append, Array.size_modify]
  rw [if_pos hlt, Array.getElem?_modify, if_neg (fun e => hk e.symm)]
theorem sortWorld_top (enc : α → Value) (w : World) (g n : Nat) (d : Array α) (os : Array Obj) (cur : Array Value) (t : TypeId) (fr : Nat × Nat) (h : w.heap[g]? = some (.cells cur t fr)) : (sortWorld enc w g 0 n d os).heap[g]? = some (.cells (putCells enc 0 d cur) t fr) := by
  have hlt : g < w.heap.size := (Array.getElem?_eq_some_iff.1 h).1
  unfold sortWorld grow putRow mapBlock Sort.ahead
  simp only [Array.getElem?_append, Array.size_modify]
  rw [if_pos hlt, Array.getElem?_modify, if_pos rfl, h]
  rfl
theorem sortWorld_size (enc : α → Value) (w : World) (g n : Nat) (d : Array α) (os : Array Obj) : w.heap.size ≤ (sortWorld enc w g 0 n d os).heap.size := by
  unfold sortWorld grow putRow mapBlock Sort.ahead
  simp
theorem sortWorld_low (enc : α → Value) (w : World) (g n : Nat) (d : Array α) (os : Array Obj) (B : Nat) (hB : B ≤ g) (hBw : B ≤ w.heap.size) : Go.RowKit.Below B w (sortWorld enc w g 0 n d os) :=
  ⟨rfl, rfl, rfl, sortWorld_size enc w g n d os, fun k hk => sortWorld_block enc w g n d os k (by omega) (by omega)⟩
theorem sortWorld_keep (enc : α → Value) (w : World) (g n : Nat) (d : Array α) (os : Array Obj) {ts t : TypeId} (hne : ts ≠ t) {cur : Array Value} {fr : Nat × Nat} (h : w.heap[g]? = some (.cells cur ts fr)) : KeepT t w (sortWorld enc w g 0 n d os) := by
  intro k c e
  by_cases hk : k = g
  · subst hk
    rw [h] at e
    injection e with e
    injection e with _ e
    exact absurd e hne
  · exact (sortWorld_block enc w g n d os k hk (Array.getElem?_eq_some_iff.1 e).1).trans e
end
theorem cmpW_neg (p q : List Int) : cmpW p q < 0 ↔ lessL p q = true := by
  unfold cmpW
  by_cases h : lessL p q = true
  · simp [h]
  · by_cases h2 : lessL q p = true
    · simp [h, h2]
    · simp [h, h2]
section
variable {M : Nat} (R : Fin (M + 1) → List Int)
theorem rowLt (x y : Fin (M + 1)) : ltOf (fun i j => cmpW (R i) (R j)) x y = lessL (R x) (R y) := by
  unfold ltOf
  have h := cmpW_neg (R x) (R y)
  cases h2 : lessL (R x) (R y) with
  | true => rw [h2] at h; simpa using h.2 rfl
  | false =>
    rw [h2] at h
    have h3 : ¬ cmpW (R x) (R y) < 0 := fun h3 => by have := h.1 h3; cases this
    simpa using h3
theorem rowSwo : SWO (ltOf (fun i j => cmpW (R i) (R j))) where
  irrefl x := by rw [rowLt]; exact lessL_irr _
  trans x y z h1 h2 := by rw [rowLt] at *; exact lessL_trans _ _ _ h1 h2
  ntrans x y z h1 h2 := by
    rw [rowLt] at *
    cases h3 : lessL (R x) (R z) with
    | false => rfl
    | true =>
      exfalso
      by_cases e : R x = R y
      · rw [e] at h3; rw [h3] at h2; cases h2
      · rcases lessL_tri _ _ e with h | h
        · rw [h] at h1; cases h1
        · have := lessL_trans _ _ _ h h3
          rw [this] at h2; cases h2
theorem rowTot (hinj : ∀ x y, R x = R y → x = y) (x y : Fin (M + 1)) (h1 : ltOf (fun i j => cmpW (R i) (R j)) x y = false) (h2 : ltOf (fun i j => cmpW (R i) (R j)) y x = false) : x = y := by
  rw [rowLt] at h1 h2
  by_cases e : R x = R y
  · exact hinj x y e
  · rcases lessL_tri _ _ e with h | h
    · rw [h] at h1; cases h1
    · rw [h] at h2; cases h2
/-- The indices in the order of their rows. -/
def srtI : List (Fin (M + 1)) := (Array.ofFn (n := M + 1) id).toList.mergeSort fun x y => !(ltOf (fun i j => cmpW (R i) (R j))) y x
theorem srtI_perm : (srtI R).Perm (List.ofFn (n := M + 1) id) := by
  have h := List.mergeSort_perm (Array.ofFn (n := M + 1) id).toList (fun x y => !(ltOf (fun i j => cmpW (R i) (R j))) y x)
  unfold srtI
  simpa using h
theorem srtI_len : (srtI R).length = M + 1 := by
  have := (srtI_perm R).length_eq
  simpa using this
theorem srtI_mem (x : Fin (M + 1)) : x ∈ srtI R := (srtI_perm R).mem_iff.2 (List.mem_ofFn.2 ⟨x, rfl⟩)
theorem srtI_nd : (srtI R).Nodup := by
  refine (srtI_perm R).nodup_iff.2 ?_
  rw [List.nodup_iff_pairwise_ne, List.pairwise_iff_getElem]
  intro i j hi hj hij e
  rw [List.getElem_ofFn, List.getElem_ofFn] at e
  have e2 : i = j := congrArg Fin.val e
  omega
theorem srtI_asc (hinj : ∀ x y, R x = R y → x = y) : ((srtI R).map R).Pairwise fun a b => lessL a b = true := by
  have hs : (srtI R).Pairwise fun x y => (!(ltOf (fun i j => cmpW (R i) (R j))) y x) = true := by
    unfold srtI
    refine List.pairwise_mergeSort (fun x y z h1 h2 => ?_) (fun x y => ?_) _
    · simp only [Bool.not_eq_true'] at *
      exact (rowSwo R).ntrans _ _ _ h2 h1
    · cases h : ltOf (fun i j => cmpW (R i) (R j)) y x with
      | false => simp
      | true =>
        have : ltOf (fun i j => cmpW (R i) (R j)) x y = false := by
          cases h2 : ltOf (fun i j => cmpW (R i) (R j)) x y with
          | false => rfl
          | true =>
            have h3 := (rowSwo R).trans _ _ _ h h2
            rw [(rowSwo R).irrefl] at h3
            cases h3
        simp [this]
  have hn := List.nodup_iff_pairwise_ne.1 (srtI_nd R)
  rw [List.pairwise_map]
  refine List.Pairwise.imp₂ ?_ hs hn
  intro a b h1 h2
  rw [Bool.not_eq_true', rowLt] at h1
  rcases lessL_tri (R a) (R b) (fun e => h2 (hinj a b e)) with h | h
  · exact h
  · rw [h] at h1; cases h1
end
end Go.Proofs.Ythknnpkalhachaa
namespace Go.Proofs.Ythknnpkalhachaa
open Go Go.RowKit

/-- What a system is. -/
def Sys (n : Int) (rows : List (List Int)) : Prop := 1 ≤ n ∧ n ≤ 12 ∧ rows.length ≤ 16 ∧ ∀ i, i < rows.length → ((rows.getD i []).length : Int) = n ∧ Prm (rows.getD i [])
/-- A step of a system from an element to an element. -/
def stp (rows : List (List Int)) (x y : Nat) : Prop := ∃ i, i < rows.length ∧ ((rows.getD i []).getD x 0).toNat = y
inductive Rch (rows : List (List Int)) (x : Nat) : Nat → Prop
  | start : Rch rows x x
  | step {y z : Nat} : Rch rows x y → stp rows y z → Rch rows x z
end Go.Proofs.Ythknnpkalhachaa
namespace Go.Proofs.Ythknnpkalhachaa
open Go Go.RowKit
/-! A range over an iterator with N elements, N maybe 0 (RgF.x's law, for K + 1 = N). -/
/-- What an iterator with N elements promises: T: what each round is told; L: the one block that it writes to between rounds. -/
def IterN (P : Program) (n : Nat) (gf : FuncId) (lb : Array Value) (N : Nat) (T : Nat → Nat → Array Value → (Nat → Prop) → World → Prop) (U0 : Nat → Prop) (w0 : World) : Prop :=
  ∀ (l : Nat) (J Jx : Nat → Nat → (Nat → Prop) → World → Prop) (W : World), Below w0.heap.size w0 W →
    (∀ k L U U' W W', J k L U W → StepL L W W' → (∀ b, U' b → U b ∨ W.heap.size ≤ b) → J k L U' W') →
    (∀ k L v U W, k < N → J k L U W → T k L v U W → YieldAt Fence.wide n P l v W fun e W' => (e = .returned (.bool true) ∧ J (k + 1) L U W' ∧ KeepU U W W') ∨ (e = .returned (.bool false) ∧ Jx (k + 1) L U W')) →
    (∀ L, W.heap.size ≤ L → J 0 L U0 W) →
    Calls P gf (#[.func (.yield l) #[] #[]] ++ lb) W fun e W' => (∃ v, e = .returned v) ∧ ((∃ L U, J N L U W') ∨ (∃ k L U, k < N ∧ Jx (k + 1) L U W'))
variable {P : Program} {n : Nat}
theorem wpIn_iterN {g : Operand} {ps : Array Tmp} {assign body : Code} {Q : Exit → Act → World → Prop} {a : Act} {w : World} {gf : FuncId} {lb : Array Value}
    (hg : a.eval g = .func (.func gf) #[] lb) (eg : ∀ args w, (callFunc gf args).run P w = .ok (.enter gf args) w)
    {N : Nat} {T : Nat → Nat → Array Value → (Nat → Prop) → World → Prop} {U0 : Nat → Prop} (hseq : IterN P n gf lb N T U0 w) (hps : ∀ k L v U W, T k L v U W → v.size = ps.size)
    (hT : ∀ k L v U W W', T k L v U W → KeepU U W W' → T k L v U W') (hU0 : ∀ b, U0 b → b < w.heap.size)
    (I : Nat → Nat → (Nat → Prop) → World → Prop) (Ix : Code → Nat → Nat → (Nat → Prop) → World → Prop)
    (hI : ∀ k L U U' W W', w.heap.size ≤ L → I k L U W → StepL L W W' → (∀ b, U' b → U b ∨ W.heap.size ≤ b) → I k L U' W')
    (hIp : ∀ k L U W b o o', w.heap.size ≤ b → b < w.heap.size + 2 → (∀ b, U b → b < w.heap.size ∨ w.heap.size + 2 ≤ b) → W.heap[b]? = some o → o.isCells = false → I k L U W → I k L U (W.putObj b o'))
    (hXp : ∀ c k L U W b o o', w.heap.size ≤ b → b < w.heap.size + 2 → W.heap[b]? = some o → o.isCells = false → Ix c k L U W → Ix c k L U (W.putObj b o'))
    (h0 : ∀ L, w.heap.size + 2 ≤ L → I 0 L U0 w) (Ax : Nat → Array Value → Act → World → Prop)
    (hAp : ∀ k v a' W b o o', w.heap.size ≤ b → W.heap[b]? = some o → o.isCells = false → Ax k v a' W → Ax k v a' (W.putObj b o'))
    (hassign : ∀ (l k L : Nat) (v : Array Value) (U : Nat → Prop) (W : World) (K' : Act → World → Prop), T k L v U W → w.heap.size + 2 ≤ W.heap.size → (∀ a' W', Below W.heap.size W W' → Ax k v a' W' → K' a' W') →
      assign.wpIn (Fence.wide.inRound l) n P (Exit.then K' (fun _ _ _ => False)) { tmps := (ps.zip v).foldl (fun t (p, v) => t.setIfInBounds p v) a.tmps, defers := [] } W)
    (hbody : ∀ (l k L : Nat) (v : Array Value) (U : Nat → Prop) (a' : Act) (W : World), k < N → w.heap.size + 2 ≤ L → (∀ b, U b → b < w.heap.size ∨ w.heap.size + 2 ≤ b) → I k L U W → T k L v U W → Ax k v a' W → w.heap.size + 2 ≤ W.heap.size → body.wpIn (Fence.wide.inRound l) n P (roundU w.heap.size I Ix k L U W) a' W)
    (hdone : ∀ (L : Nat) (U : Nat → Prop) (W : World), I N L U W → W.heap[w.heap.size]? = some (.deferred (some [])) → Q .normal { a with defers := { target := .collected w.heap.size, args := #[] } :: a.defers } W)
    (hstop : ∀ (c : Code) (k L : Nat) (U : Nat → Prop) (W : World), k < N → Ix c (k + 1) L U W → W.heap[w.heap.size]? = some (.deferred (some [])) → c.wpIn Fence.wide n P Q { a with defers := { target := .collected w.heap.size, args := #[] } :: a.defers } W) :
    (Code.rangeFunc g ps assign body).wpIn Fence.wide n P Q a w := by
  refine wpIn_rangeFunc fun fn hfn => ?_
  obtain ⟨D, hD⟩ : ∃ D, w.heap.size = D := ⟨_, rfl⟩
  obtain ⟨rec, hrec⟩ : ∃ rec : LoopState → Option Code → Loop, rec = fun st pe => { state := st, pending := pe, fn, tmps := a.tmps, params := ps, assign, body, defers := D } := ⟨_, rfl⟩
  have hD1 : ((w.alloc (.deferred (some []))).alloc (.loop (rec .ready none))).heap[D]? = some (.deferred (some [])) := by
    rw [← hD]
    exact (Below.heap_alloc _ _ _ (by simp)).trans (World.alloc_heap_new w _)
  have hL1 : ((w.alloc (.deferred (some []))).alloc (.loop (rec .ready none))).heap[D + 1]? = some (.loop (rec .ready none)) := by
    have h := World.alloc_heap_new (w.alloc (.deferred (some []))) (.loop (rec .ready none))
    rw [World.size_alloc, hD] at h
    exact h
  have hb1 : Below w.heap.size w ((w.alloc (.deferred (some []))).alloc (.loop (rec .ready none))) := ((Below.refl _ w).alloc (Nat.le_refl _) _).alloc (by simp) _
  obtain ⟨W1, hW1⟩ : ∃ W1, (w.alloc (.deferred (some []))).alloc (.loop (rec .ready none)) = W1 := ⟨_, rfl⟩
  rw [hW1] at hD1 hL1 hb1
  have hs1 := (Array.getElem?_eq_some_iff.1 hL1).1
  have hnl : ∀ st pe, Obj.isCells (.loop (rec st pe)) = false := fun _ _ => rfl
  refine ⟨D + 1, [{ target := .collected D, args := #[] }], W1, { target := .fn (.func gf) lb, args := #[.func (.yield (D + 1)) #[] #[]] }, W1, gf, #[.func (.yield (D + 1)) #[] #[]] ++ lb, W1, ?_, ?_, fun _ _ => trivial, ?_, (fun h => by cases h), ?_⟩
  · show (Instr.enterLoop fn a.tmps ps assign body none).run P w = _
    rw [run_enterLoop_outer, hD, ← hW1, hrec]
  · simp only [resolve, hg]
    simp [go_sem]
  · simp [invoke, go_sem, eg]
  · refine callsIn_wide.2 ((hseq (D + 1) (fun k L U W => (I k L U W ∧ (∀ b, U b → b < D ∨ D + 2 ≤ b) ∧ D + 2 ≤ L) ∧ W.heap[D + 1]? = some (.loop (rec .ready none)) ∧ W.heap[D]? = some (.deferred (some [])))
      (fun k L U W => ∃ c, Ix c k L U W ∧ W.heap[D + 1]? = some (.loop (rec .done (some c))) ∧ W.heap[D]? = some (.deferred (some []))) _ hb1 ?_ ?_ (fun L hL => ⟨⟨hI 0 L U0 U0 _ _ (by omega) (h0 L (by omega)) (StepL.of L hb1) (fun _ h => .inl h), fun b hb => .inl (by have := hU0 b hb; omega), by omega⟩, hL1, hD1⟩)).mono ?_)
    · rintro k L U U' W W' ⟨⟨hi, hu, hL⟩, hl, hd⟩ hb hs
      have l1 := (Array.getElem?_eq_some_iff.1 hl).1
      refine ⟨⟨hI k L U U' W W' (by omega) hi hb hs, fun b hb2 => ?_, hL⟩, (hb.same _ l1 (by omega)).trans hl, (hb.same _ (by omega) (by omega)).trans hd⟩
      rcases hs b hb2 with h | h
      · exact hu b h
      · exact .inr (by omega)
    · rintro k L v U W hk ⟨⟨hi, hu, hL⟩, hl, hd⟩ ht
      have l1 := (Array.getElem?_eq_some_iff.1 hl).1
      have hnU : ¬ U (D + 1) := fun h => by have := hu _ h; omega
      have hu' : ∀ b, U b → b < w.heap.size ∨ w.heap.size + 2 ≤ b := by rw [hD]; exact hu
      have hy := run_yield (P := P) (args := v) hl (by rw [hrec]; exact hps k L v U W ht)
      rw [hrec] at hy
      refine ⟨fn, _, assign, body, hy, roundIn_of_wpIn hfn (hassign _ k L v U W _ ht (by omega) fun a' Wa hba hax => ?_)⟩
      have hla := (hb_same hba l1).trans hl
      have hda := (hb_same hba (by omega : D < W.heap.size)).trans hd
      have hia := hI k L U U W Wa (by omega) hi (StepL.of L hba) (fun _ h => .inl h)
      have hta := hT k L v U W Wa ht (KeepU.below hba)
      have la := (Array.getElem?_eq_some_iff.1 hla).1
      obtain ⟨W2, hW2⟩ : ∃ W2, Wa.putObj (D + 1) (.loop (rec .busy none)) = W2 := ⟨_, rfl⟩
      refine ⟨W2, ?_, ?_⟩
      · have h := run_beginRound (P := P) hla (by rw [hrec])
        rw [← hW2, hrec] at *
        exact h
      have hl2 : W2.heap[D + 1]? = some (.loop (rec .busy none)) := by rw [← hW2]; exact World.putObj_heap_same la
      have hd2 : W2.heap[D]? = some (.deferred (some [])) := by rw [← hW2]; exact (World.putObj_heap_other (by omega)).trans hda
      have hi2 : I k L U W2 := by rw [← hW2]; exact hIp k L U Wa (D + 1) _ _ (by omega) (by omega) hu' hla (hnl _ _) hia
      have hku2 : KeepU U W W2 := by rw [← hW2]; exact (KeepU.below hba).trans (KeepU.put _ hnU)
      have ht2 : T k L v U W2 := hT k L v U W W2 ht hku2
      have hax2 : Ax k v a' W2 := by rw [← hW2]; exact hAp k v a' Wa (D + 1) _ _ (by omega) hla (hnl _ _) hax
      have l2 := (Array.getElem?_eq_some_iff.1 hl2).1
      refine wpIn_mono (hbody _ k L v U a' W2 hk (by omega) hu' hi2 ht2 hax2 (by omega)) ?_
      rw [hD]
      have fin : ∀ (j : Option Code) (W3 : World), KeepR D W2 W3 → (Instr.endRound (D + 1) j).run P W3 = .ok (.bool j.isNone) (W3.putObj (D + 1) (.loop (rec (if j.isNone then .ready else .done) j))) ∧ W3.heap[D + 1]? = some (.loop (rec .busy none)) ∧ (W3.putObj (D + 1) (.loop (rec (if j.isNone then .ready else .done) j))).heap[D + 1]? = some (.loop (rec (if j.isNone then .ready else .done) j)) ∧ (W3.putObj (D + 1) (.loop (rec (if j.isNone then .ready else .done) j))).heap[D]? = some (.deferred (some [])) := fun j W3 hr => by
        have hl3 := (hr.2 (D + 1) (by omega) (by omega)).trans hl2
        have hd3 := (hr.2 D (by omega) (by omega)).trans hd2
        refine ⟨?_, hl3, World.putObj_heap_same (Array.getElem?_eq_some_iff.1 hl3).1, (World.putObj_heap_other (by omega)).trans hd3⟩
        have h := run_endRound (P := P) j hl3
        rw [hrec] at h ⊢
        exact h
      have leave : ∀ (c : Code) (W3 : World), KeepR D W2 W3 → Ix c (k + 1) L U W3 → ∃ v w', (Instr.endRound (D + 1) (some c)).run P W3 = .ok v w' ∧ (((Ending.returned v) = .returned (.bool true) ∧ ((I (k + 1) L U w' ∧ (∀ b, U b → b < D ∨ D + 2 ≤ b) ∧ D + 2 ≤ L) ∧ w'.heap[D + 1]? = some (.loop (rec .ready none)) ∧ w'.heap[D]? = some (.deferred (some []))) ∧ KeepU U W w') ∨ ((Ending.returned v) = .returned (.bool false) ∧ ∃ c, Ix c (k + 1) L U w' ∧ w'.heap[D + 1]? = some (.loop (rec .done (some c))) ∧ w'.heap[D]? = some (.deferred (some [])))) := fun c W3 hr hx => by
        obtain ⟨h1, h2, h3, h4⟩ := fin (some c) W3 hr
        exact ⟨_, _, h1, .inr ⟨rfl, c, hXp c (k + 1) L U W3 (D + 1) _ _ (by omega) (by omega) h2 (hnl _ _) hx, h3, h4⟩⟩
      rintro e a3 W3 hp
      cases e with
      | normal =>
        obtain ⟨hr, hku, hi3⟩ := hp
        obtain ⟨h1, h2, h3, h4⟩ := fin none W3 hr
        exact ⟨_, _, h1, .inl ⟨rfl, ⟨⟨hIp (k + 1) L U W3 (D + 1) _ _ (by omega) (by omega) hu' h2 (hnl _ _) hi3, hu, hL⟩, h3, h4⟩, (hku2.trans hku).trans (KeepU.put _ hnU)⟩⟩
      | ret => exact leave .ret W3 hp.1 hp.2
      | exit id => exact leave (.exit id) W3 hp.1 hp.2
      | goto t => exact leave (.goto t) W3 hp.1 hp.2
      | panic ch => exact hp.elim
      | outgrown => exact hp.elim
    · rintro e W2 ⟨⟨v, rfl⟩, (⟨L, U, ⟨hi, hu, _⟩, hl, hd⟩ | ⟨k, L, U, hk, c, hx, hl, hd⟩)⟩
      · refine ⟨none, W2.putObj (D + 1) (.loop { rec .ready none with state := .exhausted }), ?_, ?_⟩
        · have h := run_endLoop (P := P) hl (by rw [hrec]; simp)
          rw [hrec] at h ⊢
          exact h
        · have h := hdone L U _ (hIp N L U W2 (D + 1) _ (.loop { rec .ready none with state := .exhausted }) (by omega) (by omega) (by rw [hD]; exact hu) hl (hnl _ _) hi) (by rw [hD]; exact (World.putObj_heap_other (by omega)).trans hd)
          rw [hD] at h
          exact h
      · refine ⟨some c, W2.putObj (D + 1) (.loop { rec .done (some c) with state := .exhausted }), ?_, ?_⟩
        · have h := run_endLoop (P := P) hl (by rw [hrec]; simp)
          rw [hrec] at h ⊢
          exact h
        · have h := hstop c k L U _ hk (hXp c (k + 1) L U W2 (D + 1) _ (.loop { rec .done (some c) with state := .exhausted }) (by omega) (by omega) hl (hnl _ _) hx) (by rw [hD]; exact (World.putObj_heap_other (by omega)).trans hd)
          rw [hD] at h
          exact h
end Go.Proofs.Ythknnpkalhachaa
namespace Go.Proofs.Ythknnpkalhachaa
open Go Go.RowKit
theorem neInfo : (Try.prog.info? 2).map (fun i => (i.zero, i.size, i.bytes)) = some (some (.int .i64 0), 1, 8) := by kernel_rfl
theorem neInfo2 : (Try.prog.info? 43).map (fun i => (i.zero, i.size, i.bytes)) = some (some (.slice none 0 0), 1, 24) := by kernel_rfl
theorem ne_new {w : World} {v : Value} {t : TypeId} : ∀ j u, [v][j]? = some u → (w.alloc (.cells #[v] t)).cell? ((⟨w.heap.size, 0, none⟩ : Addr).add j) = some u := by
  intro j u hj
  match j, hj with
  | 0, hj => simp at hj; subst hj; simp [Addr.add, World.cell?_alloc_new]
theorem ne_empty (w : World) (t : TypeId) : (w.alloc (.cells #[] t)).ownsRow w.heap.size t 1 (.slice (some ⟨w.heap.size, 0, none⟩) 0 0) 0 [] :=
  ⟨by simp, .inr ⟨w.heap.size, 0, #[], rfl, Nat.le_refl _, heap_alloc_new _ _, Nat.le_refl _, by unfold maxLen; omega, by simp, by simp⟩⟩
/-- Row x of the table of a function. -/
def frow (n : Nat) (h : Nat → Nat → Int) (x : Nat) : List Int := (List.range n).map fun (b : Nat) => h x b
theorem frow_length (n : Nat) (h : Nat → Nat → Int) (x : Nat) : (frow n h x).length = n := by simp [frow]
theorem frow_take (n : Nat) (h : Nat → Nat → Int) (x y : Nat) (hy : y < n) : ints ((frow n h x).take y) ++ [.int .i64 (h x y)] = ints ((frow n h x).take (y + 1)) := by
  rw [List.take_succ_eq_append_getElem (by rw [frow_length]; exact hy)]
  simp [ints, frow]
theorem grid_take (n : Nat) (h : Nat → Nat → Int) (x : Nat) (hx : x < n) : (grid n h).take (x + 1) = (grid n h).take x ++ [frow n h x] := by
  rw [List.take_succ_eq_append_getElem (by rw [grid_length]; exact hx)]
  simp [grid, frow]
end Go.Proofs.Ythknnpkalhachaa
