import Derived.Test.YtiaebilcgmahlaaZq
namespace Go.Proofs.Ytiaebilcgmahlaa
open Go Go.RowKit
/-! A range over an iterator with N elements, N maybe 0 (RgF.x's law, for K + 1 = N). -/
/-- What an iterator with N elements promises: T: what each round is told; L: the one block that it writes to between rounds. -/
def IterN (P : Program) (n : Nat) (gf : FuncId) (lb : Array Value) (N : Nat) (T : Nat → Nat → Array Value → (Nat → Prop) → World → Prop) (U0 : Nat → Prop) (w0 : World) : Prop :=
  ∀ (l : Nat) (J Jx : Nat → Nat → (Nat → Prop) → World → Prop) (W : World), Below w0.heap.size w0 W →
    (∀ k L U U' W W', J k L U W → StepL L W W' → (∀ b, U' b → U b ∨ W.heap.size ≤ b) → J k L U' W') →
    (∀ k L v U W, k < N → J k L U W → T k L v U W → YieldAt Fence.wide n P l v W fun e W' => (e = .returned (.bool true) ∧ J (k + 1) L U W' ∧ KeepU U W W') ∨ (e = .returned (.bool false) ∧ Jx (k + 1) L U W')) →
    (∀ L, W.heap.size ≤ L → J 0 L U0 W) →
    Calls P gf (#[.func (.yield l) #[] #[]] ++ lb) W fun e W' => (∃ v, e = .returned v) ∧ ((∃ L U, J N L U W') ∨ (∃ k L U, k < N ∧ Jx (k + 1) L U W'))
variable {P : Program} {n : Nat}
theorem wpIn_iterN {g : Operand} {ps : Array Tmp} {assign body : Code} {Q : Exit → Act → World → Prop} {a : Act} {w : World} {gf : FuncId} {lb : Array Value}
    (hg : a.eval g = .func (.func gf) #[] lb) (eg : ∀ args w, (callFunc gf args).run P w = .ok (.enter gf args) w)
    {N : Nat} {T : Nat → Nat → Array Value → (Nat → Prop) → World → Prop} {U0 : Nat → Prop} (hseq : IterN P n gf lb N T U0 w) (hps : ∀ k L v U W, T k L v U W → v.size = ps.size)
    (hT : ∀ k L v U W W', T k L v U W → KeepU U W W' → T k L v U W') (hU0 : ∀ b, U0 b → b < w.heap.size)
    (I : Nat → Nat → (Nat → Prop) → World → Prop) (Ix : Code → Nat → Nat → (Nat → Prop) → World → Prop)
    (hI : ∀ k L U U' W W', w.heap.size ≤ L → I k L U W → StepL L W W' → (∀ b, U' b → U b ∨ W.heap.size ≤ b) → I k L U' W')
    (hIp : ∀ k L U W b o o', w.heap.size ≤ b → b < w.heap.size + 2 → (∀ b, U b → b < w.heap.size ∨ w.heap.size + 2 ≤ b) → W.heap[b]? = some o → o.isCells = false → I k L U W → I k L U (W.putObj b o'))
    (hXp : ∀ c k L U W b o o', w.heap.size ≤ b → b < w.heap.size + 2 → W.heap[b]? = some o → o.isCells = false → Ix c k L U W → Ix c k L U (W.putObj b o'))
    (h0 : ∀ L, w.heap.size + 2 ≤ L → I 0 L U0 w) (Ax : Nat → Array Value → Act → World → Prop)
    (hAp : ∀ k v a' W b o o', w.heap.size ≤ b → W.heap[b]? = some o → o.isCells = false → Ax k v a' W → Ax k v a' (W.putObj b o'))
    (hassign : ∀ (l k L : Nat) (v : Array Value) (U : Nat → Prop) (W : World) (K' : Act → World → Prop), T k L v U W → w.heap.size + 2 ≤ W.heap.size → (∀ a' W', Below W.heap.size W W' → Ax k v a' W' → K' a' W') →
      assign.wpIn (Fence.wide.inRound l) n P (Exit.then K' (fun _ _ _ => False)) { tmps := (ps.zip v).foldl (fun t (p, v) => t.setIfInBounds p v) a.tmps, defers := [] } W)
    (hbody : ∀ (l k L : Nat) (v : Array Value) (U : Nat → Prop) (a' : Act) (W : World), k < N → w.heap.size + 2 ≤ L → (∀ b, U b → b < w.heap.size ∨ w.heap.size + 2 ≤ b) → I k L U W → T k L v U W → Ax k v a' W → w.heap.size + 2 ≤ W.heap.size → body.wpIn (Fence.wide.inRound l) n P (roundU w.heap.size I Ix k L U W) a' W)
    (hdone : ∀ (L : Nat) (U : Nat → Prop) (W : World), I N L U W → W.heap[w.heap.size]? = some (.deferred (some [])) → Q .normal { a with defers := { target := .collected w.heap.size, args := #[] } :: a.defers } W)
    (hstop : ∀ (c : Code) (k L : Nat) (U : Nat → Prop) (W : World), k < N → Ix c (k + 1) L U W → W.heap[w.heap.size]? = some (.deferred (some [])) → c.wpIn Fence.wide n P Q { a with defers := { target := .collected w.heap.size, args := #[] } :: a.defers } W) :
    (Code.rangeFunc g ps assign body).wpIn Fence.wide n P Q a w := by
  refine wpIn_rangeFunc fun fn hfn => ?_
  obtain ⟨D, hD⟩ : ∃ D, w.heap.size = D := ⟨_, rfl⟩
  obtain ⟨rec, hrec⟩ : ∃ rec : LoopState → Option Code → Loop, rec = fun st pe => { state := st, pending := pe, fn, tmps := a.tmps, params := ps, assign, body, defers := D } := ⟨_, rfl⟩
  have hD1 : ((w.alloc (.deferred (some []))).alloc (.loop (rec .ready none))).heap[D]? = some (.deferred (some [])) := by
    rw [← hD]
    exact (Below.heap_alloc _ _ _ (by simp)).trans (World.alloc_heap_new w _)
  have hL1 : ((w.alloc (.deferred (some []))).alloc (.loop (rec .ready none))).heap[D + 1]? = some (.loop (rec .ready none)) := by
    have h := World.alloc_heap_new (w.alloc (.deferred (some []))) (.loop (rec .ready none))
    rw [World.size_alloc, hD] at h
    exact h
  have hb1 : Below w.heap.size w ((w.alloc (.deferred (some []))).alloc (.loop (rec .ready none))) := ((Below.refl _ w).alloc (Nat.le_refl _) _).alloc (by simp) _
  obtain ⟨W1, hW1⟩ : ∃ W1, (w.alloc (.deferred (some []))).alloc (.loop (rec .ready none)) = W1 := ⟨_, rfl⟩
  rw [hW1] at hD1 hL1 hb1
  have hs1 := (Array.getElem?_eq_some_iff.1 hL1).1
  have hnl : ∀ st pe, Obj.isCells (.loop (rec st pe)) = false := fun _ _ => rfl
  refine ⟨D + 1, [{ target := .collected D, args := #[] }], W1, { target := .fn (.func gf) lb, args := #[.func (.yield (D + 1)) #[] #[]] }, W1, gf, #[.func (.yield (D + 1)) #[] #[]] ++ lb, W1, ?_, ?_, fun _ _ => trivial, ?_, (fun h => by cases h), ?_⟩
  · show (Instr.enterLoop fn a.tmps ps assign body none).run P w = _
    rw [run_enterLoop_outer, hD, ← hW1, hrec]
  · simp only [resolve, hg]
    simp [go_sem]
  · simp [invoke, go_sem, eg]
  · refine callsIn_wide.2 ((hseq (D + 1) (fun k L U W => (I k L U W ∧ (∀ b, U b → b < D ∨ D + 2 ≤ b) ∧ D + 2 ≤ L) ∧ W.heap[D + 1]? = some (.loop (rec .ready none)) ∧ W.heap[D]? = some (.deferred (some [])))
      (fun k L U W => ∃ c, Ix c k L U W ∧ W.heap[D + 1]? = some (.loop (rec .done (some c))) ∧ W.heap[D]? = some (.deferred (some []))) _ hb1 ?_ ?_ (fun L hL => ⟨⟨hI 0 L U0 U0 _ _ (by omega) (h0 L (by omega)) (StepL.of L hb1) (fun _ h => .inl h), fun b hb => .inl (by have := hU0 b hb; omega), by omega⟩, hL1, hD1⟩)).mono ?_)
    · rintro k L U U' W W' ⟨⟨hi, hu, hL⟩, hl, hd⟩ hb hs
      have l1 := (Array.getElem?_eq_some_iff.1 hl).1
      refine ⟨⟨hI k L U U' W W' (by omega) hi hb hs, fun b hb2 => ?_, hL⟩, (hb.same _ l1 (by omega)).trans hl, (hb.same _ (by omega) (by omega)).trans hd⟩
      rcases hs b hb2 with h | h
      · exact hu b h
      · exact .inr (by omega)
    · rintro k L v U W hk ⟨⟨hi, hu, hL⟩, hl, hd⟩ ht
      have l1 := (Array.getElem?_eq_some_iff.1 hl).1
      have hnU : ¬ U (D + 1) := fun h => by have := hu _ h; omega
      have hu' : ∀ b, U b → b < w.heap.size ∨ w.heap.size + 2 ≤ b := by rw [hD]; exact hu
      have hy := run_yield (P := P) (args := v) hl (by rw [hrec]; exact hps k L v U W ht)
      rw [hrec] at hy
      refine ⟨fn, _, assign, body, hy, roundIn_of_wpIn hfn (hassign _ k L v U W _ ht (by omega) fun a' Wa hba hax => ?_)⟩
      have hla := (hb_same hba l1).trans hl
      have hda := (hb_same hba (by omega : D < W.heap.size)).trans hd
      have hia := hI k L U U W Wa (by omega) hi (StepL.of L hba) (fun _ h => .inl h)
      have hta := hT k L v U W Wa ht (KeepU.below hba)
      have la := (Array.getElem?_eq_some_iff.1 hla).1
      obtain ⟨W2, hW2⟩ : ∃ W2, Wa.putObj (D + 1) (.loop (rec .busy none)) = W2 := ⟨_, rfl⟩
      refine ⟨W2, ?_, ?_⟩
      · have h := run_beginRound (P := P) hla (by rw [hrec])
        rw [← hW2, hrec] at *
        exact h
      have hl2 : W2.heap[D + 1]? = some (.loop (rec .busy none)) := by rw [← hW2]; exact World.putObj_heap_same la
      have hd2 : W2.heap[D]? = some (.deferred (some [])) := by rw [← hW2]; exact (World.putObj_heap_other (by omega)).trans hda
      have hi2 : I k L U W2 := by rw [← hW2]; exact hIp k L U Wa (D + 1) _ _ (by omega) (by omega) hu' hla (hnl _ _) hia
      have hku2 : KeepU U W W2 := by rw [← hW2]; exact (KeepU.below hba).trans (KeepU.put _ hnU)
      have ht2 : T k L v U W2 := hT k L v U W W2 ht hku2
      have hax2 : Ax k v a' W2 := by rw [← hW2]; exact hAp k v a' Wa (D + 1) _ _ (by omega) hla (hnl _ _) hax
      have l2 := (Array.getElem?_eq_some_iff.1 hl2).1
      refine wpIn_mono (hbody _ k L v U a' W2 hk (by omega) hu' hi2 ht2 hax2 (by omega)) ?_
      rw [hD]
      have fin : ∀ (j : Option Code) (W3 : World), KeepR D W2 W3 → (Instr.endRound (D + 1) j).run P W3 = .ok (.bool j.isNone) (W3.putObj (D + 1) (.loop (rec (if j.isNone then .ready else .done) j))) ∧ W3.heap[D + 1]? = some (.loop (rec .busy none)) ∧ (W3.putObj (D + 1) (.loop (rec (if j.isNone then .ready else .done) j))).heap[D + 1]? = some (.loop (rec (if j.isNone then .ready else .done) j)) ∧ (W3.putObj (D + 1) (.loop (rec (if j.isNone then .ready else .done) j))).heap[D]? = some (.deferred (some [])) := fun j W3 hr => by
        have hl3 := (hr.2 (D + 1) (by omega) (by omega)).trans hl2
        have hd3 := (hr.2 D (by omega) (by omega)).trans hd2
        refine ⟨?_, hl3, World.putObj_heap_same (Array.getElem?_eq_some_iff.1 hl3).1, (World.putObj_heap_other (by omega)).trans hd3⟩
        have h := run_endRound (P := P) j hl3
        rw [hrec] at h ⊢
        exact h
      have leave : ∀ (c : Code) (W3 : World), KeepR D W2 W3 → Ix c (k + 1) L U W3 → ∃ v w', (Instr.endRound (D + 1) (some c)).run P W3 = .ok v w' ∧ (((Ending.returned v) = .returned (.bool true) ∧ ((I (k + 1) L U w' ∧ (∀ b, U b → b < D ∨ D + 2 ≤ b) ∧ D + 2 ≤ L) ∧ w'.heap[D + 1]? = some (.loop (rec .ready none)) ∧ w'.heap[D]? = some (.deferred (some []))) ∧ KeepU U W w') ∨ ((Ending.returned v) = .returned (.bool false) ∧ ∃ c, Ix c (k + 1) L U w' ∧ w'.heap[D + 1]? = some (.loop (rec .done (some c))) ∧ w'.heap[D]? = some (.deferred (some [])))) := fun c W3 hr hx => by
        obtain ⟨h1, h2, h3, h4⟩ := fin (some c) W3 hr
        exact ⟨_, _, h1, .inr ⟨rfl, c, hXp c (k + 1) L U W3 (D + 1) _ _ (by omega) (by omega) h2 (hnl _ _) hx, h3, h4⟩⟩
      rintro e a3 W3 hp
      cases e with
      | normal =>
        obtain ⟨hr, hku, hi3⟩ := hp
        obtain ⟨h1, h2, h3, h4⟩ := fin none W3 hr
        exact ⟨_, _, h1, .inl ⟨rfl, ⟨⟨hIp (k + 1) L U W3 (D + 1) _ _ (by omega) (by omega) hu' h2 (hnl _ _) hi3, hu, hL⟩, h3, h4⟩, (hku2.trans hku).trans (KeepU.put _ hnU)⟩⟩
      | ret => exact leave .ret W3 hp.1 hp.2
      | exit id => exact leave (.exit id) W3 hp.1 hp.2
      | goto t => exact leave (.goto t) W3 hp.1 hp.2
      | panic ch => exact hp.elim
      | outgrown => exact hp.elim
    · rintro e W2 ⟨⟨v, rfl⟩, (⟨L, U, ⟨hi, hu, _⟩, hl, hd⟩ | ⟨k, L, U, hk, c, hx, hl, hd⟩)⟩
      · refine ⟨none, W2.putObj (D + 1) (.loop { rec .ready none with state := .exhausted }), ?_, ?_⟩
        · have h := run_endLoop (P := P) hl (by rw [hrec]; simp)
          rw [hrec] at h ⊢
          exact h
        · have h := hdone L U _ (hIp N L U W2 (D + 1) _ (.loop { rec .ready none with state := .exhausted }) (by omega) (by omega) (by rw [hD]; exact hu) hl (hnl _ _) hi) (by rw [hD]; exact (World.putObj_heap_other (by omega)).trans hd)
          rw [hD] at h
          exact h
      · refine ⟨some c, W2.putObj (D + 1) (.loop { rec .done (some c) with state := .exhausted }), ?_, ?_⟩
        · have h := run_endLoop (P := P) hl (by rw [hrec]; simp)
          rw [hrec] at h ⊢
          exact h
        · have h := hstop c k L U _ hk (hXp c (k + 1) L U W2 (D + 1) _ (.loop { rec .done (some c) with state := .exhausted }) (by omega) (by omega) hl (hnl _ _) hx) (by rw [hD]; exact (World.putObj_heap_other (by omega)).trans hd)
          rw [hD] at h
          exact h
end Go.Proofs.Ytiaebilcgmahlaa
