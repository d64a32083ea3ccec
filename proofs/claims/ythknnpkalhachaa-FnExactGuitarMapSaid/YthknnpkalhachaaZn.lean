import Derived.Test.YthknnpkalhachaaProg
import Derived.Test.YthknnpkalhachaaZa
import Derived.Test.YthknnpkalhachaaZc
import Derived.Test.YthknnpkalhachaaZj
import Derived.Test.YthknnpkalhachaaZh
import Derived.RangeFuncNested
import Derived.RangeFuncLeaves
namespace Go.Proofs.Ythknnpkalhachaa
open Go Go.RowKit
set_option maxHeartbeats 2000000
def cmpI (x y : Int) : Int := if x < y then -1 else if y < x then 1 else 0
def cmpW (p q : List Int) : Int := if lessL p q = true then -1 else if lessL q p = true then 1 else 0
theorem isNaN_any (x : Int) (w : World) : Calls Try.prog 171 #[.int .i64 x] w fun e w' => e = .returned (.bool false) ∧ w' = w := by
  have h : (x != x) = false := by simp
  go_enter Try.func171, Try.ntmps171
  go_wp2_with fail
  go_ret
  exact ⟨by simp, rfl⟩
theorem cmpI_any (x y : Int) (w : World) : Calls Try.prog 151 #[.int .i64 x, .int .i64 y] w fun e w' => e = .returned (.int .i64 (cmpI x y)) ∧ w' = w := by
  have hr : (x < y ∧ cmpI x y = -1) ∨ (¬ x < y ∧ y < x ∧ cmpI x y = 1) ∨ (¬ x < y ∧ ¬ y < x ∧ cmpI x y = 0) := by
    unfold cmpI
    by_cases h1 : x < y
    · exact .inl ⟨h1, by simp [h1]⟩
    · by_cases h2 : y < x
      · exact .inr (.inl ⟨h1, h2, by simp [h1, h2]⟩)
      · exact .inr (.inr ⟨h1, h2, by simp [h1, h2]⟩)
  obtain ⟨r, hrr⟩ : ∃ r, cmpI x y = r := ⟨_, rfl⟩
  rw [hrr] at hr ⊢
  clear hrr
  rcases hr with ⟨h1, rfl⟩ | ⟨h1, h2, rfl⟩ | ⟨h1, h2, rfl⟩
  · go_enter Try.func151, Try.ntmps151
    go_wp2_with (go_at_call 171; refine (isNaN_any _ _).mono ?_; rintro e wd ⟨rfl, rfl⟩)
    go_ret
    exact ⟨rfl, rfl⟩
  · go_enter Try.func151, Try.ntmps151
    go_wp2_with (go_at_call 171; refine (isNaN_any _ _).mono ?_; rintro e wd ⟨rfl, rfl⟩)
    go_ret
    exact ⟨rfl, rfl⟩
  · go_enter Try.func151, Try.ntmps151
    go_wp2_with (go_at_call 171; refine (isNaN_any _ _).mono ?_; rintro e wd ⟨rfl, rfl⟩)
    go_ret
    exact ⟨rfl, rfl⟩
theorem lessL_at : ∀ (k : Nat) (p q : List Int), (∀ j, j < k → p.getD j 0 = q.getD j 0) → k < p.length → k < q.length → p.getD k 0 < q.getD k 0 → lessL p q = true
  | 0, x :: xs, y :: ys, _, _, _, h => by
    have h' : x < y := h
    have hne : ¬ x = y := by omega
    simp [lessL, hne, h']
  | k + 1, x :: xs, y :: ys, hall, h1, h2, h => by
    have e : x = y := hall 0 (by omega)
    subst e
    have := lessL_at k xs ys (fun j hj => hall (j + 1) (by omega)) (by simp at h1; omega) (by simp at h2; omega) h
    simp [lessL, this]
  | _, [], _, _, h, _, _ => by simp at h
  | _, _ :: _, [], _, _, h, _ => by simp at h
theorem cmpW_lt {k : Nat} {p q : List Int} (hall : ∀ j, j < k → p.getD j 0 = q.getD j 0) (h1 : k < p.length) (h2 : k < q.length) (h : p.getD k 0 < q.getD k 0) : cmpW p q = -1 := by
  unfold cmpW
  rw [if_pos (lessL_at k p q hall h1 h2 h)]
theorem cmpW_gt {k : Nat} {p q : List Int} (hall : ∀ j, j < k → p.getD j 0 = q.getD j 0) (h1 : k < p.length) (h2 : k < q.length) (h : q.getD k 0 < p.getD k 0) : cmpW p q = 1 := by
  have h3 := lessL_at k q p (fun j hj => (hall j hj).symm) h2 h1 h
  unfold cmpW
  rw [if_neg, if_pos h3]
  intro h4
  have h5 := lessL_trans _ _ _ h3 h4
  rw [lessL_irr] at h5
  cases h5
theorem cmpW_eq {p q : List Int} (hl : p.length = q.length) (hall : ∀ j, j < p.length → p.getD j 0 = q.getD j 0) : cmpW p q = 0 := by
  have e : p = q := by
    apply List.ext_getElem hl
    intro j h1 h2
    have := hall j h1
    simpa [h1, h2] using this
  subst e
  unfold cmpW
  rw [lessL_irr]
  simp
set_option maxRecDepth 100000 in
theorem cmpRow_any (n : Nat) (A B : Option Addr) (c d : Nat) (p q : List Int) (w : World) (hp : p.length = n) (hq : q.length = n) (hb : n ≤ 1048576) (hA : Rd w A p) (hB : Rd w B q) :
    Calls Try.prog 144 #[.slice A n c, .slice B n d] w fun e w' => e = .returned (.int .i64 (cmpW p q)) ∧ w' = w := by
  have HP := hide hp
  have HQ := hide hq
  have HA := hide hA
  have HB := hide hB
  obtain ⟨r, hr⟩ : ∃ r, cmpW p q = r := ⟨_, rfl⟩
  have HR := hide hr
  rw [hr]
  clear hp hq hA hB hr
  go_enter Try.func144, Try.ntmps144
  go_wp2_with fail
  go_loopw [11] (fun i wr => ∃ k : Nat, k ≤ n ∧ i = .int .i64 k ∧ wr = w ∧ ∀ j, j < k → p.getD j 0 = q.getD j 0) (fun i _ => n - (intOf i).toNat)
  case atStart => exact ⟨0, Nat.zero_le _, rfl, rfl, fun j hj => absurd hj (Nat.not_lt_zero _)⟩
  case round =>
    obtain ⟨k, hk, rfl, hwr, hall⟩ := hrel
    subst hwr
    have HALL := hide hall
    clear hall
    by_cases hlt : k < n
    · have hltz : (k : Int) < n := by omega
      obtain ⟨b, o, rfl, hbw, hc⟩ := HA.out (by have := HP.out; omega)
      obtain ⟨b2, o2, rfl, hbw2, hc2⟩ := HB.out (by have := HQ.out; omega)
      have h1 := hc k (by have := HP.out; omega)
      have h2 := hc2 k (by have := HQ.out; omega)
      obtain ⟨x, hx⟩ : ∃ x, p.getD k 0 = x := ⟨_, rfl⟩
      obtain ⟨y, hy⟩ : ∃ y, q.getD k 0 = y := ⟨_, rfl⟩
      rw [hx] at h1
      rw [hy] at h2
      have HX := hide hx
      have HY := hide hy
      clear hc hc2 hx hy
      go_wp2_with fail
      refine (cmpI_any x y _).mono ?_
      rintro e wd ⟨rfl, rfl⟩
      by_cases hxy : x < y
      · have e1 : cmpI x y = -1 := by unfold cmpI; simp [hxy]
        have e2 : r = -1 := by rw [← HR.out]; exact  cmpW_lt HALL.out (by have := HP.out; omega) (by have := HQ.out; omega) (by rw [HX.out, HY.out]; exact hxy)
        rw [e1]
        subst e2
        clear h1 h2
        go_wp2_with fail
        go_ret
        exact ⟨rfl, rfl⟩
      · by_cases hyx : y < x
        · have e1 : cmpI x y = 1 := by unfold cmpI; simp [hxy, hyx]
          have e2 : r = 1 := by rw [← HR.out]; exact  cmpW_gt HALL.out (by have := HP.out; omega) (by have := HQ.out; omega) (by rw [HX.out, HY.out]; exact hyx)
          rw [e1]
          subst e2
          clear h1 h2
          go_wp2_with fail
          go_ret
          exact ⟨rfl, rfl⟩
        · have e1 : cmpI x y = 0 := by unfold cmpI; simp [hxy, hyx]
          rw [e1]
          clear h1 h2
          go_wp2_with fail
          go_roundw
          case rel => exact ⟨k + 1, by omega, by go_num, trivial, fun j hj => by
            by_cases e : j = k
            · subst e; rw [HX.out, HY.out]; omega
            · exact HALL.out j (by omega)⟩
          case measure => simp [intOf]; omega
    · have hkn : k = n := by omega
      subst hkn
      have e2 : r = 0 := by rw [← HR.out]; exact cmpW_eq (by rw [HP.out, HQ.out]) (fun j hj => HALL.out j (by have := HP.out; omega))
      subst e2
      go_wp2_with fail
      go_ret
      exact ⟨rfl, rfl⟩
end Go.Proofs.Ythknnpkalhachaa
namespace Go.Proofs.Ythknnpkalhachaa
open Go Go.RowKit
/-! A range over an iterator that tells its rounds what lies in memory, and that asks of them to keep a set of blocks. -/
/-- The blocks of U are as they were. -/
def KeepU (U : Nat → Prop) (W W' : World) : Prop := W.heap.size ≤ W'.heap.size ∧ ∀ b, b < W.heap.size → U b → W'.heap[b]? = W.heap[b]?
section
variable {U U' : Nat → Prop} {W W' V : World}
theorem KeepU.refl (U : Nat → Prop) (W : World) : KeepU U W W := ⟨Nat.le_refl _, fun _ _ _ => rfl⟩
theorem KeepU.trans (h : KeepU U W W') (k : KeepU U W' V) : KeepU U W V := ⟨Nat.le_trans h.1 k.1, fun b hb hu => (k.2 b (Nat.lt_of_lt_of_le hb h.1) hu).trans (h.2 b hb hu)⟩
theorem KeepU.below (h : Below W.heap.size W W') : KeepU U W W' := ⟨h.size, fun b hb _ => h.block b hb⟩
theorem KeepU.less (h : KeepU U W W') (hs : ∀ b, U' b → U b ∨ W.heap.size ≤ b) : KeepU U' W W' := ⟨h.1, fun b hb hu => by
  rcases hs b hu with h1 | h1
  · exact h.2 b hb h1
  · omega⟩
theorem KeepU.put {l : Nat} (o : Obj) (hl : ¬ U l) : KeepU U W (W.putObj l o) := ⟨by simp, fun b _ hu => World.putObj_heap_other (fun e => hl (e ▸ hu))⟩
end
/-- Of the blocks that lay only L has turned. -/
structure StepL (L : Nat) (W W' : World) : Prop where
  os : W'.os = W.os
  tape : W'.tape = W.tape
  output : W'.output = W.output
  size : W.heap.size ≤ W'.heap.size
  same : ∀ b, b < W.heap.size → b ≠ L → W'.heap[b]? = W.heap[b]?
theorem StepL.of (L : Nat) {W W' : World} (h : Below W.heap.size W W') : StepL L W W' := ⟨h.os, h.tape, h.output, h.size, fun b hb _ => h.block b hb⟩
theorem StepL.trans {L : Nat} {W W' V : World} (h : StepL L W W') (k : StepL L W' V) : StepL L W V :=
  ⟨k.os.trans h.os, k.tape.trans h.tape, k.output.trans h.output, Nat.le_trans h.size k.size, fun b hb hn => (k.same b (Nat.lt_of_lt_of_le hb h.size) hn).trans (h.same b hb hn)⟩
theorem StepL.below {L B : Nat} {w W W' : World} (hb : Below B w W) (h : StepL L W W') (hB : B ≤ W.heap.size) (hL : B ≤ L) : Below B w W' :=
  hb.trans ⟨h.os, h.tape, h.output, h.size, fun b hb2 => h.same b (by omega) (by omega)⟩
/-- What an iterator with K + 1 elements promises: T: what each round is told; L: the one block that it writes to between rounds. -/
def IterU (P : Program) (n : Nat) (gf : FuncId) (lb : Array Value) (K : Nat) (T : Nat → Nat → Array Value → (Nat → Prop) → World → Prop) (U0 : Nat → Prop) (w0 : World) : Prop :=
  ∀ (l : Nat) (J Jx : Nat → Nat → (Nat → Prop) → World → Prop) (W : World), Below w0.heap.size w0 W →
    (∀ k L U U' W W', J k L U W → StepL L W W' → (∀ b, U' b → U b ∨ W.heap.size ≤ b) → J k L U' W') →
    (∀ k L v U W, k ≤ K → J k L U W → T k L v U W → YieldAt Fence.wide n P l v W fun e W' => (e = .returned (.bool true) ∧ J (k + 1) L U W' ∧ KeepU U W W') ∨ (e = .returned (.bool false) ∧ Jx (k + 1) L U W')) →
    (∀ L, W.heap.size ≤ L → J 0 L U0 W) →
    Calls P gf (#[.func (.yield l) #[] #[]] ++ lb) W fun e W' => (∃ v, e = .returned v) ∧ ((∃ L U, J (K + 1) L U W') ∨ (∃ k L U, k ≤ K ∧ Jx (k + 1) L U W'))
/-- The two blocks of the loop's own are as they were. -/
def KeepR (B : Nat) (W W' : World) : Prop := W.heap.size ≤ W'.heap.size ∧ ∀ b, B ≤ b → b < B + 2 → W'.heap[b]? = W.heap[b]?
/-- How a round may be left. -/
def roundU (B : Nat) (I : Nat → Nat → (Nat → Prop) → World → Prop) (Ix : Code → Nat → Nat → (Nat → Prop) → World → Prop) (k L : Nat) (U : Nat → Prop) (W : World) : Exit → Act → World → Prop
  | .normal, _, W' => KeepR B W W' ∧ KeepU U W W' ∧ I (k + 1) L U W'
  | .ret, _, W' => KeepR B W W' ∧ Ix .ret (k + 1) L U W'
  | .exit id, _, W' => KeepR B W W' ∧ Ix (.exit id) (k + 1) L U W'
  | .goto t, _, W' => KeepR B W W' ∧ Ix (.goto t) (k + 1) L U W'
  | .panic _, _, _ => False
  | .outgrown, _, _ => False
theorem hb_same {B : Nat} {W W' : World} (h : Below B W W') {b : Nat} (hb : b < B) : W'.heap[b]? = W.heap[b]? := h.block b hb
variable {P : Program} {n : Nat}
theorem wpIn_iterU {g : Operand} {ps : Array Tmp} {assign body : Code} {Q : Exit → Act → World → Prop} {a : Act} {w : World} {gf : FuncId} {lb : Array Value}
    (hg : a.eval g = .func (.func gf) #[] lb) (eg : ∀ args w, (callFunc gf args).run P w = .ok (.enter gf args) w)
    {K : Nat} {T : Nat → Nat → Array Value → (Nat → Prop) → World → Prop} {U0 : Nat → Prop} (hseq : IterU P n gf lb K T U0 w) (hps : ∀ k L v U W, T k L v U W → v.size = ps.size)
    (hT : ∀ k L v U W W', T k L v U W → KeepU U W W' → T k L v U W') (hU0 : ∀ b, U0 b → b < w.heap.size)
    (I : Nat → Nat → (Nat → Prop) → World → Prop) (Ix : Code → Nat → Nat → (Nat → Prop) → World → Prop)
    (hI : ∀ k L U U' W W', w.heap.size ≤ L → I k L U W → StepL L W W' → (∀ b, U' b → U b ∨ W.heap.size ≤ b) → I k L U' W')
    (hIp : ∀ k L U W b o o', w.heap.size ≤ b → b < w.heap.size + 2 → (∀ b, U b → b < w.heap.size ∨ w.heap.size + 2 ≤ b) → W.heap[b]? = some o → o.isCells = false → I k L U W → I k L U (W.putObj b o'))
    (hXp : ∀ c k L U W b o o', w.heap.size ≤ b → b < w.heap.size + 2 → W.heap[b]? = some o → o.isCells = false → Ix c k L U W → Ix c k L U (W.putObj b o'))
    (h0 : ∀ L, w.heap.size + 2 ≤ L → I 0 L U0 w) (Ax : Nat → Array Value → Act → World → Prop)
    (hAp : ∀ k v a' W b o o', w.heap.size ≤ b → W.heap[b]? = some o → o.isCells = false → Ax k v a' W → Ax k v a' (W.putObj b o'))
    (hassign : ∀ (l k L : Nat) (v : Array Value) (U : Nat → Prop) (W : World) (K' : Act → World → Prop), T k L v U W → w.heap.size + 2 ≤ W.heap.size → (∀ a' W', Below W.heap.size W W' → Ax k v a' W' → K' a' W') →
      assign.wpIn (Fence.wide.inRound l) n P (Exit.then K' (fun _ _ _ => False)) { tmps := (ps.zip v).foldl (fun t (p, v) => t.setIfInBounds p v) a.tmps, defers := [] } W)
    (hbody : ∀ (l k L : Nat) (v : Array Value) (U : Nat → Prop) (a' : Act) (W : World), k ≤ K → w.heap.size + 2 ≤ L → (∀ b, U b → b < w.heap.size ∨ w.heap.size + 2 ≤ b) → I k L U W → T k L v U W → Ax k v a' W → w.heap.size + 2 ≤ W.heap.size → body.wpIn (Fence.wide.inRound l) n P (roundU w.heap.size I Ix k L U W) a' W)
    (hdone : ∀ (L : Nat) (U : Nat → Prop) (W : World), I (K + 1) L U W → W.heap[w.heap.size]? = some (.deferred (some [])) → Q .normal { a with defers := { target := .collected w.heap.size, args := #[] } :: a.defers } W)
    (hstop : ∀ (c : Code) (k L : Nat) (U : Nat → Prop) (W : World), k ≤ K → Ix c (k + 1) L U W → W.heap[w.heap.size]? = some (.deferred (some [])) → c.wpIn Fence.wide n P Q { a with defers := { target := .collected w.heap.size, args := #[] } :: a.defers } W) :
    (Code.rangeFunc g ps assign body).wpIn Fence.wide n P Q a w := by
  refine wpIn_rangeFunc fun fn hfn => ?_
  obtain ⟨D, hD⟩ : ∃ D, w.heap.size = D := ⟨_, rfl⟩
  obtain ⟨rec, hrec⟩ : ∃ rec : LoopState → Option Code → Loop, rec = fun st pe => { state := st, pending := pe, fn, tmps := a.tmps, params := ps, assign, body, defers := D } := ⟨_, rfl⟩
  have hD1 : ((w.alloc (.deferred (some []))).alloc (.loop (rec .ready none))).heap[D]? = some (.deferred (some [])) := by
    rw [← hD]
    exact (Below.heap_alloc _ _ _ (by simp)).trans (World.alloc_heap_new w _)
  have hL1 : ((w.alloc (.deferred (some []))).alloc (.loop (rec .ready none))).heap[D + 1]? = some (.loop (rec .ready none)) := by
    have h := World.alloc_heap_new (w.alloc (.deferred (some []))) (.loop (rec .ready none))
    rw [World.size_alloc, hD] at h
    exact h
  have hb1 : Below w.heap.size w ((w.alloc (.deferred (some []))).alloc (.loop (rec .ready none))) := ((Below.refl _ w).alloc (Nat.le_refl _) _).alloc (by simp) _
  obtain ⟨W1, hW1⟩ : ∃ W1, (w.alloc (.deferred (some []))).alloc (.loop (rec .ready none)) = W1 := ⟨_, rfl⟩
  rw [hW1] at hD1 hL1 hb1
  have hs1 := (Array.getElem?_eq_some_iff.1 hL1).1
  have hnl : ∀ st pe, Obj.isCells (.loop (rec st pe)) = false := fun _ _ => rfl
  refine ⟨D + 1, [{ target := .collected D, args := #[] }], W1, { target := .fn (.func gf) lb, args := #[.func (.yield (D + 1)) #[] #[]] }, W1, gf, #[.func (.yield (D + 1)) #[] #[]] ++ lb, W1, ?_, ?_, fun _ _ => trivial, ?_, (fun h => by cases h), ?_⟩
  · show (Instr.enterLoop fn a.tmps ps assign body none).run P w = _
    rw [run_enterLoop_outer, hD, ← hW1, hrec]
  · simp only [resolve, hg]
    simp [go_sem]
  · simp [invoke, go_sem, eg]
  · refine callsIn_wide.2 ((hseq (D + 1) (fun k L U W => (I k L U W ∧ (∀ b, U b → b < D ∨ D + 2 ≤ b) ∧ D + 2 ≤ L) ∧ W.heap[D + 1]? = some (.loop (rec .ready none)) ∧ W.heap[D]? = some (.deferred (some [])))
      (fun k L U W => ∃ c, Ix c k L U W ∧ W.heap[D + 1]? = some (.loop (rec .done (some c))) ∧ W.heap[D]? = some (.deferred (some []))) _ hb1 ?_ ?_ (fun L hL => ⟨⟨hI 0 L U0 U0 _ _ (by omega) (h0 L (by omega)) (StepL.of L hb1) (fun _ h => .inl h), fun b hb => .inl (by have := hU0 b hb; omega), by omega⟩, hL1, hD1⟩)).mono ?_)
    · rintro k L U U' W W' ⟨⟨hi, hu, hL⟩, hl, hd⟩ hb hs
      have l1 := (Array.getElem?_eq_some_iff.1 hl).1
      refine ⟨⟨hI k L U U' W W' (by omega) hi hb hs, fun b hb2 => ?_, hL⟩, (hb.same _ l1 (by omega)).trans hl, (hb.same _ (by omega) (by omega)).trans hd⟩
      rcases hs b hb2 with h | h
      · exact hu b h
      · exact .inr (by omega)
    · rintro k L v U W hk ⟨⟨hi, hu, hL⟩, hl, hd⟩ ht
      have l1 := (Array.getElem?_eq_some_iff.1 hl).1
      have hnU : ¬ U (D + 1) := fun h => by have := hu _ h; omega
      have hu' : ∀ b, U b → b < w.heap.size ∨ w.heap.size + 2 ≤ b := by rw [hD]; exact hu
      have hy := run_yield (P := P) (args := v) hl (by rw [hrec]; exact hps k L v U W ht)
      rw [hrec] at hy
      refine ⟨fn, _, assign, body, hy, roundIn_of_wpIn hfn (hassign _ k L v U W _ ht (by omega) fun a' Wa hba hax => ?_)⟩
      have hla := (hb_same hba l1).trans hl
      have hda := (hb_same hba (by omega : D < W.heap.size)).trans hd
      have hia := hI k L U U W Wa (by omega) hi (StepL.of L hba) (fun _ h => .inl h)
      have hta := hT k L v U W Wa ht (KeepU.below hba)
      have la := (Array.getElem?_eq_some_iff.1 hla).1
      obtain ⟨W2, hW2⟩ : ∃ W2, Wa.putObj (D + 1) (.loop (rec .busy none)) = W2 := ⟨_, rfl⟩
      refine ⟨W2, ?_, ?_⟩
      · have h := run_beginRound (P := P) hla (by rw [hrec])
        rw [← hW2, hrec] at *
        exact h
      have hl2 : W2.heap[D + 1]? = some (.loop (rec .busy none)) := by rw [← hW2]; exact World.putObj_heap_same la
      have hd2 : W2.heap[D]? = some (.deferred (some [])) := by rw [← hW2]; exact (World.putObj_heap_other (by omega)).trans hda
      have hi2 : I k L U W2 := by rw [← hW2]; exact hIp k L U Wa (D + 1) _ _ (by omega) (by omega) hu' hla (hnl _ _) hia
      have hku2 : KeepU U W W2 := by rw [← hW2]; exact (KeepU.below hba).trans (KeepU.put _ hnU)
      have ht2 : T k L v U W2 := hT k L v U W W2 ht hku2
      have hax2 : Ax k v a' W2 := by rw [← hW2]; exact hAp k v a' Wa (D + 1) _ _ (by omega) hla (hnl _ _) hax
      have l2 := (Array.getElem?_eq_some_iff.1 hl2).1
      refine wpIn_mono (hbody _ k L v U a' W2 hk (by omega) hu' hi2 ht2 hax2 (by omega)) ?_
      rw [hD]
      have fin : ∀ (j : Option Code) (W3 : World), KeepR D W2 W3 → (Instr.endRound (D + 1) j).run P W3 = .ok (.bool j.isNone) (W3.putObj (D + 1) (.loop (rec (if j.isNone then .ready else .done) j))) ∧ W3.heap[D + 1]? = some (.loop (rec .busy none)) ∧ (W3.putObj (D + 1) (.loop (rec (if j.isNone then .ready else .done) j))).heap[D + 1]? = some (.loop (rec (if j.isNone then .ready else .done) j)) ∧ (W3.putObj (D + 1) (.loop (rec (if j.isNone then .ready else .done) j))).heap[D]? = some (.deferred (some [])) := fun j W3 hr => by
        have hl3 := (hr.2 (D + 1) (by omega) (by omega)).trans hl2
        have hd3 := (hr.2 D (by omega) (by omega)).trans hd2
        refine ⟨?_, hl3, World.putObj_heap_same (Array.getElem?_eq_some_iff.1 hl3).1, (World.putObj_heap_other (by omega)).trans hd3⟩
        have h := run_endRound (P := P) j hl3
        rw [hrec] at h ⊢
        exact h
      have leave : ∀ (c : Code) (W3 : World), KeepR D W2 W3 → Ix c (k + 1) L U W3 → ∃ v w', (Instr.endRound (D + 1) (some c)).run P W3 = .ok v w' ∧ (((Ending.returned v) = .returned (.bool true) ∧ ((I (k + 1) L U w' ∧ (∀ b, U b → b < D ∨ D + 2 ≤ b) ∧ D + 2 ≤ L) ∧ w'.heap[D + 1]? = some (.loop (rec .ready none)) ∧ w'.heap[D]? = some (.deferred (some []))) ∧ KeepU U W w') ∨ ((Ending.returned v) = .returned (.bool false) ∧ ∃ c, Ix c (k + 1) L U w' ∧ w'.heap[D + 1]? = some (.loop (rec .done (some c))) ∧ w'.heap[D]? = some (.deferred (some [])))) := fun c W3 hr hx => by
        obtain ⟨h1, h2, h3, h4⟩ := fin (some c) W3 hr
        exact ⟨_, _, h1, .inr ⟨rfl, c, hXp c (k + 1) L U W3 (D + 1) _ _ (by omega) (by omega) h2 (hnl _ _) hx, h3, h4⟩⟩
      rintro e a3 W3 hp
      cases e with
      | normal =>
        obtain ⟨hr, hku, hi3⟩ := hp
        obtain ⟨h1, h2, h3, h4⟩ := fin none W3 hr
        exact ⟨_, _, h1, .inl ⟨rfl, ⟨⟨hIp (k + 1) L U W3 (D + 1) _ _ (by omega) (by omega) hu' h2 (hnl _ _) hi3, hu, hL⟩, h3, h4⟩, (hku2.trans hku).trans (KeepU.put _ hnU)⟩⟩
      | ret => exact leave .ret W3 hp.1 hp.2
      | exit id => exact leave (.exit id) W3 hp.1 hp.2
      | goto t => exact leave (.goto t) W3 hp.1 hp.2
      | panic ch => exact hp.elim
      | outgrown => exact hp.elim
    · rintro e W2 ⟨⟨v, rfl⟩, (⟨L, U, ⟨hi, hu, _⟩, hl, hd⟩ | ⟨k, L, U, hk, c, hx, hl, hd⟩)⟩
      · refine ⟨none, W2.putObj (D + 1) (.loop { rec .ready none with state := .exhausted }), ?_, ?_⟩
        · have h := run_endLoop (P := P) hl (by rw [hrec]; simp)
          rw [hrec] at h ⊢
          exact h
        · have h := hdone L U _ (hIp (K + 1) L U W2 (D + 1) _ (.loop { rec .ready none with state := .exhausted }) (by omega) (by omega) (by rw [hD]; exact hu) hl (hnl _ _) hi) (by rw [hD]; exact (World.putObj_heap_other (by omega)).trans hd)
          rw [hD] at h
          exact h
      · refine ⟨some c, W2.putObj (D + 1) (.loop { rec .done (some c) with state := .exhausted }), ?_, ?_⟩
        · have h := run_endLoop (P := P) hl (by rw [hrec]; simp)
          rw [hrec] at h ⊢
          exact h
        · have h := hstop c k L U _ hk (hXp c (k + 1) L U W2 (D + 1) _ (.loop { rec .done (some c) with state := .exhausted }) (by omega) (by omega) hl (hnl _ _) hx) (by rw [hD]; exact (World.putObj_heap_other (by omega)).trans hd)
          rw [hD] at h
          exact h
end Go.Proofs.Ythknnpkalhachaa
namespace Go.Proofs.Ythknnpkalhachaa
open Go Go.RowKit
theorem gq_low {P : Program} {F : FuncId} {args : Array Value} {w : World} {v : Ending} (h : Calls P F args w fun e w' => e = v ∧ Quiet w w') : Calls P F args w fun e w' => e = v ∧ Below w.heap.size w w' := h.mono fun _ _ ⟨he, hq⟩ => ⟨he, hq.below _⟩
end Go.Proofs.Ythknnpkalhachaa
