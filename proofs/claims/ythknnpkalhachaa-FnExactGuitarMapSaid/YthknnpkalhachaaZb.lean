import Derived.Test.YthknnpkalhachaaProg
import Derived.RangeFuncCalls
import Derived.OrdersIn
import Derived.StillTailTactics
import Derived.Shelf.RegionOpen
import Derived.OwnWalkIn
namespace Go.Proofs.Ythknnpkalhachaa
open Go Go.RowKit
/-! A region without a defer statement, in a round's fence: what holds of it in any order elsewhere holds in the round. -/
variable {P : Program} {n l : Nat} {Q : Exit → Act → World → Prop}
theorem uponIn_round {o : Oper} {a : Act} {K : Act → World → Prop} {r : Result Next} (h : o.upon P a K Q r) : o.uponIn (Fence.wide.inRound l) n P a K Q r := by
  cases r with
  | ok x w' =>
    cases x <;> simp only [Oper.upon, Oper.uponIn] at h ⊢ <;>
      first
        | exact h
        | exact ⟨fun h2 => (by cases h2), CallsIn.inRound l (callsIn_wide.2 h)⟩
        | exact ⟨fun h2 => (by cases h2), fun c cs _ => by obtain ⟨v, w2, r, s⟩ := h c cs; exact ⟨v, w2, r, stepsIn_wide.2 s⟩⟩
  | halt x w' => cases x <;> simp only [Oper.upon, Oper.uponIn] at h ⊢ <;> exact h
theorem wpOpIn_round {ops : Array Oper} {i : Nat} {K : Act → World → Prop} {a : Act} {w : World} (hnd : ∀ (i : Nat) (o : Oper) (c : Call), ops[i]? = some o → o.op ≠ .defer c) (hq : ¬ LetsOut Q) (h : wpOp P ops Q i K a w) : wpOpIn (Fence.wide.inRound l) n P ops Q i K a w := by
  unfold wpOp at h
  unfold wpOpIn
  cases ho : ops[i]? with
  | none => simpa only [ho] using h
  | some o =>
    simp only [ho] at h ⊢
    by_cases hw : Region.wanted o (yielded ops a.tmps) = true
    · simp only [hw, if_true] at h ⊢
      rcases h with h | h
      · refine ⟨fun _ _ => trivial, ?_⟩
        rw [Oper.semAt_plain _ _ _ (fun c => hnd i o c ho)]
        exact uponIn_round h
      · exact absurd h.2 hq
    · simp only [hw] at h ⊢
      exact ⟨fun _ _ => trivial, h⟩
theorem wpAnyIn_round {md : Region.Mode} {ops : Array Oper} (hnd : ∀ (i : Nat) (o : Oper) (c : Call), ops[i]? = some o → o.op ≠ .defer c) (hq : ¬ LetsOut Q) : ∀ (fuel : Nat) (listed : Array Bool) (a : Act) (w : World), wpAny P md ops Q fuel listed a w → wpAnyIn (Fence.wide.inRound l) n P md ops Q fuel listed a w
  | 0, _, _, _, h => h
  | fuel + 1, _, _, _, h => ⟨h.1, fun i hi => wpOpIn_round hnd hq (wpOp_mono (fun a' w' h2 => wpAnyIn_round hnd hq fuel _ a' w' h2) (h.2 i hi))⟩
/-- Reads, then what is done in order. -/
theorem wpAny_tail {md : Region.Mode} {L : List Oper} {a : Act} {w : World} (k : Nat) (hB : Region.lexTailB md L.toArray k = true) (h : wpStill P L.toArray w (fun a' => wpList P L.toArray Q (L.drop k) a' w) (L.take k) a) : wpAny P md L.toArray Q L.toArray.size (Array.replicate L.toArray.size false) a w := by
  simp only [Region.lexTailB, Bool.and_eq_true, decide_eq_true_eq] at hB
  obtain ⟨⟨⟨⟨b1, b2⟩, b3⟩, b4⟩, b5⟩ := hB
  have c0 : k < L.length := by simpa using b2
  have c1 : (L.take k).length = k := by rw [List.length_take]; omega
  have c2 : (L.drop k).length = L.toArray.size - k := by simp
  have I0 : HeadInv md L.toArray k (Array.replicate L.toArray.size false) := ⟨by simp, fun j oj _ e => (by rw [getD_replicate_false] at e; cases e), fun t _ e => getD_in (by simpa using e) (getD_replicate_false _ _)⟩
  have g1 := wpAnyL_lex (g := L.toArray.size - k) b1 b3 b4 b2 (L.take k) 0 _ a (fun j hj => by rw [c1] at hj; simp [hj]) (by simpa using c1) I0 (by rw [c1]; exact b5) h
  have g2 := wpAny_of_head (Q' := Q) (g := L.toArray.size - k) (fun listed a' e => by
    have g := wpAny_of_seq (md := md) (Q' := Q) (L.drop k) k listed a' w (fun j => by simp [List.getElem?_drop]) (by rw [c2]; exact e.1) e.2
    rw [c2] at g
    exact g) _ _ _ g1
  rw [c1, show k + (L.toArray.size - k) = L.toArray.size by omega] at g2
  exact g2
theorem wpIn_round_tail {id : Nat} {L : List Oper} {a : Act} {w : World} (k : Nat) (hm : P.follows .mixedOrders = true) (hB : Region.lexTailB .any L.toArray k = true) (hnd : (L.all fun o => match o.op with | .defer _ => false | _ => true) = true) (hq : ¬ LetsOut Q)
    (h : wpStill P L.toArray w.drew (fun a' => wpList P L.toArray Q (L.drop k) a' w.drew) (L.take k) a) : (Code.region id L.toArray true).wpIn (Fence.wide.inRound l) n P Q a w :=
  wpIn_region_any hm (wpAnyIn_round (fun i o c ho e => by
    have h1 := List.all_eq_true.1 hnd o (List.mem_iff_getElem?.2 ⟨i, by simpa using ho⟩)
    rw [e] at h1
    cases h1) hq _ _ _ _ (wpAny_tail k hB h))
end Go.Proofs.Ythknnpkalhachaa
