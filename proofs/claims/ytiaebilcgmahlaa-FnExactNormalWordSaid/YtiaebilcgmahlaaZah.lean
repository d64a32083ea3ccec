import Derived.Test.YtiaebilcgmahlaaZac
import Derived.Test.YtiaebilcgmahlaaZd
import Derived.Test.YtiaebilcgmahlaaZo
import Derived.Test.YtiaebilcgmahlaaZg
namespace Go.Proofs.Ytiaebilcgmahlaa
open Go Go.RowKit
open Classical
/-- A block that is a map. -/
def IsMapB (w : World) (b : Nat) : Prop := ∃ es clock, w.heap[b]? = some (.map es clock)
theorem MapK.isMap {K : TypeId} {w : World} {b n : Nat} {V : Value → Option Value} (h : MapK K w b n V) : IsMapB w b := by
  obtain ⟨D, ⟨es, clock, hb, _⟩, _⟩ := h
  exact ⟨es, clock, hb⟩
/-- What is a block of cells stays where only a map is written. -/
theorem off_cells {w w' : World} {b k : Nat} {cs : Array Value} {t : TypeId} {fr : Nat × Nat} (hm : IsMapB w b) (hg : w.grownBy w' (some b)) (e : w.heap[k]? = some (.cells cs t fr)) : w'.heap[k]? = some (.cells cs t fr) := by
  obtain ⟨es, clock, hb⟩ := hm
  rw [hg.block k (Array.getElem?_eq_some_iff.1 e).1 (fun e2 => by injection e2 with e2; subst e2; rw [hb] at e; cases e)]
  exact e
theorem LstV.off {ts t : TypeId} {B : Nat} {w w' : World} {v : Value} {rows : List (List Int)} {vals : List Value} {b : Nat} (h : LstV ts t B w v rows vals) (hm : IsMapB w b) (hg : w.grownBy w' (some b)) : LstV ts t B w' v rows vals := by
  refine ⟨?_, fun i hi => ?_, h.ne⟩
  · obtain ⟨h1, h2⟩ := h.own
    refine ⟨h1, ?_⟩
    rcases h2 with h2 | ⟨g, cap, cur, hv, hg', hh, r⟩
    · exact .inl h2
    · exact .inr ⟨g, cap, cur, hv, hg', off_cells hm hg hh, r⟩
  · obtain ⟨A, c, h1, h2⟩ := h.row i hi
    refine ⟨A, c, h1, ?_⟩
    rcases h2 with h2 | ⟨g, e, a, b', cur, hc, r⟩
    · exact .inl h2
    · exact .inr ⟨g, e, a, Nat.lt_of_lt_of_le b' hg.size, cur, off_cells hm hg hc, r⟩
/-- A map stays where a list of slices grows. -/
theorem MapK.off {K ts t : TypeId} {B n : Nat} {w w' : World} {v : Value} {rows : List (List Int)} {vals : List Value} {b : Nat} {V : Value → Option Value} {tmp : Obj} (h : MapK K w b n V) (hl : LstV ts t B w v rows vals) (hg : (w.alloc tmp).grownBy w' v.ownBlock) : MapK K w' b n V := by
  obtain ⟨es, clock, hb⟩ := h.isMap
  have hlt := h.lt
  refine h.of_block ?_
  have ha : (w.alloc tmp).heap[b]? = w.heap[b]? := ((Below.refl w.heap.size w).alloc (Nat.le_refl _) tmp).block b hlt
  rw [← ha]
  refine hg.block b (by simp; omega) (fun e => ?_)
  obtain ⟨_, h2⟩ := hl.own
  rcases h2 with ⟨hv, _⟩ | ⟨g, cap, cur, hv, _, hh, _⟩
  · subst hv; simp [Value.ownBlock] at e
  · subst hv
    simp [Value.ownBlock] at e
    subst e
    rw [hb] at hh
    cases hh
theorem dg_fin : ∀ a b : Fin 12, UInt8.ofNat (dg (a.val : Int)).toNat = UInt8.ofNat (dg (b.val : Int)).toNat → a = b := by decide
theorem dg_inj {x y : Int} (hx : 0 ≤ x ∧ x < 12) (hy : 0 ≤ y ∧ y < 12) (e : UInt8.ofNat (dg x).toNat = UInt8.ofNat (dg y).toNat) : x = y := by
  obtain ⟨a, rfl⟩ : ∃ a : Nat, x = (a : Int) := ⟨x.toNat, by omega⟩
  obtain ⟨b, rfl⟩ : ∃ b : Nat, y = (b : Int) := ⟨y.toNat, by omega⟩
  have h := dg_fin ⟨a, by omega⟩ ⟨b, by omega⟩ e
  injection h with h
  rw [h]
theorem dgs_inj : ∀ (p q : List Int), (∀ x ∈ p, 0 ≤ x ∧ x < 12) → (∀ x ∈ q, 0 ≤ x ∧ x < 12) → p.map (fun x => UInt8.ofNat (dg x).toNat) = q.map (fun x => UInt8.ofNat (dg x).toNat) → p = q
  | [], [], _, _, _ => rfl
  | [], y :: q, _, _, e => by simp at e
  | x :: p, [], _, _, e => by simp at e
  | x :: p, y :: q, hp, hq, e => by
    simp only [List.map_cons, List.cons.injEq] at e
    rw [dg_inj (hp x (by simp)) (hq y (by simp)) e.1, dgs_inj p q (fun z hz => hp z (by simp [hz])) (fun z hz => hq z (by simp [hz])) e.2]
theorem lineS_inj {p q : List Int} (hp : ∀ x ∈ p, 0 ≤ x ∧ x < 12) (hq : ∀ x ∈ q, 0 ≤ x ∧ x < 12) (e : lineS p = lineS q) : p = q := by
  refine dgs_inj p q hp hq ?_
  have h := congrArg (fun b : ByteArray => b.data.toList) e
  simpa [lineS, lineL, strOfNums, Function.comp_def] using h
/-- The texts of the permutations that were found. -/
noncomputable def seenV (found : List (List Int)) : Value → Option Value := fun k => if ∃ p, p ∈ found ∧ k = .string (lineS p) then some (.bool true) else none
theorem seenV_at {found : List (List Int)} {q : List Int} (hf : ∀ p, p ∈ found → ∀ x ∈ p, 0 ≤ x ∧ x < 12) (hq : ∀ x ∈ q, 0 ≤ x ∧ x < 12) : (seenV found (.string (lineS q))).getD (.bool false) = .bool (decide (q ∈ found)) := by
  unfold seenV
  by_cases h : q ∈ found
  · rw [if_pos ⟨q, h, rfl⟩]; simp [h]
  · rw [if_neg]
    · simp [h]
    · rintro ⟨p, hp, e⟩
      injection e with e
      exact h (lineS_inj hq (hf p hp) e ▸ hp)
theorem seenV_add (found : List (List Int)) (q : List Int) (k : Value) : (if k = .string (lineS q) then some (.bool true) else seenV found k) = seenV (found ++ [q]) k := by
  unfold seenV
  by_cases h : k = .string (lineS q)
  · rw [if_pos h, if_pos ⟨q, by simp, h⟩]
  · rw [if_neg h]
    by_cases h2 : ∃ p, p ∈ found ∧ k = .string (lineS p)
    · rw [if_pos h2]
      obtain ⟨p, hp, e⟩ := h2
      rw [if_pos ⟨p, by simp [hp], e⟩]
    · rw [if_neg h2, if_neg]
      rintro ⟨p, hp, e⟩
      rcases List.mem_append.1 hp with hp | hp
      · exact h2 ⟨p, hp, e⟩
      · simp at hp; subst hp; exact h e
end Go.Proofs.Ytiaebilcgmahlaa
