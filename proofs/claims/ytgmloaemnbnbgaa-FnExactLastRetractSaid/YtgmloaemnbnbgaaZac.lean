import Derived.Test.YtgmloaemnbnbgaaZe
import Derived.Test.YtgmloaemnbnbgaaZg
namespace Go.Proofs.Ytgmloaemnbnbgaa
open Go Go.RowKit
/-! Lists of solutions: in memory, and filled with numbers. -/
abbrev SolV := List (List Int) × List (List Int)
def qz (zs : List SolV) (i : Nat) : SolV := zs.getD i ([], [])
/-- All sizes are small. -/
structure QSz (zs : List SolV) : Prop where
  len : zs.length ≤ 12
  fl : ∀ i, i < zs.length → (qz zs i).1.length ≤ 12
  sl : ∀ i, i < zs.length → (qz zs i).2.length ≤ 12
  fr : ∀ i, i < zs.length → ∀ j, j < (qz zs i).1.length → ((qz zs i).1.getD j []).length ≤ 12
  sr : ∀ i, i < zs.length → ∀ j, j < (qz zs i).2.length → ((qz zs i).2.getD j []).length ≤ 12
/-- A list of solutions that can be read. -/
def RdQ (w : World) (A : Option Addr) (zs : List SolV) : Prop :=
  0 < zs.length → ∃ b o, A = some ⟨b, o, none⟩ ∧ b < w.heap.size ∧ ∀ i, i < zs.length → ∃ Ai ci Bi di, w.cell? ⟨b, o + i * 2, none⟩ = some (.slice Ai (qz zs i).1.length ci) ∧ w.cell? ⟨b, o + i * 2 + 1, none⟩ = some (.slice Bi (qz zs i).2.length di) ∧ Rd2 w Ai (qz zs i).1 ∧ Rd2 w Bi (qz zs i).2
theorem RdQ.later {w w' : World} {A : Option Addr} {zs : List SolV} (h : RdQ w A zs) (hb : Below w.heap.size w w') : RdQ w' A zs := by
  intro h0
  obtain ⟨b, o, rfl, hlt, hc⟩ := h h0
  refine ⟨b, o, rfl, Nat.lt_of_lt_of_le hlt hb.size, fun i hi => ?_⟩
  obtain ⟨Ai, ci, Bi, di, h1, h2, h3, h4⟩ := hc i hi
  exact ⟨Ai, ci, Bi, di, (hb.cell (p := ⟨b, o + i * 2, none⟩) hlt).trans h1, (hb.cell (p := ⟨b, o + i * 2 + 1, none⟩) hlt).trans h2, h3.later hb, h4.later hb⟩
/-- A list of solutions in memory of its own: the list's block, and behind it one stretch of blocks for each solution. -/
structure QW (ts t tq : TypeId) (w : World) (g : Nat) (R S : Nat → Option Addr) (C D p : Nat → Nat) (zs : List SolV) : Prop where
  blk : ∃ cur : Array Value, w.heap[g]? = some (.cells cur tq (0, 0)) ∧ ∀ i, i < zs.length → cur[i * 2]? = some (.slice (R i) (qz zs i).1.length (C i)) ∧ cur[i * 2 + 1]? = some (.slice (S i) (qz zs i).2.length (D i))
  low : g < p 0
  mono : ∀ i, i < zs.length → p i ≤ p (i + 1)
  obj : ∀ i, i < zs.length → ObjZ ts t (p i) (p (i + 1)) w (R i) (qz zs i).1 (S i) (qz zs i).2
section
variable {ts t tq : TypeId} {w w' : World} {g : Nat} {R S : Nat → Option Addr} {C D p : Nat → Nat} {zs : List SolV}
theorem QW.lt (h : QW ts t tq w g R S C D p zs) : g < w.heap.size := by
  obtain ⟨cur, h1, _⟩ := h.blk
  exact (Array.getElem?_eq_some_iff.1 h1).1
theorem QW.le (h : QW ts t tq w g R S C D p zs) {i j : Nat} (hij : i ≤ j) (hj : j ≤ zs.length) : p i ≤ p j := by
  induction j with
  | zero => rw [show i = 0 by omega]; exact Nat.le_refl _
  | succ j ih =>
    by_cases e : i = j + 1
    · rw [e]; exact Nat.le_refl _
    · exact Nat.le_trans (ih (by omega) (by omega)) (h.mono j (by omega))
theorem QW.cells (h : QW ts t tq w g R S C D p zs) {i : Nat} (hi : i < zs.length) : w.cell? ⟨g, i * 2, none⟩ = some (.slice (R i) (qz zs i).1.length (C i)) ∧ w.cell? ⟨g, i * 2 + 1, none⟩ = some (.slice (S i) (qz zs i).2.length (D i)) := by
  obtain ⟨cur, h1, h2⟩ := h.blk
  rw [cell_of_row w g _ cur tq (0, 0) h1, cell_of_row w g _ cur tq (0, 0) h1]
  exact h2 i hi
theorem QW.rd (h : QW ts t tq w g R S C D p zs) : RdQ w (some ⟨g, 0, none⟩) zs := fun _ =>
  ⟨g, 0, rfl, h.lt, fun i hi => ⟨R i, C i, S i, D i, by rw [Nat.zero_add]; exact (h.cells hi).1, by rw [Nat.zero_add]; exact (h.cells hi).2, (h.obj i hi).fst, (h.obj i hi).snd⟩⟩
theorem QW.later (h : QW ts t tq w g R S C D p zs) (hb : Below w.heap.size w w') : QW ts t tq w' g R S C D p zs := by
  obtain ⟨cur, h1, h2⟩ := h.blk
  exact ⟨⟨cur, (hb.block g h.lt).trans h1, h2⟩, h.low, h.mono, fun i hi => (h.obj i hi).later hb⟩
theorem QW.far {lo2 hi2 : Nat} (h : QW ts t tq w g R S C D p zs) (ht : Touch lo2 hi2 w w') (hd : p zs.length ≤ lo2 ∨ hi2 ≤ g) : QW ts t tq w' g R S C D p zs := by
  obtain ⟨cur, h1, h2⟩ := h.blk
  have h0 := h.le (Nat.zero_le _) (Nat.le_refl zs.length)
  have hl := h.low
  refine ⟨⟨cur, (ht.block g h.lt (by omega)).trans h1, h2⟩, h.low, h.mono, fun i hi => (h.obj i hi).far ht ?_⟩
  have h3 := h.le (Nat.zero_le i) (by omega)
  have h4 := h.le (show i + 1 ≤ zs.length by omega) (Nat.le_refl zs.length)
  omega
theorem qz_set {i j : Nat} {z : SolV} (hi : i < zs.length) : qz (zs.set i z) j = if j = i then z else qz zs j := by
  unfold qz
  by_cases e : j = i
  · subst e
    rw [if_pos rfl]
    simp [hi]
  · rw [if_neg e, List.getD_eq_getElem?_getD, List.getD_eq_getElem?_getD, List.getElem?_set_ne (fun h => e h.symm)]
/-- One solution is filled anew, the others stay. -/
theorem QW.set {i : Nat} {z : SolV} (h : QW ts t tq w g R S C D p zs) (hi : i < zs.length) (ht : Touch (p i) (p (i + 1)) w w') (h1 : z.1.length = (qz zs i).1.length) (h2 : z.2.length = (qz zs i).2.length) (hz : ObjZ ts t (p i) (p (i + 1)) w' (R i) z.1 (S i) z.2) :
    QW ts t tq w' g R S C D p (zs.set i z) := by
  obtain ⟨cur, k1, k2⟩ := h.blk
  have h0 := h.le (Nat.zero_le i) (by omega)
  have hl := h.low
  refine ⟨⟨cur, (ht.block g h.lt (by omega)).trans k1, fun j hj => ?_⟩, h.low, fun j hj => h.mono j (by simpa using hj), fun j hj => ?_⟩
  · rw [List.length_set] at hj
    rw [qz_set hi]
    by_cases e : j = i
    · subst e
      rw [if_pos rfl, h1, h2]
      exact k2 j hj
    · rw [if_neg e]; exact k2 j hj
  · rw [List.length_set] at hj
    rw [qz_set hi]
    by_cases e : j = i
    · subst e
      rw [if_pos rfl]; exact hz
    · rw [if_neg e]
      refine (h.obj j hj).far ht ?_
      rcases Nat.lt_or_ge j i with e2 | e2
      · left; exact h.le (show j + 1 ≤ i by omega) (by omega)
      · right; exact h.le (show i + 1 ≤ j by omega) (by omega)
end
/-- How many numbers the first i solutions have. -/
def tQ (zs : List SolV) : Nat → Nat
  | 0 => 0
  | i + 1 => tQ zs i + tot (qz zs i).1 + tot (qz zs i).2
/-- The solution at i, filled from where the first i solutions end. -/
def mQ (k : Int) (zs : List SolV) (i : Nat) : SolV := (marks2 (k + (tQ zs i : Int)) (qz zs i).1, marks2 (k + (tQ zs i : Int) + (tot (qz zs i).1 : Int)) (qz zs i).2)
/-- The first i solutions filled. -/
def mTo (k : Int) (zs : List SolV) : Nat → List SolV
  | 0 => zs
  | i + 1 => (mTo k zs i).set i (mQ k zs i)
theorem mTo_length (k : Int) (zs : List SolV) (i : Nat) : (mTo k zs i).length = zs.length := by
  induction i with
  | zero => rfl
  | succ i ih => unfold mTo; rw [List.length_set, ih]
theorem mTo_at (k : Int) (zs : List SolV) (i j : Nat) (hi : i ≤ zs.length) : qz (mTo k zs i) j = if j < i then mQ k zs j else qz zs j := by
  induction i with
  | zero => rw [if_neg (by omega)]; rfl
  | succ i ih =>
    unfold mTo
    rw [qz_set (by rw [mTo_length]; omega), ih (by omega)]
    by_cases e : j = i
    · subst e; rw [if_pos rfl, if_pos (by omega)]
    · rw [if_neg e]
      by_cases e2 : j < i
      · rw [if_pos e2, if_pos (by omega)]
      · rw [if_neg e2, if_neg (by omega)]
theorem tot_12 {f : List (List Int)} (h1 : f.length ≤ 12) (h2 : ∀ j, j < f.length → (f.getD j []).length ≤ 12) : tot f ≤ 144 := by
  have key : ∀ (g : List (List Int)), (∀ r ∈ g, r.length ≤ 12) → tot g ≤ g.length * 12 := by
    intro g
    induction g with
    | nil => intro _; simp [tot]
    | cons r g ih =>
      intro h
      have h3 := ih fun x hx => h x (List.mem_cons_of_mem _ hx)
      have h4 := h r (by simp)
      simp only [tot, List.map_cons, List.sum_cons, List.length_cons] at *
      omega
  have := key f (fun r hr => by
    obtain ⟨j, hj, e⟩ := List.getElem_of_mem hr
    have := h2 j hj
    simpa [hj, e] using this)
  omega
theorem tQ_le {zs : List SolV} (h : QSz zs) (i : Nat) (hi : i ≤ zs.length) : tQ zs i ≤ i * 288 := by
  induction i with
  | zero => simp [tQ]
  | succ i ih =>
    have h1 := ih (by omega)
    have h2 := tot_12 (h.fl i (by omega)) (h.fr i (by omega))
    have h3 := tot_12 (h.sl i (by omega)) (h.sr i (by omega))
    unfold tQ
    omega
end Go.Proofs.Ytgmloaemnbnbgaa
