import Derived.Test.YthkhkehpmolfaaaZb
import Derived.Test.YthkhkehpmolfaaaProg
namespace Go.Proofs.Ythkhkehpmolfaaa
open Go Go.RowKit

/-- The greatest i below k with p[i] ≤ p[i + 1]. -/
def scanI (p : List Int) : Nat → Option Nat
  | 0 => none
  | i + 1 => if p.getD (i + 1) 0 < p.getD i 0 then scanI p i else some i
/-- The greatest j of at most k with v ≤ p[j]. -/
def scanJ (p : List Int) (v : Int) : Nat → Nat
  | 0 => 0
  | j + 1 => if p.getD (j + 1) 0 < v then scanJ p v j else j + 1
/-- The list behind the exchange, its end reversed. -/
def advAt (p : List Int) (i j : Nat) : List Int :=
  ((p.set i (p.getD j 0)).set j (p.getD i 0)).take (i + 1) ++ (((p.set i (p.getD j 0)).set j (p.getD i 0)).drop (i + 1)).reverse
/-- The next permutation in lexicographic order. -/
def adv (p : List Int) : Option (List Int) :=
  match scanI p (p.length - 1) with
  | none => none
  | some i => some (advAt p i (scanJ p (p.getD i 0) (p.length - 1)))

theorem advAt_length (p : List Int) (i j : Nat) : (advAt p i j).length = p.length := by
  unfold advAt
  simp
  omega

theorem scanI_some (p : List Int) (k i : Nat) (h : scanI p k = some i) : i < k ∧ ¬ p.getD (i + 1) 0 < p.getD i 0 := by
  induction k with
  | zero => cases h
  | succ k ih =>
    unfold scanI at h
    split at h
    · have := ih h
      exact ⟨by omega, this.2⟩
    · injection h with h
      subst h
      exact ⟨by omega, by assumption⟩

/-- Between the rounds of a reversal: k at both ends are exchanged. -/
def revTo (p : List Int) (s : Nat) : Nat → List Int
  | 0 => p
  | k + 1 => ((revTo p s k).set (s + k) ((revTo p s k).getD (p.length - 1 - k) 0)).set (p.length - 1 - k) ((revTo p s k).getD (s + k) 0)
theorem revTo_length (p : List Int) (s k : Nat) : (revTo p s k).length = p.length := by
  induction k with
  | zero => rfl
  | succ k ih => simp [revTo, ih]

theorem revTo_at (p : List Int) (s k i : Nat) (hk : s + k + k ≤ p.length) : (revTo p s k)[i]? = if s ≤ i ∧ i < p.length ∧ (i < s + k ∨ p.length - k ≤ i) then p[s + p.length - 1 - i]? else p[i]? := by
  induction k generalizing i with
  | zero =>
    unfold revTo
    split
    · omega
    · rfl
  | succ k ih =>
    have hk' : s + k + k ≤ p.length := by omega
    have hl := revTo_length p s k
    have e1 : (revTo p s k).getD (p.length - 1 - k) 0 = p.getD (p.length - 1 - k) 0 := by
      rw [List.getD_eq_getElem?_getD, ih _ hk', if_neg (by omega), List.getD_eq_getElem?_getD]
    have e2 : (revTo p s k).getD (s + k) 0 = p.getD (s + k) 0 := by
      rw [List.getD_eq_getElem?_getD, ih _ hk', if_neg (by omega), List.getD_eq_getElem?_getD]
    unfold revTo
    rw [List.getElem?_set, List.getElem?_set, e1, e2, List.length_set, hl]
    by_cases h1 : p.length - 1 - k = i
    · subst h1
      rw [if_pos rfl, if_pos (by omega), if_pos (by omega)]
      have e : s + p.length - 1 - (p.length - 1 - k) = s + k := by omega
      rw [e]
      have hlt : s + k < p.length := by omega
      simp [hlt]
    · rw [if_neg h1]
      by_cases h2 : s + k = i
      · subst h2
        rw [if_pos rfl, if_pos (by omega), if_pos (by omega)]
        have e : s + p.length - 1 - (s + k) = p.length - 1 - k := by omega
        rw [e]
        have hlt : p.length - 1 - k < p.length := by omega
        simp [hlt]
      · rw [if_neg h2, ih i hk']
        by_cases h3 : s ≤ i ∧ i < p.length ∧ (i < s + k ∨ p.length - k ≤ i)
        · rw [if_pos h3, if_pos (by omega)]
        · rw [if_neg h3, if_neg (by omega)]

/-- .. and when the middle is reached the end is reversed. -/
theorem revTo_done (p : List Int) (s k : Nat) (hs : s ≤ p.length) (hk : s + k + k ≤ p.length) (hk2 : p.length ≤ s + k + k + 1) : revTo p s k = p.take s ++ (p.drop s).reverse := by
  apply List.ext_getElem?
  intro i
  rw [revTo_at p s k i hk]
  by_cases h0 : i < s
  · rw [if_neg (by omega), List.getElem?_append_left (by simp; omega), List.getElem?_take, if_pos h0]
  · rw [List.getElem?_append_right (by simp; omega)]
    have e : (p.take s).length = s := by simp; omega
    rw [e]
    by_cases h1 : i < p.length
    · rw [List.getElem?_reverse (by simp; omega), List.getElem?_drop]
      have e2 : s + ((p.drop s).length - 1 - (i - s)) = s + p.length - 1 - i := by simp; omega
      rw [e2]
      by_cases h2 : s ≤ i ∧ i < p.length ∧ (i < s + k ∨ p.length - k ≤ i)
      · rw [if_pos h2]
      · rw [if_neg h2]
        have e3 : s + p.length - 1 - i = i := by omega
        rw [e3]
    · rw [if_neg (by omega), List.getElem?_eq_none (by omega), List.getElem?_eq_none (by simp; omega)]
end Go.Proofs.Ythkhkehpmolfaaa
namespace Go.Proofs.Ythkhkehpmolfaaa
open Go Go.RowKit

theorem clInfo : (Try.prog.info? 2).map (fun i => (i.zero, i.size, i.bytes)) = some (some (.int .i64 0), 1, 8) := by kernel_rfl
theorem cl_empty (w : World) (t : TypeId) : (w.alloc (.cells #[] t)).ownsRow w.heap.size t 1 (.slice (some ⟨w.heap.size, 0, none⟩) 0 0) 0 [] :=
  ⟨by simp, .inr ⟨w.heap.size, 0, #[], rfl, Nat.le_refl _, heap_alloc_new _ _, Nat.le_refl _, by unfold maxLen; omega, by simp, by simp⟩⟩

theorem cl_cells {w : World} {b o : Nat} {xs : List Int} {obj : Obj} (hc : ∀ i, i < xs.length → w.cell? ⟨b, o + i, none⟩ = some (.int .i64 (xs.getD i 0))) (hb : b < w.heap.size) : ∀ j u, (ints xs)[j]? = some u → (w.alloc obj).cell? ((⟨b, o, none⟩ : Addr).add j) = some u := by
  intro j u hj
  have hl : j < xs.length := by
    have := (List.getElem?_eq_some_iff.1 hj).1
    rw [ints_length] at this
    exact this
  have e : (⟨b, o, none⟩ : Addr).add j = ⟨b, o + j, none⟩ := by
    unfold Addr.add
    by_cases h : j = 0
    · subst h; simp
    · simp [h]
  rw [e, World.cell?_alloc_lt w _ _ hb, hc j hl, ← hj]
  simp [ints, hl]
end Go.Proofs.Ythkhkehpmolfaaa
