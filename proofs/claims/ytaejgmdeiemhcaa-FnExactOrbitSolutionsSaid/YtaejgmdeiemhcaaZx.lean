import Derived.Test.YtaejgmdeiemhcaaZb
namespace Go.Proofs.Ytaejgmdeiemhcaa
open Go Go.RowKit

/-- Two neighbours exchanged: those at q and q - 1. -/
def swp (ys : List Int) (q : Nat) : List Int := (ys.set q (ys.getD (q - 1) 0)).set (q - 1) (ys.getD q 0)
theorem swp_length (ys : List Int) (q : Nat) : (swp ys q).length = ys.length := by simp [swp]
theorem swp_at (ys : List Int) (q i : Nat) (hq : q < ys.length) (h0 : 0 < q) (hi : i < ys.length) : (swp ys q).getD i 0 = if i = q - 1 then ys.getD q 0 else if i = q then ys.getD (q - 1) 0 else ys.getD i 0 := by
  obtain ⟨u, hu⟩ : ∃ u, ys.getD (q - 1) 0 = u := ⟨_, rfl⟩
  obtain ⟨v, hv⟩ : ∃ v, ys.getD q 0 = v := ⟨_, rfl⟩
  unfold swp
  rw [hu, hv, List.getD_eq_getElem?_getD, List.getElem?_set, List.getElem?_set]
  by_cases h1 : q - 1 = i
  · have h1' : i = q - 1 := by omega
    rw [if_pos h1, if_pos h1', if_pos (by simp; omega)]
    rfl
  · have h1' : ¬ i = q - 1 := by omega
    rw [if_neg h1, if_neg h1']
    by_cases h2 : q = i
    · have h2' : i = q := by omega
      rw [if_pos h2, if_pos h2', if_pos hq]
      rfl
    · have h2' : ¬ i = q := by omega
      rw [if_neg h2, if_neg h2', List.getD_eq_getElem?_getD]
theorem swp_perm (ys : List Int) (q : Nat) (hq : q < ys.length) (h0 : 0 < q) : (swp ys q).Perm ys := by
  have h := List.set_set_perm (i := q) (j := q - 1) hq (by omega)
  have e1 : ys.getD q 0 = ys[q] := by simp [hq]
  have e2 : ys.getD (q - 1) 0 = ys[q - 1]'(by omega) := by
    have : q - 1 < ys.length := by omega
    simp [this]
  unfold swp
  rw [e1, e2]
  exact h

/-- The first k are in order. -/
def upTo (ys : List Int) (k : Nat) : Prop := ∀ a b, a < b → b < k → ys.getD a 0 ≤ ys.getD b 0
/-- The first k + 1 are in order, but for the one at q, which is less than those behind it. -/
structure midS (ys : List Int) (k q : Nat) : Prop where
  rest : ∀ a b, a < b → b ≤ k → a ≠ q → b ≠ q → ys.getD a 0 ≤ ys.getD b 0
  less : ∀ b, q < b → b ≤ k → ys.getD q 0 ≤ ys.getD b 0
theorem midS.start {ys : List Int} {k : Nat} (h : upTo ys k) : midS ys k k := ⟨fun a b hab hb _ hne => h a b hab (by omega), fun b h1 h2 => by omega⟩
theorem midS.step {ys : List Int} {k q : Nat} (h : midS ys k q) (hq : q ≤ k) (h0 : 0 < q) (hk : k < ys.length) (hl : ys.getD q 0 < ys.getD (q - 1) 0) : midS (swp ys q) k (q - 1) := by
  refine ⟨fun a b hab hb ha hbn => ?_, fun b hqb hb => ?_⟩
  · rw [swp_at ys q a (by omega) h0 (by omega), swp_at ys q b (by omega) h0 (by omega), if_neg ha, if_neg hbn]
    by_cases h1 : a = q
    · rw [if_pos h1, if_neg (by omega)]
      exact h.rest (q - 1) b (by omega) hb (by omega) (by omega)
    · rw [if_neg h1]
      by_cases h2 : b = q
      · rw [if_pos h2]
        exact h.rest a (q - 1) (by omega) (by omega) h1 (by omega)
      · rw [if_neg h2]
        exact h.rest a b hab hb h1 h2
  · rw [swp_at ys q (q - 1) (by omega) h0 (by omega), swp_at ys q b (by omega) h0 (by omega), if_pos rfl, if_neg (by omega)]
    by_cases h2 : b = q
    · rw [if_pos h2]; omega
    · rw [if_neg h2]
      exact h.less b (by omega) hb
theorem midS.done {ys : List Int} {k q : Nat} (h : midS ys k q) (hq : q ≤ k) (hs : q = 0 ∨ ¬ ys.getD q 0 < ys.getD (q - 1) 0) : upTo ys (k + 1) := by
  intro a b hab hb
  by_cases h1 : a = q
  · subst h1; exact h.less b hab (by omega)
  · by_cases h2 : b = q
    · subst h2
      rcases hs with hs | hs
      · omega
      · by_cases h3 : a = b - 1
        · subst h3; omega
        · have := h.rest a (b - 1) (by omega) (by omega) h1 (by omega)
          omega
    · exact h.rest a b hab (by omega) h1 h2
/-- In order, all of them. -/
def Sorted (ys : List Int) : Prop := upTo ys ys.length
theorem Sorted.tail {x : Int} {xs : List Int} (h : Sorted (x :: xs)) : Sorted xs := by
  intro a b hab hb
  have := h (a + 1) (b + 1) (by omega) (by simpa using hb)
  simpa using this
theorem Sorted.head {x : Int} {xs : List Int} (h : Sorted (x :: xs)) : ∀ y ∈ xs, x ≤ y := by
  intro y hy
  obtain ⟨j, hj, e⟩ := List.getElem_of_mem hy
  have := h 0 (j + 1) (by omega) (by simpa using hj)
  simpa [hj, e] using this
theorem sorted_eq : ∀ (xs ys : List Int), xs.Perm ys → Sorted xs → Sorted ys → xs = ys := by
  intro xs
  induction xs with
  | nil => intro ys h _ _; exact (List.nil_perm.1 h).symm
  | cons x xs ih =>
    intro ys h hx hy
    cases ys with
    | nil => exact absurd h.length_eq (by simp)
    | cons y ys =>
      have e : x = y := by
        have h1 : x ∈ y :: ys := h.mem_iff.1 (by simp)
        have h2 : y ∈ x :: xs := h.mem_iff.2 (by simp)
        have l1 : y ≤ x := by
          rcases List.mem_cons.1 h1 with e | e
          · omega
          · exact hy.head x e
        have l2 : x ≤ y := by
          rcases List.mem_cons.1 h2 with e | e
          · omega
          · exact hx.head y e
        omega
      subst e
      rw [ih ys (List.Perm.cons_inv h) hx.tail hy.tail]
end Go.Proofs.Ytaejgmdeiemhcaa
