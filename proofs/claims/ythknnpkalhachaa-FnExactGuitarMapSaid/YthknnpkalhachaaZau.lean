import Derived.Test.YthknnpkalhachaaZas
import Derived.Test.YthknnpkalhachaaZj
import Derived.Test.YthknnpkalhachaaZag
import Derived.Test.YthknnpkalhachaaZc
import Derived.Test.YthknnpkalhachaaZu
import Derived.Test.YthknnpkalhachaaZm
import Derived.Deep.AppendLies
namespace Go.Proofs.Ythknnpkalhachaa
open Go Go.RowKit
/-! Moves of tuples by a bijection of pairs: what is reached by them, and a search for it. -/
theorem text_getD {xs ys : List Int} (hl : xs.length = ys.length) (h : ∀ j, j < xs.length → xs.getD j 0 = ys.getD j 0) : xs = ys := by
  refine List.ext_getElem hl fun i h1 h2 => ?_
  have := h i h1
  simpa [h1, h2] using this
/-- h leads pairs of elements of a set of n, and b leads them back. -/
structure PB (n : Nat) (h1 h2 b1 b2 : Nat → Nat → Int) : Prop where
  h1r : ∀ x y, x < n → y < n → 0 ≤ h1 x y ∧ h1 x y < (n : Int)
  h2r : ∀ x y, x < n → y < n → 0 ≤ h2 x y ∧ h2 x y < (n : Int)
  b1r : ∀ x y, x < n → y < n → 0 ≤ b1 x y ∧ b1 x y < (n : Int)
  b2r : ∀ x y, x < n → y < n → 0 ≤ b2 x y ∧ b2 x y < (n : Int)
  hb1 : ∀ x y, x < n → y < n → h1 (b1 x y).toNat (b2 x y).toNat = (x : Int)
  hb2 : ∀ x y, x < n → y < n → h2 (b1 x y).toNat (b2 x y).toNat = (y : Int)
  bh1 : ∀ x y, x < n → y < n → b1 (h1 x y).toNat (h2 x y).toNat = (x : Int)
  bh2 : ∀ x y, x < n → y < n → b2 (h1 x y).toNat (h2 x y).toNat = (y : Int)
section
variable {n : Nat} {h1 h2 b1 b2 : Nat → Nat → Int}
theorem PB.swap (h : PB n h1 h2 b1 b2) : PB n b1 b2 h1 h2 := ⟨h.b1r, h.b2r, h.h1r, h.h2r, h.bh1, h.bh2, h.hb1, h.hb2⟩
theorem mvL_at (xs : List Int) (k j : Nat) (hk : k + 1 < xs.length) : (mvL h1 h2 xs k).getD j 0 = if j = k + 1 then h2 (elN xs k) (elN xs (k + 1)) else if j = k then h1 (elN xs k) (elN xs (k + 1)) else xs.getD j 0 := by
  unfold mvL
  simp only [List.getD_eq_getElem?_getD, List.getElem?_set, List.length_set]
  by_cases e1 : j = k + 1
  · subst e1
    simp [hk]
  · rw [if_neg (Ne.symm e1), if_neg e1]
    by_cases e2 : j = k
    · subst e2
      have : j < xs.length := by omega
      simp [this]
    · rw [if_neg (Ne.symm e2), if_neg e2]
theorem mvL_tup (h : PB n h1 h2 b1 b2) {xs : List Int} (ht : Tup n xs) {k : Nat} (hk : k + 1 < xs.length) : Tup n (mvL h1 h2 xs k) := by
  have hx := (ht.el (j := k) (by omega)).2
  have hy := (ht.el (j := k + 1) hk).2
  refine ⟨by rw [mvL_length]; exact ht.1, fun j hj => ?_⟩
  rw [mvL_length] at hj
  rw [mvL_at xs k j hk]
  by_cases e1 : j = k + 1
  · rw [if_pos e1]; exact h.h2r _ _ hx hy
  · rw [if_neg e1]
    by_cases e2 : j = k
    · rw [if_pos e2]; exact h.h1r _ _ hx hy
    · rw [if_neg e2]; exact ht.2 j hj
theorem mvL_back (h : PB n h1 h2 b1 b2) {xs : List Int} (ht : Tup n xs) {k : Nat} (hk : k + 1 < xs.length) : mvL b1 b2 (mvL h1 h2 xs k) k = xs := by
  have ex := ht.el (j := k) (by omega)
  have ey := ht.el (j := k + 1) hk
  have hk2 : k + 1 < (mvL h1 h2 xs k).length := by rw [mvL_length]; exact hk
  have e1 : elN (mvL h1 h2 xs k) k = (h1 (elN xs k) (elN xs (k + 1))).toNat := by
    unfold elN
    rw [mvL_at xs k k hk, if_neg (by omega), if_pos rfl]
    rfl
  have e2 : elN (mvL h1 h2 xs k) (k + 1) = (h2 (elN xs k) (elN xs (k + 1))).toNat := by
    have h9 := mvL_at (h1 := h1) (h2 := h2) xs k (k + 1) hk
    rw [if_pos rfl] at h9
    show ((mvL h1 h2 xs k).getD (k + 1) 0).toNat = _
    rw [h9]
  refine text_getD (by rw [mvL_length, mvL_length]) fun j hj => ?_
  rw [mvL_at _ k j hk2, e1, e2, h.bh1 _ _ ex.2 ey.2, h.bh2 _ _ ex.2 ey.2, ← ex.1, ← ey.1]
  by_cases c1 : j = k + 1
  · rw [if_pos c1, c1]
  · rw [if_neg c1]
    by_cases c2 : j = k
    · rw [if_pos c2, c2]
    · rw [if_neg c2, mvL_at xs k j hk, if_neg c1, if_neg c2]
theorem mvL_inj (h : PB n h1 h2 b1 b2) {xs ys : List Int} (hx : Tup n xs) (hy : Tup n ys) {k : Nat} (hk : k + 1 < xs.length) (hk2 : k + 1 < ys.length) (e : mvL h1 h2 xs k = mvL h1 h2 ys k) : xs = ys := by
  rw [← mvL_back h hx hk, e, mvL_back h hy hk2]
/-- Moves lead from x to it. -/
inductive Tch (h1 h2 : Nat → Nat → Int) (x : List Int) : List Int → Prop
  | refl : Tch h1 h2 x x
  | step {y : List Int} {k : Nat} : Tch h1 h2 x y → k + 1 < x.length → Tch h1 h2 x (mvL h1 h2 y k)
theorem Tch.len {x y : List Int} (h : Tch h1 h2 x y) : y.length = x.length := by
  induction h with
  | refl => rfl
  | step _ _ ih => rw [mvL_length]; exact ih
theorem Tch.tup {x y : List Int} (hp : PB n h1 h2 b1 b2) (ht : Tup n x) (h : Tch h1 h2 x y) : Tup n y := by
  induction h with
  | refl => exact ht
  | step h9 hk ih => exact mvL_tup hp ih (by rw [h9.len]; exact hk)
theorem Tch.trans {x y z : List Int} (h : Tch h1 h2 x y) (k : Tch h1 h2 y z) : Tch h1 h2 x z := by
  induction k with
  | refl => exact h
  | step _ hk ih => exact .step ih (by rw [← h.len]; exact hk)
/-- All tuples. -/
def allT (n : Nat) : Nat → List (List Int)
  | 0 => [[]]
  | m + 1 => (allT n m).flatMap fun t => (List.range n).map fun v : Nat => (v : Int) :: t
theorem allT_mem {n : Nat} : ∀ (xs : List Int), (∀ v ∈ xs, 0 ≤ v ∧ v < (n : Int)) → xs ∈ allT n xs.length
  | [], _ => by simp [allT]
  | x :: xs, h => by
    have hx := h x (by simp)
    refine List.mem_flatMap.2 ⟨xs, allT_mem xs (fun v hv => h v (by simp [hv])), List.mem_map.2 ⟨x.toNat, List.mem_range.2 (by omega), ?_⟩⟩
    have : ((x.toNat : Nat) : Int) = x := by omega
    rw [this]
theorem Tup.mem {xs : List Int} (h : Tup n xs) : ∀ v ∈ xs, 0 ≤ v ∧ v < (n : Int) := fun v hv => by
  obtain ⟨i, hi, e⟩ := List.getElem_of_mem hv
  have := h.2 i hi
  rw [← e]
  simpa [hi] using this
theorem tdedup_ex {α : Type} [DecidableEq α] : ∀ l : List α, ∃ m : List α, m.Nodup ∧ ∀ x, x ∈ m ↔ x ∈ l
  | [] => ⟨[], by simp, fun _ => Iff.rfl⟩
  | a :: l => by
    obtain ⟨m, h, k⟩ := tdedup_ex l
    by_cases e : a ∈ m
    · refine ⟨m, h, fun x => ⟨fun hx => List.mem_cons_of_mem _ ((k x).1 hx), fun hx => ?_⟩⟩
      rcases List.mem_cons.1 hx with rfl | hx
      · exact e
      · exact (k x).2 hx
    · refine ⟨a :: m, List.nodup_cons.2 ⟨e, h⟩, fun x => ?_⟩
      rw [List.mem_cons, List.mem_cons, k x]
theorem tnodup_le {α : Type} [DecidableEq α] {l m : List α} (h : l.Nodup) (hs : ∀ a ∈ l, a ∈ m) : l.length ≤ m.length := by
  obtain ⟨k, hk⟩ := subset_perm l m h hs
  have := hk.length_eq
  simp at this
  omega
/-- A list of all that is reached, each once. -/
def Cls (h1 h2 : Nat → Nat → Int) (x : List Int) (L : List (List Int)) : Prop := L.Nodup ∧ ∀ y, y ∈ L ↔ Tch h1 h2 x y
open Classical in
theorem Cls.ex (hp : PB n h1 h2 b1 b2) {x : List Int} (ht : Tup n x) : ∃ L, Cls h1 h2 x L := by
  obtain ⟨L, h, k⟩ := tdedup_ex ((allT n x.length).filter fun y => decide (Tch h1 h2 x y))
  refine ⟨L, h, fun y => ?_⟩
  rw [k, List.mem_filter]
  refine ⟨fun hy => of_decide_eq_true hy.2, fun hy => ⟨?_, decide_eq_true hy⟩⟩
  rw [← hy.len]
  exact allT_mem y (hy.tup hp ht).mem
theorem Tch.back (hp : PB n h1 h2 b1 b2) {x y : List Int} (ht : Tup n x) (h : Tch h1 h2 x y) {k : Nat} (hk : k + 1 < x.length) : Tch h1 h2 x (mvL b1 b2 y k) := by
  obtain ⟨L, hn, hm⟩ := Cls.ex hp ht
  have hnd : (L.map fun z => mvL h1 h2 z k).Nodup := by
    rw [List.nodup_iff_pairwise_ne, List.pairwise_map]
    refine List.Pairwise.imp_of_mem ?_ (List.nodup_iff_pairwise_ne.1 hn)
    intro a b ha hb hab e
    have ra := (hm a).1 ha
    have rb := (hm b).1 hb
    exact hab (mvL_inj hp (ra.tup hp ht) (rb.tup hp ht) (by rw [ra.len]; exact hk) (by rw [rb.len]; exact hk) e)
  obtain ⟨l, hl⟩ := subset_perm _ L hnd (fun a ha => by
    obtain ⟨z, hz, rfl⟩ := List.mem_map.1 ha
    exact (hm _).2 (.step ((hm z).1 hz) hk))
  have hll := hl.length_eq
  simp at hll
  subst hll
  have hy := hl.mem_iff.1 ((hm y).2 h)
  rw [List.append_nil] at hy
  obtain ⟨z, hz, rfl⟩ := List.mem_map.1 hy
  have rz := (hm z).1 hz
  rw [mvL_back hp (rz.tup hp ht) (by rw [rz.len]; exact hk)]
  exact rz
theorem Tch.symm (hp : PB n h1 h2 b1 b2) {x y : List Int} (ht : Tup n x) (h : Tch h1 h2 x y) : Tch h1 h2 y x := by
  induction h with
  | refl => exact .refl
  | @step y k h9 hk ih =>
    have hty := h9.tup hp ht
    have hky : k + 1 < y.length := by rw [h9.len]; exact hk
    have h1' := Tch.back hp (x := mvL h1 h2 y k) (y := mvL h1 h2 y k) (mvL_tup hp hty hky) .refl (k := k) (by rw [mvL_length]; exact hky)
    rw [mvL_back hp hty hky] at h1'
    exact h1'.trans ih
theorem Cls.len {x : List Int} {L L' : List (List Int)} (h : Cls h1 h2 x L) (h' : Cls h1 h2 x L') : L.length = L'.length :=
  Nat.le_antisymm (tnodup_le h.1 fun a ha => (h'.2 a).2 ((h.2 a).1 ha)) (tnodup_le h'.1 fun a ha => (h.2 a).2 ((h'.2 a).1 ha))
/-- At most M are reached. -/
def FewT (h1 h2 : Nat → Nat → Int) (x : List Int) (M : Nat) : Prop := ∃ L, Cls h1 h2 x L ∧ L.length ≤ M
theorem not_few {x y : List Int} {found : List (List Int)} {M : Nat} (hd : found.Nodup) (hg : ∀ y, y ∈ found → Tch h1 h2 x y) (hy : Tch h1 h2 x y) (hn : y ∉ found) (hM : M ≤ found.length) : ¬ FewT h1 h2 x M := by
  rintro ⟨L, hL, hl⟩
  have := tnodup_le (l := y :: found) (m := L) (List.nodup_cons.2 ⟨hn, hd⟩) (fun a ha => by
    rcases List.mem_cons.1 ha with rfl | ha
    · exact (hL.2 _).2 hy
    · exact (hL.2 _).2 (hg _ ha))
  simp at this
  omega
theorem not_few2 {x : List Int} {found : List (List Int)} {M : Nat} (hd : found.Nodup) (hg : ∀ y, y ∈ found → Tch h1 h2 x y) (hM : M < found.length) : ¬ FewT h1 h2 x M := by
  rintro ⟨L, hL, hl⟩
  have := tnodup_le hd (fun a ha => (hL.2 a).2 (hg a ha))
  omega
theorem Cls.not_few {x : List Int} {L : List (List Int)} {M : Nat} (h : Cls h1 h2 x L) (hM : M < L.length) : ¬ FewT h1 h2 x M := not_few2 h.1 (fun y hy => (h.2 y).1 hy) hM
/-- How a search with a heap of what is still to be done stands: t has been taken from it, and its first k moves are done. -/
structure Stk (h1 h2 : Nat → Nat → Int) (x : List Int) (found todo : List (List Int)) (t : List Int) (k : Nat) : Prop where
  nd : found.Nodup
  rch : ∀ y, y ∈ found → Tch h1 h2 x y
  start : x ∈ found
  sub : ∀ y, y ∈ todo → y ∈ found
  tin : t ∈ found
  few : todo.length ≤ found.length
  done : ∀ y, y ∈ found → y ∉ todo → y ≠ t → ∀ j, j + 1 < x.length → mvL h1 h2 y j ∈ found
  part : ∀ j, j < k → mvL h1 h2 t j ∈ found
/-- The same between two of them. -/
structure Stk0 (h1 h2 : Nat → Nat → Int) (x : List Int) (found todo : List (List Int)) : Prop where
  nd : found.Nodup
  rch : ∀ y, y ∈ found → Tch h1 h2 x y
  start : x ∈ found
  sub : ∀ y, y ∈ todo → y ∈ found
  few : todo.length ≤ found.length
  done : ∀ y, y ∈ found → y ∉ todo → ∀ j, j + 1 < x.length → mvL h1 h2 y j ∈ found
theorem Stk0.begin (x : List Int) : Stk0 h1 h2 x [x] [x] where
  nd := by simp
  rch := fun y hy => by simp at hy; subst hy; exact .refl
  start := by simp
  sub := fun y hy => hy
  few := Nat.le_refl _
  done := fun y hy hn => absurd hy hn
theorem Stk0.take {x t : List Int} {found todo : List (List Int)} (h : Stk0 h1 h2 x found (todo ++ [t])) : Stk h1 h2 x found todo t 0 where
  nd := h.nd
  rch := h.rch
  start := h.start
  sub := fun y hy => h.sub y (by simp [hy])
  tin := h.sub t (by simp)
  few := by have := h.few; simp at this; omega
  done := fun y hy hn hne j hj => h.done y hy (by simp [hn, hne]) j hj
  part := fun j hj => by omega
theorem Stk.keep {x t : List Int} {found todo : List (List Int)} {k : Nat} (h : Stk h1 h2 x found todo t k) (hm : mvL h1 h2 t k ∈ found) : Stk h1 h2 x found todo t (k + 1) :=
  ⟨h.nd, h.rch, h.start, h.sub, h.tin, h.few, h.done, fun j hj => by
    by_cases e : j = k
    · rw [e]; exact hm
    · exact h.part j (by omega)⟩
theorem Stk.push {x t : List Int} {found todo : List (List Int)} {k : Nat} (h : Stk h1 h2 x found todo t k) (hk : k + 1 < x.length) (hn : mvL h1 h2 t k ∉ found) : Stk h1 h2 x (found ++ [mvL h1 h2 t k]) (todo ++ [mvL h1 h2 t k]) t (k + 1) where
  nd := List.nodup_append.2 ⟨h.nd, by simp, fun a ha b hb e => by simp at hb; subst hb; subst e; exact hn ha⟩
  rch := fun y hy => by
    rcases List.mem_append.1 hy with hy | hy
    · exact h.rch y hy
    · simp at hy; subst hy; exact .step (h.rch _ h.tin) hk
  start := List.mem_append.2 (.inl h.start)
  sub := fun y hy => by
    rcases List.mem_append.1 hy with hy | hy
    · exact List.mem_append.2 (.inl (h.sub y hy))
    · exact List.mem_append.2 (.inr hy)
  tin := List.mem_append.2 (.inl h.tin)
  few := by have := h.few; simp; omega
  done := fun y hy hny hne j hj => by
    rcases List.mem_append.1 hy with hy | hy
    · exact List.mem_append.2 (.inl (h.done y hy (fun e => hny (List.mem_append.2 (.inl e))) hne j hj))
    · exact absurd (List.mem_append.2 (.inr hy)) hny
  part := fun j hj => by
    by_cases e : j = k
    · rw [e]; exact List.mem_append.2 (.inr (by simp))
    · exact List.mem_append.2 (.inl (h.part j (by omega)))
theorem Stk.next {x t : List Int} {found todo : List (List Int)} {k : Nat} (h : Stk h1 h2 x found todo t k) (hk : x.length ≤ k + 1) : Stk0 h1 h2 x found todo :=
  ⟨h.nd, h.rch, h.start, h.sub, h.few, fun y hy hn j hj => by
    by_cases e : y = t
    · rw [e]; exact h.part j (by omega)
    · exact h.done y hy hn e j hj⟩
theorem Stk0.fin {x : List Int} {found : List (List Int)} (h : Stk0 h1 h2 x found []) : Cls h1 h2 x found :=
  ⟨h.nd, fun y => ⟨h.rch y, fun hy => by
    induction hy with
    | refl => exact h.start
    | step _ hk ih => exact h.done _ ih (by simp) _ hk⟩⟩
/-- How a search with a queue stands: the first i that were found are done. -/
structure Que (h1 h2 : Nat → Nat → Int) (x : List Int) (found : List (List Int)) (i k : Nat) : Prop where
  nd : found.Nodup
  rch : ∀ y, y ∈ found → Tch h1 h2 x y
  start : x ∈ found
  done : ∀ a, a < i → ∀ j, j + 1 < x.length → mvL h1 h2 (found.getD a []) j ∈ found
  part : ∀ j, j < k → mvL h1 h2 (found.getD i []) j ∈ found
theorem Que.begin (x : List Int) : Que h1 h2 x [x] 0 0 where
  nd := by simp
  rch := fun y hy => by simp at hy; subst hy; exact .refl
  start := by simp
  done := fun a ha => by omega
  part := fun j hj => by omega
theorem tgetD_mem {α : Type} (l : List α) (i : Nat) (d : α) (h : i < l.length) : l.getD i d ∈ l := by simp [h]
theorem tgetD_app {α : Type} (l : List α) (v : α) (i : Nat) (d : α) (h : i < l.length) : (l ++ [v]).getD i d = l.getD i d := by
  simp only [List.getD_eq_getElem?_getD]
  rw [List.getElem?_append_left h]
/-- Something that is reached is put at the end. -/
theorem Que.add {x y : List Int} {found : List (List Int)} {i k : Nat} (h : Que h1 h2 x found i k) (hi : i < found.length) (hy : Tch h1 h2 x y) (hn : y ∉ found) : Que h1 h2 x (found ++ [y]) i k where
  nd := List.nodup_append.2 ⟨h.nd, by simp, fun a ha b hb e => by simp at hb; subst hb; subst e; exact hn ha⟩
  rch := fun z hz => by
    rcases List.mem_append.1 hz with hz | hz
    · exact h.rch z hz
    · simp at hz; subst hz; exact hy
  start := List.mem_append.2 (.inl h.start)
  done := fun a ha j hj => by rw [tgetD_app _ _ _ _ (by omega)]; exact List.mem_append.2 (.inl (h.done a ha j hj))
  part := fun j hj => by rw [tgetD_app _ _ _ _ hi]; exact List.mem_append.2 (.inl (h.part j hj))
theorem Que.keep {x : List Int} {found : List (List Int)} {i k : Nat} (h : Que h1 h2 x found i k) (hm : mvL h1 h2 (found.getD i []) k ∈ found) : Que h1 h2 x found i (k + 1) :=
  ⟨h.nd, h.rch, h.start, h.done, fun j hj => by
    by_cases e : j = k
    · rw [e]; exact hm
    · exact h.part j (by omega)⟩
theorem Que.next {x : List Int} {found : List (List Int)} {i k : Nat} (h : Que h1 h2 x found i k) (hk : x.length ≤ k + 1) : Que h1 h2 x found (i + 1) 0 :=
  ⟨h.nd, h.rch, h.start, fun a ha j hj => by
    by_cases e : a = i
    · rw [e]; exact h.part j (by omega)
    · exact h.done a (by omega) j hj, fun j hj => by omega⟩
theorem Que.fin {x : List Int} {found : List (List Int)} {k : Nat} (h : Que h1 h2 x found found.length k) : Cls h1 h2 x found :=
  ⟨h.nd, fun y => ⟨h.rch y, fun hy => by
    induction hy with
    | refl => exact h.start
    | @step z j _ hk ih =>
      obtain ⟨a, ha, e⟩ := List.getElem_of_mem ih
      have h9 := h.done a ha j hk
      have e9 : found.getD a [] = z := by rw [← e]; simp [ha]
      rw [e9] at h9
      exact h9⟩⟩
theorem Que.at {x : List Int} {found : List (List Int)} {i k : Nat} (h : Que h1 h2 x found i k) (hi : i < found.length) : Tch h1 h2 x (found.getD i []) := h.rch _ (tgetD_mem _ _ _ hi)
end
/-- A solution is such a bijection. -/
theorem SolF.pb {f s : List (List Int)} {n : Nat} (h : SolF f s) (hn : f.length = n) : PB n (leH f) (leH s) (bk1 f s n) (bk2 f s n) := by
  have hp := h.1
  have hc := h.2.1
  rw [hn] at hc
  have hs : s.length = n := by rw [← hp.2.2]; exact hn
  have hbk : ∀ x y, x < n → y < n → bk f s n x y / n < n ∧ bk f s n x y % n < n := fun x y hx hy => by
    have hk := (bk_spec hp hn hc hx hy).1
    exact ⟨Nat.div_lt_of_lt_mul hk, Nat.mod_lt _ (by omega)⟩
  have hled : ∀ x y, x < n → y < n → ledK f s n (x * n + y) = (ap f x y, ap s x y) := fun x y hx hy => by
    unfold ledK
    rw [pair_div n x y hy, pair_mod n x y hy]
  have hfb : ∀ x y, x < n → y < n → bk f s n (ap f x y) (ap s x y) = x * n + y := fun x y hx hy => bk_led hc (pair_lt n x y hx hy) (hled x y hx hy)
  refine ⟨fun x y hx hy => ?_, fun x y hx hy => ?_, fun x y hx hy => ?_, fun x y hx hy => ?_, fun x y hx hy => ?_, fun x y hx hy => ?_, fun x y hx hy => ?_, fun x y hx hy => ?_⟩
  · have := hp.1.ap_lt hn hx hy; unfold leH; omega
  · have := hp.2.1.ap_lt hs hx hy; unfold leH; omega
  · have h9 := (hbk x y hx hy).1; exact ⟨Int.natCast_nonneg _, by unfold bk1; exact_mod_cast h9⟩
  · have h9 := (hbk x y hx hy).2; exact ⟨Int.natCast_nonneg _, by unfold bk2; exact_mod_cast h9⟩
  · have h9 := (bk_spec hp hn hc hx hy).2
    have e := congrArg Prod.fst h9
    have e2 : ap f (bk f s n x y / n) (bk f s n x y % n) = x := e
    unfold leH bk1 bk2
    simp only [Int.toNat_natCast]
    rw [e2]
  · have h9 := (bk_spec hp hn hc hx hy).2
    have e := congrArg Prod.snd h9
    have e2 : ap s (bk f s n x y / n) (bk f s n x y % n) = y := e
    unfold leH bk1 bk2
    simp only [Int.toNat_natCast]
    rw [e2]
  · unfold leH bk1
    simp only [Int.toNat_natCast]
    rw [hfb x y hx hy, pair_div n x y hy]
  · unfold leH bk2
    simp only [Int.toNat_natCast]
    rw [hfb x y hx hy, pair_mod n x y hy]
end Go.Proofs.Ythknnpkalhachaa
namespace Go.Proofs.Ythknnpkalhachaa
open Go Go.RowKit
set_option maxHeartbeats 4000000

set_option maxRecDepth 100000 in
theorem gmS_any (A : Option Addr) (n c : Nat) (f : List (List Int)) (B : Option Addr) (k d : Nat) (s : List (List Int)) (C : Option Addr) (m e : Nat) (xs : List Int) (zs : List Int) (code : Int) (kz : Nat) (w : World) (hz : ZArg 1048576 w A n f B k s) (hm : xs.length = m) (hb : m ≤ 1048576) (hr : Rd w C xs) (hres : GmRes f s xs zs code) (hkz : zs.length = kz) :
    Calls Try.prog 38 #[.agg #[.slice A n c, .slice B k d], .slice C m e] w fun e w' => ∃ A' c', e = .returned (.tuple #[.slice A' kz c', .int .i64 code]) ∧ Below w.heap.size w w' ∧ Res 2 w.heap.size w' A' zs := by
  have HZ := hide hz
  have HM := hide hm
  have HR := hide hr
  have HB0 := hide ((Below.refl _ w).alloc (Nat.le_refl _) (Obj.cells #[Value.slice A n c, Value.slice B k d] 27))
  have HK0 := hide (Blk.new w 27 [.slice A n c, .slice B k d])
  obtain ⟨hgc, hcase⟩ := hres
  have HGC := hide hgc
  rcases hcase with ⟨rfl, rfl⟩ | ⟨hc0, rfl⟩
  · obtain ⟨hs, htp, hnon⟩ : SolF f s ∧ Tup f.length xs ∧ NonF f s := by
      rcases hgc with ⟨h1, h2, h3, _⟩ | ⟨_, _, _, h⟩ | ⟨_, _, h⟩ | ⟨_, h⟩
      · exact ⟨h1, h2, h3⟩
      · omega
      · omega
      · omega
    have HP : Hid (PMap f s) := hide hs.1
    have HPM : Hid (AllPrm f) := hide hnon.1
    obtain rfl := (hz.same hs.1).symm
    have HN := hide hz.sz.fl
    have h12 := (hz.small hs.1).2
    rw [hz.sz.fl] at htp
    have HTP := hide htp
    have hm12 : m ≤ 12 := by rw [← hm]; exact htp.1
    obtain rfl : kz = m := by rw [← hkz]; unfold gmA; rw [gmL_length, hm]
    obtain ⟨b1, o1, hA, hbw, hcc⟩ := HP.out.1.cells hz.fst HN.out
    obtain ⟨_, _, hA', _, hcr⟩ := rd_rows HP.out.1 hz.fst HN.out
    subst hA
    injection hA' with hA'
    injection hA' with e1 e2
    subst e1
    subst e2
    have HC := hide hcc
    have HCR := hide hcr
    obtain ⟨i0, hi, hz0, hz1, hz2⟩ := info_parts neInfo
    clear hz hm hr hgc hs htp hnon hkz hcc hcr
    go_enter Try.func38, Try.ntmps38
    have k0 := HK0.out.cell 0 _ rfl
    have k1 := HK0.out.cell 1 _ rfl
    go_wp2_with fail
    clear k0 k1
    refine (guCodeS_any _ B C n c n d kz e f s xs 0 _ (HZ.out.later HB0.out) HM.out hb (HR.out.later HB0.out) HGC.out).mono ?_
    rintro e w1 ⟨rfl, hb1⟩
    have HB1 := hide (HB0.out.trans (hb1.mono HB0.out.size))
    have HK1 := hide (HK0.out.later hb1)
    clear hb1
    go_wp2_with fail
    go_loopw [7, 8] (fun v i wr => ∃ (k : Nat) (A' : Option Addr) (c' : Nat), k ≤ kz ∧ i = .int .i64 k ∧ v = .slice A' k c' ∧ Below w1.heap.size w1 wr ∧ w1.heap.size < wr.heap.size ∧ wr.ownsRow w1.heap.size 2 1 v k (ints (gmL f xs k))) (fun _ i _ => kz - (intOf i).toNat)
    case atStart => exact ⟨0, _, _, Nat.zero_le _, rfl, rfl, (Below.refl _ _).alloc (Nat.le_refl _) _, by simp, by simpa [ints, gmL] using ne_empty w1 _⟩
    case round =>
      obtain ⟨k, Ao, co, hk, rfl, rfl, hbe, hsz, hoe⟩ := hrel
      have HBr := hide hbe
      have HOr := hide hoe
      clear hbe hoe
      have HBW := hide (HB1.out.trans (HBr.out.mono HB1.out.size))
      by_cases hlt : k < kz
      · have hkx : k < xs.length := by have := HM.out; omega
        have hkz : (k : Int) < kz := by omega
        obtain ⟨bt, ot, hCt, hbt, hct⟩ := HR.out (by omega)
        have t1 := (HBW.out.cell (p := ⟨bt, ot + k, none⟩) hbt).trans (hct k hkx)
        have hel := HTP.out.el hkx
        rw [hel.1] at t1
        have HCT := hide hct
        subst hCt
        clear hct
        go_wp2_with fail
        clear t1
        obtain ⟨wo, rfl⟩ : ∃ wo : World, wo = wr := ⟨_, rfl⟩
        go_loopw [9, 10] (fun v i wi => ∃ t : Nat, t ≤ k ∧ i = .int .i64 ((k : Int) - 1 - t) ∧ v = .int .i64 ((gmIn f xs k (elN xs k) t : Nat) : Int) ∧ Below wo.heap.size wo wi) (fun _ i _ => (intOf i + 1).toNat)
        case atStart => exact ⟨0, Nat.zero_le _, by simp, rfl, Below.refl _ _⟩
        case round =>
          obtain ⟨t, ht, rfl, rfl, hbi⟩ := hrel
          have HBI := hide hbi
          clear hbi
          by_cases hltt : t < k
          · obtain ⟨j, hj⟩ : ∃ j : Nat, j + 1 + t = k := ⟨k - 1 - t, by omega⟩
            have hjz : (k : Int) - 1 - t = (j : Int) := by omega
            have hjm : (j : Int) < kz := by omega
            have hj1 : IntKind.i64.wrap ((j : Int) - 1) = (j : Int) - 1 := IntWalk.i64_in _ (by omega)
            have hjn : (j : Int) - 1 = (k : Int) - 1 - ((t + 1 : Nat) : Int) := by omega
            have hel2 := HTP.out.el (j := j) (by omega)
            have hcur := gmIn_lt HP.out.1 HN.out HTP.out hkx t (by omega)
            have hsv : gmIn f xs k (elN xs k) (t + 1) = ap f (elN xs j) (gmIn f xs k (elN xs k) t) := by
              have e : k - 1 - t = j := by omega
              show ap f (elN xs (k - 1 - t)) _ = _
              rw [e]
            have t2 := (((HBW.out.trans (HBI.out.mono HBW.out.size))).cell (p := ⟨bt, ot + j, none⟩) hbt).trans (HCT.out j (by omega))
            rw [hel2.1] at t2
            have hn1 := hel2.2
            obtain ⟨b, hbe⟩ : ∃ b, elN xs j = b := ⟨_, rfl⟩
            rw [hbe] at hn1 hsv t2
            obtain ⟨u, hue⟩ : ∃ u, gmIn f xs k (elN xs k) t = u := ⟨_, rfl⟩
            rw [hue] at hcur hsv ⊢
            obtain ⟨v, hve⟩ : ∃ v, ap f b u = v := ⟨_, rfl⟩
            rw [hve] at hsv
            obtain ⟨bx, ox, cx, q1, q2, q3⟩ := HC.out b hn1
            have q4 := q3 u hcur
            rw [hve] at q4
            replace q1 := ((HBW.out.trans (HBI.out.mono HBW.out.size)).cell (p := ⟨b1, o1 + b, none⟩) hbw).trans q1
            replace q4 := ((HBW.out.trans (HBI.out.mono HBW.out.size)).cell (p := ⟨bx, ox + u, none⟩) q2).trans q4
            have HSV := hide hsv
            have hbz : (b : Int) < n := by omega
            have huz : (u : Int) < n := by omega
            have k0 := ((HK1.out.later HBr.out).later HBI.out).cell 0 _ rfl
            rw [hjz]
            clear hbe hue hve q3
            go_wp2_with fail
            go_quiet (fail)
            clear k0 q1 q4 t2
            go_wp2_with fail
            go_roundw
            case rel => exact ⟨t + 1, by omega, by first | rw [← hjn, hj1] | (congr 1 <;> omega), by rw [HSV.out], by first | exact HBI.out | exact HBI.out.drew | exact bdrewN HBI.out _⟩
            case measure => simp [intOf]; omega
          · have htk : t = k := by omega
            subst htk
            have hm1 : (t : Int) - 1 - t = -1 := by omega
            rw [hm1]
            have HOI := hide (ownsRow_below HOr.out HBI.out)
            have hsI : w1.heap.size < wr.heap.size := by have := HBI.out.size; omega
            have HBX := hide (HBr.out.trans (HBI.out.mono HBr.out.size))
            go_wp2_with (at_builtin; refine wpList_append_own _ rfl _ _ 43 rfl w1.heap.size 2 i0 (.int .i64 0) 1 8 Try.underlying43 hi hz0 hz1 hz2 rfl (by decide) _ _ _ rfl (HOI.out.alloc _) ⟨wr.heap.size, 0, none⟩ 1 1 [.int .i64 (gmIn f xs t (elN xs t) t : Nat)] rfl rfl ?c1 ?c2 ?c3 ?c4 ?c5 ?_)
            try (case c1 => exact ne_new)
            try (case c2 => first | rfl | (intro u hu; simp at hu; subst hu; rfl))
            try (case c3 => first | omega | (unfold maxLen; omega))
            try (case c4 => omega)
            try (case c5 => first | omega | (simp; omega))
            intro v' w3 hown' hgrow _
            obtain ⟨gg, cap, hv'⟩ := own_form hown'
            subst hv'
            have HO3 := hide hown'
            have HB3 : Hid (Below w1.heap.size w1 w3) := hide ((HBX.out.alloc HBX.out.size _).grown hgrow (by simp; omega) (fun g hg => ((HOI.out.alloc (.cells #[.int .i64 (gmIn f xs t (elN xs t) t : Nat)] 2)).lt g hg).1))
            have hs3 : w1.heap.size < w3.heap.size := by have := hgrow.size; simp at this; omega
            clear hown' hgrow
            go_wp2_with fail
            go_roundw
            case rel => exact ⟨t + 1, _, _, by omega, by go_num, rfl, HB3.out, hs3, by have h := HO3.out; rw [← ints_snoc, ← gmL_succ] at h; exact h⟩
            case measure => simp [intOf]; omega
      · have hkn : k = kz := by omega
        subst hkn
        have h := HOr.out
        go_wp2_with fail
        go_ret2
        obtain ⟨A2, c2, hv, hres⟩ := own_shape h
        injection hv with e1 e2 e3
        subst e1
        subst e3
        exact ⟨_, _, rfl, HBW.out, by have h2 := hres.mono (B' := w.heap.size) HB1.out.size; unfold gmA; rw [HM.out]; exact h2⟩
  · obtain rfl : kz = 0 := by rw [← hkz]; rfl
    clear hz hm hr hgc hkz
    have hcz : (code != (0 : Int)) = true := by simp [hc0]
    go_enter Try.func38, Try.ntmps38
    have k0 := HK0.out.cell 0 _ rfl
    have k1 := HK0.out.cell 1 _ rfl
    go_wp2_with fail
    clear k0 k1
    refine (guCodeS_any A B C n c k d m e f s xs code _ (HZ.out.later HB0.out) HM.out hb (HR.out.later HB0.out) HGC.out).mono ?_
    rintro e w1 ⟨rfl, hb1⟩
    have HB1 := hide (HB0.out.trans (hb1.mono HB0.out.size))
    clear hb1
    go_wp2_with fail
    go_ret2
    exact ⟨_, _, rfl, HB1.out, .inl ⟨rfl, rfl⟩⟩
end Go.Proofs.Ythknnpkalhachaa
