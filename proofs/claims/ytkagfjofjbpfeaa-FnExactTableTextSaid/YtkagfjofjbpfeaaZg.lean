import Derived.Test.YtkagfjofjbpfeaaZd
namespace Go.Proofs.Ytkagfjofjbpfeaa
open Go Go.RowKit

/-- Outside the blocks from lo to hi nothing that was there has changed. -/
structure Touch (lo hi : Nat) (w w' : World) : Prop where
  os : w'.os = w.os
  tape : w'.tape = w.tape
  output : w'.output = w.output
  size : w.heap.size ≤ w'.heap.size
  block : ∀ k, k < w.heap.size → (k < lo ∨ hi ≤ k) → w'.heap[k]? = w.heap[k]?

theorem Touch.refl (lo hi : Nat) (w : World) : Touch lo hi w w := ⟨rfl, rfl, rfl, Nat.le_refl _, fun _ _ _ => rfl⟩
theorem Touch.trans {lo hi : Nat} {a b c : World} (h : Touch lo hi a b) (k : Touch lo hi b c) : Touch lo hi a c :=
  ⟨k.os.trans h.os, k.tape.trans h.tape, k.output.trans h.output, Nat.le_trans h.size k.size, fun i hi hne => (k.block i (Nat.lt_of_lt_of_le hi h.size) hne).trans (h.block i hi hne)⟩
theorem Touch.quiet {lo hi : Nat} {w w' : World} (h : Quiet w w') : Touch lo hi w w' := by
  obtain ⟨q, rfl⟩ := h
  exact ⟨rfl, rfl, rfl, Nat.le_refl _, fun _ _ _ => rfl⟩
theorem Touch.of_only {lo hi : Nat} {A : Option Addr} {w w' : World} (h : Only A w w') (hA : ∀ a, A = some a → lo ≤ a.block ∧ a.block < hi) : Touch lo hi w w' :=
  ⟨h.os, h.tape, h.output, h.size, fun k hk hne => h.block k hk (fun e => by
    cases A with
    | none => cases e
    | some a =>
      have h1 := hA a rfl
      have h2 : k = a.block := by simpa using e
      omega)⟩
theorem Touch.below {lo hi B : Nat} {a w w' : World} (h : Below B a w) (t : Touch lo hi w w') (hB : B ≤ w.heap.size) (hlo : B ≤ lo) : Below B a w' :=
  ⟨t.os.trans h.os, t.tape.trans h.tape, t.output.trans h.output, Nat.le_trans h.size t.size, fun k hk => (t.block k (by omega) (.inl (by omega))).trans (h.block k hk)⟩

/-- A slice of numbers in memory of its own, its block from lo to hi. -/
def Obj1 (t : TypeId) (lo hi : Nat) (w : World) (A : Option Addr) (xs : List Int) : Prop :=
  (A = none ∧ xs = []) ∨ ∃ g, A = some ⟨g, 0, none⟩ ∧ lo ≤ g ∧ g < hi ∧ OwnB t w g xs

section
variable {t ts : TypeId} {w w' : World} {lo hi : Nat} {A : Option Addr} {xs : List Int}

theorem Res.obj {B : Nat} (h : Res t B w A xs) : Obj1 t B w.heap.size w A xs := by
  rcases h with h | ⟨g, h1, h2, h3⟩
  · exact .inl h
  · exact .inr ⟨g, h1, h2, h3.lt, h3⟩

theorem Obj1.res {B : Nat} (h : Obj1 t lo hi w A xs) (hB : B ≤ lo) : Res t B w A xs := by
  rcases h with h | ⟨g, h1, h2, _, h3⟩
  · exact .inl h
  · exact .inr ⟨g, h1, Nat.le_trans hB h2, h3⟩

theorem Obj1.rd (h : Obj1 t lo hi w A xs) : Rd w A xs := (h.res (Nat.le_refl _)).rd

theorem Obj1.mono {lo' hi' : Nat} (h : Obj1 t lo hi w A xs) (h1 : lo' ≤ lo) (h2 : hi ≤ hi') : Obj1 t lo' hi' w A xs := by
  rcases h with h | ⟨g, e, a, b, c⟩
  · exact .inl h
  · exact .inr ⟨g, e, by omega, by omega, c⟩

theorem Obj1.later (h : Obj1 t lo hi w A xs) (hb : Below w.heap.size w w') : Obj1 t lo hi w' A xs := by
  rcases h with h | ⟨g, e, a, b, c⟩
  · exact .inl h
  · exact .inr ⟨g, e, a, b, c.later hb c.lt⟩

theorem Obj1.far {lo2 hi2 : Nat} (h : Obj1 t lo hi w A xs) (ht : Touch lo2 hi2 w w') (hd : hi ≤ lo2 ∨ hi2 ≤ lo) : Obj1 t lo hi w' A xs := by
  rcases h with h | ⟨g, e, a, b, c⟩
  · exact .inl h
  · exact .inr ⟨g, e, a, b, c.of_block (ht.block g c.lt (by omega))⟩

theorem Obj1.bounds (h : Obj1 t lo hi w A xs) : ∀ a, A = some a → lo ≤ a.block ∧ a.block < hi := by
  rintro a rfl
  rcases h with ⟨h, _⟩ | ⟨g, e, h1, h2, _⟩
  · cases h
  · cases e
    exact ⟨h1, h2⟩

/-- A slice of slices of numbers in memory of its own, all blocks from lo to hi, no two rows in one block. -/
def Obj2 (ts t : TypeId) (lo hi : Nat) (w : World) (A : Option Addr) (rows : List (List Int)) : Prop :=
  (A = none ∧ rows = []) ∨ ∃ (g : Nat) (R : Nat → Option Addr) (C : Nat → Nat), A = some ⟨g, 0, none⟩ ∧ lo ≤ g ∧ g < hi ∧
    (∃ cur : Array Value, w.heap[g]? = some (.cells cur ts (0, 0)) ∧ ∀ i, i < rows.length → cur[i]? = some (.slice (R i) (rows.getD i []).length (C i))) ∧
    (∀ i, i < rows.length → Obj1 t lo hi w (R i) (rows.getD i [])) ∧
    (∀ i j, i < rows.length → j < rows.length → i ≠ j → ∀ a b, R i = some a → R j = some b → a.block ≠ b.block)

variable {rows : List (List Int)}

theorem Obj2.rd (h : Obj2 ts t lo hi w A rows) : Rd2 w A rows := by
  intro hn
  rcases h with ⟨_, rfl⟩ | ⟨g, R, C, rfl, _, _, ⟨cur, h1, h2⟩, h3, _⟩
  · simp at hn
  · refine ⟨g, 0, rfl, (Array.getElem?_eq_some_iff.1 h1).1, fun i hi => ⟨R i, C i, ?_, (h3 i hi).rd⟩⟩
    rw [Nat.zero_add, cell_of_row w g i cur ts (0, 0) h1]
    exact h2 i hi

theorem Obj2.mono {lo' hi' : Nat} (h : Obj2 ts t lo hi w A rows) (h1 : lo' ≤ lo) (h2 : hi ≤ hi') : Obj2 ts t lo' hi' w A rows := by
  rcases h with h | ⟨g, R, C, e, a, b, c, d, f⟩
  · exact .inl h
  · exact .inr ⟨g, R, C, e, by omega, by omega, c, fun i hi => (d i hi).mono h1 h2, f⟩

theorem Obj2.later (h : Obj2 ts t lo hi w A rows) (hb : Below w.heap.size w w') : Obj2 ts t lo hi w' A rows := by
  rcases h with h | ⟨g, R, C, e, a, b, ⟨cur, c1, c2⟩, d, f⟩
  · exact .inl h
  · exact .inr ⟨g, R, C, e, a, b, ⟨cur, (hb.block g (Array.getElem?_eq_some_iff.1 c1).1).trans c1, c2⟩, fun i hi => (d i hi).later hb, f⟩

theorem Obj2.far {lo2 hi2 : Nat} (h : Obj2 ts t lo hi w A rows) (ht : Touch lo2 hi2 w w') (hd : hi ≤ lo2 ∨ hi2 ≤ lo) : Obj2 ts t lo hi w' A rows := by
  rcases h with h | ⟨g, R, C, e, a, b, ⟨cur, c1, c2⟩, d, f⟩
  · exact .inl h
  · exact .inr ⟨g, R, C, e, a, b, ⟨cur, (ht.block g (Array.getElem?_eq_some_iff.1 c1).1 (by omega)).trans c1, c2⟩, fun i hi => (d i hi).far ht hd, f⟩

theorem Tab.obj {g : Nat} {G : Nat → Nat} (h : Tab ts t w g G rows) (h1 : lo ≤ g) (h2 : g < hi) (h3 : ∀ i, i < rows.length → lo ≤ G i ∧ G i < hi) (h4 : ∀ i j, i < rows.length → j < rows.length → i ≠ j → G i ≠ G j) : Obj2 ts t lo hi w (some ⟨g, 0, none⟩) rows := by
  obtain ⟨cur, c1, _, c3⟩ := h.top
  exact .inr ⟨g, fun i => some ⟨G i, 0, none⟩, _, rfl, h1, h2, ⟨cur, c1, c3⟩, fun i hi => .inr ⟨G i, rfl, (h3 i hi).1, (h3 i hi).2, (h.row i hi).own⟩, fun i j hi hj hne a b ha hb => by
    cases ha
    cases hb
    exact h4 i j hi hj hne⟩

end

/-- Two results: a slice of n rows in new memory, and a code. -/
def TPost (ts t : TypeId) (n : Nat) (rows : List (List Int)) (code : Int) (w : World) (e : Ending) (w' : World) : Prop :=
  ∃ A c, e = .returned (.tuple #[.slice A n c, .int .i64 code]) ∧ Below w.heap.size w w' ∧ Obj2 ts t w.heap.size w'.heap.size w' A rows

/-- How many numbers the rows have. -/
def tot (rows : List (List Int)) : Nat := (rows.map List.length).sum

/-- The rows' lengths, filled with k, k + 1, .. -/
def marks2 (k : Int) : List (List Int) → List (List Int)
  | [] => []
  | r :: rest => marks k r.length :: marks2 (k + (r.length : Int)) rest

theorem marks2_length (k : Int) (rows : List (List Int)) : (marks2 k rows).length = rows.length := by
  induction rows generalizing k with
  | nil => rfl
  | cons r rest ih => simp [marks2, ih]

theorem tot_append (a b : List (List Int)) : tot (a ++ b) = tot a + tot b := by
  unfold tot
  rw [List.map_append, List.sum_append]

theorem tot_take_succ (rows : List (List Int)) (i : Nat) (h : i < rows.length) : tot (rows.take (i + 1)) = tot (rows.take i) + (rows.getD i []).length := by
  rw [List.take_succ_eq_append_getElem h, tot_append]
  simp [tot, h]

theorem tot_take_le (rows : List (List Int)) (i : Nat) : tot (rows.take i) ≤ tot rows := by
  have h := tot_append (rows.take i) (rows.drop i)
  rw [List.take_append_drop] at h
  omega

theorem tot_bound (rows : List (List Int)) (h1 : rows.length ≤ 1048576) (h2 : ∀ i, i < rows.length → (rows.getD i []).length ≤ 1048576) : tot rows ≤ 1099511627776 := by
  have h : ∀ j, j ≤ rows.length → tot (rows.take j) ≤ j * 1048576 := by
    intro j
    induction j with
    | zero => intro _; simp [tot]
    | succ j ih =>
      intro hj
      have e := tot_take_succ rows j hj
      have h3 := h2 j hj
      have h4 := ih (by omega)
      omega
  have h5 := h rows.length (Nat.le_refl _)
  rw [List.take_length] at h5
  have : rows.length * 1048576 ≤ 1048576 * 1048576 := Nat.mul_le_mul_right _ h1
  omega

theorem marks2_getD (k : Int) (rows : List (List Int)) (i : Nat) (h : i < rows.length) : (marks2 k rows).getD i [] = marks (k + (tot (rows.take i) : Int)) (rows.getD i []).length := by
  induction rows generalizing k i with
  | nil => simp at h
  | cons r rest ih =>
    cases i with
    | zero => simp [marks2, tot]
    | succ i =>
      have h' : i < rest.length := by simpa using h
      have e := ih (k + (r.length : Int)) i h'
      have e1 : (marks2 k (r :: rest)).getD (i + 1) [] = (marks2 (k + (r.length : Int)) rest).getD i [] := by simp [marks2]
      have e2 : (r :: rest).getD (i + 1) [] = rest.getD i [] := by simp
      have e3 : (tot ((r :: rest).take (i + 1)) : Int) = (r.length : Int) + (tot (rest.take i) : Int) := by simp [tot]
      rw [e1, e, e2, e3, Int.add_assoc]

end Go.Proofs.Ytkagfjofjbpfeaa
