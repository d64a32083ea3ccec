import Derived.Test.YtkagfjofjbpfeaaZf
import Derived.Test.YtkagfjofjbpfeaaZg
namespace Go.Proofs.Ytkagfjofjbpfeaa
open Go Go.RowKit

theorem copyT (A : Option Addr) (n c : Nat) (rows : List (List Int)) (w : World) (hn : rows.length = n) (hb : n ≤ 1048576) (hbs : ∀ i, i < rows.length → (rows.getD i []).length ≤ 1048576) (hr : Rd2 w A rows) :
    Calls Try.prog 17 #[.slice A n c] w fun e w' => ∃ A', e = .returned (.slice A' n n) ∧ Below w.heap.size w w' ∧ Obj2 31 2 w.heap.size w'.heap.size w' A' rows :=
  (toInt64SS_any A n c rows w hn hb hbs hr).mono fun _ _ ⟨he, hb, ht, hs⟩ => ⟨_, he, hb, ht.obj (Nat.le_refl _) (by omega) (fun i hi => by omega) (fun i j hi hj hne => by omega)⟩
end Go.Proofs.Ytkagfjofjbpfeaa
namespace Go.Proofs.Ytkagfjofjbpfeaa
open Go Go.RowKit

/-- The n times n table of a function. -/
def grid (n : Nat) (f : Nat → Nat → Int) : List (List Int) := (List.range n).map fun (a : Nat) => (List.range n).map fun (b : Nat) => f a b

theorem grid_length (n : Nat) (f : Nat → Nat → Int) : (grid n f).length = n := by simp [grid]
theorem grid_row (n : Nat) (f : Nat → Nat → Int) (a : Nat) (h : a < n) : (grid n f).getD a [] = (List.range n).map fun (b : Nat) => f a b := by simp [grid, h]
theorem grid_row_length (n : Nat) (f : Nat → Nat → Int) (a : Nat) (h : a < n) : ((grid n f).getD a []).length = n := by rw [grid_row n f a h]; simp
theorem grid_at (n : Nat) (f : Nat → Nat → Int) (a b : Nat) (ha : a < n) (hb : b < n) : ((grid n f).getD a []).getD b 0 = f a b := by rw [grid_row n f a ha]; simp [hb]
theorem grid_congr (n : Nat) (f g : Nat → Nat → Int) (h : ∀ a b, a < n → b < n → f a b = g a b) : grid n f = grid n g := by
  unfold grid
  refine List.map_congr_left fun a ha => List.map_congr_left fun b hb => h a b (List.mem_range.1 ha) (List.mem_range.1 hb)

/-- Block b begins with n cells, cell i holding f i. -/
def PreIs (w : World) (b : Nat) (t : TypeId) (n : Nat) (f : Nat → Value) : Prop :=
  ∃ cur : Array Value, w.heap[b]? = some (.cells cur t (0, 0)) ∧ ∀ i, i < n → cur[i]? = some (f i)

section
variable {w w' : World} {b : Nat} {t : TypeId} {n : Nat} {f h : Nat → Value}
theorem PreIs.of_row (r : w.rowIs b t n f) : PreIs w b t n f := by
  obtain ⟨cur, h1, _, h3⟩ := r
  exact ⟨cur, h1, h3⟩
theorem PreIs.lt (r : PreIs w b t n f) : b < w.heap.size := by
  obtain ⟨cur, h1, _⟩ := r
  exact (Array.getElem?_eq_some_iff.1 h1).1
theorem PreIs.cell (r : PreIs w b t n f) {i : Nat} (hi : i < n) : w.cell? ⟨b, i, none⟩ = some (f i) := by
  obtain ⟨cur, h1, h2⟩ := r
  rw [cell_of_row w b i cur t (0, 0) h1]
  exact h2 i hi
theorem PreIs.frozen (r : PreIs w b t n f) (i : Nat) : w.frozen? ⟨b, i, none⟩ = false := by
  obtain ⟨cur, h1, _⟩ := r
  simp [World.frozen?, h1]
theorem PreIs.congr (r : PreIs w b t n f) (e : ∀ i, i < n → f i = h i) : PreIs w b t n h := by
  obtain ⟨cur, h1, h2⟩ := r
  exact ⟨cur, h1, fun i hi => by rw [h2 i hi, e i hi]⟩
theorem PreIs.of_block (r : PreIs w b t n f) (e : w'.heap[b]? = w.heap[b]?) : PreIs w' b t n f := by
  obtain ⟨cur, h1, h2⟩ := r
  exact ⟨cur, e.trans h1, h2⟩
theorem PreIs.set (r : PreIs w b t n f) (i : Nat) (v : Value) : PreIs (w.setCell ⟨b, i, none⟩ v) b t n (fun j => if j = i then v else f j) := by
  obtain ⟨cur, h1, h2⟩ := r
  refine ⟨cur.setIfInBounds i v, by simp [World.setCell, Array.getElem?_modify, h1], fun j hj => ?_⟩
  have hc := h2 j hj
  rw [Array.getElem?_setIfInBounds]
  by_cases e : i = j
  · subst e
    have := (Array.getElem?_eq_some_iff.1 hc).1
    simp [this]
  · have e' : ¬ j = i := fun h => e h.symm
    simp [e, e', hc]
theorem PreIs.far (r : PreIs w b t n f) {p : Addr} (hp : b ≠ p.block) (v : Value) : PreIs (w.setCell p v) b t n f := r.of_block (Below.heap_setCell w p v b hp)
end

/-- Block g is a table of n elements, row i in block G i, its values by a function. -/
structure TabF (ts t : TypeId) (w : World) (g : Nat) (G : Nat → Nat) (n : Nat) (f : Nat → Nat → Int) : Prop where
  top : ∃ C : Nat → Nat, PreIs w g ts n (fun i => .slice (some ⟨G i, 0, none⟩) n (C i))
  row : ∀ i, i < n → PreIs w (G i) t n (fun j => .int .i64 (f i j))
  ne : ∀ i, i < n → g ≠ G i
  inj : ∀ i j, i < n → j < n → i ≠ j → G i ≠ G j

section
variable {ts t : TypeId} {w w' : World} {g : Nat} {G : Nat → Nat} {n : Nat} {f : Nat → Nat → Int}

theorem TabF.lt (h : TabF ts t w g G n f) : g < w.heap.size := by
  obtain ⟨C, r⟩ := h.top
  exact r.lt

theorem TabF.congr {f' : Nat → Nat → Int} (h : TabF ts t w g G n f) (e : ∀ a b, a < n → b < n → f a b = f' a b) : TabF ts t w g G n f' :=
  ⟨h.top, fun i hi => (h.row i hi).congr (fun j hj => by rw [e i j hi hj]), h.ne, h.inj⟩

theorem TabF.set (h : TabF ts t w g G n f) (i j : Nat) (v : Int) (hi : i < n) : TabF ts t (w.setCell ⟨G i, j, none⟩ (.int .i64 v)) g G n (fun a b => if a = i ∧ b = j then v else f a b) := by
  obtain ⟨C, r⟩ := h.top
  refine ⟨⟨C, r.far (h.ne i hi) _⟩, fun a ha => ?_, h.ne, h.inj⟩
  by_cases e : a = i
  · subst e
    refine ((h.row a ha).set j _).congr (fun b _ => ?_)
    by_cases e2 : b = j
    · subst e2; simp
    · simp [e2]
  · refine ((h.row a ha).far (h.inj a i ha hi e) _).congr (fun b _ => ?_)
    simp [e]

theorem TabF.later (h : TabF ts t w g G n f) (hb : Below w.heap.size w w') : TabF ts t w' g G n f := by
  obtain ⟨C, r⟩ := h.top
  exact ⟨⟨C, r.of_block (hb.block g r.lt)⟩, fun i hi => (h.row i hi).of_block (hb.block _ (h.row i hi).lt), h.ne, h.inj⟩

theorem TabF.far {lo hi : Nat} (h : TabF ts t w g G n f) (ht : Touch lo hi w w') (hg : g < lo ∨ hi ≤ g) (hG : ∀ i, i < n → (G i < lo ∨ hi ≤ G i)) : TabF ts t w' g G n f := by
  obtain ⟨C, r⟩ := h.top
  exact ⟨⟨C, r.of_block (ht.block g r.lt hg)⟩, fun i hi => (h.row i hi).of_block (ht.block _ (h.row i hi).lt (hG i hi)), h.ne, h.inj⟩

theorem PreIs.own {m : Nat} {xs : List Int} {b : Nat} (h : PreIs w b t m (fun j => .int .i64 (xs.getD j 0))) (hm : xs.length = m) : OwnB t w b xs := by
  obtain ⟨cur, h1, h3⟩ := h
  exact ⟨cur, h1, fun i hi => h3 i (by omega)⟩

theorem TabF.obj {lo hi : Nat} (h : TabF ts t w g G n f) (h1 : lo ≤ g) (h2 : g < hi) (h3 : ∀ i, i < n → lo ≤ G i ∧ G i < hi) : Obj2 ts t lo hi w (some ⟨g, 0, none⟩) (grid n f) := by
  obtain ⟨C, cur, c1, c3⟩ := h.top
  refine .inr ⟨g, fun i => some ⟨G i, 0, none⟩, C, rfl, h1, h2, ⟨cur, c1, fun i hi => ?_⟩, fun i hi => ?_, fun i j hi hj hne a b ha hb => ?_⟩
  · rw [grid_length] at hi
    rw [c3 i hi, grid_row_length n f i hi]
  · rw [grid_length] at hi
    refine .inr ⟨G i, rfl, (h3 i hi).1, (h3 i hi).2, PreIs.own ((h.row i hi).congr (fun j hj => by rw [grid_at n f i j hi hj])) (grid_row_length n f i hi)⟩
  · rw [grid_length] at hi hj
    cases ha
    cases hb
    exact h.inj i j hi hj hne

theorem TabF.rd (h : TabF ts t w g G n f) : Rd2 w (some ⟨g, 0, none⟩) (grid n f) := by
  have h0 := h.obj (lo := 0) (hi := w.heap.size) (Nat.zero_le _) h.lt (fun i hi => ⟨Nat.zero_le _, (h.row i hi).lt⟩)
  exact h0.rd
end

theorem Obj2.tabF {ts t : TypeId} {w : World} {lo hi n : Nat} {A : Option Addr} {rows : List (List Int)} (hne : ts ≠ t) (h : Obj2 ts t lo hi w A rows) (h1 : 1 ≤ n) (hl : rows.length = n) (hls : ∀ i, i < n → (rows.getD i []).length = n) :
    ∃ (g : Nat) (G : Nat → Nat), A = some ⟨g, 0, none⟩ ∧ lo ≤ g ∧ g < hi ∧ (∀ i, i < n → lo ≤ G i ∧ G i < hi) ∧ TabF ts t w g G n (fun a b => (rows.getD a []).getD b 0) := by
  rcases h with ⟨_, rfl⟩ | ⟨g, R, C, rfl, hlo, hhi, ⟨cur, c1, c2⟩, ho, hd⟩
  · simp at hl; omega
  · have each : ∀ i, i < n → R i = some ⟨((R i).map (·.block)).getD 0, 0, none⟩ ∧ lo ≤ ((R i).map (·.block)).getD 0 ∧ ((R i).map (·.block)).getD 0 < hi ∧ OwnB t w (((R i).map (·.block)).getD 0) (rows.getD i []) := by
      intro i hi'
      rcases ho i (by omega) with ⟨_, e⟩ | ⟨g', e, e1, e2, e3⟩
      · have := hls i hi'
        rw [e] at this
        simp at this
        omega
      · rw [e]
        exact ⟨rfl, e1, e2, e3⟩
    refine ⟨g, fun i => ((R i).map (·.block)).getD 0, rfl, hlo, hhi, fun i hi' => ⟨(each i hi').2.1, (each i hi').2.2.1⟩, ⟨C, cur, c1, fun i hi' => ?_⟩, fun i hi' => ?_, fun i hi' e => ?_, fun i j hi' hj hne' e => ?_⟩
    · rw [c2 i (by omega), hls i hi']
      exact congrArg (fun a => some (Value.slice a n (C i))) (each i hi').1
    · obtain ⟨cur', d1, d2⟩ := (each i hi').2.2.2
      exact ⟨cur', d1, fun j hj => d2 j (by rw [hls i hi']; exact hj)⟩
    · obtain ⟨cur', d1, _⟩ := (each i hi').2.2.2
      rw [← e, c1] at d1
      injection d1 with d1
      injection d1 with _ d1
      exact hne d1
    · exact hd i j (by omega) (by omega) hne' _ _ (each i hi').1 (each j hj).1 e

/-- The table with rows and columns exchanged. -/
def turnL (rows : List (List Int)) : List (List Int) := grid rows.length fun a b => (rows.getD b []).getD a 0
theorem turnL_length (rows : List (List Int)) : (turnL rows).length = rows.length := grid_length _ _

end Go.Proofs.Ytkagfjofjbpfeaa
