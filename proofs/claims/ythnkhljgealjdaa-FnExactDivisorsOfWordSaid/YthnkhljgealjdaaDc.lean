import Derived.Test.YthnkhljgealjdaaDa
import Derived.Test.YthnkhljgealjdaaDb
import Derived.Test.YthnkhljgealjdaaProg
namespace Go.Proofs.Ythnkhljgealjdaa
open Go Go.RowKit

/-- The n times n table of a function. -/
def grid (n : Nat) (f : Nat → Nat → Int) : List (List Int) := (List.range n).map fun (a : Nat) => (List.range n).map fun (b : Nat) => f a b

theorem grid_length (n : Nat) (f : Nat → Nat → Int) : (grid n f).length = n := by simp [grid]
theorem grid_row (n : Nat) (f : Nat → Nat → Int) (a : Nat) (h : a < n) : (grid n f).getD a [] = (List.range n).map fun (b : Nat) => f a b := by simp [grid, h]
theorem grid_row_length (n : Nat) (f : Nat → Nat → Int) (a : Nat) (h : a < n) : ((grid n f).getD a []).length = n := by rw [grid_row n f a h]; simp
theorem grid_at (n : Nat) (f : Nat → Nat → Int) (a b : Nat) (ha : a < n) (hb : b < n) : ((grid n f).getD a []).getD b 0 = f a b := by rw [grid_row n f a ha]; simp [hb]
theorem grid_congr (n : Nat) (f g : Nat → Nat → Int) (h : ∀ a b, a < n → b < n → f a b = g a b) : grid n f = grid n g := by
  unfold grid
  refine List.map_congr_left fun a ha => List.map_congr_left fun b hb => h a b (List.mem_range.1 ha) (List.mem_range.1 hb)

/-- Block b begins with n cells, cell i holding f i. -/
def PreIs (w : World) (b : Nat) (t : TypeId) (n : Nat) (f : Nat → Value) : Prop :=
  ∃ cur : Array Value, w.heap[b]? = some (.cells cur t (0, 0)) ∧ ∀ i, i < n → cur[i]? = some (f i)

section
variable {w w' : World} {b : Nat} {t : TypeId} {n : Nat} {f h : Nat → Value}
theorem PreIs.of_row (r : w.rowIs b t n f) : PreIs w b t n f := by
  obtain ⟨cur, h1, _, h3⟩ := r
  exact ⟨cur, h1, h3⟩
theorem PreIs.lt (r : PreIs w b t n f) : b < w.heap.size := by
  obtain ⟨cur, h1, _⟩ := r
  exact (Array.getElem?_eq_some_iff.1 h1).1
theorem PreIs.cell (r : PreIs w b t n f) {i : Nat} (hi : i < n) : w.cell? ⟨b, i, none⟩ = some (f i) := by
  obtain ⟨cur, h1, h2⟩ := r
  rw [cell_of_row w b i cur t (0, 0) h1]
  exact h2 i hi
theorem PreIs.frozen (r : PreIs w b t n f) (i : Nat) : w.frozen? ⟨b, i, none⟩ = false := by
  obtain ⟨cur, h1, _⟩ := r
  simp [World.frozen?, h1]
theorem PreIs.congr (r : PreIs w b t n f) (e : ∀ i, i < n → f i = h i) : PreIs w b t n h := by
  obtain ⟨cur, h1, h2⟩ := r
  exact ⟨cur, h1, fun i hi => by rw [h2 i hi, e i hi]⟩
theorem PreIs.of_block (r : PreIs w b t n f) (e : w'.heap[b]? = w.heap[b]?) : PreIs w' b t n f := by
  obtain ⟨cur, h1, h2⟩ := r
  exact ⟨cur, e.trans h1, h2⟩
theorem PreIs.set (r : PreIs w b t n f) (i : Nat) (v : Value) : PreIs (w.setCell ⟨b, i, none⟩ v) b t n (fun j => if j = i then v else f j) := by
  obtain ⟨cur, h1, h2⟩ := r
  refine ⟨cur.setIfInBounds i v, by simp [World.setCell, Array.getElem?_modify, h1], fun j hj => ?_⟩
  have hc := h2 j hj
  rw [Array.getElem?_setIfInBounds]
  by_cases e : i = j
  · subst e
    have := (Array.getElem?_eq_some_iff.1 hc).1
    simp [this]
  · have e' : ¬ j = i := fun h => e h.symm
    simp [e, e', hc]
theorem PreIs.far (r : PreIs w b t n f) {p : Addr} (hp : b ≠ p.block) (v : Value) : PreIs (w.setCell p v) b t n f := r.of_block (Below.heap_setCell w p v b hp)
end

/-- Block g is a table of n elements, row i in block G i, its values by a function. -/
structure TabF (ts t : TypeId) (w : World) (g : Nat) (G : Nat → Nat) (n : Nat) (f : Nat → Nat → Int) : Prop where
  top : ∃ C : Nat → Nat, PreIs w g ts n (fun i => .slice (some ⟨G i, 0, none⟩) n (C i))
  row : ∀ i, i < n → PreIs w (G i) t n (fun j => .int .i64 (f i j))
  ne : ∀ i, i < n → g ≠ G i
  inj : ∀ i j, i < n → j < n → i ≠ j → G i ≠ G j

section
variable {ts t : TypeId} {w w' : World} {g : Nat} {G : Nat → Nat} {n : Nat} {f : Nat → Nat → Int}

theorem TabF.lt (h : TabF ts t w g G n f) : g < w.heap.size := by
  obtain ⟨C, r⟩ := h.top
  exact r.lt

theorem TabF.congr {f' : Nat → Nat → Int} (h : TabF ts t w g G n f) (e : ∀ a b, a < n → b < n → f a b = f' a b) : TabF ts t w g G n f' :=
  ⟨h.top, fun i hi => (h.row i hi).congr (fun j hj => by rw [e i j hi hj]), h.ne, h.inj⟩

theorem TabF.set (h : TabF ts t w g G n f) (i j : Nat) (v : Int) (hi : i < n) : TabF ts t (w.setCell ⟨G i, j, none⟩ (.int .i64 v)) g G n (fun a b => if a = i ∧ b = j then v else f a b) := by
  obtain ⟨C, r⟩ := h.top
  refine ⟨⟨C, r.far (h.ne i hi) _⟩, fun a ha => ?_, h.ne, h.inj⟩
  by_cases e : a = i
  · subst e
    refine ((h.row a ha).set j _).congr (fun b _ => ?_)
    by_cases e2 : b = j
    · subst e2; simp
    · simp [e2]
  · refine ((h.row a ha).far (h.inj a i ha hi e) _).congr (fun b _ => ?_)
    simp [e]

theorem TabF.later (h : TabF ts t w g G n f) (hb : Below w.heap.size w w') : TabF ts t w' g G n f := by
  obtain ⟨C, r⟩ := h.top
  exact ⟨⟨C, r.of_block (hb.block g r.lt)⟩, fun i hi => (h.row i hi).of_block (hb.block _ (h.row i hi).lt), h.ne, h.inj⟩

theorem TabF.far {lo hi : Nat} (h : TabF ts t w g G n f) (ht : Touch lo hi w w') (hg : g < lo ∨ hi ≤ g) (hG : ∀ i, i < n → (G i < lo ∨ hi ≤ G i)) : TabF ts t w' g G n f := by
  obtain ⟨C, r⟩ := h.top
  exact ⟨⟨C, r.of_block (ht.block g r.lt hg)⟩, fun i hi => (h.row i hi).of_block (ht.block _ (h.row i hi).lt (hG i hi)), h.ne, h.inj⟩

theorem PreIs.own {m : Nat} {xs : List Int} {b : Nat} (h : PreIs w b t m (fun j => .int .i64 (xs.getD j 0))) (hm : xs.length = m) : OwnB t w b xs := by
  obtain ⟨cur, h1, h3⟩ := h
  exact ⟨cur, h1, fun i hi => h3 i (by omega)⟩

theorem TabF.obj {lo hi : Nat} (h : TabF ts t w g G n f) (h1 : lo ≤ g) (h2 : g < hi) (h3 : ∀ i, i < n → lo ≤ G i ∧ G i < hi) : Obj2 ts t lo hi w (some ⟨g, 0, none⟩) (grid n f) := by
  obtain ⟨C, cur, c1, c3⟩ := h.top
  refine .inr ⟨g, fun i => some ⟨G i, 0, none⟩, C, rfl, h1, h2, ⟨cur, c1, fun i hi => ?_⟩, fun i hi => ?_, fun i j hi hj hne a b ha hb => ?_⟩
  · rw [grid_length] at hi
    rw [c3 i hi, grid_row_length n f i hi]
  · rw [grid_length] at hi
    refine .inr ⟨G i, rfl, (h3 i hi).1, (h3 i hi).2, PreIs.own ((h.row i hi).congr (fun j hj => by rw [grid_at n f i j hi hj])) (grid_row_length n f i hi)⟩
  · rw [grid_length] at hi hj
    cases ha
    cases hb
    exact h.inj i j hi hj hne

theorem TabF.rd (h : TabF ts t w g G n f) : Rd2 w (some ⟨g, 0, none⟩) (grid n f) := by
  have h0 := h.obj (lo := 0) (hi := w.heap.size) (Nat.zero_le _) h.lt (fun i hi => ⟨Nat.zero_le _, (h.row i hi).lt⟩)
  exact h0.rd
end

theorem Obj2.tabF {ts t : TypeId} {w : World} {lo hi n : Nat} {A : Option Addr} {rows : List (List Int)} (hne : ts ≠ t) (h : Obj2 ts t lo hi w A rows) (h1 : 1 ≤ n) (hl : rows.length = n) (hls : ∀ i, i < n → (rows.getD i []).length = n) :
    ∃ (g : Nat) (G : Nat → Nat), A = some ⟨g, 0, none⟩ ∧ lo ≤ g ∧ g < hi ∧ (∀ i, i < n → lo ≤ G i ∧ G i < hi) ∧ TabF ts t w g G n (fun a b => (rows.getD a []).getD b 0) := by
  rcases h with ⟨_, rfl⟩ | ⟨g, R, C, rfl, hlo, hhi, ⟨cur, c1, c2⟩, ho, hd⟩
  · simp at hl; omega
  · have each : ∀ i, i < n → R i = some ⟨((R i).map (·.block)).getD 0, 0, none⟩ ∧ lo ≤ ((R i).map (·.block)).getD 0 ∧ ((R i).map (·.block)).getD 0 < hi ∧ OwnB t w (((R i).map (·.block)).getD 0) (rows.getD i []) := by
      intro i hi'
      rcases ho i (by omega) with ⟨_, e⟩ | ⟨g', e, e1, e2, e3⟩
      · have := hls i hi'
        rw [e] at this
        simp at this
        omega
      · rw [e]
        exact ⟨rfl, e1, e2, e3⟩
    refine ⟨g, fun i => ((R i).map (·.block)).getD 0, rfl, hlo, hhi, fun i hi' => ⟨(each i hi').2.1, (each i hi').2.2.1⟩, ⟨C, cur, c1, fun i hi' => ?_⟩, fun i hi' => ?_, fun i hi' e => ?_, fun i j hi' hj hne' e => ?_⟩
    · rw [c2 i (by omega), hls i hi']
      exact congrArg (fun a => some (Value.slice a n (C i))) (each i hi').1
    · obtain ⟨cur', d1, d2⟩ := (each i hi').2.2.2
      exact ⟨cur', d1, fun j hj => d2 j (by rw [hls i hi']; exact hj)⟩
    · obtain ⟨cur', d1, _⟩ := (each i hi').2.2.2
      rw [← e, c1] at d1
      injection d1 with d1
      injection d1 with _ d1
      exact hne d1
    · exact hd i j (by omega) (by omega) hne' _ _ (each i hi').1 (each j hj).1 e

/-- The table with rows and columns exchanged. -/
def turnL (rows : List (List Int)) : List (List Int) := grid rows.length fun a b => (rows.getD b []).getD a 0
theorem turnL_length (rows : List (List Int)) : (turnL rows).length = rows.length := grid_length _ _

end Go.Proofs.Ythnkhljgealjdaa
namespace Go.Proofs.Ythnkhljgealjdaa
open Go Go.RowKit
/-! Rows in order, each once: where one stands, and where a new one goes. -/
theorem lessL_irr : ∀ xs : List Int, lessL xs xs = false
  | [] => rfl
  | x :: xs => by simp [lessL, lessL_irr xs]
theorem lessL_trans : ∀ xs ys zs : List Int, lessL xs ys = true → lessL ys zs = true → lessL xs zs = true
  | [], [], _, h, _ => by simp [lessL] at h
  | [], _ :: _, [], _, h => by simp [lessL] at h
  | [], _ :: _, _ :: _, _, _ => by simp [lessL]
  | _ :: _, [], _, h, _ => by simp [lessL] at h
  | _ :: _, _ :: _, [], _, h => by simp [lessL] at h
  | x :: xs, y :: ys, z :: zs, h, k => by
    simp only [lessL] at h k ⊢
    by_cases e : x = y
    · subst e
      rw [if_pos rfl] at h
      by_cases e2 : x = z
      · subst e2
        rw [if_pos rfl] at k ⊢
        exact lessL_trans xs ys zs h k
      · rw [if_neg e2] at k ⊢
        exact k
    · rw [if_neg e] at h
      have h1 : x < y := by simpa using h
      by_cases e2 : y = z
      · subst e2
        rw [if_neg e]
        exact h
      · rw [if_neg e2] at k
        have h2 : y < z := by simpa using k
        rw [if_neg (by omega)]
        simp; omega
theorem lessL_tri : ∀ xs ys : List Int, xs ≠ ys → lessL xs ys = true ∨ lessL ys xs = true
  | [], [], h => absurd rfl h
  | [], _ :: _, _ => .inl rfl
  | _ :: _, [], _ => .inr rfl
  | x :: xs, y :: ys, h => by
    simp only [lessL]
    by_cases e : x = y
    · subst e
      rw [if_pos rfl, if_pos rfl]
      exact lessL_tri xs ys (fun e => h (by rw [e]))
    · rw [if_neg e, if_neg (Ne.symm e)]
      have : x < y ∨ y < x := by omega
      rcases this with h | h
      · exact .inl (by simpa using h)
      · exact .inr (by simpa using h)
/-- In order, each once. -/
def Asc (l : List (List Int)) : Prop := l.Pairwise fun a b => lessL a b = true
theorem Asc.at {l : List (List Int)} (h : Asc l) {i j : Nat} (hij : i < j) (hj : j < l.length) : lessL (l.getD i []) (l.getD j []) = true := by
  have h2 := List.pairwise_iff_getElem.1 h i j (by omega) hj hij
  have e1 : l.getD i [] = l[i] := by have : i < l.length := (by omega); simp [this]
  have e2 : l.getD j [] = l[j] := by simp [hj]
  rw [e1, e2]
  exact h2
theorem Asc.one (p : List Int) : Asc [p] := by simp [Asc]
theorem Asc.nodup {l : List (List Int)} (h : Asc l) : l.Nodup := List.Pairwise.imp (fun {a b} hab e => by subst e; rw [lessL_irr] at hab; cases hab) h
theorem Asc.eq : ∀ {l m : List (List Int)}, Asc l → Asc m → (∀ x, x ∈ l ↔ x ∈ m) → l = m
  | [], [], _, _, _ => rfl
  | [], b :: m, _, _, h => by have := (h b).2 (by simp); cases this
  | a :: l, [], _, _, h => by have := (h a).1 (by simp); cases this
  | a :: l, b :: m, hl, hm, h => by
    have hl2 := List.pairwise_cons.1 hl
    have hm2 := List.pairwise_cons.1 hm
    have hab : a = b := by
      rcases List.mem_cons.1 ((h a).1 (by simp)) with e | e
      · exact e
      · rcases List.mem_cons.1 ((h b).2 (by simp)) with e2 | e2
        · exact e2.symm
        · have h1 := hm2.1 a e
          have h2 := hl2.1 b e2
          have h3 := lessL_trans _ _ _ h1 h2
          rw [lessL_irr] at h3
          cases h3
    subst hab
    have hna : a ∉ l := fun e => by have h3 := hl2.1 a e; rw [lessL_irr] at h3; cases h3
    have hnb : a ∉ m := fun e => by have h3 := hm2.1 a e; rw [lessL_irr] at h3; cases h3
    rw [Asc.eq hl2.2 hm2.2 (fun x => ⟨fun hx => by
      rcases List.mem_cons.1 ((h x).1 (by simp [hx])) with e | e
      · subst e; exact absurd hx hna
      · exact e, fun hx => by
      rcases List.mem_cons.1 ((h x).2 (by simp [hx])) with e | e
      · subst e; exact absurd hx hnb
      · exact e⟩)]
/-- All before lo are less than p, none from hi on. -/
structure Plc (l : List (List Int)) (p : List Int) (lo hi : Nat) : Prop where
  le : lo ≤ hi
  top : hi ≤ l.length
  lt : ∀ i, i < lo → lessL (l.getD i []) p = true
  ge : ∀ i, hi ≤ i → i < l.length → lessL (l.getD i []) p = false
theorem Plc.start (l : List (List Int)) (p : List Int) : Plc l p 0 l.length := ⟨Nat.zero_le _, Nat.le_refl _, fun i hi => by omega, fun i h1 h2 => by omega⟩
theorem Plc.up {l : List (List Int)} {p : List Int} {lo hi m : Nat} (hl : Asc l) (h : Plc l p lo hi) (hm : lo ≤ m ∧ m < hi) (hp : lessL (l.getD m []) p = true) : Plc l p (m + 1) hi :=
  ⟨by omega, h.top, fun i hi2 => by
    by_cases e : i = m
    · rw [e]; exact hp
    · exact lessL_trans _ _ _ (hl.at (i := i) (j := m) (by omega) (by have := h.top; omega)) hp, h.ge⟩
theorem Plc.down {l : List (List Int)} {p : List Int} {lo hi m : Nat} (hl : Asc l) (h : Plc l p lo hi) (hm : lo ≤ m ∧ m < hi) (hp : lessL (l.getD m []) p = false) : Plc l p lo m :=
  ⟨by omega, by have := h.top; omega, h.lt, fun i h1 h2 => by
    by_cases e : i = m
    · rw [e]; exact hp
    · cases hc : lessL (l.getD i []) p with
      | false => rfl
      | true =>
        have := lessL_trans _ _ _ (hl.at (i := m) (j := i) (by omega) h2) hc
        rw [hp] at this
        cases this⟩
theorem Plc.mem {l : List (List Int)} {p : List Int} {k : Nat} (hl : Asc l) (h : Plc l p k k) : p ∈ l ↔ k < l.length ∧ l.getD k [] = p := by
  constructor
  · intro hp
    obtain ⟨i, hi, e⟩ := List.getElem_of_mem hp
    have e1 : l.getD i [] = p := by simp [hi, e]
    by_cases h1 : i < k
    · have := h.lt i h1
      rw [e1, lessL_irr] at this
      cases this
    · by_cases h2 : i = k
      · exact ⟨by omega, by rw [← h2]; exact e1⟩
      · have h3 := hl.at (i := k) (j := i) (by omega) hi
        have h4 := h.ge k (Nat.le_refl _) (by omega)
        rw [e1, h4] at h3
        cases h3
  · rintro ⟨h1, h2⟩
    rw [← h2]
    simp [h1]
/-- p put in at k. -/
def insL (l : List (List Int)) (k : Nat) (p : List Int) : List (List Int) := l.take k ++ p :: l.drop k
theorem insL_length (l : List (List Int)) (k : Nat) (p : List Int) : (insL l k p).length = l.length + 1 := by
  simp [insL]; omega
theorem insL_mem (l : List (List Int)) (k : Nat) (p x : List Int) : x ∈ insL l k p ↔ x = p ∨ x ∈ l := by
  have h : x ∈ l ↔ x ∈ l.take k ∨ x ∈ l.drop k := by
    rw [← List.mem_append, List.take_append_drop]
  rw [h]
  simp only [insL, List.mem_append, List.mem_cons]
  constructor
  · rintro (h | h | h)
    · exact .inr (.inl h)
    · exact .inl h
    · exact .inr (.inr h)
  · rintro (h | h | h)
    · exact .inr (.inl h)
    · exact .inl h
    · exact .inr (.inr h)
theorem Asc.ins {l : List (List Int)} {p : List Int} {k : Nat} (hl : Asc l) (h : Plc l p k k) (hn : p ∉ l) : Asc (insL l k p) := by
  have hs : (l.take k ++ l.drop k).Pairwise fun a b => lessL a b = true := by rw [List.take_append_drop]; exact hl
  obtain ⟨h1, h2, h3⟩ := List.pairwise_append.1 hs
  have hdr : ∀ y, y ∈ l.drop k → lessL p y = true := by
    intro y hy
    obtain ⟨i, hi, e⟩ := List.getElem_of_mem hy
    rw [List.length_drop] at hi
    rw [List.getElem_drop] at e
    have h4 := h.ge (k + i) (by omega) (by omega)
    have e2 : l.getD (k + i) [] = y := by have : k + i < l.length := (by omega); simp [this, e]
    rw [e2] at h4
    rcases lessL_tri p y (fun e3 => by subst e3; exact hn (List.mem_of_mem_drop hy)) with h5 | h5
    · exact h5
    · rw [h4] at h5; cases h5
  have htk : ∀ y, y ∈ l.take k → lessL y p = true := by
    intro y hy
    obtain ⟨i, hi, e⟩ := List.getElem_of_mem hy
    rw [List.length_take] at hi
    rw [List.getElem_take] at e
    have h4 := h.lt i (by omega)
    have e2 : l.getD i [] = y := by have : i < l.length := (by omega); simp [this, e]
    rw [e2] at h4
    exact h4
  refine List.pairwise_append.2 ⟨h1, List.pairwise_cons.2 ⟨hdr, h2⟩, fun a ha b hb => ?_⟩
  rcases List.mem_cons.1 hb with e | e
  · subst e; exact htk a ha
  · exact h3 a ha b e
end Go.Proofs.Ythnkhljgealjdaa
namespace Go.Proofs.Ythnkhljgealjdaa
open Go Go.RowKit
set_option maxHeartbeats 1000000

def unitN (n : Nat) : List Int := (List.range n).map fun (x : Nat) => (x : Int)
theorem unitN_length (n : Nat) : (unitN n).length = n := by simp [unitN]
theorem unitN_next (n : Nat) : unitN (n + 1) = unitN n ++ [(n : Int)] := by simp [unitN, List.range_succ]
end Go.Proofs.Ythnkhljgealjdaa
namespace Go.Proofs.Ythnkhljgealjdaa
open Go Go.RowKit
set_option maxHeartbeats 1000000

end Go.Proofs.Ythnkhljgealjdaa
namespace Go.Proofs.Ythnkhljgealjdaa
open Go Go.RowKit
set_option maxHeartbeats 1000000

theorem own_shape_cap {t : TypeId} {w : World} {xs : List Int} {B n : Nat} {v : Value} (h : w.ownsRow B t 1 v n (ints xs)) : ∃ A c, v = .slice A n c ∧ n ≤ c ∧ Res t B w A xs := by
  obtain ⟨A, c, hv, hr⟩ := own_shape h
  refine ⟨A, c, hv, ?_, hr⟩
  rcases h.2 with ⟨h1, h2⟩ | ⟨g, cap, cur, h1, _, _, h2, _⟩
  · omega
  · rw [hv] at h1
    injection h1 with e1 e2 e3
    omega

set_option maxRecDepth 100000 in
theorem cloneN_any (A : Option Addr) (n c : Nat) (xs : List Int) (w : World) (hn : xs.length = n) (hbn : n ≤ 1048576) (hr : Rd w A xs) :
    Calls Try.prog 34 #[.slice A n c] w fun e w' => ∃ A' c', e = .returned (.slice A' n c') ∧ Below w.heap.size w w' ∧ Res 2 w.heap.size w' A' xs ∧ n ≤ c' := by
  have he : ∀ (u : World) (a : Option Addr) (n c : Nat), (binOp .eql 25 (.slice a n c) (.slice none 0 0)).run Try.prog u = .ok (.bool a.isNone) u := fun u a n c => Lib.run_eql_slice_nil u 25 _ a n c 0 0 Try.underlying25
  cases A with
  | none =>
    have h0 : xs = [] := by
      cases xs with
      | nil => rfl
      | cons x xs => obtain ⟨b, o, h, _⟩ := hr (by simp); cases h
    subst h0
    have hn0 : n = 0 := by rw [← hn]; rfl
    subst hn0
    clear hr hn
    go_enter Try.func34, Try.ntmps34
    go_wp2_with fail
    go_ret
    exact ⟨_, _, rfl, Below.refl _ _, .inl ⟨rfl, rfl⟩, Nat.le_refl _⟩
  | some a =>
    have HN := hide hn
    have hcc : ∀ j u, (ints xs)[j]? = some u → (w.alloc (.cells #[] 2)).cell? (a.add j) = some u := by
      intro j u hj
      have hl : j < xs.length := by
        have := (List.getElem?_eq_some_iff.1 hj).1
        rw [ints_length] at this
        exact this
      obtain ⟨b, o, h, hb, hc⟩ := hr (by omega)
      injection h with h
      subst h
      exact cl_cells hc hb j u hj
    have HC := hide hcc
    clear hn hcc hr
    obtain ⟨i0, hi, hz0, hz1, hz2⟩ := info_parts clInfo
    go_enter Try.func34, Try.ntmps34
    go_wp2_with (at_builtin; refine wpList_append_own _ rfl _ _ 25 rfl w.heap.size 2 i0 (.int .i64 0) 1 8 Try.underlying25 hi hz0 hz1 hz2 rfl (by decide) _ _ _ rfl (cl_empty w 2) a n c (ints xs) rfl ?c1 HC.out ?c2 ?c3 ?c4 ?c5 ?_)
    case c1 => rw [ints_length]; have := HN.out; omega
    case c2 => intro u hu; simp [ints] at hu; obtain ⟨_, _, rfl⟩ := hu; rfl
    case c3 => unfold maxLen; omega
    case c4 => omega
    case c5 => simp
    intro v' w1 hown' hgrow _
    have HO' := hide hown'
    have HG := hide hgrow
    clear hown' hgrow
    go_wp2_with fail
    go_ret
    have h := HO'.out
    have hB : Below w.heap.size w w1 := ((Below.refl _ _).alloc (Nat.le_refl _) _).grown HG.out (by simp) (fun g hg => ((cl_empty w 2).lt g hg).1)
    obtain ⟨A', c', hv, hcap, hres⟩ := own_shape_cap h
    exact ⟨A', c', by rw [← hv]; rfl, hB, hres, hcap⟩
end Go.Proofs.Ythnkhljgealjdaa
namespace Go.Proofs.Ythnkhljgealjdaa
open Go Go.RowKit
set_option maxHeartbeats 1000000

end Go.Proofs.Ythnkhljgealjdaa
namespace Go.Proofs.Ythnkhljgealjdaa
open Go Go.RowKit
set_option maxHeartbeats 1000000

theorem own_any (b o : Nat) (n c : Nat) (xs : List Int) (w : World) (hn : xs.length = n) (hbn : n ≤ 1048576) (hb : b < w.heap.size) (hc : ∀ i, i < xs.length → w.cell? ⟨b, o + i, none⟩ = some (.int .i64 (xs.getD i 0))) :
    Calls Try.prog 38 #[.slice (some ⟨b, o, none⟩) n c] w fun e w' => ∃ v, e = .returned v ∧ Below w.heap.size w w' ∧ w'.ownsRow w.heap.size 2 1 v n (ints xs) := by
  have HN := hide hn
  have hcc := cl_cells (obj := .cells #[] 2) hc hb
  have HC := hide hcc
  clear hn hc hcc
  obtain ⟨i0, hi, hz0, hz1, hz2⟩ := info_parts clInfo
  go_enter Try.func38, Try.ntmps38
  go_wp2_with (at_builtin; refine wpList_append_own _ rfl _ _ 25 rfl w.heap.size 2 i0 (.int .i64 0) 1 8 Try.underlying25 hi hz0 hz1 hz2 rfl (by decide) _ _ _ rfl (cl_empty w 2) ⟨b, o, none⟩ n c (ints xs) rfl ?c1 HC.out ?c2 ?c3 ?c4 ?c5 ?_)
  case c1 => rw [ints_length]; have := HN.out; omega
  case c2 => intro u hu; simp [ints] at hu; obtain ⟨_, _, rfl⟩ := hu; rfl
  case c3 => unfold maxLen; omega
  case c4 => omega
  case c5 => simp
  intro v' w1 hown' hgrow _
  have HO' := hide hown'
  have HG := hide hgrow
  clear hown' hgrow
  go_wp2_with fail
  go_ret
  have h := HO'.out
  have hB : Below w.heap.size w w1 := ((Below.refl _ _).alloc (Nat.le_refl _) _).grown HG.out (by simp) (fun g hg => ((cl_empty w 2).lt g hg).1)
  exact ⟨v', rfl, hB, h⟩
end Go.Proofs.Ythnkhljgealjdaa
namespace Go.Proofs.Ythnkhljgealjdaa
open Go Go.RowKit
set_option maxHeartbeats 1000000

theorem same_any (A B : Option Addr) (n c m d : Nat) (xs ys : List Int) (r : Bool) (w : World) (hn : xs.length = n) (hm : ys.length = m) (hb : n ≤ 9223372036854775807) (hb2 : m ≤ 9223372036854775807) (hx : Rd w A xs) (hy : Rd w B ys) (hr : r = true ↔ xs = ys) :
    Calls Try.prog 29 #[.slice A n c, .slice B m d] w fun e w' => e = .returned (.bool r) ∧ Quiet w w' := by
  have HN := hide hn
  have HM := hide hm
  have HR := hide hr
  clear hr
  by_cases hnm : n = m
  · subst hnm
    clear hn hm
    go_enter Try.func29, Try.ntmps29
    go_wp2_with fail
    go_loopw [5] (fun i wr => ∃ k : Nat, k ≤ n ∧ i = .int .i64 k ∧ Quiet w wr ∧ ∀ i, i < k → xs.getD i 0 = ys.getD i 0) (fun i _ => n - (intOf i).toNat)
    case atStart => exact ⟨0, Nat.zero_le _, rfl, Quiet.refl w, fun i hi => absurd hi (Nat.not_lt_zero _)⟩
    case round =>
      obtain ⟨k, hk, rfl, hq, hall⟩ := hrel
      have HQ := hide hq
      clear hq
      have HALL := hide hall
      clear hall
      by_cases hlt : k < n
      · obtain ⟨b, o, rfl, _, hc⟩ := HQ.out.rd hx (by have := HN.out; omega)
        obtain ⟨b2, o2, rfl, _, hc2⟩ := HQ.out.rd hy (by have := HM.out; omega)
        have h1 := hc k (by have := HN.out; omega)
        have h2 := hc2 k (by have := HM.out; omega)
        obtain ⟨x, hx⟩ : ∃ x, x = xs.getD k 0 := ⟨_, rfl⟩
        obtain ⟨y, hy⟩ : ∃ y, y = ys.getD k 0 := ⟨_, rfl⟩
        rw [← hx] at h1
        rw [← hy] at h2
        have HX := hide hx
        have HY := hide hy
        clear hx hy hc hc2
        have hltz : (k : Int) < n := by omega
        by_cases hxy : x = y
        · subst hxy
          go_wp2_with fail
          go_quiet (fail)
          go_wp2_with fail
          go_roundw
          case rel =>
            refine ⟨k + 1, by omega, by go_num, HQ.out.drewN _, fun i hi => ?_⟩
            by_cases e : i = k
            · subst e; rw [← HX.out]; exact HY.out
            · exact HALL.out i (by omega)
          case measure => simp [intOf]; omega
        · have hne : (x != y) = true := by simpa using hxy
          have HNE := hide hxy
          clear hxy
          go_wp2_with fail
          go_quiet (fail)
          go_wp2_with fail
          go_ret
          have : r = false := by
            cases r
            · rfl
            · have e := HR.out.1 rfl
              subst e
              exact absurd (HX.out.trans HY.out.symm) HNE.out
          exact ⟨by subst this; rfl, by first | exact HQ.out | exact HQ.out.drewN _ | exact Quiet.refl _⟩
      · have hkn : k = n := by omega
        subst hkn
        go_wp2_with fail
        go_ret
        have this := HR.out.2 (eqList xs ys (HN.out.trans HM.out.symm) (fun i hi => HALL.out i (by have := HN.out; omega)))
        exact ⟨by subst this; rfl, by first | exact HQ.out | exact HQ.out.drewN _ | exact Quiet.refl _⟩
  · have hne : ((n : Int) != (m : Int)) = true := by simp; omega
    have HNM := hide hnm
    clear hn hm hnm
    go_enter Try.func29, Try.ntmps29
    go_wp2_with fail
    go_ret
    have : r = false := by
      cases r
      · rfl
      · have e := HR.out.1 rfl
        subst e
        exact absurd (HN.out.symm.trans HM.out) HNM.out
    exact ⟨by subst this; rfl, by first | exact HQ.out | exact HQ.out.drewN _ | exact Quiet.refl _⟩

theorem less_any (A B : Option Addr) (n c d : Nat) (xs ys : List Int) (w : World) (hn : xs.length = n) (hm : ys.length = n) (hb : n ≤ 1048576) (hx : Rd w A xs) (hy : Rd w B ys) :
    Calls Try.prog 28 #[.slice A n c, .slice B n d] w fun e w' => e = .returned (.bool (lessL xs ys)) ∧ Quiet w w' := by
  have HN := hide hn
  have HM := hide hm
  clear hn hm
  go_enter Try.func28, Try.ntmps28
  go_wp2_with fail
  go_loopw [5] (fun i wr => ∃ k : Nat, k ≤ n ∧ i = .int .i64 k ∧ Quiet w wr ∧ lessL xs ys = lessL (xs.drop k) (ys.drop k)) (fun i _ => n - (intOf i).toNat)
  case atStart => exact ⟨0, Nat.zero_le _, rfl, Quiet.refl w, rfl⟩
  case round =>
    obtain ⟨k, hk, rfl, hq, hall⟩ := hrel
    have HQ := hide hq
    have HALL := hide hall
    clear hq hall
    by_cases hlt : k < n
    · obtain ⟨b, o, rfl, _, hc⟩ := HQ.out.rd hx (by have := HN.out; omega)
      obtain ⟨b2, o2, rfl, _, hc2⟩ := HQ.out.rd hy (by have := HM.out; omega)
      have h1 := hc k (by have := HN.out; omega)
      have h2 := hc2 k (by have := HM.out; omega)
      have e1 := drop_cons xs k (by have := HN.out; omega)
      have e2 := drop_cons ys k (by have := HM.out; omega)
      obtain ⟨x, hx⟩ : ∃ x, xs.getD k 0 = x := ⟨_, rfl⟩
      obtain ⟨y, hy⟩ : ∃ y, ys.getD k 0 = y := ⟨_, rfl⟩
      rw [hx] at h1 e1
      rw [hy] at h2 e2
      have E1 := hide e1
      have E2 := hide e2
      clear hx hy hc hc2 e1 e2
      have hltz : (k : Int) < n := by omega
      by_cases hxy : x = y
      · subst hxy
        go_wp2_with fail
        go_quiet (fail)
        go_wp2_with fail
        go_roundw
        case rel =>
          refine ⟨k + 1, by omega, by go_num, HQ.out.drewN _, ?_⟩
          rw [HALL.out, E1.out, E2.out, lessL, if_pos rfl]
        case measure => simp [intOf]; omega
      · have hne : (x != y) = true := by simpa using hxy
        have HNE := hide hxy
        clear hxy
        have hres : lessL xs ys = decide (x < y) := by
          rw [HALL.out, E1.out, E2.out, lessL, if_neg HNE.out]
        have HRES := hide hres
        clear hres
        go_wp2_with fail
        go_quiet (fail)
        go_wp2_with fail
        go_quiet (fail)
        go_wp2_with fail
        go_ret
        exact ⟨by rw [HRES.out]; rfl, (HQ.out.drewN _).drewN _⟩
    · have hkn : k = n := by omega
      subst hkn
      go_wp2_with fail
      go_ret
      have h := HALL.out
      rw [List.drop_of_length_le (by have := HN.out; omega), List.drop_of_length_le (by have := HM.out; omega)] at h
      exact ⟨by rw [h]; simp [lessL], HQ.out⟩
end Go.Proofs.Ythnkhljgealjdaa
namespace Go.Proofs.Ythnkhljgealjdaa
open Go Go.RowKit

/-- The sizes of two tables, at most K. -/
structure ZSz (K : Nat) (f : List (List Int)) (n : Nat) (s : List (List Int)) (m : Nat) : Prop where
  fl : f.length = n
  nb : n ≤ K
  nr : ∀ i, i < f.length → (f.getD i []).length ≤ K
  sl : s.length = m
  mb : m ≤ K
  mr : ∀ i, i < s.length → (s.getD i []).length ≤ K

/-- Two tables that are read in a world. -/
structure ZArg (K : Nat) (w : World) (A : Option Addr) (n : Nat) (f : List (List Int)) (B : Option Addr) (m : Nat) (s : List (List Int)) : Prop where
  sz : ZSz K f n s m
  fst : Rd2 w A f
  snd : Rd2 w B s

theorem ZArg.later {K : Nat} {w w' : World} {A : Option Addr} {n : Nat} {f : List (List Int)} {B : Option Addr} {m : Nat} {s : List (List Int)} (h : ZArg K w A n f B m s) (hb : Below w.heap.size w w') : ZArg K w' A n f B m s :=
  ⟨h.sz, h.fst.later hb, h.snd.later hb⟩

theorem ZSz.tots {f s : List (List Int)} {n m : Nat} (h : ZSz 1048576 f n s m) : tot f + tot s ≤ 2199023255552 := by
  have h1 := tot_bound f (by rw [h.fl]; exact h.nb) h.nr
  have h2 := tot_bound s (by rw [h.sl]; exact h.mb) h.mr
  omega
theorem ZSz.totf {f s : List (List Int)} {n m : Nat} (h : ZSz 1048576 f n s m) : tot f ≤ 1099511627776 := tot_bound f (by rw [h.fl]; exact h.nb) h.nr
theorem ZSz.totg {f s : List (List Int)} {n m : Nat} (h : ZSz 1048576 f n s m) : tot s ≤ 1099511627776 := tot_bound s (by rw [h.sl]; exact h.mb) h.mr
end Go.Proofs.Ythnkhljgealjdaa
namespace Go.Proofs.Ythnkhljgealjdaa
open Go Go.RowKit

theorem Tbl.rows {rows : List (List Int)} (h : Tbl rows) : ∀ i, i < rows.length → (rows.getD i []).length = rows.length := fun i hi => (h.2.2 i hi).1
theorem Tbl.le {rows : List (List Int)} (h : Tbl rows) : ∀ i, i < rows.length → (rows.getD i []).length ≤ 1048576 := fun i hi => by
  have h1 := h.rows i hi
  have h2 := h.2.1
  omega

theorem bool_of (p : Prop) : ∃ r : Bool, r = true ↔ p := by
  by_cases h : p
  · exact ⟨true, by simp [h]⟩
  · exact ⟨false, by simp [h]⟩

def AllPrm (rows : List (List Int)) : Prop := ∀ i, i < rows.length → Prm (rows.getD i [])

def RowsRes (rows : List (List Int)) (r : Bool) (code : Int) : Prop := (Tbl rows ∧ (r = true ↔ AllPrm rows) ∧ code = 0) ∨ (¬ Tbl rows ∧ r = false ∧ code = 1)
theorem RowsRes.ex (rows : List (List Int)) : ∃ r code, RowsRes rows r code := by
  by_cases h : Tbl rows
  · obtain ⟨r, hr⟩ := bool_of (AllPrm rows)
    exact ⟨r, _, .inl ⟨h, hr, rfl⟩⟩
  · exact ⟨_, _, .inr ⟨h, rfl, rfl⟩⟩

def LatinRes (rows : List (List Int)) (r : Bool) (code : Int) : Prop := (Tbl rows ∧ (r = true ↔ AllPrm rows ∧ AllPrm (turnL rows)) ∧ code = 0) ∨ (¬ Tbl rows ∧ r = false ∧ code = 1)
theorem LatinRes.ex (rows : List (List Int)) : ∃ r code, LatinRes rows r code := by
  by_cases h : Tbl rows
  · obtain ⟨r, hr⟩ := bool_of (AllPrm rows ∧ AllPrm (turnL rows))
    exact ⟨r, _, .inl ⟨h, hr, rfl⟩⟩
  · exact ⟨_, _, .inr ⟨h, rfl, rfl⟩⟩

def TurnRes (rows zs : List (List Int)) (code : Int) : Prop := (Tbl rows ∧ zs = turnL rows ∧ code = 0) ∨ (¬ Tbl rows ∧ zs = [] ∧ code = 1)
theorem TurnRes.ex (rows : List (List Int)) : ∃ zs code, TurnRes rows zs code ∧ zs.length ≤ 1048576 ∧ ∀ i, i < zs.length → (zs.getD i []).length ≤ 1048576 := by
  by_cases h : Tbl rows
  · refine ⟨_, _, .inl ⟨h, rfl, rfl⟩, by rw [turnL_length]; have := h.2.1; omega, fun i hi => ?_⟩
    rw [turnL_length] at hi
    unfold turnL
    rw [grid_row_length _ _ _ hi]
    have := h.2.1
    omega
  · exact ⟨_, _, .inr ⟨h, rfl, rfl⟩, by simp, fun i hi => by simp at hi⟩
end Go.Proofs.Ythnkhljgealjdaa
namespace Go.Proofs.Ythnkhljgealjdaa
open Go Go.RowKit
set_option maxHeartbeats 2000000
def cmpI (x y : Int) : Int := if x < y then -1 else if y < x then 1 else 0
def cmpW (p q : List Int) : Int := if lessL p q = true then -1 else if lessL q p = true then 1 else 0
theorem isNaN_any (x : Int) (w : World) : Calls Try.prog 76 #[.int .i64 x] w fun e w' => e = .returned (.bool false) ∧ w' = w := by
  have h : (x != x) = false := by simp
  go_enter Try.func76, Try.ntmps76
  go_wp2_with fail
  go_ret
  exact ⟨by simp, rfl⟩
theorem cmpI_any (x y : Int) (w : World) : Calls Try.prog 61 #[.int .i64 x, .int .i64 y] w fun e w' => e = .returned (.int .i64 (cmpI x y)) ∧ w' = w := by
  have hr : (x < y ∧ cmpI x y = -1) ∨ (¬ x < y ∧ y < x ∧ cmpI x y = 1) ∨ (¬ x < y ∧ ¬ y < x ∧ cmpI x y = 0) := by
    unfold cmpI
    by_cases h1 : x < y
    · exact .inl ⟨h1, by simp [h1]⟩
    · by_cases h2 : y < x
      · exact .inr (.inl ⟨h1, h2, by simp [h1, h2]⟩)
      · exact .inr (.inr ⟨h1, h2, by simp [h1, h2]⟩)
  obtain ⟨r, hrr⟩ : ∃ r, cmpI x y = r := ⟨_, rfl⟩
  rw [hrr] at hr ⊢
  clear hrr
  rcases hr with ⟨h1, rfl⟩ | ⟨h1, h2, rfl⟩ | ⟨h1, h2, rfl⟩
  · go_enter Try.func61, Try.ntmps61
    go_wp2_with (go_at_call 76; refine (isNaN_any _ _).mono ?_; rintro e wd ⟨rfl, rfl⟩)
    go_ret
    exact ⟨rfl, rfl⟩
  · go_enter Try.func61, Try.ntmps61
    go_wp2_with (go_at_call 76; refine (isNaN_any _ _).mono ?_; rintro e wd ⟨rfl, rfl⟩)
    go_ret
    exact ⟨rfl, rfl⟩
  · go_enter Try.func61, Try.ntmps61
    go_wp2_with (go_at_call 76; refine (isNaN_any _ _).mono ?_; rintro e wd ⟨rfl, rfl⟩)
    go_ret
    exact ⟨rfl, rfl⟩
theorem lessL_at : ∀ (k : Nat) (p q : List Int), (∀ j, j < k → p.getD j 0 = q.getD j 0) → k < p.length → k < q.length → p.getD k 0 < q.getD k 0 → lessL p q = true
  | 0, x :: xs, y :: ys, _, _, _, h => by
    have h' : x < y := h
    have hne : ¬ x = y := by omega
    simp [lessL, hne, h']
  | k + 1, x :: xs, y :: ys, hall, h1, h2, h => by
    have e : x = y := hall 0 (by omega)
    subst e
    have := lessL_at k xs ys (fun j hj => hall (j + 1) (by omega)) (by simp at h1; omega) (by simp at h2; omega) h
    simp [lessL, this]
  | _, [], _, _, h, _, _ => by simp at h
  | _, _ :: _, [], _, _, h, _ => by simp at h
theorem cmpW_lt {k : Nat} {p q : List Int} (hall : ∀ j, j < k → p.getD j 0 = q.getD j 0) (h1 : k < p.length) (h2 : k < q.length) (h : p.getD k 0 < q.getD k 0) : cmpW p q = -1 := by
  unfold cmpW
  rw [if_pos (lessL_at k p q hall h1 h2 h)]
theorem cmpW_gt {k : Nat} {p q : List Int} (hall : ∀ j, j < k → p.getD j 0 = q.getD j 0) (h1 : k < p.length) (h2 : k < q.length) (h : q.getD k 0 < p.getD k 0) : cmpW p q = 1 := by
  have h3 := lessL_at k q p (fun j hj => (hall j hj).symm) h2 h1 h
  unfold cmpW
  rw [if_neg, if_pos h3]
  intro h4
  have h5 := lessL_trans _ _ _ h3 h4
  rw [lessL_irr] at h5
  cases h5
theorem cmpW_eq {p q : List Int} (hl : p.length = q.length) (hall : ∀ j, j < p.length → p.getD j 0 = q.getD j 0) : cmpW p q = 0 := by
  have e : p = q := by
    apply List.ext_getElem hl
    intro j h1 h2
    have := hall j h1
    simpa [h1, h2] using this
  subst e
  unfold cmpW
  rw [lessL_irr]
  simp
set_option maxRecDepth 100000 in
theorem cmpRow_any (n : Nat) (A B : Option Addr) (c d : Nat) (p q : List Int) (w : World) (hp : p.length = n) (hq : q.length = n) (hb : n ≤ 1048576) (hA : Rd w A p) (hB : Rd w B q) :
    Calls Try.prog 46 #[.slice A n c, .slice B n d] w fun e w' => e = .returned (.int .i64 (cmpW p q)) ∧ w' = w := by
  have HP := hide hp
  have HQ := hide hq
  have HA := hide hA
  have HB := hide hB
  obtain ⟨r, hr⟩ : ∃ r, cmpW p q = r := ⟨_, rfl⟩
  have HR := hide hr
  rw [hr]
  clear hp hq hA hB hr
  go_enter Try.func46, Try.ntmps46
  go_wp2_with fail
  go_loopw [11] (fun i wr => ∃ k : Nat, k ≤ n ∧ i = .int .i64 k ∧ wr = w ∧ ∀ j, j < k → p.getD j 0 = q.getD j 0) (fun i _ => n - (intOf i).toNat)
  case atStart => exact ⟨0, Nat.zero_le _, rfl, rfl, fun j hj => absurd hj (Nat.not_lt_zero _)⟩
  case round =>
    obtain ⟨k, hk, rfl, hwr, hall⟩ := hrel
    subst hwr
    have HALL := hide hall
    clear hall
    by_cases hlt : k < n
    · have hltz : (k : Int) < n := by omega
      obtain ⟨b, o, rfl, hbw, hc⟩ := HA.out (by have := HP.out; omega)
      obtain ⟨b2, o2, rfl, hbw2, hc2⟩ := HB.out (by have := HQ.out; omega)
      have h1 := hc k (by have := HP.out; omega)
      have h2 := hc2 k (by have := HQ.out; omega)
      obtain ⟨x, hx⟩ : ∃ x, p.getD k 0 = x := ⟨_, rfl⟩
      obtain ⟨y, hy⟩ : ∃ y, q.getD k 0 = y := ⟨_, rfl⟩
      rw [hx] at h1
      rw [hy] at h2
      have HX := hide hx
      have HY := hide hy
      clear hc hc2 hx hy
      go_wp2_with fail
      refine (cmpI_any x y _).mono ?_
      rintro e wd ⟨rfl, rfl⟩
      by_cases hxy : x < y
      · have e1 : cmpI x y = -1 := by unfold cmpI; simp [hxy]
        have e2 : r = -1 := by rw [← HR.out]; exact  cmpW_lt HALL.out (by have := HP.out; omega) (by have := HQ.out; omega) (by rw [HX.out, HY.out]; exact hxy)
        rw [e1]
        subst e2
        clear h1 h2
        go_wp2_with fail
        go_ret
        exact ⟨rfl, rfl⟩
      · by_cases hyx : y < x
        · have e1 : cmpI x y = 1 := by unfold cmpI; simp [hxy, hyx]
          have e2 : r = 1 := by rw [← HR.out]; exact  cmpW_gt HALL.out (by have := HP.out; omega) (by have := HQ.out; omega) (by rw [HX.out, HY.out]; exact hyx)
          rw [e1]
          subst e2
          clear h1 h2
          go_wp2_with fail
          go_ret
          exact ⟨rfl, rfl⟩
        · have e1 : cmpI x y = 0 := by unfold cmpI; simp [hxy, hyx]
          rw [e1]
          clear h1 h2
          go_wp2_with fail
          go_roundw
          case rel => exact ⟨k + 1, by omega, by go_num, trivial, fun j hj => by
            by_cases e : j = k
            · subst e; rw [HX.out, HY.out]; omega
            · exact HALL.out j (by omega)⟩
          case measure => simp [intOf]; omega
    · have hkn : k = n := by omega
      subst hkn
      have e2 : r = 0 := by rw [← HR.out]; exact cmpW_eq (by rw [HP.out, HQ.out]) (fun j hj => HALL.out j (by have := HP.out; omega))
      subst e2
      go_wp2_with fail
      go_ret
      exact ⟨rfl, rfl⟩
end Go.Proofs.Ythnkhljgealjdaa
namespace Go.Proofs.Ythnkhljgealjdaa
open Go Go.RowKit

/-- The value v is a list of rows that the call has built by append: its cells are vals, each a slice over a block of its own. -/
structure LstV (ts t : TypeId) (B : Nat) (w : World) (v : Value) (rows : List (List Int)) (vals : List Value) : Prop where
  own : w.ownsRow B ts 1 v rows.length vals
  row : ∀ i, i < rows.length → ∃ A c, vals[i]? = some (.slice A (rows.getD i []).length c) ∧ Obj1 t B w.heap.size w A (rows.getD i [])
  ne : ∀ (i j : Nat) (u u' : Value) (g : Nat), i < j → vals[i]? = some u → vals[j]? = some u' → u.ownBlock = some g → u'.ownBlock ≠ some g

section
variable {ts t : TypeId} {B : Nat} {w w' : World} {v : Value} {rows : List (List Int)} {vals : List Value}

theorem ownsRow_len {base n : Nat} {e : TypeId} {xs : List Value} (h : w.ownsRow base e 1 v n xs) : xs.length = n := by
  have := h.1
  omega

theorem LstV.start (w : World) (ts t : TypeId) : LstV ts t w.heap.size (w.alloc (.cells #[] ts)) (.slice (some ⟨w.heap.size, 0, none⟩) 0 0) [] [] :=
  ⟨⟨by simp, .inr ⟨w.heap.size, 0, #[], rfl, Nat.le_refl _, heap_alloc_new _ _, Nat.le_refl _, by unfold maxLen; omega, by simp, by simp⟩⟩, fun i hi => by simp at hi, fun i j u u' g _ hu => by simp at hu⟩

theorem LstV.nil (w : World) (ts t : TypeId) (B : Nat) : LstV ts t B w (.slice none 0 0) [] [] :=
  ⟨World.ownsRow_nil _ _ _ _, fun i hi => by simp at hi, fun i j u u' g _ hu => by simp at hu⟩

theorem ownsRow_below {base n : Nat} {e : TypeId} {xs : List Value} (h : w.ownsRow base e 1 v n xs) (hb : Below w.heap.size w w') : w'.ownsRow base e 1 v n xs := by
  obtain ⟨h1, h2⟩ := h
  refine ⟨h1, ?_⟩
  rcases h2 with h2 | ⟨g, cap, cur, hv, hg, hh, r⟩
  · exact .inl h2
  · exact .inr ⟨g, cap, cur, hv, hg, (hb.block g (Array.getElem?_eq_some_iff.1 hh).1).trans hh, r⟩

theorem LstV.later (h : LstV ts t B w v rows vals) (hb : Below w.heap.size w w') : LstV ts t B w' v rows vals :=
  ⟨ownsRow_below h.own hb, fun i hi => by
    obtain ⟨A, c, h1, h2⟩ := h.row i hi
    exact ⟨A, c, h1, (h2.later hb).mono (Nat.le_refl _) hb.size⟩, h.ne⟩

/-- The next row, in a block that was not there before, is appended. -/
theorem LstV.push {w1 : World} {v' : Value} {A : Option Addr} {c : Nat} {r : List Int} {tmp : Obj} (hne : ts ≠ t) (hB : B ≤ w.heap.size) (h : LstV ts t B w v rows vals) (hb : Below w.heap.size w w') (hA : Obj1 t w.heap.size w'.heap.size w' A r)
    (hown : w1.ownsRow B ts 1 v' (rows.length + 1) (vals ++ [.slice A r.length c])) (hg : (w'.alloc tmp).grownBy w1 v.ownBlock) : LstV ts t B w1 v' (rows ++ [r]) (vals ++ [.slice A r.length c]) := by
  have hl := ownsRow_len h.own
  have hal : Below w'.heap.size w' (w'.alloc tmp) := (Below.refl _ _).alloc (Nat.le_refl _) _
  have hsz1 : w'.heap.size ≤ w1.heap.size := Nat.le_trans hal.size hg.size
  -- a row's block is not the list's own
  have far : ∀ (A : Option Addr) (xs : List Int), Obj1 t B w'.heap.size w' A xs → Obj1 t B w1.heap.size w1 A xs := by
    intro A xs ho
    have ho1 := (ho.later hal)
    rcases ho1 with e | ⟨g, e1, e2, e3, e4⟩
    · exact .inl e
    · refine .inr ⟨g, e1, e2, by omega, e4.of_block (hg.block g e4.lt (fun e => ?_))⟩
      rcases h.own.2 with ⟨hv, _⟩ | ⟨g', cap, cur, hv, _, hh, _⟩
      · rw [hv] at e; cases e
      · rw [hv] at e
        have e5 : g = g' := by simpa [Value.ownBlock] using e
        subst e5
        have hlt := (Array.getElem?_eq_some_iff.1 hh).1
        have h6 : (w'.alloc tmp).heap[g]? = some (.cells cur ts (0, 0)) := (hal.block g (Nat.lt_of_lt_of_le hlt hb.size)).trans ((hb.block g hlt).trans hh)
        obtain ⟨cur', h7, _⟩ := e4
        rw [h6] at h7
        injection h7 with h7
        injection h7 with _ h7
        exact hne h7
  refine ⟨by simpa using hown, fun i hi => ?_, fun i j u u' g hij hu hu' hug => ?_⟩
  · by_cases e : i < rows.length
    · obtain ⟨A', c', h1, h2⟩ := h.row i e
      have e1 : (rows ++ [r]).getD i [] = rows.getD i [] := by simp [List.getElem?_append_left e]
      rw [e1]
      exact ⟨A', c', by rw [List.getElem?_append_left (by omega)]; exact h1, far _ _ ((h2.later hb).mono (Nat.le_refl _) hb.size)⟩
    · have e2 : i = rows.length := by simp at hi; omega
      subst e2
      have e1 : (rows ++ [r]).getD rows.length [] = r := by simp
      rw [e1]
      exact ⟨A, c, by rw [List.getElem?_append_right (by omega), hl]; simp, far _ _ (hA.mono hB (Nat.le_refl _))⟩
  · by_cases e : j < vals.length
    · rw [List.getElem?_append_left (by omega)] at hu
      rw [List.getElem?_append_left e] at hu'
      exact h.ne i j u u' g hij hu hu' hug
    · have hj : j = vals.length := by
        have := (List.getElem?_eq_some_iff.1 hu').1
        simp at this
        omega
      subst hj
      rw [List.getElem?_append_left (by omega)] at hu
      rw [List.getElem?_append_right (by omega)] at hu'
      simp at hu'
      subst hu'
      obtain ⟨A', c', h1, h2⟩ := h.row i (by omega)
      rw [h1] at hu
      cases hu
      intro e5
      cases hA' : A' with
      | none => rw [hA'] at hug; cases hug
      | some a' =>
        rw [hA'] at hug
        cases hA'' : A with
        | none => rw [hA''] at e5; cases e5
        | some a =>
          rw [hA''] at e5
          have b1 := (h2.bounds a' hA').2
          have b2 := (hA.bounds a hA'').1
          have e6 : a'.block = g := by simpa [Value.ownBlock] using hug
          have e7 : a.block = g := by simpa [Value.ownBlock] using e5
          omega

/-- Blocks that hold cells of type t keep what they hold. -/
def KeepT (t : TypeId) (w w' : World) : Prop := ∀ (k : Nat) (cur : Array Value), w.heap[k]? = some (.cells cur t (0, 0)) → w'.heap[k]? = some (.cells cur t (0, 0))
theorem KeepT.refl (t : TypeId) (w : World) : KeepT t w w := fun _ _ h => h
theorem KeepT.trans {a b c : World} (h : KeepT t a b) (k : KeepT t b c) : KeepT t a c := fun j cur e => k j cur (h j cur e)
theorem KeepT.of_below (h : Below w.heap.size w w') : KeepT t w w' := fun k _ e => (h.block k (Array.getElem?_eq_some_iff.1 e).1).trans e
theorem KeepT.obj {lo hi : Nat} {A : Option Addr} {xs : List Int} (h : KeepT t w w') (o : Obj1 t lo hi w A xs) : Obj1 t lo hi w' A xs := by
  rcases o with e | ⟨g, e1, e2, e3, cur, e4, e5⟩
  · exact .inl e
  · exact .inr ⟨g, e1, e2, e3, cur, h g cur e4, e5⟩
theorem KeepT.of_grown {n : Nat} {xs : List Value} (hne : ts ≠ t) (ho : w.ownsRow B ts 1 v n xs) (hg : w.grownBy w' v.ownBlock) : KeepT t w w' := by
  intro k cur e
  refine (hg.block k (Array.getElem?_eq_some_iff.1 e).1 (fun e2 => ?_)).trans e
  rcases ho.2 with ⟨hv, _⟩ | ⟨g', cap, cur', hv, _, hh, _⟩
  · rw [hv] at e2; cases e2
  · rw [hv] at e2
    have e5 : k = g' := by simpa [Value.ownBlock] using e2
    subst e5
    rw [hh] at e
    injection e with e
    injection e with _ e
    exact hne e

/-- A row that lies in none of the list's blocks is appended. -/
theorem LstV.push2 {w1 : World} {v' : Value} {A : Option Addr} {c : Nat} {r : List Int} {tmp : Obj} (hne : ts ≠ t) (h : LstV ts t B w v rows vals) (hA : Obj1 t B w.heap.size w A r)
    (hdis : ∀ (i : Nat) (u : Value) (g : Nat), vals[i]? = some u → u.ownBlock = some g → ∀ a, A = some a → a.block ≠ g)
    (hown : w1.ownsRow B ts 1 v' (rows.length + 1) (vals ++ [.slice A r.length c])) (hg : (w.alloc tmp).grownBy w1 v.ownBlock) : LstV ts t B w1 v' (rows ++ [r]) (vals ++ [.slice A r.length c]) := by
  have hl := ownsRow_len h.own
  have hal : Below w.heap.size w (w.alloc tmp) := (Below.refl _ _).alloc (Nat.le_refl _) _
  have hsz1 : w.heap.size ≤ w1.heap.size := Nat.le_trans hal.size hg.size
  have hk : KeepT t w w1 := (KeepT.of_below hal).trans (KeepT.of_grown hne (ownsRow_below h.own hal) hg)
  refine ⟨by simpa using hown, fun i hi => ?_, fun i j u u' g hij hu hu' hug => ?_⟩
  · by_cases e : i < rows.length
    · obtain ⟨A', c', h1, h2⟩ := h.row i e
      have e1 : (rows ++ [r]).getD i [] = rows.getD i [] := by simp [List.getElem?_append_left e]
      rw [e1]
      exact ⟨A', c', by rw [List.getElem?_append_left (by omega)]; exact h1, (hk.obj h2).mono (Nat.le_refl _) hsz1⟩
    · have e2 : i = rows.length := by simp at hi; omega
      subst e2
      have e1 : (rows ++ [r]).getD rows.length [] = r := by simp
      rw [e1]
      exact ⟨A, c, by rw [List.getElem?_append_right (by omega), hl]; simp, (hk.obj hA).mono (Nat.le_refl _) hsz1⟩
  · by_cases e : j < vals.length
    · rw [List.getElem?_append_left (by omega)] at hu
      rw [List.getElem?_append_left e] at hu'
      exact h.ne i j u u' g hij hu hu' hug
    · have hj : j = vals.length := by
        have := (List.getElem?_eq_some_iff.1 hu').1
        simp at this
        omega
      subst hj
      rw [List.getElem?_append_left (by omega)] at hu
      rw [List.getElem?_append_right (by omega)] at hu'
      simp at hu'
      subst hu'
      intro e5
      cases hA'' : A with
      | none => rw [hA''] at e5; cases e5
      | some a =>
        rw [hA''] at e5
        have e7 : a.block = g := by simpa [Value.ownBlock] using e5
        exact hdis i u g hu hug a hA'' e7

/-- The blocks of the rows lie below the heap's end. -/
theorem LstV.low (h : LstV ts t B w v rows vals) : ∀ (i : Nat) (u : Value) (g : Nat), vals[i]? = some u → u.ownBlock = some g → g < w.heap.size := by
  intro i u g hu hg
  have hl := ownsRow_len h.own
  have hi : i < rows.length := by have := (List.getElem?_eq_some_iff.1 hu).1; omega
  obtain ⟨A, c, h1, h2⟩ := h.row i hi
  rw [h1] at hu
  cases hu
  cases hA : A with
  | none => rw [hA] at hg; cases hg
  | some a =>
    rw [hA] at hg
    have e : a.block = g := by simpa [Value.ownBlock] using hg
    rw [← e]
    exact (h2.bounds a hA).2

theorem LstV.of_blocks (h : LstV ts t B w v rows vals) (hb : ∀ k, B ≤ k → k < w.heap.size → w'.heap[k]? = w.heap[k]?) (hs : w.heap.size ≤ w'.heap.size) : LstV ts t B w' v rows vals := by
  refine ⟨?_, fun i hi => ?_, h.ne⟩
  · obtain ⟨h1, h2⟩ := h.own
    refine ⟨h1, ?_⟩
    rcases h2 with h2 | ⟨g, cap, cur, hv, hg, hh, r⟩
    · exact .inl h2
    · exact .inr ⟨g, cap, cur, hv, hg, (hb g hg (Array.getElem?_eq_some_iff.1 hh).1).trans hh, r⟩
  · obtain ⟨A, c, h1, h2⟩ := h.row i hi
    refine ⟨A, c, h1, ?_⟩
    rcases h2 with e | ⟨g, e1, e2, e3, e4⟩
    · exact .inl e
    · exact .inr ⟨g, e1, e2, by omega, e4.of_block (hb g e2 e3)⟩

theorem LstV.single {A : Option Addr} {c : Nat} {r : List Int} (hA : Obj1 t B w.heap.size w A r) (hB : B ≤ w.heap.size) : LstV ts t B (w.alloc (.cells #[.slice A r.length c] ts)) (.slice (some ⟨w.heap.size, 0, none⟩) 1 1) [r] [.slice A r.length c] := by
  refine ⟨⟨by simp, .inr ⟨w.heap.size, 1, _, rfl, hB, heap_alloc_new _ _, Nat.le_refl _, by unfold maxLen; omega, by simp, by simp⟩⟩, fun i hi => ?_, fun i j u u' g hij hu hu' => ?_⟩
  · have h0 : i = 0 := by simp at hi; omega
    subst h0
    exact ⟨A, c, by simp, (hA.later ((Below.refl _ _).alloc (Nat.le_refl _) _)).mono (Nat.le_refl _) (by simp)⟩
  · have h1 := (List.getElem?_eq_some_iff.1 hu').1
    simp at h1
    omega

theorem LstV.shape (h : LstV ts t B w v rows vals) : ∃ A c, v = .slice A rows.length c ∧ Obj2 ts t B w.heap.size w A rows := by
  have hl := ownsRow_len h.own
  rcases h.own.2 with ⟨hv, h0⟩ | ⟨g, cap, cur, hv, hg, hh, h1, h2, h3, h4⟩
  · exact ⟨none, 0, by rw [hv, h0], .inl ⟨rfl, List.eq_nil_of_length_eq_zero h0⟩⟩
  · refine ⟨_, cap, hv, .inr ⟨g, fun i => match vals[i]? with | some (.slice A _ _) => A | _ => none, fun i => match vals[i]? with | some (.slice _ _ c) => c | _ => 0, rfl, hg, (Array.getElem?_eq_some_iff.1 hh).1, ⟨cur, hh, fun i hi => ?_⟩, fun i hi => ?_, fun i j hi hj hne a b ha hb => ?_⟩⟩
    · obtain ⟨A, c, e1, _⟩ := h.row i hi
      simp only [e1]
      have h5 := e1
      rw [← h4, List.getElem?_take, if_pos (by omega)] at h5
      simpa using h5
    · obtain ⟨A, c, e1, e2⟩ := h.row i hi
      simp only [e1]
      exact e2
    · obtain ⟨A, c, e1, _⟩ := h.row i hi
      obtain ⟨A', c', e1', _⟩ := h.row j hj
      simp only [e1] at ha
      simp only [e1'] at hb
      subst ha
      subst hb
      intro e
      rcases Nat.lt_or_ge i j with hlt | hge
      · exact h.ne i j _ _ a.block hlt e1 e1' (by simp [Value.ownBlock]) (by simp [Value.ownBlock, e])
      · exact h.ne j i _ _ a.block (by omega) e1' e1 (by simp [Value.ownBlock, e]) (by simp [Value.ownBlock])

end
end Go.Proofs.Ythnkhljgealjdaa
namespace Go.Proofs.Ythnkhljgealjdaa
open Go Go.RowKit
theorem al_below {a b : World} {o : Obj} (h : a = b.alloc o) : Below b.heap.size b a := h ▸ (Below.refl _ _).alloc (Nat.le_refl _) _
theorem al_drew_below {a b : World} {o : Obj} (h : a = (b.alloc o).drew) : Below b.heap.size b a := h ▸ ((Below.refl _ _).alloc (Nat.le_refl _) _).drew
theorem blk_al {a b : World} {t : TypeId} {cs : List Value} (h : a = b.alloc (.cells cs.toArray t)) : Blk a b.heap.size t cs := h ▸ Blk.new _ _ _
theorem blk_al_drew {a b : World} {t : TypeId} {cs : List Value} (h : a = (b.alloc (.cells cs.toArray t)).drew) : Blk a b.heap.size t cs := h ▸ (Blk.new _ _ _ : Blk (b.alloc (.cells cs.toArray t)) _ _ _)
end Go.Proofs.Ythnkhljgealjdaa
namespace Go.Proofs.Ythnkhljgealjdaa
open Go Go.RowKit

theorem ObjZ.set {ts t : TypeId} {lo hi : Nat} {w : World} {A B : Option Addr} {f s : List (List Int)} (h : ObjZ ts t lo hi w A f B s) {p : Addr} (hp : p.block < lo ∨ hi ≤ p.block) (v : Value) : ObjZ ts t lo hi (w.setCell p v) A f B s := by
  obtain ⟨mid, h1, h2, h3, h4⟩ := h
  exact ⟨mid, h1, h2, h3.set (by omega) v, h4.set (by omega) v⟩
theorem ObjW.set {ts t : TypeId} {lo hi : Nat} {w : World} {A B : Option Addr} {f s : List (List Int)} (h : ObjW ts t lo hi w A f B s) {p : Addr} (hp : p.block < lo ∨ hi ≤ p.block) (v : Value) : ObjW ts t lo hi (w.setCell p v) A f B s :=
  ⟨h.1.set hp v, h.2.set hp v⟩

/-- The two tables of a result are laid into its box. -/
theorem zend {ts t tz : TypeId} {w w2 w3 wf : World} {r : Nat} {A B : Option Addr} {n c m d : Nat} {f s : List (List Int)} {u v : Value} (hwf : wf = (w3.setCell ⟨r, 0, none⟩ (.slice A n c)).setCell ⟨r, 1, none⟩ (.slice B m d)) (hr : Blk w3 r tz [u, v]) (hr0 : w.heap.size ≤ r) (hr2 : r < w2.heap.size) (hb : Below w.heap.size w w3) (h2 : w.heap.size ≤ w2.heap.size) (ho : ObjZ ts t w2.heap.size w3.heap.size w3 A f B s) :
    wf.cell? ⟨r, 0, none⟩ = some (.slice A n c) ∧ wf.cell? ⟨r, 1, none⟩ = some (.slice B m d) ∧ Below w.heap.size w wf ∧ ObjZ ts t w.heap.size wf.heap.size wf A f B s := by
  have hR : Blk wf r tz [.slice A n c, .slice B m d] := by rw [hwf]; exact (hr.set 0 _).set 1 _
  refine ⟨hR.cell 0 _ rfl, hR.cell 1 _ rfl, ?_, ?_⟩
  · rw [hwf]; exact (hb.setCell (p := ⟨r, 0, none⟩) hr0 _).setCell (p := ⟨r, 1, none⟩) hr0 _
  · rw [hwf]; exact ((ho.set (p := ⟨r, 0, none⟩) (.inl hr2) _).set (p := ⟨r, 1, none⟩) (.inl hr2) _).mono h2 (by simp [World.setCell])
theorem wend {ts t tz : TypeId} {w w2 w3 wf : World} {r : Nat} {A B : Option Addr} {n c m d : Nat} {f s : List (List Int)} {u v : Value} (hwf : wf = (w3.setCell ⟨r, 0, none⟩ (.slice A n c)).setCell ⟨r, 1, none⟩ (.slice B m d)) (hr : Blk w3 r tz [u, v]) (hr0 : w.heap.size ≤ r) (hr2 : r < w2.heap.size) (hb : Below w.heap.size w w3) (h2 : w.heap.size ≤ w2.heap.size) (ho : ObjW ts t w2.heap.size w3.heap.size w3 A f B s) :
    wf.cell? ⟨r, 0, none⟩ = some (.slice A n c) ∧ wf.cell? ⟨r, 1, none⟩ = some (.slice B m d) ∧ Below w.heap.size w wf ∧ ObjW ts t w.heap.size wf.heap.size wf A f B s := by
  have hR : Blk wf r tz [.slice A n c, .slice B m d] := by rw [hwf]; exact (hr.set 0 _).set 1 _
  refine ⟨hR.cell 0 _ rfl, hR.cell 1 _ rfl, ?_, ?_⟩
  · rw [hwf]; exact (hb.setCell (p := ⟨r, 0, none⟩) hr0 _).setCell (p := ⟨r, 1, none⟩) hr0 _
  · rw [hwf]; exact ((ho.set (p := ⟨r, 0, none⟩) (.inl hr2) _).set (p := ⟨r, 1, none⟩) (.inl hr2) _).mono h2 (by simp [World.setCell])

/-- A table among the blocks from lo on. -/
def ObjT (ts t : TypeId) (lo : Nat) (w : World) (A : Option Addr) (rows : List (List Int)) : Prop := Obj2 ts t lo w.heap.size w A rows
theorem ObjT.of {ts t : TypeId} {lo lo' hi : Nat} {w : World} {A : Option Addr} {rows : List (List Int)} (h : Obj2 ts t lo hi w A rows) (h1 : lo' ≤ lo) (h2 : hi ≤ w.heap.size) : ObjT ts t lo' w A rows := h.mono h1 h2
theorem ObjT.later {ts t : TypeId} {lo : Nat} {w w' : World} {A : Option Addr} {rows : List (List Int)} (h : ObjT ts t lo w A rows) (hb : Below w.heap.size w w') : ObjT ts t lo w' A rows := (Obj2.later h hb).mono (Nat.le_refl _) hb.size
theorem ObjT.rd {ts t : TypeId} {lo : Nat} {w : World} {A : Option Addr} {rows : List (List Int)} (h : ObjT ts t lo w A rows) : Rd2 w A rows := Obj2.rd h
theorem wend2 {ts t tz : TypeId} {w w3 wf : World} {r : Nat} {A B : Option Addr} {n c m d : Nat} {f s : List (List Int)} {u v : Value} (hwf : wf = (w3.setCell ⟨r, 0, none⟩ (.slice A n c)).setCell ⟨r, 1, none⟩ (.slice B m d)) (hr : Blk w3 r tz [u, v]) (hr0 : w.heap.size ≤ r) (hb : Below w.heap.size w w3) (h1 : ObjT ts t (r + 1) w3 A f) (h2 : ObjT ts t (r + 1) w3 B s) :
    wf.cell? ⟨r, 0, none⟩ = some (.slice A n c) ∧ wf.cell? ⟨r, 1, none⟩ = some (.slice B m d) ∧ Below w.heap.size w wf ∧ ObjW ts t w.heap.size wf.heap.size wf A f B s := by
  have hR : Blk wf r tz [.slice A n c, .slice B m d] := by rw [hwf]; exact (hr.set 0 _).set 1 _
  have ho : ObjW ts t (r + 1) w3.heap.size w3 A f B s := ⟨h1, h2⟩
  refine ⟨hR.cell 0 _ rfl, hR.cell 1 _ rfl, ?_, ?_⟩
  · rw [hwf]; exact (hb.setCell (p := ⟨r, 0, none⟩) hr0 _).setCell (p := ⟨r, 1, none⟩) hr0 _
  · rw [hwf]; exact ((ho.set (p := ⟨r, 0, none⟩) (.inl (Nat.lt_succ_self r)) _).set (p := ⟨r, 1, none⟩) (.inl (Nat.lt_succ_self r)) _).mono (by omega) (by simp [World.setCell])
end Go.Proofs.Ythnkhljgealjdaa
