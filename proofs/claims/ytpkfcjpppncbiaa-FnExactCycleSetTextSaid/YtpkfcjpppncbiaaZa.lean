import Derived.WalkKit
import Derived.Deep.OwnRows
import Derived.Deep.QuietTactic
import Derived.BigQuiet
import Derived.Deep.LoopGhost
import Derived.WalkSpells
import Derived.WalkLawsBesides
import Derived.Deep.RegionHeld3
import Derived.StillTactics
import Derived.Tactics2
import Derived.Deep.DeepMust
namespace Go.Proofs.Ytpkfcjpppncbiaa
open Go Go.RowKit
/-- A fact kept from the walk. -/
theorem hide {p : Prop} (h : p) : Hid p := h

/-- The header (A, n) reads as the numbers xs. -/
def Rd (w : World) (A : Option Addr) (xs : List Int) : Prop :=
  0 < xs.length → ∃ b o, A = some ⟨b, o, none⟩ ∧ b < w.heap.size ∧ ∀ i, i < xs.length → w.cell? ⟨b, o + i, none⟩ = some (.int .i64 (xs.getD i 0))

def ints (xs : List Int) : List Value := xs.map (Value.int .i64)

theorem ints_length (xs : List Int) : (ints xs).length = xs.length := by simp [ints]

theorem Rd.nil {w : World} {A : Option Addr} : Rd w A [] := fun h => absurd h (by simp)

theorem Rd.below {w w' : World} {B : Nat} {A : Option Addr} {xs : List Int} (h : Rd w A xs) (hb : Below B w w') (hB : ∀ a, A = some a → a.block < B) : Rd w' A xs := by
  intro hn
  obtain ⟨b, o, rfl, hlt, hc⟩ := h hn
  exact ⟨b, o, rfl, Nat.lt_of_lt_of_le hlt hb.size, fun i hi => (hb.cell (p := ⟨b, o + i, none⟩) (by have := hB _ rfl; exact this)).trans (hc i hi)⟩

theorem Rd.later {w w' : World} {A : Option Addr} {xs : List Int} (h : Rd w A xs) (hb : Below w.heap.size w w') : Rd w' A xs := by
  intro hn
  obtain ⟨b, o, rfl, hlt, hc⟩ := h hn
  exact ⟨b, o, rfl, Nat.lt_of_lt_of_le hlt hb.size, fun i hi => (hb.cell (p := ⟨b, o + i, none⟩) hlt).trans (hc i hi)⟩

theorem Rd.own {w : World} {B : Nat} {t : TypeId} {A : Option Addr} {n c : Nat} {xs : List Int} (h : w.ownsRow B t 1 (.slice A n c) n (ints xs)) : Rd w A xs := by
  intro hn
  obtain ⟨hl, h⟩ := h
  rw [ints_length] at hl
  rcases h with ⟨hv, h0⟩ | ⟨g, cap, cur, hv, hg, hh, h1, h2, h3, h4⟩
  · omega
  · injection hv with e1 e2 e3
    subst e1
    subst e3
    have hlt : g < w.heap.size := (Array.getElem?_eq_some_iff.1 hh).1
    refine ⟨g, 0, rfl, hlt, fun i hi => ?_⟩
    have hx := World.ownsRow.cellAt (w := w) (base := B) (e := t) (size := 1) (g := g) (n := n) (cap := c) (xs := ints xs) ⟨by rw [ints_length]; omega, .inr ⟨g, c, cur, rfl, hg, hh, h1, h2, h3, h4⟩⟩ i (by omega)
    rw [Nat.zero_add, hx]
    simp [ints, hi]


/-- Block g is just the numbers xs. -/
def Row (t : TypeId) (w : World) (g : Nat) (xs : List Int) : Prop := w.heap[g]? = some (.cells (ints xs).toArray t (0, 0))

theorem Row.lt {t : TypeId} {w : World} {g : Nat} {xs : List Int} (h : Row t w g xs) : g < w.heap.size := (Array.getElem?_eq_some_iff.1 h).1

theorem Row.cell {t : TypeId} {w : World} {g : Nat} {xs : List Int} (h : Row t w g xs) {i : Nat} (hi : i < xs.length) : w.cell? ⟨g, i, none⟩ = some (.int .i64 (xs.getD i 0)) := by
  rw [cell_of_row w g i _ t (0, 0) h]
  simp [ints, hi]

theorem Row.frozen {t : TypeId} {w : World} {g : Nat} {xs : List Int} (h : Row t w g xs) (i : Nat) : w.frozen? ⟨g, i, none⟩ = false := by
  unfold Row at h
  simp [World.frozen?, h]

theorem Row.rd {t : TypeId} {w : World} {g : Nat} {xs : List Int} (h : Row t w g xs) : Rd w (some ⟨g, 0, none⟩) xs :=
  fun _ => ⟨g, 0, rfl, h.lt, fun i hi => by rw [Nat.zero_add]; exact h.cell hi⟩

theorem Row.set {t : TypeId} {w : World} {g : Nat} {xs : List Int} (h : Row t w g xs) (i : Nat) (v : Int) : Row t (w.setCell ⟨g, i, none⟩ (.int .i64 v)) g (xs.set i v) := by
  unfold Row at h ⊢
  simp [World.setCell, Array.getElem?_modify, h, ints, List.map_set]

theorem Row.far {t : TypeId} {w : World} {g : Nat} {xs : List Int} (h : Row t w g xs) {p : Addr} (hp : g ≠ p.block) (v : Value) : Row t (w.setCell p v) g xs := (Below.heap_setCell w p v g hp).trans h

theorem Row.later {t : TypeId} {w w' : World} {B : Nat} {g : Nat} {xs : List Int} (h : Row t w g xs) (hb : Below B w w') (hg : g < B) : Row t w' g xs := (hb.block g hg).trans h

theorem Row.made (t : TypeId) (w : World) (n : Nat) : Row t (w.alloc (.cells (madeCells #[.int .i64 0] n) t)) w.heap.size (List.replicate n 0) := by
  unfold Row
  rw [heap_alloc_new]
  have : madeCells #[.int .i64 0] n = (ints (List.replicate n 0)).toArray := by
    apply Array.toList_inj.1
    rw [toList_madeCells_one]
    simp [ints]
  rw [this]

theorem fill_step (xs : List Int) (n k : Nat) (hn : xs.length = n) (hk : k < n) :
    (xs.take k ++ List.replicate (n - k) 0).set k (xs.getD k 0) = xs.take (k + 1) ++ List.replicate (n - (k + 1)) 0 := by
  apply List.ext_getElem?
  intro i
  rw [List.getElem?_set]
  simp only [List.length_append, List.length_take, List.length_replicate, List.getElem?_append, List.getElem?_replicate, List.getElem?_take, List.getD_eq_getElem?_getD]
  by_cases h1 : k = i
  · subst h1
    have h : k < xs.length := by omega
    have h2 : min k xs.length = k := by omega
    have h3 : min (k + 1) xs.length = k + 1 := by omega
    simp [h, h2, h3]
    omega
  · rw [if_neg h1]
    by_cases h2 : i < k
    · rw [if_pos (by omega), if_pos h2, if_pos (by omega), if_pos (by omega)]
    · rw [if_neg (by omega)]
      by_cases h3 : i < n
      · rw [if_pos (by omega), if_neg (by omega), if_pos (by omega)]
      · rw [if_neg (by omega), if_neg (by omega), if_neg (by omega)]

/-- The header (A, rows.length) reads as a list of rows. -/
def Rd2 (w : World) (A : Option Addr) (rows : List (List Int)) : Prop :=
  0 < rows.length → ∃ b o, A = some ⟨b, o, none⟩ ∧ b < w.heap.size ∧ ∀ i, i < rows.length → ∃ Ai ci, w.cell? ⟨b, o + i, none⟩ = some (.slice Ai (rows.getD i []).length ci) ∧ Rd w Ai (rows.getD i [])

theorem Rd2.later {w w' : World} {A : Option Addr} {rows : List (List Int)} (h : Rd2 w A rows) (hb : Below w.heap.size w w') : Rd2 w' A rows := by
  intro hn
  obtain ⟨b, o, rfl, hlt, hc⟩ := h hn
  refine ⟨b, o, rfl, Nat.lt_of_lt_of_le hlt hb.size, fun i hi => ?_⟩
  obtain ⟨Ai, ci, h1, h2⟩ := hc i hi
  exact ⟨Ai, ci, (hb.cell (p := ⟨b, o + i, none⟩) hlt).trans h1, h2.later hb⟩

/-- Block g is a list of slices of numbers, row i in the block G i. -/
structure Tab (ts t : TypeId) (w : World) (g : Nat) (G : Nat → Nat) (rows : List (List Int)) : Prop where
  top : w.rowIs g ts rows.length (fun i => .slice (some ⟨G i, 0, none⟩) (rows.getD i []).length (rows.getD i []).length)
  row : ∀ i, i < rows.length → Row t w (G i) (rows.getD i [])

theorem Tab.rd {ts t : TypeId} {w : World} {g : Nat} {G : Nat → Nat} {rows : List (List Int)} (h : Tab ts t w g G rows) : Rd2 w (some ⟨g, 0, none⟩) rows :=
  fun _ => ⟨g, 0, rfl, h.top.lt, fun i hi => ⟨_, _, by rw [Nat.zero_add]; exact h.top.cell hi, (h.row i hi).rd⟩⟩

theorem Tab.later {ts t : TypeId} {w w' : World} {B : Nat} {g : Nat} {G : Nat → Nat} {rows : List (List Int)} (h : Tab ts t w g G rows) (hb : Below B w w') (hg : g < B) (hG : ∀ i, i < rows.length → G i < B) : Tab ts t w' g G rows :=
  ⟨h.top.of_block (hb.block g hg), fun i hi => (h.row i hi).later hb (hG i hi)⟩

/-- Nothing but draws. -/
def Quiet (w w' : World) : Prop := ∃ q, w' = w.drewN q
theorem Quiet.refl (w : World) : Quiet w w := ⟨0, rfl⟩
theorem Quiet.drewN {w w' : World} (h : Quiet w w') (q : Nat) : Quiet w (w'.drewN q) := by
  obtain ⟨p, rfl⟩ := h
  exact ⟨p + q, World.drewN_drewN ..⟩
theorem Quiet.trans {a b c : World} (h : Quiet a b) (k : Quiet b c) : Quiet a c := by
  obtain ⟨q, rfl⟩ := k
  exact h.drewN q
theorem Quiet.of (w : World) (q : Nat) : Quiet w (w.drewN q) := ⟨q, rfl⟩
theorem Quiet.below {w w' : World} (h : Quiet w w') (B : Nat) : Below B w w' := by
  obtain ⟨p, rfl⟩ := h
  exact ⟨rfl, rfl, rfl, Nat.le_refl _, fun _ _ => rfl⟩
theorem Quiet.cell {w w' : World} (h : Quiet w w') (a : Addr) : w'.cell? a = w.cell? a := by
  obtain ⟨p, rfl⟩ := h
  rfl
theorem Quiet.rd {w w' : World} {A : Option Addr} {xs : List Int} (h : Quiet w w') (r : Rd w A xs) : Rd w' A xs := by
  obtain ⟨p, rfl⟩ := h
  exact r
theorem Quiet.rd2 {w w' : World} {A : Option Addr} {rows : List (List Int)} (h : Quiet w w') (r : Rd2 w A rows) : Rd2 w' A rows := by
  obtain ⟨p, rfl⟩ := h
  exact r
theorem Quiet.size {w w' : World} (h : Quiet w w') : w'.heap.size = w.heap.size := by
  obtain ⟨p, rfl⟩ := h
  rfl
theorem quiet_call {P : Program} {f : FuncId} {args : Array Value} {w : World} {n : Nat} {v : Value}
    (h : Calls P f args (w.drewN n) fun e w' => e = .returned v ∧ Quiet (w.drewN n) w') : Calls P f args (w.drewN n) fun e w'' => e = .returned v ∧ ∃ m, w'' = w.drewN m :=
  Calls.quiet_of (h.mono fun _ _ hh => hh)

/-- What a table is. -/
def Tbl (rows : List (List Int)) : Prop :=
  1 ≤ rows.length ∧ rows.length ≤ 12 ∧ ∀ i, i < rows.length → (rows.getD i []).length = rows.length ∧ ∀ j, j < rows.length → 0 ≤ (rows.getD i []).getD j 0 ∧ (rows.getD i []).getD j 0 < (rows.length : Int)
/-- Row of a table of n elements. -/
def RowOk (n : Nat) (x : List Int) : Prop := x.length = n ∧ ∀ j, j < n → 0 ≤ x.getD j 0 ∧ x.getD j 0 < (n : Int)

end Go.Proofs.Ytpkfcjpppncbiaa

