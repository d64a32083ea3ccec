import Derived.WalkKit
import Derived.Deep.OwnRows
import Derived.Deep.QuietTactic
import Derived.BigQuiet
import Derived.Deep.LoopGhost
import Derived.WalkSpells
import Derived.WalkLawsBesides
import Derived.Deep.RegionHeld3
import Derived.StillTactics
import Derived.Tactics2
import Derived.Deep.DeepMust
import Derived.Test.YtbhlcfcmjildmaaProg
import Derived.ChangeKeysEq
import Derived.Maps.Own
import Derived.Maps.Views
import Derived.WideKeyEntry
import Derived.DeepKeys4
import Derived.MapViews
import Derived.WalkArith
namespace Go.Proofs.Ytbhlcfcmjildmaa
open Go Go.RowKit
/-- A fact kept from the walk. -/
theorem hide {p : Prop} (h : p) : Hid p := h

/-- The header (A, n) reads as the numbers xs. -/
def Rd (w : World) (A : Option Addr) (xs : List Int) : Prop :=
  0 < xs.length → ∃ b o, A = some ⟨b, o, none⟩ ∧ b < w.heap.size ∧ ∀ i, i < xs.length → w.cell? ⟨b, o + i, none⟩ = some (.int .i64 (xs.getD i 0))

def ints (xs : List Int) : List Value := xs.map (Value.int .i64)

theorem ints_length (xs : List Int) : (ints xs).length = xs.length := by simp [ints]

theorem Rd.nil {w : World} {A : Option Addr} : Rd w A [] := fun h => absurd h (by simp)

theorem Rd.below {w w' : World} {B : Nat} {A : Option Addr} {xs : List Int} (h : Rd w A xs) (hb : Below B w w') (hB : ∀ a, A = some a → a.block < B) : Rd w' A xs := by
  intro hn
  obtain ⟨b, o, rfl, hlt, hc⟩ := h hn
  exact ⟨b, o, rfl, Nat.lt_of_lt_of_le hlt hb.size, fun i hi => (hb.cell (p := ⟨b, o + i, none⟩) (by have := hB _ rfl; exact this)).trans (hc i hi)⟩

theorem Rd.later {w w' : World} {A : Option Addr} {xs : List Int} (h : Rd w A xs) (hb : Below w.heap.size w w') : Rd w' A xs := by
  intro hn
  obtain ⟨b, o, rfl, hlt, hc⟩ := h hn
  exact ⟨b, o, rfl, Nat.lt_of_lt_of_le hlt hb.size, fun i hi => (hb.cell (p := ⟨b, o + i, none⟩) hlt).trans (hc i hi)⟩

theorem Rd.own {w : World} {B : Nat} {t : TypeId} {A : Option Addr} {n c : Nat} {xs : List Int} (h : w.ownsRow B t 1 (.slice A n c) n (ints xs)) : Rd w A xs := by
  intro hn
  obtain ⟨hl, h⟩ := h
  rw [ints_length] at hl
  rcases h with ⟨hv, h0⟩ | ⟨g, cap, cur, hv, hg, hh, h1, h2, h3, h4⟩
  · omega
  · injection hv with e1 e2 e3
    subst e1
    subst e3
    have hlt : g < w.heap.size := (Array.getElem?_eq_some_iff.1 hh).1
    refine ⟨g, 0, rfl, hlt, fun i hi => ?_⟩
    have hx := World.ownsRow.cellAt (w := w) (base := B) (e := t) (size := 1) (g := g) (n := n) (cap := c) (xs := ints xs) ⟨by rw [ints_length]; omega, .inr ⟨g, c, cur, rfl, hg, hh, h1, h2, h3, h4⟩⟩ i (by omega)
    rw [Nat.zero_add, hx]
    simp [ints, hi]


/-- Block g is just the numbers xs. -/
def Row (t : TypeId) (w : World) (g : Nat) (xs : List Int) : Prop := w.heap[g]? = some (.cells (ints xs).toArray t (0, 0))

theorem Row.lt {t : TypeId} {w : World} {g : Nat} {xs : List Int} (h : Row t w g xs) : g < w.heap.size := (Array.getElem?_eq_some_iff.1 h).1

theorem Row.cell {t : TypeId} {w : World} {g : Nat} {xs : List Int} (h : Row t w g xs) {i : Nat} (hi : i < xs.length) : w.cell? ⟨g, i, none⟩ = some (.int .i64 (xs.getD i 0)) := by
  rw [cell_of_row w g i _ t (0, 0) h]
  simp [ints, hi]

theorem Row.frozen {t : TypeId} {w : World} {g : Nat} {xs : List Int} (h : Row t w g xs) (i : Nat) : w.frozen? ⟨g, i, none⟩ = false := by
  unfold Row at h
  simp [World.frozen?, h]

theorem Row.rd {t : TypeId} {w : World} {g : Nat} {xs : List Int} (h : Row t w g xs) : Rd w (some ⟨g, 0, none⟩) xs :=
  fun _ => ⟨g, 0, rfl, h.lt, fun i hi => by rw [Nat.zero_add]; exact h.cell hi⟩

theorem Row.set {t : TypeId} {w : World} {g : Nat} {xs : List Int} (h : Row t w g xs) (i : Nat) (v : Int) : Row t (w.setCell ⟨g, i, none⟩ (.int .i64 v)) g (xs.set i v) := by
  unfold Row at h ⊢
  simp [World.setCell, Array.getElem?_modify, h, ints, List.map_set]

theorem Row.far {t : TypeId} {w : World} {g : Nat} {xs : List Int} (h : Row t w g xs) {p : Addr} (hp : g ≠ p.block) (v : Value) : Row t (w.setCell p v) g xs := (Below.heap_setCell w p v g hp).trans h

theorem Row.later {t : TypeId} {w w' : World} {B : Nat} {g : Nat} {xs : List Int} (h : Row t w g xs) (hb : Below B w w') (hg : g < B) : Row t w' g xs := (hb.block g hg).trans h

theorem Row.made (t : TypeId) (w : World) (n : Nat) : Row t (w.alloc (.cells (madeCells #[.int .i64 0] n) t)) w.heap.size (List.replicate n 0) := by
  unfold Row
  rw [heap_alloc_new]
  have : madeCells #[.int .i64 0] n = (ints (List.replicate n 0)).toArray := by
    apply Array.toList_inj.1
    rw [toList_madeCells_one]
    simp [ints]
  rw [this]

theorem fill_step (xs : List Int) (n k : Nat) (hn : xs.length = n) (hk : k < n) :
    (xs.take k ++ List.replicate (n - k) 0).set k (xs.getD k 0) = xs.take (k + 1) ++ List.replicate (n - (k + 1)) 0 := by
  apply List.ext_getElem?
  intro i
  rw [List.getElem?_set]
  simp only [List.length_append, List.length_take, List.length_replicate, List.getElem?_append, List.getElem?_replicate, List.getElem?_take, List.getD_eq_getElem?_getD]
  by_cases h1 : k = i
  · subst h1
    have h : k < xs.length := by omega
    have h2 : min k xs.length = k := by omega
    have h3 : min (k + 1) xs.length = k + 1 := by omega
    simp [h, h2, h3]
    omega
  · rw [if_neg h1]
    by_cases h2 : i < k
    · rw [if_pos (by omega), if_pos h2, if_pos (by omega), if_pos (by omega)]
    · rw [if_neg (by omega)]
      by_cases h3 : i < n
      · rw [if_pos (by omega), if_neg (by omega), if_pos (by omega)]
      · rw [if_neg (by omega), if_neg (by omega), if_neg (by omega)]

/-- The header (A, rows.length) reads as a list of rows. -/
def Rd2 (w : World) (A : Option Addr) (rows : List (List Int)) : Prop :=
  0 < rows.length → ∃ b o, A = some ⟨b, o, none⟩ ∧ b < w.heap.size ∧ ∀ i, i < rows.length → ∃ Ai ci, w.cell? ⟨b, o + i, none⟩ = some (.slice Ai (rows.getD i []).length ci) ∧ Rd w Ai (rows.getD i [])

theorem Rd2.later {w w' : World} {A : Option Addr} {rows : List (List Int)} (h : Rd2 w A rows) (hb : Below w.heap.size w w') : Rd2 w' A rows := by
  intro hn
  obtain ⟨b, o, rfl, hlt, hc⟩ := h hn
  refine ⟨b, o, rfl, Nat.lt_of_lt_of_le hlt hb.size, fun i hi => ?_⟩
  obtain ⟨Ai, ci, h1, h2⟩ := hc i hi
  exact ⟨Ai, ci, (hb.cell (p := ⟨b, o + i, none⟩) hlt).trans h1, h2.later hb⟩

/-- Block g is a list of slices of numbers, row i in the block G i. -/
structure Tab (ts t : TypeId) (w : World) (g : Nat) (G : Nat → Nat) (rows : List (List Int)) : Prop where
  top : w.rowIs g ts rows.length (fun i => .slice (some ⟨G i, 0, none⟩) (rows.getD i []).length (rows.getD i []).length)
  row : ∀ i, i < rows.length → Row t w (G i) (rows.getD i [])

theorem Tab.rd {ts t : TypeId} {w : World} {g : Nat} {G : Nat → Nat} {rows : List (List Int)} (h : Tab ts t w g G rows) : Rd2 w (some ⟨g, 0, none⟩) rows :=
  fun _ => ⟨g, 0, rfl, h.top.lt, fun i hi => ⟨_, _, by rw [Nat.zero_add]; exact h.top.cell hi, (h.row i hi).rd⟩⟩

theorem Tab.later {ts t : TypeId} {w w' : World} {B : Nat} {g : Nat} {G : Nat → Nat} {rows : List (List Int)} (h : Tab ts t w g G rows) (hb : Below B w w') (hg : g < B) (hG : ∀ i, i < rows.length → G i < B) : Tab ts t w' g G rows :=
  ⟨h.top.of_block (hb.block g hg), fun i hi => (h.row i hi).later hb (hG i hi)⟩

/-- Nothing but draws. -/
def Quiet (w w' : World) : Prop := ∃ q, w' = w.drewN q
theorem Quiet.refl (w : World) : Quiet w w := ⟨0, rfl⟩
theorem Quiet.drewN {w w' : World} (h : Quiet w w') (q : Nat) : Quiet w (w'.drewN q) := by
  obtain ⟨p, rfl⟩ := h
  exact ⟨p + q, World.drewN_drewN ..⟩
theorem Quiet.trans {a b c : World} (h : Quiet a b) (k : Quiet b c) : Quiet a c := by
  obtain ⟨q, rfl⟩ := k
  exact h.drewN q
theorem Quiet.of (w : World) (q : Nat) : Quiet w (w.drewN q) := ⟨q, rfl⟩
theorem Quiet.below {w w' : World} (h : Quiet w w') (B : Nat) : Below B w w' := by
  obtain ⟨p, rfl⟩ := h
  exact ⟨rfl, rfl, rfl, Nat.le_refl _, fun _ _ => rfl⟩
theorem Quiet.cell {w w' : World} (h : Quiet w w') (a : Addr) : w'.cell? a = w.cell? a := by
  obtain ⟨p, rfl⟩ := h
  rfl
theorem Quiet.rd {w w' : World} {A : Option Addr} {xs : List Int} (h : Quiet w w') (r : Rd w A xs) : Rd w' A xs := by
  obtain ⟨p, rfl⟩ := h
  exact r
theorem Quiet.rd2 {w w' : World} {A : Option Addr} {rows : List (List Int)} (h : Quiet w w') (r : Rd2 w A rows) : Rd2 w' A rows := by
  obtain ⟨p, rfl⟩ := h
  exact r
theorem Quiet.size {w w' : World} (h : Quiet w w') : w'.heap.size = w.heap.size := by
  obtain ⟨p, rfl⟩ := h
  rfl
theorem quiet_call {P : Program} {f : FuncId} {args : Array Value} {w : World} {n : Nat} {v : Value}
    (h : Calls P f args (w.drewN n) fun e w' => e = .returned v ∧ Quiet (w.drewN n) w') : Calls P f args (w.drewN n) fun e w'' => e = .returned v ∧ ∃ m, w'' = w.drewN m :=
  Calls.quiet_of (h.mono fun _ _ hh => hh)

/-- What a table is. -/
def Tbl (rows : List (List Int)) : Prop :=
  1 ≤ rows.length ∧ rows.length ≤ 12 ∧ ∀ i, i < rows.length → (rows.getD i []).length = rows.length ∧ ∀ j, j < rows.length → 0 ≤ (rows.getD i []).getD j 0 ∧ (rows.getD i []).getD j 0 < (rows.length : Int)
/-- Row of a table of n elements. -/
def RowOk (n : Nat) (x : List Int) : Prop := x.length = n ∧ ∀ j, j < n → 0 ≤ x.getD j 0 ∧ x.getD j 0 < (n : Int)

end Go.Proofs.Ytbhlcfcmjildmaa

namespace Go.Proofs.Ytbhlcfcmjildmaa
open Go Go.RowKit

/-- Block g begins with the numbers xs. -/
def OwnB (t : TypeId) (w : World) (g : Nat) (xs : List Int) : Prop :=
  ∃ cur : Array Value, w.heap[g]? = some (.cells cur t (0, 0)) ∧ ∀ i, i < xs.length → cur[i]? = some (.int .i64 (xs.getD i 0))

section
variable {t : TypeId} {w w' : World} {g : Nat} {xs : List Int}

theorem OwnB.lt (h : OwnB t w g xs) : g < w.heap.size := by
  obtain ⟨cur, h1, _⟩ := h
  exact (Array.getElem?_eq_some_iff.1 h1).1

theorem OwnB.cell (h : OwnB t w g xs) {i : Nat} (hi : i < xs.length) : w.cell? ⟨g, i, none⟩ = some (.int .i64 (xs.getD i 0)) := by
  obtain ⟨cur, h1, h2⟩ := h
  rw [cell_of_row w g i cur t (0, 0) h1]
  exact h2 i hi

theorem OwnB.frozen (h : OwnB t w g xs) (i : Nat) : w.frozen? ⟨g, i, none⟩ = false := by
  obtain ⟨cur, h1, _⟩ := h
  simp [World.frozen?, h1]

theorem OwnB.rd (h : OwnB t w g xs) : Rd w (some ⟨g, 0, none⟩) xs :=
  fun _ => ⟨g, 0, rfl, h.lt, fun i hi => by rw [Nat.zero_add]; exact h.cell hi⟩

theorem OwnB.set (h : OwnB t w g xs) (i : Nat) (v : Int) (hi : i < xs.length) : OwnB t (w.setCell ⟨g, i, none⟩ (.int .i64 v)) g (xs.set i v) := by
  obtain ⟨cur, h1, h2⟩ := h
  refine ⟨cur.setIfInBounds i (.int .i64 v), by simp [World.setCell, Array.getElem?_modify, h1], fun j hj => ?_⟩
  rw [List.length_set] at hj
  have hic : i < cur.size := by
    have := h2 i hi
    exact (Array.getElem?_eq_some_iff.1 this).1
  rw [Array.getElem?_setIfInBounds]
  by_cases e : i = j
  · subst e
    simp [hic, hi]
  · rw [if_neg e, h2 j hj]
    simp [hj, e]

theorem OwnB.far (h : OwnB t w g xs) {p : Addr} (hp : g ≠ p.block) (v : Value) : OwnB t (w.setCell p v) g xs := by
  obtain ⟨cur, h1, h2⟩ := h
  exact ⟨cur, (Below.heap_setCell w p v g hp).trans h1, h2⟩

theorem OwnB.of_block (h : OwnB t w g xs) (e : w'.heap[g]? = w.heap[g]?) : OwnB t w' g xs := by
  obtain ⟨cur, h1, h2⟩ := h
  exact ⟨cur, e.trans h1, h2⟩

theorem OwnB.later {B : Nat} (h : OwnB t w g xs) (hb : Below B w w') (hg : g < B) : OwnB t w' g xs := h.of_block (hb.block g hg)

theorem Row.own (h : Row t w g xs) : OwnB t w g xs :=
  ⟨_, h, fun i hi => by simp [ints, hi]⟩

theorem ownB_of_ownsRow {B n c : Nat} {A : Option Addr} (h : w.ownsRow B t 1 (.slice A n c) n (ints xs)) : (A = none ∧ xs = []) ∨ ∃ g, A = some ⟨g, 0, none⟩ ∧ B ≤ g ∧ OwnB t w g xs := by
  obtain ⟨hl, h⟩ := h
  rw [ints_length] at hl
  rcases h with ⟨hv, h0⟩ | ⟨g, cap, cur, hv, hg, hh, h1, h2, h3, h4⟩
  · injection hv with e1 _ _
    exact .inl ⟨e1, List.eq_nil_of_length_eq_zero (by omega)⟩
  · injection hv with e1 e2 e3
    refine .inr ⟨g, e1, hg, cur, hh, fun i hi => ?_⟩
    have h5 : (ints xs)[i]? = some (.int .i64 (xs.getD i 0)) := by simp [ints, hi]
    rw [← h4, List.getElem?_take, if_pos (by omega)] at h5
    simpa using h5

/-- A slice of numbers in new memory: nil, or at the head of a block from B on. -/
def Res (t : TypeId) (B : Nat) (w : World) (A : Option Addr) (xs : List Int) : Prop :=
  (A = none ∧ xs = []) ∨ ∃ g, A = some ⟨g, 0, none⟩ ∧ B ≤ g ∧ OwnB t w g xs

theorem own_shape {B n : Nat} {v : Value} (h : w.ownsRow B t 1 v n (ints xs)) : ∃ A c, v = .slice A n c ∧ Res t B w A xs := by
  have h2 := h.2
  rcases h2 with ⟨hv, h0⟩ | ⟨g, cap, cur, hv, _⟩
  · subst h0
    subst hv
    exact ⟨none, 0, rfl, ownB_of_ownsRow h⟩
  · subst hv
    exact ⟨_, cap, rfl, ownB_of_ownsRow h⟩

theorem Res.mono {B B' : Nat} {A : Option Addr} (h : Res t B w A xs) (hB : B' ≤ B) : Res t B' w A xs := by
  rcases h with h | ⟨g, h1, h2, h3⟩
  · exact .inl h
  · exact .inr ⟨g, h1, Nat.le_trans hB h2, h3⟩

theorem Res.later {B : Nat} {A : Option Addr} (h : Res t B w A xs) (hb : Below w.heap.size w w') : Res t B w' A xs := by
  rcases h with h | ⟨g, h1, h2, h3⟩
  · exact .inl h
  · exact .inr ⟨g, h1, h2, h3.later hb h3.lt⟩

theorem Res.rd {B : Nat} {A : Option Addr} (h : Res t B w A xs) : Rd w A xs := by
  rcases h with ⟨rfl, rfl⟩ | ⟨g, rfl, _, h⟩
  · exact Rd.nil
  · exact h.rd

/-- Only the block of A, and what is new, has changed. -/
def Only (A : Option Addr) (w w' : World) : Prop := w.grownBy w' (A.map (·.block))

theorem Only.below {A : Option Addr} {B : Nat} (h : Only A w w') (hA : ∀ a, A = some a → B ≤ a.block) (hB : B ≤ w.heap.size) : Below B w w' :=
  (Below.refl B w).grown h hB (fun k hk => by
    cases A with
    | none => cases hk
    | some a =>
      have e : a.block = k := by simpa using hk
      rw [← e]
      exact hA a rfl)

theorem Only.quiet {A : Option Addr} (h : Quiet w w') : Only A w w' := by
  obtain ⟨q, rfl⟩ := h
  exact ⟨rfl, rfl, rfl, Nat.le_refl _, fun _ _ _ => rfl⟩

theorem Rd.only {A X : Option Addr} (h : Rd w A xs) (ho : Only X w w') (hne : ∀ a x, A = some a → X = some x → a.block ≠ x.block) : Rd w' A xs := by
  intro hn
  obtain ⟨b, o, rfl, hlt, hc⟩ := h hn
  have hb : w'.heap[b]? = w.heap[b]? := ho.block b hlt (fun e => by
    cases X with
    | none => cases e
    | some x => exact hne _ x rfl rfl (by simpa using e))
  exact ⟨b, o, rfl, Nat.lt_of_lt_of_le hlt ho.size, fun i hi => (World.cell?_of_block (a := ⟨b, o + i, none⟩) hb).trans (hc i hi)⟩

theorem OwnB.only {X : Option Addr} (h : OwnB t w g xs) (ho : Only X w w') (hne : ∀ x, X = some x → g ≠ x.block) : OwnB t w' g xs :=
  h.of_block (ho.block g h.lt (fun e => by
    cases X with
    | none => cases e
    | some x => exact hne x rfl (by simpa using e)))

end

/-- What a call hands back: a slice of n numbers in new memory, and a code. -/
def RPost (t : TypeId) (n : Nat) (xs : List Int) (code : Int) (w : World) (e : Ending) (w' : World) : Prop :=
  ∃ A c, e = .returned (.tuple #[.slice A n c, .int .i64 code]) ∧ Below w.heap.size w w' ∧ Res t w.heap.size w' A xs

/-- k, k + 1, .. -/
def marks (k : Int) (n : Nat) : List Int := (List.range n).map fun (i : Nat) => k + (i : Int)

theorem marks_length (k : Int) (n : Nat) : (marks k n).length = n := by simp [marks]
theorem marks_getD (k : Int) (n i : Nat) (h : i < n) : (marks k n).getD i 0 = k + (i : Int) := by simp [marks, h]

theorem mark_step (k : Int) (n j : Nat) (xs : List Int) (hn : xs.length = n) (hj : j < n) :
    ((marks k j ++ xs.drop j).set j (k + (j : Int))) = marks k (j + 1) ++ xs.drop (j + 1) := by
  have h1 : (marks k j).length = j := marks_length k j
  have e : marks k (j + 1) = marks k j ++ [k + (j : Int)] := by simp [marks, List.range_succ]
  rw [List.set_append_right _ _ (by omega), h1, Nat.sub_self, e, List.append_assoc]
  congr 1
  rw [List.drop_eq_getElem_cons (by omega), List.set_cons_zero]
  rfl

end Go.Proofs.Ytbhlcfcmjildmaa
namespace Go.Proofs.Ytbhlcfcmjildmaa
open Go Go.RowKit
set_option maxHeartbeats 400000

theorem info2 : (Try.prog.info? 2).map (fun i => (i.zero, i.size, i.bytes)) = some (some (.int .i64 0), 1, 8) := by kernel_rfl

theorem toInt64S_any (A : Option Addr) (n c : Nat) (xs : List Int) (w : World) (hn : xs.length = n) (hb : n ≤ 1048576) (hr : Rd w A xs) :
    Calls Try.prog 24 #[.slice A n c] w fun e w' => e = .returned (.slice (some ⟨w.heap.size, 0, none⟩) n n) ∧ Below w.heap.size w w' ∧ Row 2 w' w.heap.size xs ∧ w'.heap.size = w.heap.size + 1 := by
  have hmk := run_make_row' (P := Try.prog) 26 2 (.int .i64 0) 8 Try.underlying26 info2 rfl .i64 .i64 n (by omega) (by omega)
  have HN := hide hn
  clear hn
  go_enter Try.func24, Try.ntmps24
  go_wp2
  clear hmk
  go_loopw [4] (fun i wr => ∃ k : Nat, k ≤ n ∧ i = .int .i64 k ∧ Below w.heap.size w wr ∧ Row 2 wr w.heap.size (xs.take k ++ List.replicate (n - k) 0) ∧ wr.heap.size = w.heap.size + 1) (fun i _ => n - (intOf i).toNat)
  case atStart => exact ⟨0, Nat.zero_le _, rfl, (Below.refl _ _).alloc (Nat.le_refl _) _, by simpa using Row.made 2 w n, by simp⟩
  case round =>
    obtain ⟨k, hk, rfl, hbe, hrow, hsz⟩ := hrel
    have HSZ := hide hsz
    clear hsz
    by_cases hlt : k < n
    · obtain ⟨b, o, rfl, hbw, hc⟩ := hr (by have := HN.out; omega)
      have h1 : wr.cell? ⟨b, o + k, none⟩ = some (.int .i64 (xs.getD k 0)) := (hbe.cell (p := ⟨b, o + k, none⟩) hbw).trans (hc k (by have := HN.out; omega))
      have h2 := hrow.cell (i := k) (by have := HN.out; simp; omega)
      have h3 := hrow.frozen k
      have hst := hrow.set k (xs.getD k 0)
      rw [fill_step xs n k HN.out hlt] at hst
      have hb2 := hbe.setCell (p := ⟨w.heap.size, k, none⟩) (Nat.le_refl _) (.int .i64 (xs.getD k 0))
      have hltz : (k : Int) < n := by omega
      have HST := hide hst
      have HB2 := hide hb2
      clear hst hb2 hc hrow hbe
      go_wp2
      go_roundw
      case rel => exact ⟨k + 1, by omega, by go_num, HB2.out, HST.out, by have := HSZ.out; simpa using this⟩
      case measure => simp [intOf]; omega
    · have hkn : k = n := by omega
      subst hkn
      have HROW := hide hrow
      clear hrow
      go_wp2
      go_ret
      refine ⟨rfl, hbe, ?_, HSZ.out⟩
      have h := HROW.out
      have hl := HN.out
      simpa [← hl] using h
end Go.Proofs.Ytbhlcfcmjildmaa
namespace Go.Proofs.Ytbhlcfcmjildmaa
open Go Go.RowKit
set_option maxHeartbeats 400000


theorem sz_any (A : Option Addr) (n c : Nat) (l : Int) (w : World) (hb : n ≤ 9223372036854775807) (h0 : 0 ≤ l) (h1 : l ≤ 1048576) :
    Calls Try.prog 51 #[.slice A n c, .int .i64 l] w fun e w' => e = .returned (.int .i64 (if l < n then -1 else l - n)) ∧ w = w' := by
  by_cases h : l < n
  · go_enter Try.func51, Try.ntmps51
    go_wp2
    go_ret
    simp
  · go_enter Try.func51, Try.ntmps51
    go_wp2
    go_ret
    simp

theorem sz_no (A : Option Addr) (n c : Nat) (l : Int) (w : World) (hb : n ≤ 9223372036854775807) (h0 : 0 ≤ l) (h1 : l ≤ 1048576) (h : l < n) :
    Calls Try.prog 51 #[.slice A n c, .int .i64 l] w fun e w' => e = .returned (.int .i64 (-1)) ∧ w = w' :=
  (sz_any A n c l w hb h0 h1).mono fun _ _ hh => by rwa [if_pos h] at hh
theorem sz_yes (A : Option Addr) (n c : Nat) (l : Int) (w : World) (hb : n ≤ 9223372036854775807) (h0 : 0 ≤ l) (h1 : l ≤ 1048576) (h : ¬ l < n) :
    Calls Try.prog 51 #[.slice A n c, .int .i64 l] w fun e w' => e = .returned (.int .i64 (l - n)) ∧ w = w' :=
  (sz_any A n c l w hb h0 h1).mono fun _ _ hh => by rwa [if_neg h] at hh
end Go.Proofs.Ytbhlcfcmjildmaa
namespace Go.Proofs.Ytbhlcfcmjildmaa
open Go Go.RowKit
set_option maxHeartbeats 400000

theorem eqList (xs ys : List Int) (h : xs.length = ys.length) (h2 : ∀ i, i < xs.length → xs.getD i 0 = ys.getD i 0) : xs = ys := by
  apply List.ext_getElem h
  intro i h1 h3
  have := h2 i h1
  simpa [h1, h3] using this

theorem eqRows (xs ys : List (List Int)) (h : xs.length = ys.length) (h2 : ∀ i, i < xs.length → xs.getD i [] = ys.getD i []) : xs = ys := by
  apply List.ext_getElem h
  intro i h1 h3
  have := h2 i h1
  simpa [h1, h3] using this

theorem eq_any (A B : Option Addr) (n c m d : Nat) (xs ys : List Int) (r : Bool) (w : World) (hn : xs.length = n) (hm : ys.length = m) (hb : n ≤ 9223372036854775807) (hb2 : m ≤ 9223372036854775807) (hx : Rd w A xs) (hy : Rd w B ys) (hr : r = true ↔ xs = ys) :
    Calls Try.prog 11 #[.slice A n c, .slice B m d] w fun e w' => e = .returned (.bool r) ∧ Quiet w w' := by
  have HN := hide hn
  have HM := hide hm
  have HR := hide hr
  clear hr
  by_cases hnm : n = m
  · subst hnm
    clear hn hm
    go_enter Try.func11, Try.ntmps11
    go_wp2_with fail
    go_loopw [5] (fun i wr => ∃ k : Nat, k ≤ n ∧ i = .int .i64 k ∧ Quiet w wr ∧ ∀ i, i < k → xs.getD i 0 = ys.getD i 0) (fun i _ => n - (intOf i).toNat)
    case atStart => exact ⟨0, Nat.zero_le _, rfl, Quiet.refl w, fun i hi => absurd hi (Nat.not_lt_zero _)⟩
    case round =>
      obtain ⟨k, hk, rfl, hq, hall⟩ := hrel
      have HQ := hide hq
      clear hq
      have HALL := hide hall
      clear hall
      by_cases hlt : k < n
      · obtain ⟨b, o, rfl, _, hc⟩ := HQ.out.rd hx (by have := HN.out; omega)
        obtain ⟨b2, o2, rfl, _, hc2⟩ := HQ.out.rd hy (by have := HM.out; omega)
        have h1 := hc k (by have := HN.out; omega)
        have h2 := hc2 k (by have := HM.out; omega)
        obtain ⟨x, hx⟩ : ∃ x, x = xs.getD k 0 := ⟨_, rfl⟩
        obtain ⟨y, hy⟩ : ∃ y, y = ys.getD k 0 := ⟨_, rfl⟩
        rw [← hx] at h1
        rw [← hy] at h2
        have HX := hide hx
        have HY := hide hy
        clear hx hy hc hc2
        have hltz : (k : Int) < n := by omega
        by_cases hxy : x = y
        · subst hxy
          go_wp2_with fail
          go_quiet (fail)
          go_wp2_with fail
          go_roundw
          case rel =>
            refine ⟨k + 1, by omega, by go_num, HQ.out.drewN _, fun i hi => ?_⟩
            by_cases e : i = k
            · subst e; rw [← HX.out]; exact HY.out
            · exact HALL.out i (by omega)
          case measure => simp [intOf]; omega
        · have hne : (x != y) = true := by simpa using hxy
          have HNE := hide hxy
          clear hxy
          go_wp2_with fail
          go_quiet (fail)
          go_wp2_with fail
          go_ret
          have : r = false := by
            cases r
            · rfl
            · have e := HR.out.1 rfl
              subst e
              exact absurd (HX.out.trans HY.out.symm) HNE.out
          exact ⟨by subst this; rfl, by first | exact HQ.out | exact HQ.out.drewN _ | exact Quiet.refl _⟩
      · have hkn : k = n := by omega
        subst hkn
        go_wp2_with fail
        go_ret
        have this := HR.out.2 (eqList xs ys (HN.out.trans HM.out.symm) (fun i hi => HALL.out i (by have := HN.out; omega)))
        exact ⟨by subst this; rfl, by first | exact HQ.out | exact HQ.out.drewN _ | exact Quiet.refl _⟩
  · have hne : ((n : Int) != (m : Int)) = true := by simp; omega
    have HNM := hide hnm
    clear hn hm hnm
    go_enter Try.func11, Try.ntmps11
    go_wp2_with fail
    go_ret
    have : r = false := by
      cases r
      · rfl
      · have e := HR.out.1 rfl
        subst e
        exact absurd (HN.out.symm.trans HM.out) HNM.out
    exact ⟨by subst this; rfl, by first | exact HQ.out | exact HQ.out.drewN _ | exact Quiet.refl _⟩
end Go.Proofs.Ytbhlcfcmjildmaa
namespace Go.Proofs.Ytbhlcfcmjildmaa
open Go Go.RowKit
theorem subset_perm {α : Type} [DecidableEq α] : ∀ (l₁ l₂ : List α), l₁.Nodup → (∀ a ∈ l₁, a ∈ l₂) → ∃ l, List.Perm l₂ (l₁ ++ l) := by
  intro l₁
  induction l₁ with
  | nil => intro l₂ _ _; exact ⟨l₂, List.Perm.refl _⟩
  | cons a t ih =>
    intro l₂ hn hs
    have ha : a ∈ l₂ := hs a (by simp)
    have hn' := List.nodup_cons.1 hn
    have hp := List.perm_cons_erase ha
    obtain ⟨l, hl⟩ := ih (l₂.erase a) hn'.2 (fun b hb => by
      have hb2 := hs b (by simp [hb])
      have hne : b ≠ a := fun e => hn'.1 (e ▸ hb)
      exact (List.mem_erase_of_ne hne).2 hb2)
    exact ⟨l, hp.trans (hl.cons a)⟩
def rng (n : Nat) : List Int := (List.range n).map Int.ofNat
theorem rng_nodup (n : Nat) : (rng n).Nodup := by
  unfold rng
  exact List.Pairwise.map _ (fun a b h e => h (by injection e)) (List.nodup_range (n := n))
theorem mem_rng (n : Nat) (x : Int) : x ∈ rng n ↔ 0 ≤ x ∧ x < n := by
  unfold rng
  simp only [List.mem_map, List.mem_range]
  constructor
  · rintro ⟨a, ha, rfl⟩; simp; omega
  · rintro ⟨h1, h2⟩; exact ⟨x.toNat, by omega, by simp; omega⟩
theorem rng_length (n : Nat) : (rng n).length = n := by simp [rng]
/-- pigeonhole -/
theorem perm_iff (xs : List Int) : (∀ x : Int, 0 ≤ x → x < (xs.length : Int) → x ∈ xs) ↔ (∀ x ∈ xs, 0 ≤ x ∧ x < (xs.length : Int)) ∧ xs.Nodup := by
  constructor
  · intro h
    obtain ⟨l, hl⟩ := subset_perm (rng xs.length) xs (rng_nodup _) (fun a ha => by have := (mem_rng _ _).1 ha; exact h a this.1 this.2)
    have hlen := hl.length_eq
    rw [List.length_append, rng_length] at hlen
    have : l = [] := List.eq_nil_of_length_eq_zero (by omega)
    subst this
    rw [List.append_nil] at hl
    exact ⟨fun x hx => (mem_rng _ _).1 (hl.mem_iff.1 hx), hl.nodup_iff.2 (rng_nodup _)⟩
  · rintro ⟨h, hn⟩ x h0 h1
    obtain ⟨l, hl⟩ := subset_perm xs (rng xs.length) hn (fun a ha => (mem_rng _ _).2 (h a ha))
    have hlen := hl.length_eq
    rw [List.length_append, rng_length] at hlen
    have : l = [] := List.eq_nil_of_length_eq_zero (by omega)
    subst this
    rw [List.append_nil] at hl
    exact hl.mem_iff.1 ((mem_rng _ _).2 ⟨h0, h1⟩)

/-- A permutation of 1 to 12 elements. -/
def Prm (xs : List Int) : Prop := 1 ≤ xs.length ∧ xs.length ≤ 12 ∧ (∀ x ∈ xs, 0 ≤ x ∧ x < (xs.length : Int)) ∧ xs.Nodup

theorem prm_iff (xs : List Int) : Prm xs ↔ 1 ≤ xs.length ∧ xs.length ≤ 12 ∧ ∀ x : Int, 0 ≤ x → x < (xs.length : Int) → x ∈ xs := by
  unfold Prm
  rw [perm_iff]
end Go.Proofs.Ytbhlcfcmjildmaa
namespace Go.Proofs.Ytbhlcfcmjildmaa
open Go Go.RowKit
set_option maxHeartbeats 400000

/-- The first index, or -1. -/
def ixOf (xs : List Int) (v : Int) : Int := if v ∈ xs then (xs.idxOf v : Int) else -1

theorem ixOf_at (xs : List Int) (v : Int) (k : Nat) (hk : k < xs.length) (hv : xs.getD k 0 = v) (hno : v ∉ xs.take k) : ixOf xs v = k := by
  have e : xs = xs.take k ++ v :: xs.drop (k + 1) := by
    rw [← hv]
    simp [hk]
  have hm : v ∈ xs := by rw [e]; simp
  unfold ixOf
  rw [if_pos hm]
  rw [e, List.idxOf_append, if_neg hno]
  simp
  omega

theorem ixOf_no (xs : List Int) (v : Int) (hno : v ∉ xs) : ixOf xs v = -1 := by
  unfold ixOf
  rw [if_neg hno]

theorem index_any (A : Option Addr) (n c : Nat) (xs : List Int) (v : Int) (w : World) (hn : xs.length = n) (hb : n ≤ 9223372036854775807) (hr : Rd w A xs) :
    Calls Try.prog 43 #[.slice A n c, .int .i64 v] w fun e w' => e = .returned (.int .i64 (ixOf xs v)) ∧ Quiet w w' := by
  have HN := hide hn
  clear hn
  go_enter Try.func43, Try.ntmps43
  go_wp2_with fail
  go_loopw [5] (fun i wr => ∃ k : Nat, k ≤ n ∧ i = .int .i64 k ∧ Quiet w wr ∧ v ∉ xs.take k) (fun i _ => n - (intOf i).toNat)
  case atStart => exact ⟨0, Nat.zero_le _, rfl, Quiet.refl _, by simp⟩
  case round =>
    obtain ⟨k, hk, rfl, hq, hno⟩ := hrel
    have HNO := hide hno
    have HQ := hide hq
    clear hno hq
    by_cases hlt : k < n
    · obtain ⟨b, o, rfl, hbw, hc⟩ := HQ.out.rd hr (by have := HN.out; omega)
      have hc1 := hc k (by have := HN.out; omega)
      have hl : k < xs.length := by have := HN.out; omega
      have HL := hide hl
      obtain ⟨x, hx⟩ : ∃ x, xs.getD k 0 = x := ⟨_, rfl⟩
      rw [hx] at hc1
      have HX := hide hx
      clear hx hc hl
      have hltz : (k : Int) < n := by omega
      by_cases hxv : x = v
      · have HXV := hide hxv
        have hxb : (x == v) = true := by simpa using hxv
        clear hxv
        go_wp2_with fail
        go_ret
        have e := ixOf_at xs v k HL.out (HX.out.trans HXV.out) HNO.out
        exact ⟨by rw [e]; rfl, HQ.out⟩
      · have HXV := hide hxv
        have hxb : (x == v) = false := by simpa using hxv
        clear hxv
        go_wp2_with fail
        go_roundw
        case rel =>
          refine ⟨k + 1, by omega, by go_num, HQ.out, ?_⟩
          rw [List.take_succ_eq_append_getElem HL.out]
          intro h
          rcases List.mem_append.1 h with h | h
          · exact HNO.out h
          · have := HX.out
            have hl := HL.out
            simp [hl] at this
            simp [this] at h
            exact HXV.out h.symm
        case measure => simp [intOf]; omega
    · have hkn : k = n := by omega
      subst hkn
      go_wp2_with fail
      go_ret
      have h := HNO.out
      rw [List.take_of_length_le (by have := HN.out; omega)] at h
      exact ⟨by rw [ixOf_no xs v h]; rfl, HQ.out⟩

theorem has_any (A : Option Addr) (n c : Nat) (xs : List Int) (v : Int) (r : Bool) (w : World) (hn : xs.length = n) (hb : n ≤ 9223372036854775807) (hr : Rd w A xs) (hrr : r = true ↔ v ∈ xs) :
    Calls Try.prog 32 #[.slice A n c, .int .i64 v] w fun e w' => e = .returned (.bool r) ∧ Quiet w w' := by
  have HN := hide hn
  have HR := hide hrr
  clear hn hrr
  obtain ⟨x, hx⟩ : ∃ x, ixOf xs v = x := ⟨_, rfl⟩
  have hxr : r = decide (0 ≤ x) := by
    unfold ixOf at hx
    cases r
    · have hno : v ∉ xs := fun h => by have := HR.out.2 h; cases this
      rw [if_neg hno] at hx
      subst hx
      rfl
    · have h := HR.out.1 rfl
      rw [if_pos h] at hx
      subst hx
      simp
  have HX := hide hx
  have HXR := hide hxr
  clear hx hxr
  go_enter Try.func32, Try.ntmps32
  go_wp2_with fail
  refine (index_any _ _ _ xs v _ HN.out hb hr).mono ?_
  rintro e w1 ⟨rfl, hq⟩
  rw [HX.out]
  have HQ := hide hq
  clear hq
  go_wp2_with fail
  go_ret
  exact ⟨by rw [HXR.out]; rfl, HQ.out⟩
end Go.Proofs.Ytbhlcfcmjildmaa
namespace Go.Proofs.Ytbhlcfcmjildmaa
open Go Go.RowKit
set_option maxHeartbeats 400000

theorem in_any (x lo hi : Int) (r : Bool) (w : World) (hr : r = true ↔ lo ≤ x ∧ x ≤ hi) :
    Calls Try.prog 42 #[.int .i64 x, .int .i64 lo, .int .i64 hi] w fun e w' => e = .returned (.bool r) ∧ Quiet w w' := by
  have HR := hide hr
  clear hr
  by_cases h1 : lo ≤ x
  · by_cases h2 : x ≤ hi
    · have : r = true := HR.out.2 ⟨h1, h2⟩
      subst this
      go_enter Try.func42, Try.ntmps42
      go_wp2_with fail
      go_ret
      exact ⟨rfl, Quiet.refl _⟩
    · have : r = false := by
        cases r
        · rfl
        · exact absurd (HR.out.1 rfl).2 h2
      subst this
      have h2' : decide (x ≤ hi) = false := by simpa using h2
      clear h2
      go_enter Try.func42, Try.ntmps42
      go_wp2_with fail
      go_ret
      exact ⟨rfl, Quiet.refl _⟩
  · have : r = false := by
      cases r
      · rfl
      · exact absurd (HR.out.1 rfl).1 h1
    subst this
    have h1' : decide (lo ≤ x) = false := by simpa using h1
    clear h1
    go_enter Try.func42, Try.ntmps42
    go_wp2_with fail
    go_ret
    exact ⟨rfl, Quiet.refl _⟩
end Go.Proofs.Ytbhlcfcmjildmaa
namespace Go.Proofs.Ytbhlcfcmjildmaa
open Go Go.RowKit
set_option maxHeartbeats 400000

set_option maxRecDepth 100000 in
/-- All numbers of a list are elements of a set of n. -/
theorem els_any (n : Nat) (A : Option Addr) (m c : Nat) (xs : List Int) (r : Bool) (w : World) (hm : xs.length = m) (hb : m ≤ 9223372036854775807) (hr : Rd w A xs) (hrr : r = true ↔ ∀ j, j < m → 0 ≤ xs.getD j 0 ∧ xs.getD j 0 < (n : Int)) :
    Calls Try.prog 89 #[.int .i64 n, .slice A m c] w fun e w' => e = .returned (.bool r) ∧ Quiet w w' := by
  have HM := hide hm
  have HR := hide hr
  have HRR := hide hrr
  clear hm hr hrr
  go_enter Try.func89, Try.ntmps89
  go_wp2_with fail
  go_loopw [9] (fun i wr => ∃ j : Nat, j ≤ m ∧ i = .int .i64 j ∧ Quiet w wr ∧ ∀ i, i < j → 0 ≤ xs.getD i 0 ∧ xs.getD i 0 < (n : Int)) (fun i _ => m - (intOf i).toNat)
  case atStart => exact ⟨0, Nat.zero_le _, rfl, Quiet.refl _, fun i hi => absurd hi (Nat.not_lt_zero _)⟩
  case round =>
    obtain ⟨j, hj, rfl, hq, hin⟩ := hrel
    have HIN := hide hin
    have HQ := hide hq
    clear hin hq
    by_cases hlt : j < m
    · obtain ⟨b, o, rfl, _, hc⟩ := HQ.out.rd HR.out (by have := HM.out; omega)
      have hv := hc j (by have := HM.out; omega)
      obtain ⟨y, hy⟩ : ∃ y, y = xs.getD j 0 := ⟨_, rfl⟩
      rw [← hy] at hv
      have HY := hide hy
      clear hy hc
      have hjz : (j : Int) < m := by omega
      have bad : ¬ (0 ≤ y ∧ y < (n : Int)) → r = false := fun hyr => by
        cases r
        · rfl
        · exact absurd (by have h := HRR.out.1 rfl j hlt; rw [← HY.out] at h; exact h) hyr
      have BAD := hide bad
      clear bad
      by_cases hy0 : y < 0
      · go_wp2_with fail
        go_ret
        have := BAD.out (by omega)
        exact ⟨by subst this; rfl, HQ.out⟩
      · by_cases hyn : y < (n : Int)
        · have hyn' : decide ((n : Int) ≤ y) = false := by simp; omega
          go_wp2_with fail
          go_roundw
          case rel =>
            refine ⟨j + 1, by omega, by go_num, HQ.out, fun i hi => ?_⟩
            by_cases e : i = j
            · subst e; rw [← HY.out]; exact ⟨by omega, hyn⟩
            · exact HIN.out i (by omega)
          case measure => simp [intOf]; omega
        · have hyn' : decide ((n : Int) ≤ y) = true := by simp; omega
          go_wp2_with fail
          go_ret
          have := BAD.out (by omega)
          exact ⟨by subst this; rfl, HQ.out⟩
    · have hjm : j = m := by omega
      subst hjm
      have hrt : r = true := HRR.out.2 HIN.out
      go_wp2_with fail
      go_ret
      exact ⟨by subst hrt; rfl, HQ.out⟩
end Go.Proofs.Ytbhlcfcmjildmaa
namespace Go.Proofs.Ytbhlcfcmjildmaa
open Go Go.RowKit
theorem e3Info : (Try.prog.info? 2).map (fun i => (i.zero, i.size, i.bytes)) = some (some (.int .i64 0), 1, 8) := by kernel_rfl
theorem eq3_run (a b c a' b' c' : Int) (w : World) : (Op.equalIn 10000 80 (.agg #[.int .i64 a, .int .i64 b, .int .i64 c]) (.agg #[.int .i64 a', .int .i64 b', .int .i64 c'])).run Try.prog w = .ok (decide (a = a' ∧ b = b' ∧ c = c')) w := by
  obtain ⟨i0, hi, hz0, hz1, hz2⟩ := info_parts e3Info
  have hc : Try.prog.cellsOf 2 = 1 := by kernel_rfl
  have hp : Try.prog.plainKey 2 = true := by kernel_rfl
  have hu := Try.underlying2
  rw [run_equalIn_array _ 9999 _ _ Try.underlying80 hi, hc]
  have h3 : List.range 3 = [0, 1, 2] := rfl
  rw [h3]
  have pa : ∀ (x y z : Int) (i : Nat) (v : Value), (#[Value.int .i64 x, .int .i64 y, .int .i64 z])[i]? = some v → (part 2 #[Value.int .i64 x, .int .i64 y, .int .i64 z] i).run Try.prog w = .ok v w := fun x y z i v h => run_part_plain w hp h
  have e : ∀ x y : Int, (Op.equalIn 9999 2 (.int .i64 x) (.int .i64 y)).run Try.prog w = .ok (x == y) w := fun x y => run_equalIn_int w 9998 _ .i64 .i64 x y hu
  have p0 := fun x y z => pa x y z 0 _ rfl
  have p1 := fun x y z => pa x y z 1 _ rfl
  have p2 := fun x y z => pa x y z 2 _ rfl
  have ie : ∀ x y : Int, (x == y) = decide (x = y) := fun x y => rfl
  by_cases h1 : a = a'
  · by_cases h2 : b = b'
    · by_cases h3 : c = c'
      · simp [Op.eqItems, Sem.run_bind, h1, h2, h3, p0, p1, p2, e]
      · simp [Op.eqItems, Sem.run_bind, h1, h2, h3, p0, p1, p2, e, ie]
    · simp [Op.eqItems, Sem.run_bind, h1, h2, p0, p1, e, ie]
  · simp [Op.eqItems, Sem.run_bind, h1, p0, e, ie]
end Go.Proofs.Ytbhlcfcmjildmaa
namespace Go.Proofs.Ytbhlcfcmjildmaa
open Go Go.RowKit Go.ChangeShapes Go.WideShapes
open Go.ChangeMaps (setBlock heap_setBlock_same heap_setBlock_other)
open Go.WideElems (Fit)
open Classical
set_option maxRecDepth 100000

/-- An element of a map reads as itself. -/
def tokR : Value → Option (DataW Value × List MemPlace) := fun v => some (.held v, [])
def pkey (x y : Nat) : Value := .agg #[.int .i64 x, .int .i64 y]
theorem pkey_inj {x y u v : Nat} (h : pkey x y = pkey u v) : x = u ∧ y = v := by
  unfold pkey at h
  injection h with h
  injection h with h
  injection h with h1 h2
  injection h2 with h2 _
  injection h1 with _ h1
  injection h2 with _ h2
  omega
theorem mp_laid : laidOutB Try.prog = true := by kernel_rfl
theorem mp_row : (84 : TypeId) < Try.prog.types.size := of_decide_eq_true (by kernel_rfl)
theorem mp_deep : Try.prog.keyTypeAt (Try.prog.types.size + 1) 84 = true := by kernel_rfl
theorem mp_wide : (match Try.prog.underlying 84 with | some (.array _ _) | some (.struct _) => true | _ => false) = true := by rw [Try.underlying84]
theorem mp_law : WideMaps.KeyLaw Try.prog 84 := deep_law_laid mp_laid (m := 2) (by omega) mp_row (by kernel_rfl) mp_wide
theorem mp_keyed : Maps.Keyed Try.prog 84 := Maps.Keyed.of_law mp_law
theorem mp_cells : Try.prog.cellsOf 84 = 2 := by kernel_rfl
theorem mp_cellsI : Try.prog.cellsOf 2 = 1 := by kernel_rfl
theorem mp_key (w : World) (x y : Nat) (hx : x < 4611686018427387904) (hy : y < 4611686018427387904) : ∃ kl, keyOf Try.prog 84 (pkey x y) = some kl := by
  have hf : (pkey x y).formed Try.prog 84 = true := by simp [pkey, Value.formed, Try.underlying84, mp_cells]
  have wx : (Lit.int .i64 (x : Int)).wf = true := WalkArith.wf_i64 (by omega)
  have wy : (Lit.int .i64 (y : Int)).wf = true := WalkArith.wf_i64 (by omega)
  have ht := trod_struct2_mk (H := Unit) (enc := fun _ => ()) (P := Try.prog) (w := w) (base := 0) (spare := fun _ => true) (held := true) (n := 1) (cs := [.int .i64 (x : Int), .int .i64 (y : Int)]) Try.underlying84 mp_cells.symm
    (by show DataW.trod _ _ _ _ _ _ 1 2 (([Value.int .i64 (x : Int), .int .i64 (y : Int)].drop 0).take (Try.prog.cellsOf 2)) = _; rw [mp_cellsI]; exact trod_int_mk 0 Try.underlying2 wx)
    (by show DataW.trod _ _ _ _ _ _ 1 2 (([Value.int .i64 (x : Int), .int .i64 (y : Int)].drop 1).take (Try.prog.cellsOf 2)) = _; rw [mp_cellsI]; exact trod_int_mk 0 Try.underlying2 wy)
  exact ⟨_, (keyOf_asKey mp_deep mp_wide hf ⟨_, by simpa [pkey, Value.cells] using ht⟩).1⟩

/-- Block b is a map keyed by pairs, of at most n entries, whose values are V. -/
def MapV (w : World) (b n : Nat) (V : Value → Option Value) : Prop :=
  ∃ D : DataW Value, w.ownsMap Try.prog 84 tokR b n D ∧ ∀ key kl, keyOf Try.prog 84 key = some kl → D.atKey kl .nil = (match V key with | some v => .held v | none => .nil)

theorem MapV.made (w : World) : MapV (w.alloc (.map #[] 0)) w.heap.size 0 (fun _ => none) := ⟨_, World.ownsMap_made w _ _ _, fun _ _ _ => rfl⟩
theorem MapV.lt {w : World} {b n : Nat} {V : Value → Option Value} (h : MapV w b n V) : b < w.heap.size := h.elim fun _ h => h.1.lt
theorem MapV.of_block {w w' : World} {b n : Nat} {V : Value → Option Value} (h : MapV w b n V) (e : w'.heap[b]? = w.heap[b]?) : MapV w' b n V := by
  obtain ⟨D, ⟨es, clock, hb, F, hs, hD⟩, hV⟩ := h
  exact ⟨D, ⟨es, clock, e.trans hb, F, hs, hD⟩, hV⟩
theorem MapV.later {w w' : World} {b n : Nat} {V : Value → Option Value} (h : MapV w b n V) (hb : Below w.heap.size w w') : MapV w' b n V := h.of_block (hb.block b h.lt)
theorem MapV.congr {w : World} {b n : Nat} {V V' : Value → Option Value} (h : MapV w b n V) (e : ∀ k, V k = V' k) : MapV w b n V' := by
  have e2 : V = V' := funext e
  rw [← e2]; exact h

theorem MapV.look {w : World} {b n : Nat} {V : Value → Option Value} {t e : TypeId} (h : MapV w b n V) (ht : Try.prog.underlying t = some (.map 84 e)) {z : Value} (hz : (zeroValue e).run Try.prog w = .ok z w) {key : Value} {kl : Lit} (hkey : keyOf Try.prog 84 key = some kl) :
    (Instr.lookup t (.map (some b)) key false).run Try.prog w = .ok ((V key).getD z) w := by
  obtain ⟨D, ⟨es, clock, hb, F, hs, rfl⟩, hV⟩ := h
  have hk := hV key kl hkey
  rcases Maps.fit_look false mp_keyed ht hz hb F hkey with ⟨hrun, _, hat⟩ | ⟨e0, y, _, _, hrun, hR, hat, _⟩
  · rw [hat] at hk
    cases e : V key with
    | none => simpa using hrun
    | some v => rw [e] at hk; cases hk
  · rw [hat] at hk
    have hy : y = (.held e0.val, []) := by unfold tokR at hR; injection hR with hR; exact hR.symm
    subst hy
    cases e : V key with
    | none => rw [e] at hk; cases hk
    | some v =>
      rw [e] at hk
      injection hk with hk
      rw [← hk]
      simpa using hrun

theorem MapV.entry {w : World} {b n : Nat} {V : Value → Option Value} {t e : TypeId} (h : MapV w b n V) (ht : Try.prog.underlying t = some (.map 84 e)) {z : Value} (hz : ∀ u : World, (zeroValue e).run Try.prog u = .ok z u) (hn : n < maxLen) {key : Value} {kl : Lit} (hkey : keyOf Try.prog 84 key = some kl) :
    ∃ st es1 clock1, (Instr.mapEntry t (.map (some b)) key).run Try.prog w = .ok (.tuple #[(V key).getD z, goInt st]) (setBlock w b (.map es1 clock1)) ∧
      ∀ (w2 : World) (val : Value), w2.heap[b]? = some (.map es1 clock1) → ∃ es' clock', (Instr.entryStore t (.map (some b)) (goInt st) val).run Try.prog w2 = .ok () (setBlock w2 b (.map es' clock')) ∧
        MapV (setBlock w2 b (.map es' clock')) b (n + 1) (fun k => if k = key then some val else V k) := by
  have hlook := h.look ht (hz w) hkey
  obtain ⟨D, how, hV⟩ := h
  have how0 := how
  obtain ⟨es, clock, hb, F, hs, rfl⟩ := how
  obtain ⟨v0, st, es1, clock1, hE, hcase, hS⟩ := WideElems.entry_then_store mp_law ht hz hb F hkey
  have hv0 : v0 = (V key).getD z := by
    have hk := hV key kl hkey
    rcases Maps.fit_look false mp_keyed ht (hz w) hb F hkey with ⟨_, hno, hat⟩ | ⟨e0, y, hm0, hk0, hrun, hR, hat, _⟩
    · rw [hat] at hk
      rcases hcase with ⟨e1, hm1, hk1, _⟩ | ⟨_, e1⟩
      · exact absurd hk1 (hno e1 hm1)
      · cases e : V key with
        | none => rw [e1]; rfl
        | some v => rw [e] at hk; cases hk
    · rcases hcase with ⟨e1, hm1, hk1, hv1⟩ | ⟨hno, _⟩
      · have hnd := F.stamped.2.2
        have he : e0 = e1 := by
          obtain ⟨i, hi, hi2⟩ := List.getElem_of_mem hm0
          obtain ⟨j, hj, hj2⟩ := List.getElem_of_mem hm1
          have hij : i = j := by
            have e : (es.toList.map (·.key))[i]'(by simpa using hi) = (es.toList.map (·.key))[j]'(by simpa using hj) := by
              simp only [List.getElem_map]
              rw [hi2, hj2, hk0, hk1]
            exact (List.getElem_inj hnd).1 e
          subst hij
          rw [← hi2, hj2]
        have h2 := hrun.symm.trans hlook
        simp at h2
        rw [hv1, ← he]
        exact h2
      · exact absurd hk0 (hno e0 hm0)
  refine ⟨st, es1, clock1, by rw [← hv0]; exact hE, fun w2 val hw2 => ?_⟩
  obtain ⟨es', clock', hrun2, hU⟩ := hS w2 val hw2
  refine ⟨es', clock', hrun2, ?_⟩
  obtain ⟨w', hU2, how2, _⟩ := how0.update mp_keyed ht hn hkey (show tokR val = some (.held val, []) from rfl)
  have hw' : w' = setBlock w b (.map es' clock') := by
    have h2 := hU2.symm.trans hU
    simpa using h2
  subst hw'
  refine MapV.of_block (w := setBlock w b (.map es' clock')) ⟨_, how2, fun key' kl' hkey' => ?_⟩ ?_
  · by_cases e : key' = key
    · subst e
      have e2 : kl' = kl := by rw [hkey] at hkey'; injection hkey' with hkey'; exact hkey'.symm
      subst e2
      rw [Maps.atKey_put_same ⟨_, rfl⟩ (mp_keyed.key hkey)]
      simp
    · have hne : kl' ≠ kl := fun e2 => e (mp_keyed.inj hkey' (e2 ▸ hkey))
      rw [Maps.atKey_put_other hne, hV key' kl' hkey']
      simp [e]
  · rw [heap_setBlock_same hw2, heap_setBlock_same hb]
end Go.Proofs.Ytbhlcfcmjildmaa
namespace Go.Proofs.Ytbhlcfcmjildmaa
open Go Go.RowKit Go.ChangeShapes Go.WideShapes
open Go.ChangeMaps (setBlock heap_setBlock_same heap_setBlock_other)
open Go.WideElems (Fit)
open Classical
set_option maxRecDepth 100000
/-- An element of a map reads as itself. -/
def tokK : Value → Option (DataW Value × List MemPlace) := fun v => some (.held v, [])
/-- Block b is a map with keys of the type K, of at most n entries, whose values are V. -/
def MapK (K : TypeId) (w : World) (b n : Nat) (V : Value → Option Value) : Prop :=
  ∃ D : DataW Value, w.ownsMap Try.prog K tokK b n D ∧ ∀ key kl, keyOf Try.prog K key = some kl → D.atKey kl .nil = (match V key with | some v => .held v | none => .nil)
section
variable {K : TypeId} {w w' : World} {b n : Nat} {V V' : Value → Option Value}
theorem MapK.made (K : TypeId) (w : World) : MapK K (w.alloc (.map #[] 0)) w.heap.size 0 (fun _ => none) := ⟨_, World.ownsMap_made w _ _ _, fun _ _ _ => rfl⟩
theorem MapK.lt (h : MapK K w b n V) : b < w.heap.size := h.elim fun _ h => h.1.lt
theorem MapK.of_block (h : MapK K w b n V) (e : w'.heap[b]? = w.heap[b]?) : MapK K w' b n V := by
  obtain ⟨D, ⟨es, clock, hb, F, hs, hD⟩, hV⟩ := h
  exact ⟨D, ⟨es, clock, e.trans hb, F, hs, hD⟩, hV⟩
theorem MapK.later (h : MapK K w b n V) (hb : Below w.heap.size w w') : MapK K w' b n V := h.of_block (hb.block b h.lt)
theorem MapK.congr (h : MapK K w b n V) (e : ∀ k, V k = V' k) : MapK K w b n V' := by
  have e2 : V = V' := funext e
  rw [← e2]; exact h
theorem MapK.look {t e : TypeId} (hkd : Maps.Keyed Try.prog K) (h : MapK K w b n V) (ht : Try.prog.underlying t = some (.map K e)) {z : Value} (hz : (zeroValue e).run Try.prog w = .ok z w) {key : Value} {kl : Lit} (hkey : keyOf Try.prog K key = some kl) :
    (Instr.lookup t (.map (some b)) key false).run Try.prog w = .ok ((V key).getD z) w := by
  obtain ⟨D, ⟨es, clock, hb, F, hs, rfl⟩, hV⟩ := h
  have hk := hV key kl hkey
  rcases Maps.fit_look false hkd ht hz hb F hkey with ⟨hrun, _, hat⟩ | ⟨e0, y, _, _, hrun, hR, hat, _⟩
  · rw [hat] at hk
    cases e : V key with
    | none => simpa using hrun
    | some v => rw [e] at hk; cases hk
  · rw [hat] at hk
    have hy : y = (.held e0.val, []) := by unfold tokK at hR; injection hR with hR; exact hR.symm
    subst hy
    cases e : V key with
    | none => rw [e] at hk; cases hk
    | some v =>
      rw [e] at hk
      injection hk with hk
      rw [← hk]
      simpa using hrun
theorem MapK.update {t e : TypeId} (hkd : Maps.Keyed Try.prog K) (h : MapK K w b n V) (ht : Try.prog.underlying t = some (.map K e)) (hn : n < maxLen) {key : Value} {kl : Lit} (hkey : keyOf Try.prog K key = some kl) (val : Value) :
    ∃ w', (Instr.mapUpdate t (.map (some b)) key val).run Try.prog w = .ok () w' ∧ MapK K w' b (n + 1) (fun k => if k = key then some val else V k) ∧ w.grownBy w' (some b) := by
  obtain ⟨D, how, hV⟩ := h
  have how0 := how
  obtain ⟨es, clock, hb, F, hs, rfl⟩ := how
  obtain ⟨w', hU, how2, hg⟩ := how0.update hkd ht hn hkey (show tokK val = some (.held val, []) from rfl)
  refine ⟨w', hU, ⟨_, how2, fun key' kl' hkey' => ?_⟩, hg⟩
  by_cases e : key' = key
  · subst e
    have e2 : kl' = kl := by rw [hkey] at hkey'; injection hkey' with hkey'; exact hkey'.symm
    subst e2
    rw [Maps.atKey_put_same ⟨_, rfl⟩ (hkd.key hkey)]
    simp
  · have hne : kl' ≠ kl := fun e2 => e (hkd.inj hkey' (e2 ▸ hkey))
    rw [Maps.atKey_put_other hne, hV key' kl' hkey']
    simp [e]
end
end Go.Proofs.Ytbhlcfcmjildmaa
namespace Go.Proofs.Ytbhlcfcmjildmaa
open Go Go.RowKit

/-- Outside the blocks from lo to hi nothing that was there has changed. -/
structure Touch (lo hi : Nat) (w w' : World) : Prop where
  os : w'.os = w.os
  tape : w'.tape = w.tape
  output : w'.output = w.output
  size : w.heap.size ≤ w'.heap.size
  block : ∀ k, k < w.heap.size → (k < lo ∨ hi ≤ k) → w'.heap[k]? = w.heap[k]?

theorem Touch.refl (lo hi : Nat) (w : World) : Touch lo hi w w := ⟨rfl, rfl, rfl, Nat.le_refl _, fun _ _ _ => rfl⟩
theorem Touch.trans {lo hi : Nat} {a b c : World} (h : Touch lo hi a b) (k : Touch lo hi b c) : Touch lo hi a c :=
  ⟨k.os.trans h.os, k.tape.trans h.tape, k.output.trans h.output, Nat.le_trans h.size k.size, fun i hi hne => (k.block i (Nat.lt_of_lt_of_le hi h.size) hne).trans (h.block i hi hne)⟩
theorem Touch.quiet {lo hi : Nat} {w w' : World} (h : Quiet w w') : Touch lo hi w w' := by
  obtain ⟨q, rfl⟩ := h
  exact ⟨rfl, rfl, rfl, Nat.le_refl _, fun _ _ _ => rfl⟩
theorem Touch.of_only {lo hi : Nat} {A : Option Addr} {w w' : World} (h : Only A w w') (hA : ∀ a, A = some a → lo ≤ a.block ∧ a.block < hi) : Touch lo hi w w' :=
  ⟨h.os, h.tape, h.output, h.size, fun k hk hne => h.block k hk (fun e => by
    cases A with
    | none => cases e
    | some a =>
      have h1 := hA a rfl
      have h2 : k = a.block := by simpa using e
      omega)⟩
theorem Touch.below {lo hi B : Nat} {a w w' : World} (h : Below B a w) (t : Touch lo hi w w') (hB : B ≤ w.heap.size) (hlo : B ≤ lo) : Below B a w' :=
  ⟨t.os.trans h.os, t.tape.trans h.tape, t.output.trans h.output, Nat.le_trans h.size t.size, fun k hk => (t.block k (by omega) (.inl (by omega))).trans (h.block k hk)⟩

/-- A slice of numbers in memory of its own, its block from lo to hi. -/
def Obj1 (t : TypeId) (lo hi : Nat) (w : World) (A : Option Addr) (xs : List Int) : Prop :=
  (A = none ∧ xs = []) ∨ ∃ g, A = some ⟨g, 0, none⟩ ∧ lo ≤ g ∧ g < hi ∧ OwnB t w g xs

section
variable {t ts : TypeId} {w w' : World} {lo hi : Nat} {A : Option Addr} {xs : List Int}

theorem Res.obj {B : Nat} (h : Res t B w A xs) : Obj1 t B w.heap.size w A xs := by
  rcases h with h | ⟨g, h1, h2, h3⟩
  · exact .inl h
  · exact .inr ⟨g, h1, h2, h3.lt, h3⟩

theorem Obj1.res {B : Nat} (h : Obj1 t lo hi w A xs) (hB : B ≤ lo) : Res t B w A xs := by
  rcases h with h | ⟨g, h1, h2, _, h3⟩
  · exact .inl h
  · exact .inr ⟨g, h1, Nat.le_trans hB h2, h3⟩

theorem Obj1.rd (h : Obj1 t lo hi w A xs) : Rd w A xs := (h.res (Nat.le_refl _)).rd

theorem Obj1.mono {lo' hi' : Nat} (h : Obj1 t lo hi w A xs) (h1 : lo' ≤ lo) (h2 : hi ≤ hi') : Obj1 t lo' hi' w A xs := by
  rcases h with h | ⟨g, e, a, b, c⟩
  · exact .inl h
  · exact .inr ⟨g, e, by omega, by omega, c⟩

theorem Obj1.later (h : Obj1 t lo hi w A xs) (hb : Below w.heap.size w w') : Obj1 t lo hi w' A xs := by
  rcases h with h | ⟨g, e, a, b, c⟩
  · exact .inl h
  · exact .inr ⟨g, e, a, b, c.later hb c.lt⟩

theorem Obj1.far {lo2 hi2 : Nat} (h : Obj1 t lo hi w A xs) (ht : Touch lo2 hi2 w w') (hd : hi ≤ lo2 ∨ hi2 ≤ lo) : Obj1 t lo hi w' A xs := by
  rcases h with h | ⟨g, e, a, b, c⟩
  · exact .inl h
  · exact .inr ⟨g, e, a, b, c.of_block (ht.block g c.lt (by omega))⟩

theorem Obj1.bounds (h : Obj1 t lo hi w A xs) : ∀ a, A = some a → lo ≤ a.block ∧ a.block < hi := by
  rintro a rfl
  rcases h with ⟨h, _⟩ | ⟨g, e, h1, h2, _⟩
  · cases h
  · cases e
    exact ⟨h1, h2⟩

/-- A slice of slices of numbers in memory of its own, all blocks from lo to hi, no two rows in one block. -/
def Obj2 (ts t : TypeId) (lo hi : Nat) (w : World) (A : Option Addr) (rows : List (List Int)) : Prop :=
  (A = none ∧ rows = []) ∨ ∃ (g : Nat) (R : Nat → Option Addr) (C : Nat → Nat), A = some ⟨g, 0, none⟩ ∧ lo ≤ g ∧ g < hi ∧
    (∃ cur : Array Value, w.heap[g]? = some (.cells cur ts (0, 0)) ∧ ∀ i, i < rows.length → cur[i]? = some (.slice (R i) (rows.getD i []).length (C i))) ∧
    (∀ i, i < rows.length → Obj1 t lo hi w (R i) (rows.getD i [])) ∧
    (∀ i j, i < rows.length → j < rows.length → i ≠ j → ∀ a b, R i = some a → R j = some b → a.block ≠ b.block)

variable {rows : List (List Int)}

theorem Obj2.rd (h : Obj2 ts t lo hi w A rows) : Rd2 w A rows := by
  intro hn
  rcases h with ⟨_, rfl⟩ | ⟨g, R, C, rfl, _, _, ⟨cur, h1, h2⟩, h3, _⟩
  · simp at hn
  · refine ⟨g, 0, rfl, (Array.getElem?_eq_some_iff.1 h1).1, fun i hi => ⟨R i, C i, ?_, (h3 i hi).rd⟩⟩
    rw [Nat.zero_add, cell_of_row w g i cur ts (0, 0) h1]
    exact h2 i hi

theorem Obj2.mono {lo' hi' : Nat} (h : Obj2 ts t lo hi w A rows) (h1 : lo' ≤ lo) (h2 : hi ≤ hi') : Obj2 ts t lo' hi' w A rows := by
  rcases h with h | ⟨g, R, C, e, a, b, c, d, f⟩
  · exact .inl h
  · exact .inr ⟨g, R, C, e, by omega, by omega, c, fun i hi => (d i hi).mono h1 h2, f⟩

theorem Obj2.later (h : Obj2 ts t lo hi w A rows) (hb : Below w.heap.size w w') : Obj2 ts t lo hi w' A rows := by
  rcases h with h | ⟨g, R, C, e, a, b, ⟨cur, c1, c2⟩, d, f⟩
  · exact .inl h
  · exact .inr ⟨g, R, C, e, a, b, ⟨cur, (hb.block g (Array.getElem?_eq_some_iff.1 c1).1).trans c1, c2⟩, fun i hi => (d i hi).later hb, f⟩

theorem Obj2.far {lo2 hi2 : Nat} (h : Obj2 ts t lo hi w A rows) (ht : Touch lo2 hi2 w w') (hd : hi ≤ lo2 ∨ hi2 ≤ lo) : Obj2 ts t lo hi w' A rows := by
  rcases h with h | ⟨g, R, C, e, a, b, ⟨cur, c1, c2⟩, d, f⟩
  · exact .inl h
  · exact .inr ⟨g, R, C, e, a, b, ⟨cur, (ht.block g (Array.getElem?_eq_some_iff.1 c1).1 (by omega)).trans c1, c2⟩, fun i hi => (d i hi).far ht hd, f⟩

theorem Tab.obj {g : Nat} {G : Nat → Nat} (h : Tab ts t w g G rows) (h1 : lo ≤ g) (h2 : g < hi) (h3 : ∀ i, i < rows.length → lo ≤ G i ∧ G i < hi) (h4 : ∀ i j, i < rows.length → j < rows.length → i ≠ j → G i ≠ G j) : Obj2 ts t lo hi w (some ⟨g, 0, none⟩) rows := by
  obtain ⟨cur, c1, _, c3⟩ := h.top
  exact .inr ⟨g, fun i => some ⟨G i, 0, none⟩, _, rfl, h1, h2, ⟨cur, c1, c3⟩, fun i hi => .inr ⟨G i, rfl, (h3 i hi).1, (h3 i hi).2, (h.row i hi).own⟩, fun i j hi hj hne a b ha hb => by
    cases ha
    cases hb
    exact h4 i j hi hj hne⟩

end

/-- Two results: a slice of n rows in new memory, and a code. -/
def TPost (ts t : TypeId) (n : Nat) (rows : List (List Int)) (code : Int) (w : World) (e : Ending) (w' : World) : Prop :=
  ∃ A c, e = .returned (.tuple #[.slice A n c, .int .i64 code]) ∧ Below w.heap.size w w' ∧ Obj2 ts t w.heap.size w'.heap.size w' A rows

/-- How many numbers the rows have. -/
def tot (rows : List (List Int)) : Nat := (rows.map List.length).sum

/-- The rows' lengths, filled with k, k + 1, .. -/
def marks2 (k : Int) : List (List Int) → List (List Int)
  | [] => []
  | r :: rest => marks k r.length :: marks2 (k + (r.length : Int)) rest

theorem marks2_length (k : Int) (rows : List (List Int)) : (marks2 k rows).length = rows.length := by
  induction rows generalizing k with
  | nil => rfl
  | cons r rest ih => simp [marks2, ih]

theorem tot_append (a b : List (List Int)) : tot (a ++ b) = tot a + tot b := by
  unfold tot
  rw [List.map_append, List.sum_append]

theorem tot_take_succ (rows : List (List Int)) (i : Nat) (h : i < rows.length) : tot (rows.take (i + 1)) = tot (rows.take i) + (rows.getD i []).length := by
  rw [List.take_succ_eq_append_getElem h, tot_append]
  simp [tot, h]

theorem tot_take_le (rows : List (List Int)) (i : Nat) : tot (rows.take i) ≤ tot rows := by
  have h := tot_append (rows.take i) (rows.drop i)
  rw [List.take_append_drop] at h
  omega

theorem tot_bound (rows : List (List Int)) (h1 : rows.length ≤ 1048576) (h2 : ∀ i, i < rows.length → (rows.getD i []).length ≤ 1048576) : tot rows ≤ 1099511627776 := by
  have h : ∀ j, j ≤ rows.length → tot (rows.take j) ≤ j * 1048576 := by
    intro j
    induction j with
    | zero => intro _; simp [tot]
    | succ j ih =>
      intro hj
      have e := tot_take_succ rows j hj
      have h3 := h2 j hj
      have h4 := ih (by omega)
      omega
  have h5 := h rows.length (Nat.le_refl _)
  rw [List.take_length] at h5
  have : rows.length * 1048576 ≤ 1048576 * 1048576 := Nat.mul_le_mul_right _ h1
  omega

theorem marks2_getD (k : Int) (rows : List (List Int)) (i : Nat) (h : i < rows.length) : (marks2 k rows).getD i [] = marks (k + (tot (rows.take i) : Int)) (rows.getD i []).length := by
  induction rows generalizing k i with
  | nil => simp at h
  | cons r rest ih =>
    cases i with
    | zero => simp [marks2, tot]
    | succ i =>
      have h' : i < rest.length := by simpa using h
      have e := ih (k + (r.length : Int)) i h'
      have e1 : (marks2 k (r :: rest)).getD (i + 1) [] = (marks2 (k + (r.length : Int)) rest).getD i [] := by simp [marks2]
      have e2 : (r :: rest).getD (i + 1) [] = rest.getD i [] := by simp
      have e3 : (tot ((r :: rest).take (i + 1)) : Int) = (r.length : Int) + (tot (rest.take i) : Int) := by simp [tot]
      rw [e1, e, e2, e3, Int.add_assoc]

end Go.Proofs.Ytbhlcfcmjildmaa
