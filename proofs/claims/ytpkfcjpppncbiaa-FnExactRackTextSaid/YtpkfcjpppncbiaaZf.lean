import Derived.Test.YtpkfcjpppncbiaaZd
import Derived.Test.YtpkfcjpppncbiaaProg
namespace Go.Proofs.Ytpkfcjpppncbiaa
open Go Go.RowKit

/-- Two tables in memory of their own, the first one's blocks ahead of the second one's. -/
def ObjZ (ts t : TypeId) (lo hi : Nat) (w : World) (A : Option Addr) (f : List (List Int)) (B : Option Addr) (s : List (List Int)) : Prop :=
  ∃ mid, lo ≤ mid ∧ mid ≤ hi ∧ Obj2 ts t lo mid w A f ∧ Obj2 ts t mid hi w B s
/-- Two tables whose blocks lie from lo to hi. -/
def ObjW (ts t : TypeId) (lo hi : Nat) (w : World) (A : Option Addr) (f : List (List Int)) (B : Option Addr) (s : List (List Int)) : Prop :=
  Obj2 ts t lo hi w A f ∧ Obj2 ts t lo hi w B s

section
variable {ts t : TypeId} {w w' : World} {lo hi : Nat} {A B : Option Addr} {f s : List (List Int)}

theorem ObjZ.weak (h : ObjZ ts t lo hi w A f B s) : ObjW ts t lo hi w A f B s := by
  obtain ⟨mid, h1, h2, h3, h4⟩ := h
  exact ⟨h3.mono (Nat.le_refl _) h2, h4.mono h1 (Nat.le_refl _)⟩
theorem ObjZ.fst (h : ObjZ ts t lo hi w A f B s) : Rd2 w A f := h.weak.1.rd
theorem ObjZ.snd (h : ObjZ ts t lo hi w A f B s) : Rd2 w B s := h.weak.2.rd
theorem ObjW.fst (h : ObjW ts t lo hi w A f B s) : Rd2 w A f := h.1.rd
theorem ObjW.snd (h : ObjW ts t lo hi w A f B s) : Rd2 w B s := h.2.rd
theorem ObjZ.later (h : ObjZ ts t lo hi w A f B s) (hb : Below w.heap.size w w') : ObjZ ts t lo hi w' A f B s := by
  obtain ⟨mid, h1, h2, h3, h4⟩ := h
  exact ⟨mid, h1, h2, h3.later hb, h4.later hb⟩
theorem ObjW.later (h : ObjW ts t lo hi w A f B s) (hb : Below w.heap.size w w') : ObjW ts t lo hi w' A f B s := ⟨h.1.later hb, h.2.later hb⟩
theorem ObjZ.far {lo2 hi2 : Nat} (h : ObjZ ts t lo hi w A f B s) (ht : Touch lo2 hi2 w w') (hd : hi ≤ lo2 ∨ hi2 ≤ lo) : ObjZ ts t lo hi w' A f B s := by
  obtain ⟨mid, h1, h2, h3, h4⟩ := h
  exact ⟨mid, h1, h2, h3.far ht (by omega), h4.far ht (by omega)⟩
theorem ObjW.far {lo2 hi2 : Nat} (h : ObjW ts t lo hi w A f B s) (ht : Touch lo2 hi2 w w') (hd : hi ≤ lo2 ∨ hi2 ≤ lo) : ObjW ts t lo hi w' A f B s := ⟨h.1.far ht hd, h.2.far ht hd⟩
theorem ObjZ.mono {lo' hi' : Nat} (h : ObjZ ts t lo hi w A f B s) (h1 : lo' ≤ lo) (h2 : hi ≤ hi') : ObjZ ts t lo' hi' w A f B s := by
  obtain ⟨mid, k1, k2, h3, h4⟩ := h
  exact ⟨mid, by omega, by omega, h3.mono h1 (Nat.le_refl _), h4.mono (Nat.le_refl _) h2⟩
theorem ObjW.mono {lo' hi' : Nat} (h : ObjW ts t lo hi w A f B s) (h1 : lo' ≤ lo) (h2 : hi ≤ hi') : ObjW ts t lo' hi' w A f B s := ⟨h.1.mono h1 h2, h.2.mono h1 h2⟩
theorem ObjZ.empty (h : lo ≤ hi) : ObjZ ts t lo hi w none [] none [] := ⟨lo, Nat.le_refl _, h, .inl ⟨rfl, rfl⟩, .inl ⟨rfl, rfl⟩⟩
theorem ObjW.empty : ObjW ts t lo hi w none [] none [] := ⟨.inl ⟨rfl, rfl⟩, .inl ⟨rfl, rfl⟩⟩

theorem Touch.wide {lo2 hi2 : Nat} (h : Touch lo2 hi2 w w') (h1 : lo ≤ lo2) (h2 : hi2 ≤ hi) : Touch lo hi w w' :=
  ⟨h.os, h.tape, h.output, h.size, fun k hk hne => h.block k hk (by omega)⟩
theorem Touch.of_below (h : Below w.heap.size w w') : Touch lo hi w w' :=
  ⟨h.os, h.tape, h.output, h.size, fun k hk _ => h.block k hk⟩
end

/-- A pair of tables and a code, in new memory. -/
def ZPost (ts t : TypeId) (n m : Nat) (f s : List (List Int)) (code : Int) (w : World) (e : Ending) (w' : World) : Prop :=
  ∃ A c B d, e = .returned (.tuple #[.agg #[.slice A n c, .slice B m d], .int .i64 code]) ∧ Below w.heap.size w w' ∧ ObjZ ts t w.heap.size w'.heap.size w' A f B s
def WPost (ts t : TypeId) (n m : Nat) (f s : List (List Int)) (code : Int) (w : World) (e : Ending) (w' : World) : Prop :=
  ∃ A c B d, e = .returned (.tuple #[.agg #[.slice A n c, .slice B m d], .int .i64 code]) ∧ Below w.heap.size w w' ∧ ObjW ts t w.heap.size w'.heap.size w' A f B s
end Go.Proofs.Ytpkfcjpppncbiaa
namespace Go.Proofs.Ytpkfcjpppncbiaa
open Go Go.RowKit

theorem copyT (A : Option Addr) (n c : Nat) (rows : List (List Int)) (w : World) (hn : rows.length = n) (hb : n ≤ 1048576) (hbs : ∀ i, i < rows.length → (rows.getD i []).length ≤ 1048576) (hr : Rd2 w A rows) :
    Calls Try.prog 24 #[.slice A n c] w fun e w' => ∃ A', e = .returned (.slice A' n n) ∧ Below w.heap.size w w' ∧ Obj2 56 2 w.heap.size w'.heap.size w' A' rows :=
  (toInt64SS_any A n c rows w hn hb hbs hr).mono fun _ _ ⟨he, hb, ht, hs⟩ => ⟨_, he, hb, ht.obj (Nat.le_refl _) (by omega) (fun i hi => by omega) (fun i j hi hj hne => by omega)⟩
end Go.Proofs.Ytpkfcjpppncbiaa
namespace Go.Proofs.Ytpkfcjpppncbiaa
open Go Go.RowKit

theorem bcell {W w1 : World} (hb : Below W.heap.size W w1) : (∀ b o, b < W.heap.size → w1.cell? ⟨b, o, none⟩ = W.cell? ⟨b, o, none⟩) ∧ (∀ b o, b < W.heap.size → w1.frozen? ⟨b, o, none⟩ = W.frozen? ⟨b, o, none⟩) :=
  ⟨fun b o h => hb.cell (p := ⟨b, o, none⟩) h, fun b o h => hb.frozen (p := ⟨b, o, none⟩) h⟩

/-- The world at the end of a walk under a name of its own. -/
theorem bp_gen {P : Program} {f : Func} {Q : Ending → World → Prop} {x : Exit} {a : Act} {w : World} (h : ∀ wf, wf = w → bodyPost P f Q x a wf) : bodyPost P f Q x a w := h w rfl

theorem wp_gen {P : Program} {c : Code} {Q : Exit → Act → World → Prop} {a : Act} {w : World} (h : ∀ wf, wf = w → Code.wp P c Q a wf) : Code.wp P c Q a w := h w rfl
theorem calls_gen {P : Program} {f : FuncId} {args : Array Value} {w : World} {Q : Ending → World → Prop} (h : ∀ wf, wf = w → Calls P f args wf Q) : Calls P f args w Q := h w rfl

theorem bdrewN {B : Nat} {w w' : World} (h : Below B w w') (n : Nat) : Below B w (w'.drewN n) := h.trans ((Quiet.of w' n).below B)

theorem eq_below {a b : World} (h : a = b) : Below b.heap.size b a := h ▸ Below.refl _ _
theorem drew_below {a b : World} (h : a = b.drew) : Below b.heap.size b a := h ▸ (Below.refl _ _).drew

/-- Block b is just the cells cs. -/
def Blk (w : World) (b : Nat) (t : TypeId) (cs : List Value) : Prop := w.heap[b]? = some (.cells cs.toArray t (0, 0))

section
variable {w w' : World} {b B : Nat} {t : TypeId} {cs : List Value}
theorem Blk.new (w : World) (t : TypeId) (cs : List Value) : Blk (w.alloc (.cells cs.toArray t)) w.heap.size t cs := heap_alloc_new _ _
theorem Blk.lt (h : Blk w b t cs) : b < w.heap.size := (Array.getElem?_eq_some_iff.1 h).1
theorem Blk.cell (h : Blk w b t cs) (i : Nat) (v : Value) (hi : cs[i]? = some v) : w.cell? ⟨b, i, none⟩ = some v := by
  rw [cell_of_row w b i _ t (0, 0) h]
  simpa using hi
theorem Blk.frozen (h : Blk w b t cs) (i : Nat) : w.frozen? ⟨b, i, none⟩ = false := by
  unfold Blk at h
  simp [World.frozen?, h]
theorem Blk.set (h : Blk w b t cs) (i : Nat) (v : Value) : Blk (w.setCell ⟨b, i, none⟩ v) b t (cs.set i v) := by
  unfold Blk at h ⊢
  simp [World.setCell, Array.getElem?_modify, h]
theorem Blk.far (h : Blk w b t cs) {p : Addr} (hp : b ≠ p.block) (v : Value) : Blk (w.setCell p v) b t cs := (Below.heap_setCell w p v b hp).trans h
theorem Blk.later (h : Blk w b t cs) (hb : Below w.heap.size w w') : Blk w' b t cs := (hb.block b h.lt).trans h
theorem Blk.alloc (h : Blk w b t cs) (o : Obj) : Blk (w.alloc o) b t cs := h.later ((Below.refl _ _).alloc (Nat.le_refl _) _)
theorem Blk.touch {lo hi : Nat} (h : Blk w b t cs) (ht : Touch lo hi w w') (hs : b < lo ∨ hi ≤ b) : Blk w' b t cs := (ht.block b h.lt hs).trans h
theorem Blk.drew (h : Blk w b t cs) : Blk w.drew b t cs := h
theorem Blk.drewN (h : Blk w b t cs) (n : Nat) : Blk (w.drewN n) b t cs := h.later ((Quiet.of w n).below _)
end

theorem Obj1.set {t : TypeId} {lo hi : Nat} {w : World} {A : Option Addr} {xs : List Int} (h : Obj1 t lo hi w A xs) {p : Addr} (hp : p.block < lo ∨ hi ≤ p.block) (v : Value) : Obj1 t lo hi (w.setCell p v) A xs :=
  h.far (lo2 := p.block) (hi2 := p.block + 1) ⟨rfl, rfl, rfl, by simp [World.setCell], fun k _ hne => Below.heap_setCell w p v k (by omega)⟩ (by omega)
theorem Obj2.set {ts t : TypeId} {lo hi : Nat} {w : World} {A : Option Addr} {rows : List (List Int)} (h : Obj2 ts t lo hi w A rows) {p : Addr} (hp : p.block < lo ∨ hi ≤ p.block) (v : Value) : Obj2 ts t lo hi (w.setCell p v) A rows :=
  h.far (lo2 := p.block) (hi2 := p.block + 1) ⟨rfl, rfl, rfl, by simp [World.setCell], fun k _ hne => Below.heap_setCell w p v k (by omega)⟩ (by omega)
theorem Touch.alloc {lo hi : Nat} {w w' : World} (h : Touch lo hi w w') (o : Obj) : Touch lo hi w (w'.alloc o) :=
  ⟨h.os, h.tape, h.output, Nat.le_trans h.size (by simp), fun k hk hne => by
    have e : (w'.alloc o).heap[k]? = w'.heap[k]? := ((Below.refl w'.heap.size w').alloc (Nat.le_refl _) o).block k (by have := h.size; omega)
    rw [e]
    exact h.block k hk hne⟩
end Go.Proofs.Ytpkfcjpppncbiaa
namespace Go.Proofs.Ytpkfcjpppncbiaa
open Go Go.RowKit
set_option maxHeartbeats 1000000

/-- Between the rounds of the marking of rows: the first i rows are marked. -/
theorem row_between (k : Int) (rows : List (List Int)) (i j : Nat) (hj : j < rows.length) : (((marks2 k rows).take i ++ rows.drop i).getD j []).length = (rows.getD j []).length := by
  have hm := marks2_length k rows
  simp only [List.getD_eq_getElem?_getD]
  by_cases h : j < i
  · have h1 : j < ((marks2 k rows).take i).length := by simp; omega
    rw [List.getElem?_append_left h1, List.getElem?_take, if_pos h]
    have e := marks2_getD k rows j hj
    simp only [List.getD_eq_getElem?_getD] at e
    rw [e, marks_length]
  · have h1 : ((marks2 k rows).take i).length ≤ j := by simp; omega
    rw [List.getElem?_append_right h1, List.getElem?_drop]
    have : ((marks2 k rows).take i).length = min i rows.length := by simp [hm]
    congr 3
    omega

theorem row_at (k : Int) (rows : List (List Int)) (i : Nat) (hi : i < rows.length) : ((marks2 k rows).take i ++ rows.drop i).getD i [] = rows.getD i [] := by
  have hm := marks2_length k rows
  simp only [List.getD_eq_getElem?_getD]
  have h1 : ((marks2 k rows).take i).length = i := by simp; omega
  rw [List.getElem?_append_right (by omega), List.getElem?_drop, h1]
  simp

theorem row_next (k : Int) (rows : List (List Int)) (i : Nat) (hi : i < rows.length) : ((marks2 k rows).take i ++ rows.drop i).set i (marks (k + (tot (rows.take i) : Int)) (rows.getD i []).length) = (marks2 k rows).take (i + 1) ++ rows.drop (i + 1) := by
  have hm := marks2_length k rows
  have h1 : ((marks2 k rows).take i).length = i := by simp; omega
  have h2 : i < (marks2 k rows).length := by omega
  rw [List.set_append_right _ _ (by omega), h1, Nat.sub_self, List.take_succ_eq_append_getElem h2, List.append_assoc]
  congr 1
  rw [List.drop_eq_getElem_cons hi, List.set_cons_zero]
  have e := marks2_getD k rows i hi
  have e2 : (marks2 k rows).getD i [] = (marks2 k rows)[i] := by simp [h2]
  rw [← e, e2]
  rfl

/-- The row i of the object is replaced. -/
theorem Obj2.put {ts t : TypeId} {lo hi : Nat} {w w' : World} {g : Nat} {R : Nat → Option Addr} {C : Nat → Nat} {rows : List (List Int)} {i : Nat} {r : List Int} (hne : ts ≠ t) (_hlo : lo ≤ g) (_hhi : g < hi)
    (hc : ∃ cur : Array Value, w.heap[g]? = some (.cells cur ts (0, 0)) ∧ ∀ i, i < rows.length → cur[i]? = some (.slice (R i) (rows.getD i []).length (C i)))
    (ho : ∀ i, i < rows.length → Obj1 t lo hi w (R i) (rows.getD i []))
    (hd : ∀ i j, i < rows.length → j < rows.length → i ≠ j → ∀ a b, R i = some a → R j = some b → a.block ≠ b.block)
    (hi' : i < rows.length) (hl : r.length = (rows.getD i []).length) (hon : Only (R i) w w') (hnew : Obj1 t lo hi w' (R i) r) :
    (∃ cur : Array Value, w'.heap[g]? = some (.cells cur ts (0, 0)) ∧ ∀ j, j < (rows.set i r).length → cur[j]? = some (.slice (R j) ((rows.set i r).getD j []).length (C j))) ∧
    (∀ j, j < (rows.set i r).length → Obj1 t lo hi w' (R j) ((rows.set i r).getD j [])) := by
  obtain ⟨cur, c1, c2⟩ := hc
  have hgl : g < w.heap.size := (Array.getElem?_eq_some_iff.1 c1).1
  have get : ∀ j, j < rows.length → (rows.set i r).getD j [] = if i = j then r else rows.getD j [] := fun j hj => by
    simp only [List.getD_eq_getElem?_getD, List.getElem?_set]
    by_cases e : i = j
    · subst e; simp [hi']
    · simp [e]
  refine ⟨⟨cur, (hon.block g hgl (fun e => ?_)).trans c1, fun j hj => ?_⟩, fun j hj => ?_⟩
  · cases hR : R i with
    | none => rw [hR] at e; cases e
    | some a =>
      rw [hR] at e
      have e2 : g = a.block := by simpa using e
      rcases ho i hi' with ⟨h, _⟩ | ⟨g', h, _, _, cur', h3, _⟩
      · rw [hR] at h; cases h
      · rw [hR] at h
        cases h
        subst e2
        rw [c1] at h3
        injection h3 with h3
        injection h3 with _ h3
        exact hne h3
  · rw [List.length_set] at hj
    rw [c2 j hj, get j hj]
    by_cases e : i = j
    · subst e; rw [if_pos rfl, hl]
    · rw [if_neg e]
  · rw [List.length_set] at hj
    rw [get j hj]
    by_cases e : i = j
    · subst e; rw [if_pos rfl]; exact hnew
    · rw [if_neg e]
      rcases ho j hj with h | ⟨g', h, h1, h2, h3⟩
      · exact .inl h
      · refine .inr ⟨g', h, h1, h2, h3.of_block (hon.block g' h3.lt (fun e' => ?_))⟩
        cases hR : R i with
        | none => rw [hR] at e'; cases e'
        | some a =>
          rw [hR] at e'
          have e2 : g' = a.block := by simpa using e'
          exact hd i j hi' hj e a ⟨g', 0, none⟩ hR h e2.symm

end Go.Proofs.Ytpkfcjpppncbiaa
namespace Go.Proofs.Ytpkfcjpppncbiaa
open Go Go.RowKit

/-- The n times n table of a function. -/
def grid (n : Nat) (f : Nat → Nat → Int) : List (List Int) := (List.range n).map fun (a : Nat) => (List.range n).map fun (b : Nat) => f a b

theorem grid_length (n : Nat) (f : Nat → Nat → Int) : (grid n f).length = n := by simp [grid]
theorem grid_row (n : Nat) (f : Nat → Nat → Int) (a : Nat) (h : a < n) : (grid n f).getD a [] = (List.range n).map fun (b : Nat) => f a b := by simp [grid, h]
theorem grid_row_length (n : Nat) (f : Nat → Nat → Int) (a : Nat) (h : a < n) : ((grid n f).getD a []).length = n := by rw [grid_row n f a h]; simp
theorem grid_at (n : Nat) (f : Nat → Nat → Int) (a b : Nat) (ha : a < n) (hb : b < n) : ((grid n f).getD a []).getD b 0 = f a b := by rw [grid_row n f a ha]; simp [hb]
theorem grid_congr (n : Nat) (f g : Nat → Nat → Int) (h : ∀ a b, a < n → b < n → f a b = g a b) : grid n f = grid n g := by
  unfold grid
  refine List.map_congr_left fun a ha => List.map_congr_left fun b hb => h a b (List.mem_range.1 ha) (List.mem_range.1 hb)

/-- Block b begins with n cells, cell i holding f i. -/
def PreIs (w : World) (b : Nat) (t : TypeId) (n : Nat) (f : Nat → Value) : Prop :=
  ∃ cur : Array Value, w.heap[b]? = some (.cells cur t (0, 0)) ∧ ∀ i, i < n → cur[i]? = some (f i)

section
variable {w w' : World} {b : Nat} {t : TypeId} {n : Nat} {f h : Nat → Value}
theorem PreIs.of_row (r : w.rowIs b t n f) : PreIs w b t n f := by
  obtain ⟨cur, h1, _, h3⟩ := r
  exact ⟨cur, h1, h3⟩
theorem PreIs.lt (r : PreIs w b t n f) : b < w.heap.size := by
  obtain ⟨cur, h1, _⟩ := r
  exact (Array.getElem?_eq_some_iff.1 h1).1
theorem PreIs.cell (r : PreIs w b t n f) {i : Nat} (hi : i < n) : w.cell? ⟨b, i, none⟩ = some (f i) := by
  obtain ⟨cur, h1, h2⟩ := r
  rw [cell_of_row w b i cur t (0, 0) h1]
  exact h2 i hi
theorem PreIs.frozen (r : PreIs w b t n f) (i : Nat) : w.frozen? ⟨b, i, none⟩ = false := by
  obtain ⟨cur, h1, _⟩ := r
  simp [World.frozen?, h1]
theorem PreIs.congr (r : PreIs w b t n f) (e : ∀ i, i < n → f i = h i) : PreIs w b t n h := by
  obtain ⟨cur, h1, h2⟩ := r
  exact ⟨cur, h1, fun i hi => by rw [h2 i hi, e i hi]⟩
theorem PreIs.of_block (r : PreIs w b t n f) (e : w'.heap[b]? = w.heap[b]?) : PreIs w' b t n f := by
  obtain ⟨cur, h1, h2⟩ := r
  exact ⟨cur, e.trans h1, h2⟩
theorem PreIs.set (r : PreIs w b t n f) (i : Nat) (v : Value) : PreIs (w.setCell ⟨b, i, none⟩ v) b t n (fun j => if j = i then v else f j) := by
  obtain ⟨cur, h1, h2⟩ := r
  refine ⟨cur.setIfInBounds i v, by simp [World.setCell, Array.getElem?_modify, h1], fun j hj => ?_⟩
  have hc := h2 j hj
  rw [Array.getElem?_setIfInBounds]
  by_cases e : i = j
  · subst e
    have := (Array.getElem?_eq_some_iff.1 hc).1
    simp [this]
  · have e' : ¬ j = i := fun h => e h.symm
    simp [e, e', hc]
theorem PreIs.far (r : PreIs w b t n f) {p : Addr} (hp : b ≠ p.block) (v : Value) : PreIs (w.setCell p v) b t n f := r.of_block (Below.heap_setCell w p v b hp)
end

/-- Block g is a table of n elements, row i in block G i, its values by a function. -/
structure TabF (ts t : TypeId) (w : World) (g : Nat) (G : Nat → Nat) (n : Nat) (f : Nat → Nat → Int) : Prop where
  top : ∃ C : Nat → Nat, PreIs w g ts n (fun i => .slice (some ⟨G i, 0, none⟩) n (C i))
  row : ∀ i, i < n → PreIs w (G i) t n (fun j => .int .i64 (f i j))
  ne : ∀ i, i < n → g ≠ G i
  inj : ∀ i j, i < n → j < n → i ≠ j → G i ≠ G j

section
variable {ts t : TypeId} {w w' : World} {g : Nat} {G : Nat → Nat} {n : Nat} {f : Nat → Nat → Int}

theorem TabF.lt (h : TabF ts t w g G n f) : g < w.heap.size := by
  obtain ⟨C, r⟩ := h.top
  exact r.lt

theorem TabF.congr {f' : Nat → Nat → Int} (h : TabF ts t w g G n f) (e : ∀ a b, a < n → b < n → f a b = f' a b) : TabF ts t w g G n f' :=
  ⟨h.top, fun i hi => (h.row i hi).congr (fun j hj => by rw [e i j hi hj]), h.ne, h.inj⟩

theorem TabF.set (h : TabF ts t w g G n f) (i j : Nat) (v : Int) (hi : i < n) : TabF ts t (w.setCell ⟨G i, j, none⟩ (.int .i64 v)) g G n (fun a b => if a = i ∧ b = j then v else f a b) := by
  obtain ⟨C, r⟩ := h.top
  refine ⟨⟨C, r.far (h.ne i hi) _⟩, fun a ha => ?_, h.ne, h.inj⟩
  by_cases e : a = i
  · subst e
    refine ((h.row a ha).set j _).congr (fun b _ => ?_)
    by_cases e2 : b = j
    · subst e2; simp
    · simp [e2]
  · refine ((h.row a ha).far (h.inj a i ha hi e) _).congr (fun b _ => ?_)
    simp [e]

theorem TabF.later (h : TabF ts t w g G n f) (hb : Below w.heap.size w w') : TabF ts t w' g G n f := by
  obtain ⟨C, r⟩ := h.top
  exact ⟨⟨C, r.of_block (hb.block g r.lt)⟩, fun i hi => (h.row i hi).of_block (hb.block _ (h.row i hi).lt), h.ne, h.inj⟩

theorem TabF.far {lo hi : Nat} (h : TabF ts t w g G n f) (ht : Touch lo hi w w') (hg : g < lo ∨ hi ≤ g) (hG : ∀ i, i < n → (G i < lo ∨ hi ≤ G i)) : TabF ts t w' g G n f := by
  obtain ⟨C, r⟩ := h.top
  exact ⟨⟨C, r.of_block (ht.block g r.lt hg)⟩, fun i hi => (h.row i hi).of_block (ht.block _ (h.row i hi).lt (hG i hi)), h.ne, h.inj⟩

theorem PreIs.own {m : Nat} {xs : List Int} {b : Nat} (h : PreIs w b t m (fun j => .int .i64 (xs.getD j 0))) (hm : xs.length = m) : OwnB t w b xs := by
  obtain ⟨cur, h1, h3⟩ := h
  exact ⟨cur, h1, fun i hi => h3 i (by omega)⟩

theorem TabF.obj {lo hi : Nat} (h : TabF ts t w g G n f) (h1 : lo ≤ g) (h2 : g < hi) (h3 : ∀ i, i < n → lo ≤ G i ∧ G i < hi) : Obj2 ts t lo hi w (some ⟨g, 0, none⟩) (grid n f) := by
  obtain ⟨C, cur, c1, c3⟩ := h.top
  refine .inr ⟨g, fun i => some ⟨G i, 0, none⟩, C, rfl, h1, h2, ⟨cur, c1, fun i hi => ?_⟩, fun i hi => ?_, fun i j hi hj hne a b ha hb => ?_⟩
  · rw [grid_length] at hi
    rw [c3 i hi, grid_row_length n f i hi]
  · rw [grid_length] at hi
    refine .inr ⟨G i, rfl, (h3 i hi).1, (h3 i hi).2, PreIs.own ((h.row i hi).congr (fun j hj => by rw [grid_at n f i j hi hj])) (grid_row_length n f i hi)⟩
  · rw [grid_length] at hi hj
    cases ha
    cases hb
    exact h.inj i j hi hj hne

theorem TabF.rd (h : TabF ts t w g G n f) : Rd2 w (some ⟨g, 0, none⟩) (grid n f) := by
  have h0 := h.obj (lo := 0) (hi := w.heap.size) (Nat.zero_le _) h.lt (fun i hi => ⟨Nat.zero_le _, (h.row i hi).lt⟩)
  exact h0.rd
end

theorem Obj2.tabF {ts t : TypeId} {w : World} {lo hi n : Nat} {A : Option Addr} {rows : List (List Int)} (hne : ts ≠ t) (h : Obj2 ts t lo hi w A rows) (h1 : 1 ≤ n) (hl : rows.length = n) (hls : ∀ i, i < n → (rows.getD i []).length = n) :
    ∃ (g : Nat) (G : Nat → Nat), A = some ⟨g, 0, none⟩ ∧ lo ≤ g ∧ g < hi ∧ (∀ i, i < n → lo ≤ G i ∧ G i < hi) ∧ TabF ts t w g G n (fun a b => (rows.getD a []).getD b 0) := by
  rcases h with ⟨_, rfl⟩ | ⟨g, R, C, rfl, hlo, hhi, ⟨cur, c1, c2⟩, ho, hd⟩
  · simp at hl; omega
  · have each : ∀ i, i < n → R i = some ⟨((R i).map (·.block)).getD 0, 0, none⟩ ∧ lo ≤ ((R i).map (·.block)).getD 0 ∧ ((R i).map (·.block)).getD 0 < hi ∧ OwnB t w (((R i).map (·.block)).getD 0) (rows.getD i []) := by
      intro i hi'
      rcases ho i (by omega) with ⟨_, e⟩ | ⟨g', e, e1, e2, e3⟩
      · have := hls i hi'
        rw [e] at this
        simp at this
        omega
      · rw [e]
        exact ⟨rfl, e1, e2, e3⟩
    refine ⟨g, fun i => ((R i).map (·.block)).getD 0, rfl, hlo, hhi, fun i hi' => ⟨(each i hi').2.1, (each i hi').2.2.1⟩, ⟨C, cur, c1, fun i hi' => ?_⟩, fun i hi' => ?_, fun i hi' e => ?_, fun i j hi' hj hne' e => ?_⟩
    · rw [c2 i (by omega), hls i hi']
      exact congrArg (fun a => some (Value.slice a n (C i))) (each i hi').1
    · obtain ⟨cur', d1, d2⟩ := (each i hi').2.2.2
      exact ⟨cur', d1, fun j hj => d2 j (by rw [hls i hi']; exact hj)⟩
    · obtain ⟨cur', d1, _⟩ := (each i hi').2.2.2
      rw [← e, c1] at d1
      injection d1 with d1
      injection d1 with _ d1
      exact hne d1
    · exact hd i j (by omega) (by omega) hne' _ _ (each i hi').1 (each j hj).1 e

/-- The table with rows and columns exchanged. -/
def turnL (rows : List (List Int)) : List (List Int) := grid rows.length fun a b => (rows.getD b []).getD a 0
theorem turnL_length (rows : List (List Int)) : (turnL rows).length = rows.length := grid_length _ _

end Go.Proofs.Ytpkfcjpppncbiaa
namespace Go.Proofs.Ytpkfcjpppncbiaa
open Go Go.RowKit
set_option maxHeartbeats 1000000

theorem l01Digit_any (x : Int) (w : World) (h0 : 0 ≤ x) (h1 : x < 12) :
    Calls Try.prog 46 #[.int .i64 x] w fun e w' => e = .returned (.string (lineS [x])) ∧ Below w.heap.size w w' := by
  by_cases h : x < 10
  · have hcv := run_convert_bytes_arg (P := Try.prog) (w.alloc (.cells #[.int .u8 (48 + x)] 5)) 73 5 Try.underlying73 Try.underlying5 w.heap.size 0 1 1 [48 + x] rfl
      (fun i hi => by
        obtain rfl : i = 0 := by omega
        simp [World.cell?_alloc_new]) 9 Try.underlying9
    have e : lineS [x] = strOfNums [48 + x] := by simp [lineS, lineL, dg, h]
    have HE := hide e
    clear e
    go_enter Try.func46, Try.ntmps46
    go_wp2_with fail
    go_ret
    exact ⟨by rw [HE.out]; rfl, (Below.refl _ _).alloc (Nat.le_refl _) _⟩
  · have h' : decide (x < 10) = false := by simpa using h
    have hcv := run_convert_bytes_arg (P := Try.prog) (w.alloc (.cells #[.int .u8 (97 + x - 10)] 5)) 73 5 Try.underlying73 Try.underlying5 w.heap.size 0 1 1 [97 + x - 10] rfl
      (fun i hi => by
        obtain rfl : i = 0 := by omega
        simp [World.cell?_alloc_new]) 9 Try.underlying9
    have e : lineS [x] = strOfNums [97 + x - 10] := by
      simp only [lineS, lineL, dg, List.map_cons, List.map_nil, if_neg h]
      have : 87 + x = 97 + x - 10 := by omega
      rw [this]
    have HE := hide e
    clear e
    go_enter Try.func46, Try.ntmps46
    go_wp2_with fail
    go_ret
    exact ⟨by rw [HE.out]; rfl, (Below.refl _ _).alloc (Nat.le_refl _) _⟩

theorem l01Line_any (A : Option Addr) (n c : Nat) (xs : List Int) (w : World) (hn : xs.length = n) (hb : n ≤ 1048576) (hx : Rd w A xs) (hin : ∀ x ∈ xs, 0 ≤ x ∧ x < 12) :
    Calls Try.prog 36 #[.slice A n c] w fun e w' => e = .returned (.string (lineS xs)) ∧ Below w.heap.size w w' := by
  have HN := hide hn
  have HIN := hide hin
  clear hn hin
  go_enter Try.func36, Try.ntmps36
  go_wp2_with fail
  go_loopw [3, 4] (fun s i wr => ∃ (k : Nat) (a : ByteArray), k ≤ n ∧ i = .int .i64 k ∧ s = .string a ∧ Hid (a = lineS (xs.take k)) ∧ a.size ≤ 1048576 ∧ Below w.heap.size w wr) (fun _ i _ => n - (intOf i).toNat)
  case atStart => exact ⟨0, _, Nat.zero_le _, rfl, rfl, hide (by simp [lineS_nil]), by simp [ByteArray.size], Below.refl _ _⟩
  case round =>
    obtain ⟨k, a, hk, rfl, rfl, HA, has, hbe⟩ := hrel
    have HB := hide hbe
    clear hbe
    by_cases hlt : k < n
    · obtain ⟨b, o, rfl, hbw, hc⟩ := hx (by have := HN.out; omega)
      have hc1 : wr.cell? ⟨b, o + k, none⟩ = some (.int .i64 (xs.getD k 0)) := (HB.out.cell (p := ⟨b, o + k, none⟩) hbw).trans (hc k (by have := HN.out; omega))
      have hl : k < xs.length := by have := HN.out; omega
      have hr := HIN.out (xs.getD k 0) (by simp [hl])
      have HL := hide hl
      obtain ⟨x, hx'⟩ : ∃ x, xs.getD k 0 = x := ⟨_, rfl⟩
      rw [hx'] at hc1 hr
      have HX := hide hx'
      clear hx' hc hl
      have hltz : (k : Int) < n := by omega
      obtain ⟨hr0, hr1⟩ := hr
      go_wp2_with fail
      refine (l01Digit_any x _ hr0 hr1).mono ?_
      rintro e w1 ⟨rfl, hq1⟩
      have HQ1 := hide hq1
      have hds := lineS_size [x]
      obtain ⟨d, hd⟩ : ∃ d, lineS [x] = d := ⟨_, rfl⟩
      rw [hd] at hds ⊢
      have hds' : d.size ≤ 1 := by simp at hds; omega
      have HD := hide hd
      clear hq1 hds hd
      go_wp2_with fail
      go_roundw
      case rel =>
        have e : a ++ d = lineS (xs.take (k + 1)) := by
          rw [HA.out, ← HD.out, lineS_snoc, List.take_succ_eq_append_getElem HL.out]
          have : xs[k]'HL.out = x := by have := HX.out; have hl := HL.out; simpa [hl] using this
          rw [this]
        refine ⟨k + 1, _, by omega, by go_num, rfl, hide e, ?_, HB.out.trans (HQ1.out.mono HB.out.size)⟩
        rw [e, lineS_size]
        simp
        omega
      case measure => simp [intOf]; omega
    · have hkn : k = n := by omega
      subst hkn
      go_wp2_with fail
      go_ret
      have h := HA.out
      rw [List.take_of_length_le (by have := HN.out; omega)] at h
      exact ⟨by rw [← h]; rfl, HB.out⟩
end Go.Proofs.Ytpkfcjpppncbiaa
