import Derived.Test.YthnkhljgealjdaaDe
import Derived.Test.YthnkhljgealjdaaDd
import Derived.Test.YthnkhljgealjdaaDf
import Derived.Test.YthnkhljgealjdaaDa
import Derived.Shelf.Abstract
import Derived.Shelf.Lay
import Derived.Test.YthnkhljgealjdaaDc
import Derived.Test.YthnkhljgealjdaaDb
import Derived.Test.YthnkhljgealjdaaProg
namespace Go.Proofs.Ythnkhljgealjdaa
open Go Go.RowKit
set_option maxHeartbeats 1000000

def hdr (G : Nat → Nat) (n x : Nat) : List Value := (List.range x).map fun i => .slice (some ⟨G i, 0, none⟩) n n
theorem hdr_length (G : Nat → Nat) (n x : Nat) : (hdr G n x).length = x := by simp [hdr]
theorem hdr_succ (G : Nat → Nat) (n x R : Nat) : hdr (fun i => if i = x then R else G i) n (x + 1) = hdr G n x ++ [.slice (some ⟨R, 0, none⟩) n n] := by
  unfold hdr
  rw [List.range_succ, List.map_append]
  congr 1
  · refine List.map_congr_left fun i hi => ?_
    have := List.mem_range.1 hi
    show Value.slice (some ⟨if i = x then R else G i, 0, none⟩) n n = _
    rw [if_neg (by omega)]
  · simp
section
variable {ts t tz : TypeId} {B : Nat} {w w' w1 : World} {ob : Nat} {v1 v2 v' : Value} {x1 x2 n : Nat} {G1 G2 : Nat → Nat}
/-- Two tables of zeros that the call builds row by row, in the box ob. -/
structure Emp (ts t : TypeId) (B : Nat) (w : World) (ob : Nat) (v1 v2 : Value) (x1 x2 n : Nat) (G1 G2 : Nat → Nat) : Prop where
  low : ob < B
  bsz : B ≤ w.heap.size
  o1 : w.ownsRow B ts 1 v1 x1 (hdr G1 n x1)
  o2 : w.ownsRow B ts 1 v2 x2 (hdr G2 n x2)
  ne : ∀ g, v1.ownBlock = some g → v2.ownBlock ≠ some g
  r1 : ∀ i, i < x1 → B ≤ G1 i ∧ PreIs w (G1 i) t n (fun _ => .int .i64 0)
  r2 : ∀ i, i < x2 → B ≤ G2 i ∧ PreIs w (G2 i) t n (fun _ => .int .i64 0)
  i1 : ∀ i j, i < x1 → j < x1 → i ≠ j → G1 i ≠ G1 j
  i2 : ∀ i j, i < x2 → j < x2 → i ≠ j → G2 i ≠ G2 j
  i12 : ∀ i j, i < x1 → j < x2 → G1 i ≠ G2 j

theorem Emp.start (w : World) (ts t : TypeId) (n : Nat) (h : ob < w.heap.size) : Emp ts t w.heap.size w ob (.slice none 0 0) (.slice none 0 0) 0 0 n (fun _ => 0) (fun _ => 0) :=
  ⟨h, Nat.le_refl _, World.ownsRow_nil _ _ _ _, World.ownsRow_nil _ _ _ _, fun g hg => by simp [Value.ownBlock] at hg, fun i hi => absurd hi (Nat.not_lt_zero _), fun i hi => absurd hi (Nat.not_lt_zero _), fun i j hi => absurd hi (Nat.not_lt_zero _), fun i j hi => absurd hi (Nat.not_lt_zero _), fun i j hi => absurd hi (Nat.not_lt_zero _)⟩

theorem PreIs.later' {b : Nat} {f : Nat → Value} (r : PreIs w b t n f) (hb : Below w.heap.size w w') : PreIs w' b t n f := r.of_block (hb.block b r.lt)

theorem Emp.swapped (h : Emp ts t B w ob v1 v2 x1 x2 n G1 G2) : Emp ts t B w ob v2 v1 x2 x1 n G2 G1 :=
  ⟨h.low, h.bsz, h.o2, h.o1, fun g h1 h2 => h.ne g h2 h1, h.r2, h.r1, h.i2, h.i1, fun i j hi hj e => h.i12 j i hj hi e.symm⟩

theorem pre_ne_own {b g : Nat} {f : Nat → Value} {v : Value} {k : Nat} {xs : List Value} (hne : ts ≠ t) (r : PreIs w b t n f) (h : w.ownsRow B ts 1 v k xs) (hg : v.ownBlock = some g) : b ≠ g := by
  intro e
  subst e
  obtain ⟨_, _, cur, h1⟩ := own_type h hg
  obtain ⟨cur', h2, _⟩ := r
  rw [h1] at h2
  injection h2 with h2
  injection h2 with _ h2
  exact hne h2

theorem Emp.kept (h : Emp ts t B w ob v1 v2 x1 x2 n G1 G2) {cs : List Value} (hk : Blk w ob tz cs) {W : World} (hbw : Below w.heap.size w W) (hg : W.grownBy w1 v1.ownBlock) : Blk w1 ob tz cs :=
  (hg.block ob (Nat.lt_of_lt_of_le hk.lt hbw.size) (fun e => by
    have := (own_type h.o1 e.symm).2.1
    have := h.low
    omega)).trans (hk.later hbw)
theorem Emp.keptR (h : Emp ts t B w ob v1 v2 x1 x2 n G1 G2) {b : Nat} {cs : List Value} (hk : Blk w b tz cs) (hb : b < B) (hne : b ≠ ob) {W : World} (hbw : Below w.heap.size w W) (hg : W.grownBy w1 v1.ownBlock) (q : Nat) (u : Value) : Blk (w1.setCell ⟨ob, q, none⟩ u) b tz cs :=
  (Below.heap_setCell w1 ⟨ob, q, none⟩ u b hne).trans ((hg.block b (Nat.lt_of_lt_of_le hk.lt hbw.size) (fun e => by
    have := (own_type h.o1 e.symm).2.1
    omega)).trans (hk.later hbw))
/-- What a row more in one list leaves. -/
theorem Emp.push (hne : ts ≠ t) (h : Emp ts t B w ob v1 v2 x1 x2 n G1 G2) {q : Nat} {W : World} (hbw : Below w.heap.size w W) (hWs : W.heap.size = w.heap.size + 1 + 1) (hWr : PreIs W w.heap.size t n (fun _ => .int .i64 0))
    (hown : w1.ownsRow B ts 1 v' (x1 + 1) (hdr G1 n x1 ++ [.slice (some ⟨w.heap.size, 0, none⟩) n n])) (hg : W.grownBy w1 v1.ownBlock)
    (hat : v'.ownBlock = v1.ownBlock ∨ v'.ownBlock = some (w.heap.size + 1 + 1)) :
    Emp ts t B (w1.setCell ⟨ob, q, none⟩ v') ob v' v2 (x1 + 1) x2 n (fun i => if i = x1 then w.heap.size else G1 i) G2 := by
  have hsz := hg.size
  rw [hWs] at hsz
  have hlow := h.low
  have hbsz := h.bsz
  have keep : ∀ b, b < w.heap.size → v1.ownBlock ≠ some b → b ≠ ob → (w1.setCell ⟨ob, q, none⟩ v').heap[b]? = w.heap[b]? := fun b h1 h2 h3 =>
    (Below.heap_setCell w1 ⟨ob, q, none⟩ v' b h3).trans ((hg.block b (by omega) (fun e => h2 e.symm)).trans (hbw.block b h1))
  have krow : ∀ b, B ≤ b → PreIs w b t n (fun _ => .int .i64 0) → PreIs (w1.setCell ⟨ob, q, none⟩ v') b t n (fun _ => .int .i64 0) := fun b hB r =>
    r.of_block (keep b r.lt (fun e => pre_ne_own hne r h.o1 e rfl) (by omega))
  have hnew : PreIs (w1.setCell ⟨ob, q, none⟩ v') w.heap.size t n (fun _ => .int .i64 0) := by
    refine hWr.of_block ((Below.heap_setCell w1 ⟨ob, q, none⟩ v' w.heap.size (by show w.heap.size ≠ ob; omega)).trans (hg.block _ (by omega) (fun e => ?_)))
    have := (own_type h.o1 e.symm).1
    omega
  refine ⟨hlow, by simp [World.setCell]; omega, ownsRow_setCell_below (by rw [hdr_succ]; exact hown) hlow _, ownsRow_setCell_below ((ownsRow_below h.o2 hbw).kept hg ?_) hlow _, fun g h1 h2 => ?_, fun i hi => ?_, fun i hi => ?_, fun i j hi hj hij => ?_, h.i2, fun i j hi hj => ?_⟩
  · by_cases e : v2.ownBlock = none
    · exact .inl e
    · refine .inr (fun e2 => ?_)
      cases e3 : v2.ownBlock with
      | none => exact e e3
      | some g => exact h.ne g (e2.symm.trans e3) e3
  · rcases hat with e | e
    · exact h.ne g (e.symm.trans h1) h2
    · rw [h1] at e
      injection e with e
      have := (own_type h.o2 h2).1
      omega
  · by_cases e : i = x1
    · rw [if_pos e]; exact ⟨hbsz, hnew⟩
    · simp only [if_neg e]
      have hr := h.r1 i (by omega)
      exact ⟨hr.1, krow _ hr.1 hr.2⟩
  · have hr := h.r2 i hi
    exact ⟨hr.1, krow _ hr.1 hr.2⟩
  · by_cases e : i = x1
    · by_cases e2 : j = x1
      · omega
      · simp only [if_pos e, if_neg e2]
        have := (h.r1 j (by omega)).2.lt
        omega
    · by_cases e2 : j = x1
      · simp only [if_neg e, if_pos e2]
        have := (h.r1 i (by omega)).2.lt
        omega
      · simp only [if_neg e, if_neg e2]
        exact h.i1 i j (by omega) (by omega) hij
  · by_cases e : i = x1
    · simp only [if_pos e]
      have := (h.r2 j hj).2.lt
      omega
    · simp only [if_neg e]
      exact h.i12 i j (by omega) hj

theorem Emp.lowset (h : Emp ts t B w ob v1 v2 x1 x2 n G1 G2) {p : Addr} (hp : p.block < B) (u : Value) : Emp ts t B (w.setCell p u) ob v1 v2 x1 x2 n G1 G2 :=
  ⟨h.low, by simpa [World.setCell] using h.bsz, ownsRow_setCell_below h.o1 hp _, ownsRow_setCell_below h.o2 hp _, h.ne, fun i hi => ⟨(h.r1 i hi).1, (h.r1 i hi).2.far (by have := (h.r1 i hi).1; omega) _⟩, fun i hi => ⟨(h.r2 i hi).1, (h.r2 i hi).2.far (by have := (h.r2 i hi).1; omega) _⟩, h.i1, h.i2, h.i12⟩
/-- Two tables that have no block in common, all from lo on. -/
structure Duo (ts t : TypeId) (lo : Nat) (w : World) (n : Nat) (g1 : Nat) (G1 : Nat → Nat) (f1 : Nat → Nat → Int) (g2 : Nat) (G2 : Nat → Nat) (f2 : Nat → Nat → Int) : Prop where
  t1 : TabF ts t w g1 G1 n f1
  t2 : TabF ts t w g2 G2 n f2
  l1 : lo ≤ g1 ∧ ∀ i, i < n → lo ≤ G1 i
  l2 : lo ≤ g2 ∧ ∀ i, i < n → lo ≤ G2 i
  ne : g1 ≠ g2
  n12 : ∀ i, i < n → g1 ≠ G2 i
  n21 : ∀ i, i < n → g2 ≠ G1 i
  rows : ∀ i j, i < n → j < n → G1 i ≠ G2 j
theorem tabF_of {g c : Nat} (hne : ts ≠ t) (ho : w.ownsRow B ts 1 (.slice (some ⟨g, 0, none⟩) n c) n (hdr G1 n n)) (hr : ∀ i, i < n → B ≤ G1 i ∧ PreIs w (G1 i) t n (fun _ => .int .i64 0)) (hi : ∀ i j, i < n → j < n → i ≠ j → G1 i ≠ G1 j) : TabF ts t w g G1 n (fun _ _ => 0) := by
  obtain ⟨_, _, cur, hh⟩ := own_type ho (g := g) rfl
  refine ⟨⟨fun _ => n, cur, hh, fun i hin => ?_⟩, fun i hin => (hr i hin).2, fun i hin e => pre_ne_own hne (hr i hin).2 ho rfl e.symm, hi⟩
  have h := ho.cells (g := g) rfl i (.slice (some ⟨G1 i, 0, none⟩) n n) (by unfold hdr; simp [hin])
  have e : ((⟨g, 0, none⟩ : Addr).add i) = ⟨g, i, none⟩ := by
    unfold Addr.add
    split
    · rename_i e; rw [e]
    · simp
  rw [e, cell_of_row w g i cur ts (0, 0) hh] at h
  exact h
theorem Emp.duo {g1 g2 c1 c2 lo : Nat} (h : Emp ts t B w ob (.slice (some ⟨g1, 0, none⟩) n c1) (.slice (some ⟨g2, 0, none⟩) n c2) n n n G1 G2) (hne : ts ≠ t) (hlo : lo ≤ B) : Duo ts t lo w n g1 G1 (fun _ _ => 0) g2 G2 (fun _ _ => 0) :=
  ⟨tabF_of hne h.o1 h.r1 h.i1, tabF_of hne h.o2 h.r2 h.i2, ⟨Nat.le_trans hlo (own_type h.o1 (g := g1) rfl).2.1, fun i hi => Nat.le_trans hlo (h.r1 i hi).1⟩, ⟨Nat.le_trans hlo (own_type h.o2 (g := g2) rfl).2.1, fun i hi => Nat.le_trans hlo (h.r2 i hi).1⟩, fun e => h.ne g1 rfl (by rw [e]; rfl), fun i hi e => pre_ne_own hne (h.r2 i hi).2 h.o1 rfl e.symm, fun i hi e => pre_ne_own hne (h.r1 i hi).2 h.o2 rfl e.symm, h.i12⟩
end
end Go.Proofs.Ythnkhljgealjdaa
namespace Go.Proofs.Ythnkhljgealjdaa
open Go Go.RowKit

/-- What is asked of the function value: for each three elements, in each later world, it says whether they are as asked, and leaves what there was. -/
def BoolFn3 (P : Program) (F : FuncId) (lb : Array Value) (n : Nat) (q : Nat → Nat → Nat → Bool) (w : World) : Prop :=
  ∀ (W : World) (x y z : Nat), x < n → y < n → z < n → Below w.heap.size w W → Calls P F (#[.int .i64 x, .int .i64 y, .int .i64 z] ++ lb) W fun e w' => e = .returned (.bool (q x y z)) ∧ Below W.heap.size W w'
theorem BoolFn3.later {P : Program} {F : FuncId} {lb : Array Value} {n : Nat} {q : Nat → Nat → Nat → Bool} {w w' : World} (hc : BoolFn3 P F lb n q w) (hb : Below w.heap.size w w') : BoolFn3 P F lb n q w' :=
  fun W x y z hx hy hz hw => hc W x y z hx hy hz (hb.trans (hw.mono hb.size))

/-- What is said of the list of number T. -/
def qAt (q : Nat → Nat → Nat → Bool) (n T : Nat) : Bool := q (trip n T).1 (trip n T).2.1 (trip n T).2.2
theorem qAt_at {q : Nat → Nat → Nat → Bool} {n x y z : Nat} (hy : y < n) (hz : z < n) : qAt q n ((x * n + y) * n + z) = q x y z := by
  unfold qAt
  rw [trip_of hy hz]
/-- T is the first that is as asked, or behind all. -/
def FirstQ (q : Nat → Nat → Nat → Bool) (n T : Nat) : Prop := (∀ i, i < T → qAt q n i = false) ∧ T ≤ n * n * n ∧ (T < n * n * n → qAt q n T = true)
theorem FirstQ.bad {q : Nat → Nat → Nat → Bool} {n T k : Nat} (h : FirstQ q n T) (h1 : ∀ i, i < k → qAt q n i = false) (hk : k < n * n * n) (h2 : qAt q n k = true) : T = k := by
  have a : ¬ k < T := fun h3 => by have := h.1 k h3; rw [h2] at this; exact absurd this (by simp)
  have b : ¬ T < k := fun h3 => by have := h1 T h3; rw [h.2.2 (by omega)] at this; exact absurd this (by simp)
  omega
theorem FirstQ.all {q : Nat → Nat → Nat → Bool} {n T : Nat} (h : FirstQ q n T) (h1 : ∀ i, i < n * n * n → qAt q n i = false) : T = n * n * n := by
  have a := h.2.1
  have b : ¬ T < n * n * n := fun h3 => by have := h1 T h3; rw [h.2.2 h3] at this; exact absurd this (by simp)
  omega
theorem FirstQ.ex (q : Nat → Nat → Nat → Bool) (n : Nat) : ∃ T, FirstQ q n T := by
  have h : ∀ k, k ≤ n * n * n → (∀ i, i < k → qAt q n i = false) ∨ ∃ T, FirstQ q n T := by
    intro k
    induction k with
    | zero => intro _; exact .inl (fun i hi => absurd hi (Nat.not_lt_zero _))
    | succ k ih =>
      intro hk
      rcases ih (by omega) with h | h
      · rcases e : qAt q n k with _ | _
        · refine .inl (fun i hi => ?_)
          by_cases e2 : i = k
          · subst e2; exact e
          · exact h i (by omega)
        · exact .inr ⟨k, h, by omega, fun _ => e⟩
      · exact .inr h
  rcases h _ (Nat.le_refl _) with h | h
  · exact ⟨_, h, Nat.le_refl _, fun h2 => absurd h2 (by omega)⟩
  · exact h
theorem FirstQ.iff {q : Nat → Nat → Nat → Bool} {n T : Nat} (h : FirstQ q n T) : T = n * n * n ↔ ∀ i, i < n * n * n → qAt q n i = false :=
  ⟨fun e i hi => h.1 i (by omega), h.all⟩
end Go.Proofs.Ythnkhljgealjdaa
namespace Go.Proofs.Ythnkhljgealjdaa
open Go Go.RowKit
/-- The condition of racks at the list of number T. -/
def Rk3 (f : List (List Int)) (n T : Nat) : Prop := ap f (trip n T).1 (ap f (trip n T).2.1 (trip n T).2.2) = ap f (ap f (trip n T).1 (trip n T).2.1) (ap f (trip n T).1 (trip n T).2.2)
def FirstK (f : List (List Int)) (n T : Nat) : Prop := (∀ i, i < T → Rk3 f n i) ∧ T ≤ n * n * n ∧ (T < n * n * n → ¬ Rk3 f n T)
theorem FirstK.ex (f : List (List Int)) (n : Nat) : ∃ T, FirstK f n T := by
  have h : ∀ k, k ≤ n * n * n → (∀ i, i < k → Rk3 f n i) ∨ ∃ T, FirstK f n T := by
    intro k
    induction k with
    | zero => intro _; exact .inl (fun i hi => absurd hi (Nat.not_lt_zero _))
    | succ k ih =>
      intro hk
      rcases ih (by omega) with h | h
      · by_cases e : Rk3 f n k
        · refine .inl (fun i hi => ?_)
          by_cases e2 : i = k
          · subst e2; exact e
          · exact h i (by omega)
        · exact .inr ⟨k, h, by omega, fun _ => e⟩
      · exact .inr h
  rcases h _ (Nat.le_refl _) with h | h
  · exact ⟨_, h, Nat.le_refl _, fun h2 => absurd h2 (by omega)⟩
  · exact h
theorem FirstK.bad {f : List (List Int)} {n T k : Nat} (h : FirstK f n T) (h1 : ∀ i, i < k → Rk3 f n i) (hk : k < n * n * n) (h2 : ¬ Rk3 f n k) : T = k := by
  have a : ¬ k < T := fun h3 => h2 (h.1 k h3)
  have b : ¬ T < k := fun h3 => h.2.2 (by omega) (h1 T h3)
  omega
theorem FirstK.all {f : List (List Int)} {n T : Nat} (h : FirstK f n T) (h1 : ∀ i, i < n * n * n → Rk3 f n i) : T = n * n * n := by
  have a := h.2.1
  have b : ¬ T < n * n * n := fun h3 => h.2.2 h3 (h1 T h3)
  omega
theorem FirstK.iff {f : List (List Int)} {n T : Nat} (h : FirstK f n T) : T = n * n * n ↔ ∀ i, i < n * n * n → Rk3 f n i :=
  ⟨fun e i hi => h.1 i (by omega), h.all⟩
theorem Rk3.at {f : List (List Int)} {n x y z : Nat} (hy : y < n) (hz : z < n) : Rk3 f n ((x * n + y) * n + z) ↔ ap f x (ap f y z) = ap f (ap f x y) (ap f x z) := by
  unfold Rk3
  rw [trip_of hy hz]
/-- What a rack is. -/
def Rck (f : List (List Int)) : Prop := (Tbl f ∧ AllPrm f) ∧ ∀ i, i < f.length * f.length * f.length → Rk3 f f.length i
def RkRes (f : List (List Int)) (r : Bool) : Prop := r = true ↔ Rck f
theorem RkRes.ex (f : List (List Int)) : ∃ r, RkRes f r := bool_of _
def RkFRes (f : List (List Int)) (zs : List Int) (code : Int) : Prop :=
  (∃ T, (Tbl f ∧ AllPrm f) ∧ FirstK f f.length T ∧ ((T < f.length * f.length * f.length ∧ zs = lst3 (trip f.length T) ∧ code = 0) ∨ (T = f.length * f.length * f.length ∧ zs = [] ∧ code = 4))) ∨ (Tbl f ∧ ¬ AllPrm f ∧ zs = [] ∧ code = 5) ∨ (¬ Tbl f ∧ zs = [] ∧ code = 1)
theorem RkFRes.ex (f : List (List Int)) : ∃ zs code, RkFRes f zs code ∧ zs.length ≤ 1048576 := by
  by_cases h : Tbl f
  · by_cases h1 : AllPrm f
    · obtain ⟨T, hT⟩ := FirstK.ex f f.length
      by_cases h2 : T < f.length * f.length * f.length
      · exact ⟨_, _, .inl ⟨T, ⟨h, h1⟩, hT, .inl ⟨h2, rfl, rfl⟩⟩, by simp [lst3]⟩
      · exact ⟨_, _, .inl ⟨T, ⟨h, h1⟩, hT, .inr ⟨by have := hT.2.1; omega, rfl, rfl⟩⟩, by simp⟩
    · exact ⟨_, _, .inr (.inl ⟨h, h1, rfl, rfl⟩), by simp⟩
  · exact ⟨_, _, .inr (.inr ⟨h, rfl, rfl⟩), by simp⟩
theorem Rck.tbl {f : List (List Int)} (h : Rck f) : Tbl f := h.1.1
theorem Rck.prm {f : List (List Int)} (h : Rck f) : AllPrm f := h.1.2
end Go.Proofs.Ythnkhljgealjdaa
namespace Go.Proofs.Ythnkhljgealjdaa
open Go Go.RowKit
set_option maxHeartbeats 1000000
def SolF (f s : List (List Int)) : Prop := PMap f s ∧ NoCol f s f.length ∧ First f s f.length (f.length * f.length * f.length)
def IsRes (f s : List (List Int)) (r : Bool) : Prop := r = true ↔ SolF f s
theorem IsRes.ex (f s : List (List Int)) : ∃ r, IsRes f s r := by
  by_cases h : SolF f s
  · exact ⟨true, by simp [IsRes, h]⟩
  · exact ⟨false, by simp [IsRes, h]⟩
theorem First.uniq {f s : List (List Int)} {n T T' : Nat} (h : First f s n T) (h' : First f s n T') : T = T' := by
  rcases Nat.lt_trichotomy T T' with e | e | e
  · exact absurd (h'.1 T e) (h.2.2 (by have := h'.2.1; omega))
  · exact e
  · exact absurd (h.1 T' e) (h'.2.2 (by have := h.2.1; omega))
/-- The four ways of it. -/
theorem IsRes.cases {f s : List (List Int)} {n : Nat} (hn : f.length = n) {r : Bool} (h : IsRes f s r) :
    (¬ PMap f s ∧ r = false) ∨ (PMap f s ∧ ∃ T, First f s n T ∧ ((T < n * n * n ∧ ((NoCol f s n ∧ r = false) ∨ ((∃ a b, FstCol f s n a b) ∧ r = false))) ∨ (T = n * n * n ∧ (((∃ a b, FstCol f s n a b) ∧ r = false) ∨ (NoCol f s n ∧ r = true))))) := by
  subst hn
  have hb : ∀ h9 : ¬ SolF f s, r = false := fun h9 => Bool.eq_false_iff.2 (fun e => h9 (h.1 e))
  by_cases hp : PMap f s
  · obtain ⟨T, hT⟩ := First.ex f s f.length
    refine .inr ⟨hp, T, hT, ?_⟩
    by_cases h2 : T < f.length * f.length * f.length
    · have hr := hb (fun h9 => by have := First.uniq hT h9.2.2; omega)
      rcases col_or f s f.length with hc | hc
      · exact .inl ⟨h2, .inl ⟨hc, hr⟩⟩
      · exact .inl ⟨h2, .inr ⟨hc, hr⟩⟩
    · have he : T = f.length * f.length * f.length := by have := hT.2.1; omega
      subst he
      refine .inr ⟨rfl, ?_⟩
      rcases col_or f s f.length with hc | hc
      · exact .inr ⟨hc, h.2 ⟨hp, hc, hT⟩⟩
      · exact .inl ⟨hc, hb (fun h9 => by obtain ⟨a, b, hf⟩ := hc; exact hf.not h9.2.1)⟩
  · exact .inl ⟨hp, hb (fun h9 => hp h9.1)⟩
end Go.Proofs.Ythnkhljgealjdaa
namespace Go.Proofs.Ythnkhljgealjdaa
open Go Go.RowKit
/-! The group of some permutations of n elements, found from the identity on. -/
theorem unit_prm {n : Nat} (h1 : 1 ≤ n) (h12 : n ≤ 12) : Prm (unitN n) := by
  refine (prm_iff _).2 ⟨by rw [unitN_length]; exact h1, by rw [unitN_length]; exact h12, fun x h0 hx => ?_⟩
  rw [unitN_length] at hx
  obtain ⟨m, rfl⟩ : ∃ m : Nat, x = (m : Int) := ⟨x.toNat, by omega⟩
  exact List.mem_map.2 ⟨m, List.mem_range.2 (by omega), rfl⟩
theorem then_prm {n : Nat} {p q : List Int} (hl : p.length = n) (hp : Prm p) (hm : q.length = n) (hq : Prm q) : Prm (thenL p q) := by
  have hp1 := (prm_iff _).1 hp
  have hq1 := (prm_iff _).1 hq
  refine (prm_iff _).2 ⟨by rw [thenL_length]; exact hp1.1, by rw [thenL_length]; exact hp1.2.1, fun x h0 hx => ?_⟩
  rw [thenL_length, hl] at hx
  obtain ⟨j, hj, e⟩ := List.getElem_of_mem (hq1.2.2 x h0 (by omega))
  have hjp := hp1.2.2 (j : Int) (by omega) (by omega)
  refine List.mem_map.2 ⟨(j : Int), hjp, ?_⟩
  simp [hj, e]
/-- What the generators make, from the identity on. -/
inductive Gen (n : Nat) (gs : List (List Int)) : List Int → Prop
  | unit : Gen n gs (unitN n)
  | step {p q : List Int} : Gen n gs p → q ∈ gs → Gen n gs (thenL p q)
/-- A list of all of them, each once. -/
def Enu (n : Nat) (gs L : List (List Int)) : Prop := L.Nodup ∧ ∀ x, x ∈ L ↔ Gen n gs x
theorem nodup_sub {α : Type} [DecidableEq α] {l m : List α} (h : l.Nodup) (hs : ∀ a ∈ l, a ∈ m) : l.length ≤ m.length := by
  obtain ⟨k, hk⟩ := subset_perm l m h hs
  have := hk.length_eq
  simp at this
  omega
theorem Enu.len {n : Nat} {gs L L' : List (List Int)} (h : Enu n gs L) (h' : Enu n gs L') : L.length = L'.length :=
  Nat.le_antisymm (nodup_sub h.1 fun a ha => (h'.2 a).2 ((h.2 a).1 ha)) (nodup_sub h'.1 fun a ha => (h.2 a).2 ((h'.2 a).1 ha))
/-- There are at most M. -/
def AtMost (n : Nat) (gs : List (List Int)) (M : Nat) : Prop := ∃ L, Enu n gs L ∧ L.length ≤ M
theorem not_atMost {n : Nat} {gs found : List (List Int)} {x : List Int} {M : Nat} (hd : found.Nodup) (hg : ∀ y, y ∈ found → Gen n gs y) (hx : Gen n gs x) (hn : x ∉ found) (hM : M ≤ found.length) : ¬ AtMost n gs M := by
  rintro ⟨L, hL, hl⟩
  have := nodup_sub (l := x :: found) (m := L) (List.nodup_cons.2 ⟨hn, hd⟩) (fun a ha => by
    rcases List.mem_cons.1 ha with rfl | ha
    · exact (hL.2 _).2 hx
    · exact (hL.2 _).2 (hg _ ha))
  simp at this
  omega
/-- How the search stands: the first i that were found are done, and of the next one the first k generators. -/
structure Srch (n : Nat) (gs found : List (List Int)) (i k : Nat) : Prop where
  nd : found.Nodup
  gen : ∀ y, y ∈ found → Gen n gs y
  unit : unitN n ∈ found
  done : ∀ a, a < i → ∀ g, g ∈ gs → thenL (found.getD a []) g ∈ found
  part : ∀ b, b < k → thenL (found.getD i []) (gs.getD b []) ∈ found
theorem Srch.start (n : Nat) (gs : List (List Int)) : Srch n gs [unitN n] 0 0 where
  nd := by simp
  gen := fun y hy => by simp at hy; subst hy; exact .unit
  unit := by simp
  done := fun a ha => by omega
  part := fun b hb => by omega
theorem getD_mem {α : Type} (l : List α) (i : Nat) (d : α) (h : i < l.length) : l.getD i d ∈ l := by simp [h]
theorem getD_app {α : Type} (l : List α) (v : α) (i : Nat) (d : α) (h : i < l.length) : (l ++ [v]).getD i d = l.getD i d := by
  simp only [List.getD_eq_getElem?_getD]
  rw [List.getElem?_append_left h]
theorem Srch.keep {n : Nat} {gs found : List (List Int)} {i k : Nat} (h : Srch n gs found i k) (hm : thenL (found.getD i []) (gs.getD k []) ∈ found) : Srch n gs found i (k + 1) :=
  ⟨h.nd, h.gen, h.unit, h.done, fun b hb => by
    by_cases e : b = k
    · rw [e]; exact hm
    · exact h.part b (by omega)⟩
theorem Srch.made {n : Nat} {gs found : List (List Int)} {i k : Nat} (h : Srch n gs found i k) (hi : i < found.length) (hk : k < gs.length) : Gen n gs (thenL (found.getD i []) (gs.getD k [])) :=
  .step (h.gen _ (getD_mem _ _ _ hi)) (getD_mem _ _ _ hk)
theorem Srch.push {n : Nat} {gs found : List (List Int)} {i k : Nat} (h : Srch n gs found i k) (hi : i < found.length) (hk : k < gs.length) (hn : thenL (found.getD i []) (gs.getD k []) ∉ found) : Srch n gs (found ++ [thenL (found.getD i []) (gs.getD k [])]) i (k + 1) where
  nd := List.nodup_append.2 ⟨h.nd, by simp, fun a ha b hb e => by simp at hb; subst hb; subst e; exact hn ha⟩
  gen := fun y hy => by
    rcases List.mem_append.1 hy with hy | hy
    · exact h.gen y hy
    · simp at hy; subst hy; exact h.made hi hk
  unit := List.mem_append.2 (.inl h.unit)
  done := fun a ha g hg => by rw [getD_app _ _ _ _ (by omega)]; exact List.mem_append.2 (.inl (h.done a ha g hg))
  part := fun b hb => by
    rw [getD_app _ _ _ _ hi]
    by_cases e : b = k
    · rw [e]; exact List.mem_append.2 (.inr (by simp))
    · exact List.mem_append.2 (.inl (h.part b (by omega)))
theorem Srch.next {n : Nat} {gs found : List (List Int)} {i : Nat} (h : Srch n gs found i gs.length) : Srch n gs found (i + 1) 0 :=
  ⟨h.nd, h.gen, h.unit, fun a ha g hg => by
    by_cases e : a = i
    · obtain ⟨b, hb, e2⟩ := List.getElem_of_mem hg
      have h2 := h.part b hb
      rw [show gs.getD b [] = g by rw [← e2]; simp [hb]] at h2
      rw [e]; exact h2
    · exact h.done a (by omega) g hg, fun b hb => by omega⟩
theorem Srch.fin {n : Nat} {gs found : List (List Int)} (h : Srch n gs found found.length 0) : Enu n gs found :=
  ⟨h.nd, fun x => ⟨h.gen x, fun hx => by
    induction hx with
    | unit => exact h.unit
    | @step p q _ hq ih =>
      obtain ⟨a, ha, e⟩ := List.getElem_of_mem ih
      have h2 := h.done a ha _ hq
      have h3 : found.getD a [] = p := by rw [← e]; simp [ha]
      rw [h3] at h2
      exact h2⟩⟩
/-- All of them are permutations of n elements. -/
theorem gen_prm {n : Nat} {gs : List (List Int)} (h1 : 1 ≤ n) (h12 : n ≤ 12) (hg : Gens gs n) {x : List Int} (hx : Gen n gs x) : x.length = n ∧ Prm x := by
  induction hx with
  | unit => exact ⟨unitN_length n, unit_prm h1 h12⟩
  | @step p q _ hq ih =>
    obtain ⟨b, hb, e⟩ := List.getElem_of_mem hq
    have h2 := hg b hb
    have h3 : gs.getD b [] = q := by rw [← e]; simp [hb]
    rw [h3] at h2
    exact ⟨by unfold thenL; simpa using ih.1, then_prm ih.1 ih.2 h2.1 h2.2⟩
/-- What the order of a group is answered. -/
def OrdR (n : Nat) (gs : List (List Int)) (M : Nat) (err v code : Int) : Prop := (∃ L, Enu n gs L ∧ L.length ≤ M ∧ v = (L.length : Int) ∧ code = 0) ∨ (¬ AtMost n gs M ∧ v = 0 ∧ code = err)
theorem OrdR.ex (n : Nat) (gs : List (List Int)) (M : Nat) (err : Int) : ∃ v code, OrdR n gs M err v code := by
  by_cases h : AtMost n gs M
  · obtain ⟨L, h1, h2⟩ := h
    exact ⟨_, _, .inl ⟨L, h1, h2, rfl, rfl⟩⟩
  · exact ⟨_, _, .inr ⟨h, rfl, rfl⟩⟩
end Go.Proofs.Ythnkhljgealjdaa
namespace Go.Proofs.Ythnkhljgealjdaa
open Go Go.RowKit

theorem ex_gen {Q : Exit → Act → World → Prop} {e : Exit} {a : Act} {w : World} (h : ∀ wf, wf = w → Q e a wf) : Q e a w := h w rfl

/-- The boxes that a call has made, the last one being top; the list of pairs; and nothing below is changed. -/
structure FK (w wx : World) (g n top : Nat) (bs : List (Nat × TypeId × List Value)) : Prop where
  below : Below w.heap.size w wx
  pairs : PairsAt wx g n
  gtop : g ≤ top
  blks : ∀ q, q ∈ bs → Blk wx q.1 q.2.1 q.2.2 ∧ q.1 ≤ top
  low : w.heap.size ≤ top
  sz : top < wx.heap.size

section
variable {w wx wy : World} {g n top : Nat} {bs : List (Nat × TypeId × List Value)}
theorem FK.start {b1 b2 b3 : Nat} {t1 t2 t3 : TypeId} {c1 c2 c3 : List Value} (hb : Below w.heap.size w wx) (hp : PairsAt wx g n) (h1 : Blk wx b1 t1 c1) (h2 : Blk wx b2 t2 c2) (h3 : Blk wx b3 t3 c3) (hw : w.heap.size < wx.heap.size := by assumption) : FK w wx g n (wx.heap.size - 1) [(b3, t3, c3), (b2, t2, c2), (b1, t1, c1)] :=
  ⟨hb, hp, by have := hp.1; omega, fun q hq => by
    have l1 := h1.lt
    have l2 := h2.lt
    have l3 := h3.lt
    simp at hq
    rcases hq with rfl | rfl | rfl
    · exact ⟨h3, by show b3 ≤ _; omega⟩
    · exact ⟨h2, by show b2 ≤ _; omega⟩
    · exact ⟨h1, by show b1 ≤ _; omega⟩, by omega, by omega⟩
theorem FK.later (h : FK w wx g n top bs) (hb : Below wx.heap.size wx wy) : FK w wy g n top bs :=
  ⟨h.below.trans (hb.mono h.below.size), h.pairs.later hb, h.gtop, fun q hq => ⟨(h.blks q hq).1.later hb, (h.blks q hq).2⟩, h.low, Nat.lt_of_lt_of_le h.sz hb.size⟩
theorem FK.set (h : FK w wx g n top bs) {p : Addr} (hp : top < p.block) (v : Value) : FK w (wx.setCell p v) g n top bs :=
  ⟨h.below.setCell (Nat.le_trans h.low (Nat.le_of_lt hp)) v, h.pairs.touch (lo := p.block) (hi := p.block + 1) ⟨rfl, rfl, rfl, by simp [World.setCell], fun k _ hne => Below.heap_setCell wx p v k (by omega)⟩ (.inl (Nat.lt_of_le_of_lt h.gtop hp)), h.gtop, fun q hq => ⟨(h.blks q hq).1.far (by have := (h.blks q hq).2; omega) v, (h.blks q hq).2⟩, h.low, by have := h.sz; simp [World.setCell]; omega⟩
theorem FK.push (h : FK w wx g n top bs) {L : Nat} {t : TypeId} {cs : List Value} (hb : Blk wx L t cs) (hL : top < L) : FK w wx g n L ((L, t, cs) :: bs) :=
  ⟨h.below, h.pairs, by have := h.gtop; omega, fun q hq => by
    rcases List.mem_cons.1 hq with rfl | hq
    · exact ⟨hb, Nat.le_refl _⟩
    · exact ⟨(h.blks q hq).1, by have := (h.blks q hq).2; omega⟩, by have := h.low; omega, hb.lt⟩
theorem FK.new (h : FK w wx g n top bs) (t : TypeId) (cs : List Value) : FK w (wx.alloc (.cells cs.toArray t)) g n wx.heap.size ((wx.heap.size, t, cs) :: bs) :=
  (h.later ((Below.refl _ _).alloc (Nat.le_refl _) _)).push (Blk.new _ _ _) h.sz
theorem FK.blk (h : FK w wx g n top bs) {b : Nat} {t : TypeId} {cs : List Value} (hm : (b, t, cs) ∈ bs) : Blk wx b t cs := (h.blks _ hm).1
theorem FK.top' (h : FK w wx g n top bs) {b : Nat} {t : TypeId} {cs : List Value} (hm : (b, t, cs) ∈ bs) : b ≤ top := (h.blks _ hm).2
end
end Go.Proofs.Ythnkhljgealjdaa
namespace Go.Proofs.Ythnkhljgealjdaa
open Go Go.RowKit
open Go.ChangeMaps (setBlock heap_setBlock_same heap_setBlock_other)
open Classical
set_option maxRecDepth 100000

/-- The map from each pair to the list of those that are led to it, among the first k: G tells the slices. -/
structure Led (w : World) (b B n k : Nat) (f s : List (List Int)) (G : Nat × Nat → Value) : Prop where
  map : ∃ V, MapV w b k V ∧ ∀ p : Nat × Nat, (V (pkey p.1 p.2)).getD (.slice none 0 0) = G p
  low : b < B
  rows : ∀ p : Nat × Nat, w.ownsRow B 76 2 (G p) (ledL f s n k p).length (pcs n (ledL f s n k p))
  ne : ∀ (p p' : Nat × Nat) (g : Nat), p ≠ p' → (G p).ownBlock = some g → (G p').ownBlock ≠ some g

theorem Led.start {w : World} {b : Nat} {V : Value → Option Value} (h : MapV w b 0 V) (hV : ∀ v, V v = none) (B n : Nat) (f s : List (List Int)) (hb : b < B) : Led w b B n 0 f s (fun _ => .slice none 0 0) :=
  ⟨⟨V, h, fun p => by rw [hV]; rfl⟩, hb, fun p => ⟨by simp [ledL, pcs], .inl ⟨rfl, by simp [ledL]⟩⟩, fun _ _ _ _ h => by cases h⟩
theorem Led.lt {w : World} {b B n k : Nat} {f s : List (List Int)} {G : Nat × Nat → Value} (h : Led w b B n k f s G) : b < w.heap.size := by
  obtain ⟨V, hm, _⟩ := h.map
  exact hm.lt
theorem ownsRow2_later {w w' : World} {B n : Nat} {t : TypeId} {v : Value} {xs : List Value} (h : w.ownsRow B t 2 v n xs) (hb : Below w.heap.size w w') : w'.ownsRow B t 2 v n xs := by
  obtain ⟨hl, h | ⟨g, cap, cur, hv, h1, hg, hn, hcap, hsz, hxs⟩⟩ := h
  · exact ⟨hl, .inl h⟩
  · exact ⟨hl, .inr ⟨g, cap, cur, hv, h1, (hb.block g (Array.getElem?_eq_some_iff.1 hg).1).trans hg, hn, hcap, hsz, hxs⟩⟩
theorem Led.later {w w' : World} {b B n k : Nat} {f s : List (List Int)} {G : Nat × Nat → Value} (h : Led w b B n k f s G) (hb : Below w.heap.size w w') : Led w' b B n k f s G := by
  obtain ⟨⟨V, hm, hV⟩, h1, h2, h3⟩ := h
  exact ⟨⟨V, hm.later hb, hV⟩, h1, fun p => ownsRow2_later (h2 p) hb, h3⟩

theorem led_low {w : World} {b B n k : Nat} {f s : List (List Int)} {G : Nat × Nat → Value} (h : Led w b B n k f s G) (p : Nat × Nat) : some b ≠ (G p).ownBlock := fun e => by
  have h1 := (h.rows p).lt b e.symm
  have h2 := h.low
  omega

/-- A pair is appended to the list at the pair to which it is led: the entry is looked up, the slice appended to, and laid back. -/
theorem Led.step {w : World} {b B n k : Nat} {f s : List (List Int)} {G : Nat × Nat → Value} {t : TypeId} (h : Led w b B n k f s G) (ht : Try.prog.underlying t = some (.map 76 86)) (hz : ∀ u : World, (zeroValue 86).run Try.prog u = .ok (.slice none 0 0) u) (hk : k < maxLen) (q : Nat × Nat) (hq : ledK f s n k = q) (hq1 : q.1 < 4611686018427387904) (hq2 : q.2 < 4611686018427387904) :
    ∃ st W, (Instr.mapEntry t (.map (some b)) (.agg #[.int .i64 q.1, .int .i64 q.2])).run Try.prog w = .ok (.tuple #[G q, .int .i64 st]) W ∧ (∀ i, i ≠ b → W.heap[i]? = w.heap[i]?) ∧ W.heap.size = w.heap.size ∧ w.grownBy W (some b) ∧
      (W.ownsRow B 76 2 (G q) (ledL f s n k q).length (pcs n (ledL f s n k q))) ∧
      ∀ (w1 : World) (v' : Value), W.grownBy w1 (G q).ownBlock → w1.ownsRow B 76 2 v' ((ledL f s n k q).length + 1) (pcs n (ledL f s n k q) ++ [.int .i64 ((k / n : Nat) : Int), .int .i64 ((k % n : Nat) : Int)]) → (v'.ownBlock = (G q).ownBlock ∨ v'.ownBlock = some W.heap.size) →
        ∃ w3, (Instr.entryStore t (.map (some b)) (.int .i64 st) v').run Try.prog w1 = .ok () w3 ∧ w1.grownBy w3 (some b) ∧ Led w3 b B n (k + 1) f s (fun p => if p = q then v' else G p) := by
  obtain ⟨V, hm, hV⟩ := h.map
  have hlow := h.low
  have hrows := h.rows
  have hne := h.ne
  have hltb := hm.lt
  obtain ⟨kl, hkey⟩ := mp_key w q.1 q.2 hq1 hq2
  obtain ⟨st, es1, clock1, hE, hS⟩ := hm.entry ht hz hk hkey
  have hbk : ∃ es clock, w.heap[b]? = some (.map es clock) := by
    obtain ⟨D, ⟨es, clock, hb, _⟩, _⟩ := hm
    exact ⟨es, clock, hb⟩
  obtain ⟨es0, clock0, hb0⟩ := hbk
  have hother : ∀ i, i ≠ b → (setBlock w b (.map es1 clock1)).heap[i]? = w.heap[i]? := fun i hi => heap_setBlock_other hb0 _ hi
  have hsize : (setBlock w b (.map es1 clock1)).heap.size = w.heap.size := by simp [setBlock]
  have hgr : w.grownBy (setBlock w b (.map es1 clock1)) (some b) := ⟨rfl, rfl, rfl, by simp [setBlock], fun i _ hi => heap_setBlock_other hb0 _ (fun e => hi (by rw [e]))⟩
  have hkeep : ∀ p : Nat × Nat, (setBlock w b (.map es1 clock1)).ownsRow B 76 2 (G p) (ledL f s n k p).length (pcs n (ledL f s n k p)) := fun p => (hrows p).kept hgr (by
    cases e : (G p).ownBlock with
    | none => exact .inl rfl
    | some g => exact .inr (fun e2 => led_low h p (by rw [e, e2])))
  refine ⟨st, setBlock w b (.map es1 clock1), ?_, hother, hsize, hgr, hkeep q, fun w1 v' hg1 hown hat => ?_⟩
  · rw [← hV q]; exact hE
  have hb1 : w1.heap[b]? = some (.map es1 clock1) := (hg1.block b (by rw [hsize]; exact hltb) (led_low h q)).trans (heap_setBlock_same hb0 _)
  obtain ⟨es', clock', hrun, hMap⟩ := hS w1 v' hb1
  have hgr3 : w1.grownBy (setBlock w1 b (.map es' clock')) (some b) := ⟨rfl, rfl, rfl, by simp [setBlock], fun i _ hi => heap_setBlock_other hb1 _ (fun e => hi (by rw [e]))⟩
  refine ⟨setBlock w1 b (.map es' clock'), hrun, hgr3, ⟨_, hMap, fun p => ?_⟩, hlow, fun p => ?_, fun p p' g hpp hg hg' => ?_⟩
  · by_cases e : p = q
    · subst e
      simp
    · have e2 : pkey p.1 p.2 ≠ pkey q.1 q.2 := fun e3 => e (by
        obtain ⟨e4, e5⟩ := pkey_inj e3
        exact Prod.ext e4 e5)
      simp only [if_neg e, if_neg e2]
      exact hV p
  · rw [ledL_succ]
    by_cases e : p = q
    · subst e
      simp only [if_pos, hq]
      rw [List.length_append, List.length_singleton, pcs_snoc]
      refine hown.kept hgr3 ?_
      cases e : v'.ownBlock with
      | none => exact .inl rfl
      | some g =>
        refine .inr (fun e2 => ?_)
        injection e2 with e2
        have := hown.lt g e
        omega
    · have e2 : ¬ ledK f s n k = p := fun e3 => e (e3.symm.trans hq)
      simp only [if_neg e, if_neg e2]
      have h1 : w1.ownsRow B 76 2 (G p) (ledL f s n k p).length (pcs n (ledL f s n k p)) := (hkeep p).kept hg1 (by
        cases e3 : (G p).ownBlock with
        | none => exact .inl rfl
        | some g => exact .inr (fun e4 => hne p q g e e3 e4.symm))
      refine h1.kept hgr3 ?_
      cases e3 : (G p).ownBlock with
      | none => exact .inl rfl
      | some g => exact .inr (fun e4 => led_low h p (by rw [e3, e4]))
  · have hnew : ∀ p'', p'' ≠ q → ∀ g, v'.ownBlock = some g → (G p'').ownBlock ≠ some g := fun p'' hp g hg hg' => by
      rcases hat with e | e
      · exact hne p'' q g hp hg' (e ▸ hg)
      · rw [hg] at e
        injection e with e
        have := (hrows p'').lt g hg'
        omega
    by_cases e : p = q
    · have e2 : p' ≠ q := fun e2 => hpp (e.trans e2.symm)
      simp only [if_pos e] at hg
      simp only [if_neg e2] at hg'
      exact hnew p' e2 g hg hg'
    · simp only [if_neg e] at hg
      by_cases e2 : p' = q
      · simp only [if_pos e2] at hg'
        exact hnew p e g hg' hg
      · simp only [if_neg e2] at hg'
        exact hne p p' g hpp hg hg'
end Go.Proofs.Ythnkhljgealjdaa
namespace Go.Proofs.Ythnkhljgealjdaa
open Go Go.RowKit
set_option maxHeartbeats 1000000

/-- What is asked of the function value: at each pair of elements, in each later world, it hands back the pair of both functions' values, and leaves what there was. -/
def PairFnB (P : Program) (F : FuncId) (u : Value) (n : Nat) (h1 h2 : Nat → Nat → Int) (w : World) : Prop :=
  ∀ (W : World) (x y : Nat), x < n → y < n → Below w.heap.size w W → Calls P F #[u, .agg #[.int .i64 x, .int .i64 y]] W fun e w' => e = .returned (.agg #[.int .i64 (h1 x y), .int .i64 (h2 x y)]) ∧ Below W.heap.size W w'

/-- After k pairs. -/
def pmpTo (h : Nat → Nat → Int) (n k : Nat) : Nat → Nat → Int := fun a b => if a * n + b < k then h a b else 0
theorem pmpTo_upd (h : Nat → Nat → Int) (n k x y : Nat) (hx : k / n = x) (hy : k % n = y) (_hyn : y < n) : ∀ a b, a < n → b < n → updF (pmpTo h n k) x y (h x y) a b = pmpTo h n (k + 1) a b := by
  intro a b _ hb
  have hk : k = x * n + y := by rw [← hx, ← hy]; exact (pair_eta n k).symm
  unfold updF pmpTo
  by_cases e : a = x ∧ b = y
  · obtain ⟨rfl, rfl⟩ := e
    rw [if_pos ⟨rfl, rfl⟩, if_pos (by omega)]
  · rw [if_neg e]
    have hne : a * n + b ≠ k := fun hh => e (by
      have h1 := pair_div n a b hb
      have h2 := pair_mod n a b hb
      rw [hh] at h1 h2
      omega)
    by_cases h2 : a * n + b < k
    · rw [if_pos h2, if_pos (by omega)]
    · rw [if_neg h2, if_neg (by omega)]

end Go.Proofs.Ythnkhljgealjdaa
namespace Go.Proofs.Ythnkhljgealjdaa
open Go Go.RowKit
set_option maxHeartbeats 2000000
theorem sqf_div {m a : Nat} (h : a < m * m) : a / m < m := Nat.div_lt_of_lt_mul h
theorem sqf_mod {m a : Nat} (h : a < m * m) : a % m < m := Nat.mod_lt _ (by rcases Nat.eq_zero_or_pos m with e | e; (subst e; simp at h); exact e)
theorem tdivN (a m : Nat) : Int.tdiv (a : Int) (m : Int) = ((a / m : Nat) : Int) := (Int.ofNat_tdiv a m).symm
theorem tmodN (a m : Nat) : Int.tmod (a : Int) (m : Int) = ((a % m : Nat) : Int) := (Int.ofNat_tmod a m).symm

set_option maxRecDepth 100000 in
theorem collS_any (A : Option Addr) (n c : Nat) (f : List (List Int)) (B : Option Addr) (m d : Nat) (s : List (List Int)) (w : World) (hz : ZArg 1048576 w A n f B m s) (hp : PMap f s) :
    Calls Try.prog 49 #[.agg #[.slice A n c, .slice B m d]] w fun e w' => ∃ g k zs, e = .returned (.slice (some ⟨g, 0, none⟩) k k) ∧ Below w.heap.size w w' ∧ w.heap.size ≤ g ∧ OwnB 2 w' g zs ∧ ((NoCol f s n ∧ zs = [] ∧ k = 0) ∨ ∃ a b, FstCol f s n a b ∧ zs = [((a / n : Nat) : Int), ((a % n : Nat) : Int), ((b / n : Nat) : Int), ((b % n : Nat) : Int)] ∧ k = 4) := by
  have hnb := hz.sz.nb
  have HZ := hide hz
  have HB0 := hide ((Below.refl _ w).alloc (Nat.le_refl _) (Obj.cells #[Value.slice A n c, Value.slice B m d] 29))
  have HK0 := hide (Blk.new w 29 [.slice A n c, .slice B m d])
  have HFL := hide hz.sz.fl
  have HP := hide hp
  have h12 := hz.small hp
  obtain rfl := hz.same hp
  have hm0 : (m : Int) ≠ 0 := by omega
  have hm1 : (m : Int) ≠ -1 := by omega
  clear hp hz
  obtain ⟨N, hN⟩ : ∃ N, m * m = N := ⟨_, rfl⟩
  have hN144 : N ≤ 144 := by rw [← hN]; exact Nat.mul_le_mul h12.2 h12.2
  have hNz : (m : Int) * (m : Int) = (N : Int) := by rw [← hN]; exact (Int.natCast_mul m m).symm
  have HN := hide hN
  clear hN
  go_enter Try.func49, Try.ntmps49
  go_wp2_with fail
  go_loopw [4] (fun i wr => ∃ x : Nat, x ≤ N ∧ i = .int .i64 x ∧ Below w.heap.size w wr ∧ Blk wr w.heap.size 29 [.slice A m c, .slice B m d] ∧ ∀ i j, i < x → j < N → j ≠ i → ledK f s m i ≠ ledK f s m j) (fun i _ => N - (intOf i).toNat)
  case atStart => exact ⟨0, Nat.zero_le _, rfl, HB0.out, HK0.out, fun a b ha => absurd ha (Nat.not_lt_zero _)⟩
  case round =>
    obtain ⟨a, ha, rfl, hbe, hkk, hall⟩ := hrel
    have HB := hide hbe
    have HK := hide hkk
    have HALL := hide hall
    clear hbe hkk hall
    by_cases hlt : a < N
    · have haz : (a : Int) < N := by omega
      go_wp2_with fail
      obtain ⟨wo, rfl⟩ : ∃ wo : World, wo = wr := ⟨_, rfl⟩
      go_loopw [5] (fun i wi => ∃ y : Nat, y ≤ N ∧ i = .int .i64 y ∧ Below w.heap.size w wi ∧ Blk wi w.heap.size 29 [.slice A m c, .slice B m d] ∧ ∀ j, j < y → j ≠ a → ledK f s m a ≠ ledK f s m j) (fun i _ => N - (intOf i).toNat)
      case atStart => exact ⟨0, Nat.zero_le _, rfl, HB.out, HK.out, fun b hb => absurd hb (Nat.not_lt_zero _)⟩
      case round =>
        obtain ⟨b, hb, rfl, hbi, hki, halli⟩ := hrel
        have HBI := hide hbi
        have HKI := hide hki
        have HALLI := hide halli
        clear hbi hki halli
        by_cases hlty : b < N
        · have hbz : (b : Int) < N := by omega
          have td1 := tdivN a m
          have td2 := tmodN a m
          have td3 := tdivN b m
          have td4 := tmodN b m
          obtain ⟨x, hx⟩ : ∃ x, a / m = x := ⟨_, rfl⟩
          obtain ⟨y, hy⟩ : ∃ y, a % m = y := ⟨_, rfl⟩
          obtain ⟨u, hu⟩ : ∃ u, b / m = u := ⟨_, rfl⟩
          obtain ⟨v, hv⟩ : ∃ v, b % m = v := ⟨_, rfl⟩
          have hxn : x < m := by rw [← hx]; exact sqf_div (by rw [HN.out]; exact hlt)
          have hyn : y < m := by rw [← hy]; exact sqf_mod (by rw [HN.out]; exact hlt)
          have hun : u < m := by rw [← hu]; exact sqf_div (by rw [HN.out]; exact hlty)
          have hvn : v < m := by rw [← hv]; exact sqf_mod (by rw [HN.out]; exact hlty)
          rw [hx] at td1
          rw [hy] at td2
          rw [hu] at td3
          rw [hv] at td4
          have HX := hide hx
          have HY := hide hy
          have HU := hide hu
          have HV := hide hv
          clear hx hy hu hv
          go_wp2_with fail
          go_region
          clear td1 td2 td3 td4
          have k0 := HKI.out.cell 0 _ rfl
          have k1 := HKI.out.cell 1 _ rfl
          obtain ⟨bb, o, b2, o2, bx, ox, cx, by', oy, cy, rfl, rfl, h1, h2, h3, h4, _, _, _, _⟩ := (HZ.out.later HBI.out).reads HP.out hxn hyn
          obtain ⟨b', o', b2', o2', bu, ou, cu, bv, ov, cv, e1, e2, g1, g2, g3, g4, _, _, _, _⟩ := (HZ.out.later HBI.out).reads HP.out hun hvn
          injection e1 with e1
          injection e1 with e1 e3 _
          injection e2 with e2
          injection e2 with e2 e4 _
          subst e1
          subst e3
          subst e2
          subst e4
          obtain ⟨p1, hp1⟩ : ∃ zz, ap f x y = zz := ⟨_, rfl⟩
          obtain ⟨p2, hp2⟩ : ∃ zz, ap s x y = zz := ⟨_, rfl⟩
          obtain ⟨q1, hq1⟩ : ∃ zz, ap f u v = zz := ⟨_, rfl⟩
          obtain ⟨q2, hq2⟩ : ∃ zz, ap s u v = zz := ⟨_, rfl⟩
          rw [hp1] at h3
          rw [hp2] at h4
          rw [hq1] at g3
          rw [hq2] at g4
          have hka : ledK f s m a = (p1, p2) := by unfold ledK; rw [HX.out, HY.out, hp1, hp2]
          have hkb : ledK f s m b = (q1, q2) := by unfold ledK; rw [HU.out, HV.out, hq1, hq2]
          have HKA := hide hka
          have HKB := hide hkb
          clear hka hkb hp1 hp2 hq1 hq2
          have hxz : (x : Int) < m := by omega
          have hyz : (y : Int) < m := by omega
          have huz : (u : Int) < m := by omega
          have hvz : (v : Int) < m := by omega
          have hcs : (((a : Int) != (b : Int)) = false ∧ Hid (b = a)) ∨ (((a : Int) != (b : Int)) = true ∧ ((p1 : Int) == (q1 : Int)) = false ∧ Hid (ledK f s m a ≠ ledK f s m b)) ∨ (((a : Int) != (b : Int)) = true ∧ ((p1 : Int) == (q1 : Int)) = true ∧ ((p2 : Int) == (q2 : Int)) = false ∧ Hid (ledK f s m a ≠ ledK f s m b)) ∨ (((a : Int) != (b : Int)) = true ∧ ((p1 : Int) == (q1 : Int)) = true ∧ ((p2 : Int) == (q2 : Int)) = true ∧ Hid (b ≠ a ∧ ledK f s m a = ledK f s m b)) := by
            by_cases z0 : b = a
            · exact .inl ⟨by simp [z0], hide z0⟩
            · by_cases z1 : p1 = q1
              · by_cases z2 : p2 = q2
                · exact .inr (.inr (.inr ⟨by simp; omega, by simp [z1], by simp [z2], hide ⟨z0, by rw [HKA.out, HKB.out, z1, z2]⟩⟩))
                · exact .inr (.inr (.inl ⟨by simp; omega, by simp [z1], by simp; omega, hide (by rw [HKA.out, HKB.out]; intro e; injection e with _ e; exact z2 e)⟩))
              · exact .inr (.inl ⟨by simp; omega, by simp; omega, hide (by rw [HKA.out, HKB.out]; intro e; injection e with e _; exact z1 e)⟩)
          rcases hcs with ⟨t1, HT⟩ | ⟨t1, t2, HT⟩ | ⟨t1, t2, t3, HT⟩ | ⟨t1, t2, t3, HT⟩
          · go_wp2_with fail
            go_quiet (fail)
            clear h1 h2 h3 h4 g1 g2 g3 g4 k0 k1
            have hBN := bdrewN HBI.out (1 + nq)
            have hKN := HKI.out.drewN (1 + nq)
            have HBN := hide hBN
            have HKN := hide hKN
            clear hBN hKN
            go_wp2_with fail
            go_roundw
            case rel =>
              exact ⟨b + 1, by omega, by go_num, HBN.out, HKN.out, fun j hj hne => by
                by_cases e : j = b
                · exact absurd (e.trans HT.out) hne
                · exact HALLI.out j (by omega) hne⟩
            case measure => simp [intOf]; omega
          · go_wp2_with fail
            go_quiet (fail)
            clear h1 h2 h3 h4 g1 g2 g3 g4 k0 k1
            have hBN := bdrewN HBI.out (1 + nq)
            have hKN := HKI.out.drewN (1 + nq)
            have HBN := hide hBN
            have HKN := hide hKN
            clear hBN hKN
            go_wp2_with fail
            go_roundw
            case rel =>
              exact ⟨b + 1, by omega, by go_num, HBN.out, HKN.out, fun j hj hne => by
                by_cases e : j = b
                · rw [e]; exact HT.out
                · exact HALLI.out j (by omega) hne⟩
            case measure => simp [intOf]; omega
          · go_wp2_with fail
            go_quiet (fail)
            clear h1 h2 h3 h4 g1 g2 g3 g4 k0 k1
            have hBN := bdrewN HBI.out (1 + nq)
            have hKN := HKI.out.drewN (1 + nq)
            have HBN := hide hBN
            have HKN := hide hKN
            clear hBN hKN
            go_wp2_with fail
            go_roundw
            case rel =>
              exact ⟨b + 1, by omega, by go_num, HBN.out, HKN.out, fun j hj hne => by
                by_cases e : j = b
                · rw [e]; exact HT.out
                · exact HALLI.out j (by omega) hne⟩
            case measure => simp [intOf]; omega
          · go_wp2_with fail
            go_quiet (fail)
            clear h1 h2 h3 h4 g1 g2 g3 g4 k0 k1
            have hBN := bdrewN HBI.out (1 + nq)
            have hKN := HKI.out.drewN (1 + nq)
            have HBN := hide hBN
            have HKN := hide hKN
            clear hBN hKN
            go_wp2_with fail
            refine bp_gen fun wf hwf => ?_
            have HBF : Below w.heap.size w wf := by rw [hwf]; exact HBN.out.alloc HBN.out.size _
            have HOF : OwnB 2 wf (wr.drewN (1 + nq)).heap.size [(x : Int), (y : Int), (u : Int), (v : Int)] := by
              rw [hwf]
              refine ⟨_, heap_alloc_new _ _, fun i hi => ?_⟩
              simp at hi
              rcases i with _ | _ | _ | _ | i
              · rfl
              · rfl
              · rfl
              · rfl
              · omega
            have hlo : w.heap.size ≤ (wr.drewN (1 + nq)).heap.size := HBN.out.size
            clear hwf
            have HFC : Hid (FstCol f s m a b) := hide ⟨by rw [HN.out]; exact hlt, by rw [HN.out]; exact hlty, fun e => HT.out.1 e.symm, HT.out.2, fun i hi j hj => HALL.out i j hi (by rw [← HN.out]; exact hj), fun j hj hne => HALLI.out j hj hne⟩
            go_ret
            exact ⟨_, 4, _, rfl, HBF, hlo, HOF, .inr ⟨a, b, HFC.out, by rw [HX.out, HY.out, HU.out, HV.out], rfl⟩⟩
        · have hyn : b = N := by omega
          subst hyn
          go_wp2_with fail
          go_roundw
          case rel =>
            refine ⟨a + 1, by omega, by go_num, HBI.out, HKI.out, fun i j hi hj hne => ?_⟩
            by_cases e : i = a
            · subst e; exact HALLI.out j hj hne
            · exact HALL.out i j (by omega) hj hne
          case measure => simp [intOf]; omega
    · have hxn : a = N := by omega
      subst hxn
      go_wp2_with fail
      refine bp_gen fun wf hwf => ?_
      have HBF : Below w.heap.size w wf := by rw [hwf]; exact HB.out.alloc HB.out.size _
      have HOF : OwnB 2 wf wr.heap.size [] := by rw [hwf]; exact ⟨_, heap_alloc_new _ _, fun i hi => absurd hi (Nat.not_lt_zero _)⟩
      have hlo : w.heap.size ≤ wr.heap.size := HB.out.size
      clear hwf
      go_ret
      exact ⟨_, 0, [], rfl, HBF, hlo, HOF, .inl ⟨fun i j hi hj hne => HALL.out i j (by rw [← HN.out]; exact hi) (by rw [← HN.out]; exact hj) (fun e => hne e.symm), rfl, rfl⟩⟩
end Go.Proofs.Ythnkhljgealjdaa
