import Derived.Test.YtngfdkmiifpbgaaDoorZi
import Derived.Test.YtngfdkmiifpbgaaDoorZf
import Derived.Test.YtngfdkmiifpbgaaDoorZa
import Derived.Shelf.Abstract
import Derived.Shelf.Lay
import Derived.Test.YtngfdkmiifpbgaaDoorZc
import Derived.Test.YtngfdkmiifpbgaaDoorZe
import Derived.Test.YtngfdkmiifpbgaaDoorZg
import Derived.Test.YtngfdkmiifpbgaaDoorZd
namespace Go.Proofs.YtngfdkmiifpbgaaDoor
open Go Go.RowKit
/-- The condition of racks at the list of number T. -/
def Rk3 (f : List (List Int)) (n T : Nat) : Prop := ap f (trip n T).1 (ap f (trip n T).2.1 (trip n T).2.2) = ap f (ap f (trip n T).1 (trip n T).2.1) (ap f (trip n T).1 (trip n T).2.2)
def FirstK (f : List (List Int)) (n T : Nat) : Prop := (∀ i, i < T → Rk3 f n i) ∧ T ≤ n * n * n ∧ (T < n * n * n → ¬ Rk3 f n T)
theorem FirstK.ex (f : List (List Int)) (n : Nat) : ∃ T, FirstK f n T := by
  have h : ∀ k, k ≤ n * n * n → (∀ i, i < k → Rk3 f n i) ∨ ∃ T, FirstK f n T := by
    intro k
    induction k with
    | zero => intro _; exact .inl (fun i hi => absurd hi (Nat.not_lt_zero _))
    | succ k ih =>
      intro hk
      rcases ih (by omega) with h | h
      · by_cases e : Rk3 f n k
        · refine .inl (fun i hi => ?_)
          by_cases e2 : i = k
          · subst e2; exact e
          · exact h i (by omega)
        · exact .inr ⟨k, h, by omega, fun _ => e⟩
      · exact .inr h
  rcases h _ (Nat.le_refl _) with h | h
  · exact ⟨_, h, Nat.le_refl _, fun h2 => absurd h2 (by omega)⟩
  · exact h
theorem FirstK.bad {f : List (List Int)} {n T k : Nat} (h : FirstK f n T) (h1 : ∀ i, i < k → Rk3 f n i) (hk : k < n * n * n) (h2 : ¬ Rk3 f n k) : T = k := by
  have a : ¬ k < T := fun h3 => h2 (h.1 k h3)
  have b : ¬ T < k := fun h3 => h.2.2 (by omega) (h1 T h3)
  omega
theorem FirstK.all {f : List (List Int)} {n T : Nat} (h : FirstK f n T) (h1 : ∀ i, i < n * n * n → Rk3 f n i) : T = n * n * n := by
  have a := h.2.1
  have b : ¬ T < n * n * n := fun h3 => h.2.2 h3 (h1 T h3)
  omega
theorem FirstK.iff {f : List (List Int)} {n T : Nat} (h : FirstK f n T) : T = n * n * n ↔ ∀ i, i < n * n * n → Rk3 f n i :=
  ⟨fun e i hi => h.1 i (by omega), h.all⟩
theorem Rk3.at {f : List (List Int)} {n x y z : Nat} (hy : y < n) (hz : z < n) : Rk3 f n ((x * n + y) * n + z) ↔ ap f x (ap f y z) = ap f (ap f x y) (ap f x z) := by
  unfold Rk3
  rw [trip_of hy hz]
/-- What a rack is. -/
def Rck (f : List (List Int)) : Prop := (Tbl f ∧ AllPrm f) ∧ ∀ i, i < f.length * f.length * f.length → Rk3 f f.length i
def RkRes (f : List (List Int)) (r : Bool) : Prop := r = true ↔ Rck f
theorem RkRes.ex (f : List (List Int)) : ∃ r, RkRes f r := bool_of _
def RkFRes (f : List (List Int)) (zs : List Int) (code : Int) : Prop :=
  (∃ T, (Tbl f ∧ AllPrm f) ∧ FirstK f f.length T ∧ ((T < f.length * f.length * f.length ∧ zs = lst3 (trip f.length T) ∧ code = 0) ∨ (T = f.length * f.length * f.length ∧ zs = [] ∧ code = 4))) ∨ (Tbl f ∧ ¬ AllPrm f ∧ zs = [] ∧ code = 5) ∨ (¬ Tbl f ∧ zs = [] ∧ code = 1)
theorem RkFRes.ex (f : List (List Int)) : ∃ zs code, RkFRes f zs code ∧ zs.length ≤ 1048576 := by
  by_cases h : Tbl f
  · by_cases h1 : AllPrm f
    · obtain ⟨T, hT⟩ := FirstK.ex f f.length
      by_cases h2 : T < f.length * f.length * f.length
      · exact ⟨_, _, .inl ⟨T, ⟨h, h1⟩, hT, .inl ⟨h2, rfl, rfl⟩⟩, by simp [lst3]⟩
      · exact ⟨_, _, .inl ⟨T, ⟨h, h1⟩, hT, .inr ⟨by have := hT.2.1; omega, rfl, rfl⟩⟩, by simp⟩
    · exact ⟨_, _, .inr (.inl ⟨h, h1, rfl, rfl⟩), by simp⟩
  · exact ⟨_, _, .inr (.inr ⟨h, rfl, rfl⟩), by simp⟩
theorem Rck.tbl {f : List (List Int)} (h : Rck f) : Tbl f := h.1.1
theorem Rck.prm {f : List (List Int)} (h : Rck f) : AllPrm f := h.1.2
end Go.Proofs.YtngfdkmiifpbgaaDoor
namespace Go.Proofs.YtngfdkmiifpbgaaDoor
open Go Go.RowKit

/-- What is asked of the function value: for each three elements, in each later world, it says whether they are as asked, and leaves what there was. -/
def BoolFn3 (P : Program) (F : FuncId) (lb : Array Value) (n : Nat) (q : Nat → Nat → Nat → Bool) (w : World) : Prop :=
  ∀ (W : World) (x y z : Nat), x < n → y < n → z < n → Below w.heap.size w W → Calls P F (#[.int .i64 x, .int .i64 y, .int .i64 z] ++ lb) W fun e w' => e = .returned (.bool (q x y z)) ∧ Below W.heap.size W w'
theorem BoolFn3.later {P : Program} {F : FuncId} {lb : Array Value} {n : Nat} {q : Nat → Nat → Nat → Bool} {w w' : World} (hc : BoolFn3 P F lb n q w) (hb : Below w.heap.size w w') : BoolFn3 P F lb n q w' :=
  fun W x y z hx hy hz hw => hc W x y z hx hy hz (hb.trans (hw.mono hb.size))

/-- What is said of the list of number T. -/
def qAt (q : Nat → Nat → Nat → Bool) (n T : Nat) : Bool := q (trip n T).1 (trip n T).2.1 (trip n T).2.2
theorem qAt_at {q : Nat → Nat → Nat → Bool} {n x y z : Nat} (hy : y < n) (hz : z < n) : qAt q n ((x * n + y) * n + z) = q x y z := by
  unfold qAt
  rw [trip_of hy hz]
/-- T is the first that is as asked, or behind all. -/
def FirstQ (q : Nat → Nat → Nat → Bool) (n T : Nat) : Prop := (∀ i, i < T → qAt q n i = false) ∧ T ≤ n * n * n ∧ (T < n * n * n → qAt q n T = true)
theorem FirstQ.bad {q : Nat → Nat → Nat → Bool} {n T k : Nat} (h : FirstQ q n T) (h1 : ∀ i, i < k → qAt q n i = false) (hk : k < n * n * n) (h2 : qAt q n k = true) : T = k := by
  have a : ¬ k < T := fun h3 => by have := h.1 k h3; rw [h2] at this; exact absurd this (by simp)
  have b : ¬ T < k := fun h3 => by have := h1 T h3; rw [h.2.2 (by omega)] at this; exact absurd this (by simp)
  omega
theorem FirstQ.all {q : Nat → Nat → Nat → Bool} {n T : Nat} (h : FirstQ q n T) (h1 : ∀ i, i < n * n * n → qAt q n i = false) : T = n * n * n := by
  have a := h.2.1
  have b : ¬ T < n * n * n := fun h3 => by have := h1 T h3; rw [h.2.2 h3] at this; exact absurd this (by simp)
  omega
theorem FirstQ.ex (q : Nat → Nat → Nat → Bool) (n : Nat) : ∃ T, FirstQ q n T := by
  have h : ∀ k, k ≤ n * n * n → (∀ i, i < k → qAt q n i = false) ∨ ∃ T, FirstQ q n T := by
    intro k
    induction k with
    | zero => intro _; exact .inl (fun i hi => absurd hi (Nat.not_lt_zero _))
    | succ k ih =>
      intro hk
      rcases ih (by omega) with h | h
      · rcases e : qAt q n k with _ | _
        · refine .inl (fun i hi => ?_)
          by_cases e2 : i = k
          · subst e2; exact e
          · exact h i (by omega)
        · exact .inr ⟨k, h, by omega, fun _ => e⟩
      · exact .inr h
  rcases h _ (Nat.le_refl _) with h | h
  · exact ⟨_, h, Nat.le_refl _, fun h2 => absurd h2 (by omega)⟩
  · exact h
theorem FirstQ.iff {q : Nat → Nat → Nat → Bool} {n T : Nat} (h : FirstQ q n T) : T = n * n * n ↔ ∀ i, i < n * n * n → qAt q n i = false :=
  ⟨fun e i hi => h.1 i (by omega), h.all⟩
end Go.Proofs.YtngfdkmiifpbgaaDoor
namespace Go.Proofs.YtngfdkmiifpbgaaDoor
open Go Go.RowKit
/-! What searching with a stack of pairs asks of the two functions, and the stack's memory. -/
/-- The cells of a list of pairs. -/
def flatP (P : List (Nat × Nat)) : List Value := P.flatMap fun p => [.int .i64 (p.1 : Int), .int .i64 (p.2 : Int)]
theorem flatP_length (P : List (Nat × Nat)) : (flatP P).length = P.length * 2 := by
  induction P with
  | nil => rfl
  | cons p P ih => simp [flatP] at *; omega
theorem flatP_app (P Q : List (Nat × Nat)) : flatP (P ++ Q) = flatP P ++ flatP Q := by simp [flatP]
theorem flatP_one (P : List (Nat × Nat)) : ∀ u ∈ flatP P, u.oneCell' = true := by
  intro u hu
  obtain ⟨p, _, h⟩ := List.mem_flatMap.1 hu
  simp at h
  rcases h with rfl | rfl <;> rfl
theorem flatP_last (P : List (Nat × Nat)) (q : Nat × Nat) : (flatP (P ++ [q]))[P.length * 2]? = some (.int .i64 (q.1 : Int)) ∧ (flatP (P ++ [q]))[P.length * 2 + 1]? = some (.int .i64 (q.2 : Int)) := by
  have h := flatP_length P
  rw [flatP_app]
  constructor
  · rw [List.getElem?_append_right (by omega), h]; simp [flatP]
  · rw [List.getElem?_append_right (by omega), h, show P.length * 2 + 1 - P.length * 2 = 1 by omega]; simp [flatP]
theorem flatP_front (P : List (Nat × Nat)) (q : Nat × Nat) : (flatP (P ++ [q])).take (P.length * 2) = flatP P := by
  rw [flatP_app, ← flatP_length P]
  simp
section
variable {t : TypeId} {w w' : World} {lo hi B n : Nat} {v : Value} {xs : List Value}
theorem touch_of_below (hb : Below w.heap.size w w') : Touch lo hi w w' := ⟨hb.os, hb.tape, hb.output, hb.size, fun k hk _ => hb.block k hk⟩
theorem touch_grown {w1 : World} {row : Option Nat} (ht : Touch lo hi w w1) (hg : w1.grownBy w' row) (hr : ∀ k, row = some k → w.heap.size ≤ k) : Touch lo hi w w' :=
  ⟨hg.os.trans ht.os, hg.tape.trans ht.tape, hg.output.trans ht.output, Nat.le_trans ht.size hg.size, fun k hk hne => (hg.block k (Nat.lt_of_lt_of_le hk ht.size) (fun e => by have := hr k e.symm; omega)).trans (ht.block k hk hne)⟩
theorem ownsRow_touch {sz : Nat} (h : w.ownsRow B t sz v n xs) (ht : Touch lo hi w w') (hB : hi ≤ B) : w'.ownsRow B t sz v n xs := by
  refine ⟨h.1, ?_⟩
  rcases h.2 with h2 | ⟨g, cap, cur, hv, hg, hh, r⟩
  · exact .inl h2
  · exact .inr ⟨g, cap, cur, hv, hg, (ht.block g (Array.getElem?_eq_some_iff.1 hh).1 (.inr (by omega))).trans hh, r⟩
theorem ownsRow_below2 {sz : Nat} (h : w.ownsRow B t sz v n xs) (hb : Below w.heap.size w w') : w'.ownsRow B t sz v n xs := by
  refine ⟨h.1, ?_⟩
  rcases h.2 with h2 | ⟨g, cap, cur, hv, hg, hh, r⟩
  · exact .inl h2
  · exact .inr ⟨g, cap, cur, hv, hg, (hb.block g (Array.getElem?_eq_some_iff.1 hh).1).trans hh, r⟩
/-- The stack without its last pair. -/
theorem own_front2 {c : Nat} {A : Option Addr} (h : w.ownsRow B t 2 (.slice A (n + 1) c) (n + 1) xs) : w.ownsRow B t 2 (.slice A n c) n (xs.take (n * 2)) := by
  obtain ⟨hl, h | ⟨g, cap, cur, hv, hb, hg, hn, hcap, hsz, hxs⟩⟩ := h
  · exact absurd h.2 (by omega)
  · injection hv with h1 h2 h3
    subst h1 h3
    refine ⟨by simp; omega, .inr ⟨g, c, cur, rfl, hb, hg, by omega, hcap, hsz, ?_⟩⟩
    rw [← hxs, List.take_take]
    congr 1
    omega
theorem own_cell2 {c : Nat} {A : Option Addr} (h : w.ownsRow B t 2 (.slice A (n + 1) c) (n + 1) xs) : ∃ g, A = some ⟨g, 0, none⟩ ∧ B ≤ g ∧ g < w.heap.size ∧ n + 1 ≤ c ∧ ∀ j u, xs[j]? = some u → w.cell? ⟨g, j, none⟩ = some u := by
  obtain ⟨hl, h | ⟨g, cap, cur, hv, hb, hg, hn, hcap, hsz, hxs⟩⟩ := h
  · exact absurd h.2 (by omega)
  · injection hv with h1 h2 h3
    subst h1 h3
    refine ⟨g, rfl, hb, (Array.getElem?_eq_some_iff.1 hg).1, hn, fun j u hj => ?_⟩
    have hjl : j < xs.length := (List.getElem?_eq_some_iff.1 hj).1
    rw [cell_of_row w g j cur t (0, 0) hg]
    rw [← hxs, List.getElem?_take, if_pos (by omega)] at hj
    simpa using hj
end
/-- What is asked of the function that joins: in each later world in which the classes are L it says whether the elements were apart, and joins their classes. It touches nothing outside the blocks lo to hi. -/
def JoinFn (P : Program) (F : FuncId) (bnd lb' : Array Value) (n lo hi : Nat) (St : World → List Int → Prop) : Prop :=
  ∀ (W : World) (L : List Int) (a b : Nat), a < n → b < n → L.length = n → St W L → hi ≤ W.heap.size → Calls P F (bnd ++ #[.agg #[.int .i64 (a : Int), .int .i64 (b : Int)]] ++ lb') W fun e W' => ∃ r, e = .returned (.bool r) ∧ Touch lo hi W W' ∧ ((r = false ∧ lb L a = lb L b ∧ St W' L) ∨ (r = true ∧ lb L a ≠ lb L b ∧ ∃ k l, ((k = lb L a ∧ l = lb L b) ∨ (k = lb L b ∧ l = lb L a)) ∧ St W' (joinL L k l)))
/-- The pairs that follow from a pair. -/
def folP (mp : Nat → Nat → Nat) (K a b : Nat) : List (Nat × Nat) := (List.range K).map fun i => (mp i a, mp i b)
theorem folP_length (mp : Nat → Nat → Nat) (K a b : Nat) : (folP mp K a b).length = K := by simp [folP]
theorem folP_mem (mp : Nat → Nat → Nat) (K a b : Nat) (p : Nat × Nat) : p ∈ folP mp K a b ↔ ∃ i, i < K ∧ p = (mp i a, mp i b) := by
  unfold folP
  rw [List.mem_map]
  constructor
  · rintro ⟨i, hi, rfl⟩; exact ⟨i, List.mem_range.1 hi, rfl⟩
  · rintro ⟨i, hi, rfl⟩; exact ⟨i, List.mem_range.2 hi, rfl⟩
/-- What is asked of the function that tells what follows. -/
def FolFn (P : Program) (G : FuncId) (bnd lb' : Array Value) (n K : Nat) (mp : Nat → Nat → Nat) (w0 : World) : Prop :=
  ∀ (W : World) (a b : Nat), a < n → b < n → Below w0.heap.size w0 W → Calls P G (bnd ++ #[.agg #[.int .i64 (a : Int), .int .i64 (b : Int)]] ++ lb') W fun e W' => ∃ g c, e = .returned (.slice (some ⟨g, 0, none⟩) K c) ∧ Below W.heap.size W W' ∧ ∀ j u, (flatP (folP mp K a b))[j]? = some u → W'.cell? ⟨g, j, none⟩ = some u
/-- How the search stands, with bounds. -/
structure JnS (mp : Nat → Nat → Nat) (K n x y : Nat) (L : List Int) (P : List (Nat × Nat)) : Prop where
  s : MgS mp K n x y L P
  rng : ∀ v ∈ L, 0 ≤ v ∧ v < (n : Int)
  sz : P.length + cgCnt n L * K ≤ 1 + n * K
theorem cgCnt_le (n : Nat) (L : List Int) : cgCnt n L ≤ n := by
  unfold cgCnt
  have := List.countP_le_length (l := List.range n) (p := fun (v : Nat) => decide ((v : Int) ∈ L))
  simpa using this
theorem JnS.start {mp : Nat → Nat → Nat} {K n x y : Nat} {L : List Int} (hl : L.length = n) (hx : x < n) (hy : y < n) (hu : ∀ a b, a < n → b < n → lb L a = lb L b → a = b) (hr : ∀ v ∈ L, 0 ≤ v ∧ v < (n : Int)) : JnS mp K n x y L [(x, y)] :=
  ⟨.init hl hx hy hu, hr, by
    have := Nat.mul_le_mul_right K (cgCnt_le n L)
    simp; omega⟩
theorem JnS.skip {mp : Nat → Nat → Nat} {K n x y : Nat} {L : List Int} {P : List (Nat × Nat)} {q : Nat × Nat} (h : JnS mp K n x y L (P ++ [q])) (he : lb L q.1 = lb L q.2) : JnS mp K n x y L P :=
  ⟨h.s.skip (fun p => by simp; exact Or.comm) he, h.rng, by have := h.sz; simp at this; omega⟩
theorem lb_mem {L : List Int} {a : Nat} (h : a < L.length) : lb L a ∈ L := by simp [lb, h]
theorem JnS.join {mp : Nat → Nat → Nat} {K n x y : Nat} {L : List Int} {P : List (Nat × Nat)} {q : Nat × Nat} {k l : Int} (h : JnS mp K n x y L (P ++ [q])) (hx : x < n) (hy : y < n) (hmp : ∀ i a, i < K → a < n → mp i a < n) (hne : lb L q.1 ≠ lb L q.2) (hkl : (k = lb L q.1 ∧ l = lb L q.2) ∨ (k = lb L q.2 ∧ l = lb L q.1)) :
    JnS mp K n x y (joinL L k l) (P ++ folP mp K q.1 q.2) ∧ (P ++ folP mp K q.1 q.2).length + cgCnt n (joinL L k l) * (K + 1) < (P ++ [q]).length + cgCnt n L * (K + 1) := by
  have hin := h.s.inn q (by simp)
  have hq1 : lb L q.1 ∈ L := lb_mem (by rw [h.s.len]; exact hin.1)
  have hq2 : lb L q.2 ∈ L := lb_mem (by rw [h.s.len]; exact hin.2)
  have hk : k ∈ L := by rcases hkl with ⟨rfl, _⟩ | ⟨rfl, _⟩ <;> assumption
  have hl : l ∈ L := by rcases hkl with ⟨_, rfl⟩ | ⟨_, rfl⟩ <;> assumption
  have hkne : k ≠ l := by
    rcases hkl with ⟨rfl, rfl⟩ | ⟨rfl, rfl⟩
    · exact hne
    · exact hne.symm
  have hc := cgCnt_join hk hl hkne (h.rng l hl)
  have hfl := folP_length mp K q.1 q.2
  have hsz := h.sz
  have hm1 : (cgCnt n (joinL L k l) + 1) * K ≤ cgCnt n L * K := Nat.mul_le_mul_right K hc
  have hm2 : (cgCnt n (joinL L k l) + 1) * (K + 1) ≤ cgCnt n L * (K + 1) := Nat.mul_le_mul_right (K + 1) hc
  rw [Nat.add_mul] at hm1 hm2
  refine ⟨⟨h.s.join hx hy hmp (by simp) hkl (fun p hp => ?_) (fun i hi => ?_) (fun p hp => ?_), fun v hv => ?_, ?_⟩, ?_⟩
  · rcases List.mem_append.1 hp with h1 | h1
    · exact .inl (List.mem_append_left _ h1)
    · simp at h1; exact .inr h1
  · exact List.mem_append_right _ ((folP_mem _ _ _ _ _).2 ⟨i, hi, rfl⟩)
  · rcases List.mem_append.1 hp with h1 | h1
    · exact .inl (List.mem_append_left _ h1)
    · obtain ⟨i, hi, e⟩ := (folP_mem _ _ _ _ _).1 h1
      exact .inr ⟨i, hi, e⟩
  · obtain ⟨u, hu, e⟩ := List.mem_map.1 hv
    by_cases h1 : u = l
    · rw [if_pos h1] at e; subst e; exact h.rng _ hk
    · rw [if_neg h1] at e; subst e; exact h.rng _ hu
  · rw [List.length_append, hfl]
    simp at hsz
    omega
  · rw [List.length_append, List.length_append, hfl]
    simp
    omega
theorem touch_set {lo hi : Nat} {w w' : World} (h : Touch lo hi w w') {p : Addr} (hp : lo ≤ p.block ∧ p.block < hi) (v : Value) : Touch lo hi w (w'.setCell p v) :=
  ⟨h.os, h.tape, h.output, by have := h.size; simpa [World.setCell] using this, fun k hk hne => by
    rw [Below.heap_setCell w' p v k (by omega)]
    exact h.block k hk hne⟩
end Go.Proofs.YtngfdkmiifpbgaaDoor
namespace Go.Proofs.YtngfdkmiifpbgaaDoor
open Go Go.RowKit
open Classical
set_option maxHeartbeats 2000000

/-- What is written when i elements of an orbit have got a number. -/
noncomputable def putTo (f : Nat → Int) (xs : List Int) (i : Nat) (num : Int) : Nat → Int := fun y => if (y : Int) ∈ xs.take i then num else f y
theorem putTo_step (f : Nat → Int) (xs : List Int) (i : Nat) (num : Int) (n j : Nat) (hi : i < xs.length) (hj : xs.getD i 0 = (j : Int)) : ((List.range n).map (putTo f xs i num)).set j num = (List.range n).map (putTo f xs (i + 1) num) := by
  apply List.ext_getElem
  · simp
  · intro y h1 h2
    have hy : y < n := by simpa using h2
    rw [List.getElem_set]
    simp only [List.getElem_map, List.getElem_range]
    unfold putTo
    rw [take_succ_getD xs i hi, hj]
    by_cases e : j = y
    · subst e; simp
    · have e2 : ¬ (y : Int) = (j : Int) := by omega
      simp [e, e2]

theorem l01Orbits_any (A : Option Addr) (m c n : Nat) (rows : List (List Int)) (w : World) (hm : rows.length = m) (hb : m ≤ 64) (h1n : 1 ≤ n) (hn : n ≤ 12) (hg : Gens rows n) (hr : Rd2 w A rows) :
    Calls Tryd.prog 15 #[.int .i64 n, .slice A m c] w fun e w' => ∃ A' c', e = .returned (.slice A' n c') ∧ Below w.heap.size w w' ∧ Res 2 w.heap.size w' A' (labL rows n n) := by
  have HM := hide hm
  have HG := hide hg
  have hls : ∀ i, i < m → (rows.getD i []).length = n := fun i hi => (hg i (by omega)).1
  have hin : ∀ i j, i < m → j < n → 0 ≤ (rows.getD i []).getD j 0 ∧ (rows.getD i []).getD j 0 < (n : Int) := fun i j hi hj => hg.at (by omega) hj
  have HLS := hide hls
  have HIN := hide hin
  clear hm hg hls hin
  obtain ⟨i0, hi, hz0, hz1, hz2⟩ := info_parts orInfo
  go_enter Tryd.func15, Tryd.ntmps15
  go_wp2_with fail
  go_loopw [5, 6] (fun v i wr => ∃ k : Nat, k ≤ n ∧ i = .int .i64 k ∧ Below w.heap.size w wr ∧ w.heap.size ≤ wr.heap.size ∧ wr.ownsRow w.heap.size 2 1 v k (ints (List.replicate k (-1)))) (fun _ i _ => n - (intOf i).toNat)
  case atStart => exact ⟨0, Nat.zero_le _, rfl, (Below.refl _ _).alloc (Nat.le_refl _) _, by simp, ⟨by simp [ints], .inr ⟨w.heap.size, 0, #[], rfl, Nat.le_refl _, heap_alloc_new _ _, Nat.le_refl _, by unfold maxLen; omega, by simp, by simp [ints]⟩⟩⟩
  case round =>
    obtain ⟨k, hk, rfl, hbe, hsz, hown⟩ := hrel
    have HB := hide hbe
    have HO := hide hown
    clear hbe hown
    by_cases hlt : k < n
    · have hltz : (k : Int) < n := by omega
      go_wp2_with (at_builtin; refine wpList_append_own _ rfl _ _ 26 rfl w.heap.size 2 i0 (.int .i64 0) 1 8 Tryd.underlying26 hi hz0 hz1 hz2 rfl (by decide) _ _ _ rfl (HO.out.alloc _) ⟨wr.heap.size, 0, none⟩ 1 1 [.int .i64 (-1)] rfl rfl ?c1 ?c2 ?c3 ?c4 ?c5 ?_)
      case c1 => exact or_new
      case c2 => intro u hu; simp at hu; subst hu; rfl
      case c3 => unfold maxLen; omega
      case c4 => omega
      case c5 => simp; omega
      intro v' w1 hown' hgrow _
      have HO' := hide hown'
      have HGR := hide hgrow
      clear hown' hgrow
      go_wp2_with fail
      go_roundw
      case rel =>
        have hB1 : Below w.heap.size w w1 := (HB.out.alloc hsz _).grown HGR.out (by simp; omega) (fun g hg => (HO.out.alloc (.cells #[.int .i64 (-1)] 2)).lt g hg |>.1)
        refine ⟨k + 1, by omega, by go_num, hB1, by have := hB1.size; omega, ?_⟩
        rw [List.replicate_succ']
        have h := HO'.out
        have e : ints (List.replicate k (-1)) ++ [.int .i64 (-1)] = ints (List.replicate k (-1) ++ [-1]) := by simp [ints]
        rw [e] at h
        exact h
      case measure => simp [intOf]; omega
    · have hkn : k = n := by omega
      subst hkn
      obtain ⟨A1, c1, hv, hres⟩ := own_shape HO.out
      have hobj := hres.obj
      rcases hobj with ⟨_, e⟩ | ⟨g, rfl, hg1, hg2, cur, hcur, hcells⟩
      · have := congrArg List.length e; simp at this; omega
      subst hv
      have hown0 : OwnB 2 wr g (labL rows k 0) := by
        refine ⟨cur, hcur, fun i hi => ?_⟩
        rw [labL_length] at hi
        rw [hcells i (by simpa using hi), labL_at rows k 0 i hi]
        simp [hi, lab]
      have HO0 := hide hown0
      clear HO hres hcur hcells hown0
      go_wp2_with fail
      clear hi hz0 hz1 hz2
      go_loopw [7, 8] (fun nm i wr => ∃ x : Nat, x ≤ k ∧ i = .int .i64 x ∧ nm = .int .i64 (lab rows x).2 ∧ Below w.heap.size w wr ∧ g < wr.heap.size ∧ OwnB 2 wr g (labL rows k x)) (fun _ i _ => k - (intOf i).toNat)
      case atStart => exact ⟨0, Nat.zero_le _, rfl, rfl, HB.out, hg2, HO0.out⟩
      case round =>
        clear HO0 HB hsz hg2 cur
        obtain ⟨x, hxk, rfl, rfl, hbe, hg2, hown⟩ := hrel
        have HB := hide hbe
        have HO := hide hown
        clear hbe hown
        by_cases hlt : x < k
        · have hltz : (x : Int) < k := by omega
          have hcell := HO.out.cell (i := x) (by rw [labL_length]; exact hlt)
          rw [labL_at rows k x x hlt] at hcell
          have hnum := lab_le rows x
          obtain ⟨num, hnm⟩ : ∃ num, (lab rows x).2 = num := ⟨_, rfl⟩
          rw [hnm] at hnum ⊢
          have HNM := hide hnm
          obtain ⟨v, hv⟩ : ∃ v, (lab rows x).1 x = v := ⟨_, rfl⟩
          rw [hv] at hcell
          have HV := hide hv
          clear hv hnm
          by_cases hv0 : 0 ≤ v
          · have hst : lab rows (x + 1) = lab rows x := by
              rw [lab, if_pos (by rw [HV.out]; exact hv0)]
            have HST := hide hst
            clear hst
            go_wp2_with fail
            go_roundw
            case rel => exact ⟨x + 1, by omega, by go_num, by rw [HST.out, HNM.out], HB.out, hg2, by unfold labL; rw [HST.out]; exact HO.out⟩
            case measure => simp [intOf]; omega
          · have hst : lab rows (x + 1) = (fun y => if Rch rows x y then (num : Int) else (lab rows x).1 y, num + 1) := by
              rw [lab, if_neg (by rw [HV.out]; exact hv0), HNM.out]
            have HST := hide hst
            have hsz : w.heap.size ≤ wr.heap.size := HB.out.size
            clear hst
            go_wp2_with fail
            refine (l01Orbit_any _ m _ k x rows _ HM.out hb hn hlt HLS.out HIN.out (hr.later HB.out)).mono ?_
            rintro e w2 ⟨A2, c2, out, rfl, hb2, hres2, hinv⟩
            have hpos : 0 < out.length := by have := hinv.mem; exact List.length_pos_of_mem this
            have hmost := hinv.most
            have hrng := hinv.rng
            have HINV := hide hinv
            have HRNG := hide hrng
            rcases hres2.obj with ⟨_, e⟩ | ⟨g2, rfl, hga, hgb, how2⟩
            · rw [e] at hpos; simp at hpos
            have HO2 := hide how2
            have HO1 := hide (HO.out.later hb2 hg2)
            have HB2 := hide (HB.out.trans (hb2.mono hsz))
            have hs2 := hb2.size
            have hbase : (List.range k).map (putTo (lab rows x).1 out 0 num) = labL rows k x := by
              unfold labL
              refine List.map_congr_left (fun y _ => ?_)
              unfold putTo
              simp
            have HBASE := hide hbase
            obtain ⟨L, hL⟩ : ∃ L, out.length = L := ⟨_, rfl⟩
            have HL := hide hL
            rw [hL] at hpos hmost ⊢
            clear hL hinv hrng hres2 how2 hb2 hcell hbase
            go_wp2_with fail
            go_loopw [10] (fun i wi => ∃ q : Nat, q ≤ L ∧ i = .int .i64 q ∧ Below w.heap.size w wi ∧ g < wi.heap.size ∧ OwnB 2 wi g ((List.range k).map (putTo (lab rows x).1 out q num)) ∧ OwnB 2 wi g2 out) (fun i _ => L - (intOf i).toNat)
            case atStart => exact ⟨0, Nat.zero_le _, rfl, HB2.out, by omega, by rw [HBASE.out]; exact HO1.out, HO2.out⟩
            case round =>
              clear HO1 HO2 HB2 HBASE
              obtain ⟨q, hq, rfl, hbe, hgs, ho1, ho2⟩ := hrel
              have HB3 := hide hbe
              have HO1 := hide ho1
              have HO2 := hide ho2
              clear hbe ho1 ho2
              by_cases hltq : q < L
              · have hltqz : (q : Int) < L := by omega
                have hc2 := HO2.out.cell (i := q) (by have := HL.out; omega)
                have hm2 : out.getD q 0 ∈ out := by have : q < out.length := (by have := HL.out; omega); simp [this]
                have hrg := HRNG.out _ hm2
                obtain ⟨j, hj⟩ := Int.eq_ofNat_of_zero_le hrg.1
                rw [hj] at hc2 hrg
                have HJ := hide hj
                have hjk : j < k := by have := hrg.2; omega
                have hjz : (j : Int) < k := by omega
                have hc1 := HO1.out.cell (i := j) (by simpa using hjk)
                have hf1 := HO1.out.frozen j
                obtain ⟨old, hold⟩ : ∃ old, ((List.range k).map (putTo (lab rows x).1 out q num)).getD j 0 = old := ⟨_, rfl⟩
                rw [hold] at hc1
                clear hold hj hm2 hrg
                go_wp2_with fail
                go_roundw
                case rel =>
                  refine ⟨q + 1, by omega, by go_num, HB3.out.setCell (by show _ ≤ g; exact hg1) _, by simpa [World.setCell] using hgs, ?_, HO2.out.far (by show g2 ≠ g; omega) _⟩
                  have h := HO1.out.set j num (by simpa using hjk)
                  rw [putTo_step _ _ _ _ _ _ (by have := HL.out; omega) HJ.out] at h
                  exact h
                case measure => simp [intOf]; omega
              · have hqL : q = L := by omega
                subst hqL
                have hfin : (List.range k).map (putTo (lab rows x).1 out out.length num) = labL rows k (x + 1) := by
                  unfold labL
                  rw [HST.out]
                  refine List.map_congr_left (fun y _ => ?_)
                  unfold putTo
                  have h := HINV.out.done y
                  rw [List.take_length]
                  show _ = (if Rch rows x y then (num : Int) else (lab rows x).1 y)
                  by_cases hy : Rch rows x y
                  · rw [if_pos (h.2 hy), if_pos hy]
                  · rw [if_neg (fun e => hy (h.1 e)), if_neg hy]
                have HFIN := hide hfin
                clear hfin
                go_wp2_with fail
                go_roundw
                case rel => exact ⟨x + 1, by omega, by go_num, by rw [HST.out]; go_num, HB3.out, hgs, by rw [← HFIN.out, HL.out]; exact HO1.out⟩
                case measure => simp [intOf]; omega
        · have hxk' : x = k := by omega
          subst hxk'
          go_wp2_with fail
          go_ret
          exact ⟨_, _, rfl, HB.out, .inr ⟨g, rfl, hg1, HO.out⟩⟩
end Go.Proofs.YtngfdkmiifpbgaaDoor
