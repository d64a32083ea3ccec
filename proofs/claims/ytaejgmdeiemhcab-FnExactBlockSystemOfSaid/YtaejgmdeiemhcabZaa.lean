import Derived.Test.YtaejgmdeiemhcabZj
import Derived.Test.YtaejgmdeiemhcabZg
import Derived.Test.YtaejgmdeiemhcabZz
import Derived.Test.YtaejgmdeiemhcabZa
import Derived.Shelf.Abstract
import Derived.Shelf.Lay
import Derived.Test.YtaejgmdeiemhcabZc
import Derived.Test.YtaejgmdeiemhcabZf
namespace Go.Proofs.Ytaejgmdeiemhcab
open Go Go.RowKit
/-- The condition of racks at the list of number T. -/
def Rk3 (f : List (List Int)) (n T : Nat) : Prop := ap f (trip n T).1 (ap f (trip n T).2.1 (trip n T).2.2) = ap f (ap f (trip n T).1 (trip n T).2.1) (ap f (trip n T).1 (trip n T).2.2)
def FirstK (f : List (List Int)) (n T : Nat) : Prop := (∀ i, i < T → Rk3 f n i) ∧ T ≤ n * n * n ∧ (T < n * n * n → ¬ Rk3 f n T)
theorem FirstK.ex (f : List (List Int)) (n : Nat) : ∃ T, FirstK f n T := by
  have h : ∀ k, k ≤ n * n * n → (∀ i, i < k → Rk3 f n i) ∨ ∃ T, FirstK f n T := by
    intro k
    induction k with
    | zero => intro _; exact .inl (fun i hi => absurd hi (Nat.not_lt_zero _))
    | succ k ih =>
      intro hk
      rcases ih (by omega) with h | h
      · by_cases e : Rk3 f n k
        · refine .inl (fun i hi => ?_)
          by_cases e2 : i = k
          · subst e2; exact e
          · exact h i (by omega)
        · exact .inr ⟨k, h, by omega, fun _ => e⟩
      · exact .inr h
  rcases h _ (Nat.le_refl _) with h | h
  · exact ⟨_, h, Nat.le_refl _, fun h2 => absurd h2 (by omega)⟩
  · exact h
theorem FirstK.bad {f : List (List Int)} {n T k : Nat} (h : FirstK f n T) (h1 : ∀ i, i < k → Rk3 f n i) (hk : k < n * n * n) (h2 : ¬ Rk3 f n k) : T = k := by
  have a : ¬ k < T := fun h3 => h2 (h.1 k h3)
  have b : ¬ T < k := fun h3 => h.2.2 (by omega) (h1 T h3)
  omega
theorem FirstK.all {f : List (List Int)} {n T : Nat} (h : FirstK f n T) (h1 : ∀ i, i < n * n * n → Rk3 f n i) : T = n * n * n := by
  have a := h.2.1
  have b : ¬ T < n * n * n := fun h3 => h.2.2 h3 (h1 T h3)
  omega
theorem FirstK.iff {f : List (List Int)} {n T : Nat} (h : FirstK f n T) : T = n * n * n ↔ ∀ i, i < n * n * n → Rk3 f n i :=
  ⟨fun e i hi => h.1 i (by omega), h.all⟩
theorem Rk3.at {f : List (List Int)} {n x y z : Nat} (hy : y < n) (hz : z < n) : Rk3 f n ((x * n + y) * n + z) ↔ ap f x (ap f y z) = ap f (ap f x y) (ap f x z) := by
  unfold Rk3
  rw [trip_of hy hz]
/-- What a rack is. -/
def Rck (f : List (List Int)) : Prop := (Tbl f ∧ AllPrm f) ∧ ∀ i, i < f.length * f.length * f.length → Rk3 f f.length i
def RkRes (f : List (List Int)) (r : Bool) : Prop := r = true ↔ Rck f
theorem RkRes.ex (f : List (List Int)) : ∃ r, RkRes f r := bool_of _
def RkFRes (f : List (List Int)) (zs : List Int) (code : Int) : Prop :=
  (∃ T, (Tbl f ∧ AllPrm f) ∧ FirstK f f.length T ∧ ((T < f.length * f.length * f.length ∧ zs = lst3 (trip f.length T) ∧ code = 0) ∨ (T = f.length * f.length * f.length ∧ zs = [] ∧ code = 4))) ∨ (Tbl f ∧ ¬ AllPrm f ∧ zs = [] ∧ code = 5) ∨ (¬ Tbl f ∧ zs = [] ∧ code = 1)
theorem RkFRes.ex (f : List (List Int)) : ∃ zs code, RkFRes f zs code ∧ zs.length ≤ 1048576 := by
  by_cases h : Tbl f
  · by_cases h1 : AllPrm f
    · obtain ⟨T, hT⟩ := FirstK.ex f f.length
      by_cases h2 : T < f.length * f.length * f.length
      · exact ⟨_, _, .inl ⟨T, ⟨h, h1⟩, hT, .inl ⟨h2, rfl, rfl⟩⟩, by simp [lst3]⟩
      · exact ⟨_, _, .inl ⟨T, ⟨h, h1⟩, hT, .inr ⟨by have := hT.2.1; omega, rfl, rfl⟩⟩, by simp⟩
    · exact ⟨_, _, .inr (.inl ⟨h, h1, rfl, rfl⟩), by simp⟩
  · exact ⟨_, _, .inr (.inr ⟨h, rfl, rfl⟩), by simp⟩
theorem Rck.tbl {f : List (List Int)} (h : Rck f) : Tbl f := h.1.1
theorem Rck.prm {f : List (List Int)} (h : Rck f) : AllPrm f := h.1.2
end Go.Proofs.Ytaejgmdeiemhcab
namespace Go.Proofs.Ytaejgmdeiemhcab
open Go Go.RowKit

/-- What is asked of the function value: for each three elements, in each later world, it says whether they are as asked, and leaves what there was. -/
def BoolFn3 (P : Program) (F : FuncId) (lb : Array Value) (n : Nat) (q : Nat → Nat → Nat → Bool) (w : World) : Prop :=
  ∀ (W : World) (x y z : Nat), x < n → y < n → z < n → Below w.heap.size w W → Calls P F (#[.int .i64 x, .int .i64 y, .int .i64 z] ++ lb) W fun e w' => e = .returned (.bool (q x y z)) ∧ Below W.heap.size W w'
theorem BoolFn3.later {P : Program} {F : FuncId} {lb : Array Value} {n : Nat} {q : Nat → Nat → Nat → Bool} {w w' : World} (hc : BoolFn3 P F lb n q w) (hb : Below w.heap.size w w') : BoolFn3 P F lb n q w' :=
  fun W x y z hx hy hz hw => hc W x y z hx hy hz (hb.trans (hw.mono hb.size))

/-- What is said of the list of number T. -/
def qAt (q : Nat → Nat → Nat → Bool) (n T : Nat) : Bool := q (trip n T).1 (trip n T).2.1 (trip n T).2.2
theorem qAt_at {q : Nat → Nat → Nat → Bool} {n x y z : Nat} (hy : y < n) (hz : z < n) : qAt q n ((x * n + y) * n + z) = q x y z := by
  unfold qAt
  rw [trip_of hy hz]
/-- T is the first that is as asked, or behind all. -/
def FirstQ (q : Nat → Nat → Nat → Bool) (n T : Nat) : Prop := (∀ i, i < T → qAt q n i = false) ∧ T ≤ n * n * n ∧ (T < n * n * n → qAt q n T = true)
theorem FirstQ.bad {q : Nat → Nat → Nat → Bool} {n T k : Nat} (h : FirstQ q n T) (h1 : ∀ i, i < k → qAt q n i = false) (hk : k < n * n * n) (h2 : qAt q n k = true) : T = k := by
  have a : ¬ k < T := fun h3 => by have := h.1 k h3; rw [h2] at this; exact absurd this (by simp)
  have b : ¬ T < k := fun h3 => by have := h1 T h3; rw [h.2.2 (by omega)] at this; exact absurd this (by simp)
  omega
theorem FirstQ.all {q : Nat → Nat → Nat → Bool} {n T : Nat} (h : FirstQ q n T) (h1 : ∀ i, i < n * n * n → qAt q n i = false) : T = n * n * n := by
  have a := h.2.1
  have b : ¬ T < n * n * n := fun h3 => by have := h1 T h3; rw [h.2.2 h3] at this; exact absurd this (by simp)
  omega
theorem FirstQ.ex (q : Nat → Nat → Nat → Bool) (n : Nat) : ∃ T, FirstQ q n T := by
  have h : ∀ k, k ≤ n * n * n → (∀ i, i < k → qAt q n i = false) ∨ ∃ T, FirstQ q n T := by
    intro k
    induction k with
    | zero => intro _; exact .inl (fun i hi => absurd hi (Nat.not_lt_zero _))
    | succ k ih =>
      intro hk
      rcases ih (by omega) with h | h
      · rcases e : qAt q n k with _ | _
        · refine .inl (fun i hi => ?_)
          by_cases e2 : i = k
          · subst e2; exact e
          · exact h i (by omega)
        · exact .inr ⟨k, h, by omega, fun _ => e⟩
      · exact .inr h
  rcases h _ (Nat.le_refl _) with h | h
  · exact ⟨_, h, Nat.le_refl _, fun h2 => absurd h2 (by omega)⟩
  · exact h
theorem FirstQ.iff {q : Nat → Nat → Nat → Bool} {n T : Nat} (h : FirstQ q n T) : T = n * n * n ↔ ∀ i, i < n * n * n → qAt q n i = false :=
  ⟨fun e i hi => h.1 i (by omega), h.all⟩
end Go.Proofs.Ytaejgmdeiemhcab
namespace Go.Proofs.Ytaejgmdeiemhcab
open Go Go.RowKit
/-! What searching with a stack of pairs asks of the two functions, and the stack's memory. -/
/-- The cells of a list of pairs. -/
def flatP (P : List (Nat × Nat)) : List Value := P.flatMap fun p => [.int .i64 (p.1 : Int), .int .i64 (p.2 : Int)]
theorem flatP_length (P : List (Nat × Nat)) : (flatP P).length = P.length * 2 := by
  induction P with
  | nil => rfl
  | cons p P ih => simp [flatP] at *; omega
theorem flatP_app (P Q : List (Nat × Nat)) : flatP (P ++ Q) = flatP P ++ flatP Q := by simp [flatP]
theorem flatP_one (P : List (Nat × Nat)) : ∀ u ∈ flatP P, u.oneCell' = true := by
  intro u hu
  obtain ⟨p, _, h⟩ := List.mem_flatMap.1 hu
  simp at h
  rcases h with rfl | rfl <;> rfl
theorem flatP_last (P : List (Nat × Nat)) (q : Nat × Nat) : (flatP (P ++ [q]))[P.length * 2]? = some (.int .i64 (q.1 : Int)) ∧ (flatP (P ++ [q]))[P.length * 2 + 1]? = some (.int .i64 (q.2 : Int)) := by
  have h := flatP_length P
  rw [flatP_app]
  constructor
  · rw [List.getElem?_append_right (by omega), h]; simp [flatP]
  · rw [List.getElem?_append_right (by omega), h, show P.length * 2 + 1 - P.length * 2 = 1 by omega]; simp [flatP]
theorem flatP_front (P : List (Nat × Nat)) (q : Nat × Nat) : (flatP (P ++ [q])).take (P.length * 2) = flatP P := by
  rw [flatP_app, ← flatP_length P]
  simp
section
variable {t : TypeId} {w w' : World} {lo hi B n : Nat} {v : Value} {xs : List Value}
theorem touch_of_below (hb : Below w.heap.size w w') : Touch lo hi w w' := ⟨hb.os, hb.tape, hb.output, hb.size, fun k hk _ => hb.block k hk⟩
theorem touch_grown {w1 : World} {row : Option Nat} (ht : Touch lo hi w w1) (hg : w1.grownBy w' row) (hr : ∀ k, row = some k → w.heap.size ≤ k) : Touch lo hi w w' :=
  ⟨hg.os.trans ht.os, hg.tape.trans ht.tape, hg.output.trans ht.output, Nat.le_trans ht.size hg.size, fun k hk hne => (hg.block k (Nat.lt_of_lt_of_le hk ht.size) (fun e => by have := hr k e.symm; omega)).trans (ht.block k hk hne)⟩
theorem ownsRow_touch {sz : Nat} (h : w.ownsRow B t sz v n xs) (ht : Touch lo hi w w') (hB : hi ≤ B) : w'.ownsRow B t sz v n xs := by
  refine ⟨h.1, ?_⟩
  rcases h.2 with h2 | ⟨g, cap, cur, hv, hg, hh, r⟩
  · exact .inl h2
  · exact .inr ⟨g, cap, cur, hv, hg, (ht.block g (Array.getElem?_eq_some_iff.1 hh).1 (.inr (by omega))).trans hh, r⟩
theorem ownsRow_below2 {sz : Nat} (h : w.ownsRow B t sz v n xs) (hb : Below w.heap.size w w') : w'.ownsRow B t sz v n xs := by
  refine ⟨h.1, ?_⟩
  rcases h.2 with h2 | ⟨g, cap, cur, hv, hg, hh, r⟩
  · exact .inl h2
  · exact .inr ⟨g, cap, cur, hv, hg, (hb.block g (Array.getElem?_eq_some_iff.1 hh).1).trans hh, r⟩
/-- The stack without its last pair. -/
theorem own_front2 {c : Nat} {A : Option Addr} (h : w.ownsRow B t 2 (.slice A (n + 1) c) (n + 1) xs) : w.ownsRow B t 2 (.slice A n c) n (xs.take (n * 2)) := by
  obtain ⟨hl, h | ⟨g, cap, cur, hv, hb, hg, hn, hcap, hsz, hxs⟩⟩ := h
  · exact absurd h.2 (by omega)
  · injection hv with h1 h2 h3
    subst h1 h3
    refine ⟨by simp; omega, .inr ⟨g, c, cur, rfl, hb, hg, by omega, hcap, hsz, ?_⟩⟩
    rw [← hxs, List.take_take]
    congr 1
    omega
theorem own_cell2 {c : Nat} {A : Option Addr} (h : w.ownsRow B t 2 (.slice A (n + 1) c) (n + 1) xs) : ∃ g, A = some ⟨g, 0, none⟩ ∧ B ≤ g ∧ g < w.heap.size ∧ n + 1 ≤ c ∧ ∀ j u, xs[j]? = some u → w.cell? ⟨g, j, none⟩ = some u := by
  obtain ⟨hl, h | ⟨g, cap, cur, hv, hb, hg, hn, hcap, hsz, hxs⟩⟩ := h
  · exact absurd h.2 (by omega)
  · injection hv with h1 h2 h3
    subst h1 h3
    refine ⟨g, rfl, hb, (Array.getElem?_eq_some_iff.1 hg).1, hn, fun j u hj => ?_⟩
    have hjl : j < xs.length := (List.getElem?_eq_some_iff.1 hj).1
    rw [cell_of_row w g j cur t (0, 0) hg]
    rw [← hxs, List.getElem?_take, if_pos (by omega)] at hj
    simpa using hj
end
/-- What is asked of the function that joins: in each later world in which the classes are L it says whether the elements were apart, and joins their classes. It touches nothing outside the blocks lo to hi. -/
def JoinFn (P : Program) (F : FuncId) (bnd lb' : Array Value) (n lo hi : Nat) (St : World → List Int → Prop) : Prop :=
  ∀ (W : World) (L : List Int) (a b : Nat), a < n → b < n → L.length = n → St W L → hi ≤ W.heap.size → Calls P F (bnd ++ #[.agg #[.int .i64 (a : Int), .int .i64 (b : Int)]] ++ lb') W fun e W' => ∃ r, e = .returned (.bool r) ∧ Touch lo hi W W' ∧ ((r = false ∧ lb L a = lb L b ∧ St W' L) ∨ (r = true ∧ lb L a ≠ lb L b ∧ ∃ k l, ((k = lb L a ∧ l = lb L b) ∨ (k = lb L b ∧ l = lb L a)) ∧ St W' (joinL L k l)))
/-- The pairs that follow from a pair. -/
def folP (mp : Nat → Nat → Nat) (K a b : Nat) : List (Nat × Nat) := (List.range K).map fun i => (mp i a, mp i b)
theorem folP_length (mp : Nat → Nat → Nat) (K a b : Nat) : (folP mp K a b).length = K := by simp [folP]
theorem folP_mem (mp : Nat → Nat → Nat) (K a b : Nat) (p : Nat × Nat) : p ∈ folP mp K a b ↔ ∃ i, i < K ∧ p = (mp i a, mp i b) := by
  unfold folP
  rw [List.mem_map]
  constructor
  · rintro ⟨i, hi, rfl⟩; exact ⟨i, List.mem_range.1 hi, rfl⟩
  · rintro ⟨i, hi, rfl⟩; exact ⟨i, List.mem_range.2 hi, rfl⟩
/-- What is asked of the function that tells what follows. -/
def FolFn (P : Program) (G : FuncId) (bnd lb' : Array Value) (n K : Nat) (mp : Nat → Nat → Nat) (w0 : World) : Prop :=
  ∀ (W : World) (a b : Nat), a < n → b < n → Below w0.heap.size w0 W → Calls P G (bnd ++ #[.agg #[.int .i64 (a : Int), .int .i64 (b : Int)]] ++ lb') W fun e W' => ∃ g c, e = .returned (.slice (some ⟨g, 0, none⟩) K c) ∧ Below W.heap.size W W' ∧ ∀ j u, (flatP (folP mp K a b))[j]? = some u → W'.cell? ⟨g, j, none⟩ = some u
/-- How the search stands, with bounds. -/
structure JnS (mp : Nat → Nat → Nat) (K n x y : Nat) (L : List Int) (P : List (Nat × Nat)) : Prop where
  s : MgS mp K n x y L P
  rng : ∀ v ∈ L, 0 ≤ v ∧ v < (n : Int)
  sz : P.length + cgCnt n L * K ≤ 1 + n * K
theorem cgCnt_le (n : Nat) (L : List Int) : cgCnt n L ≤ n := by
  unfold cgCnt
  have := List.countP_le_length (l := List.range n) (p := fun (v : Nat) => decide ((v : Int) ∈ L))
  simpa using this
theorem JnS.start {mp : Nat → Nat → Nat} {K n x y : Nat} {L : List Int} (hl : L.length = n) (hx : x < n) (hy : y < n) (hu : ∀ a b, a < n → b < n → lb L a = lb L b → a = b) (hr : ∀ v ∈ L, 0 ≤ v ∧ v < (n : Int)) : JnS mp K n x y L [(x, y)] :=
  ⟨.init hl hx hy hu, hr, by
    have := Nat.mul_le_mul_right K (cgCnt_le n L)
    simp; omega⟩
theorem JnS.skip {mp : Nat → Nat → Nat} {K n x y : Nat} {L : List Int} {P : List (Nat × Nat)} {q : Nat × Nat} (h : JnS mp K n x y L (P ++ [q])) (he : lb L q.1 = lb L q.2) : JnS mp K n x y L P :=
  ⟨h.s.skip (fun p => by simp; exact Or.comm) he, h.rng, by have := h.sz; simp at this; omega⟩
theorem lb_mem {L : List Int} {a : Nat} (h : a < L.length) : lb L a ∈ L := by simp [lb, h]
theorem JnS.join {mp : Nat → Nat → Nat} {K n x y : Nat} {L : List Int} {P : List (Nat × Nat)} {q : Nat × Nat} {k l : Int} (h : JnS mp K n x y L (P ++ [q])) (hx : x < n) (hy : y < n) (hmp : ∀ i a, i < K → a < n → mp i a < n) (hne : lb L q.1 ≠ lb L q.2) (hkl : (k = lb L q.1 ∧ l = lb L q.2) ∨ (k = lb L q.2 ∧ l = lb L q.1)) :
    JnS mp K n x y (joinL L k l) (P ++ folP mp K q.1 q.2) ∧ (P ++ folP mp K q.1 q.2).length + cgCnt n (joinL L k l) * (K + 1) < (P ++ [q]).length + cgCnt n L * (K + 1) := by
  have hin := h.s.inn q (by simp)
  have hq1 : lb L q.1 ∈ L := lb_mem (by rw [h.s.len]; exact hin.1)
  have hq2 : lb L q.2 ∈ L := lb_mem (by rw [h.s.len]; exact hin.2)
  have hk : k ∈ L := by rcases hkl with ⟨rfl, _⟩ | ⟨rfl, _⟩ <;> assumption
  have hl : l ∈ L := by rcases hkl with ⟨_, rfl⟩ | ⟨_, rfl⟩ <;> assumption
  have hkne : k ≠ l := by
    rcases hkl with ⟨rfl, rfl⟩ | ⟨rfl, rfl⟩
    · exact hne
    · exact hne.symm
  have hc := cgCnt_join hk hl hkne (h.rng l hl)
  have hfl := folP_length mp K q.1 q.2
  have hsz := h.sz
  have hm1 : (cgCnt n (joinL L k l) + 1) * K ≤ cgCnt n L * K := Nat.mul_le_mul_right K hc
  have hm2 : (cgCnt n (joinL L k l) + 1) * (K + 1) ≤ cgCnt n L * (K + 1) := Nat.mul_le_mul_right (K + 1) hc
  rw [Nat.add_mul] at hm1 hm2
  refine ⟨⟨h.s.join hx hy hmp (by simp) hkl (fun p hp => ?_) (fun i hi => ?_) (fun p hp => ?_), fun v hv => ?_, ?_⟩, ?_⟩
  · rcases List.mem_append.1 hp with h1 | h1
    · exact .inl (List.mem_append_left _ h1)
    · simp at h1; exact .inr h1
  · exact List.mem_append_right _ ((folP_mem _ _ _ _ _).2 ⟨i, hi, rfl⟩)
  · rcases List.mem_append.1 hp with h1 | h1
    · exact .inl (List.mem_append_left _ h1)
    · obtain ⟨i, hi, e⟩ := (folP_mem _ _ _ _ _).1 h1
      exact .inr ⟨i, hi, e⟩
  · obtain ⟨u, hu, e⟩ := List.mem_map.1 hv
    by_cases h1 : u = l
    · rw [if_pos h1] at e; subst e; exact h.rng _ hk
    · rw [if_neg h1] at e; subst e; exact h.rng _ hu
  · rw [List.length_append, hfl]
    simp at hsz
    omega
  · rw [List.length_append, List.length_append, hfl]
    simp
    omega
end Go.Proofs.Ytaejgmdeiemhcab
