import Derived.Test.YtelildgngkajnaaDoorZj
import Derived.Test.YtelildgngkajnaaDoorZh
import Derived.Test.YtelildgngkajnaaDoorZb
import Derived.Test.YtelildgngkajnaaDoorZa
import Derived.Laws.BitsLemmas
import Derived.Test.YtelildgngkajnaaDoorZg
import Derived.Test.YtelildgngkajnaaDoorZi
namespace Go.Proofs.YtelildgngkajnaaDoor
open Go Go.RowKit
def IdF (f : List (List Int)) : Prop := ∀ x, x < f.length → ap f 0 x = x ∧ ap f x 0 = x
def As3 (f : List (List Int)) (x y z : Nat) : Prop := ap f (ap f x y) z = ap f x (ap f y z)
def AsF (f : List (List Int)) : Prop := ∀ x y z, x < f.length → y < f.length → z < f.length → As3 f x y z
def Grp (f : List (List Int)) : Prop := (Tbl f ∧ AllPrm f) ∧ IdF f ∧ AsF f
theorem as_pairs {f : List (List Int)} {n : Nat} (hn : f.length = n) (h : ∀ i, i < n * n → ∀ z, z < n → As3 f (i / n) (i % n) z) : AsF f := by
  intro x y z hx hy hz
  rw [hn] at hx hy hz
  have h1 := h _ (pair_lt n x y hx hy) z hz
  rw [pair_div n x y hy, pair_mod n x y hy] at h1
  exact h1
/-- The inverse. -/
def bk (f : List (List Int)) (x : Nat) : Nat := (f.getD x []).idxOf 0
theorem bk_ok {f : List (List Int)} {n : Nat} (hn : f.length = n) (ht : Tbl f) (hp : AllPrm f) {x : Nat} (hx : x < n) : bk f x < n ∧ ixOf (f.getD x []) 0 = bk f x := by
  have hl : (f.getD x []).length = n := by rw [ht.rows x (by omega), hn]
  have hpx := hp x (by omega)
  have hm : (0 : Int) ∈ f.getD x [] := ((prm_iff _).1 hpx).2.2 0 (by omega) (by rw [hl]; have := ht.1; omega)
  refine ⟨by have := List.idxOf_lt_length_of_mem hm; unfold bk; omega, ?_⟩
  unfold ixOf bk
  rw [if_pos hm]
def coH (f : List (List Int)) : Nat → Nat → Int := fun x y => (ap f (ap f x (bk f y)) x : Nat)
def cjH (f : List (List Int)) : Nat → Nat → Int := fun x y => (ap f (ap f x y) (bk f x) : Nat)
def CoRes (f : List (List Int)) : List (List Int) → Int → Prop := FmRes (Grp f) 1 f.length (coH f)
def CjRes (f : List (List Int)) : List (List Int) → Int → Prop := FmRes (Grp f) 1 f.length (cjH f)
theorem CoRes.ex (f : List (List Int)) : ∃ zs code, CoRes f zs code ∧ zs.length ≤ 1048576 ∧ ∀ i, i < zs.length → (zs.getD i []).length ≤ 1048576 := FmRes.ex _ _ _ _ (fun h => h.1.1.2.1)
theorem CjRes.ex (f : List (List Int)) : ∃ zs code, CjRes f zs code ∧ zs.length ≤ 1048576 ∧ ∀ i, i < zs.length → (zs.getD i []).length ≤ 1048576 := FmRes.ex _ _ _ _ (fun h => h.1.1.2.1)
/-- Products from the left. -/
def tm (f : List (List Int)) (x : Nat) (ys : List Nat) : Nat := ys.foldl (fun a y => ap f a y) x
theorem tm_take (f : List (List Int)) (x : Nat) (ys : List Nat) (k : Nat) (h : k < ys.length) : tm f x (ys.take (k + 1)) = ap f (tm f x (ys.take k)) (ys.getD k 0) := by
  unfold tm
  rw [List.take_succ_eq_append_getElem h, List.foldl_append]
  simp [h]
def natL (ys : List Nat) : List Int := ys.map fun (y : Nat) => (y : Int)
end Go.Proofs.YtelildgngkajnaaDoor
namespace Go.Proofs.YtelildgngkajnaaDoor
open Go Go.RowKit

/-- Element x is in the set. -/
def inb (S x : Nat) : Prop := S.testBit x = true
instance (S x : Nat) : Decidable (inb S x) := inferInstanceAs (Decidable (_ = _))
theorem inb_iff (S x : Nat) : inb S x ↔ S / 2 ^ x % 2 = 1 := by
  unfold inb
  rw [Nat.testBit_eq_decide_div_mod_eq]
  simp
theorem inb_eq {S T : Nat} (h : ∀ x, inb S x ↔ inb T x) : S = T := by
  apply Nat.eq_of_testBit_eq
  intro i
  have h1 := h i
  unfold inb at h1
  cases hs : S.testBit i <;> cases ht : T.testBit i <;> simp_all
theorem inb_zero (x : Nat) : ¬ inb 0 x := by simp [inb]
theorem inb_or (S p x : Nat) : inb (S ||| 2 ^ p) x ↔ inb S x ∨ x = p := by
  unfold inb
  rw [Nat.testBit_or, Nat.testBit_two_pow]
  simp
  constructor
  · rintro (h | h)
    · exact .inl h
    · exact .inr h.symm
  · rintro (h | h)
    · exact .inl h
    · exact .inr h.symm
theorem inb_lt {S x k : Nat} (hS : S < 2 ^ k) (h : inb S x) : x < k := by
  by_cases hx : x < k
  · exact hx
  · have : S.testBit x = false := Nat.testBit_lt_two_pow (Nat.lt_of_lt_of_le hS (Nat.pow_le_pow_right (by decide) (by omega)))
    unfold inb at h
    rw [this] at h
    cases h
theorem set_lt {S k : Nat} (h : ∀ x, inb S x → x < k) : S < 2 ^ k := by
  apply Nat.lt_pow_two_of_testBit
  intro i hi
  by_cases hb : S.testBit i = true
  · exact absurd (h i hb) (by omega)
  · simpa using hb
theorem or_lt {S p k : Nat} (h : S < 2 ^ k) (hp : p < k) : S ||| 2 ^ p < 2 ^ k := Nat.or_lt_two_pow h (Nat.pow_lt_pow_right (by decide) hp)
theorem set_sub_le {S T : Nat} (h : ∀ x, inb S x → inb T x) : S ≤ T := by
  have e : S &&& T = S := by
    apply Nat.eq_of_testBit_eq
    intro i
    rw [Nat.testBit_and]
    cases hs : S.testBit i
    · simp
    · have := h i hs
      unfold inb at this
      simp [this]
  rw [← e]
  exact Nat.and_le_right
theorem bt_shr (S x : Nat) (h : x ≤ 64) : (S : Int) / 2 ^ min x 64 = ((S / 2 ^ x : Nat) : Int) := by
  rw [Nat.min_eq_left h]; simp
theorem bt_one (q : Nat) (h : q < 4611686018427387904) : bits .and .i64 (q : Int) 1 = ((q % 2 : Nat) : Int) := by
  have h1 := (bits_nat .i64 62 (by decide) (fun n h0 h1 => by rw [IntKind.wrap_i64]; omega) q 1 (by simpa using h) (by decide)).1
  rw [show ((1 : Int)) = ((1 : Nat) : Int) by rfl, h1, Nat.and_one_is_mod]
theorem bt_in {S k : Nat} (h : S < 4611686018427387904) (hi : inb S k) : bits .and .i64 ((S : Int) / 2 ^ k) 1 = 1 := by
  have e : (S : Int) / 2 ^ k = ((S / 2 ^ k : Nat) : Int) := by simp
  rw [e, bt_one _ (Nat.lt_of_le_of_lt (Nat.div_le_self _ _) h), (inb_iff S k).1 hi]; rfl
theorem bt_out {S k : Nat} (h : S < 4611686018427387904) (hi : ¬ inb S k) : bits .and .i64 ((S : Int) / 2 ^ k) 1 = 0 := by
  have e : (S : Int) / 2 ^ k = ((S / 2 ^ k : Nat) : Int) := by simp
  have h2 : S / 2 ^ k % 2 = 0 := by
    rcases Nat.mod_two_eq_zero_or_one (S / 2 ^ k) with h2 | h2
    · exact h2
    · exact absurd ((inb_iff S k).2 h2) hi
  rw [e, bt_one _ (Nat.lt_of_le_of_lt (Nat.div_le_self _ _) h), h2]; rfl
theorem bt_or (S p : Nat) (h : S < 4611686018427387904) (hp : p < 4611686018427387904) : bits .or .i64 (S : Int) (p : Int) = ((S ||| p : Nat) : Int) :=
  (bits_nat .i64 62 (by decide) (fun n h0 h1 => by rw [IntKind.wrap_i64]; omega) S p (by simpa using h) (by simpa using hp)).2
theorem bt_shl (x : Nat) (h : x ≤ 64) : (2 : Int) ^ min x 64 = ((2 ^ x : Nat) : Int) := by
  rw [Nat.min_eq_left h]; simp

/-- A set that has x > y with any two of its elements. -/
def ClosedF (f : List (List Int)) (S : Nat) : Prop := ∀ x y, inb S x → inb S y → inb S (ap f x y)
/-- The set with all x > y. -/
def GrF (f : List (List Int)) (S V : Nat) : Prop := ∀ t, inb V t ↔ inb S t ∨ ∃ x y, inb S x ∧ inb S y ∧ ap f x y = t
theorem GrF.closed {f : List (List Int)} {S V : Nat} (h : GrF f S V) : V = S ↔ ClosedF f S := by
  constructor
  · rintro rfl x y hx hy
    exact (h _).2 (.inr ⟨x, y, hx, hy, rfl⟩)
  · intro hc
    apply inb_eq
    intro t
    rw [h t]
    constructor
    · rintro (h1 | ⟨x, y, hx, hy, rfl⟩)
      · exact h1
      · exact hc x y hx hy
    · exact .inl
/-- The elements of a set, in ascending order. -/
def mems (k S : Nat) : List Nat := (List.range k).filter fun x => S.testBit x
theorem mems_mem (k S x : Nat) : x ∈ mems k S ↔ x < k ∧ inb S x := by simp [mems, inb]
theorem mems_succ (k S : Nat) : mems (k + 1) S = if inb S k then mems k S ++ [k] else mems k S := by
  unfold mems
  rw [List.range_succ, List.filter_append]
  by_cases h : inb S k
  · have h2 : S.testBit k = true := h
    rw [if_pos h]; simp [h2]
  · have h2 : S.testBit k = false := by simpa [inb] using h
    rw [if_neg h]; simp [h2]
theorem mems_length (k S : Nat) : (mems k S).length ≤ k := by
  unfold mems
  have := List.length_filter_le (fun x => S.testBit x) (List.range k)
  simpa using this
theorem mems_more {S k : Nat} (hS : S < 2 ^ k) (j : Nat) (h : k ≤ j) : mems j S = mems k S := by
  induction j with
  | zero => have : k = 0 := by omega
            subst this; rfl
  | succ j ih =>
    by_cases e : k = j + 1
    · rw [e]
    · rw [mems_succ, if_neg (fun h2 => by have := inb_lt hS h2; omega), ih (by omega)]
def memL (k S : Nat) : List Int := (mems k S).map fun (x : Nat) => (x : Int)
theorem memL_length (k S : Nat) : (memL k S).length = (mems k S).length := by simp [memL]
theorem memL_getD (k S i : Nat) (h : i < (mems k S).length) : (memL k S).getD i 0 = ((mems k S).getD i 0 : Nat) := by simp [memL, h]
theorem memL_succ (k S : Nat) : ints (memL (k + 1) S) = if inb S k then ints (memL k S) ++ [.int .i64 k] else ints (memL k S) := by
  unfold memL
  rw [mems_succ]
  split
  · simp [ints]
  · rfl
end Go.Proofs.YtelildgngkajnaaDoor
namespace Go.Proofs.YtelildgngkajnaaDoor
open Go Go.RowKit
open Classical
/-! Classes numbered by their least elements, and what CongruenceFrom answers. -/
/-- The classes among the first k elements, each at its first one. -/
noncomputable def firstsL (L : List Int) : Nat → List Int
  | 0 => []
  | k + 1 => if lb L k ∈ firstsL L k then firstsL L k else firstsL L k ++ [lb L k]
noncomputable def numTo (L : List Int) (k : Nat) : List Int := (List.range k).map fun (x : Nat) => ixOf (firstsL L (x + 1)) (lb L x)
noncomputable def numL (L : List Int) : List Int := numTo L L.length
theorem numTo_length (L : List Int) (k : Nat) : (numTo L k).length = k := by simp [numTo]
theorem numL_length (L : List Int) : (numL L).length = L.length := numTo_length L _
theorem numTo_succ (L : List Int) (k : Nat) : numTo L (k + 1) = numTo L k ++ [ixOf (firstsL L (k + 1)) (lb L k)] := by simp [numTo, List.range_succ]
/-- The places of the first elements, the same for all ways to write the classes. -/
noncomputable def posL (L : List Int) : Nat → List Nat
  | 0 => []
  | k + 1 => if lb L k ∈ (posL L k).map (lb L) then posL L k else posL L k ++ [k]
theorem firsts_pos (L : List Int) (k : Nat) : firstsL L k = (posL L k).map (lb L) := by
  induction k with
  | zero => rfl
  | succ k ih =>
    unfold firstsL posL
    rw [ih]
    by_cases h : lb L k ∈ (posL L k).map (lb L)
    · rw [if_pos h, if_pos h]
    · rw [if_neg h, if_neg h]; simp
theorem posL_lt (L : List Int) (k : Nat) : ∀ p, p ∈ posL L k → p < k := by
  induction k with
  | zero => intro p hp; simp [posL] at hp
  | succ k ih =>
    intro p hp
    unfold posL at hp
    by_cases h : lb L k ∈ (posL L k).map (lb L)
    · rw [if_pos h] at hp; have := ih p hp; omega
    · rw [if_neg h] at hp
      rcases List.mem_append.1 hp with h1 | h1
      · have := ih p h1; omega
      · simp at h1; omega
theorem posL_same {L L' : List Int} {n : Nat} (h : ∀ a b, a < n → b < n → (lb L a = lb L b ↔ lb L' a = lb L' b)) (k : Nat) (hk : k ≤ n) : posL L k = posL L' k := by
  induction k with
  | zero => rfl
  | succ k ih =>
    have e := ih (by omega)
    unfold posL
    rw [e]
    have hm : lb L k ∈ (posL L' k).map (lb L) ↔ lb L' k ∈ (posL L' k).map (lb L') := by
      simp only [List.mem_map]
      constructor
      · rintro ⟨p, hp, e⟩; have := posL_lt L' k p hp; exact ⟨p, hp, (h p k (by omega) (by omega)).1 e⟩
      · rintro ⟨p, hp, e⟩; have := posL_lt L' k p hp; exact ⟨p, hp, (h p k (by omega) (by omega)).2 e⟩
    by_cases h1 : lb L k ∈ (posL L' k).map (lb L)
    · rw [if_pos h1, if_pos (hm.1 h1)]
    · rw [if_neg h1, if_neg (fun h2 => h1 (hm.2 h2))]
theorem ix_cons (a v : Int) (xs : List Int) : ixOf (a :: xs) v = if a = v then 0 else if ixOf xs v = -1 then -1 else ixOf xs v + 1 := by
  by_cases e : a = v
  · subst e
    rw [if_pos rfl]
    unfold ixOf
    simp
  · rw [if_neg e]
    unfold ixOf
    by_cases hm : v ∈ xs
    · rw [if_pos hm, if_pos (List.mem_cons_of_mem _ hm), if_neg (by omega), List.idxOf_cons, show (a == v) = false by simpa using e]
      simp
    · rw [if_neg hm, if_neg (by simp [hm]; exact fun h => e h.symm), if_pos rfl]
theorem ix_map {g g' : Nat → Int} {x : Nat} (ps : List Nat) (h : ∀ p, p ∈ ps → (g p = g x ↔ g' p = g' x)) : ixOf (ps.map g) (g x) = ixOf (ps.map g') (g' x) := by
  induction ps with
  | nil => simp [ixOf]
  | cons p ps ih =>
    have h1 := h p (by simp)
    rw [List.map_cons, List.map_cons, ix_cons, ix_cons, ih fun q hq => h q (List.mem_cons_of_mem _ hq)]
    by_cases e : g p = g x
    · rw [if_pos e, if_pos (h1.1 e)]
    · rw [if_neg e, if_neg fun e2 => e (h1.2 e2)]
theorem numL_same {L L' : List Int} {n : Nat} (hl : L.length = n) (hl' : L'.length = n) (h : ∀ a b, a < n → b < n → (lb L a = lb L b ↔ lb L' a = lb L' b)) : numL L = numL L' := by
  unfold numL numTo
  rw [hl, hl']
  apply List.map_congr_left
  intro x hx
  have hx' : x < n := List.mem_range.1 hx
  rw [firsts_pos, firsts_pos, posL_same h (x + 1) (by omega)]
  exact ix_map _ fun p hp => h p x (by have := posL_lt L' (x + 1) p hp; omega) hx'
/-- The class of an element, written by one of its elements. -/
noncomputable def cgRep (f : List (List Int)) (n x y a : Nat) : Nat := Classical.epsilon fun b => CgE f n x y a b
theorem cgRep_in (f : List (List Int)) (n x y a : Nat) : CgE f n x y a (cgRep f n x y a) := Classical.epsilon_spec (p := fun b => CgE f n x y a b) ⟨a, .refl a⟩
theorem cgRep_eq {f : List (List Int)} {n x y a b : Nat} : cgRep f n x y a = cgRep f n x y b ↔ CgE f n x y a b := by
  constructor
  · intro e
    have h := cgRep_in f n x y b
    rw [← e] at h
    exact (cgRep_in f n x y a).trans h.symm
  · intro e
    unfold cgRep
    have : (fun c => CgE f n x y a c) = fun c => CgE f n x y b c := funext fun c => propext ⟨fun h => e.symm.trans h, fun h => e.trans h⟩
    rw [this]
/-- The classes of the least congruence. -/
noncomputable def cgC (f : List (List Int)) (n x y : Nat) : List Int := (List.range n).map fun (a : Nat) => ((cgRep f n x y a : Nat) : Int)
theorem cgC_at (f : List (List Int)) (n x y : Nat) {a : Nat} (h : a < n) : lb (cgC f n x y) a = ((cgRep f n x y a : Nat) : Int) := by simp [lb, cgC, h]
theorem cgC_eq {f : List (List Int)} {n x y a b : Nat} (ha : a < n) (hb : b < n) : lb (cgC f n x y) a = lb (cgC f n x y) b ↔ CgE f n x y a b := by
  rw [cgC_at f n x y ha, cgC_at f n x y hb, ← cgRep_eq (f := f) (n := n) (x := x) (y := y) (a := a) (b := b)]
  omega
theorem cgC_length (f : List (List Int)) (n x y : Nat) : (cgC f n x y).length = n := by simp [cgC]
/-- The least congruence with x and y in one class, as a list. -/
noncomputable def cfL (f : List (List Int)) (x y : Nat) : List Int := numL (cgC f f.length x y)
theorem cfL_length (f : List (List Int)) (x y : Nat) : (cfL f x y).length = f.length := by unfold cfL; rw [numL_length, cgC_length]
/-- What the search leaves, numbered, is it. -/
theorem CgS.num {f : List (List Int)} {n x y : Nat} {L : List Int} (hn : f.length = n) (h : CgS f n x y L []) (hx : x < n) (hy : y < n) (hap : ∀ a b, a < n → b < n → ap f a b < n) : numL L = cfL f x y := by
  subst hn
  exact numL_same h.len (cgC_length _ _ _ _) fun a b ha hb => (h.done hx hy hap a b ha hb).trans (cgC_eq ha hb).symm
def CfRes (f : List (List Int)) (x y : Int) (zs : List Int) (code : Int) : Prop :=
  (Rck f ∧ ((0 ≤ x ∧ x < (f.length : Int)) ∧ (0 ≤ y ∧ y < (f.length : Int))) ∧ zs = cfL f x.toNat y.toNat ∧ code = 0) ∨ (Rck f ∧ ¬ ((0 ≤ x ∧ x < (f.length : Int)) ∧ (0 ≤ y ∧ y < (f.length : Int))) ∧ zs = [] ∧ code = 2) ∨ (¬ Rck f ∧ zs = [] ∧ code = 1)
theorem CfRes.ex (f : List (List Int)) (x y : Int) : ∃ zs code, CfRes f x y zs code ∧ zs.length ≤ 1048576 := by
  by_cases h : Rck f
  · by_cases h2 : (0 ≤ x ∧ x < (f.length : Int)) ∧ (0 ≤ y ∧ y < (f.length : Int))
    · exact ⟨_, _, .inl ⟨h, h2, rfl, rfl⟩, by rw [cfL_length]; have := h.tbl.2.1; omega⟩
    · exact ⟨_, _, .inr (.inl ⟨h, h2, rfl, rfl⟩), by simp⟩
  · exact ⟨_, _, .inr (.inr ⟨h, rfl, rfl⟩), by simp⟩
end Go.Proofs.YtelildgngkajnaaDoor
namespace Go.Proofs.YtelildgngkajnaaDoor
open Go Go.RowKit
/-- The number that the next new class has to have, behind the first i elements. -/
def nxt (xs : List Int) : Nat → Nat
  | 0 => 0
  | i + 1 => if xs.getD i 0 = (nxt xs i : Int) then nxt xs i + 1 else nxt xs i
theorem nxt_le (xs : List Int) (i : Nat) : nxt xs i ≤ i := by
  induction i with
  | zero => exact Nat.le_refl _
  | succ i ih => unfold nxt; split <;> omega
theorem nxt_mono (xs : List Int) (i j : Nat) (h : i ≤ j) : nxt xs i ≤ nxt xs j := by
  induction j with
  | zero => have : i = 0 := by omega
            subst this; exact Nat.le_refl _
  | succ j ih =>
    by_cases e : i = j + 1
    · subst e; exact Nat.le_refl _
    · have h1 := ih (by omega)
      have h2 : nxt xs j ≤ nxt xs (j + 1) := by
        show nxt xs j ≤ if xs.getD j 0 = (nxt xs j : Int) then nxt xs j + 1 else nxt xs j
        split <;> omega
      omega
/-- The classes are numbered in the order of their first elements. -/
def Canon (xs : List Int) : Prop := ∀ i, i < xs.length → 0 ≤ xs.getD i 0 ∧ xs.getD i 0 ≤ (nxt xs i : Int)
def Part (f : List (List Int)) (xs : List Int) : Prop := xs.length = f.length ∧ Canon xs
theorem Canon.lt {xs : List Int} (h : Canon xs) {i : Nat} (hi : i < xs.length) : 0 ≤ xs.getD i 0 ∧ xs.getD i 0 < (xs.length : Int) := by
  have h1 := h i hi
  have h2 := nxt_le xs i
  omega
/-- The number of a class, as a natural number. -/
def cl (xs : List Int) (i : Nat) : Nat := (xs.getD i 0).toNat
theorem Canon.val {xs : List Int} (h : Canon xs) {i : Nat} (hi : i < xs.length) : xs.getD i 0 = (cl xs i : Int) ∧ cl xs i < xs.length := by
  have h1 := h.lt hi
  unfold cl
  omega
/-- One condition of a congruence. -/
def Cg3 (f : List (List Int)) (xs : List Int) (x z y : Nat) : Prop := cl xs (ap f x y) = cl xs (ap f z y) ∧ cl xs (ap f y x) = cl xs (ap f y z)
def Cg2 (f : List (List Int)) (xs : List Int) (x z : Nat) : Prop := cl xs x = cl xs z → ∀ y, y < f.length → Cg3 f xs x z y
def CgF (f : List (List Int)) (xs : List Int) : Prop := ∀ x, x < f.length → ∀ z, z < f.length → Cg2 f xs x z
/-- The code of a rack and a partition. -/
def CdRes (f : List (List Int)) (xs : List Int) (code : Int) : Prop := (Rck f ∧ Part f xs ∧ code = 0) ∨ (¬ (Rck f ∧ Part f xs) ∧ code = 1)
def CgRes (f : List (List Int)) (xs : List Int) : Bool → Int → Prop := BRes (Rck f ∧ Part f xs) (CgF f xs)
theorem CgRes.ex (f : List (List Int)) (xs : List Int) : ∃ r code, CgRes f xs r code := BRes.ex _ _
theorem cg_pairs {f : List (List Int)} {xs : List Int} {n : Nat} (hn : f.length = n) (h : ∀ i, i < n * n → Cg2 f xs (i / n) (i % n)) : CgF f xs := by
  intro x hx z hz
  rw [hn] at hx hz
  have h1 := h _ (pair_lt n x z hx hz)
  rw [pair_div n x z hz, pair_mod n x z hz] at h1
  exact h1
end Go.Proofs.YtelildgngkajnaaDoor
namespace Go.Proofs.YtelildgngkajnaaDoor
open Go Go.RowKit
def RkOrb (f : List (List Int)) (zs : List Int) (code : Int) : Prop := (Rck f ∧ zs = labL f f.length f.length ∧ code = 0) ∨ (¬ Rck f ∧ zs = [] ∧ code = 1)
theorem Rck.sys {f : List (List Int)} {n : Nat} (h : Rck f) (hn : f.length = n) : Sys (n : Int) f := by
  have h1 := h.tbl.1
  have h2 := h.tbl.2.1
  refine ⟨by omega, by omega, by omega, fun i hi => ⟨?_, h.prm i hi⟩⟩
  rw [h.tbl.rows i hi, hn]
theorem RkOrb.ex (f : List (List Int)) : ∃ zs code, RkOrb f zs code ∧ zs.length ≤ 1048576 := by
  by_cases h : Rck f
  · exact ⟨_, _, .inl ⟨h, rfl, rfl⟩, by rw [labL_length]; have := h.tbl.2.1; omega⟩
  · exact ⟨_, _, .inr ⟨h, rfl, rfl⟩, by simp⟩
end Go.Proofs.YtelildgngkajnaaDoor
namespace Go.Proofs.YtelildgngkajnaaDoor
open Go Go.RowKit
set_option maxHeartbeats 1000000

set_option maxRecDepth 100000 in
theorem tableOf_any (F : FuncId) (lb : Array Value) (n : Nat) (h : Nat → Nat → Int) (w : World) (eg : ∀ args w, (callFunc F args).run Tryd.prog w = .ok (.enter F args) w) (h0 : 1 ≤ n) (h12 : n ≤ 12) (hp : CellFn Tryd.prog F lb n h w) :
    Calls Tryd.prog 39 #[.int .i64 n, .func (.func F) #[] lb] w fun e w' => ∃ A c, e = .returned (.slice A n c) ∧ Below w.heap.size w w' ∧ Obj2 37 2 w.heap.size w'.heap.size w' A (grid n h) := by
  have HPF := hide hp
  clear hp
  obtain ⟨N, hN⟩ : ∃ N, n * n = N := ⟨_, rfl⟩
  have hN144 : N ≤ 144 := by rw [← hN]; exact sq_le n h12
  have HN := hide hN
  clear hN
  go_enter Tryd.func39, Tryd.ntmps39
  go_wp2_with fail
  refine calls_gen fun w0 hw0 => ?_
  have HB0 : Hid (Below w.heap.size w w0) := hide (by rw [hw0]; first | exact Below.refl _ _ | exact (Below.refl _ _).drew)
  have Z0 : Hid (w0.heap.size = w.heap.size) := hide (by first | (rw [hw0]; done) | (rw [hw0]; simp))
  clear hw0
  refine (newTable_any n _ (by omega)).mono ?_
  rintro e w1 ⟨rfl, hb1, ht1, hs1⟩
  have HB1 := hide (HB0.out.trans (hb1.mono HB0.out.size))
  have HT1 := hide ht1
  have Z1 := hide hs1
  clear hb1 ht1 hs1
  go_wp2_with fail
  refine (pairsOf_any n N _ h0 h12 HN.out).mono ?_
  rintro e w4 ⟨g, rfl, hb4, hg4, hpa⟩
  have HB4 := hide (HB1.out.trans (hb4.mono HB1.out.size))
  have HT4 := hide (HT1.out.later hb4)
  have HPA4 := hide hpa
  have hs4 := hb4.size
  clear hb4 hpa
  obtain ⟨T, hT⟩ : ∃ T, w0.heap.size = T := ⟨_, rfl⟩
  have ZT : Hid (T = w.heap.size ∧ T + 1 + n ≤ w4.heap.size ∧ T + 1 + n ≤ g) := hide (by have := Z0.out; have := Z1.out; omega)
  rw [hT] at HT4
  rw [hT]
  go_wp2_with fail
  go_loopw [13] (fun i wr => ∃ k : Nat, k ≤ N ∧ i = .int .i64 k ∧ Below w.heap.size w wr ∧ w4.heap.size ≤ wr.heap.size ∧ PairsAt wr g n ∧ TabF 37 2 wr T (fun i => T + 1 + i) n (rfTo h n k)) (fun i _ => N - (intOf i).toNat)
  case atStart => exact ⟨0, Nat.zero_le _, rfl, HB4.out, Nat.le_refl _, HPA4.out, HT4.out.congr (fun a b _ _ => by simp [rfTo])⟩
  case round =>
    obtain ⟨k, hk, rfl, hbe, hsz, hpa, ht1⟩ := hrel
    have HB := hide hbe
    have HPA := hide hpa
    have HT := hide ht1
    clear hbe hpa ht1
    by_cases hlt : k < N
    · have hkz : (k : Int) < N := by omega
      obtain ⟨p0, p1⟩ := HPA.out.2 k (by rw [HN.out]; exact hlt)
      have hxn : k / n < n := div_lt_sq (by rw [HN.out]; exact hlt)
      have hyn : k % n < n := mod_lt_sq (by rw [HN.out]; exact hlt)
      obtain ⟨x, hx⟩ : ∃ x, k / n = x := ⟨_, rfl⟩
      obtain ⟨y, hy⟩ : ∃ y, k % n = y := ⟨_, rfl⟩
      rw [hx] at p0 hxn
      rw [hy] at p1 hyn
      have HX := hide hx
      have HY := hide hy
      have hxz : (x : Int) < n := by omega
      have hyz : (y : Int) < n := by omega
      clear hx hy
      go_wp2_with fail
      refine wp_gen fun w5 hw5 => ?_
      obtain ⟨P, hPe⟩ : ∃ P, wr.heap.size = P := ⟨_, rfl⟩
      have hb5 : Below wr.heap.size wr w5 := by rw [hw5]; exact (Below.refl _ _).alloc (Nat.le_refl _) _
      have HPP : Hid (w4.heap.size ≤ P) := hide (by rw [← hPe]; exact hsz)
      have HBc := hide (HB.out.trans (hb5.mono HB.out.size))
      have HAc := hide (HPA.out.later hb5)
      have HTc := hide (HT.out.later hb5)
      have HPc : Hid (Blk w5 P 71 [.int .i64 x, .int .i64 y]) := hide (by rw [hw5, ← hPe]; exact Blk.new _ _ _)
      have hszc : w4.heap.size ≤ w5.heap.size := by have := hb5.size; omega
      rw [hPe]
      clear hw5 hb5 p0 p1 hPe
      obtain ⟨C1, t1⟩ := HTc.out.top
      obtain ⟨cx, hcx⟩ : ∃ a, C1 x = a := ⟨_, rfl⟩
      obtain ⟨X, hX⟩ : ∃ a, T + 1 + x = a := ⟨_, rfl⟩
      have HXX := hide hX
      have HTOP : Hid (T < w5.heap.size ∧ w5.cell? ⟨T, x, none⟩ = some (.slice (some ⟨X, 0, none⟩) n cx)) := hide ⟨t1.lt, by rw [← hX, ← hcx]; exact t1.cell hxn⟩
      clear t1 hcx hX
      have k1 := HPc.out.cell 0 _ rfl
      have k2 := HPc.out.cell 1 _ rfl
      have k3 := HTOP.out.2
      have ne1 : P ≠ X := by have := HPP.out; have := ZT.out; have := HXX.out; omega
      have ne2 : T ≠ X := by have := HXX.out; omega
      have ne3 := ne1.symm
      have ne4 := ne2.symm
      go_region_held3 (fun w' => w'.cell? ⟨P, 0, none⟩ = some (.int .i64 x) ∧ w'.cell? ⟨P, 1, none⟩ = some (.int .i64 y) ∧ w'.cell? ⟨T, x, none⟩ = some (.slice (some ⟨X, 0, none⟩) n cx)) (first | exact ⟨k1, k2, k3⟩ | go_keep) (first | (go_at_fn F; go_must (refine calls_gen fun wc hwc => ?_; have hbx : Below w5.heap.size w5 wc := (by rw [hwc]; first | exact Below.refl _ _ | exact (Below.refl _ _).drew); replace HBc := hide (HBc.out.trans (hbx.mono HBc.out.size)); replace HAc := hide (HAc.out.later hbx); replace HTc := hide (HTc.out.later hbx); replace HPc := hide (HPc.out.later hbx); replace hszc : w4.heap.size ≤ wc.heap.size := (by have := hbx.size; omega); replace HTOP : Hid (T < wc.heap.size ∧ wc.cell? ⟨T, x, none⟩ = some (.slice (some ⟨X, 0, none⟩) n cx)) := hide ⟨by have := hbx.size; have := HTOP.out.1; omega, (hbx.cell (p := ⟨T, x, none⟩) HTOP.out.1).trans HTOP.out.2⟩; clear hwc hbx; refine (HPF.out wc x y hxn hyn HBc.out).mono ?_; rintro e wd ⟨rfl, hbd⟩; replace HBc := hide (HBc.out.trans (hbd.mono HBc.out.size)); replace HAc := hide (HAc.out.later hbd); replace HTc := hide (HTc.out.later hbd); replace HPc := hide (HPc.out.later hbd); replace hszc : w4.heap.size ≤ wd.heap.size := (by have := hbd.size; omega); replace HTOP : Hid (T < wd.heap.size ∧ wd.cell? ⟨T, x, none⟩ = some (.slice (some ⟨X, 0, none⟩) n cx)) := hide ⟨by have := hbd.size; have := HTOP.out.1; omega, (hbd.cell (p := ⟨T, x, none⟩) HTOP.out.1).trans HTOP.out.2⟩; clear hbd; have k1 := HPc.out.cell 0 _ rfl; have k2 := HPc.out.cell 1 _ rfl; have k3 := HTOP.out.2; have k4 : wd.cell? ⟨X, y, none⟩ = some (.int .i64 (rfTo h n k x y)) := (by rw [← HXX.out]; exact (HTc.out.row x hxn).cell hyn); have k5 : wd.frozen? ⟨X, y, none⟩ = false := (by rw [← HXX.out]; exact (HTc.out.row x hxn).frozen y))))
      all_goals go_wp2_with fail
      all_goals go_roundw
      all_goals first
        | (simp [intOf]; omega)
        | (refine ⟨k + 1, by omega, by go_num, HBc.out.setCell (p := ⟨X, y, none⟩) (by show w.heap.size ≤ X; have := ZT.out; have := HXX.out; omega) _, by simpa [World.setCell] using hszc, HAc.out.away (p := ⟨X, y, none⟩) (by show g ≠ X; have := ZT.out; have := HXX.out; omega) _, ?_⟩
           have h1 : TabF 37 2 (wd.setCell ⟨T + 1 + x, y, none⟩ (.int .i64 (h x y))) T (fun i => T + 1 + i) n _ := HTc.out.set x y (h x y) hxn
           rw [HXX.out] at h1
           exact h1.congr (rfTo_upd h n k x y HX.out HY.out hyn))
    · have hkn : k = N := by omega
      subst hkn
      go_wp2_with fail
      have z0 := ZT.out
      have HF1 : TabF 37 2 wr T (fun i => T + 1 + i) n h := HT.out.congr (fun a b ha hb => by unfold rfTo; rw [if_pos (by rw [← HN.out]; exact pair_lt n a b ha hb)])
      go_ret
      exact ⟨_, _, rfl, HB.out, HF1.obj (by omega) (by omega) (fun i hi => by omega)⟩
end Go.Proofs.YtelildgngkajnaaDoor
namespace Go.Proofs.YtelildgngkajnaaDoor
open Go Go.RowKit
set_option maxHeartbeats 2000000

set_option maxRecDepth 100000 in
theorem firstTriple_any (F : FuncId) (lb : Array Value) (n : Nat) (q : Nat → Nat → Nat → Bool) (T : Nat) (w : World) (eg : ∀ args w, (callFunc F args).run Tryd.prog w = .ok (.enter F args) w) (h1 : 1 ≤ n) (h12 : n ≤ 12) (hp : BoolFn3 Tryd.prog F lb n q w) (hT : FirstQ q n T) :
    Calls Tryd.prog 62 #[.int .i64 n, .func (.func F) #[] lb] w fun e w' => (T = n * n * n ∧ e = .returned (.slice none 0 0) ∧ Below w.heap.size w w') ∨ (T < n * n * n ∧ ∃ g, e = .returned (.slice (some ⟨g, 0, none⟩) 3 3) ∧ Below w.heap.size w w' ∧ w.heap.size ≤ g ∧ OwnB 2 w' g (lst3 (trip n T))) := by
  have HPF := hide hp
  have HT := hide hT
  obtain ⟨N, hN⟩ : ∃ N, n * n = N := ⟨_, rfl⟩
  have hN144 : N ≤ 144 := by rw [← hN]; exact sq_le n h12
  have HNN := hide hN
  clear hT hN hp
  go_enter Tryd.func62, Tryd.ntmps62
  go_wp2_with fail
  refine (pairsOf_any n N _ h1 h12 HNN.out).mono ?_
  rintro e w3 ⟨g, rfl, hb3, hg3, hpa⟩
  have HB3 := hide hb3
  have HPA3 := hide hpa
  clear hb3 hpa
  go_wp2_with fail
  go_loopw [11] (fun i wr => ∃ k : Nat, k ≤ N ∧ i = .int .i64 k ∧ Below w.heap.size w wr ∧ PairsAt wr g n ∧ ∀ i, i < k * n → qAt q n i = false) (fun i _ => N - (intOf i).toNat)
  case atStart => exact ⟨0, Nat.zero_le _, rfl, HB3.out, HPA3.out, fun i hi => absurd hi (by omega)⟩
  case round =>
    obtain ⟨k, hk, rfl, hbe, hpa, hall⟩ := hrel
    have HB := hide hbe
    have HPA := hide hpa
    have HALL := hide hall
    clear hbe hpa hall
    by_cases hlt : k < N
    · have hkz : (k : Int) < N := by omega
      obtain ⟨p0, p1⟩ := HPA.out.2 k (by rw [HNN.out]; exact hlt)
      have hxn : k / n < n := div_lt_sq (by rw [HNN.out]; exact hlt)
      have hyn : k % n < n := mod_lt_sq (by rw [HNN.out]; exact hlt)
      obtain ⟨x, hx⟩ : ∃ x, k / n = x := ⟨_, rfl⟩
      obtain ⟨y, hy⟩ : ∃ y, k % n = y := ⟨_, rfl⟩
      rw [hx] at p0 hxn
      rw [hy] at p1 hyn
      have HX := hide hx
      have HY := hide hy
      clear hx hy
      go_wp2_with fail
      refine wp_gen fun w4 hw4 => ?_
      obtain ⟨P, hPe⟩ : ∃ P, wr.heap.size = P := ⟨_, rfl⟩
      have HB4 : Hid (Below w.heap.size w w4) := hide (by rw [hw4]; exact HB.out.alloc HB.out.size _)
      have HP4 : Hid (Blk w4 P 71 [.int .i64 x, .int .i64 y]) := hide (by rw [hw4, ← hPe]; exact Blk.new _ _ _)
      have HA4 : Hid (PairsAt w4 g n) := hide (by rw [hw4]; exact HPA.out.later ((Below.refl _ _).alloc (Nat.le_refl _) _))
      rw [hPe]
      clear hw4 p0 p1 hPe
      go_loopw [16] (fun i wi => ∃ z : Nat, z ≤ n ∧ i = .int .i64 z ∧ Below w.heap.size w wi ∧ Blk wi P 71 [.int .i64 x, .int .i64 y] ∧ PairsAt wi g n ∧ ∀ i, i < k * n + z → qAt q n i = false) (fun i _ => n - (intOf i).toNat)
      case atStart => exact ⟨0, Nat.zero_le _, rfl, HB4.out, HP4.out, HA4.out, HALL.out⟩
      case round =>
        obtain ⟨z, hzn, rfl, hbe, hpp, hpa, hall⟩ := hrel
        have HBc := hide hbe
        have HPc := hide hpp
        have HAc := hide hpa
        have HALLI := hide hall
        clear hbe hpp hpa hall
        by_cases hltz : z < n
        · have hzz : (z : Int) < n := by omega
          have hklt : k * n + z < n * n * n := by
            have h := trip_lt (n := n) hxn hyn hltz
            rw [← HX.out, ← HY.out, pair_eta] at h
            exact h
          have hat : qAt q n (k * n + z) = q x y z := by
            have h := qAt_at (q := q) (n := n) (x := x) hyn hltz
            rw [← HX.out, ← HY.out, pair_eta] at h
            rw [← HX.out, ← HY.out]
            exact h
          have htr : trip n (k * n + z) = (x, y, z) := by
            have h := trip_of (n := n) (x := x) hyn hltz
            rw [← HX.out, ← HY.out, pair_eta, HX.out, HY.out] at h
            exact h
          have HTR := hide htr
          have HKL := hide hklt
          clear htr hklt
          obtain ⟨bq, hbq⟩ : ∃ b, q x y z = b := ⟨_, rfl⟩
          rw [hbq] at hat
          have HAT := hide hat
          have HBQ := hide hbq
          clear hat hbq
          have k0 := HPc.out.cell 0 _ rfl
          have k1 := HPc.out.cell 1 _ rfl
          cases bq with
          | false =>
            go_wp2_with (go_at_fn F; go_must (refine calls_gen fun wc hwc => ?_; (first | have hbx := drew_below hwc | have hbx := eq_below hwc); replace HBc := hide (HBc.out.trans (hbx.mono HBc.out.size)); replace HPc := hide (HPc.out.later hbx); replace HAc := hide (HAc.out.later hbx); clear hwc hbx; refine (HPF.out _ x y z hxn hyn hltz HBc.out).mono ?_; rw [HBQ.out]; rintro e wd ⟨rfl, hbd⟩; replace HBc := hide (HBc.out.trans (hbd.mono HBc.out.size)); replace HPc := hide (HPc.out.later hbd); replace HAc := hide (HAc.out.later hbd); clear hbd; have k0 := HPc.out.cell 0 _ rfl; have k1 := HPc.out.cell 1 _ rfl; clear k0 k1))
            clear k0 k1
            go_wp2_with fail
            go_roundw
            case rel => exact ⟨z + 1, by omega, by go_num, HBc.out, HPc.out, HAc.out, fun i hi => by
              by_cases e : i = k * n + z
              · rw [e]; exact HAT.out
              · exact HALLI.out i (by omega)⟩
            case measure => simp [intOf]; omega
          | true =>
            have HTB2 := hide (HT.out.bad HALLI.out HKL.out HAT.out)
            go_wp2_with (go_at_fn F; go_must (refine calls_gen fun wc hwc => ?_; (first | have hbx := drew_below hwc | have hbx := eq_below hwc); replace HBc := hide (HBc.out.trans (hbx.mono HBc.out.size)); replace HPc := hide (HPc.out.later hbx); replace HAc := hide (HAc.out.later hbx); clear hwc hbx; refine (HPF.out _ x y z hxn hyn hltz HBc.out).mono ?_; rw [HBQ.out]; rintro e wd ⟨rfl, hbd⟩; replace HBc := hide (HBc.out.trans (hbd.mono HBc.out.size)); replace HPc := hide (HPc.out.later hbd); replace HAc := hide (HAc.out.later hbd); clear hbd; have k0 := HPc.out.cell 0 _ rfl; have k1 := HPc.out.cell 1 _ rfl; have k2 := fun o => (HPc.out.alloc o).cell 0 _ rfl; have k3 := fun o => (HPc.out.alloc o).cell 1 _ rfl))
            clear k0 k1
            go_wp2_with fail
            refine bp_gen fun wf hwf => ?_
            have HBF : Below w.heap.size w wf := by rw [hwf]; exact HBc.out.alloc HBc.out.size _
            have HLF : Hid (Blk wf wd.heap.size 2 [.int .i64 x, .int .i64 y, .int .i64 z]) := hide (by rw [hwf]; exact Blk.new _ _ _)
            have hlo : w.heap.size ≤ wd.heap.size := HBc.out.size
            clear hwf
            go_ret
            exact .inr ⟨by rw [HTB2.out]; exact HKL.out, _, rfl, HBF, hlo, _, HLF.out, fun i hi => by
              rw [HTB2.out, HTR.out] at hi ⊢
              simp [lst3] at hi
              rcases i with _ | _ | _ | i
              · rfl
              · rfl
              · rfl
              · omega⟩
        · have hzn' : z = n := by omega
          subst hzn'
          go_wp2_with fail
          go_roundw
          case rel => exact ⟨k + 1, by omega, by go_num, HBc.out, HAc.out, fun i hi => HALLI.out i (by rw [Nat.add_mul, Nat.one_mul] at hi; exact hi)⟩
          case measure => simp [intOf]; omega
    · have hkn : k = N := by omega
      subst hkn
      go_wp2_with fail
      go_ret
      exact .inl ⟨HT.out.all (fun i hi => HALL.out i (by rw [HNN.out] at hi; exact hi)), rfl, HB.out⟩
end Go.Proofs.YtelildgngkajnaaDoor
