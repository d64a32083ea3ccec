import Derived.Test.YtngfdkmiifpbgaaDoorZj
import Derived.Test.YtngfdkmiifpbgaaDoorZh
import Derived.Test.YtngfdkmiifpbgaaDoorZb
import Derived.Test.YtngfdkmiifpbgaaDoorZa
import Derived.Laws.BitsLemmas
namespace Go.Proofs.YtngfdkmiifpbgaaDoor
open Go Go.RowKit
def IdF (f : List (List Int)) : Prop := ∀ x, x < f.length → ap f 0 x = x ∧ ap f x 0 = x
def As3 (f : List (List Int)) (x y z : Nat) : Prop := ap f (ap f x y) z = ap f x (ap f y z)
def AsF (f : List (List Int)) : Prop := ∀ x y z, x < f.length → y < f.length → z < f.length → As3 f x y z
def Grp (f : List (List Int)) : Prop := (Tbl f ∧ AllPrm f) ∧ IdF f ∧ AsF f
theorem as_pairs {f : List (List Int)} {n : Nat} (hn : f.length = n) (h : ∀ i, i < n * n → ∀ z, z < n → As3 f (i / n) (i % n) z) : AsF f := by
  intro x y z hx hy hz
  rw [hn] at hx hy hz
  have h1 := h _ (pair_lt n x y hx hy) z hz
  rw [pair_div n x y hy, pair_mod n x y hy] at h1
  exact h1
/-- The inverse. -/
def bk (f : List (List Int)) (x : Nat) : Nat := (f.getD x []).idxOf 0
theorem bk_ok {f : List (List Int)} {n : Nat} (hn : f.length = n) (ht : Tbl f) (hp : AllPrm f) {x : Nat} (hx : x < n) : bk f x < n ∧ ixOf (f.getD x []) 0 = bk f x := by
  have hl : (f.getD x []).length = n := by rw [ht.rows x (by omega), hn]
  have hpx := hp x (by omega)
  have hm : (0 : Int) ∈ f.getD x [] := ((prm_iff _).1 hpx).2.2 0 (by omega) (by rw [hl]; have := ht.1; omega)
  refine ⟨by have := List.idxOf_lt_length_of_mem hm; unfold bk; omega, ?_⟩
  unfold ixOf bk
  rw [if_pos hm]
def coH (f : List (List Int)) : Nat → Nat → Int := fun x y => (ap f (ap f x (bk f y)) x : Nat)
def cjH (f : List (List Int)) : Nat → Nat → Int := fun x y => (ap f (ap f x y) (bk f x) : Nat)
def CoRes (f : List (List Int)) : List (List Int) → Int → Prop := FmRes (Grp f) 1 f.length (coH f)
def CjRes (f : List (List Int)) : List (List Int) → Int → Prop := FmRes (Grp f) 1 f.length (cjH f)
theorem CoRes.ex (f : List (List Int)) : ∃ zs code, CoRes f zs code ∧ zs.length ≤ 1048576 ∧ ∀ i, i < zs.length → (zs.getD i []).length ≤ 1048576 := FmRes.ex _ _ _ _ (fun h => h.1.1.2.1)
theorem CjRes.ex (f : List (List Int)) : ∃ zs code, CjRes f zs code ∧ zs.length ≤ 1048576 ∧ ∀ i, i < zs.length → (zs.getD i []).length ≤ 1048576 := FmRes.ex _ _ _ _ (fun h => h.1.1.2.1)
/-- Products from the left. -/
def tm (f : List (List Int)) (x : Nat) (ys : List Nat) : Nat := ys.foldl (fun a y => ap f a y) x
theorem tm_take (f : List (List Int)) (x : Nat) (ys : List Nat) (k : Nat) (h : k < ys.length) : tm f x (ys.take (k + 1)) = ap f (tm f x (ys.take k)) (ys.getD k 0) := by
  unfold tm
  rw [List.take_succ_eq_append_getElem h, List.foldl_append]
  simp [h]
def natL (ys : List Nat) : List Int := ys.map fun (y : Nat) => (y : Int)
end Go.Proofs.YtngfdkmiifpbgaaDoor
namespace Go.Proofs.YtngfdkmiifpbgaaDoor
open Go Go.RowKit

/-- Element x is in the set. -/
def inb (S x : Nat) : Prop := S.testBit x = true
instance (S x : Nat) : Decidable (inb S x) := inferInstanceAs (Decidable (_ = _))
theorem inb_iff (S x : Nat) : inb S x ↔ S / 2 ^ x % 2 = 1 := by
  unfold inb
  rw [Nat.testBit_eq_decide_div_mod_eq]
  simp
theorem inb_eq {S T : Nat} (h : ∀ x, inb S x ↔ inb T x) : S = T := by
  apply Nat.eq_of_testBit_eq
  intro i
  have h1 := h i
  unfold inb at h1
  cases hs : S.testBit i <;> cases ht : T.testBit i <;> simp_all
theorem inb_zero (x : Nat) : ¬ inb 0 x := by simp [inb]
theorem inb_or (S p x : Nat) : inb (S ||| 2 ^ p) x ↔ inb S x ∨ x = p := by
  unfold inb
  rw [Nat.testBit_or, Nat.testBit_two_pow]
  simp
  constructor
  · rintro (h | h)
    · exact .inl h
    · exact .inr h.symm
  · rintro (h | h)
    · exact .inl h
    · exact .inr h.symm
theorem inb_lt {S x k : Nat} (hS : S < 2 ^ k) (h : inb S x) : x < k := by
  by_cases hx : x < k
  · exact hx
  · have : S.testBit x = false := Nat.testBit_lt_two_pow (Nat.lt_of_lt_of_le hS (Nat.pow_le_pow_right (by decide) (by omega)))
    unfold inb at h
    rw [this] at h
    cases h
theorem set_lt {S k : Nat} (h : ∀ x, inb S x → x < k) : S < 2 ^ k := by
  apply Nat.lt_pow_two_of_testBit
  intro i hi
  by_cases hb : S.testBit i = true
  · exact absurd (h i hb) (by omega)
  · simpa using hb
theorem or_lt {S p k : Nat} (h : S < 2 ^ k) (hp : p < k) : S ||| 2 ^ p < 2 ^ k := Nat.or_lt_two_pow h (Nat.pow_lt_pow_right (by decide) hp)
theorem set_sub_le {S T : Nat} (h : ∀ x, inb S x → inb T x) : S ≤ T := by
  have e : S &&& T = S := by
    apply Nat.eq_of_testBit_eq
    intro i
    rw [Nat.testBit_and]
    cases hs : S.testBit i
    · simp
    · have := h i hs
      unfold inb at this
      simp [this]
  rw [← e]
  exact Nat.and_le_right
theorem bt_shr (S x : Nat) (h : x ≤ 64) : (S : Int) / 2 ^ min x 64 = ((S / 2 ^ x : Nat) : Int) := by
  rw [Nat.min_eq_left h]; simp
theorem bt_one (q : Nat) (h : q < 4611686018427387904) : bits .and .i64 (q : Int) 1 = ((q % 2 : Nat) : Int) := by
  have h1 := (bits_nat .i64 62 (by decide) (fun n h0 h1 => by rw [IntKind.wrap_i64]; omega) q 1 (by simpa using h) (by decide)).1
  rw [show ((1 : Int)) = ((1 : Nat) : Int) by rfl, h1, Nat.and_one_is_mod]
theorem bt_in {S k : Nat} (h : S < 4611686018427387904) (hi : inb S k) : bits .and .i64 ((S : Int) / 2 ^ k) 1 = 1 := by
  have e : (S : Int) / 2 ^ k = ((S / 2 ^ k : Nat) : Int) := by simp
  rw [e, bt_one _ (Nat.lt_of_le_of_lt (Nat.div_le_self _ _) h), (inb_iff S k).1 hi]; rfl
theorem bt_out {S k : Nat} (h : S < 4611686018427387904) (hi : ¬ inb S k) : bits .and .i64 ((S : Int) / 2 ^ k) 1 = 0 := by
  have e : (S : Int) / 2 ^ k = ((S / 2 ^ k : Nat) : Int) := by simp
  have h2 : S / 2 ^ k % 2 = 0 := by
    rcases Nat.mod_two_eq_zero_or_one (S / 2 ^ k) with h2 | h2
    · exact h2
    · exact absurd ((inb_iff S k).2 h2) hi
  rw [e, bt_one _ (Nat.lt_of_le_of_lt (Nat.div_le_self _ _) h), h2]; rfl
theorem bt_or (S p : Nat) (h : S < 4611686018427387904) (hp : p < 4611686018427387904) : bits .or .i64 (S : Int) (p : Int) = ((S ||| p : Nat) : Int) :=
  (bits_nat .i64 62 (by decide) (fun n h0 h1 => by rw [IntKind.wrap_i64]; omega) S p (by simpa using h) (by simpa using hp)).2
theorem bt_shl (x : Nat) (h : x ≤ 64) : (2 : Int) ^ min x 64 = ((2 ^ x : Nat) : Int) := by
  rw [Nat.min_eq_left h]; simp

/-- A set that has x > y with any two of its elements. -/
def ClosedF (f : List (List Int)) (S : Nat) : Prop := ∀ x y, inb S x → inb S y → inb S (ap f x y)
/-- The set with all x > y. -/
def GrF (f : List (List Int)) (S V : Nat) : Prop := ∀ t, inb V t ↔ inb S t ∨ ∃ x y, inb S x ∧ inb S y ∧ ap f x y = t
theorem GrF.closed {f : List (List Int)} {S V : Nat} (h : GrF f S V) : V = S ↔ ClosedF f S := by
  constructor
  · rintro rfl x y hx hy
    exact (h _).2 (.inr ⟨x, y, hx, hy, rfl⟩)
  · intro hc
    apply inb_eq
    intro t
    rw [h t]
    constructor
    · rintro (h1 | ⟨x, y, hx, hy, rfl⟩)
      · exact h1
      · exact hc x y hx hy
    · exact .inl
/-- The elements of a set, in ascending order. -/
def mems (k S : Nat) : List Nat := (List.range k).filter fun x => S.testBit x
theorem mems_mem (k S x : Nat) : x ∈ mems k S ↔ x < k ∧ inb S x := by simp [mems, inb]
theorem mems_succ (k S : Nat) : mems (k + 1) S = if inb S k then mems k S ++ [k] else mems k S := by
  unfold mems
  rw [List.range_succ, List.filter_append]
  by_cases h : inb S k
  · have h2 : S.testBit k = true := h
    rw [if_pos h]; simp [h2]
  · have h2 : S.testBit k = false := by simpa [inb] using h
    rw [if_neg h]; simp [h2]
theorem mems_length (k S : Nat) : (mems k S).length ≤ k := by
  unfold mems
  have := List.length_filter_le (fun x => S.testBit x) (List.range k)
  simpa using this
theorem mems_more {S k : Nat} (hS : S < 2 ^ k) (j : Nat) (h : k ≤ j) : mems j S = mems k S := by
  induction j with
  | zero => have : k = 0 := by omega
            subst this; rfl
  | succ j ih =>
    by_cases e : k = j + 1
    · rw [e]
    · rw [mems_succ, if_neg (fun h2 => by have := inb_lt hS h2; omega), ih (by omega)]
def memL (k S : Nat) : List Int := (mems k S).map fun (x : Nat) => (x : Int)
theorem memL_length (k S : Nat) : (memL k S).length = (mems k S).length := by simp [memL]
theorem memL_getD (k S i : Nat) (h : i < (mems k S).length) : (memL k S).getD i 0 = ((mems k S).getD i 0 : Nat) := by simp [memL, h]
theorem memL_succ (k S : Nat) : ints (memL (k + 1) S) = if inb S k then ints (memL k S) ++ [.int .i64 k] else ints (memL k S) := by
  unfold memL
  rw [mems_succ]
  split
  · simp [ints]
  · rfl
end Go.Proofs.YtngfdkmiifpbgaaDoor
namespace Go.Proofs.YtngfdkmiifpbgaaDoor
open Go Go.RowKit
open Classical
/-! Classes numbered by their least elements, and what CongruenceFrom answers. -/
/-- The classes among the first k elements, each at its first one. -/
noncomputable def firstsL (L : List Int) : Nat → List Int
  | 0 => []
  | k + 1 => if lb L k ∈ firstsL L k then firstsL L k else firstsL L k ++ [lb L k]
noncomputable def numTo (L : List Int) (k : Nat) : List Int := (List.range k).map fun (x : Nat) => ixOf (firstsL L (x + 1)) (lb L x)
noncomputable def numL (L : List Int) : List Int := numTo L L.length
theorem numTo_length (L : List Int) (k : Nat) : (numTo L k).length = k := by simp [numTo]
theorem numL_length (L : List Int) : (numL L).length = L.length := numTo_length L _
theorem numTo_succ (L : List Int) (k : Nat) : numTo L (k + 1) = numTo L k ++ [ixOf (firstsL L (k + 1)) (lb L k)] := by simp [numTo, List.range_succ]
/-- The places of the first elements, the same for all ways to write the classes. -/
noncomputable def posL (L : List Int) : Nat → List Nat
  | 0 => []
  | k + 1 => if lb L k ∈ (posL L k).map (lb L) then posL L k else posL L k ++ [k]
theorem firsts_pos (L : List Int) (k : Nat) : firstsL L k = (posL L k).map (lb L) := by
  induction k with
  | zero => rfl
  | succ k ih =>
    unfold firstsL posL
    rw [ih]
    by_cases h : lb L k ∈ (posL L k).map (lb L)
    · rw [if_pos h, if_pos h]
    · rw [if_neg h, if_neg h]; simp
theorem posL_lt (L : List Int) (k : Nat) : ∀ p, p ∈ posL L k → p < k := by
  induction k with
  | zero => intro p hp; simp [posL] at hp
  | succ k ih =>
    intro p hp
    unfold posL at hp
    by_cases h : lb L k ∈ (posL L k).map (lb L)
    · rw [if_pos h] at hp; have := ih p hp; omega
    · rw [if_neg h] at hp
      rcases List.mem_append.1 hp with h1 | h1
      · have := ih p h1; omega
      · simp at h1; omega
theorem posL_same {L L' : List Int} {n : Nat} (h : ∀ a b, a < n → b < n → (lb L a = lb L b ↔ lb L' a = lb L' b)) (k : Nat) (hk : k ≤ n) : posL L k = posL L' k := by
  induction k with
  | zero => rfl
  | succ k ih =>
    have e := ih (by omega)
    unfold posL
    rw [e]
    have hm : lb L k ∈ (posL L' k).map (lb L) ↔ lb L' k ∈ (posL L' k).map (lb L') := by
      simp only [List.mem_map]
      constructor
      · rintro ⟨p, hp, e⟩; have := posL_lt L' k p hp; exact ⟨p, hp, (h p k (by omega) (by omega)).1 e⟩
      · rintro ⟨p, hp, e⟩; have := posL_lt L' k p hp; exact ⟨p, hp, (h p k (by omega) (by omega)).2 e⟩
    by_cases h1 : lb L k ∈ (posL L' k).map (lb L)
    · rw [if_pos h1, if_pos (hm.1 h1)]
    · rw [if_neg h1, if_neg (fun h2 => h1 (hm.2 h2))]
theorem ix_cons (a v : Int) (xs : List Int) : ixOf (a :: xs) v = if a = v then 0 else if ixOf xs v = -1 then -1 else ixOf xs v + 1 := by
  by_cases e : a = v
  · subst e
    rw [if_pos rfl]
    unfold ixOf
    simp
  · rw [if_neg e]
    unfold ixOf
    by_cases hm : v ∈ xs
    · rw [if_pos hm, if_pos (List.mem_cons_of_mem _ hm), if_neg (by omega), List.idxOf_cons, show (a == v) = false by simpa using e]
      simp
    · rw [if_neg hm, if_neg (by simp [hm]; exact fun h => e h.symm), if_pos rfl]
theorem ix_map {g g' : Nat → Int} {x : Nat} (ps : List Nat) (h : ∀ p, p ∈ ps → (g p = g x ↔ g' p = g' x)) : ixOf (ps.map g) (g x) = ixOf (ps.map g') (g' x) := by
  induction ps with
  | nil => simp [ixOf]
  | cons p ps ih =>
    have h1 := h p (by simp)
    rw [List.map_cons, List.map_cons, ix_cons, ix_cons, ih fun q hq => h q (List.mem_cons_of_mem _ hq)]
    by_cases e : g p = g x
    · rw [if_pos e, if_pos (h1.1 e)]
    · rw [if_neg e, if_neg fun e2 => e (h1.2 e2)]
theorem numL_same {L L' : List Int} {n : Nat} (hl : L.length = n) (hl' : L'.length = n) (h : ∀ a b, a < n → b < n → (lb L a = lb L b ↔ lb L' a = lb L' b)) : numL L = numL L' := by
  unfold numL numTo
  rw [hl, hl']
  apply List.map_congr_left
  intro x hx
  have hx' : x < n := List.mem_range.1 hx
  rw [firsts_pos, firsts_pos, posL_same h (x + 1) (by omega)]
  exact ix_map _ fun p hp => h p x (by have := posL_lt L' (x + 1) p hp; omega) hx'
/-- The class of an element, written by one of its elements. -/
noncomputable def cgRep (f : List (List Int)) (n x y a : Nat) : Nat := Classical.epsilon fun b => CgE f n x y a b
theorem cgRep_in (f : List (List Int)) (n x y a : Nat) : CgE f n x y a (cgRep f n x y a) := Classical.epsilon_spec (p := fun b => CgE f n x y a b) ⟨a, .refl a⟩
theorem cgRep_eq {f : List (List Int)} {n x y a b : Nat} : cgRep f n x y a = cgRep f n x y b ↔ CgE f n x y a b := by
  constructor
  · intro e
    have h := cgRep_in f n x y b
    rw [← e] at h
    exact (cgRep_in f n x y a).trans h.symm
  · intro e
    unfold cgRep
    have : (fun c => CgE f n x y a c) = fun c => CgE f n x y b c := funext fun c => propext ⟨fun h => e.symm.trans h, fun h => e.trans h⟩
    rw [this]
/-- The classes of the least congruence. -/
noncomputable def cgC (f : List (List Int)) (n x y : Nat) : List Int := (List.range n).map fun (a : Nat) => ((cgRep f n x y a : Nat) : Int)
theorem cgC_at (f : List (List Int)) (n x y : Nat) {a : Nat} (h : a < n) : lb (cgC f n x y) a = ((cgRep f n x y a : Nat) : Int) := by simp [lb, cgC, h]
theorem cgC_eq {f : List (List Int)} {n x y a b : Nat} (ha : a < n) (hb : b < n) : lb (cgC f n x y) a = lb (cgC f n x y) b ↔ CgE f n x y a b := by
  rw [cgC_at f n x y ha, cgC_at f n x y hb, ← cgRep_eq (f := f) (n := n) (x := x) (y := y) (a := a) (b := b)]
  omega
theorem cgC_length (f : List (List Int)) (n x y : Nat) : (cgC f n x y).length = n := by simp [cgC]
/-- The least congruence with x and y in one class, as a list. -/
noncomputable def cfL (f : List (List Int)) (x y : Nat) : List Int := numL (cgC f f.length x y)
theorem cfL_length (f : List (List Int)) (x y : Nat) : (cfL f x y).length = f.length := by unfold cfL; rw [numL_length, cgC_length]
/-- What the search leaves, numbered, is it. -/
theorem CgS.num {f : List (List Int)} {n x y : Nat} {L : List Int} (hn : f.length = n) (h : CgS f n x y L []) (hx : x < n) (hy : y < n) (hap : ∀ a b, a < n → b < n → ap f a b < n) : numL L = cfL f x y := by
  subst hn
  exact numL_same h.len (cgC_length _ _ _ _) fun a b ha hb => (h.done hx hy hap a b ha hb).trans (cgC_eq ha hb).symm
def CfRes (f : List (List Int)) (x y : Int) (zs : List Int) (code : Int) : Prop :=
  (Rck f ∧ ((0 ≤ x ∧ x < (f.length : Int)) ∧ (0 ≤ y ∧ y < (f.length : Int))) ∧ zs = cfL f x.toNat y.toNat ∧ code = 0) ∨ (Rck f ∧ ¬ ((0 ≤ x ∧ x < (f.length : Int)) ∧ (0 ≤ y ∧ y < (f.length : Int))) ∧ zs = [] ∧ code = 2) ∨ (¬ Rck f ∧ zs = [] ∧ code = 1)
theorem CfRes.ex (f : List (List Int)) (x y : Int) : ∃ zs code, CfRes f x y zs code ∧ zs.length ≤ 1048576 := by
  by_cases h : Rck f
  · by_cases h2 : (0 ≤ x ∧ x < (f.length : Int)) ∧ (0 ≤ y ∧ y < (f.length : Int))
    · exact ⟨_, _, .inl ⟨h, h2, rfl, rfl⟩, by rw [cfL_length]; have := h.tbl.2.1; omega⟩
    · exact ⟨_, _, .inr (.inl ⟨h, h2, rfl, rfl⟩), by simp⟩
  · exact ⟨_, _, .inr (.inr ⟨h, rfl, rfl⟩), by simp⟩
end Go.Proofs.YtngfdkmiifpbgaaDoor
namespace Go.Proofs.YtngfdkmiifpbgaaDoor
open Go Go.RowKit
set_option maxHeartbeats 2000000

set_option maxRecDepth 100000 in
theorem firstTriple_any (F : FuncId) (lb : Array Value) (n : Nat) (q : Nat → Nat → Nat → Bool) (T : Nat) (w : World) (eg : ∀ args w, (callFunc F args).run Tryd.prog w = .ok (.enter F args) w) (h1 : 1 ≤ n) (h12 : n ≤ 12) (hp : BoolFn3 Tryd.prog F lb n q w) (hT : FirstQ q n T) :
    Calls Tryd.prog 44 #[.int .i64 n, .func (.func F) #[] lb] w fun e w' => (T = n * n * n ∧ e = .returned (.slice none 0 0) ∧ Below w.heap.size w w') ∨ (T < n * n * n ∧ ∃ g, e = .returned (.slice (some ⟨g, 0, none⟩) 3 3) ∧ Below w.heap.size w w' ∧ w.heap.size ≤ g ∧ OwnB 2 w' g (lst3 (trip n T))) := by
  have HPF := hide hp
  have HT := hide hT
  obtain ⟨N, hN⟩ : ∃ N, n * n = N := ⟨_, rfl⟩
  have hN144 : N ≤ 144 := by rw [← hN]; exact sq_le n h12
  have HNN := hide hN
  clear hT hN hp
  go_enter Tryd.func44, Tryd.ntmps44
  go_wp2_with fail
  refine (pairsOf_any n N _ h1 h12 HNN.out).mono ?_
  rintro e w3 ⟨g, rfl, hb3, hg3, hpa⟩
  have HB3 := hide hb3
  have HPA3 := hide hpa
  clear hb3 hpa
  go_wp2_with fail
  go_loopw [11] (fun i wr => ∃ k : Nat, k ≤ N ∧ i = .int .i64 k ∧ Below w.heap.size w wr ∧ PairsAt wr g n ∧ ∀ i, i < k * n → qAt q n i = false) (fun i _ => N - (intOf i).toNat)
  case atStart => exact ⟨0, Nat.zero_le _, rfl, HB3.out, HPA3.out, fun i hi => absurd hi (by omega)⟩
  case round =>
    obtain ⟨k, hk, rfl, hbe, hpa, hall⟩ := hrel
    have HB := hide hbe
    have HPA := hide hpa
    have HALL := hide hall
    clear hbe hpa hall
    by_cases hlt : k < N
    · have hkz : (k : Int) < N := by omega
      obtain ⟨p0, p1⟩ := HPA.out.2 k (by rw [HNN.out]; exact hlt)
      have hxn : k / n < n := div_lt_sq (by rw [HNN.out]; exact hlt)
      have hyn : k % n < n := mod_lt_sq (by rw [HNN.out]; exact hlt)
      obtain ⟨x, hx⟩ : ∃ x, k / n = x := ⟨_, rfl⟩
      obtain ⟨y, hy⟩ : ∃ y, k % n = y := ⟨_, rfl⟩
      rw [hx] at p0 hxn
      rw [hy] at p1 hyn
      have HX := hide hx
      have HY := hide hy
      clear hx hy
      go_wp2_with fail
      refine wp_gen fun w4 hw4 => ?_
      obtain ⟨P, hPe⟩ : ∃ P, wr.heap.size = P := ⟨_, rfl⟩
      have HB4 : Hid (Below w.heap.size w w4) := hide (by rw [hw4]; exact HB.out.alloc HB.out.size _)
      have HP4 : Hid (Blk w4 P 67 [.int .i64 x, .int .i64 y]) := hide (by rw [hw4, ← hPe]; exact Blk.new _ _ _)
      have HA4 : Hid (PairsAt w4 g n) := hide (by rw [hw4]; exact HPA.out.later ((Below.refl _ _).alloc (Nat.le_refl _) _))
      rw [hPe]
      clear hw4 p0 p1 hPe
      go_loopw [16] (fun i wi => ∃ z : Nat, z ≤ n ∧ i = .int .i64 z ∧ Below w.heap.size w wi ∧ Blk wi P 67 [.int .i64 x, .int .i64 y] ∧ PairsAt wi g n ∧ ∀ i, i < k * n + z → qAt q n i = false) (fun i _ => n - (intOf i).toNat)
      case atStart => exact ⟨0, Nat.zero_le _, rfl, HB4.out, HP4.out, HA4.out, HALL.out⟩
      case round =>
        obtain ⟨z, hzn, rfl, hbe, hpp, hpa, hall⟩ := hrel
        have HBc := hide hbe
        have HPc := hide hpp
        have HAc := hide hpa
        have HALLI := hide hall
        clear hbe hpp hpa hall
        by_cases hltz : z < n
        · have hzz : (z : Int) < n := by omega
          have hklt : k * n + z < n * n * n := by
            have h := trip_lt (n := n) hxn hyn hltz
            rw [← HX.out, ← HY.out, pair_eta] at h
            exact h
          have hat : qAt q n (k * n + z) = q x y z := by
            have h := qAt_at (q := q) (n := n) (x := x) hyn hltz
            rw [← HX.out, ← HY.out, pair_eta] at h
            rw [← HX.out, ← HY.out]
            exact h
          have htr : trip n (k * n + z) = (x, y, z) := by
            have h := trip_of (n := n) (x := x) hyn hltz
            rw [← HX.out, ← HY.out, pair_eta, HX.out, HY.out] at h
            exact h
          have HTR := hide htr
          have HKL := hide hklt
          clear htr hklt
          obtain ⟨bq, hbq⟩ : ∃ b, q x y z = b := ⟨_, rfl⟩
          rw [hbq] at hat
          have HAT := hide hat
          have HBQ := hide hbq
          clear hat hbq
          have k0 := HPc.out.cell 0 _ rfl
          have k1 := HPc.out.cell 1 _ rfl
          cases bq with
          | false =>
            go_wp2_with (go_at_fn F; go_must (refine calls_gen fun wc hwc => ?_; (first | have hbx := drew_below hwc | have hbx := eq_below hwc); replace HBc := hide (HBc.out.trans (hbx.mono HBc.out.size)); replace HPc := hide (HPc.out.later hbx); replace HAc := hide (HAc.out.later hbx); clear hwc hbx; refine (HPF.out _ x y z hxn hyn hltz HBc.out).mono ?_; rw [HBQ.out]; rintro e wd ⟨rfl, hbd⟩; replace HBc := hide (HBc.out.trans (hbd.mono HBc.out.size)); replace HPc := hide (HPc.out.later hbd); replace HAc := hide (HAc.out.later hbd); clear hbd; have k0 := HPc.out.cell 0 _ rfl; have k1 := HPc.out.cell 1 _ rfl; clear k0 k1))
            clear k0 k1
            go_wp2_with fail
            go_roundw
            case rel => exact ⟨z + 1, by omega, by go_num, HBc.out, HPc.out, HAc.out, fun i hi => by
              by_cases e : i = k * n + z
              · rw [e]; exact HAT.out
              · exact HALLI.out i (by omega)⟩
            case measure => simp [intOf]; omega
          | true =>
            have HTB2 := hide (HT.out.bad HALLI.out HKL.out HAT.out)
            go_wp2_with (go_at_fn F; go_must (refine calls_gen fun wc hwc => ?_; (first | have hbx := drew_below hwc | have hbx := eq_below hwc); replace HBc := hide (HBc.out.trans (hbx.mono HBc.out.size)); replace HPc := hide (HPc.out.later hbx); replace HAc := hide (HAc.out.later hbx); clear hwc hbx; refine (HPF.out _ x y z hxn hyn hltz HBc.out).mono ?_; rw [HBQ.out]; rintro e wd ⟨rfl, hbd⟩; replace HBc := hide (HBc.out.trans (hbd.mono HBc.out.size)); replace HPc := hide (HPc.out.later hbd); replace HAc := hide (HAc.out.later hbd); clear hbd; have k0 := HPc.out.cell 0 _ rfl; have k1 := HPc.out.cell 1 _ rfl; have k2 := fun o => (HPc.out.alloc o).cell 0 _ rfl; have k3 := fun o => (HPc.out.alloc o).cell 1 _ rfl))
            clear k0 k1
            go_wp2_with fail
            refine bp_gen fun wf hwf => ?_
            have HBF : Below w.heap.size w wf := by rw [hwf]; exact HBc.out.alloc HBc.out.size _
            have HLF : Hid (Blk wf wd.heap.size 2 [.int .i64 x, .int .i64 y, .int .i64 z]) := hide (by rw [hwf]; exact Blk.new _ _ _)
            have hlo : w.heap.size ≤ wd.heap.size := HBc.out.size
            clear hwf
            go_ret
            exact .inr ⟨by rw [HTB2.out]; exact HKL.out, _, rfl, HBF, hlo, _, HLF.out, fun i hi => by
              rw [HTB2.out, HTR.out] at hi ⊢
              simp [lst3] at hi
              rcases i with _ | _ | _ | i
              · rfl
              · rfl
              · rfl
              · omega⟩
        · have hzn' : z = n := by omega
          subst hzn'
          go_wp2_with fail
          go_roundw
          case rel => exact ⟨k + 1, by omega, by go_num, HBc.out, HAc.out, fun i hi => HALLI.out i (by rw [Nat.add_mul, Nat.one_mul] at hi; exact hi)⟩
          case measure => simp [intOf]; omega
    · have hkn : k = N := by omega
      subst hkn
      go_wp2_with fail
      go_ret
      exact .inl ⟨HT.out.all (fun i hi => HALL.out i (by rw [HNN.out] at hi; exact hi)), rfl, HB.out⟩
end Go.Proofs.YtngfdkmiifpbgaaDoor
