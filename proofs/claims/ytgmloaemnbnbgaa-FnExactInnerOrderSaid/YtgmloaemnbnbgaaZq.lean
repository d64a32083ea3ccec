import Derived.Test.YtgmloaemnbnbgaaZj
import Derived.Test.YtgmloaemnbnbgaaZn
import Derived.Test.YtgmloaemnbnbgaaZb
import Derived.Test.YtgmloaemnbnbgaaZl
import Derived.Test.YtgmloaemnbnbgaaZa
import Derived.Test.YtgmloaemnbnbgaaZe
namespace Go.Proofs.Ytgmloaemnbnbgaa
open Go Go.RowKit
open Classical
/-! Classes numbered by their least elements, and what CongruenceFrom answers. -/
/-- The classes among the first k elements, each at its first one. -/
noncomputable def firstsL (L : List Int) : Nat → List Int
  | 0 => []
  | k + 1 => if lb L k ∈ firstsL L k then firstsL L k else firstsL L k ++ [lb L k]
noncomputable def numTo (L : List Int) (k : Nat) : List Int := (List.range k).map fun (x : Nat) => ixOf (firstsL L (x + 1)) (lb L x)
noncomputable def numL (L : List Int) : List Int := numTo L L.length
theorem numTo_length (L : List Int) (k : Nat) : (numTo L k).length = k := by simp [numTo]
theorem numL_length (L : List Int) : (numL L).length = L.length := numTo_length L _
theorem numTo_succ (L : List Int) (k : Nat) : numTo L (k + 1) = numTo L k ++ [ixOf (firstsL L (k + 1)) (lb L k)] := by simp [numTo, List.range_succ]
/-- The places of the first elements, the same for all ways to write the classes. -/
noncomputable def posL (L : List Int) : Nat → List Nat
  | 0 => []
  | k + 1 => if lb L k ∈ (posL L k).map (lb L) then posL L k else posL L k ++ [k]
theorem firsts_pos (L : List Int) (k : Nat) : firstsL L k = (posL L k).map (lb L) := by
  induction k with
  | zero => rfl
  | succ k ih =>
    unfold firstsL posL
    rw [ih]
    by_cases h : lb L k ∈ (posL L k).map (lb L)
    · rw [if_pos h, if_pos h]
    · rw [if_neg h, if_neg h]; simp
theorem posL_lt (L : List Int) (k : Nat) : ∀ p, p ∈ posL L k → p < k := by
  induction k with
  | zero => intro p hp; simp [posL] at hp
  | succ k ih =>
    intro p hp
    unfold posL at hp
    by_cases h : lb L k ∈ (posL L k).map (lb L)
    · rw [if_pos h] at hp; have := ih p hp; omega
    · rw [if_neg h] at hp
      rcases List.mem_append.1 hp with h1 | h1
      · have := ih p h1; omega
      · simp at h1; omega
theorem posL_same {L L' : List Int} {n : Nat} (h : ∀ a b, a < n → b < n → (lb L a = lb L b ↔ lb L' a = lb L' b)) (k : Nat) (hk : k ≤ n) : posL L k = posL L' k := by
  induction k with
  | zero => rfl
  | succ k ih =>
    have e := ih (by omega)
    unfold posL
    rw [e]
    have hm : lb L k ∈ (posL L' k).map (lb L) ↔ lb L' k ∈ (posL L' k).map (lb L') := by
      simp only [List.mem_map]
      constructor
      · rintro ⟨p, hp, e⟩; have := posL_lt L' k p hp; exact ⟨p, hp, (h p k (by omega) (by omega)).1 e⟩
      · rintro ⟨p, hp, e⟩; have := posL_lt L' k p hp; exact ⟨p, hp, (h p k (by omega) (by omega)).2 e⟩
    by_cases h1 : lb L k ∈ (posL L' k).map (lb L)
    · rw [if_pos h1, if_pos (hm.1 h1)]
    · rw [if_neg h1, if_neg (fun h2 => h1 (hm.2 h2))]
theorem ix_cons (a v : Int) (xs : List Int) : ixOf (a :: xs) v = if a = v then 0 else if ixOf xs v = -1 then -1 else ixOf xs v + 1 := by
  by_cases e : a = v
  · subst e
    rw [if_pos rfl]
    unfold ixOf
    simp
  · rw [if_neg e]
    unfold ixOf
    by_cases hm : v ∈ xs
    · rw [if_pos hm, if_pos (List.mem_cons_of_mem _ hm), if_neg (by omega), List.idxOf_cons, show (a == v) = false by simpa using e]
      simp
    · rw [if_neg hm, if_neg (by simp [hm]; exact fun h => e h.symm), if_pos rfl]
theorem ix_map {g g' : Nat → Int} {x : Nat} (ps : List Nat) (h : ∀ p, p ∈ ps → (g p = g x ↔ g' p = g' x)) : ixOf (ps.map g) (g x) = ixOf (ps.map g') (g' x) := by
  induction ps with
  | nil => simp [ixOf]
  | cons p ps ih =>
    have h1 := h p (by simp)
    rw [List.map_cons, List.map_cons, ix_cons, ix_cons, ih fun q hq => h q (List.mem_cons_of_mem _ hq)]
    by_cases e : g p = g x
    · rw [if_pos e, if_pos (h1.1 e)]
    · rw [if_neg e, if_neg fun e2 => e (h1.2 e2)]
theorem numL_same {L L' : List Int} {n : Nat} (hl : L.length = n) (hl' : L'.length = n) (h : ∀ a b, a < n → b < n → (lb L a = lb L b ↔ lb L' a = lb L' b)) : numL L = numL L' := by
  unfold numL numTo
  rw [hl, hl']
  apply List.map_congr_left
  intro x hx
  have hx' : x < n := List.mem_range.1 hx
  rw [firsts_pos, firsts_pos, posL_same h (x + 1) (by omega)]
  exact ix_map _ fun p hp => h p x (by have := posL_lt L' (x + 1) p hp; omega) hx'
/-- The class of an element, written by one of its elements. -/
noncomputable def cgRep (f : List (List Int)) (n x y a : Nat) : Nat := Classical.epsilon fun b => CgE f n x y a b
theorem cgRep_in (f : List (List Int)) (n x y a : Nat) : CgE f n x y a (cgRep f n x y a) := Classical.epsilon_spec (p := fun b => CgE f n x y a b) ⟨a, .refl a⟩
theorem cgRep_eq {f : List (List Int)} {n x y a b : Nat} : cgRep f n x y a = cgRep f n x y b ↔ CgE f n x y a b := by
  constructor
  · intro e
    have h := cgRep_in f n x y b
    rw [← e] at h
    exact (cgRep_in f n x y a).trans h.symm
  · intro e
    unfold cgRep
    have : (fun c => CgE f n x y a c) = fun c => CgE f n x y b c := funext fun c => propext ⟨fun h => e.symm.trans h, fun h => e.trans h⟩
    rw [this]
/-- The classes of the least congruence. -/
noncomputable def cgC (f : List (List Int)) (n x y : Nat) : List Int := (List.range n).map fun (a : Nat) => ((cgRep f n x y a : Nat) : Int)
theorem cgC_at (f : List (List Int)) (n x y : Nat) {a : Nat} (h : a < n) : lb (cgC f n x y) a = ((cgRep f n x y a : Nat) : Int) := by simp [lb, cgC, h]
theorem cgC_eq {f : List (List Int)} {n x y a b : Nat} (ha : a < n) (hb : b < n) : lb (cgC f n x y) a = lb (cgC f n x y) b ↔ CgE f n x y a b := by
  rw [cgC_at f n x y ha, cgC_at f n x y hb, ← cgRep_eq (f := f) (n := n) (x := x) (y := y) (a := a) (b := b)]
  omega
theorem cgC_length (f : List (List Int)) (n x y : Nat) : (cgC f n x y).length = n := by simp [cgC]
/-- The least congruence with x and y in one class, as a list. -/
noncomputable def cfL (f : List (List Int)) (x y : Nat) : List Int := numL (cgC f f.length x y)
theorem cfL_length (f : List (List Int)) (x y : Nat) : (cfL f x y).length = f.length := by unfold cfL; rw [numL_length, cgC_length]
/-- What the search leaves, numbered, is it. -/
theorem CgS.num {f : List (List Int)} {n x y : Nat} {L : List Int} (hn : f.length = n) (h : CgS f n x y L []) (hx : x < n) (hy : y < n) (hap : ∀ a b, a < n → b < n → ap f a b < n) : numL L = cfL f x y := by
  subst hn
  exact numL_same h.len (cgC_length _ _ _ _) fun a b ha hb => (h.done hx hy hap a b ha hb).trans (cgC_eq ha hb).symm
def CfRes (f : List (List Int)) (x y : Int) (zs : List Int) (code : Int) : Prop :=
  (Rck f ∧ ((0 ≤ x ∧ x < (f.length : Int)) ∧ (0 ≤ y ∧ y < (f.length : Int))) ∧ zs = cfL f x.toNat y.toNat ∧ code = 0) ∨ (Rck f ∧ ¬ ((0 ≤ x ∧ x < (f.length : Int)) ∧ (0 ≤ y ∧ y < (f.length : Int))) ∧ zs = [] ∧ code = 2) ∨ (¬ Rck f ∧ zs = [] ∧ code = 1)
theorem CfRes.ex (f : List (List Int)) (x y : Int) : ∃ zs code, CfRes f x y zs code ∧ zs.length ≤ 1048576 := by
  by_cases h : Rck f
  · by_cases h2 : (0 ≤ x ∧ x < (f.length : Int)) ∧ (0 ≤ y ∧ y < (f.length : Int))
    · exact ⟨_, _, .inl ⟨h, h2, rfl, rfl⟩, by rw [cfL_length]; have := h.tbl.2.1; omega⟩
    · exact ⟨_, _, .inr (.inl ⟨h, h2, rfl, rfl⟩), by simp⟩
  · exact ⟨_, _, .inr (.inr ⟨h, rfl, rfl⟩), by simp⟩
end Go.Proofs.Ytgmloaemnbnbgaa
namespace Go.Proofs.Ytgmloaemnbnbgaa
open Go Go.RowKit
def RkOrb (f : List (List Int)) (zs : List Int) (code : Int) : Prop := (Rck f ∧ zs = labL f f.length f.length ∧ code = 0) ∨ (¬ Rck f ∧ zs = [] ∧ code = 1)
theorem Rck.sys {f : List (List Int)} {n : Nat} (h : Rck f) (hn : f.length = n) : Sys (n : Int) f := by
  have h1 := h.tbl.1
  have h2 := h.tbl.2.1
  refine ⟨by omega, by omega, by omega, fun i hi => ⟨?_, h.prm i hi⟩⟩
  rw [h.tbl.rows i hi, hn]
theorem RkOrb.ex (f : List (List Int)) : ∃ zs code, RkOrb f zs code ∧ zs.length ≤ 1048576 := by
  by_cases h : Rck f
  · exact ⟨_, _, .inl ⟨h, rfl, rfl⟩, by rw [labL_length]; have := h.tbl.2.1; omega⟩
  · exact ⟨_, _, .inr ⟨h, rfl, rfl⟩, by simp⟩
end Go.Proofs.Ytgmloaemnbnbgaa
namespace Go.Proofs.Ytgmloaemnbnbgaa
open Go Go.RowKit
set_option maxHeartbeats 1000000
/-- The number of the pair that is led to (x, y). -/
def bk (f s : List (List Int)) (n x y : Nat) : Nat := ((List.range (n * n)).find? (fun k => decide (ledK f s n k = (x, y)))).getD 0
theorem led_lt {f s : List (List Int)} {n : Nat} (hp : PMap f s) (hn : f.length = n) {k : Nat} (hk : k < n * n) : (ledK f s n k).1 < n ∧ (ledK f s n k).2 < n := by
  have hn0 : 0 < n := by rcases Nat.eq_zero_or_pos n with e | e; (subst e; simp at hk); exact e
  have hx : k / n < n := Nat.div_lt_of_lt_mul hk
  have hy : k % n < n := Nat.mod_lt _ hn0
  exact ⟨hp.1.ap_lt hn hx hy, hp.2.1.ap_lt (by rw [← hp.2.2]; exact hn) hx hy⟩
theorem bk_led {f s : List (List Int)} {n : Nat} (hc : NoCol f s n) {k x y : Nat} (hk : k < n * n) (h : ledK f s n k = (x, y)) : bk f s n x y = k := by
  unfold bk
  cases e : (List.range (n * n)).find? (fun k => decide (ledK f s n k = (x, y))) with
  | none =>
    rw [List.find?_eq_none] at e
    exact absurd h (by simpa using e k (List.mem_range.2 hk))
  | some j =>
    have h1 := List.find?_some e
    have h2 := List.mem_range.1 (List.mem_of_find?_eq_some e)
    simp at h1
    show j = k
    refine Classical.byContradiction (fun hne => hc j k h2 hk hne ?_)
    rw [h1, h]
theorem bk_spec {f s : List (List Int)} {n : Nat} (hp : PMap f s) (hn : f.length = n) (hc : NoCol f s n) {x y : Nat} (hx : x < n) (hy : y < n) : bk f s n x y < n * n ∧ ledK f s n (bk f s n x y) = (x, y) := by
  have hnd : ((List.range (n * n)).map fun k => (ledK f s n k).1 * n + (ledK f s n k).2).Nodup := by
    rw [List.nodup_iff_pairwise_ne, List.pairwise_map]
    refine List.Pairwise.imp_of_mem ?_ List.pairwise_lt_range
    intro a b ha hb hab e
    have ha := List.mem_range.1 ha
    have hb := List.mem_range.1 hb
    have la := led_lt hp hn ha
    have lb := led_lt hp hn hb
    refine hc a b ha hb (by omega) ?_
    have e1 : ((ledK f s n a).1 * n + (ledK f s n a).2) / n = (ledK f s n a).1 := pair_div n _ _ la.2
    have e2 : ((ledK f s n b).1 * n + (ledK f s n b).2) / n = (ledK f s n b).1 := pair_div n _ _ lb.2
    have e3 : ((ledK f s n a).1 * n + (ledK f s n a).2) % n = (ledK f s n a).2 := pair_mod n _ _ la.2
    have e4 : ((ledK f s n b).1 * n + (ledK f s n b).2) % n = (ledK f s n b).2 := pair_mod n _ _ lb.2
    rw [e] at e1 e3
    exact Prod.ext (e1.symm.trans e2) (e3.symm.trans e4)
  have hrow : ∀ a b, a < n → b < n → a * n + b < n * n := fun a b ha hb => by
    have h9 := Nat.mul_le_mul_right n (show a + 1 ≤ n from ha)
    rw [Nat.add_mul, Nat.one_mul] at h9
    omega
  obtain ⟨l, hl⟩ := subset_perm _ (List.range (n * n)) hnd (fun a ha => by
    obtain ⟨k, hk, e⟩ := List.mem_map.1 ha
    have hk := List.mem_range.1 hk
    have la := led_lt hp hn hk
    rw [← e]
    exact List.mem_range.2 (hrow _ _ la.1 la.2))
  have hll := hl.length_eq
  simp at hll
  subst hll
  have hm : x * n + y ∈ ((List.range (n * n)).map fun k => (ledK f s n k).1 * n + (ledK f s n k).2) := by
    have h := hl.mem_iff.1 (List.mem_range.2 (hrow x y hx hy))
    simpa using h
  obtain ⟨k, hk, e⟩ := List.mem_map.1 hm
  have hk := List.mem_range.1 hk
  have la := led_lt hp hn hk
  have e1 : ((ledK f s n k).1 * n + (ledK f s n k).2) / n = (ledK f s n k).1 := pair_div n _ _ la.2
  have e3 : ((ledK f s n k).1 * n + (ledK f s n k).2) % n = (ledK f s n k).2 := pair_mod n _ _ la.2
  rw [e, pair_div n x y hy] at e1
  rw [e, pair_mod n x y hy] at e3
  have hxy : ledK f s n k = (x, y) := Prod.ext e1.symm e3.symm
  rw [bk_led hc hk hxy]
  exact ⟨hk, hxy⟩
def bk1 (f s : List (List Int)) (n : Nat) : Nat → Nat → Int := fun x y => ((bk f s n x y / n : Nat) : Int)
def bk2 (f s : List (List Int)) (n : Nat) : Nat → Nat → Int := fun x y => ((bk f s n x y % n : Nat) : Int)
def BkRes (f s : List (List Int)) : List (List Int) → List (List Int) → Int → Prop := GRes (SolF f s) f.length (bk1 f s f.length) (bk2 f s f.length) 1
theorem BkRes.ex (f s : List (List Int)) : ∃ zf zg code, BkRes f s zf zg code ∧ ZSz 1048576 zf zf.length zg zg.length := GRes.ex _ _ _ _ _ (fun h => by have := h.1.1.2.1; omega)
end Go.Proofs.Ytgmloaemnbnbgaa
namespace Go.Proofs.Ytgmloaemnbnbgaa
open Go Go.RowKit
open Classical

/-- What the specification has when the labels below o are done for a number of elements z. -/
noncomputable def spO (f : Nat → Int) (n z : Nat) (o : Nat) : List Int := (List.range o).flatMap fun a => if cnt f n a = z then [(z : Int)] else []
noncomputable def spZ (f : Nat → Int) (n G : Nat) (z : Nat) : List Int := (List.range z).flatMap fun a => spO f n (a + 1) G
theorem spO_next (f : Nat → Int) (n z o : Nat) : spO f n z (o + 1) = spO f n z o ++ (if cnt f n o = z then [(z : Int)] else []) := by
  unfold spO
  rw [List.range_succ, List.flatMap_append]
  simp
theorem spZ_next (f : Nat → Int) (n G z : Nat) : spZ f n G (z + 1) = spZ f n G z ++ spO f n (z + 1) G := by
  unfold spZ
  rw [List.range_succ, List.flatMap_append]
  simp
theorem spO_all (f : Nat → Int) (n z o : Nat) : ∀ x ∈ spO f n z o, x = (z : Int) := by
  induction o with
  | zero => simp [spO]
  | succ o ih =>
    rw [spO_next]
    intro x hx
    rcases List.mem_append.1 hx with h | h
    · exact ih x h
    · split at h
      · simpa using h
      · simp at h
theorem spO_length (f : Nat → Int) (n z o : Nat) : (spO f n z o).length ≤ o := by
  induction o with
  | zero => simp [spO]
  | succ o ih =>
    rw [spO_next, List.length_append]
    split <;> simp <;> omega
theorem spO_count (f : Nat → Int) (n z o : Nat) (v : Int) : (spO f n z o).count v = if v = (z : Int) then ((List.range o).map fun a => (cnt f n a : Int)).count v else 0 := by
  induction o with
  | zero => simp [spO]
  | succ o ih =>
    rw [spO_next, List.count_append, ih, List.range_succ, List.map_append, List.count_append]
    by_cases hv : v = (z : Int)
    · rw [if_pos hv, if_pos hv]
      congr 1
      by_cases hc : cnt f n o = z
      · rw [if_pos hc, hv]
        simp [hc]
      · rw [if_neg hc, hv]
        have : ¬ ((cnt f n o : Int) = (z : Int)) := by omega
        simp [this]
    · rw [if_neg hv, if_neg hv]
      split
      · have : ¬ ((z : Int) = v) := fun e => hv e.symm
        simp [this]
      · simp
theorem spZ_range (f : Nat → Int) (n G z : Nat) : ∀ x ∈ spZ f n G z, 1 ≤ x ∧ x ≤ (z : Int) := by
  induction z with
  | zero => simp [spZ]
  | succ z ih =>
    rw [spZ_next]
    intro x hx
    rcases List.mem_append.1 hx with h | h
    · have := ih x h; omega
    · have := spO_all f n (z + 1) G x h; omega
theorem spZ_count (f : Nat → Int) (n G z : Nat) (v : Int) : (spZ f n G z).count v = if 1 ≤ v ∧ v ≤ (z : Int) then ((List.range G).map fun a => (cnt f n a : Int)).count v else 0 := by
  induction z with
  | zero =>
    rw [if_neg (by omega)]
    simp [spZ]
  | succ z ih =>
    rw [spZ_next, List.count_append, ih, spO_count]
    by_cases h1 : v = ((z + 1 : Nat) : Int)
    · rw [if_pos h1, if_neg (by omega), if_pos (by omega), Nat.zero_add]
    · rw [if_neg h1, Nat.add_zero]
      by_cases h2 : 1 ≤ v ∧ v ≤ (z : Int)
      · rw [if_pos h2, if_pos (by omega)]
      · rw [if_neg h2, if_neg (by omega)]
theorem sorted_append {xs ys : List Int} (h1 : Sorted xs) (h2 : Sorted ys) (h : ∀ x ∈ xs, ∀ y ∈ ys, x ≤ y) : Sorted (xs ++ ys) := by
  intro a b hab hb
  rw [List.length_append] at hb
  rw [List.getD_eq_getElem?_getD, List.getD_eq_getElem?_getD]
  by_cases hb1 : b < xs.length
  · rw [List.getElem?_append_left (by omega), List.getElem?_append_left hb1, ← List.getD_eq_getElem?_getD, ← List.getD_eq_getElem?_getD]
    exact h1 a b hab hb1
  · by_cases ha1 : a < xs.length
    · rw [List.getElem?_append_left ha1, List.getElem?_append_right (by omega)]
      have e1 : xs[a]? = some xs[a] := by simp [ha1]
      have hb2 : b - xs.length < ys.length := by omega
      have e2 : ys[b - xs.length]? = some ys[b - xs.length] := by simp [hb2]
      rw [e1, e2]
      exact h _ (List.getElem_mem ha1) _ (List.getElem_mem hb2)
    · rw [List.getElem?_append_right (by omega), List.getElem?_append_right (by omega), ← List.getD_eq_getElem?_getD, ← List.getD_eq_getElem?_getD]
      exact h2 _ _ (by omega) (by omega)
theorem spO_sorted (f : Nat → Int) (n z o : Nat) : Sorted (spO f n z o) := by
  intro a b hab hb
  have h1 : (spO f n z o).getD a 0 = (z : Int) := spO_all f n z o _ (by have : a < (spO f n z o).length := (by omega); simp [this])
  have h2 : (spO f n z o).getD b 0 = (z : Int) := spO_all f n z o _ (by simp [hb])
  omega
theorem spZ_sorted (f : Nat → Int) (n G z : Nat) : Sorted (spZ f n G z) := by
  induction z with
  | zero => intro a b _ hb; simp [spZ] at hb
  | succ z ih =>
    rw [spZ_next]
    exact sorted_append ih (spO_sorted f n (z + 1) G) (fun x hx y hy => by
      have := spZ_range f n G z x hx
      have := spO_all f n (z + 1) G y hy
      omega)
theorem cnt_le (f : Nat → Int) (n o : Nat) : cnt f n o ≤ n := by
  unfold cnt
  have := List.countP_le_length (p := fun y => f y == (o : Int)) (l := List.range n)
  simpa using this
theorem spZ_perm (rows : List (List Int)) (n : Nat) (hg : Gens rows n) : (spZ (lab rows n).1 n (lab rows n).2 n).Perm (cyc rows n n) := by
  rw [List.perm_iff_count]
  intro v
  rw [spZ_count]
  have hok := lab_ok rows n n hg (Nat.le_refl _)
  unfold cyc
  split
  · rfl
  · rename_i h
    symm
    rw [List.count_eq_zero]
    intro hv
    obtain ⟨o, ho, e⟩ := List.mem_map.1 hv
    have hol := List.mem_range.1 ho
    have h1 := cnt_le (lab rows n).1 n o
    obtain ⟨y, hy, hyo⟩ := hok.onto o hol
    have h2 : 0 < cnt (lab rows n).1 n o := by
      unfold cnt
      rw [List.countP_pos_iff]
      exact ⟨y, List.mem_range.2 hy, by simp [hyo]⟩
    exact h (by omega)
end Go.Proofs.Ytgmloaemnbnbgaa
namespace Go.Proofs.Ytgmloaemnbnbgaa
open Go Go.RowKit
set_option maxHeartbeats 1000000

/-- Block b begins with three elements. -/
def L3 (w : World) (b x y z : Nat) : Prop := b < w.heap.size ∧ w.cell? ⟨b, 0, none⟩ = some (.int .i64 x) ∧ w.cell? ⟨b, 1, none⟩ = some (.int .i64 y) ∧ w.cell? ⟨b, 2, none⟩ = some (.int .i64 z)
theorem L3.later {w w' : World} {b x y z : Nat} (h : L3 w b x y z) (hb : Below w.heap.size w w') : L3 w' b x y z :=
  ⟨Nat.lt_of_lt_of_le h.1 hb.size, (hb.cell (p := ⟨b, 0, none⟩) h.1).trans h.2.1, (hb.cell (p := ⟨b, 1, none⟩) h.1).trans h.2.2.1, (hb.cell (p := ⟨b, 2, none⟩) h.1).trans h.2.2.2⟩
theorem L3.of_own {t : TypeId} {w : World} {g x y z : Nat} {xs : List Int} (h : OwnB t w g xs) (hx : xs = lst3 (x, y, z)) : L3 w g x y z := by
  subst hx
  exact ⟨h.lt, h.cell (i := 0) (by simp [lst3]), h.cell (i := 1) (by simp [lst3]), h.cell (i := 2) (by simp [lst3])⟩
theorem L3.own {w : World} {b x y z : Nat} (h : L3 w b x y z) : ∀ i, i < (lst3 (x, y, z)).length → w.cell? ⟨b, 0 + i, none⟩ = some (.int .i64 ((lst3 (x, y, z)).getD i 0)) := by
  intro i hi
  simp [lst3] at hi
  rcases i with _ | _ | _ | i
  · exact h.2.1
  · exact h.2.2.1
  · exact h.2.2.2
  · omega
theorem L3.rd {w : World} {b x y z : Nat} (h : L3 w b x y z) : Rd w (some ⟨b, 0, none⟩) (lst3 (x, y, z)) := fun _ => ⟨b, 0, rfl, h.1, h.own⟩

set_option maxRecDepth 100000 in
theorem do0_any (A : Option Addr) (n c : Nat) (f : List (List Int)) (B : Option Addr) (m d : Nat) (s : List (List Int)) (bc e : Nat) (x y z x' y' z' : Nat) (w : World) (hz : ZArg 1048576 w A n f B m s) (hp : PMap f s) (hi3 : In3 n (x, y, z)) (hdo : doAt f s 0 (x, y, z) = (x', y', z')) (hl : L3 w bc x y z) :
    Calls Try.prog 131 #[.agg #[.slice A n c, .slice B m d], .slice (some ⟨bc, 0, none⟩) 3 e, .int .i64 0] w fun e w' => ∃ g cap, e = .returned (.slice (some ⟨g, 0, none⟩) 3 cap) ∧ Below w.heap.size w w' ∧ w.heap.size ≤ g ∧ L3 w' g x' y' z' := by
  have HZ := hide hz
  have HP := hide hp
  have hnb := hz.sz.nb
  have hx : x < n := hi3.1
  have hy : y < n := hi3.2.1
  have hz' : z < n := hi3.2.2
  obtain rfl := hz.same hp
  have HL := hide hl
  have hbc := hl.1
  have HB0 := hide ((Below.refl _ w).alloc (Nat.le_refl _) (Obj.cells #[Value.slice A m c, Value.slice B m d] 29))
  have HK0 := hide (Blk.new w 29 [.slice A m c, .slice B m d])
  obtain ⟨u, hu⟩ : ∃ u, ap f x y = u := ⟨_, rfl⟩
  obtain ⟨v, hv⟩ : ∃ v, ap s x y = v := ⟨_, rfl⟩
  have hdo' : (u, v, z) = (x', y', z') := by rw [← hdo, ← hu, ← hv]; rfl
  injection hdo' with d1 d2
  injection d2 with d2 d3
  subst d1
  subst d2
  subst d3
  have HU := hide hu
  have HV := hide hv
  clear hz hp hl hi3 hdo hu hv
  go_enter Try.func131, Try.ntmps131
  go_wp2_with fail
  refine (own_any bc 0 3 e (lst3 (x, y, z)) _ rfl (by omega) (by have := HB0.out.size; omega) (HL.out.later HB0.out).own).mono ?_
  rintro e w1 ⟨v1, rfl, hb1, ho1⟩
  obtain ⟨A1, cap, hv, hres⟩ := own_shape ho1
  subst hv
  rcases hres with ⟨rfl, h⟩ | ⟨g, rfl, hg, how⟩
  · cases h
  have HB1 := hide (HB0.out.trans (hb1.mono HB0.out.size))
  have HK1 := hide (HK0.out.later hb1)
  have HL1 := hide ((HL.out.later HB0.out).later hb1)
  have HO1 := hide how
  have hgw : w.heap.size < g := by have := HK0.out.lt; omega
  clear hb1 ho1 how hg
  obtain ⟨bA, oA, bB, oB, bx, ox, cx, bY, oy, cy, rfl, rfl, h1, h2, h3, h4, l1, l2, l3, l4⟩ := HZ.out.reads HP.out hx hy
  rw [HU.out] at h3
  rw [HV.out] at h4
  have H2 := hide h2
  have H4 := hide h4
  have k0 := HK1.out.cell 0 _ rfl
  have k1 := HL1.out.2.1
  have k2 := HL1.out.2.2.1
  have r1 : w1.cell? ⟨bA, oA + x, none⟩ = some (.slice (some ⟨bx, ox, none⟩) m cx) := (HB1.out.cell (p := ⟨bA, oA + x, none⟩) l1).trans h1
  have r2 : w1.cell? ⟨bx, ox + y, none⟩ = some (.int .i64 u) := (HB1.out.cell (p := ⟨bx, ox + y, none⟩) l3).trans h3
  have g0 := HO1.out.cell (i := 0) (by simp [lst3])
  have g1 := HO1.out.frozen 0
  have n1 : g ≠ w.heap.size := by omega
  have n2 : g ≠ bc := by omega
  have n3 : g ≠ bA := by omega
  have n4 : g ≠ bx := by omega
  have n5 := n1.symm
  have n6 := n2.symm
  have n7 := n3.symm
  have n8 := n4.symm
  have az : (x : Int) < m := by omega
  have bz : (y : Int) < m := by omega
  have az0 : (0 : Int) ≤ x := by omega
  have bz0 : (0 : Int) ≤ y := by omega
  clear h1 h2 h3 h4
  have hw1 : IntKind.i64.wrap 1 = 1 := IntWalk.i64_in _ (by omega)
  have hw2 : IntKind.i64.wrap 2 = 2 := IntWalk.i64_in _ (by omega)
  go_wp2_with fail
  go_region_held3 (fun w' => w'.cell? ⟨w.heap.size, 0, none⟩ = some (.slice (some ⟨bA, oA, none⟩) m c) ∧ w'.cell? ⟨bc, 0, none⟩ = some (.int .i64 x) ∧ w'.cell? ⟨bc, 1, none⟩ = some (.int .i64 y) ∧ w'.cell? ⟨bA, oA + x, none⟩ = some (.slice (some ⟨bx, ox, none⟩) m cx) ∧ w'.cell? ⟨bx, ox + y, none⟩ = some (.int .i64 u)) (first | exact ⟨k0, k1, k2, r1, r2⟩ | go_keep) (first | fail)
  clear k0 k1 k2 r1 r2 g0 g1
  refine ex_gen (Q := Exit.then _ _) fun w2 hww2 => ?_
  have ht : Touch g (g + 1) w1 w2 := by rw [hww2]; exact ⟨rfl, rfl, rfl, by simp [World.setCell], fun k _ hne => by first | exact Below.heap_setCell w1 ⟨g, 0, none⟩ _ k (by show k ≠ g; omega) | exact (Below.heap_setCell w1.drew ⟨g, 0, none⟩ _ k (by show k ≠ g; omega))⟩
  have HO2 : Hid (OwnB 2 w2 g ((lst3 (x, y, z)).set 0 (u : Int))) := hide (by rw [hww2]; first | exact HO1.out.set 0 u (by simp [lst3]) | exact OwnB.set (w := w1.drew) HO1.out 0 u (by simp [lst3]))
  have HB2 := hide (ht.below HB1.out HB1.out.size (by omega))
  have HK2 := hide (HK1.out.touch ht (.inl (by omega)))
  have k0 := HK2.out.cell 1 _ rfl
  have k1 : w2.cell? ⟨bc, 0, none⟩ = some (.int .i64 x) := (World.cell?_of_block (a := ⟨bc, 0, none⟩) (ht.block bc HL1.out.1 (.inl (by omega)))).trans HL1.out.2.1
  have k2 : w2.cell? ⟨bc, 1, none⟩ = some (.int .i64 y) := (World.cell?_of_block (a := ⟨bc, 1, none⟩) (ht.block bc HL1.out.1 (.inl (by omega)))).trans HL1.out.2.2.1
  have r1 : w2.cell? ⟨bB, oB + x, none⟩ = some (.slice (some ⟨bY, oy, none⟩) m cy) := (HB2.out.cell (p := ⟨bB, oB + x, none⟩) l2).trans H2.out
  have r2 : w2.cell? ⟨bY, oy + y, none⟩ = some (.int .i64 v) := (HB2.out.cell (p := ⟨bY, oy + y, none⟩) l4).trans H4.out
  have g0 := HO2.out.cell (i := 1) (by simp [lst3])
  have g1 := HO2.out.frozen 1
  have n3 : g ≠ bB := by omega
  have n4 : g ≠ bY := by omega
  have n7 := n3.symm
  have n8 := n4.symm
  clear hww2 ht
  go_wp2_with fail
  go_region_held3 (fun w' => w'.cell? ⟨w.heap.size, 1, none⟩ = some (.slice (some ⟨bB, oB, none⟩) m d) ∧ w'.cell? ⟨bc, 0, none⟩ = some (.int .i64 x) ∧ w'.cell? ⟨bc, 1, none⟩ = some (.int .i64 y) ∧ w'.cell? ⟨bB, oB + x, none⟩ = some (.slice (some ⟨bY, oy, none⟩) m cy) ∧ w'.cell? ⟨bY, oy + y, none⟩ = some (.int .i64 v)) (first | exact ⟨k0, k1, k2, r1, r2⟩ | go_keep) (first | fail)
  clear k0 k1 k2 r1 r2 g0 g1
  refine ex_gen (Q := Exit.then _ _) fun w3 hw3 => ?_
  have HO3 : Hid (OwnB 2 w3 g (((lst3 (x, y, z)).set 0 (u : Int)).set 1 (v : Int))) := hide (by rw [hw3]; first | exact HO2.out.set 1 v (by simp [lst3]) | exact OwnB.set (w := w2.drew) HO2.out 1 v (by simp [lst3]))
  have HB3 : Hid (Below w.heap.size w w3) := hide (by rw [hw3]; first | exact HB2.out.setCell (p := ⟨g, 1, none⟩) (by show w.heap.size ≤ g; omega) _ | exact HB2.out.drew.setCell (p := ⟨g, 1, none⟩) (by show w.heap.size ≤ g; omega) _)
  clear hw3
  go_wp2_with fail
  go_ret
  exact ⟨g, cap, rfl, HB3.out, by omega, L3.of_own HO3.out rfl⟩

set_option maxRecDepth 100000 in
theorem do1_any (A : Option Addr) (n c : Nat) (f : List (List Int)) (B : Option Addr) (m d : Nat) (s : List (List Int)) (bc e : Nat) (x y z x' y' z' : Nat) (w : World) (hz : ZArg 1048576 w A n f B m s) (hp : PMap f s) (hi3 : In3 n (x, y, z)) (hdo : doAt f s 1 (x, y, z) = (x', y', z')) (hl : L3 w bc x y z) :
    Calls Try.prog 131 #[.agg #[.slice A n c, .slice B m d], .slice (some ⟨bc, 0, none⟩) 3 e, .int .i64 1] w fun e w' => ∃ g cap, e = .returned (.slice (some ⟨g, 0, none⟩) 3 cap) ∧ Below w.heap.size w w' ∧ w.heap.size ≤ g ∧ L3 w' g x' y' z' := by
  have HZ := hide hz
  have HP := hide hp
  have hnb := hz.sz.nb
  have hx : x < n := hi3.1
  have hy : y < n := hi3.2.1
  have hz' : z < n := hi3.2.2
  obtain rfl := hz.same hp
  have HL := hide hl
  have hbc := hl.1
  have HB0 := hide ((Below.refl _ w).alloc (Nat.le_refl _) (Obj.cells #[Value.slice A m c, Value.slice B m d] 29))
  have HK0 := hide (Blk.new w 29 [.slice A m c, .slice B m d])
  obtain ⟨u, hu⟩ : ∃ u, ap f y z = u := ⟨_, rfl⟩
  obtain ⟨v, hv⟩ : ∃ v, ap s y z = v := ⟨_, rfl⟩
  have hdo' : (x, u, v) = (x', y', z') := by rw [← hdo, ← hu, ← hv]; rfl
  injection hdo' with d1 d2
  injection d2 with d2 d3
  subst d1
  subst d2
  subst d3
  have HU := hide hu
  have HV := hide hv
  clear hz hp hl hi3 hdo hu hv
  go_enter Try.func131, Try.ntmps131
  go_wp2_with fail
  refine (own_any bc 0 3 e (lst3 (x, y, z)) _ rfl (by omega) (by have := HB0.out.size; omega) (HL.out.later HB0.out).own).mono ?_
  rintro e w1 ⟨v1, rfl, hb1, ho1⟩
  obtain ⟨A1, cap, hv, hres⟩ := own_shape ho1
  subst hv
  rcases hres with ⟨rfl, h⟩ | ⟨g, rfl, hg, how⟩
  · cases h
  have HB1 := hide (HB0.out.trans (hb1.mono HB0.out.size))
  have HK1 := hide (HK0.out.later hb1)
  have HL1 := hide ((HL.out.later HB0.out).later hb1)
  have HO1 := hide how
  have hgw : w.heap.size < g := by have := HK0.out.lt; omega
  clear hb1 ho1 how hg
  obtain ⟨bA, oA, bB, oB, bx, ox, cx, bY, oy, cy, rfl, rfl, h1, h2, h3, h4, l1, l2, l3, l4⟩ := HZ.out.reads HP.out hy hz'
  rw [HU.out] at h3
  rw [HV.out] at h4
  have H2 := hide h2
  have H4 := hide h4
  have k0 := HK1.out.cell 0 _ rfl
  have k1 := HL1.out.2.2.1
  have k2 := HL1.out.2.2.2
  have r1 : w1.cell? ⟨bA, oA + y, none⟩ = some (.slice (some ⟨bx, ox, none⟩) m cx) := (HB1.out.cell (p := ⟨bA, oA + y, none⟩) l1).trans h1
  have r2 : w1.cell? ⟨bx, ox + z, none⟩ = some (.int .i64 u) := (HB1.out.cell (p := ⟨bx, ox + z, none⟩) l3).trans h3
  have g0 := HO1.out.cell (i := 1) (by simp [lst3])
  have g1 := HO1.out.frozen 1
  have n1 : g ≠ w.heap.size := by omega
  have n2 : g ≠ bc := by omega
  have n3 : g ≠ bA := by omega
  have n4 : g ≠ bx := by omega
  have n5 := n1.symm
  have n6 := n2.symm
  have n7 := n3.symm
  have n8 := n4.symm
  have az : (y : Int) < m := by omega
  have bz : (z : Int) < m := by omega
  have az0 : (0 : Int) ≤ y := by omega
  have bz0 : (0 : Int) ≤ z := by omega
  clear h1 h2 h3 h4
  have hw1 : IntKind.i64.wrap 1 = 1 := IntWalk.i64_in _ (by omega)
  have hw2 : IntKind.i64.wrap 2 = 2 := IntWalk.i64_in _ (by omega)
  go_wp2_with fail
  go_region_held3 (fun w' => w'.cell? ⟨w.heap.size, 0, none⟩ = some (.slice (some ⟨bA, oA, none⟩) m c) ∧ w'.cell? ⟨bc, 1, none⟩ = some (.int .i64 y) ∧ w'.cell? ⟨bc, 2, none⟩ = some (.int .i64 z) ∧ w'.cell? ⟨bA, oA + y, none⟩ = some (.slice (some ⟨bx, ox, none⟩) m cx) ∧ w'.cell? ⟨bx, ox + z, none⟩ = some (.int .i64 u)) (first | exact ⟨k0, k1, k2, r1, r2⟩ | go_keep) (first | fail)
  clear k0 k1 k2 r1 r2 g0 g1
  refine ex_gen (Q := Exit.then _ _) fun w2 hww2 => ?_
  have ht : Touch g (g + 1) w1 w2 := by rw [hww2]; exact ⟨rfl, rfl, rfl, by simp [World.setCell], fun k _ hne => by first | exact Below.heap_setCell w1 ⟨g, 1, none⟩ _ k (by show k ≠ g; omega) | exact (Below.heap_setCell w1.drew ⟨g, 1, none⟩ _ k (by show k ≠ g; omega))⟩
  have HO2 : Hid (OwnB 2 w2 g ((lst3 (x, y, z)).set 1 (u : Int))) := hide (by rw [hww2]; first | exact HO1.out.set 1 u (by simp [lst3]) | exact OwnB.set (w := w1.drew) HO1.out 1 u (by simp [lst3]))
  have HB2 := hide (ht.below HB1.out HB1.out.size (by omega))
  have HK2 := hide (HK1.out.touch ht (.inl (by omega)))
  have k0 := HK2.out.cell 1 _ rfl
  have k1 : w2.cell? ⟨bc, 1, none⟩ = some (.int .i64 y) := (World.cell?_of_block (a := ⟨bc, 1, none⟩) (ht.block bc HL1.out.1 (.inl (by omega)))).trans HL1.out.2.2.1
  have k2 : w2.cell? ⟨bc, 2, none⟩ = some (.int .i64 z) := (World.cell?_of_block (a := ⟨bc, 2, none⟩) (ht.block bc HL1.out.1 (.inl (by omega)))).trans HL1.out.2.2.2
  have r1 : w2.cell? ⟨bB, oB + y, none⟩ = some (.slice (some ⟨bY, oy, none⟩) m cy) := (HB2.out.cell (p := ⟨bB, oB + y, none⟩) l2).trans H2.out
  have r2 : w2.cell? ⟨bY, oy + z, none⟩ = some (.int .i64 v) := (HB2.out.cell (p := ⟨bY, oy + z, none⟩) l4).trans H4.out
  have g0 := HO2.out.cell (i := 2) (by simp [lst3])
  have g1 := HO2.out.frozen 2
  have n3 : g ≠ bB := by omega
  have n4 : g ≠ bY := by omega
  have n7 := n3.symm
  have n8 := n4.symm
  clear hww2 ht
  go_wp2_with fail
  go_region_held3 (fun w' => w'.cell? ⟨w.heap.size, 1, none⟩ = some (.slice (some ⟨bB, oB, none⟩) m d) ∧ w'.cell? ⟨bc, 1, none⟩ = some (.int .i64 y) ∧ w'.cell? ⟨bc, 2, none⟩ = some (.int .i64 z) ∧ w'.cell? ⟨bB, oB + y, none⟩ = some (.slice (some ⟨bY, oy, none⟩) m cy) ∧ w'.cell? ⟨bY, oy + z, none⟩ = some (.int .i64 v)) (first | exact ⟨k0, k1, k2, r1, r2⟩ | go_keep) (first | fail)
  clear k0 k1 k2 r1 r2 g0 g1
  refine ex_gen (Q := Exit.then _ _) fun w3 hw3 => ?_
  have HO3 : Hid (OwnB 2 w3 g (((lst3 (x, y, z)).set 1 (u : Int)).set 2 (v : Int))) := hide (by rw [hw3]; first | exact HO2.out.set 2 v (by simp [lst3]) | exact OwnB.set (w := w2.drew) HO2.out 2 v (by simp [lst3]))
  have HB3 : Hid (Below w.heap.size w w3) := hide (by rw [hw3]; first | exact HB2.out.setCell (p := ⟨g, 2, none⟩) (by show w.heap.size ≤ g; omega) _ | exact HB2.out.drew.setCell (p := ⟨g, 2, none⟩) (by show w.heap.size ≤ g; omega) _)
  clear hw3
  go_wp2_with fail
  go_ret
  exact ⟨g, cap, rfl, HB3.out, by omega, L3.of_own HO3.out rfl⟩
end Go.Proofs.Ytgmloaemnbnbgaa
