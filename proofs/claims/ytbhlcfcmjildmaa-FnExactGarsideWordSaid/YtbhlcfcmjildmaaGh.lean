import Derived.Test.YtbhlcfcmjildmaaGg
import Derived.Test.YtbhlcfcmjildmaaGc
import Derived.Test.YtbhlcfcmjildmaaGb
import Derived.Test.YtbhlcfcmjildmaaGa
import Derived.Test.YtbhlcfcmjildmaaGd
import Derived.Test.YtbhlcfcmjildmaaGf
import Derived.Test.YtbhlcfcmjildmaaGe
import Derived.Test.YtbhlcfcmjildmaaProg
import Derived.Shelf.Abstract
import Derived.Shelf.Lay
import Derived.Deep.AppendLies
import Derived.Deep.RegionLaw
namespace Go.Proofs.Ytbhlcfcmjildmaa
open Go Go.RowKit
/-- The condition of racks at the list of number T. -/
def Rk3 (f : List (List Int)) (n T : Nat) : Prop := ap f (trip n T).1 (ap f (trip n T).2.1 (trip n T).2.2) = ap f (ap f (trip n T).1 (trip n T).2.1) (ap f (trip n T).1 (trip n T).2.2)
def FirstK (f : List (List Int)) (n T : Nat) : Prop := (∀ i, i < T → Rk3 f n i) ∧ T ≤ n * n * n ∧ (T < n * n * n → ¬ Rk3 f n T)
theorem FirstK.ex (f : List (List Int)) (n : Nat) : ∃ T, FirstK f n T := by
  have h : ∀ k, k ≤ n * n * n → (∀ i, i < k → Rk3 f n i) ∨ ∃ T, FirstK f n T := by
    intro k
    induction k with
    | zero => intro _; exact .inl (fun i hi => absurd hi (Nat.not_lt_zero _))
    | succ k ih =>
      intro hk
      rcases ih (by omega) with h | h
      · by_cases e : Rk3 f n k
        · refine .inl (fun i hi => ?_)
          by_cases e2 : i = k
          · subst e2; exact e
          · exact h i (by omega)
        · exact .inr ⟨k, h, by omega, fun _ => e⟩
      · exact .inr h
  rcases h _ (Nat.le_refl _) with h | h
  · exact ⟨_, h, Nat.le_refl _, fun h2 => absurd h2 (by omega)⟩
  · exact h
theorem FirstK.bad {f : List (List Int)} {n T k : Nat} (h : FirstK f n T) (h1 : ∀ i, i < k → Rk3 f n i) (hk : k < n * n * n) (h2 : ¬ Rk3 f n k) : T = k := by
  have a : ¬ k < T := fun h3 => h2 (h.1 k h3)
  have b : ¬ T < k := fun h3 => h.2.2 (by omega) (h1 T h3)
  omega
theorem FirstK.all {f : List (List Int)} {n T : Nat} (h : FirstK f n T) (h1 : ∀ i, i < n * n * n → Rk3 f n i) : T = n * n * n := by
  have a := h.2.1
  have b : ¬ T < n * n * n := fun h3 => h.2.2 h3 (h1 T h3)
  omega
theorem FirstK.iff {f : List (List Int)} {n T : Nat} (h : FirstK f n T) : T = n * n * n ↔ ∀ i, i < n * n * n → Rk3 f n i :=
  ⟨fun e i hi => h.1 i (by omega), h.all⟩
theorem Rk3.at {f : List (List Int)} {n x y z : Nat} (hy : y < n) (hz : z < n) : Rk3 f n ((x * n + y) * n + z) ↔ ap f x (ap f y z) = ap f (ap f x y) (ap f x z) := by
  unfold Rk3
  rw [trip_of hy hz]
/-- What a rack is. -/
def Rck (f : List (List Int)) : Prop := (Tbl f ∧ AllPrm f) ∧ ∀ i, i < f.length * f.length * f.length → Rk3 f f.length i
def RkRes (f : List (List Int)) (r : Bool) : Prop := r = true ↔ Rck f
theorem RkRes.ex (f : List (List Int)) : ∃ r, RkRes f r := bool_of _
def RkFRes (f : List (List Int)) (zs : List Int) (code : Int) : Prop :=
  (∃ T, (Tbl f ∧ AllPrm f) ∧ FirstK f f.length T ∧ ((T < f.length * f.length * f.length ∧ zs = lst3 (trip f.length T) ∧ code = 0) ∨ (T = f.length * f.length * f.length ∧ zs = [] ∧ code = 4))) ∨ (Tbl f ∧ ¬ AllPrm f ∧ zs = [] ∧ code = 5) ∨ (¬ Tbl f ∧ zs = [] ∧ code = 1)
theorem RkFRes.ex (f : List (List Int)) : ∃ zs code, RkFRes f zs code ∧ zs.length ≤ 1048576 := by
  by_cases h : Tbl f
  · by_cases h1 : AllPrm f
    · obtain ⟨T, hT⟩ := FirstK.ex f f.length
      by_cases h2 : T < f.length * f.length * f.length
      · exact ⟨_, _, .inl ⟨T, ⟨h, h1⟩, hT, .inl ⟨h2, rfl, rfl⟩⟩, by simp [lst3]⟩
      · exact ⟨_, _, .inl ⟨T, ⟨h, h1⟩, hT, .inr ⟨by have := hT.2.1; omega, rfl, rfl⟩⟩, by simp⟩
    · exact ⟨_, _, .inr (.inl ⟨h, h1, rfl, rfl⟩), by simp⟩
  · exact ⟨_, _, .inr (.inr ⟨h, rfl, rfl⟩), by simp⟩
theorem Rck.tbl {f : List (List Int)} (h : Rck f) : Tbl f := h.1.1
theorem Rck.prm {f : List (List Int)} (h : Rck f) : AllPrm f := h.1.2
end Go.Proofs.Ytbhlcfcmjildmaa
namespace Go.Proofs.Ytbhlcfcmjildmaa
open Go Go.RowKit
set_option maxHeartbeats 1000000
def SolF (f s : List (List Int)) : Prop := PMap f s ∧ NoCol f s f.length ∧ First f s f.length (f.length * f.length * f.length)
def IsRes (f s : List (List Int)) (r : Bool) : Prop := r = true ↔ SolF f s
theorem IsRes.ex (f s : List (List Int)) : ∃ r, IsRes f s r := by
  by_cases h : SolF f s
  · exact ⟨true, by simp [IsRes, h]⟩
  · exact ⟨false, by simp [IsRes, h]⟩
theorem First.uniq {f s : List (List Int)} {n T T' : Nat} (h : First f s n T) (h' : First f s n T') : T = T' := by
  rcases Nat.lt_trichotomy T T' with e | e | e
  · exact absurd (h'.1 T e) (h.2.2 (by have := h'.2.1; omega))
  · exact e
  · exact absurd (h.1 T' e) (h'.2.2 (by have := h.2.1; omega))
/-- The four ways of it. -/
theorem IsRes.cases {f s : List (List Int)} {n : Nat} (hn : f.length = n) {r : Bool} (h : IsRes f s r) :
    (¬ PMap f s ∧ r = false) ∨ (PMap f s ∧ ∃ T, First f s n T ∧ ((T < n * n * n ∧ ((NoCol f s n ∧ r = false) ∨ ((∃ a b, FstCol f s n a b) ∧ r = false))) ∨ (T = n * n * n ∧ (((∃ a b, FstCol f s n a b) ∧ r = false) ∨ (NoCol f s n ∧ r = true))))) := by
  subst hn
  have hb : ∀ h9 : ¬ SolF f s, r = false := fun h9 => Bool.eq_false_iff.2 (fun e => h9 (h.1 e))
  by_cases hp : PMap f s
  · obtain ⟨T, hT⟩ := First.ex f s f.length
    refine .inr ⟨hp, T, hT, ?_⟩
    by_cases h2 : T < f.length * f.length * f.length
    · have hr := hb (fun h9 => by have := First.uniq hT h9.2.2; omega)
      rcases col_or f s f.length with hc | hc
      · exact .inl ⟨h2, .inl ⟨hc, hr⟩⟩
      · exact .inl ⟨h2, .inr ⟨hc, hr⟩⟩
    · have he : T = f.length * f.length * f.length := by have := hT.2.1; omega
      subst he
      refine .inr ⟨rfl, ?_⟩
      rcases col_or f s f.length with hc | hc
      · exact .inr ⟨hc, h.2 ⟨hp, hc, hT⟩⟩
      · exact .inl ⟨hc, hb (fun h9 => by obtain ⟨a, b, hf⟩ := hc; exact hf.not h9.2.1)⟩
  · exact .inl ⟨hp, hb (fun h9 => hp h9.1)⟩
end Go.Proofs.Ytbhlcfcmjildmaa
namespace Go.Proofs.Ytbhlcfcmjildmaa
open Go Go.RowKit
/-! The group of some permutations of n elements, found from the identity on. -/
theorem unit_prm {n : Nat} (h1 : 1 ≤ n) (h12 : n ≤ 12) : Prm (unitN n) := by
  refine (prm_iff _).2 ⟨by rw [unitN_length]; exact h1, by rw [unitN_length]; exact h12, fun x h0 hx => ?_⟩
  rw [unitN_length] at hx
  obtain ⟨m, rfl⟩ : ∃ m : Nat, x = (m : Int) := ⟨x.toNat, by omega⟩
  exact List.mem_map.2 ⟨m, List.mem_range.2 (by omega), rfl⟩
theorem then_prm {n : Nat} {p q : List Int} (hl : p.length = n) (hp : Prm p) (hm : q.length = n) (hq : Prm q) : Prm (thenL p q) := by
  have hp1 := (prm_iff _).1 hp
  have hq1 := (prm_iff _).1 hq
  refine (prm_iff _).2 ⟨by rw [thenL_length]; exact hp1.1, by rw [thenL_length]; exact hp1.2.1, fun x h0 hx => ?_⟩
  rw [thenL_length, hl] at hx
  obtain ⟨j, hj, e⟩ := List.getElem_of_mem (hq1.2.2 x h0 (by omega))
  have hjp := hp1.2.2 (j : Int) (by omega) (by omega)
  refine List.mem_map.2 ⟨(j : Int), hjp, ?_⟩
  simp [hj, e]
/-- What the generators make, from the identity on. -/
inductive Gen (n : Nat) (gs : List (List Int)) : List Int → Prop
  | unit : Gen n gs (unitN n)
  | step {p q : List Int} : Gen n gs p → q ∈ gs → Gen n gs (thenL p q)
/-- A list of all of them, each once. -/
def Enu (n : Nat) (gs L : List (List Int)) : Prop := L.Nodup ∧ ∀ x, x ∈ L ↔ Gen n gs x
theorem nodup_sub {α : Type} [DecidableEq α] {l m : List α} (h : l.Nodup) (hs : ∀ a ∈ l, a ∈ m) : l.length ≤ m.length := by
  obtain ⟨k, hk⟩ := subset_perm l m h hs
  have := hk.length_eq
  simp at this
  omega
theorem Enu.len {n : Nat} {gs L L' : List (List Int)} (h : Enu n gs L) (h' : Enu n gs L') : L.length = L'.length :=
  Nat.le_antisymm (nodup_sub h.1 fun a ha => (h'.2 a).2 ((h.2 a).1 ha)) (nodup_sub h'.1 fun a ha => (h.2 a).2 ((h'.2 a).1 ha))
/-- There are at most M. -/
def AtMost (n : Nat) (gs : List (List Int)) (M : Nat) : Prop := ∃ L, Enu n gs L ∧ L.length ≤ M
theorem not_atMost {n : Nat} {gs found : List (List Int)} {x : List Int} {M : Nat} (hd : found.Nodup) (hg : ∀ y, y ∈ found → Gen n gs y) (hx : Gen n gs x) (hn : x ∉ found) (hM : M ≤ found.length) : ¬ AtMost n gs M := by
  rintro ⟨L, hL, hl⟩
  have := nodup_sub (l := x :: found) (m := L) (List.nodup_cons.2 ⟨hn, hd⟩) (fun a ha => by
    rcases List.mem_cons.1 ha with rfl | ha
    · exact (hL.2 _).2 hx
    · exact (hL.2 _).2 (hg _ ha))
  simp at this
  omega
/-- How the search stands: the first i that were found are done, and of the next one the first k generators. -/
structure Srch (n : Nat) (gs found : List (List Int)) (i k : Nat) : Prop where
  nd : found.Nodup
  gen : ∀ y, y ∈ found → Gen n gs y
  unit : unitN n ∈ found
  done : ∀ a, a < i → ∀ g, g ∈ gs → thenL (found.getD a []) g ∈ found
  part : ∀ b, b < k → thenL (found.getD i []) (gs.getD b []) ∈ found
theorem Srch.start (n : Nat) (gs : List (List Int)) : Srch n gs [unitN n] 0 0 where
  nd := by simp
  gen := fun y hy => by simp at hy; subst hy; exact .unit
  unit := by simp
  done := fun a ha => by omega
  part := fun b hb => by omega
theorem getD_mem {α : Type} (l : List α) (i : Nat) (d : α) (h : i < l.length) : l.getD i d ∈ l := by simp [h]
theorem getD_app {α : Type} (l : List α) (v : α) (i : Nat) (d : α) (h : i < l.length) : (l ++ [v]).getD i d = l.getD i d := by
  simp only [List.getD_eq_getElem?_getD]
  rw [List.getElem?_append_left h]
theorem Srch.keep {n : Nat} {gs found : List (List Int)} {i k : Nat} (h : Srch n gs found i k) (hm : thenL (found.getD i []) (gs.getD k []) ∈ found) : Srch n gs found i (k + 1) :=
  ⟨h.nd, h.gen, h.unit, h.done, fun b hb => by
    by_cases e : b = k
    · rw [e]; exact hm
    · exact h.part b (by omega)⟩
theorem Srch.made {n : Nat} {gs found : List (List Int)} {i k : Nat} (h : Srch n gs found i k) (hi : i < found.length) (hk : k < gs.length) : Gen n gs (thenL (found.getD i []) (gs.getD k [])) :=
  .step (h.gen _ (getD_mem _ _ _ hi)) (getD_mem _ _ _ hk)
theorem Srch.push {n : Nat} {gs found : List (List Int)} {i k : Nat} (h : Srch n gs found i k) (hi : i < found.length) (hk : k < gs.length) (hn : thenL (found.getD i []) (gs.getD k []) ∉ found) : Srch n gs (found ++ [thenL (found.getD i []) (gs.getD k [])]) i (k + 1) where
  nd := List.nodup_append.2 ⟨h.nd, by simp, fun a ha b hb e => by simp at hb; subst hb; subst e; exact hn ha⟩
  gen := fun y hy => by
    rcases List.mem_append.1 hy with hy | hy
    · exact h.gen y hy
    · simp at hy; subst hy; exact h.made hi hk
  unit := List.mem_append.2 (.inl h.unit)
  done := fun a ha g hg => by rw [getD_app _ _ _ _ (by omega)]; exact List.mem_append.2 (.inl (h.done a ha g hg))
  part := fun b hb => by
    rw [getD_app _ _ _ _ hi]
    by_cases e : b = k
    · rw [e]; exact List.mem_append.2 (.inr (by simp))
    · exact List.mem_append.2 (.inl (h.part b (by omega)))
theorem Srch.next {n : Nat} {gs found : List (List Int)} {i : Nat} (h : Srch n gs found i gs.length) : Srch n gs found (i + 1) 0 :=
  ⟨h.nd, h.gen, h.unit, fun a ha g hg => by
    by_cases e : a = i
    · obtain ⟨b, hb, e2⟩ := List.getElem_of_mem hg
      have h2 := h.part b hb
      rw [show gs.getD b [] = g by rw [← e2]; simp [hb]] at h2
      rw [e]; exact h2
    · exact h.done a (by omega) g hg, fun b hb => by omega⟩
theorem Srch.fin {n : Nat} {gs found : List (List Int)} (h : Srch n gs found found.length 0) : Enu n gs found :=
  ⟨h.nd, fun x => ⟨h.gen x, fun hx => by
    induction hx with
    | unit => exact h.unit
    | @step p q _ hq ih =>
      obtain ⟨a, ha, e⟩ := List.getElem_of_mem ih
      have h2 := h.done a ha _ hq
      have h3 : found.getD a [] = p := by rw [← e]; simp [ha]
      rw [h3] at h2
      exact h2⟩⟩
/-- All of them are permutations of n elements. -/
theorem gen_prm {n : Nat} {gs : List (List Int)} (h1 : 1 ≤ n) (h12 : n ≤ 12) (hg : Gens gs n) {x : List Int} (hx : Gen n gs x) : x.length = n ∧ Prm x := by
  induction hx with
  | unit => exact ⟨unitN_length n, unit_prm h1 h12⟩
  | @step p q _ hq ih =>
    obtain ⟨b, hb, e⟩ := List.getElem_of_mem hq
    have h2 := hg b hb
    have h3 : gs.getD b [] = q := by rw [← e]; simp [hb]
    rw [h3] at h2
    exact ⟨by unfold thenL; simpa using ih.1, then_prm ih.1 ih.2 h2.1 h2.2⟩
/-- What the order of a group is answered. -/
def OrdR (n : Nat) (gs : List (List Int)) (M : Nat) (err v code : Int) : Prop := (∃ L, Enu n gs L ∧ L.length ≤ M ∧ v = (L.length : Int) ∧ code = 0) ∨ (¬ AtMost n gs M ∧ v = 0 ∧ code = err)
theorem OrdR.ex (n : Nat) (gs : List (List Int)) (M : Nat) (err : Int) : ∃ v code, OrdR n gs M err v code := by
  by_cases h : AtMost n gs M
  · obtain ⟨L, h1, h2⟩ := h
    exact ⟨_, _, .inl ⟨L, h1, h2, rfl, rfl⟩⟩
  · exact ⟨_, _, .inr ⟨h, rfl, rfl⟩⟩
end Go.Proofs.Ytbhlcfcmjildmaa
namespace Go.Proofs.Ytbhlcfcmjildmaa
open Go Go.RowKit

theorem ex_gen {Q : Exit → Act → World → Prop} {e : Exit} {a : Act} {w : World} (h : ∀ wf, wf = w → Q e a wf) : Q e a w := h w rfl

/-- The boxes that a call has made, the last one being top; the list of pairs; and nothing below is changed. -/
structure FK (w wx : World) (g n top : Nat) (bs : List (Nat × TypeId × List Value)) : Prop where
  below : Below w.heap.size w wx
  pairs : PairsAt wx g n
  gtop : g ≤ top
  blks : ∀ q, q ∈ bs → Blk wx q.1 q.2.1 q.2.2 ∧ q.1 ≤ top
  low : w.heap.size ≤ top
  sz : top < wx.heap.size

section
variable {w wx wy : World} {g n top : Nat} {bs : List (Nat × TypeId × List Value)}
theorem FK.start {b1 b2 b3 : Nat} {t1 t2 t3 : TypeId} {c1 c2 c3 : List Value} (hb : Below w.heap.size w wx) (hp : PairsAt wx g n) (h1 : Blk wx b1 t1 c1) (h2 : Blk wx b2 t2 c2) (h3 : Blk wx b3 t3 c3) (hw : w.heap.size < wx.heap.size := by assumption) : FK w wx g n (wx.heap.size - 1) [(b3, t3, c3), (b2, t2, c2), (b1, t1, c1)] :=
  ⟨hb, hp, by have := hp.1; omega, fun q hq => by
    have l1 := h1.lt
    have l2 := h2.lt
    have l3 := h3.lt
    simp at hq
    rcases hq with rfl | rfl | rfl
    · exact ⟨h3, by show b3 ≤ _; omega⟩
    · exact ⟨h2, by show b2 ≤ _; omega⟩
    · exact ⟨h1, by show b1 ≤ _; omega⟩, by omega, by omega⟩
theorem FK.later (h : FK w wx g n top bs) (hb : Below wx.heap.size wx wy) : FK w wy g n top bs :=
  ⟨h.below.trans (hb.mono h.below.size), h.pairs.later hb, h.gtop, fun q hq => ⟨(h.blks q hq).1.later hb, (h.blks q hq).2⟩, h.low, Nat.lt_of_lt_of_le h.sz hb.size⟩
theorem FK.set (h : FK w wx g n top bs) {p : Addr} (hp : top < p.block) (v : Value) : FK w (wx.setCell p v) g n top bs :=
  ⟨h.below.setCell (Nat.le_trans h.low (Nat.le_of_lt hp)) v, h.pairs.touch (lo := p.block) (hi := p.block + 1) ⟨rfl, rfl, rfl, by simp [World.setCell], fun k _ hne => Below.heap_setCell wx p v k (by omega)⟩ (.inl (Nat.lt_of_le_of_lt h.gtop hp)), h.gtop, fun q hq => ⟨(h.blks q hq).1.far (by have := (h.blks q hq).2; omega) v, (h.blks q hq).2⟩, h.low, by have := h.sz; simp [World.setCell]; omega⟩
theorem FK.push (h : FK w wx g n top bs) {L : Nat} {t : TypeId} {cs : List Value} (hb : Blk wx L t cs) (hL : top < L) : FK w wx g n L ((L, t, cs) :: bs) :=
  ⟨h.below, h.pairs, by have := h.gtop; omega, fun q hq => by
    rcases List.mem_cons.1 hq with rfl | hq
    · exact ⟨hb, Nat.le_refl _⟩
    · exact ⟨(h.blks q hq).1, by have := (h.blks q hq).2; omega⟩, by have := h.low; omega, hb.lt⟩
theorem FK.new (h : FK w wx g n top bs) (t : TypeId) (cs : List Value) : FK w (wx.alloc (.cells cs.toArray t)) g n wx.heap.size ((wx.heap.size, t, cs) :: bs) :=
  (h.later ((Below.refl _ _).alloc (Nat.le_refl _) _)).push (Blk.new _ _ _) h.sz
theorem FK.blk (h : FK w wx g n top bs) {b : Nat} {t : TypeId} {cs : List Value} (hm : (b, t, cs) ∈ bs) : Blk wx b t cs := (h.blks _ hm).1
theorem FK.top' (h : FK w wx g n top bs) {b : Nat} {t : TypeId} {cs : List Value} (hm : (b, t, cs) ∈ bs) : b ≤ top := (h.blks _ hm).2
end
end Go.Proofs.Ytbhlcfcmjildmaa
namespace Go.Proofs.Ytbhlcfcmjildmaa
open Go Go.RowKit
set_option maxHeartbeats 2000000
theorem sqf_div {m a : Nat} (h : a < m * m) : a / m < m := Nat.div_lt_of_lt_mul h
theorem sqf_mod {m a : Nat} (h : a < m * m) : a % m < m := Nat.mod_lt _ (by rcases Nat.eq_zero_or_pos m with e | e; (subst e; simp at h); exact e)
theorem tdivN (a m : Nat) : Int.tdiv (a : Int) (m : Int) = ((a / m : Nat) : Int) := (Int.ofNat_tdiv a m).symm
theorem tmodN (a m : Nat) : Int.tmod (a : Int) (m : Int) = ((a % m : Nat) : Int) := (Int.ofNat_tmod a m).symm

set_option maxRecDepth 100000 in
theorem collS_any (A : Option Addr) (n c : Nat) (f : List (List Int)) (B : Option Addr) (m d : Nat) (s : List (List Int)) (w : World) (hz : ZArg 1048576 w A n f B m s) (hp : PMap f s) :
    Calls Try.prog 53 #[.agg #[.slice A n c, .slice B m d]] w fun e w' => ∃ g k zs, e = .returned (.slice (some ⟨g, 0, none⟩) k k) ∧ Below w.heap.size w w' ∧ w.heap.size ≤ g ∧ OwnB 2 w' g zs ∧ ((NoCol f s n ∧ zs = [] ∧ k = 0) ∨ ∃ a b, FstCol f s n a b ∧ zs = [((a / n : Nat) : Int), ((a % n : Nat) : Int), ((b / n : Nat) : Int), ((b % n : Nat) : Int)] ∧ k = 4) := by
  have hnb := hz.sz.nb
  have HZ := hide hz
  have HB0 := hide ((Below.refl _ w).alloc (Nat.le_refl _) (Obj.cells #[Value.slice A n c, Value.slice B m d] 29))
  have HK0 := hide (Blk.new w 29 [.slice A n c, .slice B m d])
  have HFL := hide hz.sz.fl
  have HP := hide hp
  have h12 := hz.small hp
  obtain rfl := hz.same hp
  have hm0 : (m : Int) ≠ 0 := by omega
  have hm1 : (m : Int) ≠ -1 := by omega
  clear hp hz
  obtain ⟨N, hN⟩ : ∃ N, m * m = N := ⟨_, rfl⟩
  have hN144 : N ≤ 144 := by rw [← hN]; exact Nat.mul_le_mul h12.2 h12.2
  have hNz : (m : Int) * (m : Int) = (N : Int) := by rw [← hN]; exact (Int.natCast_mul m m).symm
  have HN := hide hN
  clear hN
  go_enter Try.func53, Try.ntmps53
  go_wp2_with fail
  go_loopw [4] (fun i wr => ∃ x : Nat, x ≤ N ∧ i = .int .i64 x ∧ Below w.heap.size w wr ∧ Blk wr w.heap.size 29 [.slice A m c, .slice B m d] ∧ ∀ i j, i < x → j < N → j ≠ i → ledK f s m i ≠ ledK f s m j) (fun i _ => N - (intOf i).toNat)
  case atStart => exact ⟨0, Nat.zero_le _, rfl, HB0.out, HK0.out, fun a b ha => absurd ha (Nat.not_lt_zero _)⟩
  case round =>
    obtain ⟨a, ha, rfl, hbe, hkk, hall⟩ := hrel
    have HB := hide hbe
    have HK := hide hkk
    have HALL := hide hall
    clear hbe hkk hall
    by_cases hlt : a < N
    · have haz : (a : Int) < N := by omega
      go_wp2_with fail
      obtain ⟨wo, rfl⟩ : ∃ wo : World, wo = wr := ⟨_, rfl⟩
      go_loopw [5] (fun i wi => ∃ y : Nat, y ≤ N ∧ i = .int .i64 y ∧ Below w.heap.size w wi ∧ Blk wi w.heap.size 29 [.slice A m c, .slice B m d] ∧ ∀ j, j < y → j ≠ a → ledK f s m a ≠ ledK f s m j) (fun i _ => N - (intOf i).toNat)
      case atStart => exact ⟨0, Nat.zero_le _, rfl, HB.out, HK.out, fun b hb => absurd hb (Nat.not_lt_zero _)⟩
      case round =>
        obtain ⟨b, hb, rfl, hbi, hki, halli⟩ := hrel
        have HBI := hide hbi
        have HKI := hide hki
        have HALLI := hide halli
        clear hbi hki halli
        by_cases hlty : b < N
        · have hbz : (b : Int) < N := by omega
          have td1 := tdivN a m
          have td2 := tmodN a m
          have td3 := tdivN b m
          have td4 := tmodN b m
          obtain ⟨x, hx⟩ : ∃ x, a / m = x := ⟨_, rfl⟩
          obtain ⟨y, hy⟩ : ∃ y, a % m = y := ⟨_, rfl⟩
          obtain ⟨u, hu⟩ : ∃ u, b / m = u := ⟨_, rfl⟩
          obtain ⟨v, hv⟩ : ∃ v, b % m = v := ⟨_, rfl⟩
          have hxn : x < m := by rw [← hx]; exact sqf_div (by rw [HN.out]; exact hlt)
          have hyn : y < m := by rw [← hy]; exact sqf_mod (by rw [HN.out]; exact hlt)
          have hun : u < m := by rw [← hu]; exact sqf_div (by rw [HN.out]; exact hlty)
          have hvn : v < m := by rw [← hv]; exact sqf_mod (by rw [HN.out]; exact hlty)
          rw [hx] at td1
          rw [hy] at td2
          rw [hu] at td3
          rw [hv] at td4
          have HX := hide hx
          have HY := hide hy
          have HU := hide hu
          have HV := hide hv
          clear hx hy hu hv
          go_wp2_with fail
          go_region
          clear td1 td2 td3 td4
          have k0 := HKI.out.cell 0 _ rfl
          have k1 := HKI.out.cell 1 _ rfl
          obtain ⟨bb, o, b2, o2, bx, ox, cx, by', oy, cy, rfl, rfl, h1, h2, h3, h4, _, _, _, _⟩ := (HZ.out.later HBI.out).reads HP.out hxn hyn
          obtain ⟨b', o', b2', o2', bu, ou, cu, bv, ov, cv, e1, e2, g1, g2, g3, g4, _, _, _, _⟩ := (HZ.out.later HBI.out).reads HP.out hun hvn
          injection e1 with e1
          injection e1 with e1 e3 _
          injection e2 with e2
          injection e2 with e2 e4 _
          subst e1
          subst e3
          subst e2
          subst e4
          obtain ⟨p1, hp1⟩ : ∃ zz, ap f x y = zz := ⟨_, rfl⟩
          obtain ⟨p2, hp2⟩ : ∃ zz, ap s x y = zz := ⟨_, rfl⟩
          obtain ⟨q1, hq1⟩ : ∃ zz, ap f u v = zz := ⟨_, rfl⟩
          obtain ⟨q2, hq2⟩ : ∃ zz, ap s u v = zz := ⟨_, rfl⟩
          rw [hp1] at h3
          rw [hp2] at h4
          rw [hq1] at g3
          rw [hq2] at g4
          have hka : ledK f s m a = (p1, p2) := by unfold ledK; rw [HX.out, HY.out, hp1, hp2]
          have hkb : ledK f s m b = (q1, q2) := by unfold ledK; rw [HU.out, HV.out, hq1, hq2]
          have HKA := hide hka
          have HKB := hide hkb
          clear hka hkb hp1 hp2 hq1 hq2
          have hxz : (x : Int) < m := by omega
          have hyz : (y : Int) < m := by omega
          have huz : (u : Int) < m := by omega
          have hvz : (v : Int) < m := by omega
          have hcs : (((a : Int) != (b : Int)) = false ∧ Hid (b = a)) ∨ (((a : Int) != (b : Int)) = true ∧ ((p1 : Int) == (q1 : Int)) = false ∧ Hid (ledK f s m a ≠ ledK f s m b)) ∨ (((a : Int) != (b : Int)) = true ∧ ((p1 : Int) == (q1 : Int)) = true ∧ ((p2 : Int) == (q2 : Int)) = false ∧ Hid (ledK f s m a ≠ ledK f s m b)) ∨ (((a : Int) != (b : Int)) = true ∧ ((p1 : Int) == (q1 : Int)) = true ∧ ((p2 : Int) == (q2 : Int)) = true ∧ Hid (b ≠ a ∧ ledK f s m a = ledK f s m b)) := by
            by_cases z0 : b = a
            · exact .inl ⟨by simp [z0], hide z0⟩
            · by_cases z1 : p1 = q1
              · by_cases z2 : p2 = q2
                · exact .inr (.inr (.inr ⟨by simp; omega, by simp [z1], by simp [z2], hide ⟨z0, by rw [HKA.out, HKB.out, z1, z2]⟩⟩))
                · exact .inr (.inr (.inl ⟨by simp; omega, by simp [z1], by simp; omega, hide (by rw [HKA.out, HKB.out]; intro e; injection e with _ e; exact z2 e)⟩))
              · exact .inr (.inl ⟨by simp; omega, by simp; omega, hide (by rw [HKA.out, HKB.out]; intro e; injection e with e _; exact z1 e)⟩)
          rcases hcs with ⟨t1, HT⟩ | ⟨t1, t2, HT⟩ | ⟨t1, t2, t3, HT⟩ | ⟨t1, t2, t3, HT⟩
          · go_wp2_with fail
            go_quiet (fail)
            clear h1 h2 h3 h4 g1 g2 g3 g4 k0 k1
            have hBN := bdrewN HBI.out (1 + nq)
            have hKN := HKI.out.drewN (1 + nq)
            have HBN := hide hBN
            have HKN := hide hKN
            clear hBN hKN
            go_wp2_with fail
            go_roundw
            case rel =>
              exact ⟨b + 1, by omega, by go_num, HBN.out, HKN.out, fun j hj hne => by
                by_cases e : j = b
                · exact absurd (e.trans HT.out) hne
                · exact HALLI.out j (by omega) hne⟩
            case measure => simp [intOf]; omega
          · go_wp2_with fail
            go_quiet (fail)
            clear h1 h2 h3 h4 g1 g2 g3 g4 k0 k1
            have hBN := bdrewN HBI.out (1 + nq)
            have hKN := HKI.out.drewN (1 + nq)
            have HBN := hide hBN
            have HKN := hide hKN
            clear hBN hKN
            go_wp2_with fail
            go_roundw
            case rel =>
              exact ⟨b + 1, by omega, by go_num, HBN.out, HKN.out, fun j hj hne => by
                by_cases e : j = b
                · rw [e]; exact HT.out
                · exact HALLI.out j (by omega) hne⟩
            case measure => simp [intOf]; omega
          · go_wp2_with fail
            go_quiet (fail)
            clear h1 h2 h3 h4 g1 g2 g3 g4 k0 k1
            have hBN := bdrewN HBI.out (1 + nq)
            have hKN := HKI.out.drewN (1 + nq)
            have HBN := hide hBN
            have HKN := hide hKN
            clear hBN hKN
            go_wp2_with fail
            go_roundw
            case rel =>
              exact ⟨b + 1, by omega, by go_num, HBN.out, HKN.out, fun j hj hne => by
                by_cases e : j = b
                · rw [e]; exact HT.out
                · exact HALLI.out j (by omega) hne⟩
            case measure => simp [intOf]; omega
          · go_wp2_with fail
            go_quiet (fail)
            clear h1 h2 h3 h4 g1 g2 g3 g4 k0 k1
            have hBN := bdrewN HBI.out (1 + nq)
            have hKN := HKI.out.drewN (1 + nq)
            have HBN := hide hBN
            have HKN := hide hKN
            clear hBN hKN
            go_wp2_with fail
            refine bp_gen fun wf hwf => ?_
            have HBF : Below w.heap.size w wf := by rw [hwf]; exact HBN.out.alloc HBN.out.size _
            have HOF : OwnB 2 wf (wr.drewN (1 + nq)).heap.size [(x : Int), (y : Int), (u : Int), (v : Int)] := by
              rw [hwf]
              refine ⟨_, heap_alloc_new _ _, fun i hi => ?_⟩
              simp at hi
              rcases i with _ | _ | _ | _ | i
              · rfl
              · rfl
              · rfl
              · rfl
              · omega
            have hlo : w.heap.size ≤ (wr.drewN (1 + nq)).heap.size := HBN.out.size
            clear hwf
            have HFC : Hid (FstCol f s m a b) := hide ⟨by rw [HN.out]; exact hlt, by rw [HN.out]; exact hlty, fun e => HT.out.1 e.symm, HT.out.2, fun i hi j hj => HALL.out i j hi (by rw [← HN.out]; exact hj), fun j hj hne => HALLI.out j hj hne⟩
            go_ret
            exact ⟨_, 4, _, rfl, HBF, hlo, HOF, .inr ⟨a, b, HFC.out, by rw [HX.out, HY.out, HU.out, HV.out], rfl⟩⟩
        · have hyn : b = N := by omega
          subst hyn
          go_wp2_with fail
          go_roundw
          case rel =>
            refine ⟨a + 1, by omega, by go_num, HBI.out, HKI.out, fun i j hi hj hne => ?_⟩
            by_cases e : i = a
            · subst e; exact HALLI.out j hj hne
            · exact HALL.out i j (by omega) hj hne
          case measure => simp [intOf]; omega
    · have hxn : a = N := by omega
      subst hxn
      go_wp2_with fail
      refine bp_gen fun wf hwf => ?_
      have HBF : Below w.heap.size w wf := by rw [hwf]; exact HB.out.alloc HB.out.size _
      have HOF : OwnB 2 wf wr.heap.size [] := by rw [hwf]; exact ⟨_, heap_alloc_new _ _, fun i hi => absurd hi (Nat.not_lt_zero _)⟩
      have hlo : w.heap.size ≤ wr.heap.size := HB.out.size
      clear hwf
      go_ret
      exact ⟨_, 0, [], rfl, HBF, hlo, HOF, .inl ⟨fun i j hi hj hne => HALL.out i j (by rw [← HN.out]; exact hi) (by rw [← HN.out]; exact hj) (fun e => hne e.symm), rfl, rfl⟩⟩
end Go.Proofs.Ytbhlcfcmjildmaa
namespace Go.Proofs.Ytbhlcfcmjildmaa
open Go Go.RowKit
open Go.ChangeMaps (setBlock heap_setBlock_same heap_setBlock_other)
open Classical
set_option maxRecDepth 100000

/-- The map from each pair to the list of those that are led to it, among the first k: G tells the slices. -/
structure Led (w : World) (b B n k : Nat) (f s : List (List Int)) (G : Nat × Nat → Value) : Prop where
  map : ∃ V, MapV w b k V ∧ ∀ p : Nat × Nat, (V (pkey p.1 p.2)).getD (.slice none 0 0) = G p
  low : b < B
  rows : ∀ p : Nat × Nat, w.ownsRow B 84 2 (G p) (ledL f s n k p).length (pcs n (ledL f s n k p))
  ne : ∀ (p p' : Nat × Nat) (g : Nat), p ≠ p' → (G p).ownBlock = some g → (G p').ownBlock ≠ some g

theorem Led.start {w : World} {b : Nat} {V : Value → Option Value} (h : MapV w b 0 V) (hV : ∀ v, V v = none) (B n : Nat) (f s : List (List Int)) (hb : b < B) : Led w b B n 0 f s (fun _ => .slice none 0 0) :=
  ⟨⟨V, h, fun p => by rw [hV]; rfl⟩, hb, fun p => ⟨by simp [ledL, pcs], .inl ⟨rfl, by simp [ledL]⟩⟩, fun _ _ _ _ h => by cases h⟩
theorem Led.lt {w : World} {b B n k : Nat} {f s : List (List Int)} {G : Nat × Nat → Value} (h : Led w b B n k f s G) : b < w.heap.size := by
  obtain ⟨V, hm, _⟩ := h.map
  exact hm.lt
theorem ownsRow2_later {w w' : World} {B n : Nat} {t : TypeId} {v : Value} {xs : List Value} (h : w.ownsRow B t 2 v n xs) (hb : Below w.heap.size w w') : w'.ownsRow B t 2 v n xs := by
  obtain ⟨hl, h | ⟨g, cap, cur, hv, h1, hg, hn, hcap, hsz, hxs⟩⟩ := h
  · exact ⟨hl, .inl h⟩
  · exact ⟨hl, .inr ⟨g, cap, cur, hv, h1, (hb.block g (Array.getElem?_eq_some_iff.1 hg).1).trans hg, hn, hcap, hsz, hxs⟩⟩
theorem Led.later {w w' : World} {b B n k : Nat} {f s : List (List Int)} {G : Nat × Nat → Value} (h : Led w b B n k f s G) (hb : Below w.heap.size w w') : Led w' b B n k f s G := by
  obtain ⟨⟨V, hm, hV⟩, h1, h2, h3⟩ := h
  exact ⟨⟨V, hm.later hb, hV⟩, h1, fun p => ownsRow2_later (h2 p) hb, h3⟩

theorem led_low {w : World} {b B n k : Nat} {f s : List (List Int)} {G : Nat × Nat → Value} (h : Led w b B n k f s G) (p : Nat × Nat) : some b ≠ (G p).ownBlock := fun e => by
  have h1 := (h.rows p).lt b e.symm
  have h2 := h.low
  omega

/-- A pair is appended to the list at the pair to which it is led: the entry is looked up, the slice appended to, and laid back. -/
theorem Led.step {w : World} {b B n k : Nat} {f s : List (List Int)} {G : Nat × Nat → Value} {t : TypeId} (h : Led w b B n k f s G) (ht : Try.prog.underlying t = some (.map 84 87)) (hz : ∀ u : World, (zeroValue 87).run Try.prog u = .ok (.slice none 0 0) u) (hk : k < maxLen) (q : Nat × Nat) (hq : ledK f s n k = q) (hq1 : q.1 < 4611686018427387904) (hq2 : q.2 < 4611686018427387904) :
    ∃ st W, (Instr.mapEntry t (.map (some b)) (.agg #[.int .i64 q.1, .int .i64 q.2])).run Try.prog w = .ok (.tuple #[G q, .int .i64 st]) W ∧ (∀ i, i ≠ b → W.heap[i]? = w.heap[i]?) ∧ W.heap.size = w.heap.size ∧ w.grownBy W (some b) ∧
      (W.ownsRow B 84 2 (G q) (ledL f s n k q).length (pcs n (ledL f s n k q))) ∧
      ∀ (w1 : World) (v' : Value), W.grownBy w1 (G q).ownBlock → w1.ownsRow B 84 2 v' ((ledL f s n k q).length + 1) (pcs n (ledL f s n k q) ++ [.int .i64 ((k / n : Nat) : Int), .int .i64 ((k % n : Nat) : Int)]) → (v'.ownBlock = (G q).ownBlock ∨ v'.ownBlock = some W.heap.size) →
        ∃ w3, (Instr.entryStore t (.map (some b)) (.int .i64 st) v').run Try.prog w1 = .ok () w3 ∧ w1.grownBy w3 (some b) ∧ Led w3 b B n (k + 1) f s (fun p => if p = q then v' else G p) := by
  obtain ⟨V, hm, hV⟩ := h.map
  have hlow := h.low
  have hrows := h.rows
  have hne := h.ne
  have hltb := hm.lt
  obtain ⟨kl, hkey⟩ := mp_key w q.1 q.2 hq1 hq2
  obtain ⟨st, es1, clock1, hE, hS⟩ := hm.entry ht hz hk hkey
  have hbk : ∃ es clock, w.heap[b]? = some (.map es clock) := by
    obtain ⟨D, ⟨es, clock, hb, _⟩, _⟩ := hm
    exact ⟨es, clock, hb⟩
  obtain ⟨es0, clock0, hb0⟩ := hbk
  have hother : ∀ i, i ≠ b → (setBlock w b (.map es1 clock1)).heap[i]? = w.heap[i]? := fun i hi => heap_setBlock_other hb0 _ hi
  have hsize : (setBlock w b (.map es1 clock1)).heap.size = w.heap.size := by simp [setBlock]
  have hgr : w.grownBy (setBlock w b (.map es1 clock1)) (some b) := ⟨rfl, rfl, rfl, by simp [setBlock], fun i _ hi => heap_setBlock_other hb0 _ (fun e => hi (by rw [e]))⟩
  have hkeep : ∀ p : Nat × Nat, (setBlock w b (.map es1 clock1)).ownsRow B 84 2 (G p) (ledL f s n k p).length (pcs n (ledL f s n k p)) := fun p => (hrows p).kept hgr (by
    cases e : (G p).ownBlock with
    | none => exact .inl rfl
    | some g => exact .inr (fun e2 => led_low h p (by rw [e, e2])))
  refine ⟨st, setBlock w b (.map es1 clock1), ?_, hother, hsize, hgr, hkeep q, fun w1 v' hg1 hown hat => ?_⟩
  · rw [← hV q]; exact hE
  have hb1 : w1.heap[b]? = some (.map es1 clock1) := (hg1.block b (by rw [hsize]; exact hltb) (led_low h q)).trans (heap_setBlock_same hb0 _)
  obtain ⟨es', clock', hrun, hMap⟩ := hS w1 v' hb1
  have hgr3 : w1.grownBy (setBlock w1 b (.map es' clock')) (some b) := ⟨rfl, rfl, rfl, by simp [setBlock], fun i _ hi => heap_setBlock_other hb1 _ (fun e => hi (by rw [e]))⟩
  refine ⟨setBlock w1 b (.map es' clock'), hrun, hgr3, ⟨_, hMap, fun p => ?_⟩, hlow, fun p => ?_, fun p p' g hpp hg hg' => ?_⟩
  · by_cases e : p = q
    · subst e
      simp
    · have e2 : pkey p.1 p.2 ≠ pkey q.1 q.2 := fun e3 => e (by
        obtain ⟨e4, e5⟩ := pkey_inj e3
        exact Prod.ext e4 e5)
      simp only [if_neg e, if_neg e2]
      exact hV p
  · rw [ledL_succ]
    by_cases e : p = q
    · subst e
      simp only [if_pos, hq]
      rw [List.length_append, List.length_singleton, pcs_snoc]
      refine hown.kept hgr3 ?_
      cases e : v'.ownBlock with
      | none => exact .inl rfl
      | some g =>
        refine .inr (fun e2 => ?_)
        injection e2 with e2
        have := hown.lt g e
        omega
    · have e2 : ¬ ledK f s n k = p := fun e3 => e (e3.symm.trans hq)
      simp only [if_neg e, if_neg e2]
      have h1 : w1.ownsRow B 84 2 (G p) (ledL f s n k p).length (pcs n (ledL f s n k p)) := (hkeep p).kept hg1 (by
        cases e3 : (G p).ownBlock with
        | none => exact .inl rfl
        | some g => exact .inr (fun e4 => hne p q g e e3 e4.symm))
      refine h1.kept hgr3 ?_
      cases e3 : (G p).ownBlock with
      | none => exact .inl rfl
      | some g => exact .inr (fun e4 => led_low h p (by rw [e3, e4]))
  · have hnew : ∀ p'', p'' ≠ q → ∀ g, v'.ownBlock = some g → (G p'').ownBlock ≠ some g := fun p'' hp g hg hg' => by
      rcases hat with e | e
      · exact hne p'' q g hp hg' (e ▸ hg)
      · rw [hg] at e
        injection e with e
        have := (hrows p'').lt g hg'
        omega
    by_cases e : p = q
    · have e2 : p' ≠ q := fun e2 => hpp (e.trans e2.symm)
      simp only [if_pos e] at hg
      simp only [if_neg e2] at hg'
      exact hnew p' e2 g hg hg'
    · simp only [if_neg e] at hg
      by_cases e2 : p' = q
      · simp only [if_pos e2] at hg'
        exact hnew p e g hg' hg
      · simp only [if_neg e2] at hg'
        exact hne p p' g hpp hg hg'
end Go.Proofs.Ytbhlcfcmjildmaa
namespace Go.Proofs.Ytbhlcfcmjildmaa
open Go Go.RowKit
set_option maxHeartbeats 1000000

/-- What is asked of the function value: at each pair of elements, in each later world, it hands back the pair of both functions' values, and leaves what there was. -/
def PairFnB (P : Program) (F : FuncId) (u : Value) (n : Nat) (h1 h2 : Nat → Nat → Int) (w : World) : Prop :=
  ∀ (W : World) (x y : Nat), x < n → y < n → Below w.heap.size w W → Calls P F #[u, .agg #[.int .i64 x, .int .i64 y]] W fun e w' => e = .returned (.agg #[.int .i64 (h1 x y), .int .i64 (h2 x y)]) ∧ Below W.heap.size W w'

/-- After k pairs. -/
def pmpTo (h : Nat → Nat → Int) (n k : Nat) : Nat → Nat → Int := fun a b => if a * n + b < k then h a b else 0
theorem pmpTo_upd (h : Nat → Nat → Int) (n k x y : Nat) (hx : k / n = x) (hy : k % n = y) (_hyn : y < n) : ∀ a b, a < n → b < n → updF (pmpTo h n k) x y (h x y) a b = pmpTo h n (k + 1) a b := by
  intro a b _ hb
  have hk : k = x * n + y := by rw [← hx, ← hy]; exact (pair_eta n k).symm
  unfold updF pmpTo
  by_cases e : a = x ∧ b = y
  · obtain ⟨rfl, rfl⟩ := e
    rw [if_pos ⟨rfl, rfl⟩, if_pos (by omega)]
  · rw [if_neg e]
    have hne : a * n + b ≠ k := fun hh => e (by
      have h1 := pair_div n a b hb
      have h2 := pair_mod n a b hb
      rw [hh] at h1 h2
      omega)
    by_cases h2 : a * n + b < k
    · rw [if_pos h2, if_pos (by omega)]
    · rw [if_neg h2, if_neg (by omega)]

end Go.Proofs.Ytbhlcfcmjildmaa
namespace Go.Proofs.Ytbhlcfcmjildmaa
open Go Go.RowKit
set_option maxHeartbeats 2000000
theorem em_new {w : World} {v : Value} {t : TypeId} : ∀ j u, [v][j]? = some u → (w.alloc (.cells #[v] t)).cell? ((⟨w.heap.size, 0, none⟩ : Addr).add j) = some u := by
  intro j u hj
  match j, hj with
  | 0, hj => simp at hj; subst hj; simp [Addr.add, World.cell?_alloc_new]

theorem em_new2 {w : World} {o : Obj} {v : Value} {t : TypeId} : ∀ j u, [v][j]? = some u → ((w.alloc o).alloc (.cells #[v] t)).drew.cell? ((⟨w.heap.size + 1, 0, none⟩ : Addr).add j) = some u := by
  intro j u hj
  have h := em_new (w := w.alloc o) (v := v) (t := t) j u hj
  have e : (w.alloc o).heap.size = w.heap.size + 1 := by simp
  rw [e] at h
  exact h
/-- The world in which a row is appended. -/
theorem em_world (w : World) (n : Nat) (u : Value) (ts t : TypeId) : Below w.heap.size w ((w.alloc (.cells (madeCells #[.int .i64 0] n) t)).alloc (.cells #[u] ts)).drew ∧ ((w.alloc (.cells (madeCells #[.int .i64 0] n) t)).alloc (.cells #[u] ts)).drew.heap.size = w.heap.size + 1 + 1 ∧ PreIs ((w.alloc (.cells (madeCells #[.int .i64 0] n) t)).alloc (.cells #[u] ts)).drew w.heap.size t n (fun _ => .int .i64 0) := by
  have h0 := PreIs.of_row (World.rowIs_made w (.int .i64 0) n t)
  have h1 : Below w.heap.size w ((w.alloc (.cells (madeCells #[.int .i64 0] n) t)).alloc (.cells #[u] ts)) := ((Below.refl _ _).alloc (Nat.le_refl _) _).alloc (by simp) _
  refine ⟨h1.drew, by simp [World.drew], ?_⟩
  exact (h0.later' ((Below.refl _ _).alloc (Nat.le_refl _) _) : PreIs ((w.alloc (.cells (madeCells #[.int .i64 0] n) t)).alloc (.cells #[u] ts)) w.heap.size t n (fun _ => .int .i64 0))

def EmPost (n : Nat) (w : World) (e : Ending) (w' : World) : Prop := ∃ g1 c1 g2 c2 G1 G2, e = .returned (.agg #[.slice (some ⟨g1, 0, none⟩) n c1, .slice (some ⟨g2, 0, none⟩) n c2]) ∧ Below w.heap.size w w' ∧ Duo 26 2 w.heap.size w' n g1 G1 (fun _ _ => 0) g2 G2 (fun _ _ => 0)
set_option maxRecDepth 100000 in
theorem emptyS_any (n : Nat) (w : World) (h1 : 1 ≤ n) (h12 : n ≤ 12) :
    Calls Try.prog 81 #[.int .i64 n] w (EmPost n w) := by
  have hmk := run_make_row' (P := Try.prog) 26 2 (.int .i64 0) 8 Try.underlying26 ntInfo rfl .i64 .i64 n (by omega) (by omega)
  obtain ⟨i2, hj, hy0, hy1, hy2⟩ := info_parts ntInfo2
  go_enter Try.func81, Try.ntmps81
  go_wp2_with fail
  refine wp_gen fun w0 hw0 => ?_
  have hb0 : Below w.heap.size w w0 := by rw [hw0]; exact ((Below.refl _ _).alloc (Nat.le_refl _) _).alloc (by simp) _
  have HB0 := hide hb0
  have HR0 : Hid (Blk w0 w.heap.size 29 [.slice none 0 0, .slice none 0 0]) := hide (by rw [hw0]; exact (Blk.new _ _ _).alloc _)
  have HO0 : Hid (Blk w0 (w.heap.size + 1) 29 [.slice none 0 0, .slice none 0 0]) := hide (by rw [hw0]; have h := Blk.new (w.alloc (Obj.cells #[Value.slice none 0 0, Value.slice none 0 0] 29)) 29 [.slice none 0 0, .slice none 0 0]; simpa using h)
  have hs0 : w0.heap.size = w.heap.size + 1 + 1 := by rw [hw0]; simp
  have he := Emp.start w0 26 2 n HO0.out.lt
  rw [hs0] at he
  have HE0 := hide he
  clear hw0 hb0 he
  go_loopw [4] (fun i wr => ∃ (x : Nat) (v1 v2 : Value) (G1 G2 : Nat → Nat), x ≤ n ∧ i = .int .i64 x ∧ Below w.heap.size w wr ∧ Blk wr w.heap.size 29 [.slice none 0 0, .slice none 0 0] ∧ Blk wr (w.heap.size + 1) 29 [v1, v2] ∧ Emp 26 2 (w.heap.size + 1 + 1) wr (w.heap.size + 1) v1 v2 x x n G1 G2) (fun i _ => n - (intOf i).toNat)
  case atStart => exact ⟨0, _, _, _, _, Nat.zero_le _, rfl, HB0.out, HR0.out, HO0.out, HE0.out⟩
  case round =>
    obtain ⟨x, v1, v2, G1, G2, hx, rfl, hbe, hrr, hoo, hem⟩ := hrel
    have HB := hide hbe
    have HR := hide hrr
    have HO := hide hoo
    have HE := hide hem
    clear hbe hrr hoo hem
    by_cases hlt : x < n
    · have hxz : (x : Int) < n := by omega
      have k0 := HO.out.cell 0 _ rfl
      have k1 := HO.out.cell 1 _ rfl
      have k2 := HO.out.frozen 0
      have k3 := HO.out.frozen 1
      have k4 := fun o => (HO.out.alloc o).cell 0 _ rfl
      have k5 := fun o1 o2 => ((HO.out.alloc o1).alloc o2).cell 0 _ rfl
      go_wp2_with fail
      have HOW1 := hide HE.out.o1
      have hobl := HO.out.lt
      go_region_law (first | (refine step_append_lies _ (by rfl) _ _ _ (by rfl) (w.heap.size + 1 + 1) 26 i2 _ 1 24 Try.underlying22 hj hy0 hy1 hy2 rfl (by omega) v1 x (hdr G1 n x) (by rfl) ((HOW1.out.alloc _).alloc _) ⟨wr.heap.size + 1, 0, none⟩ 1 1 [.slice (some ⟨wr.heap.size, 0, none⟩) n n] (by rfl) (by rfl) (by first | exact em_new | exact em_new2) (by simp [Value.oneCell']) (by omega) (by unfold maxLen; omega) (by omega) (by simp; omega) (wr.heap.size + 1 + 1) (by simp) ?_; intro gg cap w5 hown5 hgrow5 hat5 hlt5; obtain ⟨hw1, hw2, hw3⟩ := em_world wr n (.slice (some ⟨wr.heap.size, 0, none⟩) n n) 26 2; have hbk := HE.out.kept HO.out hw1 hgrow5; have k0 := hbk.cell 0 _ rfl; have k1 := hbk.cell 1 _ rfl; have k2 := hbk.frozen 0; have k3 := hbk.frozen 1))
      all_goals
        have HE3 := hide (HE.out.push (q := 0) (by decide) hw1 hw2 hw3 hown5 hgrow5 (hat5.imp (fun e => e.symm) (fun e => by rw [e]; rfl)))
        have hr3 : Blk (w5.setCell ⟨w.heap.size + 1, 0, none⟩ (.slice (some ⟨gg, 0, none⟩) (x + 1) cap)) w.heap.size 29 [.slice none 0 0, .slice none 0 0] := HE.out.keptR HR.out (by omega) (by omega) hw1 hgrow5 _ _
        have hb3 : Below w.heap.size w (w5.setCell ⟨w.heap.size + 1, 0, none⟩ (.slice (some ⟨gg, 0, none⟩) (x + 1) cap)) := ((HB.out.trans (hw1.mono HB.out.size)).grown hgrow5 (Nat.le_trans HB.out.size hw1.size) (fun j e => by have := (own_type HE.out.o1 e).2.1; omega)).setCell (p := ⟨w.heap.size + 1, 0, none⟩) (by show w.heap.size ≤ w.heap.size + 1; omega) _
        have ho3 : Blk (w5.setCell ⟨w.heap.size + 1, 0, none⟩ (.slice (some ⟨gg, 0, none⟩) (x + 1) cap)) (w.heap.size + 1) 29 [.slice (some ⟨gg, 0, none⟩) (x + 1) cap, v2] := hbk.set 0 _
        have HR3 := hide hr3
        have HB3 := hide hb3
        have HO3 := hide ho3
        clear k0 k1 k2 k3 k4 k5 hr3 hb3 ho3 hown5 hgrow5 hat5 hlt5 hw1 hw2 hw3 hbk hobl HOW1
        generalize hw6 : w5.setCell ⟨w.heap.size + 1, 0, none⟩ (.slice (some ⟨gg, 0, none⟩) (x + 1) cap) = w6 at HE3 HR3 HB3 HO3 ⊢
        clear hw6
        have k0 := HO3.out.cell 0 _ rfl
        have k1 := HO3.out.cell 1 _ rfl
        have k2 := HO3.out.frozen 0
        have k3 := HO3.out.frozen 1
        have k4 := fun o => (HO3.out.alloc o).cell 1 _ rfl
        have k5 := fun o1 o2 => ((HO3.out.alloc o1).alloc o2).cell 1 _ rfl
        go_wp2_with fail
        have HE4 := hide HE3.out.swapped
        have HOW2 := hide HE4.out.o1
        have hobl := HO3.out.lt
        go_region_law (first | (refine step_append_lies _ (by rfl) _ _ _ (by rfl) (w.heap.size + 1 + 1) 26 i2 _ 1 24 Try.underlying22 hj hy0 hy1 hy2 rfl (by omega) v2 x (hdr G2 n x) (by rfl) ((HOW2.out.alloc _).alloc _) ⟨w6.heap.size + 1, 0, none⟩ 1 1 [.slice (some ⟨w6.heap.size, 0, none⟩) n n] (by rfl) (by rfl) (by first | exact em_new | exact em_new2) (by simp [Value.oneCell']) (by omega) (by unfold maxLen; omega) (by omega) (by simp; omega) (w6.heap.size + 1 + 1) (by simp) ?_; intro gg2 cap2 w7 hown7 hgrow7 hat7 hlt7; obtain ⟨hw1, hw2, hw3⟩ := em_world w6 n (.slice (some ⟨w6.heap.size, 0, none⟩) n n) 26 2; have hbk := HE4.out.kept HO3.out hw1 hgrow7; have k0 := hbk.cell 0 _ rfl; have k1 := hbk.cell 1 _ rfl; have k2 := hbk.frozen 0; have k3 := hbk.frozen 1))
        all_goals
          have HE5 := hide (HE4.out.push (q := 1) (by decide) hw1 hw2 hw3 hown7 hgrow7 (hat7.imp (fun e => e.symm) (fun e => by rw [e]; rfl)))
          have hr5 : Blk (w7.setCell ⟨w.heap.size + 1, 1, none⟩ (.slice (some ⟨gg2, 0, none⟩) (x + 1) cap2)) w.heap.size 29 [.slice none 0 0, .slice none 0 0] := HE4.out.keptR HR3.out (by omega) (by omega) hw1 hgrow7 _ _
          have hb5 : Below w.heap.size w (w7.setCell ⟨w.heap.size + 1, 1, none⟩ (.slice (some ⟨gg2, 0, none⟩) (x + 1) cap2)) := ((HB3.out.trans (hw1.mono HB3.out.size)).grown hgrow7 (Nat.le_trans HB3.out.size hw1.size) (fun j e => by have := (own_type HE4.out.o1 e).2.1; omega)).setCell (p := ⟨w.heap.size + 1, 1, none⟩) (by show w.heap.size ≤ w.heap.size + 1; omega) _
          have ho5 : Blk (w7.setCell ⟨w.heap.size + 1, 1, none⟩ (.slice (some ⟨gg2, 0, none⟩) (x + 1) cap2)) (w.heap.size + 1) 29 [.slice (some ⟨gg, 0, none⟩) (x + 1) cap, .slice (some ⟨gg2, 0, none⟩) (x + 1) cap2] := hbk.set 1 _
          have HR5 := hide hr5
          have HB5 := hide hb5
          have HO5 := hide ho5
          clear k0 k1 k2 k3 k4 k5 hr5 hb5 ho5 hown7 hgrow7 hat7 hlt7 hw1 hw2 hw3 hbk hobl HOW2
          go_wp2_with fail
          go_roundw
          case rel => exact ⟨x + 1, _, _, _, _, by omega, by go_num, HB5.out, HR5.out, HO5.out, HE5.out.swapped⟩
          case measure => simp [intOf]; omega
    · have hxn : x = n := by omega
      subst hxn
      have k0 := HO.out.cell 0 _ rfl
      have k1 := HO.out.cell 1 _ rfl
      have k2 := HR.out.cell 0 _ rfl
      have k3 := HR.out.cell 1 _ rfl
      have k4 := HR.out.frozen 0
      have k5 := HR.out.frozen 1
      obtain ⟨g1, c1, hv1⟩ : ∃ g c, v1 = .slice (some ⟨g, 0, none⟩) x c := by
        rcases HE.out.o1.2 with ⟨_, h0⟩ | ⟨g, cap, cur, hv, _⟩
        · omega
        · exact ⟨g, cap, hv⟩
      obtain ⟨g2, c2, hv2⟩ : ∃ g c, v2 = .slice (some ⟨g, 0, none⟩) x c := by
        rcases HE.out.o2.2 with ⟨_, h0⟩ | ⟨g, cap, cur, hv, _⟩
        · omega
        · exact ⟨g, cap, hv⟩
      subst hv1
      subst hv2
      go_wp2_with fail
      clear k0 k1 k2 k3 k4 k5
      refine bp_gen fun wf hwf => ?_
      have HRF : Blk wf w.heap.size 29 [.slice (some ⟨g1, 0, none⟩) x c1, .slice (some ⟨g2, 0, none⟩) x c2] := by rw [hwf]; exact (HR.out.set 0 _).set 1 _
      have HBF : Below w.heap.size w wf := by rw [hwf]; exact (HB.out.setCell (p := ⟨w.heap.size, 0, none⟩) (Nat.le_refl _) _).setCell (p := ⟨w.heap.size, 1, none⟩) (Nat.le_refl _) _
      have HEF : Emp 26 2 (w.heap.size + 1 + 1) wf (w.heap.size + 1) (.slice (some ⟨g1, 0, none⟩) x c1) (.slice (some ⟨g2, 0, none⟩) x c2) x x x G1 G2 := by rw [hwf]; exact (HE.out.lowset (by show w.heap.size < w.heap.size + 1 + 1; omega) _).lowset (by show w.heap.size < w.heap.size + 1 + 1; omega) _
      have q0 := HRF.cell 0 _ rfl
      have q1 := HRF.cell 1 _ rfl
      clear hwf
      exact bodyPost_ret (v := .agg #[.slice (some ⟨g1, 0, none⟩) x c1, .slice (some ⟨g2, 0, none⟩) x c2]) (by simp [results, Try.results81, go_sem, q0, q1]) rfl (by unfold EmPost; exact ⟨g1, c1, g2, c2, G1, G2, rfl, HBF, HEF.duo (by decide) (by omega)⟩)
end Go.Proofs.Ytbhlcfcmjildmaa
namespace Go.Proofs.Ytbhlcfcmjildmaa
open Go Go.RowKit
set_option maxHeartbeats 1000000

theorem invZ_any (A : Option Addr) (n c : Nat) (f : List (List Int)) (B : Option Addr) (d : Nat) (s : List (List Int)) (r : Bool) (w : World) (hz : ZArg 1048576 w A n f B n s) (hp : PMap f s) (hrr : r = true ↔ InvF f s) :
    Calls Try.prog 36 #[.agg #[.slice A n c, .slice B n d]] w fun e w' => e = .returned (.bool r) ∧ Below w.heap.size w w' := by
  have hnb := hz.sz.nb
  have HZ := hide hz
  have HB0 := hide ((Below.refl _ w).alloc (Nat.le_refl _) (Obj.cells #[Value.slice A n c, Value.slice B n d] 29))
  have HK0 := hide (Blk.new w 29 [.slice A n c, .slice B n d])
  have hfl := hz.sz.fl
  have HP := hide hp
  have HR := hide hrr
  have HFL := hide hfl
  have h12 := hz.small hp
  obtain ⟨N, hN⟩ : ∃ N, n * n = N := ⟨_, rfl⟩
  have hN144 : N ≤ 144 := by rw [← hN]; exact sq_le n h12.2
  have HN := hide hN
  clear hp hrr hfl hz hN
  go_enter Try.func36, Try.ntmps36
  have k0 := HK0.out.cell 0 _ rfl
  have k1 := HK0.out.cell 1 _ rfl
  go_wp2_with fail
  refine (size_any _ _ _ _ _ _ _ hnb).mono ?_
  rintro e w2 ⟨rfl, hb2⟩
  have HB2 := hide (HB0.out.trans (hb2.mono HB0.out.size))
  have HK2 := hide (HK0.out.later hb2)
  clear hb2 k0 k1
  go_wp2_with fail
  refine (pairsOf_any n N _ h12.1 h12.2 HN.out).mono ?_
  rintro e w3 ⟨g, rfl, hb3, hg3, hpa⟩
  have HB3 := hide (HB2.out.trans (hb3.mono HB2.out.size))
  have HK3 := hide (HK2.out.later hb3)
  have HPA3 := hide hpa
  clear hb3 hpa
  go_wp2_with fail
  go_loopw [9] (fun i wr => ∃ k : Nat, k ≤ N ∧ i = .int .i64 k ∧ Below w.heap.size w wr ∧ Blk wr w.heap.size 29 [.slice A n c, .slice B n d] ∧ PairsAt wr g n ∧ ∀ a, a < k → ap f (ap f (a / n) (a % n)) (ap s (a / n) (a % n)) = a / n ∧ ap s (ap f (a / n) (a % n)) (ap s (a / n) (a % n)) = a % n) (fun i _ => N - (intOf i).toNat)
  case atStart => exact ⟨0, Nat.zero_le _, rfl, HB3.out, HK3.out, HPA3.out, fun a ha => absurd ha (Nat.not_lt_zero _)⟩
  case round =>
    obtain ⟨k, hk, rfl, hbe, hkk, hpa, hall⟩ := hrel
    have HB := hide hbe
    have HK := hide hkk
    have HPA := hide hpa
    have HALL := hide hall
    clear hbe hkk hpa hall
    have k0 := HK.out.cell 0 _ rfl
    have k1 := HK.out.cell 1 _ rfl
    by_cases hlt : k < N
    · have hkz : (k : Int) < N := by omega
      obtain ⟨p0, p1⟩ := HPA.out.2 k (by rw [HN.out]; exact hlt)
      have hxn : k / n < n := div_lt_sq (by rw [HN.out]; exact hlt)
      have hyn : k % n < n := mod_lt_sq (by rw [HN.out]; exact hlt)
      obtain ⟨x, hx⟩ : ∃ x, k / n = x := ⟨_, rfl⟩
      obtain ⟨y, hy⟩ : ∃ y, k % n = y := ⟨_, rfl⟩
      rw [hx] at p0 hxn
      rw [hy] at p1 hyn
      have HX := hide hx
      have HY := hide hy
      clear hx hy
      have hu := HP.out.lt1 HFL.out hxn hyn
      have hv := HP.out.lt2 HFL.out hxn hyn
      obtain ⟨u, hue⟩ : ∃ u, ap f x y = u := ⟨_, rfl⟩
      obtain ⟨v, hve⟩ : ∃ v, ap s x y = v := ⟨_, rfl⟩
      rw [hue] at hu
      rw [hve] at hv
      obtain ⟨u2, hue2⟩ : ∃ u2, ap f u v = u2 := ⟨_, rfl⟩
      obtain ⟨v2, hve2⟩ : ∃ v2, ap s u v = v2 := ⟨_, rfl⟩
      have HU := hide hue
      have HV := hide hve
      have HU2 := hide hue2
      have HV2 := hide hve2
      clear hue hve hue2 hve2
      have hno : ¬ (u2 = x ∧ v2 = y) → r = false := fun h => by
        cases r
        · rfl
        · have h0 := (HR.out.1 rfl) x y (by have := HFL.out; omega) (by have := HFL.out; omega)
          rw [HU.out, HV.out, HU2.out, HV2.out] at h0
          exact absurd h0 h
      have HNO := hide hno
      clear hno
      go_wp2_with fail
      refine wp_gen fun w4 hw4 => ?_
      obtain ⟨P, hPe⟩ : ∃ P, wr.heap.size = P := ⟨_, rfl⟩
      have HBc : Hid (Below w.heap.size w w4) := hide (by rw [hw4]; exact HB.out.alloc HB.out.size _)
      have HKc : Hid (Blk w4 w.heap.size 29 [.slice A n c, .slice B n d]) := hide (by rw [hw4]; exact HK.out.alloc _)
      have HPc : Hid (Blk w4 P 84 [.int .i64 x, .int .i64 y]) := hide (by rw [hw4, ← hPe]; exact Blk.new _ _ _)
      have HAc : Hid (PairsAt w4 g n) := hide (by rw [hw4]; exact HPA.out.later ((Below.refl _ _).alloc (Nat.le_refl _) _))
      rw [hPe]
      clear hw4 k0 k1 p0 p1 hPe
      have k0 := HKc.out.cell 0 _ rfl
      have k1 := HKc.out.cell 1 _ rfl
      have k2 := HPc.out.cell 0 _ rfl
      have k3 := HPc.out.cell 1 _ rfl
      have hcs : (((u2 : Int) = x) ∧ ((v2 : Int) = y)) ∨ (¬ ((u2 : Int) = x)) ∨ (((u2 : Int) = x) ∧ ¬ ((v2 : Int) = y)) := by omega
      rcases hcs with ⟨e1, e2⟩ | e1 | ⟨e1, e2⟩
      · have hyes : u2 = x ∧ v2 = y := by omega
        have HYES := hide hyes
        clear hyes
        go_region_held3 (fun w' => w'.cell? ⟨w.heap.size, 0, none⟩ = some (.slice A n c) ∧ w'.cell? ⟨w.heap.size, 1, none⟩ = some (.slice B n d) ∧ w'.cell? ⟨P, 0, none⟩ = some (.int .i64 x) ∧ w'.cell? ⟨P, 1, none⟩ = some (.int .i64 y)) (first | exact ⟨k0, k1, k2, k3⟩ | go_keep) (first | (go_at_call 68; go_must (refine calls_gen fun wc hwc => ?_; replace HBc : Hid (Below w.heap.size w wc) := hide (by rw [hwc]; first | exact HBc.out | exact HBc.out.drew); replace HKc : Hid (Blk wc w.heap.size 29 [.slice A n c, .slice B n d]) := hide (by rw [hwc]; first | exact HKc.out | exact HKc.out.drew); replace HPc : Hid (Blk wc P 84 [.int .i64 x, .int .i64 y]) := hide (by rw [hwc]; first | exact HPc.out | exact HPc.out.drew); replace HAc : Hid (PairsAt wc g n) := hide (by rw [hwc]; first | exact HAc.out | exact HAc.out.later ((Below.refl _ _).drew)); clear hwc; refine (lead_any _ _ _ f _ _ _ s _ _ _ (HZ.out.later HBc.out) HP.out (by assumption) (by assumption)).mono ?_; rintro e wd ⟨rfl, hbd⟩; replace HBc := hide (HBc.out.trans (hbd.mono HBc.out.size)); replace HKc := hide (HKc.out.later hbd); replace HPc := hide (HPc.out.later hbd); replace HAc := hide (HAc.out.later hbd); clear hbd; have k0 := HKc.out.cell 0 _ rfl; have k1 := HKc.out.cell 1 _ rfl; have k2 := HPc.out.cell 0 _ rfl; have k3 := HPc.out.cell 1 _ rfl; (first | rw [HU.out, HV.out] | rw [HU2.out, HV2.out]))))
        go_wp2_with fail
        go_roundw
        case rel =>
          refine ⟨k + 1, by omega, by go_num, HBc.out, HKc.out, HAc.out, fun a ha => ?_⟩
          by_cases e : a = k
          · subst e; rw [HX.out, HY.out, HU.out, HV.out, HU2.out, HV2.out]; exact HYES.out
          · exact HALL.out a (by omega)
        case measure => simp [intOf]; omega
      all_goals
        have hrf := HNO.out (by omega)
        subst hrf
        go_region_held3 (fun w' => w'.cell? ⟨w.heap.size, 0, none⟩ = some (.slice A n c) ∧ w'.cell? ⟨w.heap.size, 1, none⟩ = some (.slice B n d) ∧ w'.cell? ⟨P, 0, none⟩ = some (.int .i64 x) ∧ w'.cell? ⟨P, 1, none⟩ = some (.int .i64 y)) (first | exact ⟨k0, k1, k2, k3⟩ | go_keep) (first | (go_at_call 68; go_must (refine calls_gen fun wc hwc => ?_; replace HBc : Hid (Below w.heap.size w wc) := hide (by rw [hwc]; first | exact HBc.out | exact HBc.out.drew); replace HKc : Hid (Blk wc w.heap.size 29 [.slice A n c, .slice B n d]) := hide (by rw [hwc]; first | exact HKc.out | exact HKc.out.drew); replace HPc : Hid (Blk wc P 84 [.int .i64 x, .int .i64 y]) := hide (by rw [hwc]; first | exact HPc.out | exact HPc.out.drew); replace HAc : Hid (PairsAt wc g n) := hide (by rw [hwc]; first | exact HAc.out | exact HAc.out.later ((Below.refl _ _).drew)); clear hwc; refine (lead_any _ _ _ f _ _ _ s _ _ _ (HZ.out.later HBc.out) HP.out (by assumption) (by assumption)).mono ?_; rintro e wd ⟨rfl, hbd⟩; replace HBc := hide (HBc.out.trans (hbd.mono HBc.out.size)); replace HKc := hide (HKc.out.later hbd); replace HPc := hide (HPc.out.later hbd); replace HAc := hide (HAc.out.later hbd); clear hbd; have k0 := HKc.out.cell 0 _ rfl; have k1 := HKc.out.cell 1 _ rfl; have k2 := HPc.out.cell 0 _ rfl; have k3 := HPc.out.cell 1 _ rfl; (first | rw [HU.out, HV.out] | rw [HU2.out, HV2.out]))))
        go_wp2_with fail
        go_ret
        exact ⟨rfl, HBc.out⟩
    · have hkn : k = N := by omega
      subst hkn
      have hrt : r = true := HR.out.2 (fun a b ha hb => by
        have ha' : a < n := by have := HFL.out; omega
        have hb' : b < n := by have := HFL.out; omega
        have h := HALL.out (a * n + b) (by rw [← HN.out]; exact pair_lt n a b ha' hb')
        rw [pair_div n a b hb', pair_mod n a b hb'] at h
        exact h)
      subst hrt
      go_wp2_with fail
      go_ret
      exact ⟨rfl, HB.out⟩
end Go.Proofs.Ytbhlcfcmjildmaa
namespace Go.Proofs.Ytbhlcfcmjildmaa
open Go Go.RowKit
def kinkL (f : List (List Int)) : List Int := (List.range f.length).map fun (x : Nat) => ((ap f x x : Nat) : Int)
theorem kinkL_length (f : List (List Int)) : (kinkL f).length = f.length := by simp [kinkL]
theorem kinkL_getD (f : List (List Int)) (k : Nat) (h : k < f.length) : (kinkL f).getD k 0 = ((ap f k k : Nat) : Int) := by simp [kinkL, h]
def KinkRes (f : List (List Int)) (zs : List Int) (code : Int) : Prop := (Rck f ∧ zs = kinkL f ∧ code = 0) ∨ (¬ Rck f ∧ zs = [] ∧ code = 1)
theorem KinkRes.ex (f : List (List Int)) : ∃ zs code, KinkRes f zs code ∧ zs.length ≤ 1048576 := by
  by_cases h : Rck f
  · exact ⟨_, _, .inl ⟨h, rfl, rfl⟩, by rw [kinkL_length]; have := h.tbl.2.1; omega⟩
  · exact ⟨_, _, .inr ⟨h, rfl, rfl⟩, by simp⟩
theorem kq_take (zs : List Int) (k : Nat) (y : Int) (h : k < zs.length) (hy : zs.getD k 0 = y) : ints (zs.take k) ++ [.int .i64 y] = ints (zs.take (k + 1)) := by
  rw [List.take_succ_eq_append_getElem h]
  have : zs[k] = y := by simpa [h] using hy
  simp [ints, this]
theorem kq_empty (w : World) (t : TypeId) : (w.alloc (.cells #[] t)).ownsRow w.heap.size t 1 (.slice (some ⟨w.heap.size, 0, none⟩) 0 0) 0 [] :=
  ⟨by simp, .inr ⟨w.heap.size, 0, #[], rfl, Nat.le_refl _, heap_alloc_new _ _, Nat.le_refl _, by unfold maxLen; omega, by simp, by simp⟩⟩
theorem kq_new {w : World} {v : Value} {t : TypeId} : ∀ j u, [v][j]? = some u → (w.alloc (.cells #[v] t)).cell? ((⟨w.heap.size, 0, none⟩ : Addr).add j) = some u := by
  intro j u hj
  match j, hj with
  | 0, hj => simp at hj; subst hj; simp [Addr.add, World.cell?_alloc_new]
theorem kqInfo : (Try.prog.info? 2).map (fun i => (i.zero, i.size, i.bytes)) = some (some (.int .i64 0), 1, 8) := by kernel_rfl
/-- The last lines of a row that was filled from the front. -/
theorem kq_fill (zs : List Int) (n k : Nat) (hz : zs.length = n) (hk : k < n) : ((zs.take k ++ List.replicate (n - k) 0).set k (zs.getD k 0)) = zs.take (k + 1) ++ List.replicate (n - (k + 1)) 0 := by
  apply List.ext_getElem
  · simp; omega
  · intro i h1 h2
    simp only [List.getElem_set, List.getElem_append, List.length_take, List.getElem_take, List.getElem_replicate]
    by_cases e : k = i
    · subst e
      rw [if_pos rfl, dif_pos (by omega)]
      simp [show k < zs.length by omega]
    · rw [if_neg e]
      by_cases e2 : i < k
      · rw [dif_pos (by omega), dif_pos (by omega)]
      · rw [dif_neg (by omega), dif_neg (by omega)]
end Go.Proofs.Ytbhlcfcmjildmaa
