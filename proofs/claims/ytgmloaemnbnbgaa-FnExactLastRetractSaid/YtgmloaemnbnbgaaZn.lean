import Derived.Test.YtgmloaemnbnbgaaZl
import Derived.Test.YtgmloaemnbnbgaaZc
import Derived.Test.YtgmloaemnbnbgaaZe
import Derived.Test.YtgmloaemnbnbgaaZb
import Derived.Test.YtgmloaemnbnbgaaZg
import Derived.Test.YtgmloaemnbnbgaaZh
import Derived.Test.YtgmloaemnbnbgaaZd
namespace Go.Proofs.Ytgmloaemnbnbgaa
open Go Go.RowKit
set_option maxHeartbeats 1000000
def SolF (f s : List (List Int)) : Prop := PMap f s ∧ NoCol f s f.length ∧ First f s f.length (f.length * f.length * f.length)
def IsRes (f s : List (List Int)) (r : Bool) : Prop := r = true ↔ SolF f s
theorem IsRes.ex (f s : List (List Int)) : ∃ r, IsRes f s r := by
  by_cases h : SolF f s
  · exact ⟨true, by simp [IsRes, h]⟩
  · exact ⟨false, by simp [IsRes, h]⟩
theorem First.uniq {f s : List (List Int)} {n T T' : Nat} (h : First f s n T) (h' : First f s n T') : T = T' := by
  rcases Nat.lt_trichotomy T T' with e | e | e
  · exact absurd (h'.1 T e) (h.2.2 (by have := h'.2.1; omega))
  · exact e
  · exact absurd (h.1 T' e) (h'.2.2 (by have := h.2.1; omega))
/-- The four ways of it. -/
theorem IsRes.cases {f s : List (List Int)} {n : Nat} (hn : f.length = n) {r : Bool} (h : IsRes f s r) :
    (¬ PMap f s ∧ r = false) ∨ (PMap f s ∧ ∃ T, First f s n T ∧ ((T < n * n * n ∧ ((NoCol f s n ∧ r = false) ∨ ((∃ a b, FstCol f s n a b) ∧ r = false))) ∨ (T = n * n * n ∧ (((∃ a b, FstCol f s n a b) ∧ r = false) ∨ (NoCol f s n ∧ r = true))))) := by
  subst hn
  have hb : ∀ h9 : ¬ SolF f s, r = false := fun h9 => Bool.eq_false_iff.2 (fun e => h9 (h.1 e))
  by_cases hp : PMap f s
  · obtain ⟨T, hT⟩ := First.ex f s f.length
    refine .inr ⟨hp, T, hT, ?_⟩
    by_cases h2 : T < f.length * f.length * f.length
    · have hr := hb (fun h9 => by have := First.uniq hT h9.2.2; omega)
      rcases col_or f s f.length with hc | hc
      · exact .inl ⟨h2, .inl ⟨hc, hr⟩⟩
      · exact .inl ⟨h2, .inr ⟨hc, hr⟩⟩
    · have he : T = f.length * f.length * f.length := by have := hT.2.1; omega
      subst he
      refine .inr ⟨rfl, ?_⟩
      rcases col_or f s f.length with hc | hc
      · exact .inr ⟨hc, h.2 ⟨hp, hc, hT⟩⟩
      · exact .inl ⟨hc, hb (fun h9 => by obtain ⟨a, b, hf⟩ := hc; exact hf.not h9.2.1)⟩
  · exact .inl ⟨hp, hb (fun h9 => hp h9.1)⟩
end Go.Proofs.Ytgmloaemnbnbgaa
namespace Go.Proofs.Ytgmloaemnbnbgaa
open Go Go.RowKit
/-! The group of some permutations of n elements, found from the identity on. -/
theorem unit_prm {n : Nat} (h1 : 1 ≤ n) (h12 : n ≤ 12) : Prm (unitN n) := by
  refine (prm_iff _).2 ⟨by rw [unitN_length]; exact h1, by rw [unitN_length]; exact h12, fun x h0 hx => ?_⟩
  rw [unitN_length] at hx
  obtain ⟨m, rfl⟩ : ∃ m : Nat, x = (m : Int) := ⟨x.toNat, by omega⟩
  exact List.mem_map.2 ⟨m, List.mem_range.2 (by omega), rfl⟩
theorem then_prm {n : Nat} {p q : List Int} (hl : p.length = n) (hp : Prm p) (hm : q.length = n) (hq : Prm q) : Prm (thenL p q) := by
  have hp1 := (prm_iff _).1 hp
  have hq1 := (prm_iff _).1 hq
  refine (prm_iff _).2 ⟨by rw [thenL_length]; exact hp1.1, by rw [thenL_length]; exact hp1.2.1, fun x h0 hx => ?_⟩
  rw [thenL_length, hl] at hx
  obtain ⟨j, hj, e⟩ := List.getElem_of_mem (hq1.2.2 x h0 (by omega))
  have hjp := hp1.2.2 (j : Int) (by omega) (by omega)
  refine List.mem_map.2 ⟨(j : Int), hjp, ?_⟩
  simp [hj, e]
/-- What the generators make, from the identity on. -/
inductive Gen (n : Nat) (gs : List (List Int)) : List Int → Prop
  | unit : Gen n gs (unitN n)
  | step {p q : List Int} : Gen n gs p → q ∈ gs → Gen n gs (thenL p q)
/-- A list of all of them, each once. -/
def Enu (n : Nat) (gs L : List (List Int)) : Prop := L.Nodup ∧ ∀ x, x ∈ L ↔ Gen n gs x
theorem nodup_sub {α : Type} [DecidableEq α] {l m : List α} (h : l.Nodup) (hs : ∀ a ∈ l, a ∈ m) : l.length ≤ m.length := by
  obtain ⟨k, hk⟩ := subset_perm l m h hs
  have := hk.length_eq
  simp at this
  omega
theorem Enu.len {n : Nat} {gs L L' : List (List Int)} (h : Enu n gs L) (h' : Enu n gs L') : L.length = L'.length :=
  Nat.le_antisymm (nodup_sub h.1 fun a ha => (h'.2 a).2 ((h.2 a).1 ha)) (nodup_sub h'.1 fun a ha => (h.2 a).2 ((h'.2 a).1 ha))
/-- There are at most M. -/
def AtMost (n : Nat) (gs : List (List Int)) (M : Nat) : Prop := ∃ L, Enu n gs L ∧ L.length ≤ M
theorem not_atMost {n : Nat} {gs found : List (List Int)} {x : List Int} {M : Nat} (hd : found.Nodup) (hg : ∀ y, y ∈ found → Gen n gs y) (hx : Gen n gs x) (hn : x ∉ found) (hM : M ≤ found.length) : ¬ AtMost n gs M := by
  rintro ⟨L, hL, hl⟩
  have := nodup_sub (l := x :: found) (m := L) (List.nodup_cons.2 ⟨hn, hd⟩) (fun a ha => by
    rcases List.mem_cons.1 ha with rfl | ha
    · exact (hL.2 _).2 hx
    · exact (hL.2 _).2 (hg _ ha))
  simp at this
  omega
/-- How the search stands: the first i that were found are done, and of the next one the first k generators. -/
structure Srch (n : Nat) (gs found : List (List Int)) (i k : Nat) : Prop where
  nd : found.Nodup
  gen : ∀ y, y ∈ found → Gen n gs y
  unit : unitN n ∈ found
  done : ∀ a, a < i → ∀ g, g ∈ gs → thenL (found.getD a []) g ∈ found
  part : ∀ b, b < k → thenL (found.getD i []) (gs.getD b []) ∈ found
theorem Srch.start (n : Nat) (gs : List (List Int)) : Srch n gs [unitN n] 0 0 where
  nd := by simp
  gen := fun y hy => by simp at hy; subst hy; exact .unit
  unit := by simp
  done := fun a ha => by omega
  part := fun b hb => by omega
theorem getD_mem {α : Type} (l : List α) (i : Nat) (d : α) (h : i < l.length) : l.getD i d ∈ l := by simp [h]
theorem getD_app {α : Type} (l : List α) (v : α) (i : Nat) (d : α) (h : i < l.length) : (l ++ [v]).getD i d = l.getD i d := by
  simp only [List.getD_eq_getElem?_getD]
  rw [List.getElem?_append_left h]
theorem Srch.keep {n : Nat} {gs found : List (List Int)} {i k : Nat} (h : Srch n gs found i k) (hm : thenL (found.getD i []) (gs.getD k []) ∈ found) : Srch n gs found i (k + 1) :=
  ⟨h.nd, h.gen, h.unit, h.done, fun b hb => by
    by_cases e : b = k
    · rw [e]; exact hm
    · exact h.part b (by omega)⟩
theorem Srch.made {n : Nat} {gs found : List (List Int)} {i k : Nat} (h : Srch n gs found i k) (hi : i < found.length) (hk : k < gs.length) : Gen n gs (thenL (found.getD i []) (gs.getD k [])) :=
  .step (h.gen _ (getD_mem _ _ _ hi)) (getD_mem _ _ _ hk)
theorem Srch.push {n : Nat} {gs found : List (List Int)} {i k : Nat} (h : Srch n gs found i k) (hi : i < found.length) (hk : k < gs.length) (hn : thenL (found.getD i []) (gs.getD k []) ∉ found) : Srch n gs (found ++ [thenL (found.getD i []) (gs.getD k [])]) i (k + 1) where
  nd := List.nodup_append.2 ⟨h.nd, by simp, fun a ha b hb e => by simp at hb; subst hb; subst e; exact hn ha⟩
  gen := fun y hy => by
    rcases List.mem_append.1 hy with hy | hy
    · exact h.gen y hy
    · simp at hy; subst hy; exact h.made hi hk
  unit := List.mem_append.2 (.inl h.unit)
  done := fun a ha g hg => by rw [getD_app _ _ _ _ (by omega)]; exact List.mem_append.2 (.inl (h.done a ha g hg))
  part := fun b hb => by
    rw [getD_app _ _ _ _ hi]
    by_cases e : b = k
    · rw [e]; exact List.mem_append.2 (.inr (by simp))
    · exact List.mem_append.2 (.inl (h.part b (by omega)))
theorem Srch.next {n : Nat} {gs found : List (List Int)} {i : Nat} (h : Srch n gs found i gs.length) : Srch n gs found (i + 1) 0 :=
  ⟨h.nd, h.gen, h.unit, fun a ha g hg => by
    by_cases e : a = i
    · obtain ⟨b, hb, e2⟩ := List.getElem_of_mem hg
      have h2 := h.part b hb
      rw [show gs.getD b [] = g by rw [← e2]; simp [hb]] at h2
      rw [e]; exact h2
    · exact h.done a (by omega) g hg, fun b hb => by omega⟩
theorem Srch.fin {n : Nat} {gs found : List (List Int)} (h : Srch n gs found found.length 0) : Enu n gs found :=
  ⟨h.nd, fun x => ⟨h.gen x, fun hx => by
    induction hx with
    | unit => exact h.unit
    | @step p q _ hq ih =>
      obtain ⟨a, ha, e⟩ := List.getElem_of_mem ih
      have h2 := h.done a ha _ hq
      have h3 : found.getD a [] = p := by rw [← e]; simp [ha]
      rw [h3] at h2
      exact h2⟩⟩
/-- All of them are permutations of n elements. -/
theorem gen_prm {n : Nat} {gs : List (List Int)} (h1 : 1 ≤ n) (h12 : n ≤ 12) (hg : Gens gs n) {x : List Int} (hx : Gen n gs x) : x.length = n ∧ Prm x := by
  induction hx with
  | unit => exact ⟨unitN_length n, unit_prm h1 h12⟩
  | @step p q _ hq ih =>
    obtain ⟨b, hb, e⟩ := List.getElem_of_mem hq
    have h2 := hg b hb
    have h3 : gs.getD b [] = q := by rw [← e]; simp [hb]
    rw [h3] at h2
    exact ⟨by unfold thenL; simpa using ih.1, then_prm ih.1 ih.2 h2.1 h2.2⟩
/-- What the order of a group is answered. -/
def OrdR (n : Nat) (gs : List (List Int)) (M : Nat) (err v code : Int) : Prop := (∃ L, Enu n gs L ∧ L.length ≤ M ∧ v = (L.length : Int) ∧ code = 0) ∨ (¬ AtMost n gs M ∧ v = 0 ∧ code = err)
theorem OrdR.ex (n : Nat) (gs : List (List Int)) (M : Nat) (err : Int) : ∃ v code, OrdR n gs M err v code := by
  by_cases h : AtMost n gs M
  · obtain ⟨L, h1, h2⟩ := h
    exact ⟨_, _, .inl ⟨L, h1, h2, rfl, rfl⟩⟩
  · exact ⟨_, _, .inr ⟨h, rfl, rfl⟩⟩
end Go.Proofs.Ytgmloaemnbnbgaa
namespace Go.Proofs.Ytgmloaemnbnbgaa
open Go Go.RowKit

theorem ex_gen {Q : Exit → Act → World → Prop} {e : Exit} {a : Act} {w : World} (h : ∀ wf, wf = w → Q e a wf) : Q e a w := h w rfl

/-- The boxes that a call has made, the last one being top; the list of pairs; and nothing below is changed. -/
structure FK (w wx : World) (g n top : Nat) (bs : List (Nat × TypeId × List Value)) : Prop where
  below : Below w.heap.size w wx
  pairs : PairsAt wx g n
  gtop : g ≤ top
  blks : ∀ q, q ∈ bs → Blk wx q.1 q.2.1 q.2.2 ∧ q.1 ≤ top
  low : w.heap.size ≤ top
  sz : top < wx.heap.size

section
variable {w wx wy : World} {g n top : Nat} {bs : List (Nat × TypeId × List Value)}
theorem FK.start {b1 b2 b3 : Nat} {t1 t2 t3 : TypeId} {c1 c2 c3 : List Value} (hb : Below w.heap.size w wx) (hp : PairsAt wx g n) (h1 : Blk wx b1 t1 c1) (h2 : Blk wx b2 t2 c2) (h3 : Blk wx b3 t3 c3) (hw : w.heap.size < wx.heap.size := by assumption) : FK w wx g n (wx.heap.size - 1) [(b3, t3, c3), (b2, t2, c2), (b1, t1, c1)] :=
  ⟨hb, hp, by have := hp.1; omega, fun q hq => by
    have l1 := h1.lt
    have l2 := h2.lt
    have l3 := h3.lt
    simp at hq
    rcases hq with rfl | rfl | rfl
    · exact ⟨h3, by show b3 ≤ _; omega⟩
    · exact ⟨h2, by show b2 ≤ _; omega⟩
    · exact ⟨h1, by show b1 ≤ _; omega⟩, by omega, by omega⟩
theorem FK.later (h : FK w wx g n top bs) (hb : Below wx.heap.size wx wy) : FK w wy g n top bs :=
  ⟨h.below.trans (hb.mono h.below.size), h.pairs.later hb, h.gtop, fun q hq => ⟨(h.blks q hq).1.later hb, (h.blks q hq).2⟩, h.low, Nat.lt_of_lt_of_le h.sz hb.size⟩
theorem FK.set (h : FK w wx g n top bs) {p : Addr} (hp : top < p.block) (v : Value) : FK w (wx.setCell p v) g n top bs :=
  ⟨h.below.setCell (Nat.le_trans h.low (Nat.le_of_lt hp)) v, h.pairs.touch (lo := p.block) (hi := p.block + 1) ⟨rfl, rfl, rfl, by simp [World.setCell], fun k _ hne => Below.heap_setCell wx p v k (by omega)⟩ (.inl (Nat.lt_of_le_of_lt h.gtop hp)), h.gtop, fun q hq => ⟨(h.blks q hq).1.far (by have := (h.blks q hq).2; omega) v, (h.blks q hq).2⟩, h.low, by have := h.sz; simp [World.setCell]; omega⟩
theorem FK.push (h : FK w wx g n top bs) {L : Nat} {t : TypeId} {cs : List Value} (hb : Blk wx L t cs) (hL : top < L) : FK w wx g n L ((L, t, cs) :: bs) :=
  ⟨h.below, h.pairs, by have := h.gtop; omega, fun q hq => by
    rcases List.mem_cons.1 hq with rfl | hq
    · exact ⟨hb, Nat.le_refl _⟩
    · exact ⟨(h.blks q hq).1, by have := (h.blks q hq).2; omega⟩, by have := h.low; omega, hb.lt⟩
theorem FK.new (h : FK w wx g n top bs) (t : TypeId) (cs : List Value) : FK w (wx.alloc (.cells cs.toArray t)) g n wx.heap.size ((wx.heap.size, t, cs) :: bs) :=
  (h.later ((Below.refl _ _).alloc (Nat.le_refl _) _)).push (Blk.new _ _ _) h.sz
theorem FK.blk (h : FK w wx g n top bs) {b : Nat} {t : TypeId} {cs : List Value} (hm : (b, t, cs) ∈ bs) : Blk wx b t cs := (h.blks _ hm).1
theorem FK.top' (h : FK w wx g n top bs) {b : Nat} {t : TypeId} {cs : List Value} (hm : (b, t, cs) ∈ bs) : b ≤ top := (h.blks _ hm).2
end
end Go.Proofs.Ytgmloaemnbnbgaa
namespace Go.Proofs.Ytgmloaemnbnbgaa
open Go Go.RowKit
open Go.ChangeMaps (setBlock heap_setBlock_same heap_setBlock_other)
open Classical
set_option maxRecDepth 100000

/-- The map from each pair to the list of those that are led to it, among the first k: G tells the slices. -/
structure Led (w : World) (b B n k : Nat) (f s : List (List Int)) (G : Nat × Nat → Value) : Prop where
  map : ∃ V, MapV w b k V ∧ ∀ p : Nat × Nat, (V (pkey p.1 p.2)).getD (.slice none 0 0) = G p
  low : b < B
  rows : ∀ p : Nat × Nat, w.ownsRow B 89 2 (G p) (ledL f s n k p).length (pcs n (ledL f s n k p))
  ne : ∀ (p p' : Nat × Nat) (g : Nat), p ≠ p' → (G p).ownBlock = some g → (G p').ownBlock ≠ some g

theorem Led.start {w : World} {b : Nat} {V : Value → Option Value} (h : MapV w b 0 V) (hV : ∀ v, V v = none) (B n : Nat) (f s : List (List Int)) (hb : b < B) : Led w b B n 0 f s (fun _ => .slice none 0 0) :=
  ⟨⟨V, h, fun p => by rw [hV]; rfl⟩, hb, fun p => ⟨by simp [ledL, pcs], .inl ⟨rfl, by simp [ledL]⟩⟩, fun _ _ _ _ h => by cases h⟩
theorem Led.lt {w : World} {b B n k : Nat} {f s : List (List Int)} {G : Nat × Nat → Value} (h : Led w b B n k f s G) : b < w.heap.size := by
  obtain ⟨V, hm, _⟩ := h.map
  exact hm.lt
theorem ownsRow2_later {w w' : World} {B n : Nat} {t : TypeId} {v : Value} {xs : List Value} (h : w.ownsRow B t 2 v n xs) (hb : Below w.heap.size w w') : w'.ownsRow B t 2 v n xs := by
  obtain ⟨hl, h | ⟨g, cap, cur, hv, h1, hg, hn, hcap, hsz, hxs⟩⟩ := h
  · exact ⟨hl, .inl h⟩
  · exact ⟨hl, .inr ⟨g, cap, cur, hv, h1, (hb.block g (Array.getElem?_eq_some_iff.1 hg).1).trans hg, hn, hcap, hsz, hxs⟩⟩
theorem Led.later {w w' : World} {b B n k : Nat} {f s : List (List Int)} {G : Nat × Nat → Value} (h : Led w b B n k f s G) (hb : Below w.heap.size w w') : Led w' b B n k f s G := by
  obtain ⟨⟨V, hm, hV⟩, h1, h2, h3⟩ := h
  exact ⟨⟨V, hm.later hb, hV⟩, h1, fun p => ownsRow2_later (h2 p) hb, h3⟩

theorem led_low {w : World} {b B n k : Nat} {f s : List (List Int)} {G : Nat × Nat → Value} (h : Led w b B n k f s G) (p : Nat × Nat) : some b ≠ (G p).ownBlock := fun e => by
  have h1 := (h.rows p).lt b e.symm
  have h2 := h.low
  omega

/-- A pair is appended to the list at the pair to which it is led: the entry is looked up, the slice appended to, and laid back. -/
theorem Led.step {w : World} {b B n k : Nat} {f s : List (List Int)} {G : Nat × Nat → Value} {t : TypeId} (h : Led w b B n k f s G) (ht : Try.prog.underlying t = some (.map 89 92)) (hz : ∀ u : World, (zeroValue 92).run Try.prog u = .ok (.slice none 0 0) u) (hk : k < maxLen) (q : Nat × Nat) (hq : ledK f s n k = q) (hq1 : q.1 < 4611686018427387904) (hq2 : q.2 < 4611686018427387904) :
    ∃ st W, (Instr.mapEntry t (.map (some b)) (.agg #[.int .i64 q.1, .int .i64 q.2])).run Try.prog w = .ok (.tuple #[G q, .int .i64 st]) W ∧ (∀ i, i ≠ b → W.heap[i]? = w.heap[i]?) ∧ W.heap.size = w.heap.size ∧ w.grownBy W (some b) ∧
      (W.ownsRow B 89 2 (G q) (ledL f s n k q).length (pcs n (ledL f s n k q))) ∧
      ∀ (w1 : World) (v' : Value), W.grownBy w1 (G q).ownBlock → w1.ownsRow B 89 2 v' ((ledL f s n k q).length + 1) (pcs n (ledL f s n k q) ++ [.int .i64 ((k / n : Nat) : Int), .int .i64 ((k % n : Nat) : Int)]) → (v'.ownBlock = (G q).ownBlock ∨ v'.ownBlock = some W.heap.size) →
        ∃ w3, (Instr.entryStore t (.map (some b)) (.int .i64 st) v').run Try.prog w1 = .ok () w3 ∧ w1.grownBy w3 (some b) ∧ Led w3 b B n (k + 1) f s (fun p => if p = q then v' else G p) := by
  obtain ⟨V, hm, hV⟩ := h.map
  have hlow := h.low
  have hrows := h.rows
  have hne := h.ne
  have hltb := hm.lt
  obtain ⟨kl, hkey⟩ := mp_key w q.1 q.2 hq1 hq2
  obtain ⟨st, es1, clock1, hE, hS⟩ := hm.entry ht hz hk hkey
  have hbk : ∃ es clock, w.heap[b]? = some (.map es clock) := by
    obtain ⟨D, ⟨es, clock, hb, _⟩, _⟩ := hm
    exact ⟨es, clock, hb⟩
  obtain ⟨es0, clock0, hb0⟩ := hbk
  have hother : ∀ i, i ≠ b → (setBlock w b (.map es1 clock1)).heap[i]? = w.heap[i]? := fun i hi => heap_setBlock_other hb0 _ hi
  have hsize : (setBlock w b (.map es1 clock1)).heap.size = w.heap.size := by simp [setBlock]
  have hgr : w.grownBy (setBlock w b (.map es1 clock1)) (some b) := ⟨rfl, rfl, rfl, by simp [setBlock], fun i _ hi => heap_setBlock_other hb0 _ (fun e => hi (by rw [e]))⟩
  have hkeep : ∀ p : Nat × Nat, (setBlock w b (.map es1 clock1)).ownsRow B 89 2 (G p) (ledL f s n k p).length (pcs n (ledL f s n k p)) := fun p => (hrows p).kept hgr (by
    cases e : (G p).ownBlock with
    | none => exact .inl rfl
    | some g => exact .inr (fun e2 => led_low h p (by rw [e, e2])))
  refine ⟨st, setBlock w b (.map es1 clock1), ?_, hother, hsize, hgr, hkeep q, fun w1 v' hg1 hown hat => ?_⟩
  · rw [← hV q]; exact hE
  have hb1 : w1.heap[b]? = some (.map es1 clock1) := (hg1.block b (by rw [hsize]; exact hltb) (led_low h q)).trans (heap_setBlock_same hb0 _)
  obtain ⟨es', clock', hrun, hMap⟩ := hS w1 v' hb1
  have hgr3 : w1.grownBy (setBlock w1 b (.map es' clock')) (some b) := ⟨rfl, rfl, rfl, by simp [setBlock], fun i _ hi => heap_setBlock_other hb1 _ (fun e => hi (by rw [e]))⟩
  refine ⟨setBlock w1 b (.map es' clock'), hrun, hgr3, ⟨_, hMap, fun p => ?_⟩, hlow, fun p => ?_, fun p p' g hpp hg hg' => ?_⟩
  · by_cases e : p = q
    · subst e
      simp
    · have e2 : pkey p.1 p.2 ≠ pkey q.1 q.2 := fun e3 => e (by
        obtain ⟨e4, e5⟩ := pkey_inj e3
        exact Prod.ext e4 e5)
      simp only [if_neg e, if_neg e2]
      exact hV p
  · rw [ledL_succ]
    by_cases e : p = q
    · subst e
      simp only [if_pos, hq]
      rw [List.length_append, List.length_singleton, pcs_snoc]
      refine hown.kept hgr3 ?_
      cases e : v'.ownBlock with
      | none => exact .inl rfl
      | some g =>
        refine .inr (fun e2 => ?_)
        injection e2 with e2
        have := hown.lt g e
        omega
    · have e2 : ¬ ledK f s n k = p := fun e3 => e (e3.symm.trans hq)
      simp only [if_neg e, if_neg e2]
      have h1 : w1.ownsRow B 89 2 (G p) (ledL f s n k p).length (pcs n (ledL f s n k p)) := (hkeep p).kept hg1 (by
        cases e3 : (G p).ownBlock with
        | none => exact .inl rfl
        | some g => exact .inr (fun e4 => hne p q g e e3 e4.symm))
      refine h1.kept hgr3 ?_
      cases e3 : (G p).ownBlock with
      | none => exact .inl rfl
      | some g => exact .inr (fun e4 => led_low h p (by rw [e3, e4]))
  · have hnew : ∀ p'', p'' ≠ q → ∀ g, v'.ownBlock = some g → (G p'').ownBlock ≠ some g := fun p'' hp g hg hg' => by
      rcases hat with e | e
      · exact hne p'' q g hp hg' (e ▸ hg)
      · rw [hg] at e
        injection e with e
        have := (hrows p'').lt g hg'
        omega
    by_cases e : p = q
    · have e2 : p' ≠ q := fun e2 => hpp (e.trans e2.symm)
      simp only [if_pos e] at hg
      simp only [if_neg e2] at hg'
      exact hnew p' e2 g hg hg'
    · simp only [if_neg e] at hg
      by_cases e2 : p' = q
      · simp only [if_pos e2] at hg'
        exact hnew p e g hg' hg
      · simp only [if_neg e2] at hg'
        exact hne p p' g hpp hg hg'
end Go.Proofs.Ytgmloaemnbnbgaa
namespace Go.Proofs.Ytgmloaemnbnbgaa
open Go Go.RowKit
/-- The condition of racks at the list of number T. -/
def Rk3 (f : List (List Int)) (n T : Nat) : Prop := ap f (trip n T).1 (ap f (trip n T).2.1 (trip n T).2.2) = ap f (ap f (trip n T).1 (trip n T).2.1) (ap f (trip n T).1 (trip n T).2.2)
def FirstK (f : List (List Int)) (n T : Nat) : Prop := (∀ i, i < T → Rk3 f n i) ∧ T ≤ n * n * n ∧ (T < n * n * n → ¬ Rk3 f n T)
theorem FirstK.ex (f : List (List Int)) (n : Nat) : ∃ T, FirstK f n T := by
  have h : ∀ k, k ≤ n * n * n → (∀ i, i < k → Rk3 f n i) ∨ ∃ T, FirstK f n T := by
    intro k
    induction k with
    | zero => intro _; exact .inl (fun i hi => absurd hi (Nat.not_lt_zero _))
    | succ k ih =>
      intro hk
      rcases ih (by omega) with h | h
      · by_cases e : Rk3 f n k
        · refine .inl (fun i hi => ?_)
          by_cases e2 : i = k
          · subst e2; exact e
          · exact h i (by omega)
        · exact .inr ⟨k, h, by omega, fun _ => e⟩
      · exact .inr h
  rcases h _ (Nat.le_refl _) with h | h
  · exact ⟨_, h, Nat.le_refl _, fun h2 => absurd h2 (by omega)⟩
  · exact h
theorem FirstK.bad {f : List (List Int)} {n T k : Nat} (h : FirstK f n T) (h1 : ∀ i, i < k → Rk3 f n i) (hk : k < n * n * n) (h2 : ¬ Rk3 f n k) : T = k := by
  have a : ¬ k < T := fun h3 => h2 (h.1 k h3)
  have b : ¬ T < k := fun h3 => h.2.2 (by omega) (h1 T h3)
  omega
theorem FirstK.all {f : List (List Int)} {n T : Nat} (h : FirstK f n T) (h1 : ∀ i, i < n * n * n → Rk3 f n i) : T = n * n * n := by
  have a := h.2.1
  have b : ¬ T < n * n * n := fun h3 => h.2.2 h3 (h1 T h3)
  omega
theorem FirstK.iff {f : List (List Int)} {n T : Nat} (h : FirstK f n T) : T = n * n * n ↔ ∀ i, i < n * n * n → Rk3 f n i :=
  ⟨fun e i hi => h.1 i (by omega), h.all⟩
theorem Rk3.at {f : List (List Int)} {n x y z : Nat} (hy : y < n) (hz : z < n) : Rk3 f n ((x * n + y) * n + z) ↔ ap f x (ap f y z) = ap f (ap f x y) (ap f x z) := by
  unfold Rk3
  rw [trip_of hy hz]
/-- What a rack is. -/
def Rck (f : List (List Int)) : Prop := (Tbl f ∧ AllPrm f) ∧ ∀ i, i < f.length * f.length * f.length → Rk3 f f.length i
def RkRes (f : List (List Int)) (r : Bool) : Prop := r = true ↔ Rck f
theorem RkRes.ex (f : List (List Int)) : ∃ r, RkRes f r := bool_of _
def RkFRes (f : List (List Int)) (zs : List Int) (code : Int) : Prop :=
  (∃ T, (Tbl f ∧ AllPrm f) ∧ FirstK f f.length T ∧ ((T < f.length * f.length * f.length ∧ zs = lst3 (trip f.length T) ∧ code = 0) ∨ (T = f.length * f.length * f.length ∧ zs = [] ∧ code = 4))) ∨ (Tbl f ∧ ¬ AllPrm f ∧ zs = [] ∧ code = 5) ∨ (¬ Tbl f ∧ zs = [] ∧ code = 1)
theorem RkFRes.ex (f : List (List Int)) : ∃ zs code, RkFRes f zs code ∧ zs.length ≤ 1048576 := by
  by_cases h : Tbl f
  · by_cases h1 : AllPrm f
    · obtain ⟨T, hT⟩ := FirstK.ex f f.length
      by_cases h2 : T < f.length * f.length * f.length
      · exact ⟨_, _, .inl ⟨T, ⟨h, h1⟩, hT, .inl ⟨h2, rfl, rfl⟩⟩, by simp [lst3]⟩
      · exact ⟨_, _, .inl ⟨T, ⟨h, h1⟩, hT, .inr ⟨by have := hT.2.1; omega, rfl, rfl⟩⟩, by simp⟩
    · exact ⟨_, _, .inr (.inl ⟨h, h1, rfl, rfl⟩), by simp⟩
  · exact ⟨_, _, .inr (.inr ⟨h, rfl, rfl⟩), by simp⟩
theorem Rck.tbl {f : List (List Int)} (h : Rck f) : Tbl f := h.1.1
theorem Rck.prm {f : List (List Int)} (h : Rck f) : AllPrm f := h.1.2
end Go.Proofs.Ytgmloaemnbnbgaa
namespace Go.Proofs.Ytgmloaemnbnbgaa
open Go Go.RowKit
/-! What searching with a stack of pairs asks of the two functions, and the stack's memory. -/
/-- The cells of a list of pairs. -/
def flatP (P : List (Nat × Nat)) : List Value := P.flatMap fun p => [.int .i64 (p.1 : Int), .int .i64 (p.2 : Int)]
theorem flatP_length (P : List (Nat × Nat)) : (flatP P).length = P.length * 2 := by
  induction P with
  | nil => rfl
  | cons p P ih => simp [flatP] at *; omega
theorem flatP_app (P Q : List (Nat × Nat)) : flatP (P ++ Q) = flatP P ++ flatP Q := by simp [flatP]
theorem flatP_one (P : List (Nat × Nat)) : ∀ u ∈ flatP P, u.oneCell' = true := by
  intro u hu
  obtain ⟨p, _, h⟩ := List.mem_flatMap.1 hu
  simp at h
  rcases h with rfl | rfl <;> rfl
theorem flatP_last (P : List (Nat × Nat)) (q : Nat × Nat) : (flatP (P ++ [q]))[P.length * 2]? = some (.int .i64 (q.1 : Int)) ∧ (flatP (P ++ [q]))[P.length * 2 + 1]? = some (.int .i64 (q.2 : Int)) := by
  have h := flatP_length P
  rw [flatP_app]
  constructor
  · rw [List.getElem?_append_right (by omega), h]; simp [flatP]
  · rw [List.getElem?_append_right (by omega), h, show P.length * 2 + 1 - P.length * 2 = 1 by omega]; simp [flatP]
theorem flatP_front (P : List (Nat × Nat)) (q : Nat × Nat) : (flatP (P ++ [q])).take (P.length * 2) = flatP P := by
  rw [flatP_app, ← flatP_length P]
  simp
section
variable {t : TypeId} {w w' : World} {lo hi B n : Nat} {v : Value} {xs : List Value}
theorem touch_of_below (hb : Below w.heap.size w w') : Touch lo hi w w' := ⟨hb.os, hb.tape, hb.output, hb.size, fun k hk _ => hb.block k hk⟩
theorem touch_grown {w1 : World} {row : Option Nat} (ht : Touch lo hi w w1) (hg : w1.grownBy w' row) (hr : ∀ k, row = some k → w.heap.size ≤ k) : Touch lo hi w w' :=
  ⟨hg.os.trans ht.os, hg.tape.trans ht.tape, hg.output.trans ht.output, Nat.le_trans ht.size hg.size, fun k hk hne => (hg.block k (Nat.lt_of_lt_of_le hk ht.size) (fun e => by have := hr k e.symm; omega)).trans (ht.block k hk hne)⟩
theorem ownsRow_touch {sz : Nat} (h : w.ownsRow B t sz v n xs) (ht : Touch lo hi w w') (hB : hi ≤ B) : w'.ownsRow B t sz v n xs := by
  refine ⟨h.1, ?_⟩
  rcases h.2 with h2 | ⟨g, cap, cur, hv, hg, hh, r⟩
  · exact .inl h2
  · exact .inr ⟨g, cap, cur, hv, hg, (ht.block g (Array.getElem?_eq_some_iff.1 hh).1 (.inr (by omega))).trans hh, r⟩
theorem ownsRow_below2 {sz : Nat} (h : w.ownsRow B t sz v n xs) (hb : Below w.heap.size w w') : w'.ownsRow B t sz v n xs := by
  refine ⟨h.1, ?_⟩
  rcases h.2 with h2 | ⟨g, cap, cur, hv, hg, hh, r⟩
  · exact .inl h2
  · exact .inr ⟨g, cap, cur, hv, hg, (hb.block g (Array.getElem?_eq_some_iff.1 hh).1).trans hh, r⟩
/-- The stack without its last pair. -/
theorem own_front2 {c : Nat} {A : Option Addr} (h : w.ownsRow B t 2 (.slice A (n + 1) c) (n + 1) xs) : w.ownsRow B t 2 (.slice A n c) n (xs.take (n * 2)) := by
  obtain ⟨hl, h | ⟨g, cap, cur, hv, hb, hg, hn, hcap, hsz, hxs⟩⟩ := h
  · exact absurd h.2 (by omega)
  · injection hv with h1 h2 h3
    subst h1 h3
    refine ⟨by simp; omega, .inr ⟨g, c, cur, rfl, hb, hg, by omega, hcap, hsz, ?_⟩⟩
    rw [← hxs, List.take_take]
    congr 1
    omega
theorem own_cell2 {c : Nat} {A : Option Addr} (h : w.ownsRow B t 2 (.slice A (n + 1) c) (n + 1) xs) : ∃ g, A = some ⟨g, 0, none⟩ ∧ B ≤ g ∧ g < w.heap.size ∧ n + 1 ≤ c ∧ ∀ j u, xs[j]? = some u → w.cell? ⟨g, j, none⟩ = some u := by
  obtain ⟨hl, h | ⟨g, cap, cur, hv, hb, hg, hn, hcap, hsz, hxs⟩⟩ := h
  · exact absurd h.2 (by omega)
  · injection hv with h1 h2 h3
    subst h1 h3
    refine ⟨g, rfl, hb, (Array.getElem?_eq_some_iff.1 hg).1, hn, fun j u hj => ?_⟩
    have hjl : j < xs.length := (List.getElem?_eq_some_iff.1 hj).1
    rw [cell_of_row w g j cur t (0, 0) hg]
    rw [← hxs, List.getElem?_take, if_pos (by omega)] at hj
    simpa using hj
end
/-- What is asked of the function that joins: in each later world in which the classes are L it says whether the elements were apart, and joins their classes. It touches nothing outside the blocks lo to hi. -/
def JoinFn (P : Program) (F : FuncId) (bnd lb' : Array Value) (n lo hi : Nat) (St : World → List Int → Prop) : Prop :=
  ∀ (W : World) (L : List Int) (a b : Nat), a < n → b < n → L.length = n → St W L → hi ≤ W.heap.size → Calls P F (bnd ++ #[.agg #[.int .i64 (a : Int), .int .i64 (b : Int)]] ++ lb') W fun e W' => ∃ r, e = .returned (.bool r) ∧ Touch lo hi W W' ∧ ((r = false ∧ lb L a = lb L b ∧ St W' L) ∨ (r = true ∧ lb L a ≠ lb L b ∧ ∃ k l, ((k = lb L a ∧ l = lb L b) ∨ (k = lb L b ∧ l = lb L a)) ∧ St W' (joinL L k l)))
/-- The pairs that follow from a pair. -/
def folP (mp : Nat → Nat → Nat) (K a b : Nat) : List (Nat × Nat) := (List.range K).map fun i => (mp i a, mp i b)
theorem folP_length (mp : Nat → Nat → Nat) (K a b : Nat) : (folP mp K a b).length = K := by simp [folP]
theorem folP_mem (mp : Nat → Nat → Nat) (K a b : Nat) (p : Nat × Nat) : p ∈ folP mp K a b ↔ ∃ i, i < K ∧ p = (mp i a, mp i b) := by
  unfold folP
  rw [List.mem_map]
  constructor
  · rintro ⟨i, hi, rfl⟩; exact ⟨i, List.mem_range.1 hi, rfl⟩
  · rintro ⟨i, hi, rfl⟩; exact ⟨i, List.mem_range.2 hi, rfl⟩
/-- What is asked of the function that tells what follows. -/
def FolFn (P : Program) (G : FuncId) (bnd lb' : Array Value) (n K : Nat) (mp : Nat → Nat → Nat) (w0 : World) : Prop :=
  ∀ (W : World) (a b : Nat), a < n → b < n → Below w0.heap.size w0 W → Calls P G (bnd ++ #[.agg #[.int .i64 (a : Int), .int .i64 (b : Int)]] ++ lb') W fun e W' => ∃ g c, e = .returned (.slice (some ⟨g, 0, none⟩) K c) ∧ Below W.heap.size W W' ∧ ∀ j u, (flatP (folP mp K a b))[j]? = some u → W'.cell? ⟨g, j, none⟩ = some u
/-- How the search stands, with bounds. -/
structure JnS (mp : Nat → Nat → Nat) (K n x y : Nat) (L : List Int) (P : List (Nat × Nat)) : Prop where
  s : MgS mp K n x y L P
  rng : ∀ v ∈ L, 0 ≤ v ∧ v < (n : Int)
  sz : P.length + cgCnt n L * K ≤ 1 + n * K
theorem cgCnt_le (n : Nat) (L : List Int) : cgCnt n L ≤ n := by
  unfold cgCnt
  have := List.countP_le_length (l := List.range n) (p := fun (v : Nat) => decide ((v : Int) ∈ L))
  simpa using this
theorem JnS.start {mp : Nat → Nat → Nat} {K n x y : Nat} {L : List Int} (hl : L.length = n) (hx : x < n) (hy : y < n) (hu : ∀ a b, a < n → b < n → lb L a = lb L b → a = b) (hr : ∀ v ∈ L, 0 ≤ v ∧ v < (n : Int)) : JnS mp K n x y L [(x, y)] :=
  ⟨.init hl hx hy hu, hr, by
    have := Nat.mul_le_mul_right K (cgCnt_le n L)
    simp; omega⟩
theorem JnS.skip {mp : Nat → Nat → Nat} {K n x y : Nat} {L : List Int} {P : List (Nat × Nat)} {q : Nat × Nat} (h : JnS mp K n x y L (P ++ [q])) (he : lb L q.1 = lb L q.2) : JnS mp K n x y L P :=
  ⟨h.s.skip (fun p => by simp; exact Or.comm) he, h.rng, by have := h.sz; simp at this; omega⟩
theorem lb_mem {L : List Int} {a : Nat} (h : a < L.length) : lb L a ∈ L := by simp [lb, h]
theorem JnS.join {mp : Nat → Nat → Nat} {K n x y : Nat} {L : List Int} {P : List (Nat × Nat)} {q : Nat × Nat} {k l : Int} (h : JnS mp K n x y L (P ++ [q])) (hx : x < n) (hy : y < n) (hmp : ∀ i a, i < K → a < n → mp i a < n) (hne : lb L q.1 ≠ lb L q.2) (hkl : (k = lb L q.1 ∧ l = lb L q.2) ∨ (k = lb L q.2 ∧ l = lb L q.1)) :
    JnS mp K n x y (joinL L k l) (P ++ folP mp K q.1 q.2) ∧ (P ++ folP mp K q.1 q.2).length + cgCnt n (joinL L k l) * (K + 1) < (P ++ [q]).length + cgCnt n L * (K + 1) := by
  have hin := h.s.inn q (by simp)
  have hq1 : lb L q.1 ∈ L := lb_mem (by rw [h.s.len]; exact hin.1)
  have hq2 : lb L q.2 ∈ L := lb_mem (by rw [h.s.len]; exact hin.2)
  have hk : k ∈ L := by rcases hkl with ⟨rfl, _⟩ | ⟨rfl, _⟩ <;> assumption
  have hl : l ∈ L := by rcases hkl with ⟨_, rfl⟩ | ⟨_, rfl⟩ <;> assumption
  have hkne : k ≠ l := by
    rcases hkl with ⟨rfl, rfl⟩ | ⟨rfl, rfl⟩
    · exact hne
    · exact hne.symm
  have hc := cgCnt_join hk hl hkne (h.rng l hl)
  have hfl := folP_length mp K q.1 q.2
  have hsz := h.sz
  have hm1 : (cgCnt n (joinL L k l) + 1) * K ≤ cgCnt n L * K := Nat.mul_le_mul_right K hc
  have hm2 : (cgCnt n (joinL L k l) + 1) * (K + 1) ≤ cgCnt n L * (K + 1) := Nat.mul_le_mul_right (K + 1) hc
  rw [Nat.add_mul] at hm1 hm2
  refine ⟨⟨h.s.join hx hy hmp (by simp) hkl (fun p hp => ?_) (fun i hi => ?_) (fun p hp => ?_), fun v hv => ?_, ?_⟩, ?_⟩
  · rcases List.mem_append.1 hp with h1 | h1
    · exact .inl (List.mem_append_left _ h1)
    · simp at h1; exact .inr h1
  · exact List.mem_append_right _ ((folP_mem _ _ _ _ _).2 ⟨i, hi, rfl⟩)
  · rcases List.mem_append.1 hp with h1 | h1
    · exact .inl (List.mem_append_left _ h1)
    · obtain ⟨i, hi, e⟩ := (folP_mem _ _ _ _ _).1 h1
      exact .inr ⟨i, hi, e⟩
  · obtain ⟨u, hu, e⟩ := List.mem_map.1 hv
    by_cases h1 : u = l
    · rw [if_pos h1] at e; subst e; exact h.rng _ hk
    · rw [if_neg h1] at e; subst e; exact h.rng _ hu
  · rw [List.length_append, hfl]
    simp at hsz
    omega
  · rw [List.length_append, List.length_append, hfl]
    simp
    omega
theorem touch_set {lo hi : Nat} {w w' : World} (h : Touch lo hi w w') {p : Addr} (hp : lo ≤ p.block ∧ p.block < hi) (v : Value) : Touch lo hi w (w'.setCell p v) :=
  ⟨h.os, h.tape, h.output, by have := h.size; simpa [World.setCell] using this, fun k hk hne => by
    rw [Below.heap_setCell w' p v k (by omega)]
    exact h.block k hk hne⟩
end Go.Proofs.Ytgmloaemnbnbgaa
namespace Go.Proofs.Ytgmloaemnbnbgaa
open Go Go.RowKit
open Classical

/-- How many of n elements have the label o. -/
def cnt (f : Nat → Int) (n : Nat) (o : Nat) : Nat := (List.range n).countP fun y => f y == (o : Int)
theorem cnt_congr (f g : Nat → Int) (n o : Nat) (h : ∀ y, y < n → (f y = (o : Int) ↔ g y = (o : Int))) : cnt f n o = cnt g n o := by
  unfold cnt
  refine List.countP_congr (fun y hy => ?_)
  have := h y (List.mem_range.1 hy)
  simpa using this
theorem cnt_list (f : Nat → Int) (n o : Nat) (V : List Nat) (hnd : V.Nodup) (h : ∀ y, y ∈ V ↔ y < n ∧ f y = (o : Int)) : cnt f n o = V.length := by
  unfold cnt
  rw [List.countP_eq_length_filter]
  have hF : ((List.range n).filter fun y => f y == (o : Int)).Nodup := List.Pairwise.filter _ List.nodup_range
  have hm : ∀ y, y ∈ (List.range n).filter (fun y => f y == (o : Int)) ↔ y ∈ V := fun y => by
    rw [h y]; simp
  obtain ⟨l1, h1⟩ := subset_perm _ V hF (fun a ha => (hm a).1 ha)
  obtain ⟨l2, h2⟩ := subset_perm V _ hnd (fun a ha => (hm a).2 ha)
  have e1 := h1.length_eq
  have e2 := h2.length_eq
  rw [List.length_append] at e1 e2
  omega

structure LabOk (rows : List (List Int)) (n k : Nat) : Prop where
  lt : ∀ y, (lab rows k).1 y < ((lab rows k).2 : Int)
  onto : ∀ o, o < (lab rows k).2 → ∃ y, y < n ∧ (lab rows k).1 y = (o : Int)
  all : ∀ y, y < k → 0 ≤ (lab rows k).1 y
theorem lab_ok (rows : List (List Int)) (n k : Nat) (hg : Gens rows n) (hk : k ≤ n) : LabOk rows n k := by
  induction k with
  | zero => exact ⟨fun y => by simp [lab], fun o ho => by simp [lab] at ho, fun y hy => by omega⟩
  | succ k ih =>
    have ih := ih (by omega)
    by_cases h0 : 0 ≤ (lab rows k).1 k
    · have e : lab rows (k + 1) = lab rows k := by rw [lab, if_pos h0]
      exact ⟨by rw [e]; exact ih.lt, by rw [e]; exact ih.onto, fun y hy => by
        rw [e]
        by_cases h : y = k
        · subst h; exact h0
        · exact ih.all y (by omega)⟩
    · have e : lab rows (k + 1) = (fun y => if Rch rows k y then ((lab rows k).2 : Int) else (lab rows k).1 y, (lab rows k).2 + 1) := by rw [lab, if_neg h0]
      have hun : ∀ y, Rch rows k y → (lab rows k).1 y < 0 := fun y hy => by
        have hkn : k < n := by omega
        induction hy with
        | start => omega
        | @step a b h1 hs ih2 =>
          have ha := hg.stay hkn h1
          have := lab_closed hg k (by omega) a b ha hs
          omega
      refine ⟨?_, ?_, ?_⟩
      · intro y
        rw [e]
        show (if Rch rows k y then ((lab rows k).2 : Int) else (lab rows k).1 y) < (((lab rows k).2 + 1 : Nat) : Int)
        have := ih.lt y
        split <;> omega
      · intro o ho
        rw [e] at ho ⊢
        have ho' : o < (lab rows k).2 + 1 := ho
        show ∃ y, y < n ∧ (if Rch rows k y then ((lab rows k).2 : Int) else (lab rows k).1 y) = (o : Int)
        by_cases h : o = (lab rows k).2
        · exact ⟨k, by omega, by rw [if_pos .start, h]⟩
        · obtain ⟨y, hy, hyo⟩ := ih.onto o (by omega)
          refine ⟨y, hy, ?_⟩
          rw [if_neg (fun hr => by have := hun y hr; omega), hyo]
      · intro y hy
        rw [e]
        show 0 ≤ (if Rch rows k y then ((lab rows k).2 : Int) else (lab rows k).1 y)
        by_cases h : Rch rows k y
        · rw [if_pos h]; omega
        · rw [if_neg h]
          by_cases h2 : y = k
          · subst h2; exact absurd .start h
          · exact ih.all y (by omega)
theorem lab_free {rows : List (List Int)} {n k : Nat} (hg : Gens rows n) (hk : k < n) (h0 : (lab rows k).1 k < 0) (y : Nat) (hy : Rch rows k y) : (lab rows k).1 y < 0 := by
  induction hy with
  | start => exact h0
  | @step a b h1 hs ih2 =>
    have ha := hg.stay hk h1
    have := lab_closed hg k (by omega) a b ha hs
    omega

/-- The numbers of elements of the labels when the elements below k are done. -/
noncomputable def cyc (rows : List (List Int)) (n k : Nat) : List Int := (List.range (lab rows k).2).map fun o => (cnt (lab rows k).1 n o : Int)
theorem cyc_stay (rows : List (List Int)) (n k : Nat) (h0 : 0 ≤ (lab rows k).1 k) : cyc rows n (k + 1) = cyc rows n k := by
  have e : lab rows (k + 1) = lab rows k := by rw [lab, if_pos h0]
  unfold cyc
  rw [e]
theorem cyc_next (rows : List (List Int)) (n k : Nat) (hg : Gens rows n) (hk : k < n) (h0 : (lab rows k).1 k < 0) (V : List Nat) (hnd : V.Nodup) (hV : ∀ y, y ∈ V ↔ Rch rows k y) : cyc rows n (k + 1) = cyc rows n k ++ [(V.length : Int)] := by
  have e : lab rows (k + 1) = (fun y => if Rch rows k y then ((lab rows k).2 : Int) else (lab rows k).1 y, (lab rows k).2 + 1) := by rw [lab, if_neg (by omega)]
  have hok := lab_ok rows n k hg (by omega)
  unfold cyc
  rw [e]
  show (List.range ((lab rows k).2 + 1)).map (fun o => (cnt (fun y => if Rch rows k y then ((lab rows k).2 : Int) else (lab rows k).1 y) n o : Int)) = _
  rw [List.range_succ, List.map_append]
  congr 1
  · refine List.map_congr_left (fun o ho => ?_)
    have ho' := List.mem_range.1 ho
    congr 1
    refine cnt_congr _ _ _ _ (fun y _ => ?_)
    by_cases hr : Rch rows k y
    · rw [if_pos hr]
      have := lab_free hg hk h0 y hr
      constructor <;> intro h <;> omega
    · rw [if_neg hr]
  · simp only [List.map_cons, List.map_nil]
    congr 1
    congr 1
    refine cnt_list _ _ _ V hnd (fun y => ?_)
    rw [hV y]
    constructor
    · intro hr
      exact ⟨hg.stay hk hr, by rw [if_pos hr]⟩
    · rintro ⟨_, h⟩
      by_cases hr : Rch rows k y
      · exact hr
      · rw [if_neg hr] at h
        have := hok.lt y
        omega
end Go.Proofs.Ytgmloaemnbnbgaa
