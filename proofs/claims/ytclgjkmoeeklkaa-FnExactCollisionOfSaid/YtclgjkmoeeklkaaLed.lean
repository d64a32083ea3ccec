import Derived.Test.YtclgjkmoeeklkaaMapP
import Derived.Test.YtclgjkmoeeklkaaColF
import Derived.Test.YtclgjkmoeeklkaaLst2
import Derived.Test.YtclgjkmoeeklkaaBlk
namespace Go.Proofs.Ytclgjkmoeeklkaa
open Go Go.RowKit
open Go.ChangeMaps (setBlock heap_setBlock_same heap_setBlock_other)
open Classical
set_option maxRecDepth 100000

/-- The map from each pair to the list of those that are led to it, among the first k: G tells the slices. -/
structure Led (w : World) (b B n k : Nat) (f s : List (List Int)) (G : Nat × Nat → Value) : Prop where
  map : ∃ V, MapV w b k V ∧ ∀ p : Nat × Nat, (V (pkey p.1 p.2)).getD (.slice none 0 0) = G p
  low : b < B
  rows : ∀ p : Nat × Nat, w.ownsRow B 78 2 (G p) (ledL f s n k p).length (pcs n (ledL f s n k p))
  ne : ∀ (p p' : Nat × Nat) (g : Nat), p ≠ p' → (G p).ownBlock = some g → (G p').ownBlock ≠ some g

theorem Led.start {w : World} {b : Nat} {V : Value → Option Value} (h : MapV w b 0 V) (hV : ∀ v, V v = none) (B n : Nat) (f s : List (List Int)) (hb : b < B) : Led w b B n 0 f s (fun _ => .slice none 0 0) :=
  ⟨⟨V, h, fun p => by rw [hV]; rfl⟩, hb, fun p => ⟨by simp [ledL, pcs], .inl ⟨rfl, by simp [ledL]⟩⟩, fun _ _ _ _ h => by cases h⟩
theorem Led.lt {w : World} {b B n k : Nat} {f s : List (List Int)} {G : Nat × Nat → Value} (h : Led w b B n k f s G) : b < w.heap.size := by
  obtain ⟨V, hm, _⟩ := h.map
  exact hm.lt
theorem ownsRow2_later {w w' : World} {B n : Nat} {t : TypeId} {v : Value} {xs : List Value} (h : w.ownsRow B t 2 v n xs) (hb : Below w.heap.size w w') : w'.ownsRow B t 2 v n xs := by
  obtain ⟨hl, h | ⟨g, cap, cur, hv, h1, hg, hn, hcap, hsz, hxs⟩⟩ := h
  · exact ⟨hl, .inl h⟩
  · exact ⟨hl, .inr ⟨g, cap, cur, hv, h1, (hb.block g (Array.getElem?_eq_some_iff.1 hg).1).trans hg, hn, hcap, hsz, hxs⟩⟩
theorem Led.later {w w' : World} {b B n k : Nat} {f s : List (List Int)} {G : Nat × Nat → Value} (h : Led w b B n k f s G) (hb : Below w.heap.size w w') : Led w' b B n k f s G := by
  obtain ⟨⟨V, hm, hV⟩, h1, h2, h3⟩ := h
  exact ⟨⟨V, hm.later hb, hV⟩, h1, fun p => ownsRow2_later (h2 p) hb, h3⟩

theorem led_low {w : World} {b B n k : Nat} {f s : List (List Int)} {G : Nat × Nat → Value} (h : Led w b B n k f s G) (p : Nat × Nat) : some b ≠ (G p).ownBlock := fun e => by
  have h1 := (h.rows p).lt b e.symm
  have h2 := h.low
  omega

/-- A pair is appended to the list at the pair to which it is led: the entry is looked up, the slice appended to, and laid back. -/
theorem Led.step {w : World} {b B n k : Nat} {f s : List (List Int)} {G : Nat × Nat → Value} {t : TypeId} (h : Led w b B n k f s G) (ht : Try.prog.underlying t = some (.map 78 86)) (hz : ∀ u : World, (zeroValue 86).run Try.prog u = .ok (.slice none 0 0) u) (hk : k < maxLen) (q : Nat × Nat) (hq : ledK f s n k = q) (hq1 : q.1 < 4611686018427387904) (hq2 : q.2 < 4611686018427387904) :
    ∃ st W, (Instr.mapEntry t (.map (some b)) (.agg #[.int .i64 q.1, .int .i64 q.2])).run Try.prog w = .ok (.tuple #[G q, .int .i64 st]) W ∧ (∀ i, i ≠ b → W.heap[i]? = w.heap[i]?) ∧ W.heap.size = w.heap.size ∧ w.grownBy W (some b) ∧
      (W.ownsRow B 78 2 (G q) (ledL f s n k q).length (pcs n (ledL f s n k q))) ∧
      ∀ (w1 : World) (v' : Value), W.grownBy w1 (G q).ownBlock → w1.ownsRow B 78 2 v' ((ledL f s n k q).length + 1) (pcs n (ledL f s n k q) ++ [.int .i64 ((k / n : Nat) : Int), .int .i64 ((k % n : Nat) : Int)]) → (v'.ownBlock = (G q).ownBlock ∨ v'.ownBlock = some W.heap.size) →
        ∃ w3, (Instr.entryStore t (.map (some b)) (.int .i64 st) v').run Try.prog w1 = .ok () w3 ∧ w1.grownBy w3 (some b) ∧ Led w3 b B n (k + 1) f s (fun p => if p = q then v' else G p) := by
  obtain ⟨V, hm, hV⟩ := h.map
  have hlow := h.low
  have hrows := h.rows
  have hne := h.ne
  have hltb := hm.lt
  obtain ⟨kl, hkey⟩ := mp_key w q.1 q.2 hq1 hq2
  obtain ⟨st, es1, clock1, hE, hS⟩ := hm.entry ht hz hk hkey
  have hbk : ∃ es clock, w.heap[b]? = some (.map es clock) := by
    obtain ⟨D, ⟨es, clock, hb, _⟩, _⟩ := hm
    exact ⟨es, clock, hb⟩
  obtain ⟨es0, clock0, hb0⟩ := hbk
  have hother : ∀ i, i ≠ b → (setBlock w b (.map es1 clock1)).heap[i]? = w.heap[i]? := fun i hi => heap_setBlock_other hb0 _ hi
  have hsize : (setBlock w b (.map es1 clock1)).heap.size = w.heap.size := by simp [setBlock]
  have hgr : w.grownBy (setBlock w b (.map es1 clock1)) (some b) := ⟨rfl, rfl, rfl, by simp [setBlock], fun i _ hi => heap_setBlock_other hb0 _ (fun e => hi (by rw [e]))⟩
  have hkeep : ∀ p : Nat × Nat, (setBlock w b (.map es1 clock1)).ownsRow B 78 2 (G p) (ledL f s n k p).length (pcs n (ledL f s n k p)) := fun p => (hrows p).kept hgr (by
    cases e : (G p).ownBlock with
    | none => exact .inl rfl
    | some g => exact .inr (fun e2 => led_low h p (by rw [e, e2])))
  refine ⟨st, setBlock w b (.map es1 clock1), ?_, hother, hsize, hgr, hkeep q, fun w1 v' hg1 hown hat => ?_⟩
  · rw [← hV q]; exact hE
  have hb1 : w1.heap[b]? = some (.map es1 clock1) := (hg1.block b (by rw [hsize]; exact hltb) (led_low h q)).trans (heap_setBlock_same hb0 _)
  obtain ⟨es', clock', hrun, hMap⟩ := hS w1 v' hb1
  have hgr3 : w1.grownBy (setBlock w1 b (.map es' clock')) (some b) := ⟨rfl, rfl, rfl, by simp [setBlock], fun i _ hi => heap_setBlock_other hb1 _ (fun e => hi (by rw [e]))⟩
  refine ⟨setBlock w1 b (.map es' clock'), hrun, hgr3, ⟨_, hMap, fun p => ?_⟩, hlow, fun p => ?_, fun p p' g hpp hg hg' => ?_⟩
  · by_cases e : p = q
    · subst e
      simp
    · have e2 : pkey p.1 p.2 ≠ pkey q.1 q.2 := fun e3 => e (by
        obtain ⟨e4, e5⟩ := pkey_inj e3
        exact Prod.ext e4 e5)
      simp only [if_neg e, if_neg e2]
      exact hV p
  · rw [ledL_succ]
    by_cases e : p = q
    · subst e
      simp only [if_pos, hq]
      rw [List.length_append, List.length_singleton, pcs_snoc]
      refine hown.kept hgr3 ?_
      cases e : v'.ownBlock with
      | none => exact .inl rfl
      | some g =>
        refine .inr (fun e2 => ?_)
        injection e2 with e2
        have := hown.lt g e
        omega
    · have e2 : ¬ ledK f s n k = p := fun e3 => e (e3.symm.trans hq)
      simp only [if_neg e, if_neg e2]
      have h1 : w1.ownsRow B 78 2 (G p) (ledL f s n k p).length (pcs n (ledL f s n k p)) := (hkeep p).kept hg1 (by
        cases e3 : (G p).ownBlock with
        | none => exact .inl rfl
        | some g => exact .inr (fun e4 => hne p q g e e3 e4.symm))
      refine h1.kept hgr3 ?_
      cases e3 : (G p).ownBlock with
      | none => exact .inl rfl
      | some g => exact .inr (fun e4 => led_low h p (by rw [e3, e4]))
  · have hnew : ∀ p'', p'' ≠ q → ∀ g, v'.ownBlock = some g → (G p'').ownBlock ≠ some g := fun p'' hp g hg hg' => by
      rcases hat with e | e
      · exact hne p'' q g hp hg' (e ▸ hg)
      · rw [hg] at e
        injection e with e
        have := (hrows p'').lt g hg'
        omega
    by_cases e : p = q
    · have e2 : p' ≠ q := fun e2 => hpp (e.trans e2.symm)
      simp only [if_pos e] at hg
      simp only [if_neg e2] at hg'
      exact hnew p' e2 g hg hg'
    · simp only [if_neg e] at hg
      by_cases e2 : p' = q
      · simp only [if_pos e2] at hg'
        exact hnew p e g hg' hg
      · simp only [if_neg e2] at hg'
        exact hne p p' g hpp hg hg'
end Go.Proofs.Ytclgjkmoeeklkaa
