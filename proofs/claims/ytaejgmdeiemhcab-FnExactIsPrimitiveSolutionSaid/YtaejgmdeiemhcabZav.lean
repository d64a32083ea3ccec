import Derived.Test.YtaejgmdeiemhcabZj
import Derived.Test.YtaejgmdeiemhcabZap
import Derived.Test.YtaejgmdeiemhcabZw
import Derived.Test.YtaejgmdeiemhcabZz
import Derived.Test.YtaejgmdeiemhcabZao
import Derived.Test.YtaejgmdeiemhcabZx
import Derived.Test.YtaejgmdeiemhcabZf
import Derived.Test.YtaejgmdeiemhcabProg
import Derived.Test.YtaejgmdeiemhcabZb
import Derived.Test.YtaejgmdeiemhcabZat
import Derived.Test.YtaejgmdeiemhcabZa
import Derived.Test.YtaejgmdeiemhcabZy
import Derived.Test.YtaejgmdeiemhcabZi
namespace Go.Proofs.Ytaejgmdeiemhcab
open Go Go.RowKit
open Classical

/-- How many of n elements have the label o. -/
def cnt (f : Nat → Int) (n : Nat) (o : Nat) : Nat := (List.range n).countP fun y => f y == (o : Int)
theorem cnt_congr (f g : Nat → Int) (n o : Nat) (h : ∀ y, y < n → (f y = (o : Int) ↔ g y = (o : Int))) : cnt f n o = cnt g n o := by
  unfold cnt
  refine List.countP_congr (fun y hy => ?_)
  have := h y (List.mem_range.1 hy)
  simpa using this
theorem cnt_list (f : Nat → Int) (n o : Nat) (V : List Nat) (hnd : V.Nodup) (h : ∀ y, y ∈ V ↔ y < n ∧ f y = (o : Int)) : cnt f n o = V.length := by
  unfold cnt
  rw [List.countP_eq_length_filter]
  have hF : ((List.range n).filter fun y => f y == (o : Int)).Nodup := List.Pairwise.filter _ List.nodup_range
  have hm : ∀ y, y ∈ (List.range n).filter (fun y => f y == (o : Int)) ↔ y ∈ V := fun y => by
    rw [h y]; simp
  obtain ⟨l1, h1⟩ := subset_perm _ V hF (fun a ha => (hm a).1 ha)
  obtain ⟨l2, h2⟩ := subset_perm V _ hnd (fun a ha => (hm a).2 ha)
  have e1 := h1.length_eq
  have e2 := h2.length_eq
  rw [List.length_append] at e1 e2
  omega

structure LabOk (rows : List (List Int)) (n k : Nat) : Prop where
  lt : ∀ y, (lab rows k).1 y < ((lab rows k).2 : Int)
  onto : ∀ o, o < (lab rows k).2 → ∃ y, y < n ∧ (lab rows k).1 y = (o : Int)
  all : ∀ y, y < k → 0 ≤ (lab rows k).1 y
theorem lab_ok (rows : List (List Int)) (n k : Nat) (hg : Gens rows n) (hk : k ≤ n) : LabOk rows n k := by
  induction k with
  | zero => exact ⟨fun y => by simp [lab], fun o ho => by simp [lab] at ho, fun y hy => by omega⟩
  | succ k ih =>
    have ih := ih (by omega)
    by_cases h0 : 0 ≤ (lab rows k).1 k
    · have e : lab rows (k + 1) = lab rows k := by rw [lab, if_pos h0]
      exact ⟨by rw [e]; exact ih.lt, by rw [e]; exact ih.onto, fun y hy => by
        rw [e]
        by_cases h : y = k
        · subst h; exact h0
        · exact ih.all y (by omega)⟩
    · have e : lab rows (k + 1) = (fun y => if Rch rows k y then ((lab rows k).2 : Int) else (lab rows k).1 y, (lab rows k).2 + 1) := by rw [lab, if_neg h0]
      have hun : ∀ y, Rch rows k y → (lab rows k).1 y < 0 := fun y hy => by
        have hkn : k < n := by omega
        induction hy with
        | start => omega
        | @step a b h1 hs ih2 =>
          have ha := hg.stay hkn h1
          have := lab_closed hg k (by omega) a b ha hs
          omega
      refine ⟨?_, ?_, ?_⟩
      · intro y
        rw [e]
        show (if Rch rows k y then ((lab rows k).2 : Int) else (lab rows k).1 y) < (((lab rows k).2 + 1 : Nat) : Int)
        have := ih.lt y
        split <;> omega
      · intro o ho
        rw [e] at ho ⊢
        have ho' : o < (lab rows k).2 + 1 := ho
        show ∃ y, y < n ∧ (if Rch rows k y then ((lab rows k).2 : Int) else (lab rows k).1 y) = (o : Int)
        by_cases h : o = (lab rows k).2
        · exact ⟨k, by omega, by rw [if_pos .start, h]⟩
        · obtain ⟨y, hy, hyo⟩ := ih.onto o (by omega)
          refine ⟨y, hy, ?_⟩
          rw [if_neg (fun hr => by have := hun y hr; omega), hyo]
      · intro y hy
        rw [e]
        show 0 ≤ (if Rch rows k y then ((lab rows k).2 : Int) else (lab rows k).1 y)
        by_cases h : Rch rows k y
        · rw [if_pos h]; omega
        · rw [if_neg h]
          by_cases h2 : y = k
          · subst h2; exact absurd .start h
          · exact ih.all y (by omega)
theorem lab_free {rows : List (List Int)} {n k : Nat} (hg : Gens rows n) (hk : k < n) (h0 : (lab rows k).1 k < 0) (y : Nat) (hy : Rch rows k y) : (lab rows k).1 y < 0 := by
  induction hy with
  | start => exact h0
  | @step a b h1 hs ih2 =>
    have ha := hg.stay hk h1
    have := lab_closed hg k (by omega) a b ha hs
    omega

/-- The numbers of elements of the labels when the elements below k are done. -/
noncomputable def cyc (rows : List (List Int)) (n k : Nat) : List Int := (List.range (lab rows k).2).map fun o => (cnt (lab rows k).1 n o : Int)
theorem cyc_stay (rows : List (List Int)) (n k : Nat) (h0 : 0 ≤ (lab rows k).1 k) : cyc rows n (k + 1) = cyc rows n k := by
  have e : lab rows (k + 1) = lab rows k := by rw [lab, if_pos h0]
  unfold cyc
  rw [e]
theorem cyc_next (rows : List (List Int)) (n k : Nat) (hg : Gens rows n) (hk : k < n) (h0 : (lab rows k).1 k < 0) (V : List Nat) (hnd : V.Nodup) (hV : ∀ y, y ∈ V ↔ Rch rows k y) : cyc rows n (k + 1) = cyc rows n k ++ [(V.length : Int)] := by
  have e : lab rows (k + 1) = (fun y => if Rch rows k y then ((lab rows k).2 : Int) else (lab rows k).1 y, (lab rows k).2 + 1) := by rw [lab, if_neg (by omega)]
  have hok := lab_ok rows n k hg (by omega)
  unfold cyc
  rw [e]
  show (List.range ((lab rows k).2 + 1)).map (fun o => (cnt (fun y => if Rch rows k y then ((lab rows k).2 : Int) else (lab rows k).1 y) n o : Int)) = _
  rw [List.range_succ, List.map_append]
  congr 1
  · refine List.map_congr_left (fun o ho => ?_)
    have ho' := List.mem_range.1 ho
    congr 1
    refine cnt_congr _ _ _ _ (fun y _ => ?_)
    by_cases hr : Rch rows k y
    · rw [if_pos hr]
      have := lab_free hg hk h0 y hr
      constructor <;> intro h <;> omega
    · rw [if_neg hr]
  · simp only [List.map_cons, List.map_nil]
    congr 1
    congr 1
    refine cnt_list _ _ _ V hnd (fun y => ?_)
    rw [hV y]
    constructor
    · intro hr
      exact ⟨hg.stay hk hr, by rw [if_pos hr]⟩
    · rintro ⟨_, h⟩
      by_cases hr : Rch rows k y
      · exact hr
      · rw [if_neg hr] at h
        have := hok.lt y
        omega
end Go.Proofs.Ytaejgmdeiemhcab
namespace Go.Proofs.Ytaejgmdeiemhcab
open Go Go.RowKit

theorem ex_gen {Q : Exit → Act → World → Prop} {e : Exit} {a : Act} {w : World} (h : ∀ wf, wf = w → Q e a wf) : Q e a w := h w rfl

/-- The boxes that a call has made, the last one being top; the list of pairs; and nothing below is changed. -/
structure FK (w wx : World) (g n top : Nat) (bs : List (Nat × TypeId × List Value)) : Prop where
  below : Below w.heap.size w wx
  pairs : PairsAt wx g n
  gtop : g ≤ top
  blks : ∀ q, q ∈ bs → Blk wx q.1 q.2.1 q.2.2 ∧ q.1 ≤ top
  low : w.heap.size ≤ top
  sz : top < wx.heap.size

section
variable {w wx wy : World} {g n top : Nat} {bs : List (Nat × TypeId × List Value)}
theorem FK.start {b1 b2 b3 : Nat} {t1 t2 t3 : TypeId} {c1 c2 c3 : List Value} (hb : Below w.heap.size w wx) (hp : PairsAt wx g n) (h1 : Blk wx b1 t1 c1) (h2 : Blk wx b2 t2 c2) (h3 : Blk wx b3 t3 c3) (hw : w.heap.size < wx.heap.size := by assumption) : FK w wx g n (wx.heap.size - 1) [(b3, t3, c3), (b2, t2, c2), (b1, t1, c1)] :=
  ⟨hb, hp, by have := hp.1; omega, fun q hq => by
    have l1 := h1.lt
    have l2 := h2.lt
    have l3 := h3.lt
    simp at hq
    rcases hq with rfl | rfl | rfl
    · exact ⟨h3, by show b3 ≤ _; omega⟩
    · exact ⟨h2, by show b2 ≤ _; omega⟩
    · exact ⟨h1, by show b1 ≤ _; omega⟩, by omega, by omega⟩
theorem FK.later (h : FK w wx g n top bs) (hb : Below wx.heap.size wx wy) : FK w wy g n top bs :=
  ⟨h.below.trans (hb.mono h.below.size), h.pairs.later hb, h.gtop, fun q hq => ⟨(h.blks q hq).1.later hb, (h.blks q hq).2⟩, h.low, Nat.lt_of_lt_of_le h.sz hb.size⟩
theorem FK.set (h : FK w wx g n top bs) {p : Addr} (hp : top < p.block) (v : Value) : FK w (wx.setCell p v) g n top bs :=
  ⟨h.below.setCell (Nat.le_trans h.low (Nat.le_of_lt hp)) v, h.pairs.touch (lo := p.block) (hi := p.block + 1) ⟨rfl, rfl, rfl, by simp [World.setCell], fun k _ hne => Below.heap_setCell wx p v k (by omega)⟩ (.inl (Nat.lt_of_le_of_lt h.gtop hp)), h.gtop, fun q hq => ⟨(h.blks q hq).1.far (by have := (h.blks q hq).2; omega) v, (h.blks q hq).2⟩, h.low, by have := h.sz; simp [World.setCell]; omega⟩
theorem FK.push (h : FK w wx g n top bs) {L : Nat} {t : TypeId} {cs : List Value} (hb : Blk wx L t cs) (hL : top < L) : FK w wx g n L ((L, t, cs) :: bs) :=
  ⟨h.below, h.pairs, by have := h.gtop; omega, fun q hq => by
    rcases List.mem_cons.1 hq with rfl | hq
    · exact ⟨hb, Nat.le_refl _⟩
    · exact ⟨(h.blks q hq).1, by have := (h.blks q hq).2; omega⟩, by have := h.low; omega, hb.lt⟩
theorem FK.new (h : FK w wx g n top bs) (t : TypeId) (cs : List Value) : FK w (wx.alloc (.cells cs.toArray t)) g n wx.heap.size ((wx.heap.size, t, cs) :: bs) :=
  (h.later ((Below.refl _ _).alloc (Nat.le_refl _) _)).push (Blk.new _ _ _) h.sz
theorem FK.blk (h : FK w wx g n top bs) {b : Nat} {t : TypeId} {cs : List Value} (hm : (b, t, cs) ∈ bs) : Blk wx b t cs := (h.blks _ hm).1
theorem FK.top' (h : FK w wx g n top bs) {b : Nat} {t : TypeId} {cs : List Value} (hm : (b, t, cs) ∈ bs) : b ≤ top := (h.blks _ hm).2
end
end Go.Proofs.Ytaejgmdeiemhcab
namespace Go.Proofs.Ytaejgmdeiemhcab
open Go Go.RowKit
open Go.ChangeMaps (setBlock heap_setBlock_same heap_setBlock_other)
open Classical
set_option maxRecDepth 100000

/-- The map from each pair to the list of those that are led to it, among the first k: G tells the slices. -/
structure Led (w : World) (b B n k : Nat) (f s : List (List Int)) (G : Nat × Nat → Value) : Prop where
  map : ∃ V, MapV w b k V ∧ ∀ p : Nat × Nat, (V (pkey p.1 p.2)).getD (.slice none 0 0) = G p
  low : b < B
  rows : ∀ p : Nat × Nat, w.ownsRow B 71 2 (G p) (ledL f s n k p).length (pcs n (ledL f s n k p))
  ne : ∀ (p p' : Nat × Nat) (g : Nat), p ≠ p' → (G p).ownBlock = some g → (G p').ownBlock ≠ some g

theorem Led.start {w : World} {b : Nat} {V : Value → Option Value} (h : MapV w b 0 V) (hV : ∀ v, V v = none) (B n : Nat) (f s : List (List Int)) (hb : b < B) : Led w b B n 0 f s (fun _ => .slice none 0 0) :=
  ⟨⟨V, h, fun p => by rw [hV]; rfl⟩, hb, fun p => ⟨by simp [ledL, pcs], .inl ⟨rfl, by simp [ledL]⟩⟩, fun _ _ _ _ h => by cases h⟩
theorem Led.lt {w : World} {b B n k : Nat} {f s : List (List Int)} {G : Nat × Nat → Value} (h : Led w b B n k f s G) : b < w.heap.size := by
  obtain ⟨V, hm, _⟩ := h.map
  exact hm.lt
theorem ownsRow2_later {w w' : World} {B n : Nat} {t : TypeId} {v : Value} {xs : List Value} (h : w.ownsRow B t 2 v n xs) (hb : Below w.heap.size w w') : w'.ownsRow B t 2 v n xs := by
  obtain ⟨hl, h | ⟨g, cap, cur, hv, h1, hg, hn, hcap, hsz, hxs⟩⟩ := h
  · exact ⟨hl, .inl h⟩
  · exact ⟨hl, .inr ⟨g, cap, cur, hv, h1, (hb.block g (Array.getElem?_eq_some_iff.1 hg).1).trans hg, hn, hcap, hsz, hxs⟩⟩
theorem Led.later {w w' : World} {b B n k : Nat} {f s : List (List Int)} {G : Nat × Nat → Value} (h : Led w b B n k f s G) (hb : Below w.heap.size w w') : Led w' b B n k f s G := by
  obtain ⟨⟨V, hm, hV⟩, h1, h2, h3⟩ := h
  exact ⟨⟨V, hm.later hb, hV⟩, h1, fun p => ownsRow2_later (h2 p) hb, h3⟩

theorem led_low {w : World} {b B n k : Nat} {f s : List (List Int)} {G : Nat × Nat → Value} (h : Led w b B n k f s G) (p : Nat × Nat) : some b ≠ (G p).ownBlock := fun e => by
  have h1 := (h.rows p).lt b e.symm
  have h2 := h.low
  omega

/-- A pair is appended to the list at the pair to which it is led: the entry is looked up, the slice appended to, and laid back. -/
theorem Led.step {w : World} {b B n k : Nat} {f s : List (List Int)} {G : Nat × Nat → Value} {t : TypeId} (h : Led w b B n k f s G) (ht : Try.prog.underlying t = some (.map 71 99)) (hz : ∀ u : World, (zeroValue 99).run Try.prog u = .ok (.slice none 0 0) u) (hk : k < maxLen) (q : Nat × Nat) (hq : ledK f s n k = q) (hq1 : q.1 < 4611686018427387904) (hq2 : q.2 < 4611686018427387904) :
    ∃ st W, (Instr.mapEntry t (.map (some b)) (.agg #[.int .i64 q.1, .int .i64 q.2])).run Try.prog w = .ok (.tuple #[G q, .int .i64 st]) W ∧ (∀ i, i ≠ b → W.heap[i]? = w.heap[i]?) ∧ W.heap.size = w.heap.size ∧ w.grownBy W (some b) ∧
      (W.ownsRow B 71 2 (G q) (ledL f s n k q).length (pcs n (ledL f s n k q))) ∧
      ∀ (w1 : World) (v' : Value), W.grownBy w1 (G q).ownBlock → w1.ownsRow B 71 2 v' ((ledL f s n k q).length + 1) (pcs n (ledL f s n k q) ++ [.int .i64 ((k / n : Nat) : Int), .int .i64 ((k % n : Nat) : Int)]) → (v'.ownBlock = (G q).ownBlock ∨ v'.ownBlock = some W.heap.size) →
        ∃ w3, (Instr.entryStore t (.map (some b)) (.int .i64 st) v').run Try.prog w1 = .ok () w3 ∧ w1.grownBy w3 (some b) ∧ Led w3 b B n (k + 1) f s (fun p => if p = q then v' else G p) := by
  obtain ⟨V, hm, hV⟩ := h.map
  have hlow := h.low
  have hrows := h.rows
  have hne := h.ne
  have hltb := hm.lt
  obtain ⟨kl, hkey⟩ := mp_key w q.1 q.2 hq1 hq2
  obtain ⟨st, es1, clock1, hE, hS⟩ := hm.entry ht hz hk hkey
  have hbk : ∃ es clock, w.heap[b]? = some (.map es clock) := by
    obtain ⟨D, ⟨es, clock, hb, _⟩, _⟩ := hm
    exact ⟨es, clock, hb⟩
  obtain ⟨es0, clock0, hb0⟩ := hbk
  have hother : ∀ i, i ≠ b → (setBlock w b (.map es1 clock1)).heap[i]? = w.heap[i]? := fun i hi => heap_setBlock_other hb0 _ hi
  have hsize : (setBlock w b (.map es1 clock1)).heap.size = w.heap.size := by simp [setBlock]
  have hgr : w.grownBy (setBlock w b (.map es1 clock1)) (some b) := ⟨rfl, rfl, rfl, by simp [setBlock], fun i _ hi => heap_setBlock_other hb0 _ (fun e => hi (by rw [e]))⟩
  have hkeep : ∀ p : Nat × Nat, (setBlock w b (.map es1 clock1)).ownsRow B 71 2 (G p) (ledL f s n k p).length (pcs n (ledL f s n k p)) := fun p => (hrows p).kept hgr (by
    cases e : (G p).ownBlock with
    | none => exact .inl rfl
    | some g => exact .inr (fun e2 => led_low h p (by rw [e, e2])))
  refine ⟨st, setBlock w b (.map es1 clock1), ?_, hother, hsize, hgr, hkeep q, fun w1 v' hg1 hown hat => ?_⟩
  · rw [← hV q]; exact hE
  have hb1 : w1.heap[b]? = some (.map es1 clock1) := (hg1.block b (by rw [hsize]; exact hltb) (led_low h q)).trans (heap_setBlock_same hb0 _)
  obtain ⟨es', clock', hrun, hMap⟩ := hS w1 v' hb1
  have hgr3 : w1.grownBy (setBlock w1 b (.map es' clock')) (some b) := ⟨rfl, rfl, rfl, by simp [setBlock], fun i _ hi => heap_setBlock_other hb1 _ (fun e => hi (by rw [e]))⟩
  refine ⟨setBlock w1 b (.map es' clock'), hrun, hgr3, ⟨_, hMap, fun p => ?_⟩, hlow, fun p => ?_, fun p p' g hpp hg hg' => ?_⟩
  · by_cases e : p = q
    · subst e
      simp
    · have e2 : pkey p.1 p.2 ≠ pkey q.1 q.2 := fun e3 => e (by
        obtain ⟨e4, e5⟩ := pkey_inj e3
        exact Prod.ext e4 e5)
      simp only [if_neg e, if_neg e2]
      exact hV p
  · rw [ledL_succ]
    by_cases e : p = q
    · subst e
      simp only [if_pos, hq]
      rw [List.length_append, List.length_singleton, pcs_snoc]
      refine hown.kept hgr3 ?_
      cases e : v'.ownBlock with
      | none => exact .inl rfl
      | some g =>
        refine .inr (fun e2 => ?_)
        injection e2 with e2
        have := hown.lt g e
        omega
    · have e2 : ¬ ledK f s n k = p := fun e3 => e (e3.symm.trans hq)
      simp only [if_neg e, if_neg e2]
      have h1 : w1.ownsRow B 71 2 (G p) (ledL f s n k p).length (pcs n (ledL f s n k p)) := (hkeep p).kept hg1 (by
        cases e3 : (G p).ownBlock with
        | none => exact .inl rfl
        | some g => exact .inr (fun e4 => hne p q g e e3 e4.symm))
      refine h1.kept hgr3 ?_
      cases e3 : (G p).ownBlock with
      | none => exact .inl rfl
      | some g => exact .inr (fun e4 => led_low h p (by rw [e3, e4]))
  · have hnew : ∀ p'', p'' ≠ q → ∀ g, v'.ownBlock = some g → (G p'').ownBlock ≠ some g := fun p'' hp g hg hg' => by
      rcases hat with e | e
      · exact hne p'' q g hp hg' (e ▸ hg)
      · rw [hg] at e
        injection e with e
        have := (hrows p'').lt g hg'
        omega
    by_cases e : p = q
    · have e2 : p' ≠ q := fun e2 => hpp (e.trans e2.symm)
      simp only [if_pos e] at hg
      simp only [if_neg e2] at hg'
      exact hnew p' e2 g hg hg'
    · simp only [if_neg e] at hg
      by_cases e2 : p' = q
      · simp only [if_pos e2] at hg'
        exact hnew p e g hg' hg
      · simp only [if_neg e2] at hg'
        exact hne p p' g hpp hg hg'
end Go.Proofs.Ytaejgmdeiemhcab
namespace Go.Proofs.Ytaejgmdeiemhcab
open Go Go.RowKit
open Classical
set_option maxHeartbeats 2000000

theorem liInfo : (Try.prog.info? 2).map (fun i => (i.zero, i.size, i.bytes)) = some (some (.int .i64 0), 1, 8) := by kernel_rfl
theorem li_new {w : World} {v : Value} : ∀ j u, [v][j]? = some u → (w.alloc (.cells #[v] 2)).cell? ((⟨w.heap.size, 0, none⟩ : Addr).add j) = some u := by
  intro j u hj
  match j, hj with
  | 0, hj => simp at hj; subst hj; simp [Addr.add, World.cell?_alloc_new]
theorem li_one (w : World) (t : TypeId) (v : Value) : (w.alloc (.cells #[v] t)).ownsRow w.heap.size t 1 (.slice (some ⟨w.heap.size, 0, none⟩) 1 1) 1 [v] :=
  ⟨by simp, .inr ⟨w.heap.size, 1, #[v], rfl, Nat.le_refl _, heap_alloc_new _ _, Nat.le_refl _, by unfold maxLen; omega, by simp, by simp⟩⟩
/-- What is left of a row when its last element is cut off. -/
theorem own_front {w : World} {B n c : Nat} {t : TypeId} {A : Option Addr} {xs : List Value} (h : w.ownsRow B t 1 (.slice A (n + 1) c) (n + 1) xs) : w.ownsRow B t 1 (.slice A n c) n (xs.take n) := by
  obtain ⟨hl, h | ⟨g, cap, cur, hv, hb, hg, hn, hcap, hsz, hxs⟩⟩ := h
  · exact absurd h.2 (by omega)
  · injection hv with h1 h2 h3
    subst h1 h3
    refine ⟨by simp; omega, .inr ⟨g, c, cur, rfl, hb, hg, by omega, hcap, hsz, ?_⟩⟩
    rw [← hxs, List.take_take]
    congr 1
    omega
theorem own_setFar {w : World} {B n g j : Nat} {t : TypeId} {v u : Value} {xs : List Value} (h : w.ownsRow B t 1 v n xs) (hg : g < B) : (w.setCell ⟨g, j, none⟩ u).ownsRow B t 1 v n xs := by
  obtain ⟨hl, h | ⟨g', cap, cur, hv, hb, hg', hn, hcap, hsz, hxs⟩⟩ := h
  · exact ⟨hl, .inl h⟩
  · exact ⟨hl, .inr ⟨g', cap, cur, hv, hb, (Below.heap_setCell _ _ _ _ (by show g' ≠ g; omega)).trans hg', hn, hcap, hsz, hxs⟩⟩

/-- In the midst of a search: D have the label; those of D that wait are in the work; of x (none: n) the first r steps are done. -/
structure WInv (rows : List (List Int)) (n x0 : Nat) (f0 : Nat → Int) (D : List Nat) (work : List Int) (x : Nat) (r : Nat) : Prop where
  nd : D.Nodup
  rng : ∀ d ∈ D, d < n
  mem : x0 ∈ D
  rch : ∀ d ∈ D, Rch rows x0 d
  neg : ∀ d ∈ D, f0 d < 0
  wk : ∀ u ∈ work, ∃ d ∈ D, u = (d : Int)
  cl : ∀ d ∈ D, (d : Int) ∉ work → d ≠ x → ∀ s, s < rows.length → ((rows.getD s []).getD d 0).toNat ∈ D
  cx : x ∈ D → ∀ s, s < r → s < rows.length → ((rows.getD s []).getD x 0).toNat ∈ D

theorem natnd_le (D : List Nat) (n : Nat) (hr : ∀ v ∈ D, v < n) (hn : D.Nodup) : D.length ≤ n := by
  obtain ⟨l, hl⟩ := subset_perm D (List.range n) hn (fun a ha => List.mem_range.2 (hr a ha))
  have := hl.length_eq
  rw [List.length_range, List.length_append] at this
  omega
theorem WInv.most {rows : List (List Int)} {n x0 x r : Nat} {f0 : Nat → Int} {D : List Nat} {work : List Int} (h : WInv rows n x0 f0 D work x r) : D.length ≤ n := natnd_le D n h.rng h.nd
theorem WInv.start (rows : List (List Int)) (n x0 : Nat) (f0 : Nat → Int) (h : x0 < n) (h0 : f0 x0 < 0) : WInv rows n x0 f0 [x0] [(x0 : Int)] n 0 :=
  ⟨by simp, fun d hd => by simp at hd; omega, by simp, fun d hd => by simp at hd; subst hd; exact .start, fun d hd => by simp at hd; subst hd; exact h0, fun u hu => ⟨x0, by simp, by simpa using hu⟩, fun d hd hno => by simp at hd; subst hd; exact absurd (by simp) hno, fun hx => by simp at hx; omega⟩
theorem WInv.pop {rows : List (List Int)} {n x0 : Nat} {f0 : Nat → Int} {D : List Nat} {work : List Int} {x : Nat} (h : WInv rows n x0 f0 D (work ++ [(x : Int)]) n 0) : x ∈ D ∧ WInv rows n x0 f0 D work x 0 := by
  have hx : x ∈ D := by
    obtain ⟨d, hd, e⟩ := h.wk (x : Int) (by simp)
    have : x = d := by omega
    rw [this]; exact hd
  refine ⟨hx, h.nd, h.rng, h.mem, h.rch, h.neg, fun u hu => h.wk u (by simp [hu]), fun d hd hno hne => h.cl d hd ?_ (by have := h.rng d hd; omega), fun _ s hs => by omega⟩
  intro hm
  rcases List.mem_append.1 hm with hm | hm
  · exact hno hm
  · simp at hm; omega
theorem WInv.seen {rows : List (List Int)} {n x0 : Nat} {f0 : Nat → Int} {D : List Nat} {work : List Int} {x r : Nat} (h : WInv rows n x0 f0 D work x r) (hs : ((rows.getD r []).getD x 0).toNat ∈ D) : WInv rows n x0 f0 D work x (r + 1) :=
  ⟨h.nd, h.rng, h.mem, h.rch, h.neg, h.wk, h.cl, fun hx s hs2 hs3 => by
    by_cases e : s = r
    · subst e; exact hs
    · exact h.cx hx s (by omega) hs3⟩
theorem WInv.push {rows : List (List Int)} {n x0 : Nat} {f0 : Nat → Int} {D : List Nat} {work : List Int} {x r : Nat} (h : WInv rows n x0 f0 D work x r) (hx : x ∈ D) (hr : r < rows.length) (z : Nat) (hz : ((rows.getD r []).getD x 0).toNat = z) (hzn : z < n) (hno : z ∉ D) (hneg : f0 z < 0) : WInv rows n x0 f0 (D ++ [z]) (work ++ [(z : Int)]) x (r + 1) := by
  have hzx : z ≠ x := fun e => hno (e ▸ hx)
  refine ⟨?_, fun d hd => ?_, by simp [h.mem], fun d hd => ?_, fun d hd => ?_, fun u hu => ?_, fun d hd hnw hne s hs => ?_, fun _ s hs hs2 => ?_⟩
  · rw [List.nodup_append]
    exact ⟨h.nd, by simp, fun a ha b hb e => hno (by simp at hb; subst hb; subst e; exact ha)⟩
  · rcases List.mem_append.1 hd with hd | hd
    · exact h.rng d hd
    · simp at hd; omega
  · rcases List.mem_append.1 hd with hd | hd
    · exact h.rch d hd
    · simp at hd; subst hd; exact .step (h.rch x hx) ⟨r, hr, hz⟩
  · rcases List.mem_append.1 hd with hd | hd
    · exact h.neg d hd
    · simp at hd; subst hd; exact hneg
  · rcases List.mem_append.1 hu with hu | hu
    · obtain ⟨d, hd, e⟩ := h.wk u hu
      exact ⟨d, by simp [hd], e⟩
    · exact ⟨z, by simp, by simpa using hu⟩
  · rcases List.mem_append.1 hd with hd | hd
    · exact List.mem_append_left _ (h.cl d hd (fun e => hnw (by simp [e])) hne s hs)
    · simp at hd; subst hd; exact absurd (by simp) hnw
  · by_cases e : s = r
    · subst e; rw [hz]; simp
    · refine List.mem_append_left _ (h.cx hx s (by omega) hs2)
theorem WInv.next {rows : List (List Int)} {n x0 : Nat} {f0 : Nat → Int} {D : List Nat} {work : List Int} {x : Nat} (h : WInv rows n x0 f0 D work x rows.length) : WInv rows n x0 f0 D work n 0 :=
  ⟨h.nd, h.rng, h.mem, h.rch, h.neg, h.wk, fun d hd hno _ s hs => by
    by_cases e : d = x
    · subst e; exact h.cx hd s hs hs
    · exact h.cl d hd hno e s hs, fun _ s hs => by omega⟩
theorem WInv.done {rows : List (List Int)} {n x0 : Nat} {f0 : Nat → Int} {D : List Nat} (h : WInv rows n x0 f0 D [] n 0) (y : Nat) : y ∈ D ↔ Rch rows x0 y := by
  constructor
  · exact h.rch y
  · intro hy
    induction hy with
    | start => exact h.mem
    | step _ hs ih =>
      obtain ⟨r, hr, hz⟩ := hs
      rw [← hz]
      exact h.cl _ ih (by simp) (by have := h.rng _ ih; omega) r hr

/-- The labels when D have got theirs. -/
noncomputable def putD (f : Nat → Int) (D : List Nat) (l : Int) : Nat → Int := fun y => if y ∈ D then l else f y
theorem putD_step (f : Nat → Int) (D : List Nat) (l : Int) (n z : Nat) : ((List.range n).map (putD f D l)).set z l = (List.range n).map (putD f (D ++ [z]) l) := by
  apply List.ext_getElem
  · simp
  · intro y h1 h2
    rw [List.getElem_set]
    simp only [List.getElem_map, List.getElem_range]
    unfold putD
    by_cases e : z = y
    · subst e; simp
    · have e2 : ¬ y = z := fun h => e h.symm
      simp [e, e2]
end Go.Proofs.Ytaejgmdeiemhcab
namespace Go.Proofs.Ytaejgmdeiemhcab
open Go Go.RowKit
set_option maxHeartbeats 2000000
theorem sqf_div {m a : Nat} (h : a < m * m) : a / m < m := Nat.div_lt_of_lt_mul h
theorem sqf_mod {m a : Nat} (h : a < m * m) : a % m < m := Nat.mod_lt _ (by rcases Nat.eq_zero_or_pos m with e | e; (subst e; simp at h); exact e)
theorem tdivN (a m : Nat) : Int.tdiv (a : Int) (m : Int) = ((a / m : Nat) : Int) := (Int.ofNat_tdiv a m).symm
theorem tmodN (a m : Nat) : Int.tmod (a : Int) (m : Int) = ((a % m : Nat) : Int) := (Int.ofNat_tmod a m).symm

set_option maxRecDepth 100000 in
theorem collS_any (A : Option Addr) (n c : Nat) (f : List (List Int)) (B : Option Addr) (m d : Nat) (s : List (List Int)) (w : World) (hz : ZArg 1048576 w A n f B m s) (hp : PMap f s) :
    Calls Try.prog 115 #[.agg #[.slice A n c, .slice B m d]] w fun e w' => ∃ g k zs, e = .returned (.slice (some ⟨g, 0, none⟩) k k) ∧ Below w.heap.size w w' ∧ w.heap.size ≤ g ∧ OwnB 2 w' g zs ∧ ((NoCol f s n ∧ zs = [] ∧ k = 0) ∨ ∃ a b, FstCol f s n a b ∧ zs = [((a / n : Nat) : Int), ((a % n : Nat) : Int), ((b / n : Nat) : Int), ((b % n : Nat) : Int)] ∧ k = 4) := by
  have hnb := hz.sz.nb
  have HZ := hide hz
  have HB0 := hide ((Below.refl _ w).alloc (Nat.le_refl _) (Obj.cells #[Value.slice A n c, Value.slice B m d] 35))
  have HK0 := hide (Blk.new w 35 [.slice A n c, .slice B m d])
  have HFL := hide hz.sz.fl
  have HP := hide hp
  have h12 := hz.small hp
  obtain rfl := hz.same hp
  have hm0 : (m : Int) ≠ 0 := by omega
  have hm1 : (m : Int) ≠ -1 := by omega
  clear hp hz
  obtain ⟨N, hN⟩ : ∃ N, m * m = N := ⟨_, rfl⟩
  have hN144 : N ≤ 144 := by rw [← hN]; exact Nat.mul_le_mul h12.2 h12.2
  have hNz : (m : Int) * (m : Int) = (N : Int) := by rw [← hN]; exact (Int.natCast_mul m m).symm
  have HN := hide hN
  clear hN
  go_enter Try.func115, Try.ntmps115
  go_wp2_with fail
  go_loopw [4] (fun i wr => ∃ x : Nat, x ≤ N ∧ i = .int .i64 x ∧ Below w.heap.size w wr ∧ Blk wr w.heap.size 35 [.slice A m c, .slice B m d] ∧ ∀ i j, i < x → j < N → j ≠ i → ledK f s m i ≠ ledK f s m j) (fun i _ => N - (intOf i).toNat)
  case atStart => exact ⟨0, Nat.zero_le _, rfl, HB0.out, HK0.out, fun a b ha => absurd ha (Nat.not_lt_zero _)⟩
  case round =>
    obtain ⟨a, ha, rfl, hbe, hkk, hall⟩ := hrel
    have HB := hide hbe
    have HK := hide hkk
    have HALL := hide hall
    clear hbe hkk hall
    by_cases hlt : a < N
    · have haz : (a : Int) < N := by omega
      go_wp2_with fail
      obtain ⟨wo, rfl⟩ : ∃ wo : World, wo = wr := ⟨_, rfl⟩
      go_loopw [5] (fun i wi => ∃ y : Nat, y ≤ N ∧ i = .int .i64 y ∧ Below w.heap.size w wi ∧ Blk wi w.heap.size 35 [.slice A m c, .slice B m d] ∧ ∀ j, j < y → j ≠ a → ledK f s m a ≠ ledK f s m j) (fun i _ => N - (intOf i).toNat)
      case atStart => exact ⟨0, Nat.zero_le _, rfl, HB.out, HK.out, fun b hb => absurd hb (Nat.not_lt_zero _)⟩
      case round =>
        obtain ⟨b, hb, rfl, hbi, hki, halli⟩ := hrel
        have HBI := hide hbi
        have HKI := hide hki
        have HALLI := hide halli
        clear hbi hki halli
        by_cases hlty : b < N
        · have hbz : (b : Int) < N := by omega
          have td1 := tdivN a m
          have td2 := tmodN a m
          have td3 := tdivN b m
          have td4 := tmodN b m
          obtain ⟨x, hx⟩ : ∃ x, a / m = x := ⟨_, rfl⟩
          obtain ⟨y, hy⟩ : ∃ y, a % m = y := ⟨_, rfl⟩
          obtain ⟨u, hu⟩ : ∃ u, b / m = u := ⟨_, rfl⟩
          obtain ⟨v, hv⟩ : ∃ v, b % m = v := ⟨_, rfl⟩
          have hxn : x < m := by rw [← hx]; exact sqf_div (by rw [HN.out]; exact hlt)
          have hyn : y < m := by rw [← hy]; exact sqf_mod (by rw [HN.out]; exact hlt)
          have hun : u < m := by rw [← hu]; exact sqf_div (by rw [HN.out]; exact hlty)
          have hvn : v < m := by rw [← hv]; exact sqf_mod (by rw [HN.out]; exact hlty)
          rw [hx] at td1
          rw [hy] at td2
          rw [hu] at td3
          rw [hv] at td4
          have HX := hide hx
          have HY := hide hy
          have HU := hide hu
          have HV := hide hv
          clear hx hy hu hv
          go_wp2_with fail
          go_region
          clear td1 td2 td3 td4
          have k0 := HKI.out.cell 0 _ rfl
          have k1 := HKI.out.cell 1 _ rfl
          obtain ⟨bb, o, b2, o2, bx, ox, cx, by', oy, cy, rfl, rfl, h1, h2, h3, h4, _, _, _, _⟩ := (HZ.out.later HBI.out).reads HP.out hxn hyn
          obtain ⟨b', o', b2', o2', bu, ou, cu, bv, ov, cv, e1, e2, g1, g2, g3, g4, _, _, _, _⟩ := (HZ.out.later HBI.out).reads HP.out hun hvn
          injection e1 with e1
          injection e1 with e1 e3 _
          injection e2 with e2
          injection e2 with e2 e4 _
          subst e1
          subst e3
          subst e2
          subst e4
          obtain ⟨p1, hp1⟩ : ∃ zz, ap f x y = zz := ⟨_, rfl⟩
          obtain ⟨p2, hp2⟩ : ∃ zz, ap s x y = zz := ⟨_, rfl⟩
          obtain ⟨q1, hq1⟩ : ∃ zz, ap f u v = zz := ⟨_, rfl⟩
          obtain ⟨q2, hq2⟩ : ∃ zz, ap s u v = zz := ⟨_, rfl⟩
          rw [hp1] at h3
          rw [hp2] at h4
          rw [hq1] at g3
          rw [hq2] at g4
          have hka : ledK f s m a = (p1, p2) := by unfold ledK; rw [HX.out, HY.out, hp1, hp2]
          have hkb : ledK f s m b = (q1, q2) := by unfold ledK; rw [HU.out, HV.out, hq1, hq2]
          have HKA := hide hka
          have HKB := hide hkb
          clear hka hkb hp1 hp2 hq1 hq2
          have hxz : (x : Int) < m := by omega
          have hyz : (y : Int) < m := by omega
          have huz : (u : Int) < m := by omega
          have hvz : (v : Int) < m := by omega
          have hcs : (((a : Int) != (b : Int)) = false ∧ Hid (b = a)) ∨ (((a : Int) != (b : Int)) = true ∧ ((p1 : Int) == (q1 : Int)) = false ∧ Hid (ledK f s m a ≠ ledK f s m b)) ∨ (((a : Int) != (b : Int)) = true ∧ ((p1 : Int) == (q1 : Int)) = true ∧ ((p2 : Int) == (q2 : Int)) = false ∧ Hid (ledK f s m a ≠ ledK f s m b)) ∨ (((a : Int) != (b : Int)) = true ∧ ((p1 : Int) == (q1 : Int)) = true ∧ ((p2 : Int) == (q2 : Int)) = true ∧ Hid (b ≠ a ∧ ledK f s m a = ledK f s m b)) := by
            by_cases z0 : b = a
            · exact .inl ⟨by simp [z0], hide z0⟩
            · by_cases z1 : p1 = q1
              · by_cases z2 : p2 = q2
                · exact .inr (.inr (.inr ⟨by simp; omega, by simp [z1], by simp [z2], hide ⟨z0, by rw [HKA.out, HKB.out, z1, z2]⟩⟩))
                · exact .inr (.inr (.inl ⟨by simp; omega, by simp [z1], by simp; omega, hide (by rw [HKA.out, HKB.out]; intro e; injection e with _ e; exact z2 e)⟩))
              · exact .inr (.inl ⟨by simp; omega, by simp; omega, hide (by rw [HKA.out, HKB.out]; intro e; injection e with e _; exact z1 e)⟩)
          rcases hcs with ⟨t1, HT⟩ | ⟨t1, t2, HT⟩ | ⟨t1, t2, t3, HT⟩ | ⟨t1, t2, t3, HT⟩
          · go_wp2_with fail
            go_quiet (fail)
            clear h1 h2 h3 h4 g1 g2 g3 g4 k0 k1
            have hBN := bdrewN HBI.out (1 + nq)
            have hKN := HKI.out.drewN (1 + nq)
            have HBN := hide hBN
            have HKN := hide hKN
            clear hBN hKN
            go_wp2_with fail
            go_roundw
            case rel =>
              exact ⟨b + 1, by omega, by go_num, HBN.out, HKN.out, fun j hj hne => by
                by_cases e : j = b
                · exact absurd (e.trans HT.out) hne
                · exact HALLI.out j (by omega) hne⟩
            case measure => simp [intOf]; omega
          · go_wp2_with fail
            go_quiet (fail)
            clear h1 h2 h3 h4 g1 g2 g3 g4 k0 k1
            have hBN := bdrewN HBI.out (1 + nq)
            have hKN := HKI.out.drewN (1 + nq)
            have HBN := hide hBN
            have HKN := hide hKN
            clear hBN hKN
            go_wp2_with fail
            go_roundw
            case rel =>
              exact ⟨b + 1, by omega, by go_num, HBN.out, HKN.out, fun j hj hne => by
                by_cases e : j = b
                · rw [e]; exact HT.out
                · exact HALLI.out j (by omega) hne⟩
            case measure => simp [intOf]; omega
          · go_wp2_with fail
            go_quiet (fail)
            clear h1 h2 h3 h4 g1 g2 g3 g4 k0 k1
            have hBN := bdrewN HBI.out (1 + nq)
            have hKN := HKI.out.drewN (1 + nq)
            have HBN := hide hBN
            have HKN := hide hKN
            clear hBN hKN
            go_wp2_with fail
            go_roundw
            case rel =>
              exact ⟨b + 1, by omega, by go_num, HBN.out, HKN.out, fun j hj hne => by
                by_cases e : j = b
                · rw [e]; exact HT.out
                · exact HALLI.out j (by omega) hne⟩
            case measure => simp [intOf]; omega
          · go_wp2_with fail
            go_quiet (fail)
            clear h1 h2 h3 h4 g1 g2 g3 g4 k0 k1
            have hBN := bdrewN HBI.out (1 + nq)
            have hKN := HKI.out.drewN (1 + nq)
            have HBN := hide hBN
            have HKN := hide hKN
            clear hBN hKN
            go_wp2_with fail
            refine bp_gen fun wf hwf => ?_
            have HBF : Below w.heap.size w wf := by rw [hwf]; exact HBN.out.alloc HBN.out.size _
            have HOF : OwnB 2 wf (wr.drewN (1 + nq)).heap.size [(x : Int), (y : Int), (u : Int), (v : Int)] := by
              rw [hwf]
              refine ⟨_, heap_alloc_new _ _, fun i hi => ?_⟩
              simp at hi
              rcases i with _ | _ | _ | _ | i
              · rfl
              · rfl
              · rfl
              · rfl
              · omega
            have hlo : w.heap.size ≤ (wr.drewN (1 + nq)).heap.size := HBN.out.size
            clear hwf
            have HFC : Hid (FstCol f s m a b) := hide ⟨by rw [HN.out]; exact hlt, by rw [HN.out]; exact hlty, fun e => HT.out.1 e.symm, HT.out.2, fun i hi j hj => HALL.out i j hi (by rw [← HN.out]; exact hj), fun j hj hne => HALLI.out j hj hne⟩
            go_ret
            exact ⟨_, 4, _, rfl, HBF, hlo, HOF, .inr ⟨a, b, HFC.out, by rw [HX.out, HY.out, HU.out, HV.out], rfl⟩⟩
        · have hyn : b = N := by omega
          subst hyn
          go_wp2_with fail
          go_roundw
          case rel =>
            refine ⟨a + 1, by omega, by go_num, HBI.out, HKI.out, fun i j hi hj hne => ?_⟩
            by_cases e : i = a
            · subst e; exact HALLI.out j hj hne
            · exact HALL.out i j (by omega) hj hne
          case measure => simp [intOf]; omega
    · have hxn : a = N := by omega
      subst hxn
      go_wp2_with fail
      refine bp_gen fun wf hwf => ?_
      have HBF : Below w.heap.size w wf := by rw [hwf]; exact HB.out.alloc HB.out.size _
      have HOF : OwnB 2 wf wr.heap.size [] := by rw [hwf]; exact ⟨_, heap_alloc_new _ _, fun i hi => absurd hi (Nat.not_lt_zero _)⟩
      have hlo : w.heap.size ≤ wr.heap.size := HB.out.size
      clear hwf
      go_ret
      exact ⟨_, 0, [], rfl, HBF, hlo, HOF, .inl ⟨fun i j hi hj hne => HALL.out i j (by rw [← HN.out]; exact hi) (by rw [← HN.out]; exact hj) (fun e => hne e.symm), rfl, rfl⟩⟩
end Go.Proofs.Ytaejgmdeiemhcab
