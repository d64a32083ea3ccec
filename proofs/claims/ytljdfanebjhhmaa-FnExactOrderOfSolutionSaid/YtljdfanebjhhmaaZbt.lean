import Derived.Test.YtljdfanebjhhmaaZz
import Derived.Test.YtljdfanebjhhmaaZbr
import Derived.Test.YtljdfanebjhhmaaZl
import Derived.Test.YtljdfanebjhhmaaZbg
import Derived.Test.YtljdfanebjhhmaaZo
import Derived.Test.YtljdfanebjhhmaaZg
import Derived.Test.YtljdfanebjhhmaaZbn
import Derived.Test.YtljdfanebjhhmaaZa
import Derived.Test.YtljdfanebjhhmaaZt
namespace Go.Proofs.Ytljdfanebjhhmaa
open Go Go.RowKit
set_option maxHeartbeats 1000000
def SolF (f s : List (List Int)) : Prop := PMap f s ∧ NoCol f s f.length ∧ First f s f.length (f.length * f.length * f.length)
def IsRes (f s : List (List Int)) (r : Bool) : Prop := r = true ↔ SolF f s
theorem IsRes.ex (f s : List (List Int)) : ∃ r, IsRes f s r := by
  by_cases h : SolF f s
  · exact ⟨true, by simp [IsRes, h]⟩
  · exact ⟨false, by simp [IsRes, h]⟩
theorem First.uniq {f s : List (List Int)} {n T T' : Nat} (h : First f s n T) (h' : First f s n T') : T = T' := by
  rcases Nat.lt_trichotomy T T' with e | e | e
  · exact absurd (h'.1 T e) (h.2.2 (by have := h'.2.1; omega))
  · exact e
  · exact absurd (h.1 T' e) (h'.2.2 (by have := h.2.1; omega))
/-- The four ways of it. -/
theorem IsRes.cases {f s : List (List Int)} {n : Nat} (hn : f.length = n) {r : Bool} (h : IsRes f s r) :
    (¬ PMap f s ∧ r = false) ∨ (PMap f s ∧ ∃ T, First f s n T ∧ ((T < n * n * n ∧ ((NoCol f s n ∧ r = false) ∨ ((∃ a b, FstCol f s n a b) ∧ r = false))) ∨ (T = n * n * n ∧ (((∃ a b, FstCol f s n a b) ∧ r = false) ∨ (NoCol f s n ∧ r = true))))) := by
  subst hn
  have hb : ∀ h9 : ¬ SolF f s, r = false := fun h9 => Bool.eq_false_iff.2 (fun e => h9 (h.1 e))
  by_cases hp : PMap f s
  · obtain ⟨T, hT⟩ := First.ex f s f.length
    refine .inr ⟨hp, T, hT, ?_⟩
    by_cases h2 : T < f.length * f.length * f.length
    · have hr := hb (fun h9 => by have := First.uniq hT h9.2.2; omega)
      rcases col_or f s f.length with hc | hc
      · exact .inl ⟨h2, .inl ⟨hc, hr⟩⟩
      · exact .inl ⟨h2, .inr ⟨hc, hr⟩⟩
    · have he : T = f.length * f.length * f.length := by have := hT.2.1; omega
      subst he
      refine .inr ⟨rfl, ?_⟩
      rcases col_or f s f.length with hc | hc
      · exact .inr ⟨hc, h.2 ⟨hp, hc, hT⟩⟩
      · exact .inl ⟨hc, hb (fun h9 => by obtain ⟨a, b, hf⟩ := hc; exact hf.not h9.2.1)⟩
  · exact .inl ⟨hp, hb (fun h9 => hp h9.1)⟩
end Go.Proofs.Ytljdfanebjhhmaa
namespace Go.Proofs.Ytljdfanebjhhmaa
open Go Go.RowKit

theorem ex_gen {Q : Exit → Act → World → Prop} {e : Exit} {a : Act} {w : World} (h : ∀ wf, wf = w → Q e a wf) : Q e a w := h w rfl

/-- The boxes that a call has made, the last one being top; the list of pairs; and nothing below is changed. -/
structure FK (w wx : World) (g n top : Nat) (bs : List (Nat × TypeId × List Value)) : Prop where
  below : Below w.heap.size w wx
  pairs : PairsAt wx g n
  gtop : g ≤ top
  blks : ∀ q, q ∈ bs → Blk wx q.1 q.2.1 q.2.2 ∧ q.1 ≤ top
  low : w.heap.size ≤ top
  sz : top < wx.heap.size

section
variable {w wx wy : World} {g n top : Nat} {bs : List (Nat × TypeId × List Value)}
theorem FK.start {b1 b2 b3 : Nat} {t1 t2 t3 : TypeId} {c1 c2 c3 : List Value} (hb : Below w.heap.size w wx) (hp : PairsAt wx g n) (h1 : Blk wx b1 t1 c1) (h2 : Blk wx b2 t2 c2) (h3 : Blk wx b3 t3 c3) (hw : w.heap.size < wx.heap.size := by assumption) : FK w wx g n (wx.heap.size - 1) [(b3, t3, c3), (b2, t2, c2), (b1, t1, c1)] :=
  ⟨hb, hp, by have := hp.1; omega, fun q hq => by
    have l1 := h1.lt
    have l2 := h2.lt
    have l3 := h3.lt
    simp at hq
    rcases hq with rfl | rfl | rfl
    · exact ⟨h3, by show b3 ≤ _; omega⟩
    · exact ⟨h2, by show b2 ≤ _; omega⟩
    · exact ⟨h1, by show b1 ≤ _; omega⟩, by omega, by omega⟩
theorem FK.later (h : FK w wx g n top bs) (hb : Below wx.heap.size wx wy) : FK w wy g n top bs :=
  ⟨h.below.trans (hb.mono h.below.size), h.pairs.later hb, h.gtop, fun q hq => ⟨(h.blks q hq).1.later hb, (h.blks q hq).2⟩, h.low, Nat.lt_of_lt_of_le h.sz hb.size⟩
theorem FK.set (h : FK w wx g n top bs) {p : Addr} (hp : top < p.block) (v : Value) : FK w (wx.setCell p v) g n top bs :=
  ⟨h.below.setCell (Nat.le_trans h.low (Nat.le_of_lt hp)) v, h.pairs.touch (lo := p.block) (hi := p.block + 1) ⟨rfl, rfl, rfl, by simp [World.setCell], fun k _ hne => Below.heap_setCell wx p v k (by omega)⟩ (.inl (Nat.lt_of_le_of_lt h.gtop hp)), h.gtop, fun q hq => ⟨(h.blks q hq).1.far (by have := (h.blks q hq).2; omega) v, (h.blks q hq).2⟩, h.low, by have := h.sz; simp [World.setCell]; omega⟩
theorem FK.push (h : FK w wx g n top bs) {L : Nat} {t : TypeId} {cs : List Value} (hb : Blk wx L t cs) (hL : top < L) : FK w wx g n L ((L, t, cs) :: bs) :=
  ⟨h.below, h.pairs, by have := h.gtop; omega, fun q hq => by
    rcases List.mem_cons.1 hq with rfl | hq
    · exact ⟨hb, Nat.le_refl _⟩
    · exact ⟨(h.blks q hq).1, by have := (h.blks q hq).2; omega⟩, by have := h.low; omega, hb.lt⟩
theorem FK.new (h : FK w wx g n top bs) (t : TypeId) (cs : List Value) : FK w (wx.alloc (.cells cs.toArray t)) g n wx.heap.size ((wx.heap.size, t, cs) :: bs) :=
  (h.later ((Below.refl _ _).alloc (Nat.le_refl _) _)).push (Blk.new _ _ _) h.sz
theorem FK.blk (h : FK w wx g n top bs) {b : Nat} {t : TypeId} {cs : List Value} (hm : (b, t, cs) ∈ bs) : Blk wx b t cs := (h.blks _ hm).1
theorem FK.top' (h : FK w wx g n top bs) {b : Nat} {t : TypeId} {cs : List Value} (hm : (b, t, cs) ∈ bs) : b ≤ top := (h.blks _ hm).2
end
end Go.Proofs.Ytljdfanebjhhmaa
namespace Go.Proofs.Ytljdfanebjhhmaa
open Go Go.RowKit
open Go.ChangeMaps (setBlock heap_setBlock_same heap_setBlock_other)
open Classical
set_option maxRecDepth 100000

/-- The map from each pair to the list of those that are led to it, among the first k: G tells the slices. -/
structure Led (w : World) (b B n k : Nat) (f s : List (List Int)) (G : Nat × Nat → Value) : Prop where
  map : ∃ V, MapV w b k V ∧ ∀ p : Nat × Nat, (V (pkey p.1 p.2)).getD (.slice none 0 0) = G p
  low : b < B
  rows : ∀ p : Nat × Nat, w.ownsRow B 84 2 (G p) (ledL f s n k p).length (pcs n (ledL f s n k p))
  ne : ∀ (p p' : Nat × Nat) (g : Nat), p ≠ p' → (G p).ownBlock = some g → (G p').ownBlock ≠ some g

theorem Led.start {w : World} {b : Nat} {V : Value → Option Value} (h : MapV w b 0 V) (hV : ∀ v, V v = none) (B n : Nat) (f s : List (List Int)) (hb : b < B) : Led w b B n 0 f s (fun _ => .slice none 0 0) :=
  ⟨⟨V, h, fun p => by rw [hV]; rfl⟩, hb, fun p => ⟨by simp [ledL, pcs], .inl ⟨rfl, by simp [ledL]⟩⟩, fun _ _ _ _ h => by cases h⟩
theorem Led.lt {w : World} {b B n k : Nat} {f s : List (List Int)} {G : Nat × Nat → Value} (h : Led w b B n k f s G) : b < w.heap.size := by
  obtain ⟨V, hm, _⟩ := h.map
  exact hm.lt
theorem ownsRow2_later {w w' : World} {B n : Nat} {t : TypeId} {v : Value} {xs : List Value} (h : w.ownsRow B t 2 v n xs) (hb : Below w.heap.size w w') : w'.ownsRow B t 2 v n xs := by
  obtain ⟨hl, h | ⟨g, cap, cur, hv, h1, hg, hn, hcap, hsz, hxs⟩⟩ := h
  · exact ⟨hl, .inl h⟩
  · exact ⟨hl, .inr ⟨g, cap, cur, hv, h1, (hb.block g (Array.getElem?_eq_some_iff.1 hg).1).trans hg, hn, hcap, hsz, hxs⟩⟩
theorem Led.later {w w' : World} {b B n k : Nat} {f s : List (List Int)} {G : Nat × Nat → Value} (h : Led w b B n k f s G) (hb : Below w.heap.size w w') : Led w' b B n k f s G := by
  obtain ⟨⟨V, hm, hV⟩, h1, h2, h3⟩ := h
  exact ⟨⟨V, hm.later hb, hV⟩, h1, fun p => ownsRow2_later (h2 p) hb, h3⟩

theorem led_low {w : World} {b B n k : Nat} {f s : List (List Int)} {G : Nat × Nat → Value} (h : Led w b B n k f s G) (p : Nat × Nat) : some b ≠ (G p).ownBlock := fun e => by
  have h1 := (h.rows p).lt b e.symm
  have h2 := h.low
  omega

/-- A pair is appended to the list at the pair to which it is led: the entry is looked up, the slice appended to, and laid back. -/
theorem Led.step {w : World} {b B n k : Nat} {f s : List (List Int)} {G : Nat × Nat → Value} {t : TypeId} (h : Led w b B n k f s G) (ht : Try.prog.underlying t = some (.map 84 81)) (hz : ∀ u : World, (zeroValue 81).run Try.prog u = .ok (.slice none 0 0) u) (hk : k < maxLen) (q : Nat × Nat) (hq : ledK f s n k = q) (hq1 : q.1 < 4611686018427387904) (hq2 : q.2 < 4611686018427387904) :
    ∃ st W, (Instr.mapEntry t (.map (some b)) (.agg #[.int .i64 q.1, .int .i64 q.2])).run Try.prog w = .ok (.tuple #[G q, .int .i64 st]) W ∧ (∀ i, i ≠ b → W.heap[i]? = w.heap[i]?) ∧ W.heap.size = w.heap.size ∧ w.grownBy W (some b) ∧
      (W.ownsRow B 84 2 (G q) (ledL f s n k q).length (pcs n (ledL f s n k q))) ∧
      ∀ (w1 : World) (v' : Value), W.grownBy w1 (G q).ownBlock → w1.ownsRow B 84 2 v' ((ledL f s n k q).length + 1) (pcs n (ledL f s n k q) ++ [.int .i64 ((k / n : Nat) : Int), .int .i64 ((k % n : Nat) : Int)]) → (v'.ownBlock = (G q).ownBlock ∨ v'.ownBlock = some W.heap.size) →
        ∃ w3, (Instr.entryStore t (.map (some b)) (.int .i64 st) v').run Try.prog w1 = .ok () w3 ∧ w1.grownBy w3 (some b) ∧ Led w3 b B n (k + 1) f s (fun p => if p = q then v' else G p) := by
  obtain ⟨V, hm, hV⟩ := h.map
  have hlow := h.low
  have hrows := h.rows
  have hne := h.ne
  have hltb := hm.lt
  obtain ⟨kl, hkey⟩ := mp_key w q.1 q.2 hq1 hq2
  obtain ⟨st, es1, clock1, hE, hS⟩ := hm.entry ht hz hk hkey
  have hbk : ∃ es clock, w.heap[b]? = some (.map es clock) := by
    obtain ⟨D, ⟨es, clock, hb, _⟩, _⟩ := hm
    exact ⟨es, clock, hb⟩
  obtain ⟨es0, clock0, hb0⟩ := hbk
  have hother : ∀ i, i ≠ b → (setBlock w b (.map es1 clock1)).heap[i]? = w.heap[i]? := fun i hi => heap_setBlock_other hb0 _ hi
  have hsize : (setBlock w b (.map es1 clock1)).heap.size = w.heap.size := by simp [setBlock]
  have hgr : w.grownBy (setBlock w b (.map es1 clock1)) (some b) := ⟨rfl, rfl, rfl, by simp [setBlock], fun i _ hi => heap_setBlock_other hb0 _ (fun e => hi (by rw [e]))⟩
  have hkeep : ∀ p : Nat × Nat, (setBlock w b (.map es1 clock1)).ownsRow B 84 2 (G p) (ledL f s n k p).length (pcs n (ledL f s n k p)) := fun p => (hrows p).kept hgr (by
    cases e : (G p).ownBlock with
    | none => exact .inl rfl
    | some g => exact .inr (fun e2 => led_low h p (by rw [e, e2])))
  refine ⟨st, setBlock w b (.map es1 clock1), ?_, hother, hsize, hgr, hkeep q, fun w1 v' hg1 hown hat => ?_⟩
  · rw [← hV q]; exact hE
  have hb1 : w1.heap[b]? = some (.map es1 clock1) := (hg1.block b (by rw [hsize]; exact hltb) (led_low h q)).trans (heap_setBlock_same hb0 _)
  obtain ⟨es', clock', hrun, hMap⟩ := hS w1 v' hb1
  have hgr3 : w1.grownBy (setBlock w1 b (.map es' clock')) (some b) := ⟨rfl, rfl, rfl, by simp [setBlock], fun i _ hi => heap_setBlock_other hb1 _ (fun e => hi (by rw [e]))⟩
  refine ⟨setBlock w1 b (.map es' clock'), hrun, hgr3, ⟨_, hMap, fun p => ?_⟩, hlow, fun p => ?_, fun p p' g hpp hg hg' => ?_⟩
  · by_cases e : p = q
    · subst e
      simp
    · have e2 : pkey p.1 p.2 ≠ pkey q.1 q.2 := fun e3 => e (by
        obtain ⟨e4, e5⟩ := pkey_inj e3
        exact Prod.ext e4 e5)
      simp only [if_neg e, if_neg e2]
      exact hV p
  · rw [ledL_succ]
    by_cases e : p = q
    · subst e
      simp only [if_pos, hq]
      rw [List.length_append, List.length_singleton, pcs_snoc]
      refine hown.kept hgr3 ?_
      cases e : v'.ownBlock with
      | none => exact .inl rfl
      | some g =>
        refine .inr (fun e2 => ?_)
        injection e2 with e2
        have := hown.lt g e
        omega
    · have e2 : ¬ ledK f s n k = p := fun e3 => e (e3.symm.trans hq)
      simp only [if_neg e, if_neg e2]
      have h1 : w1.ownsRow B 84 2 (G p) (ledL f s n k p).length (pcs n (ledL f s n k p)) := (hkeep p).kept hg1 (by
        cases e3 : (G p).ownBlock with
        | none => exact .inl rfl
        | some g => exact .inr (fun e4 => hne p q g e e3 e4.symm))
      refine h1.kept hgr3 ?_
      cases e3 : (G p).ownBlock with
      | none => exact .inl rfl
      | some g => exact .inr (fun e4 => led_low h p (by rw [e3, e4]))
  · have hnew : ∀ p'', p'' ≠ q → ∀ g, v'.ownBlock = some g → (G p'').ownBlock ≠ some g := fun p'' hp g hg hg' => by
      rcases hat with e | e
      · exact hne p'' q g hp hg' (e ▸ hg)
      · rw [hg] at e
        injection e with e
        have := (hrows p'').lt g hg'
        omega
    by_cases e : p = q
    · have e2 : p' ≠ q := fun e2 => hpp (e.trans e2.symm)
      simp only [if_pos e] at hg
      simp only [if_neg e2] at hg'
      exact hnew p' e2 g hg hg'
    · simp only [if_neg e] at hg
      by_cases e2 : p' = q
      · simp only [if_pos e2] at hg'
        exact hnew p e g hg' hg
      · simp only [if_neg e2] at hg'
        exact hne p p' g hpp hg hg'
end Go.Proofs.Ytljdfanebjhhmaa
namespace Go.Proofs.Ytljdfanebjhhmaa
open Go Go.RowKit
set_option maxHeartbeats 2000000
theorem sqf_div {m a : Nat} (h : a < m * m) : a / m < m := Nat.div_lt_of_lt_mul h
theorem sqf_mod {m a : Nat} (h : a < m * m) : a % m < m := Nat.mod_lt _ (by rcases Nat.eq_zero_or_pos m with e | e; (subst e; simp at h); exact e)
theorem tdivN (a m : Nat) : Int.tdiv (a : Int) (m : Int) = ((a / m : Nat) : Int) := (Int.ofNat_tdiv a m).symm
theorem tmodN (a m : Nat) : Int.tmod (a : Int) (m : Int) = ((a % m : Nat) : Int) := (Int.ofNat_tmod a m).symm

set_option maxRecDepth 100000 in
theorem collS_any (A : Option Addr) (n c : Nat) (f : List (List Int)) (B : Option Addr) (m d : Nat) (s : List (List Int)) (w : World) (hz : ZArg 1048576 w A n f B m s) (hp : PMap f s) :
    Calls Try.prog 96 #[.agg #[.slice A n c, .slice B m d]] w fun e w' => ∃ g k zs, e = .returned (.slice (some ⟨g, 0, none⟩) k k) ∧ Below w.heap.size w w' ∧ w.heap.size ≤ g ∧ OwnB 2 w' g zs ∧ ((NoCol f s n ∧ zs = [] ∧ k = 0) ∨ ∃ a b, FstCol f s n a b ∧ zs = [((a / n : Nat) : Int), ((a % n : Nat) : Int), ((b / n : Nat) : Int), ((b % n : Nat) : Int)] ∧ k = 4) := by
  have hnb := hz.sz.nb
  have HZ := hide hz
  have HB0 := hide ((Below.refl _ w).alloc (Nat.le_refl _) (Obj.cells #[Value.slice A n c, Value.slice B m d] 46))
  have HK0 := hide (Blk.new w 46 [.slice A n c, .slice B m d])
  have HFL := hide hz.sz.fl
  have HP := hide hp
  have h12 := hz.small hp
  obtain rfl := hz.same hp
  have hm0 : (m : Int) ≠ 0 := by omega
  have hm1 : (m : Int) ≠ -1 := by omega
  clear hp hz
  obtain ⟨N, hN⟩ : ∃ N, m * m = N := ⟨_, rfl⟩
  have hN144 : N ≤ 144 := by rw [← hN]; exact Nat.mul_le_mul h12.2 h12.2
  have hNz : (m : Int) * (m : Int) = (N : Int) := by rw [← hN]; exact (Int.natCast_mul m m).symm
  have HN := hide hN
  clear hN
  go_enter Try.func96, Try.ntmps96
  go_wp2_with fail
  go_loopw [4] (fun i wr => ∃ x : Nat, x ≤ N ∧ i = .int .i64 x ∧ Below w.heap.size w wr ∧ Blk wr w.heap.size 46 [.slice A m c, .slice B m d] ∧ ∀ i j, i < x → j < N → j ≠ i → ledK f s m i ≠ ledK f s m j) (fun i _ => N - (intOf i).toNat)
  case atStart => exact ⟨0, Nat.zero_le _, rfl, HB0.out, HK0.out, fun a b ha => absurd ha (Nat.not_lt_zero _)⟩
  case round =>
    obtain ⟨a, ha, rfl, hbe, hkk, hall⟩ := hrel
    have HB := hide hbe
    have HK := hide hkk
    have HALL := hide hall
    clear hbe hkk hall
    by_cases hlt : a < N
    · have haz : (a : Int) < N := by omega
      go_wp2_with fail
      obtain ⟨wo, rfl⟩ : ∃ wo : World, wo = wr := ⟨_, rfl⟩
      go_loopw [5] (fun i wi => ∃ y : Nat, y ≤ N ∧ i = .int .i64 y ∧ Below w.heap.size w wi ∧ Blk wi w.heap.size 46 [.slice A m c, .slice B m d] ∧ ∀ j, j < y → j ≠ a → ledK f s m a ≠ ledK f s m j) (fun i _ => N - (intOf i).toNat)
      case atStart => exact ⟨0, Nat.zero_le _, rfl, HB.out, HK.out, fun b hb => absurd hb (Nat.not_lt_zero _)⟩
      case round =>
        obtain ⟨b, hb, rfl, hbi, hki, halli⟩ := hrel
        have HBI := hide hbi
        have HKI := hide hki
        have HALLI := hide halli
        clear hbi hki halli
        by_cases hlty : b < N
        · have hbz : (b : Int) < N := by omega
          have td1 := tdivN a m
          have td2 := tmodN a m
          have td3 := tdivN b m
          have td4 := tmodN b m
          obtain ⟨x, hx⟩ : ∃ x, a / m = x := ⟨_, rfl⟩
          obtain ⟨y, hy⟩ : ∃ y, a % m = y := ⟨_, rfl⟩
          obtain ⟨u, hu⟩ : ∃ u, b / m = u := ⟨_, rfl⟩
          obtain ⟨v, hv⟩ : ∃ v, b % m = v := ⟨_, rfl⟩
          have hxn : x < m := by rw [← hx]; exact sqf_div (by rw [HN.out]; exact hlt)
          have hyn : y < m := by rw [← hy]; exact sqf_mod (by rw [HN.out]; exact hlt)
          have hun : u < m := by rw [← hu]; exact sqf_div (by rw [HN.out]; exact hlty)
          have hvn : v < m := by rw [← hv]; exact sqf_mod (by rw [HN.out]; exact hlty)
          rw [hx] at td1
          rw [hy] at td2
          rw [hu] at td3
          rw [hv] at td4
          have HX := hide hx
          have HY := hide hy
          have HU := hide hu
          have HV := hide hv
          clear hx hy hu hv
          go_wp2_with fail
          go_region
          clear td1 td2 td3 td4
          have k0 := HKI.out.cell 0 _ rfl
          have k1 := HKI.out.cell 1 _ rfl
          obtain ⟨bb, o, b2, o2, bx, ox, cx, by', oy, cy, rfl, rfl, h1, h2, h3, h4, _, _, _, _⟩ := (HZ.out.later HBI.out).reads HP.out hxn hyn
          obtain ⟨b', o', b2', o2', bu, ou, cu, bv, ov, cv, e1, e2, g1, g2, g3, g4, _, _, _, _⟩ := (HZ.out.later HBI.out).reads HP.out hun hvn
          injection e1 with e1
          injection e1 with e1 e3 _
          injection e2 with e2
          injection e2 with e2 e4 _
          subst e1
          subst e3
          subst e2
          subst e4
          obtain ⟨p1, hp1⟩ : ∃ zz, ap f x y = zz := ⟨_, rfl⟩
          obtain ⟨p2, hp2⟩ : ∃ zz, ap s x y = zz := ⟨_, rfl⟩
          obtain ⟨q1, hq1⟩ : ∃ zz, ap f u v = zz := ⟨_, rfl⟩
          obtain ⟨q2, hq2⟩ : ∃ zz, ap s u v = zz := ⟨_, rfl⟩
          rw [hp1] at h3
          rw [hp2] at h4
          rw [hq1] at g3
          rw [hq2] at g4
          have hka : ledK f s m a = (p1, p2) := by unfold ledK; rw [HX.out, HY.out, hp1, hp2]
          have hkb : ledK f s m b = (q1, q2) := by unfold ledK; rw [HU.out, HV.out, hq1, hq2]
          have HKA := hide hka
          have HKB := hide hkb
          clear hka hkb hp1 hp2 hq1 hq2
          have hxz : (x : Int) < m := by omega
          have hyz : (y : Int) < m := by omega
          have huz : (u : Int) < m := by omega
          have hvz : (v : Int) < m := by omega
          have hcs : (((a : Int) != (b : Int)) = false ∧ Hid (b = a)) ∨ (((a : Int) != (b : Int)) = true ∧ ((p1 : Int) == (q1 : Int)) = false ∧ Hid (ledK f s m a ≠ ledK f s m b)) ∨ (((a : Int) != (b : Int)) = true ∧ ((p1 : Int) == (q1 : Int)) = true ∧ ((p2 : Int) == (q2 : Int)) = false ∧ Hid (ledK f s m a ≠ ledK f s m b)) ∨ (((a : Int) != (b : Int)) = true ∧ ((p1 : Int) == (q1 : Int)) = true ∧ ((p2 : Int) == (q2 : Int)) = true ∧ Hid (b ≠ a ∧ ledK f s m a = ledK f s m b)) := by
            by_cases z0 : b = a
            · exact .inl ⟨by simp [z0], hide z0⟩
            · by_cases z1 : p1 = q1
              · by_cases z2 : p2 = q2
                · exact .inr (.inr (.inr ⟨by simp; omega, by simp [z1], by simp [z2], hide ⟨z0, by rw [HKA.out, HKB.out, z1, z2]⟩⟩))
                · exact .inr (.inr (.inl ⟨by simp; omega, by simp [z1], by simp; omega, hide (by rw [HKA.out, HKB.out]; intro e; injection e with _ e; exact z2 e)⟩))
              · exact .inr (.inl ⟨by simp; omega, by simp; omega, hide (by rw [HKA.out, HKB.out]; intro e; injection e with e _; exact z1 e)⟩)
          rcases hcs with ⟨t1, HT⟩ | ⟨t1, t2, HT⟩ | ⟨t1, t2, t3, HT⟩ | ⟨t1, t2, t3, HT⟩
          · go_wp2_with fail
            go_quiet (fail)
            clear h1 h2 h3 h4 g1 g2 g3 g4 k0 k1
            have hBN := bdrewN HBI.out (1 + nq)
            have hKN := HKI.out.drewN (1 + nq)
            have HBN := hide hBN
            have HKN := hide hKN
            clear hBN hKN
            go_wp2_with fail
            go_roundw
            case rel =>
              exact ⟨b + 1, by omega, by go_num, HBN.out, HKN.out, fun j hj hne => by
                by_cases e : j = b
                · exact absurd (e.trans HT.out) hne
                · exact HALLI.out j (by omega) hne⟩
            case measure => simp [intOf]; omega
          · go_wp2_with fail
            go_quiet (fail)
            clear h1 h2 h3 h4 g1 g2 g3 g4 k0 k1
            have hBN := bdrewN HBI.out (1 + nq)
            have hKN := HKI.out.drewN (1 + nq)
            have HBN := hide hBN
            have HKN := hide hKN
            clear hBN hKN
            go_wp2_with fail
            go_roundw
            case rel =>
              exact ⟨b + 1, by omega, by go_num, HBN.out, HKN.out, fun j hj hne => by
                by_cases e : j = b
                · rw [e]; exact HT.out
                · exact HALLI.out j (by omega) hne⟩
            case measure => simp [intOf]; omega
          · go_wp2_with fail
            go_quiet (fail)
            clear h1 h2 h3 h4 g1 g2 g3 g4 k0 k1
            have hBN := bdrewN HBI.out (1 + nq)
            have hKN := HKI.out.drewN (1 + nq)
            have HBN := hide hBN
            have HKN := hide hKN
            clear hBN hKN
            go_wp2_with fail
            go_roundw
            case rel =>
              exact ⟨b + 1, by omega, by go_num, HBN.out, HKN.out, fun j hj hne => by
                by_cases e : j = b
                · rw [e]; exact HT.out
                · exact HALLI.out j (by omega) hne⟩
            case measure => simp [intOf]; omega
          · go_wp2_with fail
            go_quiet (fail)
            clear h1 h2 h3 h4 g1 g2 g3 g4 k0 k1
            have hBN := bdrewN HBI.out (1 + nq)
            have hKN := HKI.out.drewN (1 + nq)
            have HBN := hide hBN
            have HKN := hide hKN
            clear hBN hKN
            go_wp2_with fail
            refine bp_gen fun wf hwf => ?_
            have HBF : Below w.heap.size w wf := by rw [hwf]; exact HBN.out.alloc HBN.out.size _
            have HOF : OwnB 2 wf (wr.drewN (1 + nq)).heap.size [(x : Int), (y : Int), (u : Int), (v : Int)] := by
              rw [hwf]
              refine ⟨_, heap_alloc_new _ _, fun i hi => ?_⟩
              simp at hi
              rcases i with _ | _ | _ | _ | i
              · rfl
              · rfl
              · rfl
              · rfl
              · omega
            have hlo : w.heap.size ≤ (wr.drewN (1 + nq)).heap.size := HBN.out.size
            clear hwf
            have HFC : Hid (FstCol f s m a b) := hide ⟨by rw [HN.out]; exact hlt, by rw [HN.out]; exact hlty, fun e => HT.out.1 e.symm, HT.out.2, fun i hi j hj => HALL.out i j hi (by rw [← HN.out]; exact hj), fun j hj hne => HALLI.out j hj hne⟩
            go_ret
            exact ⟨_, 4, _, rfl, HBF, hlo, HOF, .inr ⟨a, b, HFC.out, by rw [HX.out, HY.out, HU.out, HV.out], rfl⟩⟩
        · have hyn : b = N := by omega
          subst hyn
          go_wp2_with fail
          go_roundw
          case rel =>
            refine ⟨a + 1, by omega, by go_num, HBI.out, HKI.out, fun i j hi hj hne => ?_⟩
            by_cases e : i = a
            · subst e; exact HALLI.out j hj hne
            · exact HALL.out i j (by omega) hj hne
          case measure => simp [intOf]; omega
    · have hxn : a = N := by omega
      subst hxn
      go_wp2_with fail
      refine bp_gen fun wf hwf => ?_
      have HBF : Below w.heap.size w wf := by rw [hwf]; exact HB.out.alloc HB.out.size _
      have HOF : OwnB 2 wf wr.heap.size [] := by rw [hwf]; exact ⟨_, heap_alloc_new _ _, fun i hi => absurd hi (Nat.not_lt_zero _)⟩
      have hlo : w.heap.size ≤ wr.heap.size := HB.out.size
      clear hwf
      go_ret
      exact ⟨_, 0, [], rfl, HBF, hlo, HOF, .inl ⟨fun i j hi hj hne => HALL.out i j (by rw [← HN.out]; exact hi) (by rw [← HN.out]; exact hj) (fun e => hne e.symm), rfl, rfl⟩⟩
end Go.Proofs.Ytljdfanebjhhmaa
