import Derived.Test.YtaejgmdeiemhcabZh
import Derived.Test.YtaejgmdeiemhcabZg
import Derived.Test.YtaejgmdeiemhcabZf
import Derived.Test.YtaejgmdeiemhcabZx
import Derived.Test.YtaejgmdeiemhcabZb
namespace Go.Proofs.Ytaejgmdeiemhcab
open Go Go.RowKit

/-- The cells that are read at two elements of both tables of a pair map. -/
theorem ZArg.reads {K : Nat} {w : World} {A : Option Addr} {n : Nat} {f : List (List Int)} {B : Option Addr} {m : Nat} {s : List (List Int)} (hz : ZArg K w A n f B m s) (hp : PMap f s) {x y : Nat} (hx : x < n) (hy : y < n) :
    ∃ b o b2 o2 bx ox cx by' oy cy, A = some ⟨b, o, none⟩ ∧ B = some ⟨b2, o2, none⟩ ∧ w.cell? ⟨b, o + x, none⟩ = some (.slice (some ⟨bx, ox, none⟩) n cx) ∧ w.cell? ⟨b2, o2 + x, none⟩ = some (.slice (some ⟨by', oy, none⟩) n cy) ∧
      w.cell? ⟨bx, ox + y, none⟩ = some (.int .i64 (ap f x y : Nat)) ∧ w.cell? ⟨by', oy + y, none⟩ = some (.int .i64 (ap s x y : Nat)) ∧ b < w.heap.size ∧ b2 < w.heap.size ∧ bx < w.heap.size ∧ by' < w.heap.size := by
  obtain ⟨b, o, rfl, hb, hc⟩ := hp.1.cells hz.fst hz.sz.fl
  have hm : s.length = n := by rw [← hp.2.2]; exact hz.sz.fl
  obtain ⟨b2, o2, rfl, hb2, hc2⟩ := hp.2.1.cells hz.snd hm
  obtain ⟨bx, ox, cx, h1, h2, h3⟩ := hc x hx
  obtain ⟨by', oy, cy, h4, h5, h6⟩ := hc2 x hx
  exact ⟨b, o, b2, o2, bx, ox, cx, by', oy, cy, rfl, rfl, h1, h4, h3 y hy, h6 y hy, hb, hb2, h2, h5⟩
theorem ZArg.same {K : Nat} {w : World} {A : Option Addr} {n : Nat} {f : List (List Int)} {B : Option Addr} {m : Nat} {s : List (List Int)} (hz : ZArg K w A n f B m s) (hp : PMap f s) : m = n := by
  rw [← hz.sz.sl, ← hp.2.2]; exact hz.sz.fl
theorem ZArg.small {K : Nat} {w : World} {A : Option Addr} {n : Nat} {f : List (List Int)} {B : Option Addr} {m : Nat} {s : List (List Int)} (hz : ZArg K w A n f B m s) (hp : PMap f s) : 1 ≤ n ∧ n ≤ 12 := by
  have h1 := hp.1.1
  have h2 := hp.1.2.1
  have h3 := hz.sz.fl
  omega
theorem PMap.lt1 {f s : List (List Int)} (hp : PMap f s) {n x y : Nat} (hn : f.length = n) (hx : x < n) (hy : y < n) : ap f x y < n := hp.1.ap_lt hn hx hy
theorem PMap.lt2 {f s : List (List Int)} (hp : PMap f s) {n x y : Nat} (hn : f.length = n) (hx : x < n) (hy : y < n) : ap s x y < n := hp.2.1.ap_lt (by rw [← hp.2.2]; exact hn) hx hy
end Go.Proofs.Ytaejgmdeiemhcab
namespace Go.Proofs.Ytaejgmdeiemhcab
open Go Go.RowKit
/-! The least congruence of a table with two elements in one class, and what joining classes in any order makes of it. -/
/-- What must be in one class. -/
inductive CgE (f : List (List Int)) (n x y : Nat) : Nat → Nat → Prop
  | base : CgE f n x y x y
  | refl (a : Nat) : CgE f n x y a a
  | symm {a b : Nat} : CgE f n x y a b → CgE f n x y b a
  | trans {a b c : Nat} : CgE f n x y a b → CgE f n x y b c → CgE f n x y a c
  | left {a b : Nat} (z : Nat) : z < n → CgE f n x y a b → CgE f n x y (ap f z a) (ap f z b)
  | right {a b : Nat} (z : Nat) : z < n → CgE f n x y a b → CgE f n x y (ap f a z) (ap f b z)
/-- What some pairs put together. -/
inductive JnE (J : List (Nat × Nat)) : Nat → Nat → Prop
  | base {p : Nat × Nat} : p ∈ J → JnE J p.1 p.2
  | refl (a : Nat) : JnE J a a
  | symm {a b : Nat} : JnE J a b → JnE J b a
  | trans {a b c : Nat} : JnE J a b → JnE J b c → JnE J a c
theorem JnE.more {J J' : List (Nat × Nat)} (h : ∀ p, p ∈ J → p ∈ J') {a b : Nat} (e : JnE J a b) : JnE J' a b := by
  induction e with
  | base hp => exact .base (h _ hp)
  | refl a => exact .refl a
  | symm _ ih => exact .symm ih
  | trans _ _ i1 i2 => exact .trans i1 i2
/-- The class of an element. -/
abbrev lb (L : List Int) (a : Nat) : Int := L.getD a 0
/-- Joining: who was in the class `lost` is in the class `kept`. -/
def joinL (L : List Int) (kept lost : Int) : List Int := L.map fun v => if v = lost then kept else v
theorem joinL_length (L : List Int) (k l : Int) : (joinL L k l).length = L.length := by simp [joinL]
theorem joinL_at (L : List Int) (k l : Int) (a : Nat) (h : a < L.length) : lb (joinL L k l) a = if lb L a = l then k else lb L a := by
  simp [lb, joinL, h]
theorem joinL_coarser (L : List Int) (k l : Int) {a b : Nat} (ha : a < L.length) (hb : b < L.length) (e : lb L a = lb L b) : lb (joinL L k l) a = lb (joinL L k l) b := by
  rw [joinL_at L k l a ha, joinL_at L k l b hb, e]
/-- The elements of a pair. -/
def InN (n : Nat) (p : Nat × Nat) : Prop := p.1 < n ∧ p.2 < n
/-- How the search stands: classes L, pairs P to be looked at. -/
structure CgS (f : List (List Int)) (n x y : Nat) (L : List Int) (P : List (Nat × Nat)) : Prop where
  len : L.length = n
  inn : ∀ p, p ∈ P → InN n p
  sound : ∀ a b, a < n → b < n → lb L a = lb L b → CgE f n x y a b
  pend : ∀ p, p ∈ P → CgE f n x y p.1 p.2
  start : (x, y) ∈ P ∨ lb L x = lb L y
  full : ∃ J : List (Nat × Nat), (∀ p, p ∈ J → InN n p) ∧ (∀ a b, a < n → b < n → lb L a = lb L b → JnE J a b) ∧ ∀ p, p ∈ J → ∀ z, z < n → ((ap f p.1 z, ap f p.2 z) ∈ P ∨ lb L (ap f p.1 z) = lb L (ap f p.2 z)) ∧ ((ap f z p.1, ap f z p.2) ∈ P ∨ lb L (ap f z p.1) = lb L (ap f z p.2))
theorem CgS.init {f : List (List Int)} {n x y : Nat} {L : List Int} (hl : L.length = n) (hx : x < n) (hy : y < n) (hu : ∀ a b, a < n → b < n → lb L a = lb L b → a = b) : CgS f n x y L [(x, y)] where
  len := hl
  inn := fun p hp => by simp at hp; subst hp; exact ⟨hx, hy⟩
  sound := fun a b ha hb e => by have := hu a b ha hb e; subst this; exact .refl _
  pend := fun p hp => by simp at hp; subst hp; exact .base
  start := .inl (by simp)
  full := ⟨[], by simp, fun a b ha hb e => by have := hu a b ha hb e; subst this; exact .refl _, by simp⟩
/-- A pair whose elements are in one class is put away. -/
theorem CgS.skip {f : List (List Int)} {n x y : Nat} {L : List Int} {P P' : List (Nat × Nat)} {q : Nat × Nat} (h : CgS f n x y L P) (hP : ∀ p, p ∈ P ↔ p = q ∨ p ∈ P') (he : lb L q.1 = lb L q.2) : CgS f n x y L P' where
  len := h.len
  inn := fun p hp => h.inn p ((hP p).2 (.inr hp))
  sound := h.sound
  pend := fun p hp => h.pend p ((hP p).2 (.inr hp))
  start := by
    rcases h.start with h1 | h1
    · rcases (hP _).1 h1 with h2 | h2
      · right; rw [← h2] at he; exact he
      · exact .inl h2
    · exact .inr h1
  full := by
    obtain ⟨J, j1, j2, j3⟩ := h.full
    refine ⟨J, j1, j2, fun p hp z hz => ⟨?_, ?_⟩⟩
    · rcases (j3 p hp z hz).1 with h1 | h1
      · rcases (hP _).1 h1 with h2 | h2
        · right; rw [← h2] at he; exact he
        · exact .inl h2
      · exact .inr h1
    · rcases (j3 p hp z hz).2 with h1 | h1
      · rcases (hP _).1 h1 with h2 | h2
        · right; rw [← h2] at he; exact he
        · exact .inl h2
      · exact .inr h1
/-- A pair is joined; all that follows from it is to be looked at. -/
theorem CgS.join {f : List (List Int)} {n x y : Nat} {L : List Int} {P P' : List (Nat × Nat)} {q : Nat × Nat} {k l : Int} (h : CgS f n x y L P) (hx : x < n) (hy : y < n) (hap : ∀ a b, a < n → b < n → ap f a b < n) (hq : q ∈ P) (hkl : (k = lb L q.1 ∧ l = lb L q.2) ∨ (k = lb L q.2 ∧ l = lb L q.1))
    (hold : ∀ p, p ∈ P → p ∈ P' ∨ p = q) (hnew : ∀ z, z < n → (ap f q.1 z, ap f q.2 z) ∈ P' ∧ (ap f z q.1, ap f z q.2) ∈ P')
    (hP' : ∀ p, p ∈ P' → p ∈ P ∨ ∃ z, z < n ∧ (p = (ap f q.1 z, ap f q.2 z) ∨ p = (ap f z q.1, ap f z q.2))) : CgS f n x y (joinL L k l) P' := by
  have hqn := h.inn q hq
  have hqe := h.pend q hq
  have hjq : lb (joinL L k l) q.1 = lb (joinL L k l) q.2 := by
    rw [joinL_at L k l q.1 (by rw [h.len]; exact hqn.1), joinL_at L k l q.2 (by rw [h.len]; exact hqn.2)]
    rcases hkl with ⟨rfl, rfl⟩ | ⟨rfl, rfl⟩
    · by_cases e : lb L q.1 = lb L q.2 <;> simp
    · by_cases e : lb L q.2 = lb L q.1 <;> simp
  have co : ∀ a b, a < n → b < n → lb L a = lb L b → lb (joinL L k l) a = lb (joinL L k l) b := fun a b ha hb e => joinL_coarser L k l (by rw [h.len]; exact ha) (by rw [h.len]; exact hb) e
  -- who is together behind the join was, or is by way of q
  have step : ∀ (R : Nat → Nat → Prop), (∀ a, R a a) → (∀ a b, R a b → R b a) → (∀ a b c, R a b → R b c → R a c) → R q.1 q.2 → (∀ a b, a < n → b < n → lb L a = lb L b → R a b) → ∀ a b, a < n → b < n → lb (joinL L k l) a = lb (joinL L k l) b → R a b := by
    intro R rr rs rt rq rl a b ha hb e
    rw [joinL_at L k l a (by rw [h.len]; exact ha), joinL_at L k l b (by rw [h.len]; exact hb)] at e
    -- an element of the class l is together with an element of class k
    obtain ⟨u, v, hu, hv, huk, hvl, huv⟩ : ∃ u v, u < n ∧ v < n ∧ lb L u = k ∧ lb L v = l ∧ R u v := by
      rcases hkl with ⟨rfl, rfl⟩ | ⟨rfl, rfl⟩
      · exact ⟨q.1, q.2, hqn.1, hqn.2, rfl, rfl, rq⟩
      · exact ⟨q.2, q.1, hqn.2, hqn.1, rfl, rfl, rs _ _ rq⟩
    by_cases ea : lb L a = l
    · rw [if_pos ea] at e
      have a1 : R a v := rl a v ha hv (by rw [ea, hvl])
      by_cases eb : lb L b = l
      · exact rl a b ha hb (by rw [ea, eb])
      · rw [if_neg eb] at e
        exact rt _ _ _ a1 (rt _ _ _ (rs _ _ huv) (rl u b hu hb (by rw [huk, e])))
    · rw [if_neg ea] at e
      by_cases eb : lb L b = l
      · rw [if_pos eb] at e
        exact rt _ _ _ (rl a u ha hu (by rw [huk, e])) (rt _ _ _ huv (rl v b hv hb (by rw [hvl, eb])))
      · rw [if_neg eb] at e
        exact rl a b ha hb e
  refine ⟨by rw [joinL_length]; exact h.len, fun p hp => ?_, ?_, fun p hp => ?_, ?_, ?_⟩
  · rcases hP' p hp with h1 | ⟨z, hz, rfl | rfl⟩
    · exact h.inn p h1
    · exact ⟨hap _ _ hqn.1 hz, hap _ _ hqn.2 hz⟩
    · exact ⟨hap _ _ hz hqn.1, hap _ _ hz hqn.2⟩
  · exact step (CgE f n x y) .refl (fun _ _ => .symm) (fun _ _ _ => .trans) hqe h.sound
  · rcases hP' p hp with h1 | ⟨z, hz, rfl | rfl⟩
    · exact h.pend p h1
    · exact .right z hz hqe
    · exact .left z hz hqe
  · rcases h.start with h1 | h1
    · rcases hold _ h1 with h2 | h2
      · exact .inl h2
      · right; rw [← h2] at hjq; exact hjq
    · exact .inr (co _ _ hx hy h1)
  · obtain ⟨J, j1, j2, j3⟩ := h.full
    refine ⟨q :: J, fun p hp => ?_, ?_, fun p hp z hz => ?_⟩
    · rcases List.mem_cons.1 hp with rfl | hp
      · exact hqn
      · exact j1 p hp
    · exact step (JnE (q :: J)) .refl (fun _ _ => .symm) (fun _ _ _ => .trans) (.base (by simp)) (fun a b ha hb e => (j2 a b ha hb e).more fun p hp => List.mem_cons_of_mem _ hp)
    · rcases List.mem_cons.1 hp with rfl | hp
      · exact ⟨.inl (hnew z hz).1, .inl (hnew z hz).2⟩
      · obtain ⟨i1, i2⟩ := j1 p hp
        obtain ⟨h1, h2⟩ := j3 p hp z hz
        constructor
        · rcases h1 with h1 | h1
          · rcases hold _ h1 with h3 | h3
            · exact .inl h3
            · right; rw [← h3] at hjq; exact hjq
          · exact .inr (co _ _ (hap _ _ i1 hz) (hap _ _ i2 hz) h1)
        · rcases h2 with h1 | h1
          · rcases hold _ h1 with h3 | h3
            · exact .inl h3
            · right; rw [← h3] at hjq; exact hjq
          · exact .inr (co _ _ (hap _ _ hz i1) (hap _ _ hz i2) h1)
/-- At the end the classes are those of the least congruence. -/
theorem CgS.done {f : List (List Int)} {n x y : Nat} {L : List Int} (h : CgS f n x y L []) (hx : x < n) (hy : y < n) (hap : ∀ a b, a < n → b < n → ap f a b < n) : ∀ a b, a < n → b < n → (lb L a = lb L b ↔ CgE f n x y a b) := by
  obtain ⟨J, j1, j2, j3⟩ := h.full
  have hxy : lb L x = lb L y := by
    rcases h.start with h1 | h1
    · simp at h1
    · exact h1
  -- what the pairs put together is in one class, and so are its images
  have jl : ∀ z, z < n → ∀ a b, JnE J a b → a = b ∨ ((a < n ∧ b < n) ∧ lb L (ap f a z) = lb L (ap f b z) ∧ lb L (ap f z a) = lb L (ap f z b)) := by
    intro z hz a b e
    induction e with
    | @base p hp =>
      right
      have h3 := j3 p hp z hz
      simp at h3
      exact ⟨j1 p hp, h3.1, h3.2⟩
    | refl a => exact .inl rfl
    | symm _ ih =>
      rcases ih with e | ⟨⟨i1, i2⟩, i3, i4⟩
      · exact .inl e.symm
      · exact .inr ⟨⟨i2, i1⟩, i3.symm, i4.symm⟩
    | trans _ _ ih1 ih2 =>
      rcases ih1 with e | ⟨⟨i1, i2⟩, i3, i4⟩
      · rw [e]; exact ih2
      · rcases ih2 with e | ⟨⟨k1, k2⟩, k3, k4⟩
        · rw [← e]; exact .inr ⟨⟨i1, i2⟩, i3, i4⟩
        · exact .inr ⟨⟨i1, k2⟩, i3.trans k3, i4.trans k4⟩
  have cl : ∀ a b, CgE f n x y a b → a = b ∨ ((a < n ∧ b < n) ∧ lb L a = lb L b) := by
    intro a b e
    induction e with
    | base => exact .inr ⟨⟨hx, hy⟩, hxy⟩
    | refl a => exact .inl rfl
    | symm _ ih =>
      rcases ih with e | ⟨⟨i1, i2⟩, i3⟩
      · exact .inl e.symm
      · exact .inr ⟨⟨i2, i1⟩, i3.symm⟩
    | trans _ _ ih1 ih2 =>
      rcases ih1 with e | ⟨⟨i1, i2⟩, i3⟩
      · rw [e]; exact ih2
      · rcases ih2 with e | ⟨⟨k1, k2⟩, k3⟩
        · rw [← e]; exact .inr ⟨⟨i1, i2⟩, i3⟩
        · exact .inr ⟨⟨i1, k2⟩, i3.trans k3⟩
    | left z hz _ ih =>
      rcases ih with e | ⟨⟨i1, i2⟩, i3⟩
      · exact .inl (by rw [e])
      · right
        refine ⟨⟨hap _ _ hz i1, hap _ _ hz i2⟩, ?_⟩
        rcases jl z hz _ _ (j2 _ _ i1 i2 i3) with e | ⟨_, _, k4⟩
        · rw [e]
        · exact k4
    | right z hz _ ih =>
      rcases ih with e | ⟨⟨i1, i2⟩, i3⟩
      · exact .inl (by rw [e])
      · right
        refine ⟨⟨hap _ _ i1 hz, hap _ _ i2 hz⟩, ?_⟩
        rcases jl z hz _ _ (j2 _ _ i1 i2 i3) with e | ⟨_, k3, _⟩
        · rw [e]
        · exact k3
  intro a b ha hb
  refine ⟨h.sound a b ha hb, fun e => ?_⟩
  rcases cl a b e with e | ⟨_, e⟩
  · rw [e]
  · exact e
/-- How many classes there are. -/
def cgCnt (n : Nat) (L : List Int) : Nat := (List.range n).countP fun (v : Nat) => decide ((v : Int) ∈ L)
theorem cgCnt_join {n : Nat} {L : List Int} {k l : Int} (hk : k ∈ L) (hl : l ∈ L) (hne : k ≠ l) (hl0 : 0 ≤ l ∧ l < (n : Int)) : cgCnt n (joinL L k l) < cgCnt n L := by
  have mem : ∀ v : Int, v ∈ joinL L k l → v ∈ L ∧ v ≠ l := by
    intro v hv
    obtain ⟨u, hu, e⟩ := List.mem_map.1 hv
    by_cases h1 : u = l
    · rw [if_pos h1] at e; subst e; exact ⟨hk, hne⟩
    · rw [if_neg h1] at e; subst e; exact ⟨hu, h1⟩
  have le : ∀ (R : List Nat), R.countP (fun (v : Nat) => decide ((v : Int) ∈ joinL L k l)) ≤ R.countP (fun (v : Nat) => decide ((v : Int) ∈ L)) := fun R => List.countP_mono_left fun v _ h => by simpa using (mem _ (by simpa using h)).1
  unfold cgCnt
  obtain ⟨m, rfl⟩ : ∃ m : Nat, l = (m : Int) := ⟨l.toNat, by omega⟩
  have hm : m < n := by omega
  have e : List.range n = List.range m ++ m :: (List.range' (m + 1) (n - m - 1)) := by
    rw [List.range_eq_range', show n = m + (1 + (n - m - 1)) by omega, ← List.range'_append_1, ← List.range'_append_1, List.range_eq_range']
    simp
  rw [e, List.countP_append, List.countP_append, List.countP_cons, List.countP_cons]
  have h1 := le (List.range m)
  have h2 := le (List.range' (m + 1) (n - m - 1))
  have h3 : ((m : Int) ∈ joinL L k (m : Int)) = False := by simp; intro h; exact (mem _ h).2 rfl
  simp only [h3, hl, decide_true, decide_false, if_true]
  simp
  omega
end Go.Proofs.Ytaejgmdeiemhcab
namespace Go.Proofs.Ytaejgmdeiemhcab
open Go Go.RowKit

/-- As FB, of a call that may begin without a box of its own: all boxes lie below top. -/
structure FC (w wx : World) (top : Nat) (bs : List (Nat × TypeId × List Value)) : Prop where
  below : Below w.heap.size w wx
  blks : ∀ q, q ∈ bs → Blk wx q.1 q.2.1 q.2.2 ∧ q.1 < top
  low : w.heap.size ≤ top
  sz : top ≤ wx.heap.size

section
variable {w wx wy : World} {top : Nat} {bs : List (Nat × TypeId × List Value)}
theorem FC.of (hb : Below w.heap.size w wx) (h : ∀ q, q ∈ bs → Blk wx q.1 q.2.1 q.2.2) : FC w wx wx.heap.size bs :=
  ⟨hb, fun q hq => ⟨h q hq, (h q hq).lt⟩, hb.size, Nat.le_refl _⟩
theorem FC.later (h : FC w wx top bs) (hb : Below wx.heap.size wx wy) : FC w wy top bs :=
  ⟨h.below.trans (hb.mono h.below.size), fun q hq => ⟨(h.blks q hq).1.later hb, (h.blks q hq).2⟩, h.low, Nat.le_trans h.sz hb.size⟩
theorem FC.set (h : FC w wx top bs) {p : Addr} (hp : top ≤ p.block) (v : Value) : FC w (wx.setCell p v) top bs :=
  ⟨h.below.setCell (Nat.le_trans h.low hp) v, fun q hq => ⟨(h.blks q hq).1.far (by have := (h.blks q hq).2; omega) v, (h.blks q hq).2⟩, h.low, by have := h.sz; simp [World.setCell]; omega⟩
theorem FC.push (h : FC w wx top bs) {L : Nat} {t : TypeId} {cs : List Value} (hb : Blk wx L t cs) (hL : top ≤ L) : FC w wx (L + 1) ((L, t, cs) :: bs) :=
  ⟨h.below, fun q hq => by
    rcases List.mem_cons.1 hq with rfl | hq
    · exact ⟨hb, Nat.lt_succ_self _⟩
    · exact ⟨(h.blks q hq).1, by have := (h.blks q hq).2; omega⟩, by have := h.low; omega, hb.lt⟩
theorem FC.new (h : FC w wx top bs) (t : TypeId) (cs : List Value) : FC w (wx.alloc (.cells cs.toArray t)) (wx.heap.size + 1) ((wx.heap.size, t, cs) :: bs) :=
  (h.later ((Below.refl _ _).alloc (Nat.le_refl _) _)).push (Blk.new _ _ _) h.sz
theorem FC.blk (h : FC w wx top bs) {b : Nat} {t : TypeId} {cs : List Value} (hm : (b, t, cs) ∈ bs) : Blk wx b t cs := (h.blks _ hm).1
theorem FC.le (h : FC w wx top bs) {b : Nat} {t : TypeId} {cs : List Value} (hm : (b, t, cs) ∈ bs) : b < top := (h.blks _ hm).2
end
end Go.Proofs.Ytaejgmdeiemhcab
namespace Go.Proofs.Ytaejgmdeiemhcab
open Go Go.RowKit

section
variable {t : TypeId} {B : Nat} {w w' w1 : World} {v v' v1 v2 : Value} {n1 n2 : Nat} {xs1 xs2 : List Int}

/-- Two rows of numbers that the call builds by append. -/
structure Row2 (t : TypeId) (B : Nat) (w : World) (v1 v2 : Value) (n1 n2 : Nat) (xs1 xs2 : List Int) : Prop where
  o1 : w.ownsRow B t 1 v1 n1 (ints xs1)
  o2 : w.ownsRow B t 1 v2 n2 (ints xs2)
  ne : ∀ g, v1.ownBlock = some g → v2.ownBlock ≠ some g

theorem Row2.later (h : Row2 t B w v1 v2 n1 n2 xs1 xs2) (hb : Below w.heap.size w w') : Row2 t B w' v1 v2 n1 n2 xs1 xs2 :=
  ⟨ownsRow_below h.o1 hb, ownsRow_below h.o2 hb, h.ne⟩
theorem ints_push (xs : List Int) (a : Int) : ints (xs ++ [a]) = ints xs ++ [.int .i64 a] := by unfold ints; rw [List.map_append]; rfl

theorem Row2.add1 {a : Int} {tmp : Obj} (h : Row2 t B w v1 v2 n1 n2 xs1 xs2) (hown : w1.ownsRow B t 1 v' (n1 + 1) (ints xs1 ++ [.int .i64 a])) (hg : (w.alloc tmp).grownBy w1 v1.ownBlock) (hat : v'.ownBlock = v1.ownBlock ∨ v'.ownBlock = some (w.alloc tmp).heap.size) :
    Row2 t B w1 v' v2 (n1 + 1) n2 (xs1 ++ [a]) xs2 := by
  have hal : Below w.heap.size w (w.alloc tmp) := (Below.refl _ _).alloc (Nat.le_refl _) _
  have hv2 : v2.ownBlock = none ∨ v2.ownBlock ≠ v1.ownBlock := by
    cases e : v2.ownBlock with
    | none => exact .inl rfl
    | some g => exact .inr (fun e2 => h.ne g e2.symm e)
  refine ⟨by rw [ints_push]; exact hown, (ownsRow_below h.o2 hal).kept hg hv2, fun g hg1 e2 => ?_⟩
  rcases hat with e | e
  · exact h.ne g (e ▸ hg1) e2
  · have h3 := (own_type h.o2 e2).1
    rw [e] at hg1
    simp at hg1
    omega
theorem Row2.add2 {a : Int} {tmp : Obj} (h : Row2 t B w v1 v2 n1 n2 xs1 xs2) (hown : w1.ownsRow B t 1 v' (n2 + 1) (ints xs2 ++ [.int .i64 a])) (hg : (w.alloc tmp).grownBy w1 v2.ownBlock) (hat : v'.ownBlock = v2.ownBlock ∨ v'.ownBlock = some (w.alloc tmp).heap.size) :
    Row2 t B w1 v1 v' n1 (n2 + 1) xs1 (xs2 ++ [a]) := by
  have hal : Below w.heap.size w (w.alloc tmp) := (Below.refl _ _).alloc (Nat.le_refl _) _
  have hv1 : v1.ownBlock = none ∨ v1.ownBlock ≠ v2.ownBlock := by
    cases e : v1.ownBlock with
    | none => exact .inl rfl
    | some g => exact .inr (fun e2 => h.ne g e e2.symm)
  refine ⟨(ownsRow_below h.o1 hal).kept hg hv1, by rw [ints_push]; exact hown, fun g hg1 e2 => ?_⟩
  rcases hat with e | e
  · exact h.ne g hg1 (e ▸ e2)
  · have h3 := (own_type h.o1 hg1).1
    rw [e] at e2
    simp at e2
    omega
/-- The blocks below both rows are left. -/
theorem grown_low {tmp : Obj} {b0 : Nat} {w0 : World} (h : w.ownsRow B t 1 v n1 (ints xs1)) (hg : (w.alloc tmp).grownBy w1 v.ownBlock) (hb : Below b0 w0 w) (h0 : b0 ≤ B) (hs : b0 ≤ w.heap.size) : Below b0 w0 w1 :=
  (hb.alloc hs tmp).grown hg (by simp; omega) (fun g e => by
    have := (own_type h e).2.1
    omega)
end
end Go.Proofs.Ytaejgmdeiemhcab
namespace Go.Proofs.Ytaejgmdeiemhcab
open Go Go.RowKit
section
variable {t : TypeId} {w w' : World} {g : Nat} {xs : List Int}
theorem own_read {B n c : Nat} {A : Option Addr} (h : w.ownsRow B t 1 (.slice A n c) n (ints xs)) (hn : 0 < n) : ∃ g, A = some ⟨g, 0, none⟩ ∧ OwnB t w g xs := by
  have hl := h.1
  rw [ints_length] at hl
  rcases ownB_of_ownsRow h with ⟨_, h0⟩ | ⟨g, h1, _, h2⟩
  · subst h0; simp at hl; omega
  · exact ⟨g, h1, h2⟩
theorem OwnB.keep (h : OwnB t w g xs) (hb : Below w.heap.size w w') : OwnB t w' g xs := h.later hb h.lt
theorem OwnB.cell1 (h : OwnB t w g xs) (i : Nat) (hi : i < xs.length) {v : Int} (hv : xs.getD i 0 = v) : w.cell? ⟨g, i, none⟩ = some (.int .i64 v) := by rw [← hv]; exact h.cell hi
end
theorem ints_snoc (xs : List Int) (x : Int) : ints (xs ++ [x]) = ints xs ++ [.int .i64 x] := by simp [ints]
end Go.Proofs.Ytaejgmdeiemhcab
