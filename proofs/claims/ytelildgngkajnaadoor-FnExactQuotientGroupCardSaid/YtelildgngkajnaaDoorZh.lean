import Derived.Test.YtelildgngkajnaaDoorZg
import Derived.Test.YtelildgngkajnaaDoorZe
import Derived.Test.YtelildgngkajnaaDoorZf
namespace Go.Proofs.YtelildgngkajnaaDoor
open Go Go.RowKit

theorem pair_div (n x y : Nat) (hy : y < n) : (x * n + y) / n = x := by
  rw [Nat.mul_comm, Nat.mul_add_div (by omega), Nat.div_eq_of_lt hy, Nat.add_zero]
theorem pair_mod (n x y : Nat) (hy : y < n) : (x * n + y) % n = y := by
  rw [Nat.mul_comm, Nat.mul_add_mod, Nat.mod_eq_of_lt hy]
theorem pair_lt (n x y : Nat) (hx : x < n) (hy : y < n) : x * n + y < n * n := by
  have h : (x + 1) * n ≤ n * n := Nat.mul_le_mul_right n hx
  rw [Nat.add_mul, Nat.one_mul] at h
  omega
theorem div_lt_sq {n k : Nat} (hk : k < n * n) : k / n < n := Nat.div_lt_of_lt_mul hk
theorem mod_lt_sq {n k : Nat} (hk : k < n * n) : k % n < n := by
  rcases Nat.eq_zero_or_pos n with rfl | h
  · simp at hk
  · exact Nat.mod_lt _ h
theorem pair_eta (n k : Nat) : k / n * n + k % n = k := Nat.div_add_mod' k n
theorem sq_le (n : Nat) (h : n ≤ 12) : n * n ≤ 144 := Nat.mul_le_mul h h
end Go.Proofs.YtelildgngkajnaaDoor
namespace Go.Proofs.YtelildgngkajnaaDoor
open Go Go.RowKit
def FmRes (good : Prop) (bad : Int) (n : Nat) (h : Nat → Nat → Int) (zs : List (List Int)) (code : Int) : Prop := (good ∧ zs = grid n h ∧ code = 0) ∨ (¬ good ∧ zs = [] ∧ code = bad)
theorem FmRes.ex (good : Prop) (bad : Int) (n : Nat) (h : Nat → Nat → Int) (hn : good → n ≤ 12) : ∃ zs code, FmRes good bad n h zs code ∧ zs.length ≤ 1048576 ∧ ∀ i, i < zs.length → (zs.getD i []).length ≤ 1048576 := by
  by_cases hg : good
  · refine ⟨_, _, .inl ⟨hg, rfl, rfl⟩, ?_, fun i hi => ?_⟩
    · rw [grid_length]; have := hn hg; omega
    · rw [grid_length] at hi
      rw [grid_row_length _ _ _ hi]; have := hn hg; omega
  · exact ⟨_, _, .inr ⟨hg, rfl, rfl⟩, by simp, fun i hi => by simp at hi⟩
def trH : Nat → Nat → Int := fun _ b => (b : Int)
def dhH (n : Nat) : Nat → Nat → Int := fun a b => (((2 * a + (n - 1) * b) % n : Nat) : Int)
def TrRes (x : Int) : List (List Int) → Int → Prop := FmRes (1 ≤ x ∧ x ≤ 12) 2 x.toNat trH
def DhRes (x : Int) : List (List Int) → Int → Prop := FmRes (1 ≤ x ∧ x ≤ 12) 2 x.toNat (dhH x.toNat)
theorem TrRes.ex (x : Int) : ∃ zs code, TrRes x zs code ∧ zs.length ≤ 1048576 ∧ ∀ i, i < zs.length → (zs.getD i []).length ≤ 1048576 := FmRes.ex (1 ≤ x ∧ x ≤ 12) 2 x.toNat trH (fun h => by omega)
theorem DhRes.ex (x : Int) : ∃ zs code, DhRes x zs code ∧ zs.length ≤ 1048576 ∧ ∀ i, i < zs.length → (zs.getD i []).length ≤ 1048576 := FmRes.ex (1 ≤ x ∧ x ≤ 12) 2 x.toNat (dhH x.toNat) (fun h => by omega)
theorem dh_eq (n x y : Nat) (h1 : 1 ≤ n) : ((2 * (x : Int) - (y : Int)) % (n : Int)) = dhH n x y := by
  unfold dhH
  have e : ((2 * x + (n - 1) * y : Nat) : Int) = (2 * (x : Int) - (y : Int)) + (n : Int) * (y : Int) := by
    obtain ⟨m, rfl⟩ : ∃ m, n = m + 1 := ⟨n - 1, by omega⟩
    have : (m + 1 - 1) = m := by omega
    rw [this]
    push_cast
    rw [Int.add_mul]
    omega
  rw [Int.natCast_emod, e, Int.add_mul_emod_self_left]
theorem alx_mod (n b x q : Nat) : ((b % n) * x + q) % n = (b * x + q) % n := by
  rw [Nat.add_mod, Nat.mod_mul_mod, ← Nat.add_mod]
end Go.Proofs.YtelildgngkajnaaDoor
namespace Go.Proofs.YtelildgngkajnaaDoor
open Go Go.RowKit
/-! The least congruence of a table with two elements in one class, and what joining classes in any order makes of it. -/
/-- What must be in one class. -/
inductive CgE (f : List (List Int)) (n x y : Nat) : Nat → Nat → Prop
  | base : CgE f n x y x y
  | refl (a : Nat) : CgE f n x y a a
  | symm {a b : Nat} : CgE f n x y a b → CgE f n x y b a
  | trans {a b c : Nat} : CgE f n x y a b → CgE f n x y b c → CgE f n x y a c
  | left {a b : Nat} (z : Nat) : z < n → CgE f n x y a b → CgE f n x y (ap f z a) (ap f z b)
  | right {a b : Nat} (z : Nat) : z < n → CgE f n x y a b → CgE f n x y (ap f a z) (ap f b z)
/-- What some pairs put together. -/
inductive JnE (J : List (Nat × Nat)) : Nat → Nat → Prop
  | base {p : Nat × Nat} : p ∈ J → JnE J p.1 p.2
  | refl (a : Nat) : JnE J a a
  | symm {a b : Nat} : JnE J a b → JnE J b a
  | trans {a b c : Nat} : JnE J a b → JnE J b c → JnE J a c
theorem JnE.more {J J' : List (Nat × Nat)} (h : ∀ p, p ∈ J → p ∈ J') {a b : Nat} (e : JnE J a b) : JnE J' a b := by
  induction e with
  | base hp => exact .base (h _ hp)
  | refl a => exact .refl a
  | symm _ ih => exact .symm ih
  | trans _ _ i1 i2 => exact .trans i1 i2
/-- The class of an element. -/
abbrev lb (L : List Int) (a : Nat) : Int := L.getD a 0
/-- Joining: who was in the class `lost` is in the class `kept`. -/
def joinL (L : List Int) (kept lost : Int) : List Int := L.map fun v => if v = lost then kept else v
theorem joinL_length (L : List Int) (k l : Int) : (joinL L k l).length = L.length := by simp [joinL]
theorem joinL_at (L : List Int) (k l : Int) (a : Nat) (h : a < L.length) : lb (joinL L k l) a = if lb L a = l then k else lb L a := by
  simp [lb, joinL, h]
theorem joinL_coarser (L : List Int) (k l : Int) {a b : Nat} (ha : a < L.length) (hb : b < L.length) (e : lb L a = lb L b) : lb (joinL L k l) a = lb (joinL L k l) b := by
  rw [joinL_at L k l a ha, joinL_at L k l b hb, e]
/-- The elements of a pair. -/
def InN (n : Nat) (p : Nat × Nat) : Prop := p.1 < n ∧ p.2 < n
/-- How the search stands: classes L, pairs P to be looked at. -/
structure CgS (f : List (List Int)) (n x y : Nat) (L : List Int) (P : List (Nat × Nat)) : Prop where
  len : L.length = n
  inn : ∀ p, p ∈ P → InN n p
  sound : ∀ a b, a < n → b < n → lb L a = lb L b → CgE f n x y a b
  pend : ∀ p, p ∈ P → CgE f n x y p.1 p.2
  start : (x, y) ∈ P ∨ lb L x = lb L y
  full : ∃ J : List (Nat × Nat), (∀ p, p ∈ J → InN n p) ∧ (∀ a b, a < n → b < n → lb L a = lb L b → JnE J a b) ∧ ∀ p, p ∈ J → ∀ z, z < n → ((ap f p.1 z, ap f p.2 z) ∈ P ∨ lb L (ap f p.1 z) = lb L (ap f p.2 z)) ∧ ((ap f z p.1, ap f z p.2) ∈ P ∨ lb L (ap f z p.1) = lb L (ap f z p.2))
theorem CgS.init {f : List (List Int)} {n x y : Nat} {L : List Int} (hl : L.length = n) (hx : x < n) (hy : y < n) (hu : ∀ a b, a < n → b < n → lb L a = lb L b → a = b) : CgS f n x y L [(x, y)] where
  len := hl
  inn := fun p hp => by simp at hp; subst hp; exact ⟨hx, hy⟩
  sound := fun a b ha hb e => by have := hu a b ha hb e; subst this; exact .refl _
  pend := fun p hp => by simp at hp; subst hp; exact .base
  start := .inl (by simp)
  full := ⟨[], by simp, fun a b ha hb e => by have := hu a b ha hb e; subst this; exact .refl _, by simp⟩
/-- A pair whose elements are in one class is put away. -/
theorem CgS.skip {f : List (List Int)} {n x y : Nat} {L : List Int} {P P' : List (Nat × Nat)} {q : Nat × Nat} (h : CgS f n x y L P) (hP : ∀ p, p ∈ P ↔ p = q ∨ p ∈ P') (he : lb L q.1 = lb L q.2) : CgS f n x y L P' where
  len := h.len
  inn := fun p hp => h.inn p ((hP p).2 (.inr hp))
  sound := h.sound
  pend := fun p hp => h.pend p ((hP p).2 (.inr hp))
  start := by
    rcases h.start with h1 | h1
    · rcases (hP _).1 h1 with h2 | h2
      · right; rw [← h2] at he; exact he
      · exact .inl h2
    · exact .inr h1
  full := by
    obtain ⟨J, j1, j2, j3⟩ := h.full
    refine ⟨J, j1, j2, fun p hp z hz => ⟨?_, ?_⟩⟩
    · rcases (j3 p hp z hz).1 with h1 | h1
      · rcases (hP _).1 h1 with h2 | h2
        · right; rw [← h2] at he; exact he
        · exact .inl h2
      · exact .inr h1
    · rcases (j3 p hp z hz).2 with h1 | h1
      · rcases (hP _).1 h1 with h2 | h2
        · right; rw [← h2] at he; exact he
        · exact .inl h2
      · exact .inr h1
/-- A pair is joined; all that follows from it is to be looked at. -/
theorem CgS.join {f : List (List Int)} {n x y : Nat} {L : List Int} {P P' : List (Nat × Nat)} {q : Nat × Nat} {k l : Int} (h : CgS f n x y L P) (hx : x < n) (hy : y < n) (hap : ∀ a b, a < n → b < n → ap f a b < n) (hq : q ∈ P) (hkl : (k = lb L q.1 ∧ l = lb L q.2) ∨ (k = lb L q.2 ∧ l = lb L q.1))
    (hold : ∀ p, p ∈ P → p ∈ P' ∨ p = q) (hnew : ∀ z, z < n → (ap f q.1 z, ap f q.2 z) ∈ P' ∧ (ap f z q.1, ap f z q.2) ∈ P')
    (hP' : ∀ p, p ∈ P' → p ∈ P ∨ ∃ z, z < n ∧ (p = (ap f q.1 z, ap f q.2 z) ∨ p = (ap f z q.1, ap f z q.2))) : CgS f n x y (joinL L k l) P' := by
  have hqn := h.inn q hq
  have hqe := h.pend q hq
  have hjq : lb (joinL L k l) q.1 = lb (joinL L k l) q.2 := by
    rw [joinL_at L k l q.1 (by rw [h.len]; exact hqn.1), joinL_at L k l q.2 (by rw [h.len]; exact hqn.2)]
    rcases hkl with ⟨rfl, rfl⟩ | ⟨rfl, rfl⟩
    · by_cases e : lb L q.1 = lb L q.2 <;> simp
    · by_cases e : lb L q.2 = lb L q.1 <;> simp
  have co : ∀ a b, a < n → b < n → lb L a = lb L b → lb (joinL L k l) a = lb (joinL L k l) b := fun a b ha hb e => joinL_coarser L k l (by rw [h.len]; exact ha) (by rw [h.len]; exact hb) e
  -- who is together behind the join was, or is by way of q
  have step : ∀ (R : Nat → Nat → Prop), (∀ a, R a a) → (∀ a b, R a b → R b a) → (∀ a b c, R a b → R b c → R a c) → R q.1 q.2 → (∀ a b, a < n → b < n → lb L a = lb L b → R a b) → ∀ a b, a < n → b < n → lb (joinL L k l) a = lb (joinL L k l) b → R a b := by
    intro R rr rs rt rq rl a b ha hb e
    rw [joinL_at L k l a (by rw [h.len]; exact ha), joinL_at L k l b (by rw [h.len]; exact hb)] at e
    -- an element of the class l is together with an element of class k
    obtain ⟨u, v, hu, hv, huk, hvl, huv⟩ : ∃ u v, u < n ∧ v < n ∧ lb L u = k ∧ lb L v = l ∧ R u v := by
      rcases hkl with ⟨rfl, rfl⟩ | ⟨rfl, rfl⟩
      · exact ⟨q.1, q.2, hqn.1, hqn.2, rfl, rfl, rq⟩
      · exact ⟨q.2, q.1, hqn.2, hqn.1, rfl, rfl, rs _ _ rq⟩
    by_cases ea : lb L a = l
    · rw [if_pos ea] at e
      have a1 : R a v := rl a v ha hv (by rw [ea, hvl])
      by_cases eb : lb L b = l
      · exact rl a b ha hb (by rw [ea, eb])
      · rw [if_neg eb] at e
        exact rt _ _ _ a1 (rt _ _ _ (rs _ _ huv) (rl u b hu hb (by rw [huk, e])))
    · rw [if_neg ea] at e
      by_cases eb : lb L b = l
      · rw [if_pos eb] at e
        exact rt _ _ _ (rl a u ha hu (by rw [huk, e])) (rt _ _ _ huv (rl v b hv hb (by rw [hvl, eb])))
      · rw [if_neg eb] at e
        exact rl a b ha hb e
  refine ⟨by rw [joinL_length]; exact h.len, fun p hp => ?_, ?_, fun p hp => ?_, ?_, ?_⟩
  · rcases hP' p hp with h1 | ⟨z, hz, rfl | rfl⟩
    · exact h.inn p h1
    · exact ⟨hap _ _ hqn.1 hz, hap _ _ hqn.2 hz⟩
    · exact ⟨hap _ _ hz hqn.1, hap _ _ hz hqn.2⟩
  · exact step (CgE f n x y) .refl (fun _ _ => .symm) (fun _ _ _ => .trans) hqe h.sound
  · rcases hP' p hp with h1 | ⟨z, hz, rfl | rfl⟩
    · exact h.pend p h1
    · exact .right z hz hqe
    · exact .left z hz hqe
  · rcases h.start with h1 | h1
    · rcases hold _ h1 with h2 | h2
      · exact .inl h2
      · right; rw [← h2] at hjq; exact hjq
    · exact .inr (co _ _ hx hy h1)
  · obtain ⟨J, j1, j2, j3⟩ := h.full
    refine ⟨q :: J, fun p hp => ?_, ?_, fun p hp z hz => ?_⟩
    · rcases List.mem_cons.1 hp with rfl | hp
      · exact hqn
      · exact j1 p hp
    · exact step (JnE (q :: J)) .refl (fun _ _ => .symm) (fun _ _ _ => .trans) (.base (by simp)) (fun a b ha hb e => (j2 a b ha hb e).more fun p hp => List.mem_cons_of_mem _ hp)
    · rcases List.mem_cons.1 hp with rfl | hp
      · exact ⟨.inl (hnew z hz).1, .inl (hnew z hz).2⟩
      · obtain ⟨i1, i2⟩ := j1 p hp
        obtain ⟨h1, h2⟩ := j3 p hp z hz
        constructor
        · rcases h1 with h1 | h1
          · rcases hold _ h1 with h3 | h3
            · exact .inl h3
            · right; rw [← h3] at hjq; exact hjq
          · exact .inr (co _ _ (hap _ _ i1 hz) (hap _ _ i2 hz) h1)
        · rcases h2 with h1 | h1
          · rcases hold _ h1 with h3 | h3
            · exact .inl h3
            · right; rw [← h3] at hjq; exact hjq
          · exact .inr (co _ _ (hap _ _ hz i1) (hap _ _ hz i2) h1)
/-- At the end the classes are those of the least congruence. -/
theorem CgS.done {f : List (List Int)} {n x y : Nat} {L : List Int} (h : CgS f n x y L []) (hx : x < n) (hy : y < n) (hap : ∀ a b, a < n → b < n → ap f a b < n) : ∀ a b, a < n → b < n → (lb L a = lb L b ↔ CgE f n x y a b) := by
  obtain ⟨J, j1, j2, j3⟩ := h.full
  have hxy : lb L x = lb L y := by
    rcases h.start with h1 | h1
    · simp at h1
    · exact h1
  -- what the pairs put together is in one class, and so are its images
  have jl : ∀ z, z < n → ∀ a b, JnE J a b → a = b ∨ ((a < n ∧ b < n) ∧ lb L (ap f a z) = lb L (ap f b z) ∧ lb L (ap f z a) = lb L (ap f z b)) := by
    intro z hz a b e
    induction e with
    | @base p hp =>
      right
      have h3 := j3 p hp z hz
      simp at h3
      exact ⟨j1 p hp, h3.1, h3.2⟩
    | refl a => exact .inl rfl
    | symm _ ih =>
      rcases ih with e | ⟨⟨i1, i2⟩, i3, i4⟩
      · exact .inl e.symm
      · exact .inr ⟨⟨i2, i1⟩, i3.symm, i4.symm⟩
    | trans _ _ ih1 ih2 =>
      rcases ih1 with e | ⟨⟨i1, i2⟩, i3, i4⟩
      · rw [e]; exact ih2
      · rcases ih2 with e | ⟨⟨k1, k2⟩, k3, k4⟩
        · rw [← e]; exact .inr ⟨⟨i1, i2⟩, i3, i4⟩
        · exact .inr ⟨⟨i1, k2⟩, i3.trans k3, i4.trans k4⟩
  have cl : ∀ a b, CgE f n x y a b → a = b ∨ ((a < n ∧ b < n) ∧ lb L a = lb L b) := by
    intro a b e
    induction e with
    | base => exact .inr ⟨⟨hx, hy⟩, hxy⟩
    | refl a => exact .inl rfl
    | symm _ ih =>
      rcases ih with e | ⟨⟨i1, i2⟩, i3⟩
      · exact .inl e.symm
      · exact .inr ⟨⟨i2, i1⟩, i3.symm⟩
    | trans _ _ ih1 ih2 =>
      rcases ih1 with e | ⟨⟨i1, i2⟩, i3⟩
      · rw [e]; exact ih2
      · rcases ih2 with e | ⟨⟨k1, k2⟩, k3⟩
        · rw [← e]; exact .inr ⟨⟨i1, i2⟩, i3⟩
        · exact .inr ⟨⟨i1, k2⟩, i3.trans k3⟩
    | left z hz _ ih =>
      rcases ih with e | ⟨⟨i1, i2⟩, i3⟩
      · exact .inl (by rw [e])
      · right
        refine ⟨⟨hap _ _ hz i1, hap _ _ hz i2⟩, ?_⟩
        rcases jl z hz _ _ (j2 _ _ i1 i2 i3) with e | ⟨_, _, k4⟩
        · rw [e]
        · exact k4
    | right z hz _ ih =>
      rcases ih with e | ⟨⟨i1, i2⟩, i3⟩
      · exact .inl (by rw [e])
      · right
        refine ⟨⟨hap _ _ i1 hz, hap _ _ i2 hz⟩, ?_⟩
        rcases jl z hz _ _ (j2 _ _ i1 i2 i3) with e | ⟨_, k3, _⟩
        · rw [e]
        · exact k3
  intro a b ha hb
  refine ⟨h.sound a b ha hb, fun e => ?_⟩
  rcases cl a b e with e | ⟨_, e⟩
  · rw [e]
  · exact e
/-- How many classes there are. -/
def cgCnt (n : Nat) (L : List Int) : Nat := (List.range n).countP fun (v : Nat) => decide ((v : Int) ∈ L)
theorem cgCnt_join {n : Nat} {L : List Int} {k l : Int} (hk : k ∈ L) (hl : l ∈ L) (hne : k ≠ l) (hl0 : 0 ≤ l ∧ l < (n : Int)) : cgCnt n (joinL L k l) < cgCnt n L := by
  have mem : ∀ v : Int, v ∈ joinL L k l → v ∈ L ∧ v ≠ l := by
    intro v hv
    obtain ⟨u, hu, e⟩ := List.mem_map.1 hv
    by_cases h1 : u = l
    · rw [if_pos h1] at e; subst e; exact ⟨hk, hne⟩
    · rw [if_neg h1] at e; subst e; exact ⟨hu, h1⟩
  have le : ∀ (R : List Nat), R.countP (fun (v : Nat) => decide ((v : Int) ∈ joinL L k l)) ≤ R.countP (fun (v : Nat) => decide ((v : Int) ∈ L)) := fun R => List.countP_mono_left fun v _ h => by simpa using (mem _ (by simpa using h)).1
  unfold cgCnt
  obtain ⟨m, rfl⟩ : ∃ m : Nat, l = (m : Int) := ⟨l.toNat, by omega⟩
  have hm : m < n := by omega
  have e : List.range n = List.range m ++ m :: (List.range' (m + 1) (n - m - 1)) := by
    rw [List.range_eq_range', show n = m + (1 + (n - m - 1)) by omega, ← List.range'_append_1, ← List.range'_append_1, List.range_eq_range']
    simp
  rw [e, List.countP_append, List.countP_append, List.countP_cons, List.countP_cons]
  have h1 := le (List.range m)
  have h2 := le (List.range' (m + 1) (n - m - 1))
  have h3 : ((m : Int) ∈ joinL L k (m : Int)) = False := by simp; intro h; exact (mem _ h).2 rfl
  simp only [h3, hl, decide_true, decide_false, if_true]
  simp
  omega
end Go.Proofs.YtelildgngkajnaaDoor
namespace Go.Proofs.YtelildgngkajnaaDoor
open Go Go.RowKit

/-- The elements reached from x, the steps of the first i of them done. -/
structure OInv (rows : List (List Int)) (n x : Nat) (out : List Int) (i : Nat) : Prop where
  mem : (x : Int) ∈ out
  rng : ∀ v ∈ out, 0 ≤ v ∧ v < (n : Int)
  nd : out.Nodup
  rch : ∀ v ∈ out, Rch rows x v.toNat
  cl : ∀ j, j < i → ∀ r, r < rows.length → (rows.getD r []).getD (out.getD j 0).toNat 0 ∈ out
  le : i ≤ out.length

theorem nodup_le (out : List Int) (n : Nat) (hr : ∀ v ∈ out, 0 ≤ v ∧ v < (n : Int)) (hn : out.Nodup) : out.length ≤ n := by
  obtain ⟨l, hl⟩ := subset_perm out (Go.Proofs.YtelildgngkajnaaDoor.rng n) hn (fun a ha => (mem_rng n a).2 (hr a ha))
  have := hl.length_eq
  rw [rng_length, List.length_append] at this
  omega
theorem OInv.most {rows : List (List Int)} {n x : Nat} {out : List Int} {i : Nat} (h : OInv rows n x out i) : out.length ≤ n := nodup_le out n h.rng h.nd
theorem OInv.start (rows : List (List Int)) (n x : Nat) (hx : x < n) : OInv rows n x [(x : Int)] 0 :=
  ⟨by simp, fun v hv => by simp at hv; subst hv; omega, by simp, fun v hv => by simp at hv; subst hv; rw [Int.toNat_natCast]; exact .start, fun j hj => absurd hj (Nat.not_lt_zero _), by simp⟩
theorem OInv.push {rows : List (List Int)} {n x : Nat} {out : List Int} {i r : Nat} (h : OInv rows n x out i) (hi : i < out.length) (hr : r < rows.length) (v : Int) (hv : v = (rows.getD r []).getD (out.getD i 0).toNat 0) (h0 : 0 ≤ v) (hn : v < (n : Int)) (hno : v ∉ out) : OInv rows n x (out ++ [v]) i := by
  refine ⟨by simp [h.mem], fun u hu => ?_, ?_, fun u hu => ?_, fun j hj s hs => ?_, by have := h.le; simp; omega⟩
  · rcases List.mem_append.1 hu with hu | hu
    · exact h.rng u hu
    · simp at hu; subst hu; exact ⟨h0, hn⟩
  · rw [List.nodup_append]
    exact ⟨h.nd, by simp, fun a ha b hb e => hno (by simp at hb; subst hb; subst e; exact ha)⟩
  · rcases List.mem_append.1 hu with hu | hu
    · exact h.rch u hu
    · simp at hu
      have hm : out.getD i 0 ∈ out := by simp [hi]
      subst hu
      exact .step (h.rch _ hm) ⟨r, hr, by rw [hv]⟩
  · have e : (out ++ [v]).getD j 0 = out.getD j 0 := by
      have : j < out.length := by omega
      simp [List.getElem?_append, this]
    rw [e]
    exact List.mem_append_left _ (h.cl j hj s hs)
theorem OInv.on {rows : List (List Int)} {n x : Nat} {out : List Int} {i : Nat} (h : OInv rows n x out i) (hi : i < out.length) (hr : ∀ r, r < rows.length → (rows.getD r []).getD (out.getD i 0).toNat 0 ∈ out) : OInv rows n x out (i + 1) :=
  ⟨h.mem, h.rng, h.nd, h.rch, fun j hj r hrr => by
    by_cases e : j = i
    · subst e; exact hr r hrr
    · exact h.cl j (by omega) r hrr, by omega⟩
theorem OInv.done {rows : List (List Int)} {n x : Nat} {out : List Int} (h : OInv rows n x out out.length) (y : Nat) : (y : Int) ∈ out ↔ Rch rows x y := by
  constructor
  · intro hy
    have := h.rch _ hy
    rwa [Int.toNat_natCast] at this
  · intro hy
    induction hy with
    | start => exact h.mem
    | step _ hs ih =>
      obtain ⟨r, hr, hz⟩ := hs
      obtain ⟨j, hj, hjy⟩ := List.getElem_of_mem ih
      have e : out.getD j 0 = out[j] := by simp [hj]
      have hc := h.cl j hj r hr
      rw [e, hjy, Int.toNat_natCast] at hc
      have h0 := (h.rng _ hc).1
      rw [← hz, Int.toNat_of_nonneg h0]
      exact hc
end Go.Proofs.YtelildgngkajnaaDoor
namespace Go.Proofs.YtelildgngkajnaaDoor
open Go Go.RowKit

section
variable {ts t tz : TypeId} {B : Nat} {w w' w1 : World} {v v' : Value} {rows : List (List Int)} {vals : List Value} {ob : Nat}

/-- A list of rows that the call builds by append, in cell s of the box ob, whose other cells are cs. -/
structure One (ts t tz : TypeId) (B : Nat) (w : World) (ob s : Nat) (cs : List Value) (v : Value) (rows : List (List Int)) (vals : List Value) : Prop where
  box : Blk w ob tz (cs.set s v)
  low : ob < B
  bsz : B ≤ w.heap.size
  l : LstV ts t B w v rows vals

variable {s : Nat} {cs : List Value}
theorem One.later (h : One ts t tz B w ob s cs v rows vals) (hb : Below w.heap.size w w') : One ts t tz B w' ob s cs v rows vals :=
  ⟨h.box.later hb, h.low, Nat.le_trans h.bsz hb.size, h.l.later hb⟩
theorem One.kept {tmp : Obj} (h : One ts t tz B w ob s cs v rows vals) (hg : (w.alloc tmp).grownBy w1 v.ownBlock) : Blk w1 ob tz (cs.set s v) :=
  (hg.block ob (by have := h.box.lt; simp; omega) (fun e => by
    have := (own_type h.l.own e.symm).2.1
    have := h.low
    omega)).trans (h.box.later ((Below.refl _ _).alloc (Nat.le_refl _) _))
theorem One.push {A : Option Addr} {c : Nat} {r : List Int} {tmp : Obj} (hne : ts ≠ t) (h : One ts t tz B w ob s cs v rows vals) (hA : Obj1 t B w.heap.size w A r)
    (hdis : ∀ (i : Nat) (u : Value) (g : Nat), vals[i]? = some u → u.ownBlock = some g → ∀ a, A = some a → a.block ≠ g)
    (hown : w1.ownsRow B ts 1 v' (rows.length + 1) (vals ++ [.slice A r.length c])) (hg : (w.alloc tmp).grownBy w1 v.ownBlock) :
    One ts t tz B (w1.setCell ⟨ob, s, none⟩ v') ob s cs v' (rows ++ [r]) (vals ++ [.slice A r.length c]) := by
  refine ⟨?_, h.low, by have h1 := hg.size; have h2 := h.bsz; simp at h1; simp [World.setCell]; omega, store_low (h.l.push2 hne hA hdis hown hg) h.low _ _⟩
  have hb1 : Blk w1 ob tz (cs.set s v) := h.kept hg
  have h2 := hb1.set s v'
  rw [List.set_set] at h2
  exact h2
theorem One.start (w : World) (ts t tz : TypeId) (hb : Blk w ob tz (cs.set s (.slice none 0 0))) (hB : ob < B) (hw : B ≤ w.heap.size) : One ts t tz B w ob s cs (.slice none 0 0) [] [] :=
  ⟨hb, hB, hw, LstV.nil _ _ _ _⟩
theorem One.frame {tmp : Obj} (h : One ts t tz B w ob s cs v rows vals) (hg : (w.alloc tmp).grownBy w1 v.ownBlock) (u : Value) {k : Nat} (hk : k < B) (hne : k ≠ ob) (hkw : k < w.heap.size) : (w1.setCell ⟨ob, s, none⟩ u).heap[k]? = w.heap[k]? :=
  (Below.heap_setCell w1 ⟨ob, s, none⟩ u k hne).trans ((hg.block k (by simp; omega) (fun e => by
    have := (own_type h.l.own e.symm).2.1
    omega)).trans (((Below.refl w.heap.size w).alloc (Nat.le_refl _) tmp).block k hkw))
theorem One.below {tmp : Obj} {b0 : Nat} {w0 : World} (h : One ts t tz B w ob s cs v rows vals) (hg : (w.alloc tmp).grownBy w1 v.ownBlock) (u : Value) (hb : Below b0 w0 w) (h0 : b0 ≤ ob) : Below b0 w0 (w1.setCell ⟨ob, s, none⟩ u) :=
  ((hb.alloc (by have := h.box.lt; omega) tmp).grown hg (by have := h.box.lt; simp; omega) (fun g e => by
    have := (own_type h.l.own e).2.1
    have := h.low
    omega)).setCell (p := ⟨ob, s, none⟩) h0 u
/-- A row that a call has made behind the world w0, in which the list lay already, is appended and stored. -/
theorem One.add {w0 : World} {A : Option Addr} {c k x gg cap : Nat} {r : List Int} {tmp : Obj} {lo : Nat} (hne : ts ≠ t) (h0 : One ts t tz B w0 ob s cs v rows vals) (h : One ts t tz B w ob s cs v rows vals) (hlo : w0.heap.size ≤ lo) (hA : Obj1 t lo w.heap.size w A r) (hl : rows.length = x) (hr : r.length = k)
    (hown : w1.ownsRow B ts 1 (.slice (some ⟨gg, 0, none⟩) (x + 1) cap) (x + 1) (vals ++ [.slice A k c])) (hg : (w.alloc tmp).grownBy w1 v.ownBlock) :
    One ts t tz B (w1.setCell ⟨ob, s, none⟩ (.slice (some ⟨gg, 0, none⟩) (x + 1) cap)) ob s cs (.slice (some ⟨gg, 0, none⟩) (x + 1) cap) (rows ++ [r]) (vals ++ [.slice A k c]) := by
  have hB := h0.bsz
  subst hr
  subst hl
  refine h.push hne (hA.mono (by omega) (Nat.le_refl _)) (fun i u g hu hug a ha => ?_) hown hg
  have h1 := h0.l.low i u g hu hug
  have h2 := (hA.bounds a ha).1
  omega
end

/-- The table of a result is laid into its box. -/
theorem kend {ts t tz : TypeId} {w w3 wf : World} {r lo hi : Nat} {A : Option Addr} {n c : Nat} {f : List (List Int)} {u : Value} (hwf : wf = w3.setCell ⟨r, 0, none⟩ (.slice A n c)) (hr : Blk w3 r tz [u]) (hr0 : w.heap.size ≤ r) (hb : Below w.heap.size w w3) (ho : Obj2 ts t lo hi w3 A f) (hlo : w.heap.size ≤ lo) (hrl : r < lo) (hhi : hi ≤ w3.heap.size) :
    wf.cell? ⟨r, 0, none⟩ = some (.slice A n c) ∧ Below w.heap.size w wf ∧ Obj2 ts t w.heap.size wf.heap.size wf A f := by
  have hR : Blk wf r tz [.slice A n c] := by rw [hwf]; exact hr.set 0 _
  refine ⟨hR.cell 0 _ rfl, ?_, ?_⟩
  · rw [hwf]; exact hb.setCell (p := ⟨r, 0, none⟩) hr0 _
  · rw [hwf]; exact (ho.set (p := ⟨r, 0, none⟩) (.inl hrl) _).mono hlo (by simp [World.setCell]; exact hhi)
end Go.Proofs.YtelildgngkajnaaDoor
namespace Go.Proofs.YtelildgngkajnaaDoor
open Go Go.RowKit

section
variable {t : TypeId} {B : Nat} {w w' w1 : World} {v v' v1 v2 : Value} {n1 n2 : Nat} {xs1 xs2 : List Int}

/-- Two rows of numbers that the call builds by append. -/
structure Row2 (t : TypeId) (B : Nat) (w : World) (v1 v2 : Value) (n1 n2 : Nat) (xs1 xs2 : List Int) : Prop where
  o1 : w.ownsRow B t 1 v1 n1 (ints xs1)
  o2 : w.ownsRow B t 1 v2 n2 (ints xs2)
  ne : ∀ g, v1.ownBlock = some g → v2.ownBlock ≠ some g

theorem Row2.later (h : Row2 t B w v1 v2 n1 n2 xs1 xs2) (hb : Below w.heap.size w w') : Row2 t B w' v1 v2 n1 n2 xs1 xs2 :=
  ⟨ownsRow_below h.o1 hb, ownsRow_below h.o2 hb, h.ne⟩
theorem ints_push (xs : List Int) (a : Int) : ints (xs ++ [a]) = ints xs ++ [.int .i64 a] := by unfold ints; rw [List.map_append]; rfl

theorem Row2.add1 {a : Int} {tmp : Obj} (h : Row2 t B w v1 v2 n1 n2 xs1 xs2) (hown : w1.ownsRow B t 1 v' (n1 + 1) (ints xs1 ++ [.int .i64 a])) (hg : (w.alloc tmp).grownBy w1 v1.ownBlock) (hat : v'.ownBlock = v1.ownBlock ∨ v'.ownBlock = some (w.alloc tmp).heap.size) :
    Row2 t B w1 v' v2 (n1 + 1) n2 (xs1 ++ [a]) xs2 := by
  have hal : Below w.heap.size w (w.alloc tmp) := (Below.refl _ _).alloc (Nat.le_refl _) _
  have hv2 : v2.ownBlock = none ∨ v2.ownBlock ≠ v1.ownBlock := by
    cases e : v2.ownBlock with
    | none => exact .inl rfl
    | some g => exact .inr (fun e2 => h.ne g e2.symm e)
  refine ⟨by rw [ints_push]; exact hown, (ownsRow_below h.o2 hal).kept hg hv2, fun g hg1 e2 => ?_⟩
  rcases hat with e | e
  · exact h.ne g (e ▸ hg1) e2
  · have h3 := (own_type h.o2 e2).1
    rw [e] at hg1
    simp at hg1
    omega
theorem Row2.add2 {a : Int} {tmp : Obj} (h : Row2 t B w v1 v2 n1 n2 xs1 xs2) (hown : w1.ownsRow B t 1 v' (n2 + 1) (ints xs2 ++ [.int .i64 a])) (hg : (w.alloc tmp).grownBy w1 v2.ownBlock) (hat : v'.ownBlock = v2.ownBlock ∨ v'.ownBlock = some (w.alloc tmp).heap.size) :
    Row2 t B w1 v1 v' n1 (n2 + 1) xs1 (xs2 ++ [a]) := by
  have hal : Below w.heap.size w (w.alloc tmp) := (Below.refl _ _).alloc (Nat.le_refl _) _
  have hv1 : v1.ownBlock = none ∨ v1.ownBlock ≠ v2.ownBlock := by
    cases e : v1.ownBlock with
    | none => exact .inl rfl
    | some g => exact .inr (fun e2 => h.ne g e e2.symm)
  refine ⟨(ownsRow_below h.o1 hal).kept hg hv1, by rw [ints_push]; exact hown, fun g hg1 e2 => ?_⟩
  rcases hat with e | e
  · exact h.ne g hg1 (e ▸ e2)
  · have h3 := (own_type h.o1 hg1).1
    rw [e] at e2
    simp at e2
    omega
/-- The blocks below both rows are left. -/
theorem grown_low {tmp : Obj} {b0 : Nat} {w0 : World} (h : w.ownsRow B t 1 v n1 (ints xs1)) (hg : (w.alloc tmp).grownBy w1 v.ownBlock) (hb : Below b0 w0 w) (h0 : b0 ≤ B) (hs : b0 ≤ w.heap.size) : Below b0 w0 w1 :=
  (hb.alloc hs tmp).grown hg (by simp; omega) (fun g e => by
    have := (own_type h e).2.1
    omega)
end
end Go.Proofs.YtelildgngkajnaaDoor
namespace Go.Proofs.YtelildgngkajnaaDoor
open Go Go.RowKit

/-- The cells that are read at two elements of both tables of a pair map. -/
theorem ZArg.reads {K : Nat} {w : World} {A : Option Addr} {n : Nat} {f : List (List Int)} {B : Option Addr} {m : Nat} {s : List (List Int)} (hz : ZArg K w A n f B m s) (hp : PMap f s) {x y : Nat} (hx : x < n) (hy : y < n) :
    ∃ b o b2 o2 bx ox cx by' oy cy, A = some ⟨b, o, none⟩ ∧ B = some ⟨b2, o2, none⟩ ∧ w.cell? ⟨b, o + x, none⟩ = some (.slice (some ⟨bx, ox, none⟩) n cx) ∧ w.cell? ⟨b2, o2 + x, none⟩ = some (.slice (some ⟨by', oy, none⟩) n cy) ∧
      w.cell? ⟨bx, ox + y, none⟩ = some (.int .i64 (ap f x y : Nat)) ∧ w.cell? ⟨by', oy + y, none⟩ = some (.int .i64 (ap s x y : Nat)) ∧ b < w.heap.size ∧ b2 < w.heap.size ∧ bx < w.heap.size ∧ by' < w.heap.size := by
  obtain ⟨b, o, rfl, hb, hc⟩ := hp.1.cells hz.fst hz.sz.fl
  have hm : s.length = n := by rw [← hp.2.2]; exact hz.sz.fl
  obtain ⟨b2, o2, rfl, hb2, hc2⟩ := hp.2.1.cells hz.snd hm
  obtain ⟨bx, ox, cx, h1, h2, h3⟩ := hc x hx
  obtain ⟨by', oy, cy, h4, h5, h6⟩ := hc2 x hx
  exact ⟨b, o, b2, o2, bx, ox, cx, by', oy, cy, rfl, rfl, h1, h4, h3 y hy, h6 y hy, hb, hb2, h2, h5⟩
theorem ZArg.same {K : Nat} {w : World} {A : Option Addr} {n : Nat} {f : List (List Int)} {B : Option Addr} {m : Nat} {s : List (List Int)} (hz : ZArg K w A n f B m s) (hp : PMap f s) : m = n := by
  rw [← hz.sz.sl, ← hp.2.2]; exact hz.sz.fl
theorem ZArg.small {K : Nat} {w : World} {A : Option Addr} {n : Nat} {f : List (List Int)} {B : Option Addr} {m : Nat} {s : List (List Int)} (hz : ZArg K w A n f B m s) (hp : PMap f s) : 1 ≤ n ∧ n ≤ 12 := by
  have h1 := hp.1.1
  have h2 := hp.1.2.1
  have h3 := hz.sz.fl
  omega
theorem PMap.lt1 {f s : List (List Int)} (hp : PMap f s) {n x y : Nat} (hn : f.length = n) (hx : x < n) (hy : y < n) : ap f x y < n := hp.1.ap_lt hn hx hy
theorem PMap.lt2 {f s : List (List Int)} (hp : PMap f s) {n x y : Nat} (hn : f.length = n) (hx : x < n) (hy : y < n) : ap s x y < n := hp.2.1.ap_lt (by rw [← hp.2.2]; exact hn) hx hy
end Go.Proofs.YtelildgngkajnaaDoor
