import Derived.Test.YtelildgngkajnaaDoorZk
import Derived.Test.YtelildgngkajnaaDoorZc
import Derived.Test.YtelildgngkajnaaDoorZj
import Derived.Test.YtelildgngkajnaaDoorZg
import Derived.Test.YtelildgngkajnaaDoorZa
import Derived.Test.YtelildgngkajnaaDoorZe
namespace Go.Proofs.YtelildgngkajnaaDoor
open Go Go.RowKit
set_option maxHeartbeats 1000000
theorem Grp.tbl {f : List (List Int)} (h : Grp f) : Tbl f := h.1.1
theorem Grp.prm {f : List (List Int)} (h : Grp f) : AllPrm f := h.1.2
theorem Grp.pos {f : List (List Int)} {n : Nat} (hn : f.length = n) (h : Grp f) : 1 ≤ n ∧ n ≤ 12 := ⟨by rw [← hn]; exact h.tbl.1, by rw [← hn]; exact h.tbl.2.1⟩
theorem Grp.lt {f : List (List Int)} {n x y : Nat} (hn : f.length = n) (h : Grp f) (hx : x < n) (hy : y < n) : ap f x y < n := h.tbl.ap_lt hn hx hy
theorem Grp.assoc {f : List (List Int)} {n x y z : Nat} (hn : f.length = n) (h : Grp f) (hx : x < n) (hy : y < n) (hz : z < n) : ap f (ap f x y) z = ap f x (ap f y z) := h.2.2 x y z (by omega) (by omega) (by omega)
theorem Grp.idl {f : List (List Int)} {n x : Nat} (hn : f.length = n) (h : Grp f) (hx : x < n) : ap f 0 x = x := (h.2.1 x (by omega)).1
theorem Grp.idr {f : List (List Int)} {n x : Nat} (hn : f.length = n) (h : Grp f) (hx : x < n) : ap f x 0 = x := (h.2.1 x (by omega)).2
theorem Grp.bk_lt {f : List (List Int)} {n x : Nat} (hn : f.length = n) (h : Grp f) (hx : x < n) : bk f x < n := (bk_ok hn h.tbl h.prm hx).1
theorem Grp.bk_r {f : List (List Int)} {n x : Nat} (hn : f.length = n) (h : Grp f) (hx : x < n) : ap f x (bk f x) = 0 := by
  have h1 := h.bk_lt hn hx
  have hl : (f.getD x []).length = n := h.tbl.row_len hn hx
  unfold ap bk at *
  have h2 : (f.getD x []).idxOf 0 < (f.getD x []).length := by omega
  rw [List.getD_eq_getElem?_getD, List.getElem?_eq_getElem h2]
  simp
theorem Grp.bk_l {f : List (List Int)} {n x : Nat} (hn : f.length = n) (h : Grp f) (hx : x < n) : ap f (bk f x) x = 0 := by
  have h0 := (h.pos hn).1
  have hy := h.bk_lt hn hx
  have hz := h.bk_lt hn hy
  have e1 := h.bk_r hn hx
  have e2 := h.bk_r hn hy
  have hyx := h.lt hn hy hx
  have e3 : ap f (ap f (bk f x) x) (ap f (bk f x) (bk f (bk f x))) = 0 := by
    rw [h.assoc hn hy hx (h.lt hn hy hz), ← h.assoc hn hx hy hz, e1, h.idl hn hz, e2]
  rw [e2, h.idr hn hyx] at e3
  exact e3
theorem Grp.lcan {f : List (List Int)} {n x y z : Nat} (hn : f.length = n) (h : Grp f) (hx : x < n) (hy : y < n) (hz : z < n) (e : ap f x y = ap f x z) : y = z := by
  have hb := h.bk_lt hn hx
  have h1 := h.assoc hn hb hx hy
  have h2 := h.assoc hn hb hx hz
  rw [h.bk_l hn hx, h.idl hn hy] at h1
  rw [h.bk_l hn hx, h.idl hn hz] at h2
  rw [h1, h2, e]
theorem Grp.rcan {f : List (List Int)} {n x y z : Nat} (hn : f.length = n) (h : Grp f) (hx : x < n) (hy : y < n) (hz : z < n) (e : ap f y x = ap f z x) : y = z := by
  have hb := h.bk_lt hn hx
  have h1 := h.assoc hn hy hx hb
  have h2 := h.assoc hn hz hx hb
  rw [h.bk_r hn hx, h.idr hn hy] at h1
  rw [h.bk_r hn hx, h.idr hn hz] at h2
  rw [← h1, ← h2, e]
/-- x y times the inverse of x. -/
def cj (f : List (List Int)) (x y : Nat) : Nat := ap f (ap f x y) (bk f x)
theorem Grp.cj_lt {f : List (List Int)} {n x y : Nat} (hn : f.length = n) (h : Grp f) (hx : x < n) (hy : y < n) : cj f x y < n := h.lt hn (h.lt hn hx hy) (h.bk_lt hn hx)
theorem Grp.cj_eq {f : List (List Int)} {n x y : Nat} (hn : f.length = n) (h : Grp f) (hx : x < n) (hy : y < n) : cj f x y = y ↔ ap f x y = ap f y x := by
  have hb := h.bk_lt hn hx
  unfold cj
  constructor
  · intro e
    have h1 := h.assoc hn (h.lt hn hx hy) hb hx
    rw [h.bk_l hn hx, h.idr hn (h.lt hn hx hy), e] at h1
    exact h1.symm
  · intro e
    rw [e, h.assoc hn hy hx hb, h.bk_r hn hx, h.idr hn hy]
theorem Grp.cj_zero {f : List (List Int)} {n y : Nat} (hn : f.length = n) (h : Grp f) (hy : y < n) : cj f 0 y = y := by
  have h0 := (h.pos hn).1
  rw [h.cj_eq hn (by omega) hy, h.idl hn hy, h.idr hn hy]
/-- The set of all numbers below k with a property. -/
def setN (p : Nat → Bool) : Nat → Nat
  | 0 => 0
  | k + 1 => if p k = true then setN p k ||| 2 ^ k else setN p k
theorem inb_setN (p : Nat → Bool) (k x : Nat) : inb (setN p k) x ↔ x < k ∧ p x = true := by
  induction k with
  | zero => simp [setN, inb_zero]
  | succ k ih =>
    unfold setN
    by_cases h : p k = true
    · rw [if_pos h, inb_or, ih]
      constructor
      · rintro (⟨a, b⟩ | rfl)
        · exact ⟨by omega, b⟩
        · exact ⟨by omega, h⟩
      · rintro ⟨a, b⟩
        by_cases e : x = k
        · exact .inr e
        · exact .inl ⟨by omega, b⟩
    · rw [if_neg h, ih]
      constructor
      · rintro ⟨a, b⟩
        exact ⟨by omega, b⟩
      · rintro ⟨a, b⟩
        refine ⟨?_, b⟩
        by_cases e : x = k
        · subst e; exact absurd b h
        · omega
theorem setN_lt (p : Nat → Bool) (k : Nat) : setN p k < 2 ^ k := set_lt fun x h => ((inb_setN p k x).1 h).1
theorem inb_one (x t : Nat) : inb (2 ^ x) t ↔ t = x := by
  have := inb_or 0 x t
  rw [Nat.zero_or] at this
  rw [this]
  simp [inb_zero]
theorem inb_whole (n t : Nat) : inb (2 ^ n - 1) t ↔ t < n := by unfold inb; rw [Nat.testBit_two_pow_sub_one]; simp
/-- V has the conjugates of y by the elements below k. -/
def CjV (f : List (List Int)) (y k V : Nat) : Prop := ∀ t, inb V t ↔ ∃ x, x < k ∧ cj f x y = t
theorem CjV.start (f : List (List Int)) (y : Nat) : CjV f y 0 0 := fun t => ⟨fun h => absurd h (inb_zero t), fun ⟨_, h, _⟩ => absurd h (Nat.not_lt_zero _)⟩
theorem CjV.step {f : List (List Int)} {y k V v : Nat} (h : CjV f y k V) (hv : cj f k y = v) : CjV f y (k + 1) (V ||| 2 ^ v) := by
  intro t
  rw [inb_or, h t]
  constructor
  · rintro (⟨x, a, b⟩ | rfl)
    · exact ⟨x, by omega, b⟩
    · exact ⟨k, by omega, hv⟩
  · rintro ⟨x, a, b⟩
    by_cases e : x = k
    · subst e
      exact .inr (b.symm.trans hv)
    · exact .inl ⟨x, by omega, b⟩
/-- Whether x commutes with all elements. -/
def ctB (f : List (List Int)) (x : Nat) : Bool := decide (∀ y, y < f.length → ap f x y = ap f y x)
theorem ctB_iff (f : List (List Int)) (x : Nat) : ctB f x = true ↔ ∀ y, y < f.length → ap f x y = ap f y x := by simp [ctB]
def ctN (f : List (List Int)) (k : Nat) : Nat := setN (ctB f) k
theorem CjV.center {f : List (List Int)} {n x V : Nat} (hn : f.length = n) (h : Grp f) (hx : x < n) (hv : CjV f x n V) : V = 2 ^ x ↔ ctB f x = true := by
  have h0 := (h.pos hn).1
  rw [ctB_iff, hn]
  constructor
  · intro e y hy
    have h1 : inb V (cj f y x) := (hv _).2 ⟨y, hy, rfl⟩
    rw [e, inb_one, h.cj_eq hn hy hx] at h1
    exact h1.symm
  · intro e
    apply inb_eq
    intro t
    rw [inb_one, hv t]
    constructor
    · rintro ⟨y, hy, rfl⟩
      rw [h.cj_eq hn hy hx]
      exact (e y hy).symm
    · rintro rfl
      exact ⟨0, by omega, h.cj_zero hn hx⟩
/-- The set of the conjugates of y. -/
def cjN (f : List (List Int)) (y : Nat) : Nat := setN (fun t => decide (∃ x, x < f.length ∧ cj f x y = t)) f.length
theorem cjN_in {f : List (List Int)} {n y : Nat} (hn : f.length = n) (hg : Grp f) (hy : y < n) : CjV f y n (cjN f y) := by
  intro t
  unfold cjN
  rw [inb_setN, hn]
  simp only [decide_eq_true_eq]
  constructor
  · exact fun h => h.2
  · rintro ⟨x, hx, rfl⟩
    exact ⟨hg.cj_lt hn hx hy, x, hx, rfl⟩
theorem CjV.uniq {f : List (List Int)} {n y V : Nat} (h : CjV f y n V) (hn : f.length = n) (hg : Grp f) (hy : y < n) : V = cjN f y := inb_eq fun t => by rw [h t, cjN_in hn hg hy t]
theorem cjN_center {f : List (List Int)} {n x : Nat} (hn : f.length = n) (h : Grp f) (hx : x < n) : cjN f x = 2 ^ x ↔ ctB f x = true := CjV.center hn h hx (cjN_in hn h hx)
theorem cjN_lt (f : List (List Int)) (y : Nat) : cjN f y < 2 ^ f.length := setN_lt _ _
/-- The rows of conjugates. -/
def cjL (f : List (List Int)) (n : Nat) : List (List Int) := grid n (fun x y => (cj f x y : Int))
/-- All elements commute. -/
def Abl (f : List (List Int)) : Prop := ∀ x y, x < f.length → y < f.length → ap f x y = ap f y x
theorem ctN_whole (f : List (List Int)) : ctN f f.length = 2 ^ f.length - 1 ↔ Abl f := by
  constructor
  · intro e x y hx hy
    have h1 : inb (ctN f f.length) x := by rw [e, inb_whole]; exact hx
    exact (ctB_iff f x).1 ((inb_setN _ _ _).1 h1).2 y hy
  · intro h
    apply inb_eq
    intro t
    rw [inb_whole]
    unfold ctN
    rw [inb_setN]
    exact ⟨fun h => h.1, fun ht => ⟨ht, (ctB_iff f t).2 fun y hy => h t y ht hy⟩⟩
/-- The order of an element. -/
theorem Grp.ord_ex {f : List (List Int)} {n x : Nat} (hn : f.length = n) (h : Grp f) (hx : x < n) : ∃ L, L ≤ n ∧ IsLen (fun y => ap f y x) 0 L := by
  have h0 := (h.pos hn).1
  exact isLen_ex (fun y hy => h.lt hn hy hx) (fun y z hy hz e => h.rcan hn hx hy hz e) 0 (by omega)
noncomputable def ordF (f : List (List Int)) (x : Nat) : Nat := Classical.epsilon fun L => L ≤ f.length ∧ IsLen (fun y => ap f y x) 0 L
theorem Grp.ord {f : List (List Int)} {n x : Nat} (hn : f.length = n) (h : Grp f) (hx : x < n) : ordF f x ≤ n ∧ IsLen (fun y => ap f y x) 0 (ordF f x) := by
  subst hn
  exact Classical.epsilon_spec (p := fun L => L ≤ f.length ∧ IsLen (fun y => ap f y x) 0 L) (h.ord_ex rfl hx)
/-- The power k + 1, as the loops make it. -/
def pwF (f : List (List Int)) (x k : Nat) : Nat := itf (fun y => ap f y x) (k + 1) 0
theorem Grp.pw_zero {f : List (List Int)} {n x : Nat} (hn : f.length = n) (h : Grp f) (hx : x < n) : pwF f x 0 = x := h.idl hn hx
theorem pw_succ (f : List (List Int)) (x k : Nat) : pwF f x (k + 1) = ap f (pwF f x k) x := rfl
theorem Grp.pw_lt {f : List (List Int)} {n x : Nat} (hn : f.length = n) (h : Grp f) (hx : x < n) (k : Nat) : pwF f x k < n := itf_lt (fun _ hy => h.lt hn hy hx) _ _ (by have := h.pos hn; omega)
theorem Grp.pw_end {f : List (List Int)} {n x : Nat} (hn : f.length = n) (h : Grp f) (hx : x < n) {k : Nat} (hk : k < ordF f x) : pwF f x k = 0 ↔ k + 1 = ordF f x := by
  have ho := (h.ord hn hx).2
  constructor
  · intro e
    by_cases hk2 : k + 1 < ordF f x
    · exact absurd e (ho.2.2 (k + 1) (by omega) hk2)
    · omega
  · intro e
    unfold pwF
    rw [e]
    exact ho.2.1
/-- The answers of functions of a group. -/
def ElC (f : List (List Int)) (x : Int) (code : Int) : Prop := (Grp f ∧ 0 ≤ x ∧ x < (f.length : Int) ∧ code = 0) ∨ (¬ Grp f ∧ code = 1) ∨ (Grp f ∧ ¬ (0 ≤ x ∧ x < (f.length : Int)) ∧ code = 2)
def ElRes (V : Nat → Nat) (f : List (List Int)) (x : Int) (v code : Int) : Prop := (Grp f ∧ (∃ u : Nat, u < f.length ∧ x = u ∧ v = (V u : Int)) ∧ code = 0) ∨ (code ≠ 0 ∧ v = 0 ∧ ElC f x code)
theorem ElRes.ex (V : Nat → Nat) (f : List (List Int)) (x : Int) : ∃ v code, ElRes V f x v code := by
  by_cases h : Grp f
  · by_cases h1 : 0 ≤ x ∧ x < (f.length : Int)
    · exact ⟨_, _, .inl ⟨h, ⟨x.toNat, by omega, by omega, rfl⟩, rfl⟩⟩
    · exact ⟨0, 2, .inr ⟨by decide, rfl, .inr (.inr ⟨h, h1, rfl⟩)⟩⟩
  · exact ⟨0, 1, .inr ⟨by decide, rfl, .inr (.inl ⟨h, rfl⟩)⟩⟩
def InvRes (f : List (List Int)) : Int → Int → Int → Prop := ElRes (bk f) f
def OrdRes (f : List (List Int)) : Int → Int → Int → Prop := ElRes (ordF f) f
theorem InvRes.ex (f : List (List Int)) (x : Int) : ∃ v code, InvRes f x v code := ElRes.ex _ _ _
theorem OrdRes.ex (f : List (List Int)) (x : Int) : ∃ v code, OrdRes f x v code := ElRes.ex _ _ _
def GrRes (f : List (List Int)) (r : Bool) : Prop := r = true ↔ Grp f
theorem GrRes.ex (f : List (List Int)) : ∃ r, GrRes f r := bool_of _
/-- A number, or that it is no group. -/
def GvRes (f : List (List Int)) (V : Nat) (v code : Int) : Prop := (Grp f ∧ v = V ∧ code = 0) ∨ (¬ Grp f ∧ v = 0 ∧ code = 1)
def GbRes (f : List (List Int)) (P : Prop) (r : Bool) (code : Int) : Prop := (Grp f ∧ (r = true ↔ P) ∧ code = 0) ∨ (¬ Grp f ∧ r = false ∧ code = 1)
def CtRes (f : List (List Int)) : Int → Int → Prop := GvRes f (ctN f f.length)
def AbRes (f : List (List Int)) : Bool → Int → Prop := GbRes f (Abl f)
theorem CtRes.ex (f : List (List Int)) : ∃ v code, CtRes f v code := by
  by_cases h : Grp f
  · exact ⟨_, _, .inl ⟨h, rfl, rfl⟩⟩
  · exact ⟨_, _, .inr ⟨h, rfl, rfl⟩⟩
theorem AbRes.ex (f : List (List Int)) : ∃ r code, AbRes f r code := by
  by_cases h : Grp f
  · obtain ⟨r, hr⟩ := bool_of (Abl f)
    exact ⟨r, 0, .inl ⟨h, hr, rfl⟩⟩
  · exact ⟨_, _, .inr ⟨h, rfl, rfl⟩⟩
end Go.Proofs.YtelildgngkajnaaDoor
namespace Go.Proofs.YtelildgngkajnaaDoor
open Go Go.RowKit
/-- Element number a of a set. -/
def mel (S a : Nat) : Nat := (mems 12 S).getD a 0
theorem mel_in {S a : Nat} (h : a < (mems 12 S).length) : inb S (mel S a) := by
  have : mel S a ∈ mems 12 S := by
    unfold mel
    rw [List.getD_eq_getElem?_getD, List.getElem?_eq_getElem h]
    exact List.getElem_mem h
  exact ((mems_mem _ _ _).1 this).2
theorem mel_of {S x : Nat} (hS : S < 4096) (h : inb S x) : ∃ a, a < (mems 12 S).length ∧ mel S a = x := by
  have hm : x ∈ mems 12 S := (mems_mem _ _ _).2 ⟨inb_lt (k := 12) (by simpa using hS) h, h⟩
  obtain ⟨a, ha, e⟩ := List.getElem_of_mem hm
  exact ⟨a, ha, by unfold mel; rw [List.getD_eq_getElem?_getD, List.getElem?_eq_getElem ha]; exact e⟩
theorem mel_getD {S a : Nat} (h : a < (mems 12 S).length) : (memL 12 S).getD a 0 = (mel S a : Int) := memL_getD _ _ _ h
/-- The set behind the pairs before (i, j). -/
def GrQ (f : List (List Int)) (S i j V : Nat) : Prop := ∀ t, inb V t ↔ inb S t ∨ ∃ a b, (a < i ∨ (a = i ∧ b < j)) ∧ a < (mems 12 S).length ∧ b < (mems 12 S).length ∧ ap f (mel S a) (mel S b) = t
theorem GrQ.start (f : List (List Int)) (S : Nat) : GrQ f S 0 0 S := fun t => ⟨.inl, fun h => by
  rcases h with h | ⟨a, b, h, _⟩
  · exact h
  · omega⟩
theorem GrQ.step {f : List (List Int)} {S i j V v : Nat} (h : GrQ f S i j V) (hi : i < (mems 12 S).length) (hj : j < (mems 12 S).length) (hv : ap f (mel S i) (mel S j) = v) : GrQ f S i (j + 1) (V ||| 2 ^ v) := by
  intro t
  rw [inb_or, h t]
  constructor
  · rintro ((h1 | ⟨a, b, h1, h2, h3, h4⟩) | rfl)
    · exact .inl h1
    · exact .inr ⟨a, b, by omega, h2, h3, h4⟩
    · exact .inr ⟨i, j, by omega, hi, hj, hv⟩
  · rintro (h1 | ⟨a, b, h1, h2, h3, h4⟩)
    · exact .inl (.inl h1)
    · by_cases e : a = i ∧ b = j
      · obtain ⟨rfl, rfl⟩ := e
        exact .inr (h4.symm.trans hv)
      · exact .inl (.inr ⟨a, b, by omega, h2, h3, h4⟩)
theorem GrQ.next {f : List (List Int)} {S i V : Nat} (h : GrQ f S i (mems 12 S).length V) : GrQ f S (i + 1) 0 V := by
  intro t
  rw [h t]
  constructor
  · rintro (h1 | ⟨a, b, h1, h2, h3, h4⟩)
    · exact .inl h1
    · exact .inr ⟨a, b, by omega, h2, h3, h4⟩
  · rintro (h1 | ⟨a, b, h1, h2, h3, h4⟩)
    · exact .inl h1
    · exact .inr ⟨a, b, by omega, h2, h3, h4⟩
theorem GrQ.done {f : List (List Int)} {S V : Nat} (hS : S < 4096) (h : GrQ f S (mems 12 S).length 0 V) : GrF f S V := by
  intro t
  rw [h t]
  constructor
  · rintro (h1 | ⟨a, b, h1, h2, h3, h4⟩)
    · exact .inl h1
    · exact .inr ⟨_, _, mel_in h2, mel_in h3, h4⟩
  · rintro (h1 | ⟨x, y, hx, hy, h4⟩)
    · exact .inl h1
    · obtain ⟨a, ha, rfl⟩ := mel_of hS hx
      obtain ⟨b, hb, rfl⟩ := mel_of hS hy
      exact .inr ⟨a, b, .inl ha, ha, hb, h4⟩
/-- A subrack, as a set. -/
def SubF (f : List (List Int)) (S : Nat) : Prop := S ≠ 0 ∧ ClosedF f S
theorem pow_le (n : Nat) (h : n ≤ 12) : 2 ^ n ≤ 4096 := Nat.pow_le_pow_right (n := 2) (by decide) h
end Go.Proofs.YtelildgngkajnaaDoor
namespace Go.Proofs.YtelildgngkajnaaDoor
open Go Go.RowKit
set_option maxHeartbeats 1000000
/-- The least element of a set. -/
def lstN (S : Nat) : Nat := (mems 12 S).headD 0
theorem lst_all : ((List.range 4096).all fun S => S == 0 || ((S &&& (18446744073709551616 - S)) == 2 ^ lstN S && S.testBit (lstN S) && decide (lstN S < 12) && (List.range (lstN S)).all fun x => !S.testBit x)) = true := by decide +kernel
theorem lst_of {S : Nat} (h : S < 4096) (h0 : S ≠ 0) : (S &&& (18446744073709551616 - S)) = 2 ^ lstN S ∧ inb S (lstN S) ∧ lstN S < 12 ∧ ∀ x, x < lstN S → ¬ inb S x := by
  have h1 := List.all_eq_true.1 lst_all S (List.mem_range.2 h)
  simp only [Bool.or_eq_true, Bool.and_eq_true, beq_iff_eq, decide_eq_true_eq, List.all_eq_true, List.mem_range] at h1
  rcases h1 with h1 | ⟨⟨⟨a, b⟩, c⟩, d⟩
  · exact absurd h1 h0
  · exact ⟨a, b, c, fun x hx hi => by
      have := d x hx
      unfold inb at hi
      rw [hi] at this
      simp at this⟩
/-- What the library's table holds. -/
def dbL : List Int := [0, 1, 56, 2, 57, 49, 28, 3, 61, 58, 42, 50, 38, 29, 17, 4, 62, 47, 59, 36, 45, 43, 51, 22, 53, 39, 33, 30, 24, 18, 12, 5, 63, 55, 48, 27, 60, 41, 37, 16, 46, 35, 44, 21, 52, 32, 23, 11, 54, 26, 40, 15, 34, 20, 31, 10, 25, 14, 19, 9, 13, 8, 7, 6]
theorem db_all : ((List.range 12).all fun k => decide ((2 ^ k * 285870213051353865) % 18446744073709551616 / 288230376151711744 < 64) && dbL.getD ((2 ^ k * 285870213051353865) % 18446744073709551616 / 288230376151711744) 0 == (k : Int)) = true := by decide +kernel
theorem db_of {k : Nat} (h : k < 12) : (2 ^ k * 285870213051353865) % 18446744073709551616 / 288230376151711744 < 64 ∧ dbL.getD ((2 ^ k * 285870213051353865) % 18446744073709551616 / 288230376151711744) 0 = (k : Int) := by
  have h1 := List.all_eq_true.1 db_all k (List.mem_range.2 h)
  simpa using h1
/-- The library's table lies where the program's variables do. -/
def DbT (w : World) : Prop := 0 < w.heap.size ∧ ∀ r, r < 64 → w.cell? ⟨0, r, none⟩ = some (.int .u8 (dbL.getD r 0))
theorem DbT.later {w w' : World} (h : DbT w) (hb : Below w.heap.size w w') : DbT w' := ⟨Nat.lt_of_lt_of_le h.1 hb.size, fun r hr => (hb.cell (p := ⟨0, r, none⟩) h.1).trans (h.2 r hr)⟩
end Go.Proofs.YtelildgngkajnaaDoor
namespace Go.Proofs.YtelildgngkajnaaDoor
open Go Go.RowKit
open Classical
/-- Each class of a numbering has its number at the list of the classes' first elements. -/
theorem firstsL_mem {L : List Int} {v : Int} (k : Nat) : v ∈ firstsL L k ↔ ∃ j, j < k ∧ lb L j = v := by
  induction k with
  | zero => simp [firstsL]
  | succ k ih =>
    unfold firstsL
    by_cases h : lb L k ∈ firstsL L k
    · rw [if_pos h, ih]
      constructor
      · rintro ⟨j, h1, h2⟩; exact ⟨j, by omega, h2⟩
      · rintro ⟨j, h1, h2⟩
        by_cases e : j = k
        · subst e
          rw [h2] at h
          exact ih.1 h
        · exact ⟨j, by omega, h2⟩
    · rw [if_neg h, List.mem_append, ih]
      constructor
      · rintro (⟨j, h1, h2⟩ | h2)
        · exact ⟨j, by omega, h2⟩
        · exact ⟨k, by omega, (List.mem_singleton.1 h2).symm⟩
      · rintro ⟨j, h1, h2⟩
        by_cases e : j = k
        · subst e; right; simp only [h2, List.mem_singleton]
        · left; exact ⟨j, by omega, h2⟩
theorem firstsL_nodup (L : List Int) (k : Nat) : (firstsL L k).Nodup := by
  induction k with
  | zero => simp [firstsL]
  | succ k ih =>
    unfold firstsL
    by_cases h : lb L k ∈ firstsL L k
    · rw [if_pos h]; exact ih
    · rw [if_neg h, List.nodup_append]
      refine ⟨ih, by simp, fun a ha b hb e => h ?_⟩
      have : b = lb L k := by simpa using hb
      rw [← this, ← e]; exact ha
theorem firstsL_grow (L : List Int) {j k : Nat} (h : j ≤ k) : ∃ t, firstsL L k = firstsL L j ++ t := by
  induction k with
  | zero => obtain rfl : j = 0 := by omega
            exact ⟨[], by simp⟩
  | succ k ih =>
    by_cases e : j = k + 1
    · subst e; exact ⟨[], by simp⟩
    · obtain ⟨t, ht⟩ := ih (by omega)
      have e2 : firstsL L (k + 1) = if lb L k ∈ firstsL L k then firstsL L k else firstsL L k ++ [lb L k] := rfl
      rw [e2]
      by_cases h1 : lb L k ∈ firstsL L k
      · rw [if_pos h1]; exact ⟨t, ht⟩
      · rw [if_neg h1]; exact ⟨t ++ [lb L k], by rw [ht, List.append_assoc]⟩
/-- The number of a class: a place in the list of the classes' first elements. -/
theorem numL_ix (L : List Int) {x : Nat} (h : x < L.length) : (numL L).getD x 0 = (((firstsL L L.length).idxOf (lb L x) : Nat) : Int) := by
  have e : (numL L).getD x 0 = ixOf (firstsL L (x + 1)) (lb L x) := by simp [numL, numTo, h]
  have hm : lb L x ∈ firstsL L (x + 1) := (firstsL_mem (x + 1)).2 ⟨x, by omega, rfl⟩
  obtain ⟨t, ht⟩ := firstsL_grow L (show x + 1 ≤ L.length by omega)
  rw [e, ht, List.idxOf_append, if_pos hm]
  unfold ixOf
  rw [if_pos hm]
/-- How many classes there are. -/
noncomputable def clsN (L : List Int) : Nat := (firstsL L L.length).length
theorem numL_lt (L : List Int) {x : Nat} (h : x < L.length) : 0 ≤ (numL L).getD x 0 ∧ (numL L).getD x 0 < (clsN L : Int) := by
  rw [numL_ix L h]
  have hm : lb L x ∈ firstsL L L.length := (firstsL_mem _).2 ⟨x, h, rfl⟩
  have := List.idxOf_lt_length_of_mem hm
  unfold clsN
  omega
theorem numL_onto (L : List Int) {c : Nat} (h : c < clsN L) : ∃ x, x < L.length ∧ (numL L).getD x 0 = (c : Int) := by
  unfold clsN at h
  obtain ⟨x, hx, e⟩ := (firstsL_mem (L := L) L.length).1 (List.getElem_mem h)
  refine ⟨x, hx, ?_⟩
  rw [numL_ix L hx, e, (firstsL_nodup L L.length).idxOf_getElem]
theorem numL_eq (L : List Int) {x y : Nat} (hx : x < L.length) (hy : y < L.length) : (numL L).getD x 0 = (numL L).getD y 0 ↔ lb L x = lb L y := by
  have h1 : lb L x ∈ firstsL L L.length := (firstsL_mem _).2 ⟨x, hx, rfl⟩
  have h2 : lb L y ∈ firstsL L L.length := (firstsL_mem _).2 ⟨y, hy, rfl⟩
  rw [numL_ix L hx, numL_ix L hy]
  constructor
  · intro e
    have e2 : (firstsL L L.length).idxOf (lb L x) = (firstsL L L.length).idxOf (lb L y) := by omega
    have g1 := List.getElem_idxOf (List.idxOf_lt_length_of_mem h1)
    have g2 := List.getElem_idxOf (List.idxOf_lt_length_of_mem h2)
    rw [← g1, ← g2]
    simp only [e2]
  · intro e; rw [e]
theorem clsN_le (L : List Int) : clsN L ≤ L.length := by
  have key : ∀ k, (firstsL L k).length ≤ k := by
    intro k
    induction k with
    | zero => simp [firstsL]
    | succ k ih =>
      unfold firstsL
      split
      · omega
      · simp; omega
  exact key _
theorem clsN_pos (L : List Int) (h : 1 ≤ L.length) : 1 ≤ clsN L := by
  have := numL_lt L (x := 0) (by omega)
  omega
end Go.Proofs.YtelildgngkajnaaDoor
namespace Go.Proofs.YtelildgngkajnaaDoor
open Go Go.RowKit
open Classical
def CnF (f : List (List Int)) : Prop := ∀ y, y < f.length → (labL f f.length f.length).getD y 0 = 0
def CnRes (f : List (List Int)) : Bool → Int → Prop := BRes (Rck f) (CnF f)
theorem CnRes.ex (f : List (List Int)) : ∃ r code, CnRes f r code := BRes.ex _ _
theorem lab_set (rows : List (List Int)) (k : Nat) : ∀ y, y < k → 0 ≤ (lab rows k).1 y := by
  induction k with
  | zero => intro y hy; omega
  | succ k ih =>
    intro y hy
    unfold lab
    by_cases h : 0 ≤ (lab rows k).1 k
    · rw [if_pos h]
      by_cases e : y = k
      · rw [e]; exact h
      · exact ih y (by omega)
    · rw [if_neg h]
      show 0 ≤ (if Rch rows k y then ((lab rows k).2 : Int) else (lab rows k).1 y)
      by_cases hr : Rch rows k y
      · rw [if_pos hr]; omega
      · rw [if_neg hr]
        by_cases e : y = k
        · subst e; exact absurd .start hr
        · exact ih y (by omega)
/-- The greatest number of a list. -/
def IsMax (xs : List Int) (m : Int) : Prop := (∃ i, i < xs.length ∧ xs.getD i 0 = m) ∧ ∀ i, i < xs.length → xs.getD i 0 ≤ m
theorem IsMax.ex (xs : List Int) (h : 1 ≤ xs.length) : ∃ m, IsMax xs m := by
  have key : ∀ k, 1 ≤ k → k ≤ xs.length → ∃ m, (∃ i, i < k ∧ xs.getD i 0 = m) ∧ ∀ i, i < k → xs.getD i 0 ≤ m := by
    intro k h1
    induction k with
    | zero => omega
    | succ k ih =>
      intro hk
      by_cases e : k = 0
      · subst e
        exact ⟨_, ⟨0, by omega, rfl⟩, fun i hi => by
          have e : i = 0 := by omega
          subst e
          exact Int.le_refl _⟩
      · obtain ⟨m, ⟨i, hi, hm⟩, hall⟩ := ih (by omega) (by omega)
        by_cases h2 : xs.getD k 0 ≤ m
        · exact ⟨m, ⟨i, by omega, hm⟩, fun j hj => by
            by_cases e : j = k
            · subst e; exact h2
            · exact hall j (by omega)⟩
        · exact ⟨xs.getD k 0, ⟨k, by omega, rfl⟩, fun j hj => by
            by_cases e : j = k
            · subst e; exact Int.le_refl _
            · have := hall j (by omega); omega⟩
  obtain ⟨m, ⟨i, hi, hm⟩, hall⟩ := key xs.length h (Nat.le_refl _)
  exact ⟨m, ⟨i, hi, hm⟩, hall⟩
theorem max_zero {f : List (List Int)} {m : Int} (h : IsMax (labL f f.length f.length) m) : m = 0 ↔ CnF f := by
  obtain ⟨⟨i, hi, hm⟩, hall⟩ := h
  rw [labL_length] at hi hall
  constructor
  · intro e y hy
    have h1 := hall y hy
    have h2 := lab_set f f.length y hy
    rw [← labL_at f f.length f.length y hy] at h2
    omega
  · intro hc
    rw [← hm, hc i hi]
end Go.Proofs.YtelildgngkajnaaDoor
namespace Go.Proofs.YtelildgngkajnaaDoor
open Go Go.RowKit
set_option maxHeartbeats 1000000

theorem gsize_any (A : Option Addr) (n c : Nat) (w : World) (_hn : n ≤ 1048576) :
    Calls Tryd.prog 34 #[.agg #[.slice A n c]] w fun e w' => e = .returned (.int .i64 n) ∧ Below w.heap.size w w' := by
  have HB0 := hide ((Below.refl _ w).alloc (Nat.le_refl _) (Obj.cells #[Value.slice A n c] 26))
  go_enter Tryd.func34, Tryd.ntmps34
  go_wp2_with fail
  go_ret
  exact ⟨rfl, HB0.out⟩

theorem gprod_any (A : Option Addr) (n c : Nat) (f : List (List Int)) (x y u : Nat) (w : World) (hn : f.length = n) (ht : Tbl f) (hr : Rd2 w A f) (hx : x < n) (hy : y < n) (hu : ap f x y = u) :
    Calls Tryd.prog 38 #[.agg #[.slice A n c], .int .i64 x, .int .i64 y] w fun e w' => e = .returned (.int .i64 u) ∧ Below w.heap.size w w' := by
  have h12 : n ≤ 12 := by rw [← hn]; exact ht.2.1
  obtain ⟨b, o, rfl, hb, hc⟩ := ht.cells hr hn
  obtain ⟨bx, ox, cx, h1, h2, h3⟩ := hc x hx
  have h4 := h3 y hy
  rw [hu] at h4
  have hbb := ((Below.refl _ w).alloc (Nat.le_refl _) (Obj.cells #[Value.slice (some ⟨b, o, none⟩) n c] 26))
  have HB0 := hide hbb
  have a4 := (hbb.cell (p := ⟨b, o + x, none⟩) hb).trans h1
  have a6 := (hbb.cell (p := ⟨bx, ox + y, none⟩) h2).trans h4
  have hxz : (x : Int) < n := by omega
  have hyz : (y : Int) < n := by omega
  have hxz0 : (0 : Int) ≤ x := by omega
  have hyz0 : (0 : Int) ≤ y := by omega
  clear hbb h1 h3 h4 hc hu hr ht hn
  go_enter Tryd.func38, Tryd.ntmps38
  go_wp2_with fail
  go_ret
  exact ⟨rfl, HB0.out⟩

set_option maxRecDepth 100000 in
/-- The product, over a block that is just the other factors. -/
theorem times_any (A : Option Addr) (n c : Nat) (f : List (List Int)) (x g k : Nat) (ys : List Nat) (w : World) (hn : f.length = n) (ht : Tbl f) (hr : Rd2 w A f) (hx : x < n) (hk : ys.length = k) (hys : ∀ y ∈ ys, y < n) (hb : Blk w g 2 (ints (natL ys))) (hk4 : k ≤ 4) :
    Calls Tryd.prog 64 #[.agg #[.slice A n c], .int .i64 x, .slice (some ⟨g, 0, none⟩) k k] w fun e w' => e = .returned (.int .i64 (tm f x ys)) ∧ Below w.heap.size w w' := by
  have h1 : 1 ≤ n := by rw [← hn]; exact ht.1
  have h12 : n ≤ 12 := by rw [← hn]; exact ht.2.1
  have HN := hide hn
  have HTB := hide ht
  have HR := hide hr
  have HK := hide hk
  have hgl := hb.lt
  have HB0 := hide ((Below.refl _ w).alloc (Nat.le_refl _) (Obj.cells #[Value.slice A n c] 26))
  have HK0 := hide (Blk.new w 26 [.slice A n c])
  have HG : Hid (∀ i, i < k → w.cell? ⟨g, i, none⟩ = some (.int .i64 (ys.getD i 0 : Nat)) ∧ ys.getD i 0 < n) := hide (fun i hi => by
    have hi2 : i < ys.length := by omega
    refine ⟨hb.cell i _ ?_, hys _ ?_⟩
    · simp [ints, natL, hi2]
    · simp [hi2])
  clear hn ht hr hk hys hb
  go_enter Tryd.func64, Tryd.ntmps64
  go_wp2_with fail
  go_loopw [1, 11] (fun s i wr => ∃ j : Nat, j ≤ k ∧ i = .int .i64 j ∧ s = .int .i64 (tm f x (ys.take j)) ∧ tm f x (ys.take j) < n ∧ Below w.heap.size w wr ∧ Blk wr w.heap.size 26 [.slice A n c]) (fun _ i _ => k - (intOf i).toNat)
  case atStart => exact ⟨0, Nat.zero_le _, rfl, rfl, hx, HB0.out, HK0.out⟩
  case round =>
    obtain ⟨j, hj, rfl, rfl, hvn, hbe, hkk⟩ := hrel
    have HB := hide hbe
    have HKK := hide hkk
    clear hbe hkk
    by_cases hlt : j < k
    · have hjz : (j : Int) < k := by omega
      have hst := tm_take f x ys j (by have := HK.out; omega)
      have hg := HG.out j hlt
      have c0 := (HB.out.cell (p := ⟨g, j, none⟩) hgl).trans hg.1
      have hyn := hg.2
      obtain ⟨v, hv⟩ : ∃ v, tm f x (ys.take j) = v := ⟨_, rfl⟩
      obtain ⟨y, hy⟩ : ∃ y, ys.getD j 0 = y := ⟨_, rfl⟩
      rw [hy] at c0 hyn hst
      rw [hv] at hvn hst ⊢
      have hu := HTB.out.ap_lt HN.out hvn hyn
      obtain ⟨u, hue⟩ : ∃ u, ap f v y = u := ⟨_, rfl⟩
      rw [hue] at hst hu
      have HST := hide hst
      have HUE := hide hue
      have k0 := HKK.out.cell 0 _ rfl
      clear hg hue hst hy hv
      go_wp2_with fail
      clear k0 c0
      refine (gprod_any _ n _ f v y u _ HN.out HTB.out (HR.out.later HB.out) hvn hyn HUE.out).mono ?_
      rintro e w5 ⟨rfl, hb5⟩
      have HB5 := hide (HB.out.trans (hb5.mono HB.out.size))
      have HK5 := hide (HKK.out.later hb5)
      clear hb5
      go_wp2_with fail
      go_roundw
      case rel => exact ⟨j + 1, by omega, by go_num, by rw [HST.out], by rw [HST.out]; exact hu, HB5.out, HK5.out⟩
      case measure => simp [intOf]; omega
    · have hjk : j = k := by omega
      subst hjk
      have hts : ys.take j = ys := List.take_of_length_le (by rw [HK.out]; exact Nat.le_refl _)
      rw [hts]
      obtain ⟨v, hv⟩ : ∃ v, tm f x ys = v := ⟨_, rfl⟩
      rw [hv]
      have HV := hide hv
      clear hts hv
      go_wp2_with fail
      go_ret
      exact ⟨by first | rfl | (rw [HV.out]; rfl), HB.out⟩

set_option maxRecDepth 100000 in
theorem ginv_any (A : Option Addr) (n c : Nat) (f : List (List Int)) (x : Nat) (w : World) (hn : f.length = n) (ht : Tbl f) (hp : AllPrm f) (hr : Rd2 w A f) (hx : x < n) :
    Calls Tryd.prog 65 #[.agg #[.slice A n c], .int .i64 x] w fun e w' => e = .returned (.int .i64 (bk f x)) ∧ Below w.heap.size w w' := by
  have h1 : 1 ≤ n := by rw [← hn]; exact ht.1
  have h12 : n ≤ 12 := by rw [← hn]; exact ht.2.1
  have hok := bk_ok hn ht hp hx
  obtain ⟨b, o, hA, hbw, hc⟩ := rd_rows ht hr hn
  subst hA
  obtain ⟨Bx, cx, r1, hrd⟩ := hc x hx
  have HRL : Hid ((f.getD x []).length = n) := hide (ht.row_len hn hx)
  obtain ⟨row, hrow⟩ : ∃ row, f.getD x [] = row := ⟨_, rfl⟩
  rw [hrow] at hok HRL hrd
  have HRD := hide hrd
  have HOK := hide hok.2
  obtain ⟨u, hu⟩ : ∃ u, bk f x = u := ⟨_, rfl⟩
  rw [hu] at HOK ⊢
  have hun : u < n := by rw [← hu]; exact hok.1
  have HB0 := hide ((Below.refl _ w).alloc (Nat.le_refl _) (Obj.cells #[Value.slice (some ⟨b, o, none⟩) n c] 26))
  have HK0 := hide (Blk.new w 26 [.slice (some ⟨b, o, none⟩) n c])
  replace r1 := (HB0.out.cell (p := ⟨b, o + x, none⟩) hbw).trans r1
  have hxz : (x : Int) < n := by omega
  have e1 : IntKind.i64.wrap (u : Int) = (u : Int) := IntWalk.i64_in _ (by omega)
  clear hn ht hp hr hc hrow hok hu hrd
  go_enter Tryd.func65, Tryd.ntmps65
  have k0 := HK0.out.cell 0 _ rfl
  go_wp2_with fail
  clear k0 r1
  refine (indexI_any _ n _ row 0 _ HRL.out (by omega) (HRD.out.later HB0.out)).mono ?_
  rintro e w1 ⟨rfl, hq⟩
  rw [HOK.out]
  have HB1 := hide (HB0.out.trans (hq.below _))
  clear hq
  go_wp2_with fail
  go_ret
  exact ⟨rfl, HB1.out⟩
end Go.Proofs.YtelildgngkajnaaDoor
namespace Go.Proofs.YtelildgngkajnaaDoor
open Go Go.RowKit
set_option maxHeartbeats 1000000

set_option maxRecDepth 100000 in
theorem membersOf_any (S : Nat) (w : World) (hS : S < 4096) :
    Calls Tryd.prog 55 #[.int .i64 S] w fun e w' => ∃ A c, e = .returned (.slice A (mems 12 S).length c) ∧ Below w.heap.size w w' ∧ Res 2 w.heap.size w' A (memL 12 S) := by
  obtain ⟨i0, hi, hz0, hz1, hz2⟩ := info_parts neInfo
  go_enter Tryd.func55, Tryd.ntmps55
  go_wp2_with fail
  go_loopw [3, 6] (fun v i wr => ∃ k : Nat, k ≤ 12 ∧ i = .int .i64 k ∧ Below w.heap.size w wr ∧ wr.ownsRow w.heap.size 2 1 v (mems k S).length (ints (memL k S)) ∧ w.heap.size ≤ wr.heap.size) (fun _ i _ => 12 - (intOf i).toNat)
  case atStart => exact ⟨0, Nat.zero_le _, rfl, (Below.refl _ _).alloc (Nat.le_refl _) _, by simpa [ints, memL, mems] using ne_empty w _, by simp⟩
  case round =>
    obtain ⟨k, hk, rfl, hbe, hown, hsz⟩ := hrel
    have HB := hide hbe
    have HO := hide hown
    clear hbe hown
    by_cases hlt : k < 12
    · have hkz : (k : Int) < 12 := by omega
      have hml := mems_length k S
      obtain ⟨l, hl⟩ : ∃ l, (mems k S).length = l := ⟨_, rfl⟩
      rw [hl] at hml HO
      have HL := hide hl
      clear hl
      by_cases hin : inb S k
      · have f2 := bt_in (by omega) hin
        have HIN := hide hin
        clear hin
        go_wp2_with (at_builtin; refine wpList_append_own _ rfl _ _ 37 rfl w.heap.size 2 i0 (.int .i64 0) 1 8 Tryd.underlying37 hi hz0 hz1 hz2 rfl (by decide) _ _ _ rfl (HO.out.alloc _) ⟨wr.heap.size, 0, none⟩ 1 1 [.int .i64 (k : Int)] rfl rfl ?a1 ?a2 ?a3 ?a4 ?a5 ?_)
        try (case a1 => exact ne_new)
        try (case a2 => first | rfl | (intro u hu; simp at hu; subst hu; rfl))
        try (case a3 => first | omega | (unfold maxLen; omega))
        try (case a4 => omega)
        try (case a5 => first | omega | (simp; omega))
        intro v' w1 hown' hgrow _
        have HO' := hide hown'
        have HG := hide hgrow
        clear hown' hgrow
        go_wp2_with fail
        go_roundw
        case rel =>
          have hB1 : Below w.heap.size w w1 := (HB.out.alloc hsz _).grown HG.out (by simp; omega) (fun g hg => (HO.out.alloc (.cells #[.int .i64 (k : Int)] 2)).lt g hg |>.1)
          refine ⟨k + 1, by omega, by go_num, hB1, ?_, by have := hB1.size; omega⟩
          rw [memL_succ, if_pos HIN.out, mems_succ, if_pos HIN.out, List.length_append, HL.out]
          exact HO'.out
        case measure => simp [intOf]; omega
      · have f2 := bt_out (by omega) hin
        have HIN := hide hin
        clear hin
        go_wp2_with fail
        go_roundw
        case rel =>
          refine ⟨k + 1, by omega, by go_num, HB.out, ?_, hsz⟩
          rw [memL_succ, if_neg HIN.out, mems_succ, if_neg HIN.out, HL.out]
          exact HO.out
        case measure => simp [intOf]; omega
    · have hkn : k = 12 := by omega
      subst hkn
      go_wp2_with fail
      have h := HO.out
      go_ret
      obtain ⟨A', c', hv, hres⟩ := own_shape h
      exact ⟨A', c', by rw [← hv]; rfl, HB.out, hres⟩
end Go.Proofs.YtelildgngkajnaaDoor
