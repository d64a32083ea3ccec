import Derived.Test.YtgahmfkmhaeniaaPrm
import Derived.Test.YtgahmfkmhaeniaaTabRes
import Derived.Test.YtgahmfkmhaeniaaOwn
import Derived.Test.YtgahmfkmhaeniaaProg
import Derived.BigRegion
import Derived.IntWalk
import Derived.Test.YtgahmfkmhaeniaaLessS
import Derived.Test.YtgahmfkmhaeniaaThenS
import Derived.Test.YtgahmfkmhaeniaaPrmS
import Derived.Test.YtgahmfkmhaeniaaUnitS
import Derived.Test.YtgahmfkmhaeniaaPairsI
import Derived.Test.YtgahmfkmhaeniaaEqF
import Derived.Test.YtgahmfkmhaeniaaHeld
import Derived.Shelf.Abstract
import Derived.Shelf.Lay
import Derived.Test.YtgahmfkmhaeniaaRkF
import Derived.Test.YtgahmfkmhaeniaaBlk
import Derived.Test.YtgahmfkmhaeniaaTblI
import Derived.Test.YtgahmfkmhaeniaaRowsI
import Derived.WalkSpells
import Derived.Test.YtgahmfkmhaeniaaRowsS
import Derived.Test.YtgahmfkmhaeniaaTblS
import Derived.Test.YtgahmfkmhaeniaaObj
import Derived.Test.YtgahmfkmhaeniaaReads
import Derived.Test.YtgahmfkmhaeniaaLst
namespace Go.Proofs.Ytgahmfkmhaeniaa
open Go Go.RowKit

/-- What a system is. -/
def Sys (n : Int) (rows : List (List Int)) : Prop := 1 ≤ n ∧ n ≤ 12 ∧ rows.length ≤ 16 ∧ ∀ i, i < rows.length → ((rows.getD i []).length : Int) = n ∧ Prm (rows.getD i [])
/-- A step of a system from an element to an element. -/
def stp (rows : List (List Int)) (x y : Nat) : Prop := ∃ i, i < rows.length ∧ ((rows.getD i []).getD x 0).toNat = y
inductive Rch (rows : List (List Int)) (x : Nat) : Nat → Prop
  | start : Rch rows x x
  | step {y z : Nat} : Rch rows x y → stp rows y z → Rch rows x z
end Go.Proofs.Ytgahmfkmhaeniaa
namespace Go.Proofs.Ytgahmfkmhaeniaa
open Go Go.RowKit

/-- The elements reached from x, the steps of the first i of them done. -/
structure OInv (rows : List (List Int)) (n x : Nat) (out : List Int) (i : Nat) : Prop where
  mem : (x : Int) ∈ out
  rng : ∀ v ∈ out, 0 ≤ v ∧ v < (n : Int)
  nd : out.Nodup
  rch : ∀ v ∈ out, Rch rows x v.toNat
  cl : ∀ j, j < i → ∀ r, r < rows.length → (rows.getD r []).getD (out.getD j 0).toNat 0 ∈ out
  le : i ≤ out.length

theorem nodup_le (out : List Int) (n : Nat) (hr : ∀ v ∈ out, 0 ≤ v ∧ v < (n : Int)) (hn : out.Nodup) : out.length ≤ n := by
  obtain ⟨l, hl⟩ := subset_perm out (Go.Proofs.Ytgahmfkmhaeniaa.rng n) hn (fun a ha => (mem_rng n a).2 (hr a ha))
  have := hl.length_eq
  rw [rng_length, List.length_append] at this
  omega
theorem OInv.most {rows : List (List Int)} {n x : Nat} {out : List Int} {i : Nat} (h : OInv rows n x out i) : out.length ≤ n := nodup_le out n h.rng h.nd
theorem OInv.start (rows : List (List Int)) (n x : Nat) (hx : x < n) : OInv rows n x [(x : Int)] 0 :=
  ⟨by simp, fun v hv => by simp at hv; subst hv; omega, by simp, fun v hv => by simp at hv; subst hv; rw [Int.toNat_natCast]; exact .start, fun j hj => absurd hj (Nat.not_lt_zero _), by simp⟩
theorem OInv.push {rows : List (List Int)} {n x : Nat} {out : List Int} {i r : Nat} (h : OInv rows n x out i) (hi : i < out.length) (hr : r < rows.length) (v : Int) (hv : v = (rows.getD r []).getD (out.getD i 0).toNat 0) (h0 : 0 ≤ v) (hn : v < (n : Int)) (hno : v ∉ out) : OInv rows n x (out ++ [v]) i := by
  refine ⟨by simp [h.mem], fun u hu => ?_, ?_, fun u hu => ?_, fun j hj s hs => ?_, by have := h.le; simp; omega⟩
  · rcases List.mem_append.1 hu with hu | hu
    · exact h.rng u hu
    · simp at hu; subst hu; exact ⟨h0, hn⟩
  · rw [List.nodup_append]
    exact ⟨h.nd, by simp, fun a ha b hb e => hno (by simp at hb; subst hb; subst e; exact ha)⟩
  · rcases List.mem_append.1 hu with hu | hu
    · exact h.rch u hu
    · simp at hu
      have hm : out.getD i 0 ∈ out := by simp [hi]
      subst hu
      exact .step (h.rch _ hm) ⟨r, hr, by rw [hv]⟩
  · have e : (out ++ [v]).getD j 0 = out.getD j 0 := by
      have : j < out.length := by omega
      simp [List.getElem?_append, this]
    rw [e]
    exact List.mem_append_left _ (h.cl j hj s hs)
theorem OInv.on {rows : List (List Int)} {n x : Nat} {out : List Int} {i : Nat} (h : OInv rows n x out i) (hi : i < out.length) (hr : ∀ r, r < rows.length → (rows.getD r []).getD (out.getD i 0).toNat 0 ∈ out) : OInv rows n x out (i + 1) :=
  ⟨h.mem, h.rng, h.nd, h.rch, fun j hj r hrr => by
    by_cases e : j = i
    · subst e; exact hr r hrr
    · exact h.cl j (by omega) r hrr, by omega⟩
theorem OInv.done {rows : List (List Int)} {n x : Nat} {out : List Int} (h : OInv rows n x out out.length) (y : Nat) : (y : Int) ∈ out ↔ Rch rows x y := by
  constructor
  · intro hy
    have := h.rch _ hy
    rwa [Int.toNat_natCast] at this
  · intro hy
    induction hy with
    | start => exact h.mem
    | step _ hs ih =>
      obtain ⟨r, hr, hz⟩ := hs
      obtain ⟨j, hj, hjy⟩ := List.getElem_of_mem ih
      have e : out.getD j 0 = out[j] := by simp [hj]
      have hc := h.cl j hj r hr
      rw [e, hjy, Int.toNat_natCast] at hc
      have h0 := (h.rng _ hc).1
      rw [← hz, Int.toNat_of_nonneg h0]
      exact hc
end Go.Proofs.Ytgahmfkmhaeniaa
namespace Go.Proofs.Ytgahmfkmhaeniaa
open Go Go.RowKit
open Classical

theorem Rch.trans {rows : List (List Int)} {x y z : Nat} (h : Rch rows x y) (k : Rch rows y z) : Rch rows x z := by
  induction k with
  | start => exact h
  | step _ hs ih => exact .step ih hs

/-- The labels when the elements below k are done, and the number of the next orbit. -/
noncomputable def lab (rows : List (List Int)) : Nat → (Nat → Int) × Nat
  | 0 => (fun _ => -1, 0)
  | x + 1 => if 0 ≤ (lab rows x).1 x then lab rows x else (fun y => if Rch rows x y then ((lab rows x).2 : Int) else (lab rows x).1 y, (lab rows x).2 + 1)
noncomputable def labL (rows : List (List Int)) (n k : Nat) : List Int := (List.range n).map (lab rows k).1
theorem labL_length (rows : List (List Int)) (n k : Nat) : (labL rows n k).length = n := by simp [labL]
theorem labL_at (rows : List (List Int)) (n k y : Nat) (h : y < n) : (labL rows n k).getD y 0 = (lab rows k).1 y := by simp [labL, h]
theorem lab_le (rows : List (List Int)) (k : Nat) : (lab rows k).2 ≤ k := by
  induction k with
  | zero => simp [lab]
  | succ k ih =>
    unfold lab
    split
    · omega
    · show (lab rows k).2 + 1 ≤ k + 1; omega
theorem lab_lo (rows : List (List Int)) (k y : Nat) : -1 ≤ (lab rows k).1 y ∧ (lab rows k).1 y ≤ k := by
  induction k with
  | zero => simp [lab]
  | succ k ih =>
    unfold lab
    split
    · omega
    · have := lab_le rows k
      show -1 ≤ (if Rch rows k y then ((lab rows k).2 : Int) else (lab rows k).1 y) ∧ (if Rch rows k y then ((lab rows k).2 : Int) else (lab rows k).1 y) ≤ _
      split <;> omega

/-- Rows of permutations of n elements. -/
def Gens (rows : List (List Int)) (n : Nat) : Prop := ∀ r, r < rows.length → (rows.getD r []).length = n ∧ Prm (rows.getD r [])
theorem Gens.at {rows : List (List Int)} {n : Nat} (h : Gens rows n) {r v : Nat} (hr : r < rows.length) (hv : v < n) : 0 ≤ (rows.getD r []).getD v 0 ∧ (rows.getD r []).getD v 0 < (n : Int) := by
  obtain ⟨hl, hp⟩ := h r hr
  obtain ⟨p, hpe⟩ : ∃ p, p = rows.getD r [] := ⟨_, rfl⟩
  rw [← hpe] at hl hp ⊢
  have hm : p.getD v 0 ∈ p := by have : v < p.length := (by omega); simp [this]
  have := hp.2.2.1 _ hm
  rw [hl] at this
  exact this
theorem Gens.inj {rows : List (List Int)} {n : Nat} (h : Gens rows n) {r u v : Nat} (hr : r < rows.length) (hu : u < n) (hv : v < n) (e : ((rows.getD r []).getD u 0).toNat = ((rows.getD r []).getD v 0).toNat) : u = v := by
  have h1 := h.at hr hu
  have h2 := h.at hr hv
  obtain ⟨hl, hp⟩ := h r hr
  obtain ⟨p, hpe⟩ : ∃ p, p = rows.getD r [] := ⟨_, rfl⟩
  rw [← hpe] at hl hp e h1 h2
  have e2 : p.getD u 0 = p.getD v 0 := by omega
  have hul : u < p.length := by omega
  have hvl : v < p.length := by omega
  have e3 : p[u] = p[v] := by simpa [hul, hvl] using e2
  have hpw := List.pairwise_iff_getElem.1 hp.2.2.2
  rcases Nat.lt_trichotomy u v with h | h | h
  · exact absurd e3 (hpw u v hul hvl h)
  · exact h
  · exact absurd e3.symm (hpw v u hvl hul h)
theorem Gens.stay {rows : List (List Int)} {n : Nat} (h : Gens rows n) {x y : Nat} (hx : x < n) (hr : Rch rows x y) : y < n := by
  induction hr with
  | start => exact hx
  | step _ hs ih =>
    obtain ⟨r, hr, e⟩ := hs
    have := h.at hr ih
    omega
theorem Gens.back {rows : List (List Int)} {n : Nat} (h : Gens rows n) {x y z : Nat} (hx : x < n) (hy : y < n) (hs : stp rows y z) (hz : Rch rows x z) : Rch rows x y := by
  obtain ⟨r, hr, e⟩ := hs
  let l : List Nat := (List.range n).filter (fun v => decide (Rch rows x v))
  have hl : l.Nodup := List.Pairwise.filter _ List.nodup_range
  have hml : ∀ v, v ∈ l ↔ v < n ∧ Rch rows x v := fun v => by simp [l]
  let f : Nat → Nat := fun v => ((rows.getD r []).getD v 0).toNat
  have hnd : (l.map f).Nodup := by
    rw [List.nodup_iff_pairwise_ne, List.pairwise_map]
    refine List.Pairwise.imp_of_mem ?_ (List.nodup_iff_pairwise_ne.1 hl)
    intro a b ha hb hne e2
    exact hne (h.inj hr ((hml a).1 ha).1 ((hml b).1 hb).1 e2)
  have hsub : ∀ a ∈ l.map f, a ∈ l := by
    intro a ha
    obtain ⟨v, hv, rfl⟩ := List.mem_map.1 ha
    have hv' := (hml v).1 hv
    have hr' : Rch rows x (f v) := .step hv'.2 ⟨r, hr, rfl⟩
    exact (hml _).2 ⟨h.stay hx hr', hr'⟩
  obtain ⟨l', hl'⟩ := subset_perm (l.map f) l hnd hsub
  have hlen := hl'.length_eq
  rw [List.length_append, List.length_map] at hlen
  have h0 : l' = [] := List.eq_nil_of_length_eq_zero (by omega)
  subst h0
  rw [List.append_nil] at hl'
  have hzl : z ∈ l := (hml z).2 ⟨h.stay hx hz, hz⟩
  obtain ⟨y', hy', e'⟩ := List.mem_map.1 (hl'.mem_iff.1 hzl)
  have hy2 := (hml y').1 hy'
  have : y = y' := h.inj hr hy hy2.1 (by rw [e]; exact e'.symm)
  rw [this]
  exact hy2.2
theorem lab_closed {rows : List (List Int)} {n : Nat} (h : Gens rows n) (k : Nat) (hk : k ≤ n) (y z : Nat) (hy : y < n) (hs : stp rows y z) : 0 ≤ (lab rows k).1 y ↔ 0 ≤ (lab rows k).1 z := by
  induction k with
  | zero => simp [lab]
  | succ k ih =>
    have ih := ih (by omega)
    unfold lab
    split
    · exact ih
    · show 0 ≤ (if Rch rows k y then ((lab rows k).2 : Int) else (lab rows k).1 y) ↔ 0 ≤ (if Rch rows k z then ((lab rows k).2 : Int) else (lab rows k).1 z)
      by_cases h1 : Rch rows k y
      · rw [if_pos h1, if_pos (.step h1 hs)]
      · have h2 : ¬ Rch rows k z := fun h2 => h1 (h.back (by omega) hy hs h2)
        rw [if_neg h1, if_neg h2]
        exact ih
theorem Sys.gens {n : Nat} {rows : List (List Int)} (h : Sys (n : Int) rows) : Gens rows n := fun r hr => ⟨by have := (h.2.2.2 r hr).1; omega, (h.2.2.2 r hr).2⟩
def OrbRes (n : Int) (rows : List (List Int)) (zs : List Int) (code : Int) : Prop := (Sys n rows ∧ zs = labL rows n.toNat n.toNat ∧ code = 0) ∨ (¬ Sys n rows ∧ zs = [] ∧ code = 1)
theorem OrbRes.ex (n : Int) (rows : List (List Int)) : ∃ zs code, OrbRes n rows zs code ∧ zs.length ≤ 4194304 := by
  by_cases h : Sys n rows
  · exact ⟨_, _, .inl ⟨h, rfl, rfl⟩, by rw [labL_length]; have := h.2.1; omega⟩
  · exact ⟨_, _, .inr ⟨h, rfl, rfl⟩, by simp⟩
end Go.Proofs.Ytgahmfkmhaeniaa
namespace Go.Proofs.Ytgahmfkmhaeniaa
open Go Go.RowKit

/-- Two neighbours exchanged: those at q and q - 1. -/
def swp (ys : List Int) (q : Nat) : List Int := (ys.set q (ys.getD (q - 1) 0)).set (q - 1) (ys.getD q 0)
theorem swp_length (ys : List Int) (q : Nat) : (swp ys q).length = ys.length := by simp [swp]
theorem swp_at (ys : List Int) (q i : Nat) (hq : q < ys.length) (h0 : 0 < q) (hi : i < ys.length) : (swp ys q).getD i 0 = if i = q - 1 then ys.getD q 0 else if i = q then ys.getD (q - 1) 0 else ys.getD i 0 := by
  obtain ⟨u, hu⟩ : ∃ u, ys.getD (q - 1) 0 = u := ⟨_, rfl⟩
  obtain ⟨v, hv⟩ : ∃ v, ys.getD q 0 = v := ⟨_, rfl⟩
  unfold swp
  rw [hu, hv, List.getD_eq_getElem?_getD, List.getElem?_set, List.getElem?_set]
  by_cases h1 : q - 1 = i
  · have h1' : i = q - 1 := by omega
    rw [if_pos h1, if_pos h1', if_pos (by simp; omega)]
    rfl
  · have h1' : ¬ i = q - 1 := by omega
    rw [if_neg h1, if_neg h1']
    by_cases h2 : q = i
    · have h2' : i = q := by omega
      rw [if_pos h2, if_pos h2', if_pos hq]
      rfl
    · have h2' : ¬ i = q := by omega
      rw [if_neg h2, if_neg h2', List.getD_eq_getElem?_getD]
theorem swp_perm (ys : List Int) (q : Nat) (hq : q < ys.length) (h0 : 0 < q) : (swp ys q).Perm ys := by
  have h := List.set_set_perm (i := q) (j := q - 1) hq (by omega)
  have e1 : ys.getD q 0 = ys[q] := by simp [hq]
  have e2 : ys.getD (q - 1) 0 = ys[q - 1]'(by omega) := by
    have : q - 1 < ys.length := by omega
    simp [this]
  unfold swp
  rw [e1, e2]
  exact h

/-- The first k are in order. -/
def upTo (ys : List Int) (k : Nat) : Prop := ∀ a b, a < b → b < k → ys.getD a 0 ≤ ys.getD b 0
/-- The first k + 1 are in order, but for the one at q, which is less than those behind it. -/
structure midS (ys : List Int) (k q : Nat) : Prop where
  rest : ∀ a b, a < b → b ≤ k → a ≠ q → b ≠ q → ys.getD a 0 ≤ ys.getD b 0
  less : ∀ b, q < b → b ≤ k → ys.getD q 0 ≤ ys.getD b 0
theorem midS.start {ys : List Int} {k : Nat} (h : upTo ys k) : midS ys k k := ⟨fun a b hab hb _ hne => h a b hab (by omega), fun b h1 h2 => by omega⟩
theorem midS.step {ys : List Int} {k q : Nat} (h : midS ys k q) (hq : q ≤ k) (h0 : 0 < q) (hk : k < ys.length) (hl : ys.getD q 0 < ys.getD (q - 1) 0) : midS (swp ys q) k (q - 1) := by
  refine ⟨fun a b hab hb ha hbn => ?_, fun b hqb hb => ?_⟩
  · rw [swp_at ys q a (by omega) h0 (by omega), swp_at ys q b (by omega) h0 (by omega), if_neg ha, if_neg hbn]
    by_cases h1 : a = q
    · rw [if_pos h1, if_neg (by omega)]
      exact h.rest (q - 1) b (by omega) hb (by omega) (by omega)
    · rw [if_neg h1]
      by_cases h2 : b = q
      · rw [if_pos h2]
        exact h.rest a (q - 1) (by omega) (by omega) h1 (by omega)
      · rw [if_neg h2]
        exact h.rest a b hab hb h1 h2
  · rw [swp_at ys q (q - 1) (by omega) h0 (by omega), swp_at ys q b (by omega) h0 (by omega), if_pos rfl, if_neg (by omega)]
    by_cases h2 : b = q
    · rw [if_pos h2]; omega
    · rw [if_neg h2]
      exact h.less b (by omega) hb
theorem midS.done {ys : List Int} {k q : Nat} (h : midS ys k q) (hq : q ≤ k) (hs : q = 0 ∨ ¬ ys.getD q 0 < ys.getD (q - 1) 0) : upTo ys (k + 1) := by
  intro a b hab hb
  by_cases h1 : a = q
  · subst h1; exact h.less b hab (by omega)
  · by_cases h2 : b = q
    · subst h2
      rcases hs with hs | hs
      · omega
      · by_cases h3 : a = b - 1
        · subst h3; omega
        · have := h.rest a (b - 1) (by omega) (by omega) h1 (by omega)
          omega
    · exact h.rest a b hab (by omega) h1 h2
/-- In order, all of them. -/
def Sorted (ys : List Int) : Prop := upTo ys ys.length
theorem Sorted.tail {x : Int} {xs : List Int} (h : Sorted (x :: xs)) : Sorted xs := by
  intro a b hab hb
  have := h (a + 1) (b + 1) (by omega) (by simpa using hb)
  simpa using this
theorem Sorted.head {x : Int} {xs : List Int} (h : Sorted (x :: xs)) : ∀ y ∈ xs, x ≤ y := by
  intro y hy
  obtain ⟨j, hj, e⟩ := List.getElem_of_mem hy
  have := h 0 (j + 1) (by omega) (by simpa using hj)
  simpa [hj, e] using this
theorem sorted_eq : ∀ (xs ys : List Int), xs.Perm ys → Sorted xs → Sorted ys → xs = ys := by
  intro xs
  induction xs with
  | nil => intro ys h _ _; exact (List.nil_perm.1 h).symm
  | cons x xs ih =>
    intro ys h hx hy
    cases ys with
    | nil => exact absurd h.length_eq (by simp)
    | cons y ys =>
      have e : x = y := by
        have h1 : x ∈ y :: ys := h.mem_iff.1 (by simp)
        have h2 : y ∈ x :: xs := h.mem_iff.2 (by simp)
        have l1 : y ≤ x := by
          rcases List.mem_cons.1 h1 with e | e
          · omega
          · exact hy.head x e
        have l2 : x ≤ y := by
          rcases List.mem_cons.1 h2 with e | e
          · omega
          · exact hx.head y e
        omega
      subst e
      rw [ih ys (List.Perm.cons_inv h) hx.tail hy.tail]
end Go.Proofs.Ytgahmfkmhaeniaa
namespace Go.Proofs.Ytgahmfkmhaeniaa
open Go Go.RowKit
open Classical

/-- How many of n elements have the label o. -/
def cnt (f : Nat → Int) (n : Nat) (o : Nat) : Nat := (List.range n).countP fun y => f y == (o : Int)
theorem cnt_congr (f g : Nat → Int) (n o : Nat) (h : ∀ y, y < n → (f y = (o : Int) ↔ g y = (o : Int))) : cnt f n o = cnt g n o := by
  unfold cnt
  refine List.countP_congr (fun y hy => ?_)
  have := h y (List.mem_range.1 hy)
  simpa using this
theorem cnt_list (f : Nat → Int) (n o : Nat) (V : List Nat) (hnd : V.Nodup) (h : ∀ y, y ∈ V ↔ y < n ∧ f y = (o : Int)) : cnt f n o = V.length := by
  unfold cnt
  rw [List.countP_eq_length_filter]
  have hF : ((List.range n).filter fun y => f y == (o : Int)).Nodup := List.Pairwise.filter _ List.nodup_range
  have hm : ∀ y, y ∈ (List.range n).filter (fun y => f y == (o : Int)) ↔ y ∈ V := fun y => by
    rw [h y]; simp
  obtain ⟨l1, h1⟩ := subset_perm _ V hF (fun a ha => (hm a).1 ha)
  obtain ⟨l2, h2⟩ := subset_perm V _ hnd (fun a ha => (hm a).2 ha)
  have e1 := h1.length_eq
  have e2 := h2.length_eq
  rw [List.length_append] at e1 e2
  omega

structure LabOk (rows : List (List Int)) (n k : Nat) : Prop where
  lt : ∀ y, (lab rows k).1 y < ((lab rows k).2 : Int)
  onto : ∀ o, o < (lab rows k).2 → ∃ y, y < n ∧ (lab rows k).1 y = (o : Int)
  all : ∀ y, y < k → 0 ≤ (lab rows k).1 y
theorem lab_ok (rows : List (List Int)) (n k : Nat) (hg : Gens rows n) (hk : k ≤ n) : LabOk rows n k := by
  induction k with
  | zero => exact ⟨fun y => by simp [lab], fun o ho => by simp [lab] at ho, fun y hy => by omega⟩
  | succ k ih =>
    have ih := ih (by omega)
    by_cases h0 : 0 ≤ (lab rows k).1 k
    · have e : lab rows (k + 1) = lab rows k := by rw [lab, if_pos h0]
      exact ⟨by rw [e]; exact ih.lt, by rw [e]; exact ih.onto, fun y hy => by
        rw [e]
        by_cases h : y = k
        · subst h; exact h0
        · exact ih.all y (by omega)⟩
    · have e : lab rows (k + 1) = (fun y => if Rch rows k y then ((lab rows k).2 : Int) else (lab rows k).1 y, (lab rows k).2 + 1) := by rw [lab, if_neg h0]
      have hun : ∀ y, Rch rows k y → (lab rows k).1 y < 0 := fun y hy => by
        have hkn : k < n := by omega
        induction hy with
        | start => omega
        | @step a b h1 hs ih2 =>
          have ha := hg.stay hkn h1
          have := lab_closed hg k (by omega) a b ha hs
          omega
      refine ⟨?_, ?_, ?_⟩
      · intro y
        rw [e]
        show (if Rch rows k y then ((lab rows k).2 : Int) else (lab rows k).1 y) < (((lab rows k).2 + 1 : Nat) : Int)
        have := ih.lt y
        split <;> omega
      · intro o ho
        rw [e] at ho ⊢
        have ho' : o < (lab rows k).2 + 1 := ho
        show ∃ y, y < n ∧ (if Rch rows k y then ((lab rows k).2 : Int) else (lab rows k).1 y) = (o : Int)
        by_cases h : o = (lab rows k).2
        · exact ⟨k, by omega, by rw [if_pos .start, h]⟩
        · obtain ⟨y, hy, hyo⟩ := ih.onto o (by omega)
          refine ⟨y, hy, ?_⟩
          rw [if_neg (fun hr => by have := hun y hr; omega), hyo]
      · intro y hy
        rw [e]
        show 0 ≤ (if Rch rows k y then ((lab rows k).2 : Int) else (lab rows k).1 y)
        by_cases h : Rch rows k y
        · rw [if_pos h]; omega
        · rw [if_neg h]
          by_cases h2 : y = k
          · subst h2; exact absurd .start h
          · exact ih.all y (by omega)
theorem lab_free {rows : List (List Int)} {n k : Nat} (hg : Gens rows n) (hk : k < n) (h0 : (lab rows k).1 k < 0) (y : Nat) (hy : Rch rows k y) : (lab rows k).1 y < 0 := by
  induction hy with
  | start => exact h0
  | @step a b h1 hs ih2 =>
    have ha := hg.stay hk h1
    have := lab_closed hg k (by omega) a b ha hs
    omega

/-- The numbers of elements of the labels when the elements below k are done. -/
noncomputable def cyc (rows : List (List Int)) (n k : Nat) : List Int := (List.range (lab rows k).2).map fun o => (cnt (lab rows k).1 n o : Int)
theorem cyc_stay (rows : List (List Int)) (n k : Nat) (h0 : 0 ≤ (lab rows k).1 k) : cyc rows n (k + 1) = cyc rows n k := by
  have e : lab rows (k + 1) = lab rows k := by rw [lab, if_pos h0]
  unfold cyc
  rw [e]
theorem cyc_next (rows : List (List Int)) (n k : Nat) (hg : Gens rows n) (hk : k < n) (h0 : (lab rows k).1 k < 0) (V : List Nat) (hnd : V.Nodup) (hV : ∀ y, y ∈ V ↔ Rch rows k y) : cyc rows n (k + 1) = cyc rows n k ++ [(V.length : Int)] := by
  have e : lab rows (k + 1) = (fun y => if Rch rows k y then ((lab rows k).2 : Int) else (lab rows k).1 y, (lab rows k).2 + 1) := by rw [lab, if_neg (by omega)]
  have hok := lab_ok rows n k hg (by omega)
  unfold cyc
  rw [e]
  show (List.range ((lab rows k).2 + 1)).map (fun o => (cnt (fun y => if Rch rows k y then ((lab rows k).2 : Int) else (lab rows k).1 y) n o : Int)) = _
  rw [List.range_succ, List.map_append]
  congr 1
  · refine List.map_congr_left (fun o ho => ?_)
    have ho' := List.mem_range.1 ho
    congr 1
    refine cnt_congr _ _ _ _ (fun y _ => ?_)
    by_cases hr : Rch rows k y
    · rw [if_pos hr]
      have := lab_free hg hk h0 y hr
      constructor <;> intro h <;> omega
    · rw [if_neg hr]
  · simp only [List.map_cons, List.map_nil]
    congr 1
    congr 1
    refine cnt_list _ _ _ V hnd (fun y => ?_)
    rw [hV y]
    constructor
    · intro hr
      exact ⟨hg.stay hk hr, by rw [if_pos hr]⟩
    · rintro ⟨_, h⟩
      by_cases hr : Rch rows k y
      · exact hr
      · rw [if_neg hr] at h
        have := hok.lt y
        omega
end Go.Proofs.Ytgahmfkmhaeniaa
namespace Go.Proofs.Ytgahmfkmhaeniaa
open Go Go.RowKit
set_option maxHeartbeats 2000000

theorem less1_any (x y : Int) (w : World) :
    Calls Try.prog 156 #[.int .i64 x, .int .i64 y] w fun e w' => e = .returned (.bool (decide (x < y))) ∧ w = w' := by
  have hx : (x != x) = false := by simp
  have hy : (y != y) = false := by simp
  go_enter Try.func156, Try.ntmps156
  go_wp2
  go_ret
  exact ⟨rfl, rfl⟩

theorem only_dn {A : Option Addr} {w w' : World} (h : Only A w w') (q : Nat) : Only A w (w'.drewN q) := ⟨h.os, h.tape, h.output, h.size, h.block⟩

theorem insertion_any (g n c : Nat) (xs : List Int) (w : World) (hn : xs.length = n) (hb : n ≤ 1048576) (how : OwnB 2 w g xs) :
    Calls Try.prog 150 #[.slice (some ⟨g, 0, none⟩) n c, .int .i64 0, .int .i64 n] w fun e w' => e = .returned (.tuple #[]) ∧ Only (some ⟨g, 0, none⟩) w w' ∧ ∃ ys, ys.Perm xs ∧ Sorted ys ∧ OwnB 2 w' g ys := by
  have HN := hide hn
  have HW := hide how
  clear hn how
  go_enter Try.func150, Try.ntmps150
  go_wp2_with fail
  go_loopw [6] (fun i wr => ∃ (k : Nat) (ys : List Int), 1 ≤ k ∧ (k ≤ n ∨ k = 1) ∧ i = .int .i64 k ∧ Only (some ⟨g, 0, none⟩) w wr ∧ ys.Perm xs ∧ upTo ys k ∧ OwnB 2 wr g ys) (fun i _ => n - (intOf i).toNat)
  case atStart => exact ⟨1, xs, Nat.le_refl _, .inr rfl, by first | rfl | go_num, Only.quiet (Quiet.refl _), List.Perm.refl _, fun a b h1 h2 => by omega, HW.out⟩
  case round =>
    obtain ⟨k, ys, hk1, hkn, rfl, ho, hp, hu, how⟩ := hrel
    have HO := hide ho
    have HP := hide hp
    have HU := hide hu
    have HY := hide how
    clear ho hp hu how
    by_cases hlt : k < n
    · have hltz : (k : Int) < n := by omega
      go_wp2_with fail
      obtain ⟨wo, rfl⟩ : ∃ wo : World, wo = wr := ⟨_, rfl⟩
      go_loopw [7] (fun j wi => ∃ (q : Nat) (ys : List Int), q ≤ k ∧ j = .int .i64 q ∧ Only (some ⟨g, 0, none⟩) w wi ∧ ys.Perm xs ∧ midS ys k q ∧ OwnB 2 wi g ys) (fun j _ => (intOf j).toNat)
      case atStart => exact ⟨k, ys, Nat.le_refl _, rfl, HO.out, HP.out, midS.start HU.out, HY.out⟩
      case round =>
        clear HO HP HU HY
        obtain ⟨q, ys, hqk, rfl, ho, hp, hm, how⟩ := hrel
        have HO := hide ho
        have HP := hide hp
        have HMM := hide hm
        have HY := hide how
        have hlen : ys.length = n := by rw [hp.length_eq]; exact HN.out
        have HL := hide hlen
        clear ho hp hm how hlen
        by_cases hq0 : q = 0
        · subst hq0
          have hd : decide ((0 : Int) < ((0 : Nat) : Int)) = false := by simp
          go_wp2_with fail
          go_quiet (fail)
          go_wp2_with fail
          go_roundw
          case rel => exact ⟨k + 1, ys, by omega, .inl (by omega), by go_num, only_dn HO.out _, HP.out, HMM.out.done hqk (.inl rfl), HY.out⟩
          case measure => simp [intOf]; omega
        · obtain ⟨p, hpq⟩ : ∃ p, q = p + 1 := ⟨q - 1, by omega⟩
          have hpz : (q : Int) - 1 = (p : Int) := by omega
          have hqz : (0 : Int) < (q : Int) := by omega
          have hqnz : (q : Int) < (n : Int) := by omega
          have hpnz : (p : Int) < (n : Int) := by omega
          have hp0 : (0 : Int) ≤ (p : Int) := by omega
          have h1 := HY.out.cell (i := q) (by have := HL.out; omega)
          have h2 := HY.out.cell (i := p) (by have := HL.out; omega)
          have f1 := HY.out.frozen q
          have f2 := HY.out.frozen p
          obtain ⟨x, hx⟩ : ∃ x, ys.getD q 0 = x := ⟨_, rfl⟩
          obtain ⟨y, hy⟩ : ∃ y, ys.getD p 0 = y := ⟨_, rfl⟩
          rw [hx] at h1
          rw [hy] at h2
          have HX := hide hx
          have HYY := hide hy
          have HPQ := hide hpq
          have hdq : decide (0 < q) = true := by simp; omega
          clear hx hy hpq
          by_cases hxy : x < y
          · go_wp2_with fail
            have hw : IntKind.i64.wrap ((q : Int) - 1) = (p : Int) := by rw [hpz]; exact IntWalk.i64_in _ (by omega)
            go_quiet ((go_at_call 156; exact quiet_call ((less1_any _ _ _).mono fun _ _ h => ⟨h.1, ⟨0, h.2.symm⟩⟩)))
            clear hw
            obtain ⟨w5, hw5⟩ : ∃ w5, wr.drewN nq = w5 := ⟨_, rfl⟩
            have h1' : w5.cell? ⟨g, q, none⟩ = some (.int .i64 x) := by subst hw5; exact h1
            have h2' : w5.cell? ⟨g, p, none⟩ = some (.int .i64 y) := by subst hw5; exact h2
            have f1' : w5.frozen? ⟨g, q, none⟩ = false := by subst hw5; exact f1
            have f2' : w5.frozen? ⟨g, p, none⟩ = false := by subst hw5; exact f2
            have HO5 : Hid (Only (some ⟨g, 0, none⟩) w w5) := hide (by subst hw5; exact only_dn HO.out _)
            have HY5 : Hid (OwnB 2 w5 g ys) := hide (by subst hw5; exact HY.out)
            rw [hw5]
            clear h1 h2 f1 f2 hw5
            go_wp2_with fail
            obtain ⟨y', hy'⟩ := cell?_setCell_some (w := w5.drew) (p := ⟨g, q, none⟩) (x := Value.int IntKind.i64 y) (q := ⟨g, p, none⟩) (v := Value.int IntKind.i64 y) (by go_simp)
            go_region
            go_wp2_with fail
            go_roundw
            case rel =>
              have hq1 : q - 1 = p := by have := HPQ.out; omega
              have hql : q < ys.length := by have := HL.out; omega
              have hs1 := (HY5.out.set q y hql).set p x (by simp; omega)
              have e : (ys.set q y).set p x = swp ys q := by
                unfold swp
                rw [hq1, HX.out, HYY.out]
              rw [e] at hs1
              refine ⟨p, swp ys q, by omega, by first | rfl | go_num, ?_, (swp_perm ys q hql (by omega)).trans HP.out, by have h := HMM.out.step hqk (by omega) (by have := HL.out; omega) (by rw [hq1, HX.out, HYY.out]; exact hxy); rw [hq1] at h; exact h, ⟨hs1.choose, hs1.choose_spec⟩⟩
              have h1 := HO5.out
              exact ⟨h1.os, h1.tape, h1.output, by have := h1.size; simpa [World.setCell, World.drew] using this, fun i hi hne => (Below.heap_setCell _ _ _ _ (fun e => hne (by rw [e]; rfl))).trans ((Below.heap_setCell _ _ _ _ (fun e => hne (by rw [e]; rfl))).trans (h1.block i hi hne))⟩
            case measure => have := HPQ.out; simp [intOf]; omega
          · go_wp2_with fail
            have hw : IntKind.i64.wrap ((q : Int) - 1) = (p : Int) := by rw [hpz]; exact IntWalk.i64_in _ (by omega)
            go_quiet ((go_at_call 156; exact quiet_call ((less1_any _ _ _).mono fun _ _ h => ⟨h.1, ⟨0, h.2.symm⟩⟩)))
            clear hw
            go_wp2_with fail
            go_roundw
            case rel => exact ⟨k + 1, ys, by omega, .inl (by omega), by go_num, only_dn HO.out _, HP.out, HMM.out.done hqk (.inr (by have hq1 : q - 1 = p := (by have := HPQ.out; omega); rw [hq1, HX.out, HYY.out]; omega)), HY.out⟩
            case measure => simp [intOf]; omega
    · have hltz : ¬ (k : Int) < n := by omega
      go_wp2_with fail
      go_end0
      refine ⟨rfl, HO.out, ys, HP.out, ?_, HY.out⟩
      intro a b h1 h2
      refine HU.out a b h1 ?_
      have := HP.out.length_eq
      have := HN.out
      omega
end Go.Proofs.Ytgahmfkmhaeniaa
namespace Go.Proofs.Ytgahmfkmhaeniaa
open Go Go.RowKit
set_option maxHeartbeats 2000000

theorem pdq_any (g n c : Nat) (v : Int) (xs : List Int) (w : World) (hn : xs.length = n) (hb : n ≤ 12) (how : OwnB 2 w g xs) :
    Calls Try.prog 147 #[.slice (some ⟨g, 0, none⟩) n c, .int .i64 0, .int .i64 n, .int .i64 v] w fun e w' => e = .returned (.tuple #[]) ∧ Only (some ⟨g, 0, none⟩) w w' ∧ ∃ ys, ys.Perm xs ∧ Sorted ys ∧ OwnB 2 w' g ys := by
  have HN := hide hn
  have HW := hide how
  clear hn how
  go_enter Try.func147, Try.ntmps147
  go_wp2_with fail
  go_loopw [1, 2] (fun a b wr => a = .int .i64 0 ∧ b = .int .i64 n ∧ wr = w) (fun _ _ _ => 0)
  case atStart => exact ⟨rfl, rfl, rfl⟩
  case round =>
    obtain ⟨rfl, rfl, rfl⟩ := hrel
    have hnz : (n : Int) ≤ 12 := by omega
    go_wp2_with fail
    refine (insertion_any g n _ xs _ HN.out (by omega) HW.out).mono ?_
    rintro e w2 ⟨rfl, ho, hrest⟩
    have HO := hide ho
    have HR := hide hrest
    clear ho hrest
    go_wp2_with fail
    refine bodyPost_ret (results_none rfl _ _ _) rfl ?_
    exact ⟨rfl, HO.out, HR.out⟩
set_option maxRecDepth 20000 in
theorem len64_any (n : Nat) (w : World) (hb : n ≤ 12) : Calls Try.prog 160 #[.int .u64 n] w fun e w' => (∃ v : Int, e = .returned (.int .i64 v)) ∧ Quiet w w' := by
  have h13 : n = 0 ∨ n = 1 ∨ n = 2 ∨ n = 3 ∨ n = 4 ∨ n = 5 ∨ n = 6 ∨ n = 7 ∨ n = 8 ∨ n = 9 ∨ n = 10 ∨ n = 11 ∨ n = 12 := by omega
  rcases h13 with rfl | rfl | rfl | rfl | rfl | rfl | rfl | rfl | rfl | rfl | rfl | rfl | rfl
  all_goals (
    go_enter Try.func160, Try.ntmps160
    go_wp2_with fail
    go_ret
    exact ⟨⟨_, rfl⟩, Quiet.refl _⟩)
theorem blen_any (n : Nat) (w : World) (hb : n ≤ 12) : Calls Try.prog 148 #[.int .u64 n] w fun e w' => (∃ v : Int, e = .returned (.int .i64 v)) ∧ Quiet w w' := by
  go_enter Try.func148, Try.ntmps148
  go_wp2_with fail
  refine (len64_any n _ hb).mono ?_
  rintro e w2 ⟨⟨v, rfl⟩, hq⟩
  go_wp2_with fail
  go_ret
  exact ⟨⟨v, rfl⟩, hq⟩
theorem sort_any (g n c : Nat) (xs : List Int) (w : World) (hn : xs.length = n) (hb : n ≤ 12) (how : OwnB 2 w g xs) :
    Calls Try.prog 140 #[.slice (some ⟨g, 0, none⟩) n c] w fun e w' => e = .returned (.tuple #[]) ∧ Only (some ⟨g, 0, none⟩) w w' ∧ ∃ ys, ys.Perm xs ∧ Sorted ys ∧ OwnB 2 w' g ys := by
  have HN := hide hn
  have HW := hide how
  clear hn how
  go_enter Try.func140, Try.ntmps140
  go_wp2_with fail
  refine (blen_any n _ hb).mono ?_
  rintro e w2 ⟨⟨v, rfl⟩, hq⟩
  have HQ := hide hq
  have hl : OwnB 2 w2 g xs := by obtain ⟨q, rfl⟩ := hq; exact ⟨HW.out.choose, HW.out.choose_spec⟩
  have HL := hide hl
  clear hq hl
  go_wp2_with fail
  refine (pdq_any g n _ v xs _ HN.out hb HL.out).mono ?_
  rintro e w3 ⟨rfl, ho, hrest⟩
  have HO := hide ho
  have HR := hide hrest
  clear ho hrest
  go_wp2_with fail
  go_end0
  refine ⟨rfl, ?_, HR.out⟩
  have h1 := Only.quiet (A := some ⟨g, 0, none⟩) HQ.out
  have k := HO.out
  exact ⟨k.os.trans h1.os, k.tape.trans h1.tape, k.output.trans h1.output, Nat.le_trans h1.size k.size, fun i hi hne => (k.block i (Nat.lt_of_lt_of_le hi h1.size) hne).trans (h1.block i hi hne)⟩
end Go.Proofs.Ytgahmfkmhaeniaa
namespace Go.Proofs.Ytgahmfkmhaeniaa
open Go Go.RowKit
open Classical
set_option maxHeartbeats 2000000

theorem liInfo : (Try.prog.info? 2).map (fun i => (i.zero, i.size, i.bytes)) = some (some (.int .i64 0), 1, 8) := by kernel_rfl
theorem li_new {w : World} {v : Value} : ∀ j u, [v][j]? = some u → (w.alloc (.cells #[v] 2)).cell? ((⟨w.heap.size, 0, none⟩ : Addr).add j) = some u := by
  intro j u hj
  match j, hj with
  | 0, hj => simp at hj; subst hj; simp [Addr.add, World.cell?_alloc_new]
theorem li_one (w : World) (t : TypeId) (v : Value) : (w.alloc (.cells #[v] t)).ownsRow w.heap.size t 1 (.slice (some ⟨w.heap.size, 0, none⟩) 1 1) 1 [v] :=
  ⟨by simp, .inr ⟨w.heap.size, 1, #[v], rfl, Nat.le_refl _, heap_alloc_new _ _, Nat.le_refl _, by unfold maxLen; omega, by simp, by simp⟩⟩
/-- What is left of a row when its last element is cut off. -/
theorem own_front {w : World} {B n c : Nat} {t : TypeId} {A : Option Addr} {xs : List Value} (h : w.ownsRow B t 1 (.slice A (n + 1) c) (n + 1) xs) : w.ownsRow B t 1 (.slice A n c) n (xs.take n) := by
  obtain ⟨hl, h | ⟨g, cap, cur, hv, hb, hg, hn, hcap, hsz, hxs⟩⟩ := h
  · exact absurd h.2 (by omega)
  · injection hv with h1 h2 h3
    subst h1 h3
    refine ⟨by simp; omega, .inr ⟨g, c, cur, rfl, hb, hg, by omega, hcap, hsz, ?_⟩⟩
    rw [← hxs, List.take_take]
    congr 1
    omega
theorem own_setFar {w : World} {B n g j : Nat} {t : TypeId} {v u : Value} {xs : List Value} (h : w.ownsRow B t 1 v n xs) (hg : g < B) : (w.setCell ⟨g, j, none⟩ u).ownsRow B t 1 v n xs := by
  obtain ⟨hl, h | ⟨g', cap, cur, hv, hb, hg', hn, hcap, hsz, hxs⟩⟩ := h
  · exact ⟨hl, .inl h⟩
  · exact ⟨hl, .inr ⟨g', cap, cur, hv, hb, (Below.heap_setCell _ _ _ _ (by show g' ≠ g; omega)).trans hg', hn, hcap, hsz, hxs⟩⟩

/-- In the midst of a search: D have the label; those of D that wait are in the work; of x (none: n) the first r steps are done. -/
structure WInv (rows : List (List Int)) (n x0 : Nat) (f0 : Nat → Int) (D : List Nat) (work : List Int) (x : Nat) (r : Nat) : Prop where
  nd : D.Nodup
  rng : ∀ d ∈ D, d < n
  mem : x0 ∈ D
  rch : ∀ d ∈ D, Rch rows x0 d
  neg : ∀ d ∈ D, f0 d < 0
  wk : ∀ u ∈ work, ∃ d ∈ D, u = (d : Int)
  cl : ∀ d ∈ D, (d : Int) ∉ work → d ≠ x → ∀ s, s < rows.length → ((rows.getD s []).getD d 0).toNat ∈ D
  cx : x ∈ D → ∀ s, s < r → s < rows.length → ((rows.getD s []).getD x 0).toNat ∈ D

theorem natnd_le (D : List Nat) (n : Nat) (hr : ∀ v ∈ D, v < n) (hn : D.Nodup) : D.length ≤ n := by
  obtain ⟨l, hl⟩ := subset_perm D (List.range n) hn (fun a ha => List.mem_range.2 (hr a ha))
  have := hl.length_eq
  rw [List.length_range, List.length_append] at this
  omega
theorem WInv.most {rows : List (List Int)} {n x0 x r : Nat} {f0 : Nat → Int} {D : List Nat} {work : List Int} (h : WInv rows n x0 f0 D work x r) : D.length ≤ n := natnd_le D n h.rng h.nd
theorem WInv.start (rows : List (List Int)) (n x0 : Nat) (f0 : Nat → Int) (h : x0 < n) (h0 : f0 x0 < 0) : WInv rows n x0 f0 [x0] [(x0 : Int)] n 0 :=
  ⟨by simp, fun d hd => by simp at hd; omega, by simp, fun d hd => by simp at hd; subst hd; exact .start, fun d hd => by simp at hd; subst hd; exact h0, fun u hu => ⟨x0, by simp, by simpa using hu⟩, fun d hd hno => by simp at hd; subst hd; exact absurd (by simp) hno, fun hx => by simp at hx; omega⟩
theorem WInv.pop {rows : List (List Int)} {n x0 : Nat} {f0 : Nat → Int} {D : List Nat} {work : List Int} {x : Nat} (h : WInv rows n x0 f0 D (work ++ [(x : Int)]) n 0) : x ∈ D ∧ WInv rows n x0 f0 D work x 0 := by
  have hx : x ∈ D := by
    obtain ⟨d, hd, e⟩ := h.wk (x : Int) (by simp)
    have : x = d := by omega
    rw [this]; exact hd
  refine ⟨hx, h.nd, h.rng, h.mem, h.rch, h.neg, fun u hu => h.wk u (by simp [hu]), fun d hd hno hne => h.cl d hd ?_ (by have := h.rng d hd; omega), fun _ s hs => by omega⟩
  intro hm
  rcases List.mem_append.1 hm with hm | hm
  · exact hno hm
  · simp at hm; omega
theorem WInv.seen {rows : List (List Int)} {n x0 : Nat} {f0 : Nat → Int} {D : List Nat} {work : List Int} {x r : Nat} (h : WInv rows n x0 f0 D work x r) (hs : ((rows.getD r []).getD x 0).toNat ∈ D) : WInv rows n x0 f0 D work x (r + 1) :=
  ⟨h.nd, h.rng, h.mem, h.rch, h.neg, h.wk, h.cl, fun hx s hs2 hs3 => by
    by_cases e : s = r
    · subst e; exact hs
    · exact h.cx hx s (by omega) hs3⟩
theorem WInv.push {rows : List (List Int)} {n x0 : Nat} {f0 : Nat → Int} {D : List Nat} {work : List Int} {x r : Nat} (h : WInv rows n x0 f0 D work x r) (hx : x ∈ D) (hr : r < rows.length) (z : Nat) (hz : ((rows.getD r []).getD x 0).toNat = z) (hzn : z < n) (hno : z ∉ D) (hneg : f0 z < 0) : WInv rows n x0 f0 (D ++ [z]) (work ++ [(z : Int)]) x (r + 1) := by
  have hzx : z ≠ x := fun e => hno (e ▸ hx)
  refine ⟨?_, fun d hd => ?_, by simp [h.mem], fun d hd => ?_, fun d hd => ?_, fun u hu => ?_, fun d hd hnw hne s hs => ?_, fun _ s hs hs2 => ?_⟩
  · rw [List.nodup_append]
    exact ⟨h.nd, by simp, fun a ha b hb e => hno (by simp at hb; subst hb; subst e; exact ha)⟩
  · rcases List.mem_append.1 hd with hd | hd
    · exact h.rng d hd
    · simp at hd; omega
  · rcases List.mem_append.1 hd with hd | hd
    · exact h.rch d hd
    · simp at hd; subst hd; exact .step (h.rch x hx) ⟨r, hr, hz⟩
  · rcases List.mem_append.1 hd with hd | hd
    · exact h.neg d hd
    · simp at hd; subst hd; exact hneg
  · rcases List.mem_append.1 hu with hu | hu
    · obtain ⟨d, hd, e⟩ := h.wk u hu
      exact ⟨d, by simp [hd], e⟩
    · exact ⟨z, by simp, by simpa using hu⟩
  · rcases List.mem_append.1 hd with hd | hd
    · exact List.mem_append_left _ (h.cl d hd (fun e => hnw (by simp [e])) hne s hs)
    · simp at hd; subst hd; exact absurd (by simp) hnw
  · by_cases e : s = r
    · subst e; rw [hz]; simp
    · refine List.mem_append_left _ (h.cx hx s (by omega) hs2)
theorem WInv.next {rows : List (List Int)} {n x0 : Nat} {f0 : Nat → Int} {D : List Nat} {work : List Int} {x : Nat} (h : WInv rows n x0 f0 D work x rows.length) : WInv rows n x0 f0 D work n 0 :=
  ⟨h.nd, h.rng, h.mem, h.rch, h.neg, h.wk, fun d hd hno _ s hs => by
    by_cases e : d = x
    · subst e; exact h.cx hd s hs hs
    · exact h.cl d hd hno e s hs, fun _ s hs => by omega⟩
theorem WInv.done {rows : List (List Int)} {n x0 : Nat} {f0 : Nat → Int} {D : List Nat} (h : WInv rows n x0 f0 D [] n 0) (y : Nat) : y ∈ D ↔ Rch rows x0 y := by
  constructor
  · exact h.rch y
  · intro hy
    induction hy with
    | start => exact h.mem
    | step _ hs ih =>
      obtain ⟨r, hr, hz⟩ := hs
      rw [← hz]
      exact h.cl _ ih (by simp) (by have := h.rng _ ih; omega) r hr

/-- The labels when D have got theirs. -/
noncomputable def putD (f : Nat → Int) (D : List Nat) (l : Int) : Nat → Int := fun y => if y ∈ D then l else f y
theorem putD_step (f : Nat → Int) (D : List Nat) (l : Int) (n z : Nat) : ((List.range n).map (putD f D l)).set z l = (List.range n).map (putD f (D ++ [z]) l) := by
  apply List.ext_getElem
  · simp
  · intro y h1 h2
    rw [List.getElem_set]
    simp only [List.getElem_map, List.getElem_range]
    unfold putD
    by_cases e : z = y
    · subst e; simp
    · have e2 : ¬ y = z := fun h => e h.symm
      simp [e, e2]
end Go.Proofs.Ytgahmfkmhaeniaa
namespace Go.Proofs.Ytgahmfkmhaeniaa
open Go Go.RowKit
open Classical
set_option maxHeartbeats 2000000

theorem gens_one {p : List Int} {n : Nat} (hn : p.length = n) (hp : Prm p) : Gens [p] n := fun r hr => by
  have h0 : r = 0 := by simp at hr; omega
  subst h0
  exact ⟨hn, hp⟩
theorem stp_one (p : List Int) (y : Nat) : stp [p] y (p.getD y 0).toNat := ⟨0, by simp, rfl⟩
theorem stp_of {p : List Int} {y z : Nat} (h : stp [p] y z) : (p.getD y 0).toNat = z := by
  obtain ⟨r, hr, e⟩ := h
  have h0 : r = 0 := by simp at hr; omega
  subst h0
  exact e

/-- On the way along a cycle: V are behind, y is next. -/
structure CInv (p : List Int) (n s : Nat) (V : List Nat) (y : Nat) : Prop where
  nd : V.Nodup
  lt : ∀ u ∈ V, u < n
  rch : ∀ u ∈ V, Rch [p] s u
  yn : y < n
  yr : Rch [p] s y
  nx : ∀ u ∈ V, (p.getD u 0).toNat ∈ V ∨ (p.getD u 0).toNat = y
  e0 : V = [] → y = s
  e1 : V ≠ [] → s ∈ V
  neg : ∀ u ∈ V, (lab [p] s).1 u < 0
theorem CInv.start (p : List Int) (n s : Nat) (hs : s < n) : CInv p n s [] s := ⟨by simp, by simp, by simp, hs, .start, by simp, fun _ => rfl, fun h => absurd rfl h, by simp⟩
theorem CInv.most {p : List Int} {n s : Nat} {V : List Nat} {y : Nat} (h : CInv p n s V y) : V.length ≤ n := natnd_le V n h.lt h.nd
theorem CInv.push {p : List Int} {n s : Nat} {V : List Nat} {y : Nat} (h : CInv p n s V y) (hg : Gens [p] n) (hno : y ∉ V) (hneg : (lab [p] s).1 y < 0) : CInv p n s (V ++ [y]) (p.getD y 0).toNat := by
  have hz := hg.at (r := 0) (v := y) (by simp) h.yn
  refine ⟨?_, fun u hu => ?_, fun u hu => ?_, ?_, .step h.yr (stp_one p y), fun u hu => ?_, fun e => absurd e (by simp), fun _ => ?_, fun u hu => ?_⟩
  · rw [List.nodup_append]
    exact ⟨h.nd, by simp, fun a ha b hb e => hno (by simp at hb; subst hb; subst e; exact ha)⟩
  · rcases List.mem_append.1 hu with hu | hu
    · exact h.lt u hu
    · simp at hu; subst hu; exact h.yn
  · rcases List.mem_append.1 hu with hu | hu
    · exact h.rch u hu
    · simp at hu; subst hu; exact h.yr
  · have e : ([p].getD 0 []) = p := rfl
    rw [e] at hz
    omega
  · rcases List.mem_append.1 hu with hu | hu
    · rcases h.nx u hu with e | e
      · exact .inl (List.mem_append_left _ e)
      · exact .inl (by rw [e]; simp)
    · simp at hu; subst hu; exact .inr rfl
  · by_cases hV : V = []
    · rw [h.e0 hV]; simp
    · exact List.mem_append_left _ (h.e1 hV)
  · rcases List.mem_append.1 hu with hu | hu
    · exact h.neg u hu
    · simp at hu; subst hu; exact hneg
theorem CInv.done {p : List Int} {n s : Nat} {V : List Nat} {y : Nat} (h : CInv p n s V y) (hy : y ∈ V) (u : Nat) : u ∈ V ↔ Rch [p] s u := by
  refine ⟨h.rch u, fun hr => ?_⟩
  induction hr with
  | start => exact h.e1 (fun e => by rw [e] at hy; simp at hy)
  | @step a b _ hs ih =>
    have e := stp_of hs
    rcases h.nx a ih with h1 | h1
    · rw [← e]; exact h1
    · rw [← e, h1]; exact hy

noncomputable def seenV (p : List Int) (s : Nat) (V : List Nat) : Nat → Value := fun i => .bool (decide (0 ≤ (lab [p] s).1 i ∨ i ∈ V))
theorem seenV_push (p : List Int) (s : Nat) (V : List Nat) (y i : Nat) : (if i = y then Value.bool true else seenV p s V i) = seenV p s (V ++ [y]) i := by
  unfold seenV
  by_cases e : i = y
  · subst e; simp
  · simp [e]

set_option maxRecDepth 20000 in
theorem cycles_any (A : Option Addr) (n c : Nat) (p : List Int) (w : World) (hn : p.length = n) (hp : Prm p) (hr : Rd w A p) :
    Calls Try.prog 125 #[.slice A n c] w fun e w' => ∃ A' c' ys, e = .returned (.slice A' (cyc [p] n n).length c') ∧ Below w.heap.size w w' ∧ Res 2 w.heap.size w' A' ys ∧ ys.Perm (cyc [p] n n) ∧ Sorted ys := by
  have h1n : 1 ≤ n := by have := hp.1; omega
  have h12 : n ≤ 12 := by have := hp.2.1; omega
  have HN := hide hn
  have HG := hide (gens_one hn hp)
  have HIN := hide hp.2.2.1
  clear hn hp
  obtain ⟨i0, hi, hz0, hz1, hz2⟩ := info_parts liInfo
  go_enter Try.func125, Try.ntmps125
  go_wp2_with fail
  go_loopw [4, 11] (fun v i wr => ∃ s : Nat, s ≤ n ∧ i = .int .i64 s ∧ Below w.heap.size w wr ∧ wr.rowIs w.heap.size 117 12 (seenV p s []) ∧ w.heap.size + 1 ≤ wr.heap.size ∧ wr.ownsRow (w.heap.size + 1) 2 1 v (cyc [p] n s).length (ints (cyc [p] n s))) (fun _ i _ => n - (intOf i).toNat)
  case atStart =>
    refine ⟨0, Nat.zero_le _, rfl, ((Below.refl _ _).alloc (Nat.le_refl _) _).alloc (by simp) _, ?_, by simp, ?_⟩
    · refine ⟨_, (Below.heap_alloc _ _ _ (by simp)).trans (heap_alloc_new _ _), rfl, fun i hi => ?_⟩
      simp only [seenV, lab]
      match i, hi with
      | 0, _ | 1, _ | 2, _ | 3, _ | 4, _ | 5, _ | 6, _ | 7, _ | 8, _ | 9, _ | 10, _ | 11, _ => simp
    · have e : cyc [p] n 0 = [] := by simp [cyc, lab]
      rw [e]
      refine ⟨by simp [ints], .inr ⟨w.heap.size + 1, 0, #[], ?_, Nat.le_refl _, ?_, Nat.le_refl _, by unfold maxLen; omega, by simp, by simp [ints]⟩⟩
      · simp
      · simpa using heap_alloc_new (w.alloc _) (Obj.cells #[] 2)
  case round =>
    obtain ⟨s, hs, rfl, hbe, hrow, hsz, hown⟩ := hrel
    have HB := hide hbe
    have HROW := hide hrow
    have HO := hide hown
    clear hbe hrow hown
    by_cases hlt : s < n
    · have hltz : (s : Int) < n := by omega
      go_wp2_with fail
      obtain ⟨wo, rfl⟩ : ∃ wo : World, wo = wr := ⟨_, rfl⟩
      go_loopw [6, 7] (fun l x wi => ∃ (V : List Nat) (y : Nat), l = .int .i64 V.length ∧ x = .int .i64 y ∧ Below w.heap.size w wi ∧ wi.rowIs w.heap.size 117 12 (seenV p s V) ∧ w.heap.size + 1 ≤ wi.heap.size ∧ wi.ownsRow (w.heap.size + 1) 2 1 u4 (cyc [p] n s).length (ints (cyc [p] n s)) ∧ CInv p n s V y) (fun l _ _ => n - (intOf l).toNat)
      case atStart => exact ⟨[], s, by first | rfl | go_num, rfl, HB.out, HROW.out, hsz, HO.out, CInv.start p n s hlt⟩
      case round =>
        clear HB HROW HO hsz
        obtain ⟨V, y, rfl, rfl, hbe, hrow, hsz, hown, hinv⟩ := hrel
        have HB := hide hbe
        have HROW := hide hrow
        have HO := hide hown
        have HI := hide hinv
        have hyn := hinv.yn
        have hmost := hinv.most
        have hy12 : (y : Int) < 12 := by omega
        have hynz : (y : Int) < n := by omega
        have hs1 := HROW.out.cell (i := y) (by omega)
        have hf1 := HROW.out.frozen y
        obtain ⟨b, o, rfl, hbw, hc⟩ := hr (by have := HN.out; omega)
        have hcy0 := hc y (by have := HN.out; omega)
        have hcy : wr.cell? ⟨b, o + y, none⟩ = some (.int .i64 (p.getD y 0)) := (HB.out.cell (p := ⟨b, o + y, none⟩) hbw).trans hcy0
        have hcys : ∀ u, (wr.setCell ⟨w.heap.size, y, none⟩ u).cell? ⟨b, o + y, none⟩ = some (.int .i64 (p.getD y 0)) := fun u => ((HB.out.setCell (p := ⟨w.heap.size, y, none⟩) (Nat.le_refl _) u).cell (p := ⟨b, o + y, none⟩) hbw).trans hcy0
        have hz := HG.out.at (r := 0) (v := y) (by simp) hyn
        have ez : ([p].getD 0 []) = p := rfl
        rw [ez] at hz
        obtain ⟨z, hz2⟩ := Int.eq_ofNat_of_zero_le hz.1
        rw [hz2] at hcy hcys
        have HZ : Hid ((p.getD y 0).toNat = z) := hide (by rw [hz2]; simp)
        clear hbe hrow hown hinv hc hcy0 hz ez hz2
        by_cases hsn : 0 ≤ (lab [p] s).1 y ∨ y ∈ V
        · have hs' : wr.cell? ⟨w.heap.size, y, none⟩ = some (.bool true) := by rw [hs1]; unfold seenV; rw [decide_eq_true hsn]
          have HSN := hide hsn
          clear hs1 hsn
          by_cases hls : 0 ≤ (lab [p] s).1 s
          · have hV : V = [] := by
              cases hV : V with
              | nil => rfl
              | cons a r =>
                have := HI.out.neg s (HI.out.e1 (by rw [hV]; simp))
                omega
            subst hV
            have hcs := cyc_stay [p] n s hls
            have hlb : lab [p] (s + 1) = lab [p] s := by rw [lab, if_pos hls]
            have HCS := hide hcs
            have HLB := hide hlb
            clear hcs hlb
            go_wp2_with fail
            go_roundw
            case rel => exact ⟨s + 1, by omega, by go_num, HB.out, by unfold seenV; rw [HLB.out]; exact HROW.out, hsz, by rw [HCS.out]; exact HO.out⟩
            case measure => simp [intOf]; omega
          · have hyV : y ∈ V := by
              rcases HSN.out with h | h
              · have := lab_free HG.out hlt (by omega) y HI.out.yr; omega
              · exact h
            have hnx := cyc_next [p] n s HG.out hlt (by omega) V HI.out.nd (fun u => HI.out.done hyV u)
            have hlb : lab [p] (s + 1) = (fun y => if Rch [p] s y then ((lab [p] s).2 : Int) else (lab [p] s).1 y, (lab [p] s).2 + 1) := by rw [lab, if_neg hls]
            have hse : seenV p (s + 1) [] = seenV p s V := by
              funext i
              unfold seenV
              rw [hlb]
              congr 1
              have hd := HI.out.done hyV i
              by_cases hr' : Rch [p] s i
              · simp [hr', hd.2 hr']
              · have : i ∉ V := fun e => hr' (hd.1 e)
                simp [hr', this]
            have hVp : 0 < V.length := List.length_pos_of_mem hyV
            obtain ⟨L, hL⟩ : ∃ L, V.length = L := ⟨_, rfl⟩
            have hLp : (0 : Int) < (L : Int) := by omega
            have hlenc : (cyc [p] n s).length ≤ 12 := by
              unfold cyc
              have := lab_le [p] s
              simp
              omega
            obtain ⟨K, hK⟩ : ∃ K, (cyc [p] n s).length = K := ⟨_, rfl⟩
            have HK := hide hK
            have HL := hide hL
            have HNX := hide hnx
            have HSE := hide hse
            have hown' := HO.out
            rw [hK] at hown' hlenc
            have HO2 := hide hown'
            rw [hL] at hmost ⊢
            clear hnx hlb hse hVp hK hL hown' hls
            go_wp2_with (at_builtin; refine wpList_append_own _ rfl _ _ 31 rfl (w.heap.size + 1) 2 i0 (.int .i64 0) 1 8 Try.underlying31 hi hz0 hz1 hz2 rfl (by decide) _ _ _ rfl (HO2.out.alloc _) ⟨wr.heap.size, 0, none⟩ 1 1 [.int .i64 (L : Int)] rfl rfl ?c1 ?c2 ?c3 ?c4 ?c5 ?_)
            case c1 => exact li_new
            case c2 => intro u hu; simp at hu; subst hu; rfl
            case c3 => unfold maxLen; omega
            case c4 => omega
            case c5 => simp; omega
            intro v' w7 hown' hgrow _
            have HO' := hide hown'
            have HGR := hide hgrow
            clear hown' hgrow
            go_wp2_with fail
            go_roundw
            case rel =>
              have hB7 : Below w.heap.size w w7 := (HB.out.alloc (by omega) _).grown HGR.out (by simp; omega) (fun g' hg' => by have := ((HO2.out.alloc (.cells #[.int .i64 (L : Int)] 2)).lt g' hg').1; omega)
              have e : ints (cyc [p] n s) ++ [.int .i64 (L : Int)] = ints (cyc [p] n (s + 1)) := by rw [HNX.out, HL.out]; simp [ints]
              refine ⟨s + 1, by omega, by go_num, hB7, ?_, by have := HGR.out.size; simp at this; omega, ?_⟩
              · rw [HSE.out]
                obtain ⟨cur, h1, h2, h3⟩ := HROW.out
                refine ⟨cur, ?_, h2, h3⟩
                have hlt7 : w.heap.size < wr.heap.size := by omega
                refine (HGR.out.block w.heap.size (by simp; omega) ?_).trans ((Below.heap_alloc _ _ _ hlt7).trans h1)
                intro e'
                have := ((HO2.out.alloc (.cells #[.int .i64 (L : Int)] 2)).lt _ e'.symm).1
                omega
              · have h := HO'.out
                rw [e] at h
                rw [HNX.out, List.length_append, HK.out]
                rw [HNX.out] at h
                exact h
            case measure => simp [intOf]; omega
        · have hs' : wr.cell? ⟨w.heap.size, y, none⟩ = some (.bool false) := by rw [hs1]; unfold seenV; rw [decide_eq_false hsn]
          have HSN := hide hsn
          have hyV : y ∉ V := fun h => hsn (.inr h)
          have hyl : (lab [p] s).1 y < 0 := by
            rcases Int.lt_or_le ((lab [p] s).1 y) 0 with h | h
            · exact h
            · exact absurd (.inl h) hsn
          have hpush := HI.out.push HG.out hyV hyl
          rw [HZ.out] at hpush
          have hm2 := hpush.most
          have HPU := hide hpush
          rw [List.length_append, List.length_singleton] at hm2
          obtain ⟨L, hL⟩ : ∃ L, V.length = L := ⟨_, rfl⟩
          have HL := hide hL
          rw [hL] at hm2 hmost ⊢
          clear hs1 hsn hpush hyV hyl hL
          go_wp2_with fail
          go_roundw
          case rel =>
            refine ⟨V ++ [y], z, by rw [List.length_append, HL.out]; go_num, by first | rfl | go_num, HB.out.setCell (Nat.le_refl _) _, (HROW.out.set y _).congr (fun i _ => seenV_push p s V y i), by simpa [World.setCell] using hsz, own_setFar HO.out (by omega), HPU.out⟩
          case measure => simp [intOf]; omega
    · have hsn : s = n := by omega
      subst hsn
      have hok := lab_ok [p] s s HG.out (Nat.le_refl _)
      have hpos : 0 < (cyc [p] s s).length := by
        unfold cyc
        have h1 := hok.all 0 (by omega)
        have h2 := hok.lt 0
        simp
        omega
      have hmax : (cyc [p] s s).length ≤ 12 := by
        unfold cyc
        have := lab_le [p] s
        simp
        omega
      obtain ⟨A5, c5, hv, hres⟩ := own_shape HO.out
      subst hv
      obtain ⟨K, hK⟩ : ∃ K, (cyc [p] s s).length = K := ⟨_, rfl⟩
      have HK := hide hK
      rw [hK] at hpos hmax ⊢
      rcases hres with ⟨_, e⟩ | ⟨g, rfl, hg, how⟩
      · rw [e] at hK; simp at hK; omega
      · have HW := hide how
        clear hK how hok hi
        go_wp2_with fail
        refine (sort_any g K c5 (cyc [p] s s) _ HK.out hmax HW.out).mono ?_
        rintro e w2 ⟨rfl, ho, ys, hperm, hsorted, how2⟩
        have HO2 := hide ho
        have HP2 := hide hperm
        have HS2 := hide hsorted
        have HW2 := hide how2
        clear ho hperm hsorted how2
        go_wp2_with fail
        go_ret
        exact ⟨_, _, ys, by rw [HK.out]; rfl, HB.out.trans (Only.below HO2.out (B := w.heap.size) (fun a ha => by cases ha; show w.heap.size ≤ g; omega) (by omega)), .inr ⟨g, rfl, by omega, HW2.out⟩, HP2.out, HS2.out⟩
end Go.Proofs.Ytgahmfkmhaeniaa
namespace Go.Proofs.Ytgahmfkmhaeniaa
open Go Go.RowKit
open Classical

/-- Where k times p lead y. -/
def it (p : List Int) : Nat → Nat → Nat
  | 0, y => y
  | k + 1, y => (p.getD (it p k y) 0).toNat
theorem it_add (p : List Int) (a b y : Nat) : it p (a + b) y = it p a (it p b y) := by
  induction a with
  | zero => rw [Nat.zero_add]; rfl
  | succ a ih => rw [Nat.succ_add]; unfold it; rw [ih]
theorem it_lt {p : List Int} {n : Nat} (hg : Gens [p] n) (k y : Nat) (hy : y < n) : it p k y < n := by
  induction k with
  | zero => exact hy
  | succ k ih =>
    have h := hg.at (r := 0) (v := it p k y) (by simp) ih
    have e : ([p].getD 0 []) = p := rfl
    rw [e] at h
    unfold it
    omega
theorem it_inj {p : List Int} {n : Nat} (hg : Gens [p] n) (k y z : Nat) (hy : y < n) (hz : z < n) (h : it p k y = it p k z) : y = z := by
  induction k with
  | zero => exact h
  | succ k ih =>
    unfold it at h
    exact ih (hg.inj (r := 0) (by simp) (it_lt hg k y hy) (it_lt hg k z hz) h)
theorem it_rch (p : List Int) (k y : Nat) : Rch [p] y (it p k y) := by
  induction k with
  | zero => exact .start
  | succ k ih => exact .step ih (stp_one p _)
theorem rch_it {p : List Int} {y u : Nat} (h : Rch [p] y u) : ∃ k, it p k y = u := by
  induction h with
  | start => exact ⟨0, rfl⟩
  | step _ hs ih =>
    obtain ⟨k, e⟩ := ih
    refine ⟨k + 1, ?_⟩
    unfold it
    rw [e]
    exact stp_of hs
theorem it_back {p : List Int} {n : Nat} (hg : Gens [p] n) (y i j : Nat) (hy : y < n) (hij : i ≤ j) (h : it p i y = it p j y) : it p (j - i) y = y := by
  have e : j = i + (j - i) := by omega
  rw [e, it_add] at h
  exact (it_inj hg i y _ hy (it_lt hg _ y hy) h).symm
/-- Some number of times leads back. -/
theorem it_some {p : List Int} {n : Nat} (hg : Gens [p] n) (y : Nat) (hy : y < n) : ∃ k, 1 ≤ k ∧ it p k y = y := by
  by_cases h : ∃ i j, i < j ∧ it p i y = it p j y
  · obtain ⟨i, j, hij, e⟩ := h
    exact ⟨j - i, by omega, it_back hg y i j hy (by omega) e⟩
  · have hnd : ((List.range (n + 1)).map fun k => it p k y).Nodup := by
      rw [List.nodup_iff_pairwise_ne, List.pairwise_map]
      refine List.Pairwise.imp ?_ List.pairwise_lt_range
      intro a b hab e
      exact h ⟨a, b, hab, e⟩
    have := natnd_le _ n (fun v hv => by
      obtain ⟨k, _, e⟩ := List.mem_map.1 hv
      rw [← e]
      exact it_lt hg k y hy) hnd
    simp at this
    omega
theorem least_ex (P : Nat → Prop) : ∀ m, P m → ∃ l, P l ∧ ∀ j, j < l → ¬ P j := by
  intro m
  induction m using Nat.strongRecOn with
  | _ m ih =>
    intro hm
    by_cases h : ∃ j, j < m ∧ P j
    · obtain ⟨j, hj, hp⟩ := h
      exact ih j hj hp
    · exact ⟨m, hm, fun j hj hp => h ⟨j, hj, hp⟩⟩
/-- The cycle of an element: its length divides just the numbers of times that lead back. -/
theorem it_cycle {p : List Int} {n : Nat} (hg : Gens [p] n) (y : Nat) (hy : y < n) : ∃ V : List Nat, V.Nodup ∧ (∀ u, u ∈ V ↔ Rch [p] y u) ∧ ∀ k, it p k y = y ↔ V.length ∣ k := by
  obtain ⟨k0, hk0, e0⟩ := it_some hg y hy
  obtain ⟨L, ⟨hL1, hLe⟩, hLm⟩ := least_ex (fun k => 1 ≤ k ∧ it p k y = y) k0 ⟨hk0, e0⟩
  have hmod : ∀ k, it p k y = it p (k % L) y := by
    intro k
    have hq : ∀ q r, it p (r + q * L) y = it p r y := by
      intro q
      induction q with
      | zero => intro r; simp
      | succ q ih =>
        intro r
        have e : r + (q + 1) * L = (r + q * L) + L := by rw [Nat.succ_mul]; omega
        rw [e, it_add, hLe, ih]
    have := hq (k / L) (k % L)
    rw [Nat.mod_add_div' k L] at this
    exact this
  refine ⟨(List.range L).map fun k => it p k y, ?_, fun u => ?_, fun k => ?_⟩
  · rw [List.nodup_iff_pairwise_ne, List.pairwise_map]
    refine List.Pairwise.imp_of_mem ?_ (List.pairwise_lt_range (n := L))
    intro a b _ hb hab e
    have hb' := List.mem_range.1 hb
    exact hLm (b - a) (by omega) ⟨by omega, it_back hg y a b hy (by omega) e⟩
  · constructor
    · intro hu
      obtain ⟨k, _, e⟩ := List.mem_map.1 hu
      rw [← e]
      exact it_rch p k y
    · intro hu
      obtain ⟨k, e⟩ := rch_it hu
      rw [← e, hmod k]
      exact List.mem_map.2 ⟨k % L, List.mem_range.2 (Nat.mod_lt _ (by omega)), rfl⟩
  · rw [List.length_map, List.length_range]
    constructor
    · intro h
      rw [hmod k] at h
      have hlt : k % L < L := Nat.mod_lt _ (by omega)
      by_cases h0 : k % L = 0
      · exact Nat.dvd_of_mod_eq_zero h0
      · exact absurd ⟨by omega, h⟩ (hLm (k % L) hlt)
    · intro h
      rw [hmod k, Nat.mod_eq_zero_of_dvd h]
      rfl

theorem rch_symm {rows : List (List Int)} {n : Nat} (hg : Gens rows n) {x y : Nat} (hx : x < n) (h : Rch rows x y) : Rch rows y x := by
  induction h with
  | start => exact .start
  | @step a b h1 hs ih =>
    have ha := hg.stay hx h1
    have hb : b < n := hg.stay hx (.step h1 hs)
    exact (hg.back hb ha hs .start).trans ih
theorem lab_same {rows : List (List Int)} {n : Nat} (hg : Gens rows n) (k : Nat) (hk : k ≤ n) (y u : Nat) (hy : y < n) (h0 : 0 ≤ (lab rows k).1 y) : (lab rows k).1 u = (lab rows k).1 y ↔ Rch rows y u := by
  induction k with
  | zero => simp [lab] at h0
  | succ k ih =>
    have ih := ih (by omega)
    by_cases hl : 0 ≤ (lab rows k).1 k
    · have e : lab rows (k + 1) = lab rows k := by rw [lab, if_pos hl]
      rw [e] at h0 ⊢
      exact ih h0
    · have e : lab rows (k + 1) = (fun y => if Rch rows k y then ((lab rows k).2 : Int) else (lab rows k).1 y, (lab rows k).2 + 1) := by rw [lab, if_neg hl]
      have hok := lab_ok rows n k hg (by omega)
      rw [e] at h0 ⊢
      have h0' : 0 ≤ (if Rch rows k y then ((lab rows k).2 : Int) else (lab rows k).1 y) := h0
      show (if Rch rows k u then ((lab rows k).2 : Int) else (lab rows k).1 u) = (if Rch rows k y then ((lab rows k).2 : Int) else (lab rows k).1 y) ↔ Rch rows y u
      by_cases hry : Rch rows k y
      · rw [if_pos hry]
        by_cases hru : Rch rows k u
        · rw [if_pos hru]
          exact ⟨fun _ => (rch_symm hg (by omega) hry).trans hru, fun _ => rfl⟩
        · rw [if_neg hru]
          have := hok.lt u
          exact ⟨fun h => by omega, fun h => absurd (hry.trans h) hru⟩
      · rw [if_neg hry] at h0' ⊢
        by_cases hru : Rch rows k u
        · rw [if_pos hru]
          have := hok.lt y
          refine ⟨fun h => by omega, fun h => absurd (hru.trans (rch_symm hg hy h)) hry⟩
        · rw [if_neg hru]
          exact ih h0'
/-- The numbers of times that lead all elements back are the multiples of all lengths. -/
theorem it_all {p : List Int} {n : Nat} (hg : Gens [p] n) (k : Nat) : (∀ y, y < n → it p k y = y) ↔ ∀ v ∈ cyc [p] n n, v.toNat ∣ k := by
  have hok := lab_ok [p] n n hg (Nat.le_refl _)
  have hcnt : ∀ y, y < n → ∀ o : Nat, (lab [p] n).1 y = (o : Int) → (it p k y = y ↔ cnt (lab [p] n).1 n o ∣ k) := by
    intro y hy o ho
    obtain ⟨V, h1, h2, h3⟩ := it_cycle hg y hy
    rw [h3 k, cnt_list _ n o V h1 (fun u => ?_)]
    rw [h2 u, ← lab_same hg n (Nat.le_refl _) y u hy (by omega), ho]
    constructor
    · intro h
      have hr := (lab_same hg n (Nat.le_refl _) y u hy (by omega)).1 (by rw [h, ho])
      exact ⟨hg.stay hy hr, h⟩
    · exact fun h => h.2
  unfold cyc
  constructor
  · intro h v hv
    obtain ⟨o, ho, e⟩ := List.mem_map.1 hv
    obtain ⟨y, hy, hyo⟩ := hok.onto o (List.mem_range.1 ho)
    rw [← e, Int.toNat_natCast]
    exact (hcnt y hy o hyo).1 (h y hy)
  · intro h y hy
    have h0 := hok.all y hy
    have hlt := hok.lt y
    obtain ⟨o, ho⟩ := Int.eq_ofNat_of_zero_le h0
    refine (hcnt y hy o ho).2 ?_
    have := h ((cnt (lab [p] n).1 n o : Nat) : Int) (List.mem_map.2 ⟨o, List.mem_range.2 (by omega), rfl⟩)
    rwa [Int.toNat_natCast] at this
end Go.Proofs.Ytgahmfkmhaeniaa
namespace Go.Proofs.Ytgahmfkmhaeniaa
open Go Go.RowKit
set_option maxHeartbeats 1000000

theorem gcd_any (a b : Nat) (w : World) (ha : a ≤ 1000000000000000000) (hb : b ≤ 1000000000000000000) :
    Calls Try.prog 141 #[.int .i64 a, .int .i64 b] w fun e w' => e = .returned (.int .i64 (Nat.gcd a b)) ∧ Quiet w w' := by
  go_enter Try.func141, Try.ntmps141
  go_wp2_with fail
  go_loopw [0, 1] (fun x y wr => ∃ u v : Nat, x = .int .i64 u ∧ y = .int .i64 v ∧ u ≤ 1000000000000000000 ∧ v ≤ 1000000000000000000 ∧ Nat.gcd u v = Nat.gcd a b ∧ Quiet w wr) (fun _ y _ => (intOf y).toNat)
  case atStart => exact ⟨a, b, rfl, rfl, ha, hb, rfl, Quiet.refl _⟩
  case round =>
    obtain ⟨u, v, rfl, rfl, hu, hv, hg, hq⟩ := hrel
    have HG := hide hg
    have HQ := hide hq
    clear hg hq
    by_cases hv0 : v = 0
    · subst hv0
      have hgu : Nat.gcd a b = u := by rw [← HG.out]; simp
      go_wp2_with fail
      go_ret
      exact ⟨by rw [hgu]; rfl, HQ.out⟩
    · have hv0z : ¬ (v : Int) = 0 := by omega
      have hne : ((v : Int) != 0) = true := by simpa using hv0
      have hmod : ((u : Int)).tmod (v : Int) = ((u % v : Nat) : Int) := by rw [Int.ofNat_tmod]
      have hlt : u % v < v := Nat.mod_lt u (by omega)
      have hgg : Nat.gcd v (u % v) = Nat.gcd a b := by rw [← HG.out, Nat.gcd_comm u v, Nat.gcd_rec v u, Nat.gcd_comm]
      obtain ⟨m, hm⟩ : ∃ m, u % v = m := ⟨_, rfl⟩
      rw [hm] at hmod hlt hgg
      have HGG := hide hgg
      clear hm hgg
      go_wp2_with fail
      go_region
      go_wp2_with fail
      go_roundw
      case rel => exact ⟨v, m, rfl, rfl, hv, by omega, HGG.out, HQ.out.drewN 1⟩
      case measure => simp [intOf]; omega
end Go.Proofs.Ytgahmfkmhaeniaa
namespace Go.Proofs.Ytgahmfkmhaeniaa
open Go Go.RowKit
set_option maxHeartbeats 1000000

theorem lcm_any (a b : Nat) (w : World) (ha : 1 ≤ a) (hb : 1 ≤ b) (hab : a * b ≤ 1000000000000000000) :
    Calls Try.prog 126 #[.int .i64 a, .int .i64 b] w fun e w' => e = .returned (.int .i64 (Nat.lcm a b)) ∧ Quiet w w' := by
  have ha2 : a ≤ 1000000000000000000 := Nat.le_trans (Nat.le_mul_of_pos_right a hb) hab
  have hb2 : b ≤ 1000000000000000000 := Nat.le_trans (Nat.le_mul_of_pos_left b ha) hab
  obtain ⟨u, hu⟩ : ∃ u, Nat.gcd a b = u := ⟨_, rfl⟩
  have hud : u ∣ a := by rw [← hu]; exact Nat.gcd_dvd_left a b
  have hu1 : 1 ≤ u := by rw [← hu]; exact Nat.gcd_pos_of_pos_left b ha
  have hula : u ≤ a := Nat.le_of_dvd ha hud
  have hq1 : ((a : Int)).tdiv (u : Int) = ((a / u : Nat) : Int) := by rw [Int.ofNat_tdiv]
  have hq2 : a / u ≤ a := Nat.div_le_self a u
  have hl : a / u * b = Nat.lcm a b := by
    unfold Nat.lcm
    rw [hu, Nat.div_mul_right_comm hud]
  have hle : a / u * b ≤ 1000000000000000000 := Nat.le_trans (Nat.mul_le_mul_right b hq2) hab
  obtain ⟨m, hm⟩ : ∃ m, a / u = m := ⟨_, rfl⟩
  rw [hm] at hq1 hl hle hq2
  have hl2 : ((m : Int)) * (b : Int) = ((Nat.lcm a b : Nat) : Int) := by rw [← hl]; simp
  have hl3 : Nat.lcm a b ≤ 1000000000000000000 := by rw [← hl]; exact hle
  obtain ⟨r, hr⟩ : ∃ r, Nat.lcm a b = r := ⟨_, rfl⟩
  rw [hr] at hl2 hl3 ⊢
  have hu0 : ¬ (u : Int) = 0 := by omega
  have HU := hide hu
  clear hud hm hl hle hr hab hu
  go_enter Try.func126, Try.ntmps126
  go_wp2_with fail
  refine (gcd_any a b _ ha2 hb2).mono ?_
  rintro e w1 ⟨rfl, hq1'⟩
  rw [HU.out]
  have HQ := hide hq1'
  clear hq1'
  go_wp2_with fail
  go_ret
  exact ⟨rfl, HQ.out⟩
end Go.Proofs.Ytgahmfkmhaeniaa
namespace Go.Proofs.Ytgahmfkmhaeniaa
open Go Go.RowKit
open Classical
set_option maxHeartbeats 1000000

/-- The least common multiple of the first i of a list. -/
def ordTo (ys : List Int) : Nat → Nat
  | 0 => 1
  | i + 1 => Nat.lcm (ordTo ys i) (ys.getD i 0).toNat
theorem ordTo_range (ys : List Int) (i : Nat) (hi : i ≤ ys.length) (h : ∀ y ∈ ys, 1 ≤ y ∧ y ≤ 12) : 1 ≤ ordTo ys i ∧ ordTo ys i ≤ 12 ^ i := by
  induction i with
  | zero => simp [ordTo]
  | succ i ih =>
    have ih := ih (by omega)
    have hm : ys.getD i 0 ∈ ys := by have : i < ys.length := (by omega); simp [this]
    have hy := h _ hm
    unfold ordTo
    have hp : 0 < Nat.lcm (ordTo ys i) (ys.getD i 0).toNat := Nat.lcm_pos (by omega) (by omega)
    refine ⟨hp, ?_⟩
    have h1 : Nat.lcm (ordTo ys i) (ys.getD i 0).toNat ≤ ordTo ys i * (ys.getD i 0).toNat := Nat.div_le_self _ _
    have h2 : ordTo ys i * (ys.getD i 0).toNat ≤ 12 ^ i * 12 := Nat.mul_le_mul ih.2 (by omega)
    rw [Nat.pow_succ]
    omega
theorem ordTo_dvd (ys : List Int) (k i : Nat) : ordTo ys i ∣ k ↔ ∀ j, j < i → (ys.getD j 0).toNat ∣ k := by
  induction i with
  | zero => simp [ordTo]
  | succ i ih =>
    unfold ordTo
    rw [Nat.lcm_dvd_iff, ih]
    constructor
    · rintro ⟨h1, h2⟩ j hj
      by_cases e : j = i
      · subst e; exact h2
      · exact h1 j (by omega)
    · intro h
      exact ⟨fun j hj => h j (by omega), h i (by omega)⟩
theorem cyc_range (p : List Int) (n : Nat) (h12 : n ≤ 12) (hg : Gens [p] n) : ∀ y ∈ cyc [p] n n, 1 ≤ y ∧ y ≤ 12 := by
  intro v hv
  have hok := lab_ok [p] n n hg (Nat.le_refl _)
  unfold cyc at hv
  obtain ⟨o, ho, e⟩ := List.mem_map.1 hv
  have hol := List.mem_range.1 ho
  obtain ⟨y, hy, hyo⟩ := hok.onto o hol
  have h1 : cnt (lab [p] n).1 n o ≤ n := by
    unfold cnt
    have := List.countP_le_length (p := fun y => (lab [p] n).1 y == (o : Int)) (l := List.range n)
    simpa using this
  have h2 : 0 < cnt (lab [p] n).1 n o := by
    unfold cnt
    rw [List.countP_pos_iff]
    exact ⟨y, List.mem_range.2 hy, by simp [hyo]⟩
  omega

theorem order_any (A : Option Addr) (n c : Nat) (p : List Int) (w : World) (hn : p.length = n) (hp : Prm p) (hr : Rd w A p) :
    Calls Try.prog 92 #[.slice A n c] w fun e w' => ∃ ys : List Int, ys.Perm (cyc [p] n n) ∧ e = .returned (.int .i64 (ordTo ys ys.length)) ∧ Below w.heap.size w w' := by
  have h12 : n ≤ 12 := by have := hp.2.1; omega
  have hcr := cyc_range p n h12 (gens_one hn hp)
  have HCR := hide hcr
  have hcl : (cyc [p] n n).length ≤ 12 := by
    unfold cyc
    have := lab_le [p] n
    simp
    omega
  clear hcr
  go_enter Try.func92, Try.ntmps92
  go_wp2_with fail
  refine (cycles_any _ n _ p _ hn hp hr).mono ?_
  rintro e w2 ⟨A2, c2, ys, rfl, hb2, hres, hpe, hso⟩
  have hrange : ∀ y ∈ ys, 1 ≤ y ∧ y ≤ 12 := fun y hy => HCR.out y (hpe.mem_iff.1 hy)
  have hl := hpe.length_eq
  rw [← hl] at hcl ⊢
  obtain ⟨L, hL⟩ : ∃ L, ys.length = L := ⟨_, rfl⟩
  have HL := hide hL
  rw [hL] at hcl ⊢
  have HRG := hide hrange
  have HB := hide hb2
  have HRD := hide hres.rd
  have HPE := hide hpe
  clear hb2 hres hpe hso hrange hl hL
  go_wp2_with fail
  go_loopw [3, 9] (fun o i wr => ∃ k : Nat, k ≤ L ∧ i = .int .i64 k ∧ o = .int .i64 (ordTo ys k) ∧ Quiet w2 wr) (fun _ i _ => L - (intOf i).toNat)
  case atStart => exact ⟨0, Nat.zero_le _, rfl, rfl, Quiet.refl _⟩
  case round =>
    obtain ⟨k, hk, rfl, rfl, hq⟩ := hrel
    have HQ := hide hq
    clear hq
    have hrk := ordTo_range ys k (by have := HL.out; omega) HRG.out
    have hpow : 12 ^ k ≤ 12 ^ 12 := Nat.pow_le_pow_right (by omega) (by omega)
    by_cases hlt : k < L
    · have hltz : (k : Int) < L := by omega
      obtain ⟨b, o, rfl, _, hc⟩ := HQ.out.rd HRD.out (by have := HL.out; omega)
      have hc1 := hc k (by have := HL.out; omega)
      have hm : ys.getD k 0 ∈ ys := by have : k < ys.length := (by have := HL.out; omega); simp [this]
      have hy := HRG.out _ hm
      have hs : ordTo ys (k + 1) = Nat.lcm (ordTo ys k) (ys.getD k 0).toNat := rfl
      obtain ⟨y, hye⟩ := Int.eq_ofNat_of_zero_le (show 0 ≤ ys.getD k 0 by omega)
      rw [hye] at hc1 hy hs
      rw [Int.toNat_natCast] at hs
      obtain ⟨m, hme⟩ : ∃ m, ordTo ys k = m := ⟨_, rfl⟩
      rw [hme] at hs hrk ⊢
      have HS := hide hs
      have hmb : m ≤ 8916100448256 := by have : (12 : Nat) ^ 12 = 8916100448256 := (by decide); omega
      have hprod : m * y ≤ 1000000000000000000 := by
        have := Nat.mul_le_mul hmb (show y ≤ 12 by omega)
        omega
      clear hc hm hye hme hs hpow
      go_wp2_with fail
      refine (lcm_any m y _ hrk.1 (by omega) hprod).mono ?_
      rintro e w3 ⟨rfl, hq3⟩
      have HQ3 := hide (HQ.out.trans hq3)
      clear hq3
      go_wp2_with fail
      go_roundw
      case rel => exact ⟨k + 1, by omega, by go_num, by rw [HS.out], HQ3.out⟩
      case measure => simp [intOf]; omega
    · have hkL : k = L := by omega
      subst hkL
      go_wp2_with fail
      go_ret
      exact ⟨ys, HPE.out, by rw [HL.out]; rfl, HB.out.trans (HQ.out.below _)⟩
end Go.Proofs.Ytgahmfkmhaeniaa
namespace Go.Proofs.Ytgahmfkmhaeniaa
open Go Go.RowKit
set_option maxHeartbeats 1000000

theorem oaInfo : (Try.prog.info? 2).map (fun i => (i.zero, i.size, i.bytes)) = some (some (.int .i64 0), 1, 8) := by kernel_rfl
theorem oa_empty (w : World) (t : TypeId) : (w.alloc (.cells #[] t)).ownsRow w.heap.size t 1 (.slice (some ⟨w.heap.size, 0, none⟩) 0 0) 0 [] :=
  ⟨by simp, .inr ⟨w.heap.size, 0, #[], rfl, Nat.le_refl _, heap_alloc_new _ _, Nat.le_refl _, by unfold maxLen; omega, by simp, by simp⟩⟩

theorem oa_cells {w : World} {b o : Nat} {xs : List Int} {obj : Obj} (hc : ∀ i, i < xs.length → w.cell? ⟨b, o + i, none⟩ = some (.int .i64 (xs.getD i 0))) (hb : b < w.heap.size) : ∀ j u, (ints xs)[j]? = some u → (w.alloc obj).cell? ((⟨b, o, none⟩ : Addr).add j) = some u := by
  intro j u hj
  have hl : j < xs.length := by
    have := (List.getElem?_eq_some_iff.1 hj).1
    rw [ints_length] at this
    exact this
  have e : (⟨b, o, none⟩ : Addr).add j = ⟨b, o + j, none⟩ := by
    unfold Addr.add
    by_cases h : j = 0
    · subst h; simp
    · simp [h]
  rw [e, World.cell?_alloc_lt w _ _ hb, hc j hl, ← hj]
  simp [ints, hl]

theorem ownA_any (b o : Nat) (n c : Nat) (xs : List Int) (w : World) (hn : xs.length = n) (hbn : n ≤ 1048576) (hb : b < w.heap.size) (hc : ∀ i, i < xs.length → w.cell? ⟨b, o + i, none⟩ = some (.int .i64 (xs.getD i 0))) :
    Calls Try.prog 123 #[.slice (some ⟨b, o, none⟩) n c] w fun e w' => ∃ v, e = .returned v ∧ Below w.heap.size w w' ∧ w'.ownsRow w.heap.size 2 1 v n (ints xs) := by
  have HN := hide hn
  have hcc := oa_cells (obj := .cells #[] 2) hc hb
  have HC := hide hcc
  clear hn hc hcc
  obtain ⟨i0, hi, hz0, hz1, hz2⟩ := info_parts oaInfo
  go_enter Try.func123, Try.ntmps123
  go_wp2_with (at_builtin; refine wpList_append_own _ rfl _ _ 31 rfl w.heap.size 2 i0 (.int .i64 0) 1 8 Try.underlying31 hi hz0 hz1 hz2 rfl (by decide) _ _ _ rfl (oa_empty w 2) ⟨b, o, none⟩ n c (ints xs) rfl ?c1 HC.out ?c2 ?c3 ?c4 ?c5 ?_)
  case c1 => rw [ints_length]; have := HN.out; omega
  case c2 => intro u hu; simp [ints] at hu; obtain ⟨_, _, rfl⟩ := hu; rfl
  case c3 => unfold maxLen; omega
  case c4 => omega
  case c5 => simp
  intro v' w1 hown' hgrow _
  have HO' := hide hown'
  have HG := hide hgrow
  clear hown' hgrow
  go_wp2_with fail
  go_ret
  have h := HO'.out
  have hB : Below w.heap.size w w1 := ((Below.refl _ _).alloc (Nat.le_refl _) _).grown HG.out (by simp) (fun g hg => ((oa_empty w 2).lt g hg).1)
  exact ⟨v', rfl, hB, h⟩
end Go.Proofs.Ytgahmfkmhaeniaa
namespace Go.Proofs.Ytgahmfkmhaeniaa
open Go Go.RowKit
open Classical
set_option maxHeartbeats 2000000

def itL (p : List Int) (n k : Nat) : List Int := (List.range n).map fun (y : Nat) => ((it p k y : Nat) : Int)
theorem itL_length (p : List Int) (n k : Nat) : (itL p n k).length = n := by simp [itL]
theorem itL_unit (p : List Int) (n k : Nat) : itL p n k = unitN n ↔ ∀ y, y < n → it p k y = y := by
  unfold itL unitN
  constructor
  · intro h y hy
    have e := congrArg (fun l => l.getD y 0) h
    simp [hy] at e
    omega
  · intro h
    refine List.map_congr_left (fun y hy => ?_)
    rw [h y (List.mem_range.1 hy)]
theorem itL_next {p : List Int} {n : Nat} (hg : Gens [p] n) (k : Nat) : thenL (itL p n k) p = itL p n (k + 1) := by
  unfold thenL itL
  rw [List.map_map]
  refine List.map_congr_left (fun y hy => ?_)
  have hlt := it_lt hg k y (List.mem_range.1 hy)
  have h := hg.at (r := 0) (v := it p k y) (by simp) hlt
  have e : ([p].getD 0 []) = p := rfl
  rw [e] at h
  show p.getD ((it p k y : Nat) : Int).toNat 0 = ((it p (k + 1) y : Nat) : Int)
  rw [Int.toNat_natCast]
  show _ = (((p.getD (it p k y) 0).toNat : Nat) : Int)
  omega
theorem itL_one {p : List Int} {n : Nat} (hn : p.length = n) (hg : Gens [p] n) : itL p n 1 = p := by
  apply List.ext_getElem
  · rw [itL_length, hn]
  · intro y h1 h2
    rw [itL_length] at h1
    have h := hg.at (r := 0) (v := y) (by simp) h1
    have e : ([p].getD 0 []) = p := rfl
    rw [e] at h
    have e2 : p.getD y 0 = p[y] := by simp [h2]
    simp only [itL, List.getElem_map, List.getElem_range, it]
    rw [e2] at h ⊢
    omega
theorem itL_range {p : List Int} {n : Nat} (hg : Gens [p] n) (k : Nat) : ∀ x ∈ itL p n k, 0 ≤ x ∧ x < (n : Int) := by
  intro x hx
  obtain ⟨y, hy, e⟩ := List.mem_map.1 hx
  have := it_lt hg k y (List.mem_range.1 hy)
  omega

def OrdRes (p : List Int) (v : Int) (code : Int) : Prop := (Prm p ∧ (∃ m : Nat, v = (m : Int) ∧ 1 ≤ m ∧ m ≤ 12 ^ 12 ∧ ∀ k, (∀ y, y < p.length → it p k y = y) ↔ m ∣ k) ∧ code = 0) ∨ (¬ Prm p ∧ v = 0 ∧ code = 1)
theorem ord_of (p ys : List Int) (n : Nat) (hn : p.length = n) (hp : Prm p) (h : ys.Perm (cyc [p] n n)) : 1 ≤ ordTo ys ys.length ∧ ordTo ys ys.length ≤ 12 ^ 12 ∧ ∀ k, (∀ y, y < n → it p k y = y) ↔ ordTo ys ys.length ∣ k := by
  have hg := gens_one hn hp
  have h12 : n ≤ 12 := by have := hp.2.1; omega
  have hcr := cyc_range p n h12 hg
  have hcl : ys.length ≤ 12 := by
    rw [h.length_eq]
    unfold cyc
    have := lab_le [p] n
    simp
    omega
  have hr := ordTo_range ys ys.length (Nat.le_refl _) (fun y hy => hcr y (h.mem_iff.1 hy))
  refine ⟨hr.1, Nat.le_trans hr.2 (Nat.pow_le_pow_right (by omega) hcl), fun k => ?_⟩
  rw [it_all hg k, ordTo_dvd]
  constructor
  · intro hk j hj
    exact hk _ (h.mem_iff.1 (by simp [hj]))
  · intro hk v hv
    obtain ⟨j, hj, e⟩ := List.getElem_of_mem (h.mem_iff.2 hv)
    have := hk j hj
    simp [hj, e] at this
    exact this
theorem OrdRes.ex (p : List Int) : ∃ v code, OrdRes p v code := by
  by_cases h : Prm p
  · have := ord_of p (cyc [p] p.length p.length) p.length rfl h (List.Perm.refl _)
    exact ⟨_, _, .inl ⟨h, ⟨_, rfl, this.1, this.2.1, this.2.2⟩, rfl⟩⟩
  · exact ⟨_, _, .inr ⟨h, rfl, rfl⟩⟩

theorem l01Order_any (A : Option Addr) (n c : Nat) (p : List Int) (m : Nat) (w : World) (hn : p.length = n) (hp : Prm p) (hr : Rd w A p) (hm1 : 1 ≤ m) (hm2 : m ≤ 12 ^ 12) (hm : ∀ k, (∀ y, y < n → it p k y = y) ↔ m ∣ k) :
    Calls Try.prog 91 #[.slice A n c] w fun e w' => e = .returned (.int .i64 m) ∧ Below w.heap.size w w' := by
  have h1n : 1 ≤ n := by have := hp.1; omega
  have h12 : n ≤ 12 := by have := hp.2.1; omega
  have hm3 : m ≤ 8916100448256 := by have : (12 : Nat) ^ 12 = 8916100448256 := (by decide); omega
  have HN := hide hn
  have HG := hide (gens_one hn hp)
  have HM := hide hm
  have HONE := hide (itL_one hn (gens_one hn hp))
  clear hn hp hm hm2
  go_enter Try.func91, Try.ntmps91
  go_wp2_with fail
  refine (l01Unit_any n _ (by omega)).mono ?_
  rintro e w1 ⟨A1, c1, rfl, hb1, hres1⟩
  have HB1 := hide hb1
  have HU1 := hide hres1.rd
  clear hb1 hres1
  obtain ⟨b, o, rfl, hbw, hc⟩ := hr (by have := HN.out; omega)
  have hs1 := HB1.out.size
  have HC := hide hc
  clear hc
  go_wp2_with fail
  refine (ownA_any b o n c p _ HN.out (by omega) (by omega) (fun i hi => (HB1.out.cell (p := ⟨b, o + i, none⟩) hbw).trans (HC.out i hi))).mono ?_
  rintro e w2 ⟨v2, rfl, hb2, how2⟩
  obtain ⟨A2, c2, hv2, hres2⟩ := own_shape how2
  subst hv2
  have HB2 := hide (HB1.out.trans (hb2.mono hs1))
  have HU2 := hide (HU1.out.later hb2)
  have HW2 := hide hres2.rd
  clear hb2 how2 hres2
  go_wp2_with fail
  go_loopw [4, 5] (fun v kk wr => ∃ (k : Nat) (A' : Option Addr) (c' : Nat), 1 ≤ k ∧ k ≤ m ∧ kk = .int .i64 k ∧ v = .slice A' n c' ∧ Below w.heap.size w wr ∧ Rd wr A' (itL p n k) ∧ Rd wr A1 (unitN n)) (fun _ kk _ => m - (intOf kk).toNat)
  case atStart => exact ⟨1, A2, c2, Nat.le_refl _, hm1, by first | rfl | go_num, rfl, HB2.out, by rw [HONE.out]; exact HW2.out, HU2.out⟩
  case round =>
    clear HB2 HU2 HW2
    obtain ⟨k, A', c', hk1, hkm, rfl, rfl, hbe, hrd, hun⟩ := hrel
    have HB := hide hbe
    have HRD := hide hrd
    have HUN := hide hun
    have hs := hbe.size
    clear hbe hrd hun
    by_cases hlast : m ∣ k
    · have hkm' : k = m := Nat.le_antisymm hkm (Nat.le_of_dvd (by omega) hlast)
      have heq : itL p n k = unitN n := (itL_unit p n k).2 ((HM.out k).2 hlast)
      have HEQ := hide heq
      clear heq hlast
      subst hkm'
      go_wp2_with fail
      refine (same_any _ _ n _ n _ (itL p n k) (unitN n) true _ (itL_length _ _ _) (unitN_length _) (by omega) (by omega) HRD.out HUN.out (by simp [HEQ.out])).mono ?_
      rintro e w3 ⟨rfl, hq3⟩
      have HQ3 := hide hq3
      clear hq3
      go_wp2_with fail
      go_ret
      exact ⟨rfl, HB.out.trans (HQ3.out.below _)⟩
    · have hne : itL p n k ≠ unitN n := fun h => hlast ((HM.out k).1 ((itL_unit p n k).1 h))
      have hkm' : k < m := by
        rcases Nat.lt_or_ge k m with h | h
        · exact h
        · exact absurd (by have : k = m := (by omega); rw [this]; exact Nat.dvd_refl m) hlast
      have HNE := hide hne
      clear hne hlast
      go_wp2_with fail
      refine (same_any _ _ n _ n _ (itL p n k) (unitN n) false _ (itL_length _ _ _) (unitN_length _) (by omega) (by omega) HRD.out HUN.out (by simp [HNE.out])).mono ?_
      rintro e w3 ⟨rfl, hq3⟩
      have HB3 := hide (HB.out.trans (hq3.below _))
      have HRD3 := hide (HRD.out.later (hq3.below _))
      have HUN3 := hide (HUN.out.later (hq3.below _))
      have hs3 := HB3.out.size
      clear hq3
      go_wp2_with fail
      refine (l01Then_any _ _ n _ n _ (itL p n k) p _ (itL_length _ _ _) HN.out (by omega) (by omega) HRD3.out (hr.later HB3.out) (itL_range HG.out k)).mono ?_
      rintro e w4 ⟨A4, c4, rfl, hb4, hres4⟩
      have HB4 := hide (HB3.out.trans (hb4.mono hs3))
      have HUN4 := hide (HUN3.out.later hb4)
      have hrd4 := hres4.rd
      rw [itL_next HG.out k] at hrd4
      have HRD4 := hide hrd4
      clear hb4 hres4 hrd4
      go_wp2_with fail
      go_roundw
      case rel => exact ⟨k + 1, A4, c4, by omega, by omega, by go_num, rfl, HB4.out, HRD4.out, HUN4.out⟩
      case measure => simp [intOf]; omega

end Go.Proofs.Ytgahmfkmhaeniaa
namespace Go.Proofs.Ytgahmfkmhaeniaa
open Go Go.RowKit

/-- What is asked of the function value: for each three elements, in each later world, it says whether they are as asked, and leaves what there was. -/
def BoolFn3 (P : Program) (F : FuncId) (lb : Array Value) (n : Nat) (q : Nat → Nat → Nat → Bool) (w : World) : Prop :=
  ∀ (W : World) (x y z : Nat), x < n → y < n → z < n → Below w.heap.size w W → Calls P F (#[.int .i64 x, .int .i64 y, .int .i64 z] ++ lb) W fun e w' => e = .returned (.bool (q x y z)) ∧ Below W.heap.size W w'
theorem BoolFn3.later {P : Program} {F : FuncId} {lb : Array Value} {n : Nat} {q : Nat → Nat → Nat → Bool} {w w' : World} (hc : BoolFn3 P F lb n q w) (hb : Below w.heap.size w w') : BoolFn3 P F lb n q w' :=
  fun W x y z hx hy hz hw => hc W x y z hx hy hz (hb.trans (hw.mono hb.size))

/-- What is said of the list of number T. -/
def qAt (q : Nat → Nat → Nat → Bool) (n T : Nat) : Bool := q (trip n T).1 (trip n T).2.1 (trip n T).2.2
theorem qAt_at {q : Nat → Nat → Nat → Bool} {n x y z : Nat} (hy : y < n) (hz : z < n) : qAt q n ((x * n + y) * n + z) = q x y z := by
  unfold qAt
  rw [trip_of hy hz]
/-- T is the first that is as asked, or behind all. -/
def FirstQ (q : Nat → Nat → Nat → Bool) (n T : Nat) : Prop := (∀ i, i < T → qAt q n i = false) ∧ T ≤ n * n * n ∧ (T < n * n * n → qAt q n T = true)
theorem FirstQ.bad {q : Nat → Nat → Nat → Bool} {n T k : Nat} (h : FirstQ q n T) (h1 : ∀ i, i < k → qAt q n i = false) (hk : k < n * n * n) (h2 : qAt q n k = true) : T = k := by
  have a : ¬ k < T := fun h3 => by have := h.1 k h3; rw [h2] at this; exact absurd this (by simp)
  have b : ¬ T < k := fun h3 => by have := h1 T h3; rw [h.2.2 (by omega)] at this; exact absurd this (by simp)
  omega
theorem FirstQ.all {q : Nat → Nat → Nat → Bool} {n T : Nat} (h : FirstQ q n T) (h1 : ∀ i, i < n * n * n → qAt q n i = false) : T = n * n * n := by
  have a := h.2.1
  have b : ¬ T < n * n * n := fun h3 => by have := h1 T h3; rw [h.2.2 h3] at this; exact absurd this (by simp)
  omega
theorem FirstQ.ex (q : Nat → Nat → Nat → Bool) (n : Nat) : ∃ T, FirstQ q n T := by
  have h : ∀ k, k ≤ n * n * n → (∀ i, i < k → qAt q n i = false) ∨ ∃ T, FirstQ q n T := by
    intro k
    induction k with
    | zero => intro _; exact .inl (fun i hi => absurd hi (Nat.not_lt_zero _))
    | succ k ih =>
      intro hk
      rcases ih (by omega) with h | h
      · rcases e : qAt q n k with _ | _
        · refine .inl (fun i hi => ?_)
          by_cases e2 : i = k
          · subst e2; exact e
          · exact h i (by omega)
        · exact .inr ⟨k, h, by omega, fun _ => e⟩
      · exact .inr h
  rcases h _ (Nat.le_refl _) with h | h
  · exact ⟨_, h, Nat.le_refl _, fun h2 => absurd h2 (by omega)⟩
  · exact h
theorem FirstQ.iff {q : Nat → Nat → Nat → Bool} {n T : Nat} (h : FirstQ q n T) : T = n * n * n ↔ ∀ i, i < n * n * n → qAt q n i = false :=
  ⟨fun e i hi => h.1 i (by omega), h.all⟩
end Go.Proofs.Ytgahmfkmhaeniaa
namespace Go.Proofs.Ytgahmfkmhaeniaa
open Go Go.RowKit
def kinkL (f : List (List Int)) : List Int := (List.range f.length).map fun (x : Nat) => ((ap f x x : Nat) : Int)
theorem kinkL_length (f : List (List Int)) : (kinkL f).length = f.length := by simp [kinkL]
theorem kinkL_getD (f : List (List Int)) (k : Nat) (h : k < f.length) : (kinkL f).getD k 0 = ((ap f k k : Nat) : Int) := by simp [kinkL, h]
def KinkRes (f : List (List Int)) (zs : List Int) (code : Int) : Prop := (Rck f ∧ zs = kinkL f ∧ code = 0) ∨ (¬ Rck f ∧ zs = [] ∧ code = 1)
theorem KinkRes.ex (f : List (List Int)) : ∃ zs code, KinkRes f zs code ∧ zs.length ≤ 1048576 := by
  by_cases h : Rck f
  · exact ⟨_, _, .inl ⟨h, rfl, rfl⟩, by rw [kinkL_length]; have := h.tbl.2.1; omega⟩
  · exact ⟨_, _, .inr ⟨h, rfl, rfl⟩, by simp⟩
theorem kq_take (zs : List Int) (k : Nat) (y : Int) (h : k < zs.length) (hy : zs.getD k 0 = y) : ints (zs.take k) ++ [.int .i64 y] = ints (zs.take (k + 1)) := by
  rw [List.take_succ_eq_append_getElem h]
  have : zs[k] = y := by simpa [h] using hy
  simp [ints, this]
theorem kq_empty (w : World) (t : TypeId) : (w.alloc (.cells #[] t)).ownsRow w.heap.size t 1 (.slice (some ⟨w.heap.size, 0, none⟩) 0 0) 0 [] :=
  ⟨by simp, .inr ⟨w.heap.size, 0, #[], rfl, Nat.le_refl _, heap_alloc_new _ _, Nat.le_refl _, by unfold maxLen; omega, by simp, by simp⟩⟩
theorem kq_new {w : World} {v : Value} {t : TypeId} : ∀ j u, [v][j]? = some u → (w.alloc (.cells #[v] t)).cell? ((⟨w.heap.size, 0, none⟩ : Addr).add j) = some u := by
  intro j u hj
  match j, hj with
  | 0, hj => simp at hj; subst hj; simp [Addr.add, World.cell?_alloc_new]
theorem kqInfo : (Try.prog.info? 2).map (fun i => (i.zero, i.size, i.bytes)) = some (some (.int .i64 0), 1, 8) := by kernel_rfl
/-- The last lines of a row that was filled from the front. -/
theorem kq_fill (zs : List Int) (n k : Nat) (hz : zs.length = n) (hk : k < n) : ((zs.take k ++ List.replicate (n - k) 0).set k (zs.getD k 0)) = zs.take (k + 1) ++ List.replicate (n - (k + 1)) 0 := by
  apply List.ext_getElem
  · simp; omega
  · intro i h1 h2
    simp only [List.getElem_set, List.getElem_append, List.length_take, List.getElem_take, List.getElem_replicate]
    by_cases e : k = i
    · subst e
      rw [if_pos rfl, dif_pos (by omega)]
      simp [show k < zs.length by omega]
    · rw [if_neg e]
      by_cases e2 : i < k
      · rw [dif_pos (by omega), dif_pos (by omega)]
      · rw [dif_neg (by omega), dif_neg (by omega)]
end Go.Proofs.Ytgahmfkmhaeniaa
namespace Go.Proofs.Ytgahmfkmhaeniaa
open Go Go.RowKit
/-- Whether three elements show that a dot table is no cycle set. -/
def cyq (f : List (List Int)) : Nat → Nat → Nat → Bool := fun x y z => !decide (ap f (ap f x y) (ap f x z) = ap f (ap f y x) (ap f y z))
/-- What a cycle set is. -/
def Cyc (f : List (List Int)) : Prop := (Tbl f ∧ AllPrm f) ∧ Prm (kinkL f) ∧ ∀ i, i < f.length * f.length * f.length → qAt (cyq f) f.length i = false
theorem Cyc.tbl {f : List (List Int)} (h : Cyc f) : Tbl f := h.1.1
theorem Cyc.prm {f : List (List Int)} (h : Cyc f) : AllPrm f := h.1.2
theorem Cyc.le {f : List (List Int)} (h : Cyc f) : f.length ≤ 12 := h.tbl.2.1
def CyRes (f : List (List Int)) (r : Bool) : Prop := r = true ↔ Cyc f
theorem CyRes.ex (f : List (List Int)) : ∃ r, CyRes f r := bool_of _
def CyFRes (f : List (List Int)) (zs : List Int) (code : Int) : Prop :=
  (∃ T, Tbl f ∧ FirstQ (cyq f) f.length T ∧ ((T < f.length * f.length * f.length ∧ zs = lst3 (trip f.length T) ∧ code = 0) ∨ (T = f.length * f.length * f.length ∧ zs = [] ∧ code = 4))) ∨ (¬ Tbl f ∧ zs = [] ∧ code = 1)
theorem CyFRes.ex (f : List (List Int)) : ∃ zs code, CyFRes f zs code ∧ zs.length ≤ 1048576 := by
  by_cases h : Tbl f
  · obtain ⟨T, hT⟩ := FirstQ.ex (cyq f) f.length
    by_cases h2 : T < f.length * f.length * f.length
    · exact ⟨_, _, .inl ⟨T, h, hT, .inl ⟨h2, rfl, rfl⟩⟩, by simp [lst3]⟩
    · exact ⟨_, _, .inl ⟨T, h, hT, .inr ⟨by have := hT.2.1; omega, rfl, rfl⟩⟩, by simp⟩
  · exact ⟨_, _, .inr ⟨h, rfl, rfl⟩, by simp⟩
def DqRes (f : List (List Int)) (zs : List Int) (code : Int) : Prop := (Tbl f ∧ zs = kinkL f ∧ code = 0) ∨ (¬ Tbl f ∧ zs = [] ∧ code = 1)
theorem DqRes.ex (f : List (List Int)) : ∃ zs code, DqRes f zs code ∧ zs.length ≤ 1048576 := by
  by_cases h : Tbl f
  · exact ⟨_, _, .inl ⟨h, rfl, rfl⟩, by rw [kinkL_length]; have := h.2.1; omega⟩
  · exact ⟨_, _, .inr ⟨h, rfl, rfl⟩, by simp⟩
end Go.Proofs.Ytgahmfkmhaeniaa
namespace Go.Proofs.Ytgahmfkmhaeniaa
open Go Go.RowKit
/-- The order of a permutation. -/
noncomputable def ordV (p : List Int) : Nat := ordTo (cyc [p] p.length p.length) (cyc [p] p.length p.length).length
theorem ordV_of {p ys : List Int} {n : Nat} (hn : p.length = n) (hp : Prm p) (h : ys.Perm (cyc [p] n n)) : ordTo ys ys.length = ordV p := by
  subst hn
  have h1 := ord_of p ys p.length rfl hp h
  have h2 := ord_of p (cyc [p] p.length p.length) p.length rfl hp (List.Perm.refl _)
  unfold ordV
  exact Nat.dvd_antisymm ((h1.2.2 _).1 ((h2.2.2 _).2 (Nat.dvd_refl _))) ((h2.2.2 _).1 ((h1.2.2 _).2 (Nat.dvd_refl _)))
theorem ordV_spec {p : List Int} {n : Nat} (hn : p.length = n) (hp : Prm p) : 1 ≤ ordV p ∧ ordV p ≤ 12 ^ 12 ∧ ∀ k, (∀ y, y < n → it p k y = y) ↔ ordV p ∣ k := by
  subst hn
  exact ord_of p (cyc [p] p.length p.length) p.length rfl hp (List.Perm.refl _)
noncomputable def roL (f : List (List Int)) : List Int := (List.range f.length).map fun (x : Nat) => ((ordV (f.getD x []) : Nat) : Int)
theorem roL_length (f : List (List Int)) : (roL f).length = f.length := by simp [roL]
theorem roL_getD (f : List (List Int)) (k : Nat) (h : k < f.length) : (roL f).getD k 0 = ((ordV (f.getD k []) : Nat) : Int) := by
  simp [roL, h]
def RoRes (f : List (List Int)) (zs : List Int) (code : Int) : Prop := (Cyc f ∧ zs = roL f ∧ code = 0) ∨ (¬ Cyc f ∧ zs = [] ∧ code = 1)
theorem RoRes.ex (f : List (List Int)) : ∃ zs code, RoRes f zs code ∧ zs.length ≤ 1048576 := by
  by_cases h : Cyc f
  · exact ⟨_, _, .inl ⟨h, rfl, rfl⟩, by rw [roL_length]; have := h.le; omega⟩
  · exact ⟨_, _, .inr ⟨h, rfl, rfl⟩, by simp⟩
end Go.Proofs.Ytgahmfkmhaeniaa
namespace Go.Proofs.Ytgahmfkmhaeniaa
open Go Go.RowKit
set_option maxHeartbeats 2000000

set_option maxRecDepth 100000 in
theorem firstTriple_any (F : FuncId) (lb : Array Value) (n : Nat) (q : Nat → Nat → Nat → Bool) (T : Nat) (w : World) (eg : ∀ args w, (callFunc F args).run Try.prog w = .ok (.enter F args) w) (h1 : 1 ≤ n) (h12 : n ≤ 12) (hp : BoolFn3 Try.prog F lb n q w) (hT : FirstQ q n T) :
    Calls Try.prog 102 #[.int .i64 n, .func (.func F) #[] lb] w fun e w' => (T = n * n * n ∧ e = .returned (.slice none 0 0) ∧ Below w.heap.size w w') ∨ (T < n * n * n ∧ ∃ g, e = .returned (.slice (some ⟨g, 0, none⟩) 3 3) ∧ Below w.heap.size w w' ∧ w.heap.size ≤ g ∧ OwnB 2 w' g (lst3 (trip n T))) := by
  have HPF := hide hp
  have HT := hide hT
  obtain ⟨N, hN⟩ : ∃ N, n * n = N := ⟨_, rfl⟩
  have hN144 : N ≤ 144 := by rw [← hN]; exact sq_le n h12
  have HNN := hide hN
  clear hT hN hp
  go_enter Try.func102, Try.ntmps102
  go_wp2_with fail
  refine (pairsOf_any n N _ h1 h12 HNN.out).mono ?_
  rintro e w3 ⟨g, rfl, hb3, hg3, hpa⟩
  have HB3 := hide hb3
  have HPA3 := hide hpa
  clear hb3 hpa
  go_wp2_with fail
  go_loopw [11] (fun i wr => ∃ k : Nat, k ≤ N ∧ i = .int .i64 k ∧ Below w.heap.size w wr ∧ PairsAt wr g n ∧ ∀ i, i < k * n → qAt q n i = false) (fun i _ => N - (intOf i).toNat)
  case atStart => exact ⟨0, Nat.zero_le _, rfl, HB3.out, HPA3.out, fun i hi => absurd hi (by omega)⟩
  case round =>
    obtain ⟨k, hk, rfl, hbe, hpa, hall⟩ := hrel
    have HB := hide hbe
    have HPA := hide hpa
    have HALL := hide hall
    clear hbe hpa hall
    by_cases hlt : k < N
    · have hkz : (k : Int) < N := by omega
      obtain ⟨p0, p1⟩ := HPA.out.2 k (by rw [HNN.out]; exact hlt)
      have hxn : k / n < n := div_lt_sq (by rw [HNN.out]; exact hlt)
      have hyn : k % n < n := mod_lt_sq (by rw [HNN.out]; exact hlt)
      obtain ⟨x, hx⟩ : ∃ x, k / n = x := ⟨_, rfl⟩
      obtain ⟨y, hy⟩ : ∃ y, k % n = y := ⟨_, rfl⟩
      rw [hx] at p0 hxn
      rw [hy] at p1 hyn
      have HX := hide hx
      have HY := hide hy
      clear hx hy
      go_wp2_with fail
      refine wp_gen fun w4 hw4 => ?_
      obtain ⟨P, hPe⟩ : ∃ P, wr.heap.size = P := ⟨_, rfl⟩
      have HB4 : Hid (Below w.heap.size w w4) := hide (by rw [hw4]; exact HB.out.alloc HB.out.size _)
      have HP4 : Hid (Blk w4 P 104 [.int .i64 x, .int .i64 y]) := hide (by rw [hw4, ← hPe]; exact Blk.new _ _ _)
      have HA4 : Hid (PairsAt w4 g n) := hide (by rw [hw4]; exact HPA.out.later ((Below.refl _ _).alloc (Nat.le_refl _) _))
      rw [hPe]
      clear hw4 p0 p1 hPe
      go_loopw [16] (fun i wi => ∃ z : Nat, z ≤ n ∧ i = .int .i64 z ∧ Below w.heap.size w wi ∧ Blk wi P 104 [.int .i64 x, .int .i64 y] ∧ PairsAt wi g n ∧ ∀ i, i < k * n + z → qAt q n i = false) (fun i _ => n - (intOf i).toNat)
      case atStart => exact ⟨0, Nat.zero_le _, rfl, HB4.out, HP4.out, HA4.out, HALL.out⟩
      case round =>
        obtain ⟨z, hzn, rfl, hbe, hpp, hpa, hall⟩ := hrel
        have HBc := hide hbe
        have HPc := hide hpp
        have HAc := hide hpa
        have HALLI := hide hall
        clear hbe hpp hpa hall
        by_cases hltz : z < n
        · have hzz : (z : Int) < n := by omega
          have hklt : k * n + z < n * n * n := by
            have h := trip_lt (n := n) hxn hyn hltz
            rw [← HX.out, ← HY.out, pair_eta] at h
            exact h
          have hat : qAt q n (k * n + z) = q x y z := by
            have h := qAt_at (q := q) (n := n) (x := x) hyn hltz
            rw [← HX.out, ← HY.out, pair_eta] at h
            rw [← HX.out, ← HY.out]
            exact h
          have htr : trip n (k * n + z) = (x, y, z) := by
            have h := trip_of (n := n) (x := x) hyn hltz
            rw [← HX.out, ← HY.out, pair_eta, HX.out, HY.out] at h
            exact h
          have HTR := hide htr
          have HKL := hide hklt
          clear htr hklt
          obtain ⟨bq, hbq⟩ : ∃ b, q x y z = b := ⟨_, rfl⟩
          rw [hbq] at hat
          have HAT := hide hat
          have HBQ := hide hbq
          clear hat hbq
          have k0 := HPc.out.cell 0 _ rfl
          have k1 := HPc.out.cell 1 _ rfl
          cases bq with
          | false =>
            go_wp2_with (go_at_fn F; go_must (refine calls_gen fun wc hwc => ?_; (first | have hbx := drew_below hwc | have hbx := eq_below hwc); replace HBc := hide (HBc.out.trans (hbx.mono HBc.out.size)); replace HPc := hide (HPc.out.later hbx); replace HAc := hide (HAc.out.later hbx); clear hwc hbx; refine (HPF.out _ x y z hxn hyn hltz HBc.out).mono ?_; rw [HBQ.out]; rintro e wd ⟨rfl, hbd⟩; replace HBc := hide (HBc.out.trans (hbd.mono HBc.out.size)); replace HPc := hide (HPc.out.later hbd); replace HAc := hide (HAc.out.later hbd); clear hbd; have k0 := HPc.out.cell 0 _ rfl; have k1 := HPc.out.cell 1 _ rfl; clear k0 k1))
            clear k0 k1
            go_wp2_with fail
            go_roundw
            case rel => exact ⟨z + 1, by omega, by go_num, HBc.out, HPc.out, HAc.out, fun i hi => by
              by_cases e : i = k * n + z
              · rw [e]; exact HAT.out
              · exact HALLI.out i (by omega)⟩
            case measure => simp [intOf]; omega
          | true =>
            have HTB2 := hide (HT.out.bad HALLI.out HKL.out HAT.out)
            go_wp2_with (go_at_fn F; go_must (refine calls_gen fun wc hwc => ?_; (first | have hbx := drew_below hwc | have hbx := eq_below hwc); replace HBc := hide (HBc.out.trans (hbx.mono HBc.out.size)); replace HPc := hide (HPc.out.later hbx); replace HAc := hide (HAc.out.later hbx); clear hwc hbx; refine (HPF.out _ x y z hxn hyn hltz HBc.out).mono ?_; rw [HBQ.out]; rintro e wd ⟨rfl, hbd⟩; replace HBc := hide (HBc.out.trans (hbd.mono HBc.out.size)); replace HPc := hide (HPc.out.later hbd); replace HAc := hide (HAc.out.later hbd); clear hbd; have k0 := HPc.out.cell 0 _ rfl; have k1 := HPc.out.cell 1 _ rfl; have k2 := fun o => (HPc.out.alloc o).cell 0 _ rfl; have k3 := fun o => (HPc.out.alloc o).cell 1 _ rfl))
            clear k0 k1
            go_wp2_with fail
            refine bp_gen fun wf hwf => ?_
            have HBF : Below w.heap.size w wf := by rw [hwf]; exact HBc.out.alloc HBc.out.size _
            have HLF : Hid (Blk wf wd.heap.size 2 [.int .i64 x, .int .i64 y, .int .i64 z]) := hide (by rw [hwf]; exact Blk.new _ _ _)
            have hlo : w.heap.size ≤ wd.heap.size := HBc.out.size
            clear hwf
            go_ret
            exact .inr ⟨by rw [HTB2.out]; exact HKL.out, _, rfl, HBF, hlo, _, HLF.out, fun i hi => by
              rw [HTB2.out, HTR.out] at hi ⊢
              simp [lst3] at hi
              rcases i with _ | _ | _ | i
              · rfl
              · rfl
              · rfl
              · omega⟩
        · have hzn' : z = n := by omega
          subst hzn'
          go_wp2_with fail
          go_roundw
          case rel => exact ⟨k + 1, by omega, by go_num, HBc.out, HAc.out, fun i hi => HALLI.out i (by rw [Nat.add_mul, Nat.one_mul] at hi; exact hi)⟩
          case measure => simp [intOf]; omega
    · have hkn : k = N := by omega
      subst hkn
      go_wp2_with fail
      go_ret
      exact .inl ⟨HT.out.all (fun i hi => HALL.out i (by rw [HNN.out] at hi; exact hi)), rfl, HB.out⟩
end Go.Proofs.Ytgahmfkmhaeniaa
namespace Go.Proofs.Ytgahmfkmhaeniaa
open Go Go.RowKit
set_option maxHeartbeats 2000000

theorem dsize_any (A : Option Addr) (n c : Nat) (w : World) (_hn : n ≤ 1048576) :
    Calls Try.prog 67 #[.slice A n c] w fun e w' => e = .returned (.int .i64 n) ∧ Below w.heap.size w w' := by
  go_enter Try.func67, Try.ntmps67
  go_wp2_with fail
  go_ret
  exact ⟨rfl, Below.refl _ _⟩

theorem dot_any (A : Option Addr) (n c : Nat) (f : List (List Int)) (x y u : Nat) (w : World) (hn : f.length = n) (ht : Tbl f) (hr : Rd2 w A f) (hx : x < n) (hy : y < n) (hu : ap f x y = u) :
    Calls Try.prog 93 #[.slice A n c, .int .i64 x, .int .i64 y] w fun e w' => e = .returned (.int .i64 u) ∧ Below w.heap.size w w' := by
  have h12 : n ≤ 12 := by rw [← hn]; exact ht.2.1
  obtain ⟨b, o, rfl, hb, hc⟩ := ht.cells hr hn
  obtain ⟨bx, ox, cx, h1, h2, h3⟩ := hc x hx
  have h4 := h3 y hy
  rw [hu] at h4
  have hxz : (x : Int) < n := by omega
  have hyz : (y : Int) < n := by omega
  have hxz0 : (0 : Int) ≤ x := by omega
  have hyz0 : (0 : Int) ≤ y := by omega
  clear hc hu hr ht hn h3
  go_enter Try.func93, Try.ntmps93
  go_wp2_with fail
  go_ret
  exact ⟨rfl, Below.refl _ _⟩

set_option maxRecDepth 100000 in
theorem squares_any (A : Option Addr) (n c : Nat) (f : List (List Int)) (w : World) (hn : f.length = n) (ht : Tbl f) (hr : Rd2 w A f) :
    Calls Try.prog 63 #[.slice A n c] w fun e w' => ∃ g, e = .returned (.slice (some ⟨g, 0, none⟩) n n) ∧ Below w.heap.size w w' ∧ w.heap.size ≤ g ∧ OwnB 2 w' g (kinkL f) := by
  have h1 : 1 ≤ n := by rw [← hn]; exact ht.1
  have h12 : n ≤ 12 := by rw [← hn]; exact ht.2.1
  have HN := hide hn
  have HTB := hide ht
  have HR := hide hr
  have HZ : Hid ((kinkL f).length = n) := hide ((kinkL_length f).trans hn)
  have hmk := run_make_row' (P := Try.prog) 65 2 (.int .i64 0) 8 Try.underlying65 kqInfo rfl .i64 .i64 n (by omega) (by omega)
  clear hn ht hr
  go_enter Try.func63, Try.ntmps63
  go_wp2_with fail
  refine (dsize_any _ _ _ _ (by omega)).mono ?_
  rintro e w0 ⟨rfl, hb0⟩
  have HB0 := hide hb0
  clear hb0
  go_wp2_with fail
  clear hmk
  refine calls_gen fun w1 hw1 => ?_
  have HB1 : Hid (Below w.heap.size w w1) := hide (by rw [hw1]; exact HB0.out.alloc HB0.out.size _)
  obtain ⟨G, hG⟩ : ∃ G, w0.heap.size = G := ⟨_, rfl⟩
  have hgw : w.heap.size ≤ G := by have := HB0.out.size; omega
  have HROW1 : Hid (Row 2 w1 G (List.replicate n 0)) := hide (by rw [hw1, ← hG]; simpa using Row.made 2 w0 n)
  rw [hG]
  clear hw1 hG
  refine (dsize_any _ _ _ _ (by omega)).mono ?_
  rintro e w2 ⟨rfl, hb2⟩
  have HB2 := hide (HB1.out.trans (hb2.mono HB1.out.size))
  have HROW2 := hide (HROW1.out.own.later hb2 HROW1.out.own.lt)
  clear hb2
  go_wp2_with fail
  go_loopw [10] (fun i wr => ∃ k : Nat, k ≤ n ∧ i = .int .i64 k ∧ Below w.heap.size w wr ∧ OwnB 2 wr G ((kinkL f).take k ++ List.replicate (n - k) 0)) (fun i _ => n - (intOf i).toNat)
  case atStart => exact ⟨0, Nat.zero_le _, rfl, HB2.out, by simpa using HROW2.out⟩
  case round =>
    obtain ⟨k, hk, rfl, hbe, hrow⟩ := hrel
    have HBc := hide hbe
    have HOc := hide hrow
    clear hbe hrow
    by_cases hlt : k < n
    · have hltz : (k : Int) < n := by omega
      obtain ⟨u, hu⟩ : ∃ u, ap f k k = u := ⟨_, rfl⟩
      have HU := hide hu
      have hl : ((kinkL f).take k ++ List.replicate (n - k) 0).length = n := by have := HZ.out; simp; omega
      have HL := hide hl
      clear hu hl
      go_wp2_with fail
      refine (dot_any _ _ _ f k k u _ HN.out HTB.out (HR.out.later HBc.out) hlt hlt HU.out).mono ?_
      rintro e wd ⟨rfl, hbd⟩
      have HBd := hide (HBc.out.trans (hbd.mono HBc.out.size))
      have HOd := hide (HOc.out.later hbd HOc.out.lt)
      clear hbd
      have h2 := HOd.out.cell (i := k) (by have := HL.out; omega)
      have h3 := HOd.out.frozen k
      go_wp2_with fail
      go_roundw
      case rel =>
        have hst := HOd.out.set k (u : Int) (by have := HL.out; omega)
        have hg : (kinkL f).getD k 0 = (u : Int) := by rw [kinkL_getD f k (by have := HN.out; omega), HU.out]
        rw [← hg, kq_fill (kinkL f) n k HZ.out hlt, hg] at hst
        exact ⟨k + 1, by omega, by go_num, HBd.out.setCell (p := ⟨G, k, none⟩) hgw _, hst⟩
      case measure => simp [intOf]; omega
    · have hkn : k = n := by omega
      subst hkn
      go_wp2_with fail
      go_ret
      have h := HOc.out
      have hz := HZ.out
      rw [Nat.sub_self, List.replicate_zero, List.append_nil, List.take_of_length_le (by omega)] at h
      exact ⟨_, rfl, HBc.out, hgw, h⟩
end Go.Proofs.Ytgahmfkmhaeniaa
namespace Go.Proofs.Ytgahmfkmhaeniaa
open Go Go.RowKit
set_option maxHeartbeats 2000000

set_option maxRecDepth 100000 in
theorem dfC_any (A : Option Addr) (n c : Nat) (f : List (List Int)) (b : Nat) (w : World) (hn : f.length = n) (ht : Tbl f) (hr : Rd2 w A f) (hk : Blk w b 59 [.slice A n c]) :
    BoolFn3 Try.prog 103 #[.pointer (some ⟨b, 0, none⟩)] n (cyq f) w := by
  intro W x y z hx hy hz hb
  have HR := hide (hr.later hb)
  have HKc := hide (hk.later hb)
  have HBc := hide (Below.refl W.heap.size W)
  have HN := hide hn
  have HTB := hide ht
  show Calls Try.prog 103 #[.int .i64 x, .int .i64 y, .int .i64 z, .pointer (some ⟨b, 0, none⟩)] W _
  clear hn ht hr hk hb
  have hq1 := HTB.out.ap_lt HN.out hx hy
  have hq3 := HTB.out.ap_lt HN.out hy hx
  have hq2 := HTB.out.ap_lt HN.out hx hz
  have hq4 := HTB.out.ap_lt HN.out hy hz
  obtain ⟨bq, hat⟩ : ∃ bq, cyq f x y z = bq := ⟨_, rfl⟩
  rw [hat]
  unfold cyq at hat
  obtain ⟨q1, h_1⟩ : ∃ u, ap f x y = u := ⟨_, rfl⟩
  obtain ⟨q2, h_2⟩ : ∃ u, ap f x z = u := ⟨_, rfl⟩
  obtain ⟨q3, h_3⟩ : ∃ u, ap f y x = u := ⟨_, rfl⟩
  obtain ⟨q4, h_4⟩ : ∃ u, ap f y z = u := ⟨_, rfl⟩
  rw [h_1, h_2, h_3, h_4] at hat
  rw [h_1] at hq1
  rw [h_2] at hq2
  rw [h_3] at hq3
  rw [h_4] at hq4
  obtain ⟨q5, h_5⟩ : ∃ u, ap f q1 q2 = u := ⟨_, rfl⟩
  obtain ⟨q6, h_6⟩ : ∃ u, ap f q3 q4 = u := ⟨_, rfl⟩
  rw [h_5, h_6] at hat
  have HAT : Hid ((!decide (q5 = q6)) = bq) := hide hat
  have U1 := hide h_1
  have U2 := hide h_2
  have U3 := hide h_3
  have U4 := hide h_4
  have U5 := hide h_5
  have U6 := hide h_6
  clear h_1 h_2 h_3 h_4 h_5 h_6 hat
  have k0 := HKc.out.cell 0 _ rfl
  have tok0 : True := trivial
  have tok1 : True := trivial
  have tok2 : True := trivial
  have tok3 : True := trivial
  have tok4 : True := trivial
  go_enter Try.func103, Try.ntmps103
  by_cases hcs : q5 = q6
  · have hbq : bq = false := by rw [← HAT.out, hcs]; simp
    subst hcs
    subst hbq
    go_wp2_with fail
    go_region_held3 (fun w' => w'.cell? ⟨b, 0, none⟩ = some (.slice A n c)) (first | exact k0 | go_keep) (first | (go_at_call 93; have _t := tok0; clear _t tok0; go_must (refine calls_gen fun wc hwc => ?_; (first | have hbx := drew_below hwc | have hbx := eq_below hwc); replace HBc := hide (HBc.out.trans (hbx.mono HBc.out.size)); replace HKc := hide (HKc.out.later hbx); clear hwc hbx; refine (dot_any _ _ _ f x y q1 _ HN.out HTB.out (HR.out.later HBc.out) hx hy U1.out).mono ?_; rintro e wd ⟨rfl, hbd⟩; replace HBc := hide (HBc.out.trans (hbd.mono HBc.out.size)); replace HKc := hide (HKc.out.later hbd); clear hbd; have k0 := HKc.out.cell 0 _ rfl)) | (go_at_call 93; have _t := tok1; clear _t tok1; go_must (refine calls_gen fun wc hwc => ?_; (first | have hbx := drew_below hwc | have hbx := eq_below hwc); replace HBc := hide (HBc.out.trans (hbx.mono HBc.out.size)); replace HKc := hide (HKc.out.later hbx); clear hwc hbx; refine (dot_any _ _ _ f x z q2 _ HN.out HTB.out (HR.out.later HBc.out) hx hz U2.out).mono ?_; rintro e wd ⟨rfl, hbd⟩; replace HBc := hide (HBc.out.trans (hbd.mono HBc.out.size)); replace HKc := hide (HKc.out.later hbd); clear hbd; have k0 := HKc.out.cell 0 _ rfl)) | (go_at_call 93; have _t := tok2; clear _t tok2; go_must (refine calls_gen fun wc hwc => ?_; (first | have hbx := drew_below hwc | have hbx := eq_below hwc); replace HBc := hide (HBc.out.trans (hbx.mono HBc.out.size)); replace HKc := hide (HKc.out.later hbx); clear hwc hbx; refine (dot_any _ _ _ f q1 q2 q5 _ HN.out HTB.out (HR.out.later HBc.out) hq1 hq2 U5.out).mono ?_; rintro e wd ⟨rfl, hbd⟩; replace HBc := hide (HBc.out.trans (hbd.mono HBc.out.size)); replace HKc := hide (HKc.out.later hbd); clear hbd; have k0 := HKc.out.cell 0 _ rfl)) | (go_at_call 93; have _t := tok3; clear _t tok3; go_must (refine calls_gen fun wc hwc => ?_; (first | have hbx := drew_below hwc | have hbx := eq_below hwc); replace HBc := hide (HBc.out.trans (hbx.mono HBc.out.size)); replace HKc := hide (HKc.out.later hbx); clear hwc hbx; refine (dot_any _ _ _ f y x q3 _ HN.out HTB.out (HR.out.later HBc.out) hy hx U3.out).mono ?_; rintro e wd ⟨rfl, hbd⟩; replace HBc := hide (HBc.out.trans (hbd.mono HBc.out.size)); replace HKc := hide (HKc.out.later hbd); clear hbd; have k0 := HKc.out.cell 0 _ rfl)) | (go_at_call 93; have _t := tok4; clear _t tok4; go_must (refine calls_gen fun wc hwc => ?_; (first | have hbx := drew_below hwc | have hbx := eq_below hwc); replace HBc := hide (HBc.out.trans (hbx.mono HBc.out.size)); replace HKc := hide (HKc.out.later hbx); clear hwc hbx; refine (dot_any _ _ _ f y z q4 _ HN.out HTB.out (HR.out.later HBc.out) hy hz U4.out).mono ?_; rintro e wd ⟨rfl, hbd⟩; replace HBc := hide (HBc.out.trans (hbd.mono HBc.out.size)); replace HKc := hide (HKc.out.later hbd); clear hbd; have k0 := HKc.out.cell 0 _ rfl)) | (go_at_call 93; go_must (refine calls_gen fun wc hwc => ?_; (first | have hbx := drew_below hwc | have hbx := eq_below hwc); replace HBc := hide (HBc.out.trans (hbx.mono HBc.out.size)); replace HKc := hide (HKc.out.later hbx); clear hwc hbx; refine (dot_any _ _ _ f q3 q4 q5 _ HN.out HTB.out (HR.out.later HBc.out) hq3 hq4 U6.out).mono ?_; rintro e wd ⟨rfl, hbd⟩; replace HBc := hide (HBc.out.trans (hbd.mono HBc.out.size)); replace HKc := hide (HKc.out.later hbd); clear hbd; have k0 := HKc.out.cell 0 _ rfl)))
    go_wp2_with fail
    go_ret
    exact ⟨rfl, HBc.out⟩
  · have hbq : bq = true := by rw [← HAT.out]; simp [hcs]
    have hcz : ((q5 : Int) != (q6 : Int)) = true := by rw [bne_iff_ne]; omega
    subst hbq
    go_wp2_with fail
    go_region_held3 (fun w' => w'.cell? ⟨b, 0, none⟩ = some (.slice A n c)) (first | exact k0 | go_keep) (first | (go_at_call 93; have _t := tok0; clear _t tok0; go_must (refine calls_gen fun wc hwc => ?_; (first | have hbx := drew_below hwc | have hbx := eq_below hwc); replace HBc := hide (HBc.out.trans (hbx.mono HBc.out.size)); replace HKc := hide (HKc.out.later hbx); clear hwc hbx; refine (dot_any _ _ _ f x y q1 _ HN.out HTB.out (HR.out.later HBc.out) hx hy U1.out).mono ?_; rintro e wd ⟨rfl, hbd⟩; replace HBc := hide (HBc.out.trans (hbd.mono HBc.out.size)); replace HKc := hide (HKc.out.later hbd); clear hbd; have k0 := HKc.out.cell 0 _ rfl)) | (go_at_call 93; have _t := tok1; clear _t tok1; go_must (refine calls_gen fun wc hwc => ?_; (first | have hbx := drew_below hwc | have hbx := eq_below hwc); replace HBc := hide (HBc.out.trans (hbx.mono HBc.out.size)); replace HKc := hide (HKc.out.later hbx); clear hwc hbx; refine (dot_any _ _ _ f x z q2 _ HN.out HTB.out (HR.out.later HBc.out) hx hz U2.out).mono ?_; rintro e wd ⟨rfl, hbd⟩; replace HBc := hide (HBc.out.trans (hbd.mono HBc.out.size)); replace HKc := hide (HKc.out.later hbd); clear hbd; have k0 := HKc.out.cell 0 _ rfl)) | (go_at_call 93; have _t := tok2; clear _t tok2; go_must (refine calls_gen fun wc hwc => ?_; (first | have hbx := drew_below hwc | have hbx := eq_below hwc); replace HBc := hide (HBc.out.trans (hbx.mono HBc.out.size)); replace HKc := hide (HKc.out.later hbx); clear hwc hbx; refine (dot_any _ _ _ f q1 q2 q5 _ HN.out HTB.out (HR.out.later HBc.out) hq1 hq2 U5.out).mono ?_; rintro e wd ⟨rfl, hbd⟩; replace HBc := hide (HBc.out.trans (hbd.mono HBc.out.size)); replace HKc := hide (HKc.out.later hbd); clear hbd; have k0 := HKc.out.cell 0 _ rfl)) | (go_at_call 93; have _t := tok3; clear _t tok3; go_must (refine calls_gen fun wc hwc => ?_; (first | have hbx := drew_below hwc | have hbx := eq_below hwc); replace HBc := hide (HBc.out.trans (hbx.mono HBc.out.size)); replace HKc := hide (HKc.out.later hbx); clear hwc hbx; refine (dot_any _ _ _ f y x q3 _ HN.out HTB.out (HR.out.later HBc.out) hy hx U3.out).mono ?_; rintro e wd ⟨rfl, hbd⟩; replace HBc := hide (HBc.out.trans (hbd.mono HBc.out.size)); replace HKc := hide (HKc.out.later hbd); clear hbd; have k0 := HKc.out.cell 0 _ rfl)) | (go_at_call 93; have _t := tok4; clear _t tok4; go_must (refine calls_gen fun wc hwc => ?_; (first | have hbx := drew_below hwc | have hbx := eq_below hwc); replace HBc := hide (HBc.out.trans (hbx.mono HBc.out.size)); replace HKc := hide (HKc.out.later hbx); clear hwc hbx; refine (dot_any _ _ _ f y z q4 _ HN.out HTB.out (HR.out.later HBc.out) hy hz U4.out).mono ?_; rintro e wd ⟨rfl, hbd⟩; replace HBc := hide (HBc.out.trans (hbd.mono HBc.out.size)); replace HKc := hide (HKc.out.later hbd); clear hbd; have k0 := HKc.out.cell 0 _ rfl)) | (go_at_call 93; go_must (refine calls_gen fun wc hwc => ?_; (first | have hbx := drew_below hwc | have hbx := eq_below hwc); replace HBc := hide (HBc.out.trans (hbx.mono HBc.out.size)); replace HKc := hide (HKc.out.later hbx); clear hwc hbx; refine (dot_any _ _ _ f q3 q4 q6 _ HN.out HTB.out (HR.out.later HBc.out) hq3 hq4 U6.out).mono ?_; rintro e wd ⟨rfl, hbd⟩; replace HBc := hide (HBc.out.trans (hbd.mono HBc.out.size)); replace HKc := hide (HKc.out.later hbd); clear hbd; have k0 := HKc.out.cell 0 _ rfl)))
    go_wp2_with fail
    go_ret
    exact ⟨rfl, HBc.out⟩

set_option maxRecDepth 100000 in
theorem dfault_any (A : Option Addr) (n c : Nat) (f : List (List Int)) (T : Nat) (w : World) (hn : f.length = n) (ht : Tbl f) (hr : Rd2 w A f) (hT : FirstQ (cyq f) n T) :
    Calls Try.prog 60 #[.slice A n c] w fun e w' => (T = n * n * n ∧ e = .returned (.slice none 0 0) ∧ Below w.heap.size w w') ∨ (T < n * n * n ∧ ∃ g, e = .returned (.slice (some ⟨g, 0, none⟩) 3 3) ∧ Below w.heap.size w w' ∧ w.heap.size ≤ g ∧ OwnB 2 w' g (lst3 (trip n T))) := by
  have h1 : 1 ≤ n := by rw [← hn]; exact ht.1
  have h12 : n ≤ 12 := by rw [← hn]; exact ht.2.1
  have HN := hide hn
  have HTB := hide ht
  have HR := hide hr
  have HT := hide hT
  have HB0 := hide ((Below.refl _ w).alloc (Nat.le_refl _) (Obj.cells #[Value.slice A n c] 59))
  have HK0 := hide (Blk.new w 59 [.slice A n c])
  clear hn ht hr hT
  go_enter Try.func60, Try.ntmps60
  go_wp2_with fail
  refine (dsize_any _ _ _ _ (by omega)).mono ?_
  rintro e w2 ⟨rfl, hb2⟩
  have HB2 := hide (HB0.out.trans (hb2.mono HB0.out.size))
  have HK2 := hide (HK0.out.later hb2)
  clear hb2
  go_wp2_with fail
  refine (firstTriple_any 103 _ n (cyq f) T _ (fun _ _ => rfl) h1 h12 (dfC_any A n c f w.heap.size _ HN.out HTB.out (HR.out.later HB2.out) HK2.out) HT.out).mono ?_
  rintro e w3 (⟨hTe, rfl, hb3⟩ | ⟨hTl, g, rfl, hb3, hg, hob⟩)
  · have HB3 := hide (HB2.out.trans (hb3.mono HB2.out.size))
    clear hb3
    go_wp2_with fail
    go_ret
    exact .inl ⟨hTe, rfl, HB3.out⟩
  · have HB3 := hide (HB2.out.trans (hb3.mono HB2.out.size))
    have HO3 := hide hob
    have hlo : w.heap.size ≤ g := by have := HB2.out.size; omega
    clear hb3 hob
    go_wp2_with fail
    go_ret
    exact .inr ⟨hTl, _, rfl, HB3.out, hlo, HO3.out⟩

set_option maxRecDepth 100000 in
theorem isCycD (A : Option Addr) (n c : Nat) (f : List (List Int)) (r : Bool) (w : World) (hn : f.length = n) (hb : n ≤ 1048576) (hbs : ∀ i, i < f.length → (f.getD i []).length ≤ 1048576) (hr : Rd2 w A f) (hres : CyRes f r) :
    Calls Try.prog 55 #[.slice A n c] w fun e w' => e = .returned (.bool r) ∧ Below w.heap.size w w' := by
  have HN := hide hn
  have HBS := hide hbs
  have HRD := hide hr
  have HR := hide hres
  have HB0 := hide (Below.refl w.heap.size w)
  have hnil : ∀ (u : World) (a : Option Addr) (n c : Nat), (binOp .eql 31 (.slice a n c) (.slice none 0 0)).run Try.prog u = .ok (.bool a.isNone) u := fun u a n c => Lib.run_eql_slice_nil u 31 _ a n c 0 0 Try.underlying31
  have hno : ¬ Cyc f → r = false := fun h => by
    cases r
    · rfl
    · exact absurd (hres.1 rfl) h
  have HNO := hide hno
  have hyes : Cyc f → r = true := fun h => hres.2 h
  have HYES := hide hyes
  clear hno hyes hn hbs hr hres
  by_cases ht : Tbl f
  · have HTB := hide ht
    clear ht
    have h12 : n ≤ 12 := by rw [← HN.out]; exact HTB.out.2.1
    go_enter Try.func55, Try.ntmps55
    go_wp2_with fail
    refine (isTable_any _ _ _ f true _ HN.out (by omega) (fun i hi => by have := HBS.out i hi; omega) (HRD.out.later HB0.out) (by simp [HTB.out])).mono ?_
    rintro e w1 ⟨rfl, hq1⟩
    have HB1 := hide (HB0.out.trans (hq1.below _))
    clear hq1
    by_cases hp : AllPrm f
    · have HP := hide hp
      clear hp
      go_wp2_with fail
      refine (rowsI_any _ _ _ f true _ HN.out hb HBS.out (HRD.out.later HB1.out) ⟨fun _ => HP.out, fun _ => rfl⟩).mono ?_
      rintro e w2 ⟨rfl, hb2⟩
      have HB2 := hide (HB1.out.trans (hb2.mono HB1.out.size))
      clear hb2
      go_wp2_with fail
      refine (squares_any _ _ _ f _ HN.out HTB.out (HRD.out.later HB2.out)).mono ?_
      rintro e w3 ⟨g3, rfl, hb3, hg3, hres3⟩
      have HB3 := hide (HB2.out.trans (hb3.mono HB2.out.size))
      have HS3 := hide hres3.rd
      clear hb3 hres3
      by_cases hs : Prm (kinkL f)
      · have HS := hide hs
        clear hs
        go_wp2_with fail
        refine (valid_any _ _ _ (kinkL f) true _ ((kinkL_length f).trans HN.out) (by omega) HS3.out (by simp [HS.out])).mono ?_
        rintro e w4 ⟨rfl, hb4⟩
        have HB4 := hide (HB3.out.trans (hb4.mono HB3.out.size))
        clear hb4
        go_wp2_with fail
        obtain ⟨T, hT⟩ := FirstQ.ex (cyq f) n
        have HT := hide hT
        clear hT
        refine (dfault_any _ _ _ f T _ HN.out HTB.out (HRD.out.later HB4.out) HT.out).mono ?_
        rintro e w5 (⟨hTe, rfl, hb5⟩ | ⟨hTl, g, rfl, hb5, hg, hob⟩)
        · have hrt : r = true := HYES.out ⟨⟨HTB.out, HP.out⟩, HS.out, by rw [HN.out]; exact HT.out.iff.1 hTe⟩
          subst hrt
          have HB5 := hide (HB4.out.trans (hb5.mono HB4.out.size))
          clear hb5 hTe
          go_wp2_with fail
          go_ret
          exact ⟨rfl, HB5.out⟩
        · have hrf : r = false := HNO.out fun h => by
            have h := h.2.2
            rw [HN.out] at h
            have := HT.out.iff.2 h
            omega
          subst hrf
          have HB5 := hide (HB4.out.trans (hb5.mono HB4.out.size))
          clear hb5 hTl hob
          go_wp2_with fail
          go_ret
          exact ⟨rfl, HB5.out⟩
      · have HS := hide hs
        clear hs
        go_wp2_with fail
        refine (valid_any _ _ _ (kinkL f) false _ ((kinkL_length f).trans HN.out) (by omega) HS3.out (by simp [HS.out])).mono ?_
        rintro e w4 ⟨rfl, hb4⟩
        have HB4 := hide (HB3.out.trans (hb4.mono HB3.out.size))
        clear hb4
        have hrf : r = false := HNO.out fun h => HS.out h.2.1
        subst hrf
        go_wp2_with fail
        go_ret
        exact ⟨rfl, HB4.out⟩
    · have HP := hide hp
      clear hp
      go_wp2_with fail
      refine (rowsI_any _ _ _ f false _ HN.out hb HBS.out (HRD.out.later HB1.out) ⟨fun h => (by cases h), fun h => absurd h HP.out⟩).mono ?_
      rintro e w2 ⟨rfl, hb2⟩
      have HB2 := hide (HB1.out.trans (hb2.mono HB1.out.size))
      clear hb2
      have hrf : r = false := HNO.out fun h => HP.out h.prm
      subst hrf
      go_wp2_with fail
      go_ret
      exact ⟨rfl, HB2.out⟩
  · have HTB := hide ht
    clear ht
    have hrf : r = false := HNO.out fun h => HTB.out h.tbl
    subst hrf
    go_enter Try.func55, Try.ntmps55
    go_wp2_with fail
    refine (isTable_any _ _ _ f false _ HN.out (by omega) (fun i hi => by have := HBS.out i hi; omega) (HRD.out.later HB0.out) (by simp [HTB.out])).mono ?_
    rintro e w1 ⟨rfl, hq1⟩
    have HB1 := hide (HB0.out.trans (hq1.below _))
    clear hq1
    go_wp2_with fail
    go_ret
    exact ⟨rfl, HB1.out⟩
end Go.Proofs.Ytgahmfkmhaeniaa
namespace Go.Proofs.Ytgahmfkmhaeniaa
open Go Go.RowKit
set_option maxHeartbeats 2000000

set_option maxRecDepth 100000 in
theorem faultD_any (A : Option Addr) (n c : Nat) (f : List (List Int)) (T : Nat) (w : World) (hn : f.length = n) (ht : Tbl f) (hr : Rd2 w A f) (hT : FirstQ (cyq f) n T) :
    Calls Try.prog 58 #[.slice A n c] w fun e w' => (T = n * n * n ∧ ∃ g, e = .returned (.slice (some ⟨g, 0, none⟩) 0 0) ∧ Below w.heap.size w w') ∨ (T < n * n * n ∧ ∃ g, e = .returned (.slice (some ⟨g, 0, none⟩) 3 3) ∧ Below w.heap.size w w' ∧ w.heap.size ≤ g ∧ OwnB 2 w' g (lst3 (trip n T))) := by
  have h1 : 1 ≤ n := by rw [← hn]; exact ht.1
  have h12 : n ≤ 12 := by rw [← hn]; exact ht.2.1
  obtain ⟨b, o, rfl, hb, hc⟩ := ht.cells hr hn
  have HC := hide hc
  have HN := hide hn
  have HTB := hide ht
  have HT := hide hT
  clear hn ht hr hT hc
  go_enter Try.func58, Try.ntmps58
  go_wp2_with fail
  go_loopw [4] (fun i wr => ∃ x : Nat, x ≤ n ∧ i = .int .i64 x ∧ Quiet w wr ∧ ∀ i, i < x * n * n → qAt (cyq f) n i = false) (fun i _ => n - (intOf i).toNat)
  case atStart => exact ⟨0, Nat.zero_le _, rfl, Quiet.refl _, fun i hi => absurd hi (by omega)⟩
  case round =>
    obtain ⟨x, hx, rfl, hq, hall⟩ := hrel
    have HQ := hide hq
    clear hq
    have HALL := hide hall
    clear hall
    by_cases hlt : x < n
    · have hxz : (x : Int) < n := by omega
      go_wp2_with fail
      go_loopw [5] (fun i wi => ∃ y : Nat, y ≤ n ∧ i = .int .i64 y ∧ Quiet w wi ∧ ∀ i, i < (x * n + y) * n → qAt (cyq f) n i = false) (fun i _ => n - (intOf i).toNat)
      case atStart => exact ⟨0, Nat.zero_le _, rfl, HQ.out, fun i hi => HALL.out i (by rw [Nat.add_zero] at hi; exact hi)⟩
      case round =>
        obtain ⟨y, hy, rfl, hq, halli⟩ := hrel
        have HQI := hide hq
        clear hq
        have HALLI := hide halli
        clear halli
        by_cases hlty : y < n
        · have hyz : (y : Int) < n := by omega
          go_wp2_with fail
          go_loopw [6] (fun i wi => ∃ z : Nat, z ≤ n ∧ i = .int .i64 z ∧ Quiet w wi ∧ ∀ i, i < (x * n + y) * n + z → qAt (cyq f) n i = false) (fun i _ => n - (intOf i).toNat)
          case atStart => exact ⟨0, Nat.zero_le _, rfl, HQI.out, HALLI.out⟩
          case round =>
            obtain ⟨z, hzn, rfl, hq, hallj⟩ := hrel
            have HQJ := hide hq
            clear hq
            have HALLJ := hide hallj
            clear hallj
            by_cases hltz : z < n
            · have hzz : (z : Int) < n := by omega
              have hq1 := HTB.out.ap_lt HN.out hlt hlty
              have hq3 := HTB.out.ap_lt HN.out hlty hlt
              have hq2 := HTB.out.ap_lt HN.out hlt hltz
              have hq4 := HTB.out.ap_lt HN.out hlty hltz
              have hat := qAt_at (q := cyq f) (n := n) (x := x) hlty hltz
              have HTR := hide (trip_of (n := n) (x := x) hlty hltz)
              have HKL := hide (trip_lt (n := n) hlt hlty hltz)
              unfold cyq at hat
              obtain ⟨q1, h_1⟩ : ∃ u, ap f x y = u := ⟨_, rfl⟩
              obtain ⟨q2, h_2⟩ : ∃ u, ap f x z = u := ⟨_, rfl⟩
              obtain ⟨q3, h_3⟩ : ∃ u, ap f y x = u := ⟨_, rfl⟩
              obtain ⟨q4, h_4⟩ : ∃ u, ap f y z = u := ⟨_, rfl⟩
              rw [h_1, h_2, h_3, h_4] at hat
              rw [h_1] at hq1
              rw [h_2] at hq2
              rw [h_3] at hq3
              rw [h_4] at hq4
              obtain ⟨q5, h_5⟩ : ∃ u, ap f q1 q2 = u := ⟨_, rfl⟩
              obtain ⟨q6, h_6⟩ : ∃ u, ap f q3 q4 = u := ⟨_, rfl⟩
              rw [h_5, h_6] at hat
              have HAT : Hid (qAt (cyq f) n ((x * n + y) * n + z) = !decide (q5 = q6)) := hide hat
              obtain ⟨bx, ox, cx, r1, r2, r3⟩ := HC.out x hlt
              obtain ⟨by', oy, cy, s1, s2, s3⟩ := HC.out y hlty
              obtain ⟨bp, op, cp, t1, t2, t3⟩ := HC.out q1 hq1
              obtain ⟨bq, oq, cq, v1, v2, v3⟩ := HC.out q3 hq3
              have e1 := r3 y hlty
              rw [h_1] at e1
              have e2 := r3 z hltz
              rw [h_2] at e2
              have e3 := s3 x hlt
              rw [h_3] at e3
              have e4 := s3 z hltz
              rw [h_4] at e4
              have e5 := t3 q2 hq2
              rw [h_5] at e5
              have e6 := v3 q4 hq4
              rw [h_6] at e6
              have z1 : (q1 : Int) < n := by omega
              have z2 : (q2 : Int) < n := by omega
              have z3 : (q3 : Int) < n := by omega
              have z4 : (q4 : Int) < n := by omega
              have hbl := HQJ.out.below w.heap.size
              replace r1 := (hbl.cell (p := ⟨b, o + x, none⟩) hb).trans r1
              replace s1 := (hbl.cell (p := ⟨b, o + y, none⟩) hb).trans s1
              replace t1 := (hbl.cell (p := ⟨b, o + q1, none⟩) hb).trans t1
              replace v1 := (hbl.cell (p := ⟨b, o + q3, none⟩) hb).trans v1
              replace e1 := (hbl.cell (p := ⟨bx, ox + y, none⟩) r2).trans e1
              replace e2 := (hbl.cell (p := ⟨bx, ox + z, none⟩) r2).trans e2
              replace e3 := (hbl.cell (p := ⟨by', oy + x, none⟩) s2).trans e3
              replace e4 := (hbl.cell (p := ⟨by', oy + z, none⟩) s2).trans e4
              replace e5 := (hbl.cell (p := ⟨bp, op + q2, none⟩) t2).trans e5
              replace e6 := (hbl.cell (p := ⟨bq, oq + q4, none⟩) v2).trans e6
              clear hbl h_1 h_2 h_3 h_4 h_5 h_6 hat r3 s3 t3 v3
              by_cases hcs : q5 = q6
              · have HGOOD : Hid (qAt (cyq f) n ((x * n + y) * n + z) = false) := hide (by rw [HAT.out, hcs]; simp)
                subst hcs
                go_wp2_with fail
                go_quiet (fail)
                go_wp2_with fail
                go_roundw
                case rel => exact ⟨z + 1, by omega, by go_num, HQJ.out.drewN _, fun i hi => by
                  by_cases e : i = (x * n + y) * n + z
                  · rw [e]; exact HGOOD.out
                  · exact HALLJ.out i (by omega)⟩
                case measure => simp [intOf]; omega
              · have hbad : qAt (cyq f) n ((x * n + y) * n + z) = true := by rw [HAT.out]; simp [hcs]
                have HTB2 := hide (HT.out.bad HALLJ.out HKL.out hbad)
                have hcz : ¬ (q5 : Int) = q6 := by omega
                clear hbad
                go_wp2_with fail
                go_quiet (fail)
                go_wp2_with fail
                refine bp_gen fun wf hwf => ?_
                have HBF : Below w.heap.size w wf := by rw [hwf]; exact ((HQJ.out.drewN nq).below _).alloc ((HQJ.out.drewN nq).below 0).size _
                have HLF : Hid (Blk wf (wr.drewN nq).heap.size 2 [.int .i64 x, .int .i64 y, .int .i64 z]) := hide (by rw [hwf]; exact Blk.new _ _ _)
                have hlo : w.heap.size ≤ (wr.drewN nq).heap.size := ((HQJ.out.drewN nq).below 0).size
                clear hwf
                go_ret
                exact .inr ⟨by rw [HTB2.out]; exact HKL.out, _, rfl, HBF, hlo, _, HLF.out, fun i hi => by
                  rw [HTB2.out, HTR.out] at hi ⊢
                  simp [lst3] at hi
                  rcases i with _ | _ | _ | i
                  · rfl
                  · rfl
                  · rfl
                  · omega⟩
            · have hzn' : z = n := by omega
              subst hzn'
              go_wp2_with fail
              go_roundw
              case rel => exact ⟨y + 1, by omega, by go_num, HQJ.out, fun i hi => HALLJ.out i (by rw [← Nat.add_assoc, Nat.add_mul _ 1, Nat.one_mul] at hi; exact hi)⟩
              case measure => simp [intOf]; omega
        · have hyn' : y = n := by omega
          subst hyn'
          go_wp2_with fail
          go_roundw
          case rel => exact ⟨x + 1, by omega, by go_num, HQI.out, fun i hi => HALLI.out i (by rw [Nat.add_mul x 1, Nat.one_mul] at hi; exact hi)⟩
          case measure => simp [intOf]; omega
    · have hxn : x = n := by omega
      subst hxn
      go_wp2_with fail
      refine bp_gen fun wf hwf => ?_
      have HBF : Below w.heap.size w wf := by rw [hwf]; exact (HQ.out.below _).alloc (HQ.out.below 0).size _
      clear hwf
      go_ret
      exact .inl ⟨HT.out.all HALL.out, _, rfl, HBF⟩

set_option maxRecDepth 100000 in
theorem squaresS_any (A : Option Addr) (n c : Nat) (f : List (List Int)) (w : World) (hn : f.length = n) (ht : Tbl f) (hr : Rd2 w A f) :
    Calls Try.prog 62 #[.slice A n c] w fun e w' => ∃ A' c', e = .returned (.slice A' n c') ∧ Below w.heap.size w w' ∧ Res 2 w.heap.size w' A' (kinkL f) := by
  have h1 : 1 ≤ n := by rw [← hn]; exact ht.1
  have h12 : n ≤ 12 := by rw [← hn]; exact ht.2.1
  obtain ⟨b, o, rfl, hb, hc⟩ := ht.cells hr hn
  have HC := hide hc
  have HN := hide hn
  have HZ : Hid ((kinkL f).length = n) := hide ((kinkL_length f).trans hn)
  obtain ⟨i0, hi, hz0, hz1, hz2⟩ := info_parts kqInfo
  have HB0 := hide ((Below.refl _ w).alloc (Nat.le_refl _) (Obj.cells #[] 2))
  have HE0 := hide (kq_empty w 2)
  clear hn ht hr hc
  go_enter Try.func62, Try.ntmps62
  go_wp2_with fail
  go_loopw [3, 4] (fun v i wr => ∃ k : Nat, k ≤ n ∧ i = .int .i64 k ∧ Below w.heap.size w wr ∧ wr.ownsRow w.heap.size 2 1 v k (ints ((kinkL f).take k)) ∧ w.heap.size ≤ wr.heap.size) (fun _ i _ => n - (intOf i).toNat)
  case atStart => exact ⟨0, Nat.zero_le _, rfl, HB0.out, by simpa [ints] using HE0.out, by simp⟩
  case round =>
    obtain ⟨k, hk, rfl, hbe, hown, hsz⟩ := hrel
    have HB := hide hbe
    have HO := hide hown
    clear hbe hown
    by_cases hlt : k < n
    · obtain ⟨bx, ox, cx, r1, r2, r3⟩ := HC.out k hlt
      have e1 := r3 k hlt
      obtain ⟨u, hu⟩ : ∃ u, ap f k k = u := ⟨_, rfl⟩
      rw [hu] at e1
      have HU := hide hu
      replace r1 := (HB.out.cell (p := ⟨b, o + k, none⟩) hb).trans r1
      replace e1 := (HB.out.cell (p := ⟨bx, ox + k, none⟩) r2).trans e1
      clear r3 hu
      have hltz : (k : Int) < n := by omega
      go_wp2_with (at_builtin; refine wpList_append_own _ rfl _ _ 31 rfl w.heap.size 2 i0 (.int .i64 0) 1 8 Try.underlying31 hi hz0 hz1 hz2 rfl (by decide) _ _ _ rfl (HO.out.alloc _) ⟨wr.heap.size, 0, none⟩ 1 1 [.int .i64 (u : Int)] rfl rfl ?c1 ?c2 ?c3 ?c4 ?c5 ?_)
      case c1 => exact kq_new
      case c2 => intro u hu; simp at hu; subst hu; rfl
      case c3 => unfold maxLen; omega
      case c4 => omega
      case c5 => simp; omega
      intro v' w1 hown' hgrow _
      have HO' := hide hown'
      have HG := hide hgrow
      clear hown' hgrow
      go_wp2_with fail
      go_roundw
      case rel =>
        have hlow : w.heap.size ≤ wr.heap.size := by omega
        have hB1 : Below w.heap.size w w1 := (HB.out.alloc hlow _).grown HG.out (by simp; omega) (fun g hg => by have h := ((HO.out.alloc (.cells #[.int .i64 (u : Int)] 2)).lt g hg).1; omega)
        refine ⟨k + 1, by omega, by go_num, hB1, ?_, hB1.size⟩
        have h := HO'.out
        rw [kq_take _ k (u : Int) (by have := HZ.out; omega) (by rw [kinkL_getD f k (by have := HN.out; omega), HU.out])] at h
        exact h
      case measure => simp [intOf]; omega
    · have hkn : k = n := by omega
      subst hkn
      go_wp2_with fail
      have h := HO.out
      rw [List.take_of_length_le (by have := HZ.out; omega)] at h
      go_ret
      obtain ⟨A', c', hv, hres⟩ := own_shape h
      exact ⟨A', c', by rw [← hv]; rfl, HB.out, hres.mono (by omega)⟩

set_option maxRecDepth 100000 in
theorem isCycS (A : Option Addr) (n c : Nat) (f : List (List Int)) (r : Bool) (w : World) (hn : f.length = n) (hb : n ≤ 1048576) (hbs : ∀ i, i < f.length → (f.getD i []).length ≤ 1048576) (hr : Rd2 w A f) (hres : CyRes f r) :
    Calls Try.prog 53 #[.agg #[.slice A n c]] w fun e w' => e = .returned (.bool r) ∧ Below w.heap.size w w' := by
  have HN := hide hn
  have HBS := hide hbs
  have HRD := hide hr
  have HR := hide hres
  have HB0 := hide ((Below.refl _ w).alloc (Nat.le_refl _) (Obj.cells #[Value.slice A n c] 27))
  have HK0 := hide (Blk.new w 27 [.slice A n c])
  have hno : ¬ Cyc f → r = false := fun h => by
    cases r
    · rfl
    · exact absurd (hres.1 rfl) h
  have HNO := hide hno
  have hyes : Cyc f → r = true := fun h => hres.2 h
  have HYES := hide hyes
  clear hno hyes hn hbs hr hres
  by_cases ht : Tbl f
  · have HTB := hide ht
    clear ht
    have h12 : n ≤ 12 := by rw [← HN.out]; exact HTB.out.2.1
    go_enter Try.func53, Try.ntmps53
    go_wp2_with fail
    refine (l01Table_any _ _ _ f true _ HN.out (by omega) (fun i hi => by have := HBS.out i hi; omega) (HRD.out.later HB0.out) (by simp [HTB.out])).mono ?_
    rintro e w1 ⟨rfl, hq1⟩
    have HB1 := hide (HB0.out.trans (hq1.below _))
    have HK1 := hide (HK0.out.later (hq1.below _))
    clear hq1
    have k0 := HK1.out.cell 0 _ rfl
    by_cases hp : AllPrm f
    · have HP := hide hp
      clear hp
      go_wp2_with fail
      clear k0
      refine (rowsS_any _ _ _ f true _ HN.out hb HBS.out (HRD.out.later HB1.out) ⟨fun _ => HP.out, fun _ => rfl⟩).mono ?_
      rintro e w2 ⟨rfl, hb2⟩
      have HB2 := hide (HB1.out.trans (hb2.mono HB1.out.size))
      have HK2 := hide (HK1.out.later hb2)
      clear hb2
      have k0 := HK2.out.cell 0 _ rfl
      go_wp2_with fail
      clear k0
      refine (squaresS_any _ _ _ f _ HN.out HTB.out (HRD.out.later HB2.out)).mono ?_
      rintro e w3 ⟨A3, c3, rfl, hb3, hres3⟩
      have HB3 := hide (HB2.out.trans (hb3.mono HB2.out.size))
      have HK3 := hide (HK2.out.later hb3)
      have HS3 := hide hres3.rd
      clear hb3 hres3
      by_cases hs : Prm (kinkL f)
      · have HS := hide hs
        clear hs
        go_wp2_with fail
        refine (prmS_below _ _ _ (kinkL f) true _ ((kinkL_length f).trans HN.out) (by omega) HS3.out (by simp [HS.out])).mono ?_
        rintro e w4 ⟨rfl, hb4⟩
        have HB4 := hide (HB3.out.trans (hb4.mono HB3.out.size))
        have HK4 := hide (HK3.out.later hb4)
        clear hb4
        have k0 := HK4.out.cell 0 _ rfl
        go_wp2_with fail
        clear k0
        obtain ⟨T, hT⟩ := FirstQ.ex (cyq f) n
        have HT := hide hT
        clear hT
        refine (faultD_any _ _ _ f T _ HN.out HTB.out (HRD.out.later HB4.out) HT.out).mono ?_
        rintro e w5 (⟨hTe, g, rfl, hb5⟩ | ⟨hTl, g, rfl, hb5, hg, hob⟩)
        · have hrt : r = true := HYES.out ⟨⟨HTB.out, HP.out⟩, HS.out, by rw [HN.out]; exact HT.out.iff.1 hTe⟩
          subst hrt
          have HB5 := hide (HB4.out.trans (hb5.mono HB4.out.size))
          clear hb5 hTe
          go_wp2_with fail
          go_ret
          exact ⟨rfl, HB5.out⟩
        · have hrf : r = false := HNO.out fun h => by
            have h := h.2.2
            rw [HN.out] at h
            have := HT.out.iff.2 h
            omega
          subst hrf
          have HB5 := hide (HB4.out.trans (hb5.mono HB4.out.size))
          clear hb5 hTl hob
          go_wp2_with fail
          go_ret
          exact ⟨rfl, HB5.out⟩
      · have HS := hide hs
        clear hs
        go_wp2_with fail
        refine (prmS_below _ _ _ (kinkL f) false _ ((kinkL_length f).trans HN.out) (by omega) HS3.out (by simp [HS.out])).mono ?_
        rintro e w4 ⟨rfl, hb4⟩
        have HB4 := hide (HB3.out.trans (hb4.mono HB3.out.size))
        clear hb4
        have hrf : r = false := HNO.out fun h => HS.out h.2.1
        subst hrf
        go_wp2_with fail
        go_ret
        exact ⟨rfl, HB4.out⟩
    · have HP := hide hp
      clear hp
      go_wp2_with fail
      clear k0
      refine (rowsS_any _ _ _ f false _ HN.out hb HBS.out (HRD.out.later HB1.out) ⟨fun h => (by cases h), fun h => absurd h HP.out⟩).mono ?_
      rintro e w2 ⟨rfl, hb2⟩
      have HB2 := hide (HB1.out.trans (hb2.mono HB1.out.size))
      clear hb2
      have hrf : r = false := HNO.out fun h => HP.out h.prm
      subst hrf
      go_wp2_with fail
      go_ret
      exact ⟨rfl, HB2.out⟩
  · have HTB := hide ht
    clear ht
    have hrf : r = false := HNO.out fun h => HTB.out h.tbl
    subst hrf
    go_enter Try.func53, Try.ntmps53
    go_wp2_with fail
    refine (l01Table_any _ _ _ f false _ HN.out (by omega) (fun i hi => by have := HBS.out i hi; omega) (HRD.out.later HB0.out) (by simp [HTB.out])).mono ?_
    rintro e w1 ⟨rfl, hq1⟩
    have HB1 := hide (HB0.out.trans (hq1.below _))
    clear hq1
    go_wp2_with fail
    go_ret
    exact ⟨rfl, HB1.out⟩
end Go.Proofs.Ytgahmfkmhaeniaa
namespace Go.Proofs.Ytgahmfkmhaeniaa
open Go Go.RowKit
set_option maxHeartbeats 2000000

set_option maxRecDepth 100000 in
theorem isCycIW (A : Option Addr) (n c : Nat) (f : List (List Int)) (r : Bool) (w : World) (hn : f.length = n) (hb : n ≤ 1048576) (hbs : ∀ i, i < f.length → (f.getD i []).length ≤ 1048576) (hr : Rd2 w A f) (hres : CyRes f r) :
    Calls Try.prog 18 #[.agg #[.slice A n c]] w fun e w' => e = .returned (.bool r) ∧ Below w.heap.size w w' := by
  have HN := hide hn
  have HBS := hide hbs
  have HRD := hide hr
  have HB0 := hide ((Below.refl _ w).alloc (Nat.le_refl _) (Obj.cells #[Value.slice A n c] 27))
  have HK0 := hide (Blk.new w 27 [.slice A n c])
  have HRS := hide hres
  clear hn hbs hr hres
  go_enter Try.func18, Try.ntmps18
  go_wp2_with fail
  refine (isCycD _ _ _ f r _ HN.out hb HBS.out (HRD.out.later HB0.out) HRS.out).mono ?_
  rintro e w1 ⟨rfl, hb1⟩
  have HB1 := hide (HB0.out.trans (hb1.mono HB0.out.size))
  clear hb1
  go_wp2_with fail
  go_ret
  exact ⟨rfl, HB1.out⟩

set_option maxRecDepth 100000 in
theorem sqsIW (A : Option Addr) (n c : Nat) (f : List (List Int)) (zs : List Int) (code : Int) (k : Nat) (w : World) (hn : f.length = n) (hb : n ≤ 1048576) (hbs : ∀ i, i < f.length → (f.getD i []).length ≤ 1048576) (hr : Rd2 w A f) (hres : DqRes f zs code) (hk : zs.length = k) :
    Calls Try.prog 27 #[.agg #[.slice A n c]] w (RPost 2 k zs code w) := by
  have HN := hide hn
  have HBS := hide hbs
  have HRD := hide hr
  have HB0 := hide ((Below.refl _ w).alloc (Nat.le_refl _) (Obj.cells #[Value.slice A n c] 27))
  have HK0 := hide (Blk.new w 27 [.slice A n c])
  rcases hres with ⟨ht, rfl, rfl⟩ | ⟨ht, rfl, rfl⟩
  · have hk2 : k = n := by rw [← hk, kinkL_length, hn]
    subst hk2
    have HTB := hide ht
    clear hn hbs hr ht hk
    go_enter Try.func27, Try.ntmps27
    go_wp2_with fail
    refine (isTable_any _ _ _ f true _ HN.out (by omega) (fun i hi => by have := HBS.out i hi; omega) (HRD.out.later HB0.out) (by simp [HTB.out])).mono ?_
    rintro e w1 ⟨rfl, hq1⟩
    have HB1 := hide (HB0.out.trans (hq1.below _))
    have HK1 := hide (HK0.out.later (hq1.below _))
    clear hq1
    have k0 := HK1.out.cell 0 _ rfl
    go_wp2_with fail
    clear k0
    refine (squares_any _ _ _ f _ HN.out HTB.out (HRD.out.later HB1.out)).mono ?_
    rintro e w2 ⟨g, rfl, hb2, hg, hob⟩
    have HB2 := hide (HB1.out.trans (hb2.mono HB1.out.size))
    have HO2 := hide hob
    have hlo := HB1.out.size
    clear hb2 hob
    go_wp2_with fail
    go_ret2
    exact ⟨_, _, rfl, HB2.out, .inr ⟨g, rfl, by omega, HO2.out⟩⟩
  · subst hk
    have HTB := hide ht
    clear hn hbs hr ht
    go_enter Try.func27, Try.ntmps27
    go_wp2_with fail
    refine (isTable_any _ _ _ f false _ HN.out (by omega) (fun i hi => by have := HBS.out i hi; omega) (HRD.out.later HB0.out) (by simp [HTB.out])).mono ?_
    rintro e w1 ⟨rfl, hq1⟩
    have HB1 := hide (HB0.out.trans (hq1.below _))
    clear hq1
    go_wp2_with fail
    go_ret2
    exact ⟨_, _, rfl, HB1.out, .inl ⟨rfl, rfl⟩⟩

set_option maxRecDepth 100000 in
theorem cyfIW (A : Option Addr) (n c : Nat) (f : List (List Int)) (zs : List Int) (code : Int) (k : Nat) (w : World) (hn : f.length = n) (hb : n ≤ 1048576) (hbs : ∀ i, i < f.length → (f.getD i []).length ≤ 1048576) (hr : Rd2 w A f) (hres : CyFRes f zs code) (hk : zs.length = k) :
    Calls Try.prog 21 #[.agg #[.slice A n c]] w (RPost 2 k zs code w) := by
  have HN := hide hn
  have HBS := hide hbs
  have HRD := hide hr
  have HB0 := hide ((Below.refl _ w).alloc (Nat.le_refl _) (Obj.cells #[Value.slice A n c] 27))
  have HK0 := hide (Blk.new w 27 [.slice A n c])
  have hnil : ∀ (u : World) (a : Option Addr) (n c : Nat), (binOp .eql 31 (.slice a n c) (.slice none 0 0)).run Try.prog u = .ok (.bool a.isNone) u := fun u a n c => Lib.run_eql_slice_nil u 31 _ a n c 0 0 Try.underlying31
  rcases hres with ⟨T, ht, hT, hcase⟩ | ⟨ht, rfl, rfl⟩
  · have HTB := hide ht
    rw [hn] at hT hcase
    have HT := hide hT
    have HC := hide hcase
    have HKZ := hide hk
    clear hn hbs hr ht hT hcase hk
    go_enter Try.func21, Try.ntmps21
    go_wp2_with fail
    refine (isTable_any _ _ _ f true _ HN.out (by omega) (fun i hi => by have := HBS.out i hi; omega) (HRD.out.later HB0.out) (by simp [HTB.out])).mono ?_
    rintro e w1 ⟨rfl, hq1⟩
    have HB1 := hide (HB0.out.trans (hq1.below _))
    have HK1 := hide (HK0.out.later (hq1.below _))
    clear hq1
    have k0 := HK1.out.cell 0 _ rfl
    go_wp2_with fail
    clear k0
    refine (dfault_any _ _ _ f T _ HN.out HTB.out (HRD.out.later HB1.out) HT.out).mono ?_
    rintro e w3 (⟨hTe, rfl, hb3⟩ | ⟨hTl, g, rfl, hb3, hg, hob⟩)
    · obtain ⟨rfl, rfl⟩ : zs = [] ∧ code = 4 := by
        rcases HC.out with ⟨h, _, _⟩ | ⟨_, h1, h2⟩
        · omega
        · exact ⟨h1, h2⟩
      have hk0 : k = 0 := by rw [← HKZ.out]; rfl
      subst hk0
      have HB3 := hide (HB1.out.trans (hb3.mono HB1.out.size))
      clear hb3 hTe
      go_wp2_with fail
      go_ret2
      exact ⟨_, _, rfl, HB3.out, .inl ⟨rfl, rfl⟩⟩
    · obtain ⟨rfl, rfl⟩ : zs = lst3 (trip n T) ∧ code = 0 := by
        rcases HC.out with ⟨_, h1, h2⟩ | ⟨h, _, _⟩
        · exact ⟨h1, h2⟩
        · omega
      have hk3 : k = 3 := by rw [← HKZ.out]; rfl
      subst hk3
      have HB3 := hide (HB1.out.trans (hb3.mono HB1.out.size))
      have HO3 := hide hob
      have hlo := HB1.out.size
      clear hb3 hob
      go_wp2_with fail
      go_ret2
      exact ⟨_, _, rfl, HB3.out, .inr ⟨g, rfl, by omega, HO3.out⟩⟩
  · subst hk
    have HTB := hide ht
    clear hn hbs hr ht
    go_enter Try.func21, Try.ntmps21
    go_wp2_with fail
    refine (isTable_any _ _ _ f false _ HN.out (by omega) (fun i hi => by have := HBS.out i hi; omega) (HRD.out.later HB0.out) (by simp [HTB.out])).mono ?_
    rintro e w1 ⟨rfl, hq1⟩
    have HB1 := hide (HB0.out.trans (hq1.below _))
    clear hq1
    go_wp2_with fail
    go_ret2
    exact ⟨_, _, rfl, HB1.out, .inl ⟨rfl, rfl⟩⟩

set_option maxRecDepth 100000 in
theorem isCycSW (A : Option Addr) (n c : Nat) (f : List (List Int)) (r : Bool) (w : World) (hn : f.length = n) (hb : n ≤ 1048576) (hbs : ∀ i, i < f.length → (f.getD i []).length ≤ 1048576) (hr : Rd2 w A f) (hres : CyRes f r) :
    Calls Try.prog 16 #[.agg #[.slice A n c]] w fun e w' => e = .returned (.bool r) ∧ Below w.heap.size w w' := by
  have HN := hide hn
  have HBS := hide hbs
  have HRD := hide hr
  have HB0 := hide ((Below.refl _ w).alloc (Nat.le_refl _) (Obj.cells #[Value.slice A n c] 27))
  have HK0 := hide (Blk.new w 27 [.slice A n c])
  have HRS := hide hres
  clear hn hbs hr hres
  go_enter Try.func16, Try.ntmps16
  go_wp2_with fail
  refine (isCycS _ _ _ f r _ HN.out hb HBS.out (HRD.out.later HB0.out) HRS.out).mono ?_
  rintro e w1 ⟨rfl, hb1⟩
  have HB1 := hide (HB0.out.trans (hb1.mono HB0.out.size))
  clear hb1
  go_wp2_with fail
  go_ret
  exact ⟨rfl, HB1.out⟩

set_option maxRecDepth 100000 in
theorem sqsSW (A : Option Addr) (n c : Nat) (f : List (List Int)) (zs : List Int) (code : Int) (k : Nat) (w : World) (hn : f.length = n) (hb : n ≤ 1048576) (hbs : ∀ i, i < f.length → (f.getD i []).length ≤ 1048576) (hr : Rd2 w A f) (hres : DqRes f zs code) (hk : zs.length = k) :
    Calls Try.prog 26 #[.agg #[.slice A n c]] w (RPost 2 k zs code w) := by
  have HN := hide hn
  have HBS := hide hbs
  have HRD := hide hr
  have HB0 := hide ((Below.refl _ w).alloc (Nat.le_refl _) (Obj.cells #[Value.slice A n c] 27))
  have HK0 := hide (Blk.new w 27 [.slice A n c])
  rcases hres with ⟨ht, rfl, rfl⟩ | ⟨ht, rfl, rfl⟩
  · have hk2 : k = n := by rw [← hk, kinkL_length, hn]
    subst hk2
    have HTB := hide ht
    clear hn hbs hr ht hk
    go_enter Try.func26, Try.ntmps26
    go_wp2_with fail
    refine (l01Table_any _ _ _ f true _ HN.out (by omega) (fun i hi => by have := HBS.out i hi; omega) (HRD.out.later HB0.out) (by simp [HTB.out])).mono ?_
    rintro e w1 ⟨rfl, hq1⟩
    have HB1 := hide (HB0.out.trans (hq1.below _))
    have HK1 := hide (HK0.out.later (hq1.below _))
    clear hq1
    have k0 := HK1.out.cell 0 _ rfl
    go_wp2_with fail
    clear k0
    refine (squaresS_any _ _ _ f _ HN.out HTB.out (HRD.out.later HB1.out)).mono ?_
    rintro e w2 ⟨A2, c2, rfl, hb2, hob⟩
    have HB2 := hide (HB1.out.trans (hb2.mono HB1.out.size))
    have HO2 := hide hob
    have hlo := HB1.out.size
    clear hb2 hob
    go_wp2_with fail
    go_ret2
    exact ⟨_, _, rfl, HB2.out, HO2.out.mono hlo⟩
  · subst hk
    have HTB := hide ht
    clear hn hbs hr ht
    go_enter Try.func26, Try.ntmps26
    go_wp2_with fail
    refine (l01Table_any _ _ _ f false _ HN.out (by omega) (fun i hi => by have := HBS.out i hi; omega) (HRD.out.later HB0.out) (by simp [HTB.out])).mono ?_
    rintro e w1 ⟨rfl, hq1⟩
    have HB1 := hide (HB0.out.trans (hq1.below _))
    clear hq1
    go_wp2_with fail
    go_ret2
    exact ⟨_, _, rfl, HB1.out, .inl ⟨rfl, rfl⟩⟩

set_option maxRecDepth 100000 in
theorem cyfSW (A : Option Addr) (n c : Nat) (f : List (List Int)) (zs : List Int) (code : Int) (k : Nat) (w : World) (hn : f.length = n) (hb : n ≤ 1048576) (hbs : ∀ i, i < f.length → (f.getD i []).length ≤ 1048576) (hr : Rd2 w A f) (hres : CyFRes f zs code) (hk : zs.length = k) :
    Calls Try.prog 20 #[.agg #[.slice A n c]] w (RPost 2 k zs code w) := by
  have HN := hide hn
  have HBS := hide hbs
  have HRD := hide hr
  have HB0 := hide ((Below.refl _ w).alloc (Nat.le_refl _) (Obj.cells #[Value.slice A n c] 27))
  have HK0 := hide (Blk.new w 27 [.slice A n c])
  rcases hres with ⟨T, ht, hT, hcase⟩ | ⟨ht, rfl, rfl⟩
  · have HTB := hide ht
    rw [hn] at hT hcase
    have HT := hide hT
    have HC := hide hcase
    have HKZ := hide hk
    clear hn hbs hr ht hT hcase hk
    go_enter Try.func20, Try.ntmps20
    go_wp2_with fail
    refine (l01Table_any _ _ _ f true _ HN.out (by omega) (fun i hi => by have := HBS.out i hi; omega) (HRD.out.later HB0.out) (by simp [HTB.out])).mono ?_
    rintro e w1 ⟨rfl, hq1⟩
    have HB1 := hide (HB0.out.trans (hq1.below _))
    have HK1 := hide (HK0.out.later (hq1.below _))
    clear hq1
    have k0 := HK1.out.cell 0 _ rfl
    go_wp2_with fail
    clear k0
    refine (faultD_any _ _ _ f T _ HN.out HTB.out (HRD.out.later HB1.out) HT.out).mono ?_
    rintro e w3 (⟨hTe, g, rfl, hb3⟩ | ⟨hTl, g, rfl, hb3, hg, hob⟩)
    · obtain ⟨rfl, rfl⟩ : zs = [] ∧ code = 4 := by
        rcases HC.out with ⟨h, _, _⟩ | ⟨_, h1, h2⟩
        · omega
        · exact ⟨h1, h2⟩
      have hk0 : k = 0 := by rw [← HKZ.out]; rfl
      subst hk0
      have HB3 := hide (HB1.out.trans (hb3.mono HB1.out.size))
      clear hb3 hTe
      go_wp2_with fail
      go_ret2
      exact ⟨_, _, rfl, HB3.out, .inl ⟨rfl, rfl⟩⟩
    · obtain ⟨rfl, rfl⟩ : zs = lst3 (trip n T) ∧ code = 0 := by
        rcases HC.out with ⟨_, h1, h2⟩ | ⟨h, _, _⟩
        · exact ⟨h1, h2⟩
        · omega
      have hk3 : k = 3 := by rw [← HKZ.out]; rfl
      subst hk3
      have HB3 := hide (HB1.out.trans (hb3.mono HB1.out.size))
      have HO3 := hide hob
      have hlo := HB1.out.size
      clear hb3 hob
      go_wp2_with fail
      go_ret2
      exact ⟨_, _, rfl, HB3.out, .inr ⟨g, rfl, by omega, HO3.out⟩⟩
  · subst hk
    have HTB := hide ht
    clear hn hbs hr ht
    go_enter Try.func20, Try.ntmps20
    go_wp2_with fail
    refine (l01Table_any _ _ _ f false _ HN.out (by omega) (fun i hi => by have := HBS.out i hi; omega) (HRD.out.later HB0.out) (by simp [HTB.out])).mono ?_
    rintro e w1 ⟨rfl, hq1⟩
    have HB1 := hide (HB0.out.trans (hq1.below _))
    clear hq1
    go_wp2_with fail
    go_ret2
    exact ⟨_, _, rfl, HB1.out, .inl ⟨rfl, rfl⟩⟩

end Go.Proofs.Ytgahmfkmhaeniaa
namespace Go.Proofs.Ytgahmfkmhaeniaa
open Go Go.RowKit

/-- A slice of n slices in block g of which the first k are laid: the rows h 0, h 1, .. in blocks of their own behind it. -/
structure Fil (ts t : TypeId) (n k : Nat) (h : Nat → List Int) (lo g : Nat) (w : World) : Prop where
  low : lo ≤ g
  all : ∃ (cur : Array Value) (R : Nat → Option Addr) (C : Nat → Nat), w.heap[g]? = some (.cells cur ts (0, 0)) ∧ cur.size = n ∧ (∀ i, i < k → cur[i]? = some (.slice (R i) (h i).length (C i))) ∧ (∀ i, i < k → Obj1 t (g + 1) w.heap.size w (R i) (h i)) ∧
    (∀ i j, i < k → j < k → i ≠ j → ∀ a b, R i = some a → R j = some b → a.block ≠ b.block)

section
variable {ts t : TypeId} {n k : Nat} {h : Nat → List Int} {lo g : Nat} {w w' : World}
theorem Fil.lt (f : Fil ts t n k h lo g w) : g < w.heap.size := by
  obtain ⟨_, cur, R, C, h1, _⟩ := f
  exact (Array.getElem?_eq_some_iff.1 h1).1
theorem Fil.start (w : World) (hlo : lo ≤ w.heap.size) : Fil ts t n 0 h lo w.heap.size (w.alloc (.cells (madeCells #[.slice none 0 0] n) ts)) :=
  ⟨hlo, _, fun _ => none, fun _ => 0, heap_alloc_new _ _, by simp [madeCells], fun i hi => absurd hi (Nat.not_lt_zero _), fun i hi => absurd hi (Nat.not_lt_zero _), fun i j hi => absurd hi (Nat.not_lt_zero _)⟩
theorem Fil.later (f : Fil ts t n k h lo g w) (hb : Below w.heap.size w w') : Fil ts t n k h lo g w' := by
  have hl := f.lt
  obtain ⟨h0, cur, R, C, h1, h2, h3, h4, h5⟩ := f
  exact ⟨h0, cur, R, C, (hb.block g hl).trans h1, h2, h3, fun i hi => ((h4 i hi).later hb).mono (Nat.le_refl _) hb.size, h5⟩
theorem Fil.at (f : Fil ts t n k h lo g w) (i : Nat) (hi : i < n) : (∃ v, w.cell? ⟨g, i, none⟩ = some v) ∧ w.frozen? ⟨g, i, none⟩ = false := by
  obtain ⟨_, cur, R, C, h1, h2, _⟩ := f
  refine ⟨?_, by simp [World.frozen?, h1]⟩
  rw [cell_of_row w g i cur ts (0, 0) h1]
  exact ⟨cur[i]'(by omega), by simp [h2, hi]⟩
theorem Fil.push {A : Option Addr} {c : Nat} (f : Fil ts t n k h lo g w) (hb : Below w.heap.size w w') (hA : Res t w.heap.size w' A (h k)) (hk : k < n) :
    Fil ts t n (k + 1) h lo g (w'.setCell ⟨g, k, none⟩ (.slice A (h k).length c)) := by
  have hl := f.lt
  have f' := f.later hb
  obtain ⟨h0, cur, R, C, h1, h2, h3, h4, h5⟩ := f
  have hg' : w'.heap[g]? = some (.cells cur ts (0, 0)) := (hb.block g hl).trans h1
  have hold : ∀ i, i < k → Obj1 t (g + 1) w.heap.size w' (R i) (h i) := fun i hi => (h4 i hi).later hb
  have hnew : Obj1 t w.heap.size w'.heap.size w' A (h k) := hA.obj
  refine ⟨h0, cur.set! k (.slice A (h k).length c), fun i => if i = k then A else R i, fun i => if i = k then c else C i, ?_, by simp [h2], ?_, ?_, ?_⟩
  · simp [World.setCell, Array.getElem?_modify, hg']
  · intro i hi
    by_cases e : i = k
    · subst e
      simp [h2, hk]
    · simp only [if_neg e]
      rw [Array.set!_eq_setIfInBounds, Array.getElem?_setIfInBounds_ne (fun e2 => e e2.symm)]
      exact h3 i (by omega)
  · intro i hi
    have hs : (w'.setCell ⟨g, k, none⟩ (.slice A (h k).length c)).heap.size = w'.heap.size := by simp [World.setCell]
    rw [hs]
    by_cases e : i = k
    · subst e
      simp only [if_pos]
      exact (hnew.mono (lo' := g + 1) (by omega) (Nat.le_refl _)).set (.inl (Nat.lt_succ_self _)) _
    · simp only [if_neg e]
      exact ((hold i (by omega)).mono (Nat.le_refl _) hb.size).set (.inl (Nat.lt_succ_self _)) _
  · intro i j hi hj hne a b ha hb'
    by_cases e1 : i = k
    · have e2 : j ≠ k := fun e2 => hne (e1.trans e2.symm)
      simp only [if_pos e1, if_neg e2] at ha hb'
      have p := hnew.bounds a ha
      have q := (h4 j (by omega)).bounds b hb'
      omega
    · simp only [if_neg e1] at ha
      by_cases e2 : j = k
      · simp only [if_pos e2] at hb'
        have p := hnew.bounds b hb'
        have q := (h4 i (by omega)).bounds a ha
        omega
      · simp only [if_neg e2] at hb'
        exact h5 i j (by omega) (by omega) hne a b ha hb'
theorem Fil.done (f : Fil ts t n n h lo g w) : Obj2 ts t lo w.heap.size w (some ⟨g, 0, none⟩) ((List.range n).map h) := by
  have hl := f.lt
  obtain ⟨h0, cur, R, C, h1, h2, h3, h4, h5⟩ := f
  have hg : ∀ i, i < n → ((List.range n).map h).getD i [] = h i := fun i hi => by simp [hi]
  refine .inr ⟨g, R, C, rfl, h0, hl, ⟨cur, h1, fun i hi => ?_⟩, fun i hi => ?_, fun i j hi hj => ?_⟩
  · simp only [List.length_map, List.length_range] at hi
    rw [hg i hi]
    exact h3 i hi
  · simp only [List.length_map, List.length_range] at hi
    rw [hg i hi]
    exact (h4 i hi).mono (by omega) (Nat.le_refl _)
  · simp only [List.length_map, List.length_range] at hi hj
    exact h5 i j hi hj
end

theorem rd_rows {w : World} {A : Option Addr} {f : List (List Int)} {n : Nat} (ht : Tbl f) (hr : Rd2 w A f) (hn : f.length = n) : ∃ b o, A = some ⟨b, o, none⟩ ∧ b < w.heap.size ∧ ∀ x, x < n → ∃ B c, w.cell? ⟨b, o + x, none⟩ = some (.slice B n c) ∧ Rd w B (f.getD x []) := by
  have h1 := ht.1
  obtain ⟨b, o, rfl, hb, hc⟩ := hr (by omega)
  refine ⟨b, o, rfl, hb, fun x hx => ?_⟩
  obtain ⟨B, c, h2, h3⟩ := hc x (by omega)
  rw [ht.rows x (by omega), hn] at h2
  exact ⟨B, c, h2, h3⟩

/-- What is asked of the function value: of each row, in each later world, it makes the row h x in memory of its own. -/
def RowFn (P : Program) (t : TypeId) (F : FuncId) (post : Array Value) (w : World) (n : Nat) (f : List (List Int)) (h : Nat → List Int) : Prop :=
  ∀ (W : World) (x : Nat) (B : Option Addr) (d : Nat), x < n → Below w.heap.size w W → Rd W B (f.getD x []) → Calls P F (#[.slice B n d] ++ post) W fun e w' => ∃ A' c', e = .returned (.slice A' (h x).length c') ∧ Below W.heap.size W w' ∧ Res t W.heap.size w' A' (h x)
end Go.Proofs.Ytgahmfkmhaeniaa
namespace Go.Proofs.Ytgahmfkmhaeniaa
open Go Go.RowKit
set_option maxHeartbeats 2000000

set_option maxRecDepth 100000 in
theorem roI_any (A : Option Addr) (n c : Nat) (f : List (List Int)) (zs : List Int) (code : Int) (k : Nat) (w : World) (hn : f.length = n) (hb : n ≤ 1048576) (hbs : ∀ i, i < f.length → (f.getD i []).length ≤ 1048576) (hr : Rd2 w A f) (hres : RoRes f zs code) (hk : zs.length = k) :
    Calls Try.prog 47 #[.agg #[.slice A n c]] w (RPost 2 k zs code w) := by
  have HN := hide hn
  have HBS := hide hbs
  have HRD := hide hr
  have HB0 := hide ((Below.refl _ w).alloc (Nat.le_refl _) (Obj.cells #[Value.slice A n c] 27))
  have HK0 := hide (Blk.new w 27 [.slice A n c])
  rcases hres with ⟨hcy, rfl, rfl⟩ | ⟨hcy, rfl, rfl⟩
  · have hk2 : k = n := by rw [← hk, roL_length, hn]
    subst hk2
    have HZ : Hid ((roL f).length = k) := hide ((roL_length f).trans hn)
    have HPM := hide hcy.prm
    clear hn hbs hr hk
    have hmk := run_make_row' (P := Try.prog) 31 2 (.int .i64 0) 8 Try.underlying31 kqInfo rfl .i64 .i64 k (by omega) (by omega)
    have HCY := hide hcy
    have HTB := hide hcy.tbl
    have h1 : 1 ≤ k := by rw [← HN.out]; exact HTB.out.1
    have h12 : k ≤ 12 := by rw [← HN.out]; exact HTB.out.2.1
    have HCR : Hid (CyRes f true) := hide ⟨fun _ => HCY.out, fun _ => rfl⟩
    clear hcy
    go_enter Try.func47, Try.ntmps47
    have k0 := HK0.out.cell 0 _ rfl
    go_wp2_with fail
    refine (isCycIW _ _ _ f true _ HN.out hb HBS.out (HRD.out.later HB0.out) HCR.out).mono ?_
    rintro e w1 ⟨rfl, hb1⟩
    have HB1 := hide (HB0.out.trans (hb1.mono HB0.out.size))
    have HK1 := hide (HK0.out.later hb1)
    clear hb1 k0
    have k0 := HK1.out.cell 0 _ rfl
    have k2 := fun o => (HK1.out.alloc o).cell 0 _ rfl
    go_wp2_with fail
    clear hmk k2
    refine wp_gen fun w2 hw2 => ?_
    obtain ⟨G, hG⟩ : ∃ G, w1.heap.size = G := ⟨_, rfl⟩
    have hgw : w.heap.size < G := by have := HK1.out.lt; omega
    have HB2 : Hid (Below w.heap.size w w2) := hide (by rw [hw2]; exact HB1.out.alloc HB1.out.size _)
    have HROW2 : Hid (OwnB 2 w2 G (List.replicate k 0)) := hide (by have h : Row 2 w2 G (List.replicate k 0) := (by rw [hw2, ← hG]; simpa using Row.made 2 w1 k); exact h.own)
    rw [hG]
    clear hw2 hG k0
    go_loopw [17] (fun i wr => ∃ j : Nat, j ≤ k ∧ i = .int .i64 j ∧ Below w.heap.size w wr ∧ OwnB 2 wr G ((roL f).take j ++ List.replicate (k - j) 0)) (fun i _ => k - (intOf i).toNat)
    case atStart => exact ⟨0, Nat.zero_le _, rfl, HB2.out, by simpa using HROW2.out⟩
    case round =>
      obtain ⟨j, hj, rfl, hbe, hrow⟩ := hrel
      have HBc := hide hbe
      have HOc := hide hrow
      clear hbe hrow
      by_cases hlt : j < k
      · have hltz : (j : Int) < k := by omega
        have hkl : Hid (j < f.length) := hide (by have := HN.out; omega)
        obtain ⟨b, o, hA, hbw, hc⟩ := (HRD.out.later HBc.out) (by have := hkl.out; omega)
        obtain ⟨Ak, ck, hcell, hrd⟩ := hc j hkl.out
        have hlen := HTB.out.row_len HN.out hlt
        rw [hlen] at hcell
        have HL := hide hlen
        have HRR := hide hrd
        have HPK := hide (HPM.out j hkl.out)
        have hl : ((roL f).take j ++ List.replicate (k - j) 0).length = k := by have := HZ.out; simp; omega
        have HLL := hide hl
        have hg : (roL f).getD j 0 = ((ordV (f.getD j []) : Nat) : Int) := roL_getD f j hkl.out
        have HG := hide hg
        subst hA
        clear hc hrd hlen hl hg
        go_wp2_with fail
        refine (order_any Ak k ck (f.getD j []) _ HL.out HPK.out HRR.out).mono ?_
        rintro e wd ⟨ys, hys, rfl, hbd⟩
        rw [ordV_of HL.out HPK.out hys]
        obtain ⟨u, hu⟩ : ∃ u, ordV (f.getD j []) = u := ⟨_, rfl⟩
        rw [hu] at HG ⊢
        have HBd := hide (HBc.out.trans (hbd.mono HBc.out.size))
        have HOd := hide (HOc.out.later hbd HOc.out.lt)
        clear hbd hys hu
        have h2 := HOd.out.cell (i := j) (by have := HLL.out; omega)
        have h3 := HOd.out.frozen j
        go_wp2_with fail
        go_roundw
        case rel =>
          have hst := HOd.out.set j (u : Int) (by have := HLL.out; omega)
          have hg := HG.out
          rw [← hg, kq_fill (roL f) k j HZ.out hlt, hg] at hst
          exact ⟨j + 1, by omega, by go_num, HBd.out.setCell (p := ⟨G, j, none⟩) (by show w.heap.size ≤ G; omega) _, hst⟩
        case measure => simp [intOf]; omega
      · have hjk : j = k := by omega
        subst hjk
        go_wp2_with fail
        have h := HOc.out
        have hz := HZ.out
        rw [Nat.sub_self, List.replicate_zero, List.append_nil, List.take_of_length_le (by omega)] at h
        go_ret2
        exact ⟨_, _, rfl, HBc.out, .inr ⟨G, rfl, by omega, h⟩⟩
  · obtain rfl : k = 0 := by rw [← hk]; rfl
    clear hn hbs hr hk
    have HCR : Hid (CyRes f false) := hide ⟨fun h => (by cases h), fun h => absurd h hcy⟩
    clear hcy
    go_enter Try.func47, Try.ntmps47
    have k0 := HK0.out.cell 0 _ rfl
    go_wp2_with fail
    refine (isCycIW _ _ _ f false _ HN.out hb HBS.out (HRD.out.later HB0.out) HCR.out).mono ?_
    rintro e w1 ⟨rfl, hb1⟩
    have HB1 := hide (HB0.out.trans (hb1.mono HB0.out.size))
    have HK1 := hide (HK0.out.later hb1)
    clear hb1 k0
    go_wp2_with fail
    go_ret2
    exact ⟨_, _, rfl, HB1.out, .inl ⟨rfl, rfl⟩⟩

set_option maxRecDepth 100000 in
theorem roS_any (A : Option Addr) (n c : Nat) (f : List (List Int)) (zs : List Int) (code : Int) (k : Nat) (w : World) (hn : f.length = n) (hb : n ≤ 1048576) (hbs : ∀ i, i < f.length → (f.getD i []).length ≤ 1048576) (hr : Rd2 w A f) (hres : RoRes f zs code) (hk : zs.length = k) :
    Calls Try.prog 46 #[.agg #[.slice A n c]] w (RPost 2 k zs code w) := by
  have HN := hide hn
  have HBS := hide hbs
  have HRD := hide hr
  have HB0 := hide ((Below.refl _ w).alloc (Nat.le_refl _) (Obj.cells #[Value.slice A n c] 27))
  have HK0 := hide (Blk.new w 27 [.slice A n c])
  rcases hres with ⟨hcy, rfl, rfl⟩ | ⟨hcy, rfl, rfl⟩
  · have hk2 : k = n := by rw [← hk, roL_length, hn]
    subst hk2
    have HZ : Hid ((roL f).length = k) := hide ((roL_length f).trans hn)
    have HPM := hide hcy.prm
    clear hn hbs hr hk
    obtain ⟨i0, hi, hz0, hz1, hz2⟩ := info_parts kqInfo
    have HCY := hide hcy
    have HTB := hide hcy.tbl
    have h1 : 1 ≤ k := by rw [← HN.out]; exact HTB.out.1
    have h12 : k ≤ 12 := by rw [← HN.out]; exact HTB.out.2.1
    have HCR : Hid (CyRes f true) := hide ⟨fun _ => HCY.out, fun _ => rfl⟩
    clear hcy
    go_enter Try.func46, Try.ntmps46
    have k0 := HK0.out.cell 0 _ rfl
    go_wp2_with fail
    refine (isCycS _ _ _ f true _ HN.out hb HBS.out (HRD.out.later HB0.out) HCR.out).mono ?_
    rintro e w1 ⟨rfl, hb1⟩
    have HB1 := hide (HB0.out.trans (hb1.mono HB0.out.size))
    have HK1 := hide (HK0.out.later hb1)
    clear hb1 k0
    obtain ⟨b, o, hA, hbw, hc⟩ := rd_rows HTB.out HRD.out HN.out
    subst hA
    have HC := hide hc
    clear hc
    have k0 := HK1.out.cell 0 _ rfl
    go_wp2_with fail
    refine wp_gen fun w2 hw2 => ?_
    obtain ⟨G, hG⟩ : ∃ G, w1.heap.size = G := ⟨_, rfl⟩
    have hgw : w.heap.size < G := by have := HK1.out.lt; omega
    have HB2 : Hid (Below w.heap.size w w2) := hide (by rw [hw2]; exact HB1.out.alloc HB1.out.size _)
    have HK2 : Hid (Blk w2 w.heap.size 27 [.slice (some ⟨b, o, none⟩) k c]) := hide (by rw [hw2]; exact HK1.out.alloc _)
    have HE2 : Hid (w2.ownsRow G 2 1 (.slice (some ⟨G, 0, none⟩) 0 0) 0 []) := hide (by rw [hw2, ← hG]; exact kq_empty w1 2)
    have hg2 : G ≤ w2.heap.size := by rw [hw2]; simp; omega
    rw [hG]
    clear hw2 hG k0
    go_loopw [4, 5] (fun v i wr => ∃ j : Nat, j ≤ k ∧ i = .int .i64 j ∧ Below w.heap.size w wr ∧ Blk wr w.heap.size 27 [.slice (some ⟨b, o, none⟩) k c] ∧ wr.ownsRow G 2 1 v j (ints ((roL f).take j)) ∧ G ≤ wr.heap.size) (fun _ i _ => k - (intOf i).toNat)
    case atStart => exact ⟨0, Nat.zero_le _, rfl, HB2.out, HK2.out, by simpa [ints] using HE2.out, hg2⟩
    case round =>
      obtain ⟨j, hj, rfl, hbe, hkk, hown, hsz⟩ := hrel
      have HB := hide hbe
      have HK := hide hkk
      have HO := hide hown
      clear hbe hkk hown
      have k0 := HK.out.cell 0 _ rfl
      by_cases hlt : j < k
      · have hltz : (j : Int) < k := by omega
        have hkl : Hid (j < f.length) := hide (by have := HN.out; omega)
        obtain ⟨Ak, ck, r1, hrd⟩ := HC.out j hlt
        have HL := hide (HTB.out.row_len HN.out hlt)
        have HRR := hide (hrd.later HB.out)
        have HPK := hide (HPM.out j hkl.out)
        have hos := ordV_spec HL.out HPK.out
        have HG : Hid ((roL f).getD j 0 = ((ordV (f.getD j []) : Nat) : Int)) := hide (roL_getD f j hkl.out)
        have HOS := hide hos
        replace r1 := (HB.out.cell (p := ⟨b, o + j, none⟩) hbw).trans r1
        clear hrd hos
        obtain ⟨u, hu⟩ : ∃ u, ordV (f.getD j []) = u := ⟨_, rfl⟩
        rw [hu] at HG HOS
        clear hu
        go_wp2_with fail
        refine (l01Order_any Ak k ck (f.getD j []) u _ HL.out HPK.out HRR.out HOS.out.1 HOS.out.2.1 HOS.out.2.2).mono ?_
        rintro e wd ⟨rfl, hbd⟩
        have HBd := hide (HB.out.trans (hbd.mono HB.out.size))
        have HKd := hide (HK.out.later hbd)
        have HOd := hide (ownsRow_below HO.out hbd)
        have hsd : G ≤ wd.heap.size := by have := hbd.size; omega
        clear hbd k0 r1
        go_wp2_with (at_builtin; refine wpList_append_own _ rfl _ _ 31 rfl G 2 i0 (.int .i64 0) 1 8 Try.underlying31 hi hz0 hz1 hz2 rfl (by decide) _ _ _ rfl (HOd.out.alloc _) ⟨wd.heap.size, 0, none⟩ 1 1 [.int .i64 (u : Int)] rfl rfl ?c1 ?c2 ?c3 ?c4 ?c5 ?_)
        case c1 => exact kq_new
        case c2 => intro u hu; simp at hu; subst hu; rfl
        case c3 => unfold maxLen; omega
        case c4 => omega
        case c5 => simp; omega
        intro v' w3 hown' hgrow _
        have HO' := hide hown'
        have HGR := hide hgrow
        clear hown' hgrow
        go_wp2_with fail
        go_roundw
        case rel =>
          have hlow : w.heap.size ≤ wd.heap.size := by omega
          have hs1 : G ≤ (wd.alloc (.cells #[.int .i64 (u : Int)] 2)).heap.size := by simp; omega
          have hB1 : Below w.heap.size w w3 := (HBd.out.alloc hlow _).grown HGR.out (by simp; omega) (fun g hg => by have h := ((HOd.out.alloc (.cells #[.int .i64 (u : Int)] 2)).lt g hg).1; omega)
          have hB2 : Below G (wd.alloc (.cells #[.int .i64 (u : Int)] 2)) w3 := (Below.refl _ _).grown HGR.out hs1 (fun g hg => ((HOd.out.alloc (.cells #[.int .i64 (u : Int)] 2)).lt g hg).1)
          have hK1 : Blk w3 w.heap.size 27 [.slice (some ⟨b, o, none⟩) k c] := (hB2.block w.heap.size (by omega)).trans (HKd.out.alloc _)
          refine ⟨j + 1, by omega, by go_num, hB1, hK1, ?_, by have := hB2.size; simp at this; omega⟩
          have h := HO'.out
          rw [kq_take _ j (u : Int) (by have := HZ.out; omega) HG.out] at h
          exact h
        case measure => simp [intOf]; omega
      · have hjk : j = k := by omega
        subst hjk
        have h := HO.out
        rw [List.take_of_length_le (by have := HZ.out; omega)] at h
        obtain ⟨A', c', hv, hres⟩ := own_shape h
        subst hv
        have HRS := hide (hres.mono (by omega : w.heap.size ≤ G))
        clear h hres HO
        go_wp2_with fail
        go_ret2
        exact ⟨_, _, rfl, HB.out, HRS.out⟩
  · obtain rfl : k = 0 := by rw [← hk]; rfl
    clear hn hbs hr hk
    have HCR : Hid (CyRes f false) := hide ⟨fun h => (by cases h), fun h => absurd h hcy⟩
    clear hcy
    go_enter Try.func46, Try.ntmps46
    have k0 := HK0.out.cell 0 _ rfl
    go_wp2_with fail
    refine (isCycS _ _ _ f false _ HN.out hb HBS.out (HRD.out.later HB0.out) HCR.out).mono ?_
    rintro e w1 ⟨rfl, hb1⟩
    have HB1 := hide (HB0.out.trans (hb1.mono HB0.out.size))
    have HK1 := hide (HK0.out.later hb1)
    clear hb1 k0
    go_wp2_with fail
    go_ret2
    exact ⟨_, _, rfl, HB1.out, .inl ⟨rfl, rfl⟩⟩

end Go.Proofs.Ytgahmfkmhaeniaa
