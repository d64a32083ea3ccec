import Derived.Test.YthknnpkalhachaaZr
import Derived.Test.YthknnpkalhachaaZad
import Derived.Test.YthknnpkalhachaaZag
namespace Go.Proofs.Ythknnpkalhachaa
open Go Go.RowKit
open Classical
/-- The permutations of a group, in order, if there are at most 1000. -/
def GrpR (n : Nat) (rows : List (List Int)) (zs : List (List Int)) (code : Int) : Prop := (Enu n rows zs ∧ Asc zs ∧ zs.length ≤ 1000 ∧ code = 0) ∨ (¬ AtMost n rows 1000 ∧ zs = [] ∧ code = 3)
theorem asc_ex (L : List (List Int)) (hnd : L.Nodup) : ∃ L' : List (List Int), Asc L' ∧ L'.length = L.length ∧ ∀ x, x ∈ L' ↔ x ∈ L := by
  rcases Nat.eq_zero_or_pos L.length with h0 | h0
  · exact ⟨[], by simp [Asc], by simp [h0], fun x => by rw [List.eq_nil_of_length_eq_zero h0]⟩
  · obtain ⟨M, hM⟩ : ∃ M, L.length = M + 1 := ⟨L.length - 1, by omega⟩
    let R : Fin (M + 1) → List Int := fun i => L.getD i.val []
    have hinj : ∀ x y, R x = R y → x = y := fun x y e => by
      have h1 : x.val < L.length := by omega
      have h2 : y.val < L.length := by omega
      have e2 : L[x.val] = L[y.val] := by simpa [R, h1, h2] using e
      exact Fin.ext ((List.getElem_inj (h₀ := h1) (h₁ := h2) hnd).1 e2)
    refine ⟨(srtI R).map R, srtI_asc R hinj, by simp [srtI_len, hM], fun x => ⟨fun hx => ?_, fun hx => ?_⟩⟩
    · obtain ⟨i, _, rfl⟩ := List.mem_map.1 hx
      have : i.val < L.length := by omega
      simp [R, this]
    · obtain ⟨j, hj, rfl⟩ := List.getElem_of_mem hx
      refine List.mem_map.2 ⟨⟨j, by omega⟩, srtI_mem R _, ?_⟩
      simp [R, hj]
theorem Enu.sorted {n : Nat} {rows L L' : List (List Int)} (h : Enu n rows L) (ha : Asc L') (hm : ∀ x, x ∈ L' ↔ x ∈ L) : Enu n rows L' := ⟨ha.nodup, fun x => (hm x).trans (h.2 x)⟩
theorem Enu.ascEq {n : Nat} {rows L L' : List (List Int)} (h : Enu n rows L) (h' : Enu n rows L') (ha : Asc L) (ha' : Asc L') : L = L' := Asc.eq ha ha' (fun x => (h.2 x).trans (h'.2 x).symm)
theorem Enu.rows {n : Nat} {rows L : List (List Int)} (h1 : 1 ≤ n) (h12 : n ≤ 12) (hg : Gens rows n) (h : Enu n rows L) (i : Nat) (hi : i < L.length) : (L.getD i []).length = n := by
  have hm : L.getD i [] ∈ L := by simp [hi]
  exact (gen_prm h1 h12 hg ((h.2 _).1 hm)).1
theorem Enu.pos {n : Nat} {rows L : List (List Int)} (h : Enu n rows L) : 0 < L.length := by
  have hm := (h.2 (unitN n)).2 .unit
  cases L with
  | nil => simp at hm
  | cons a t => simp
theorem GrpR.ex (n : Nat) (rows : List (List Int)) : ∃ zs code, GrpR n rows zs code := by
  by_cases h : AtMost n rows 1000
  · obtain ⟨L, hE, hl⟩ := h
    obtain ⟨L', ha, hl', hm⟩ := asc_ex L hE.1
    exact ⟨L', 0, .inl ⟨hE.sorted ha hm, ha, by omega, rfl⟩⟩
  · exact ⟨[], 3, .inr ⟨h, rfl, rfl⟩⟩
theorem GrpR.size {n : Nat} {rows zs : List (List Int)} {code : Int} (h1 : 1 ≤ n) (h12 : n ≤ 12) (hg : Gens rows n) (h : GrpR n rows zs code) : zs.length ≤ 1048576 ∧ ∀ i, i < zs.length → (zs.getD i []).length ≤ 1048576 := by
  rcases h with ⟨hE, _, hl, _⟩ | ⟨_, rfl, _⟩
  · exact ⟨by omega, fun i hi => by rw [hE.rows h1 h12 hg i hi]; omega⟩
  · exact ⟨by simp, by simp⟩
def GeRes (N : Int) (rows : List (List Int)) (zs : List (List Int)) (code : Int) : Prop := (Sys N rows ∧ GrpR N.toNat rows zs code) ∨ (¬ Sys N rows ∧ zs = [] ∧ code = 1)
theorem GeRes.ex (N : Int) (rows : List (List Int)) : ∃ zs code, GeRes N rows zs code ∧ zs.length ≤ 1048576 ∧ ∀ i, i < zs.length → (zs.getD i []).length ≤ 1048576 := by
  by_cases h : Sys N rows
  · obtain ⟨zs, code, hg⟩ := GrpR.ex N.toNat rows
    obtain ⟨n, rfl⟩ := Int.eq_ofNat_of_zero_le (show 0 ≤ N by have := h.1; omega)
    have h1 := h.1
    have h2 := h.2.1
    have hs := GrpR.size (by rw [Int.toNat_natCast]; omega) (by rw [Int.toNat_natCast]; omega) (by rw [Int.toNat_natCast]; exact h.gens) hg
    exact ⟨zs, code, .inl ⟨h, hg⟩, hs.1, hs.2⟩
  · exact ⟨_, _, .inr ⟨h, rfl, rfl⟩, by simp, by simp⟩
def LgRes (f s : List (List Int)) (zs : List (List Int)) (code : Int) : Prop := (NdS f s ∧ GrpR f.length f zs code) ∨ (¬ NdS f s ∧ zs = [] ∧ code = 1)
theorem LgRes.ex (f s : List (List Int)) : ∃ zs code, LgRes f s zs code ∧ zs.length ≤ 1048576 ∧ ∀ i, i < zs.length → (zs.getD i []).length ≤ 1048576 := by
  by_cases h : NdS f s
  · obtain ⟨zs, code, hg⟩ := GrpR.ex f.length f
    have h1 := h.sizes rfl
    have hs := GrpR.size h1.1 h1.2.1 (h.lam rfl) hg
    exact ⟨zs, code, .inl ⟨h, hg⟩, hs.1, hs.2⟩
  · exact ⟨_, _, .inr ⟨h, rfl, rfl⟩, by simp, by simp⟩
theorem NdS.sys {f s : List (List Int)} {n : Nat} (h : NdS f s) (hn : f.length = n) : Sys (n : Int) f := by
  have h1 := h.sizes hn
  exact ⟨by omega, by omega, by omega, fun i hi => ⟨by rw [(h.lam hn i hi).1], h.2.1 i hi⟩⟩
end Go.Proofs.Ythknnpkalhachaa
namespace Go.Proofs.Ythknnpkalhachaa
open Go Go.RowKit
/-- Element number a of a set. -/
def mel (S a : Nat) : Nat := (mems 12 S).getD a 0
theorem mel_in {S a : Nat} (h : a < (mems 12 S).length) : inb S (mel S a) := by
  have : mel S a ∈ mems 12 S := by
    unfold mel
    rw [List.getD_eq_getElem?_getD, List.getElem?_eq_getElem h]
    exact List.getElem_mem h
  exact ((mems_mem _ _ _).1 this).2
theorem mel_of {S x : Nat} (hS : S < 4096) (h : inb S x) : ∃ a, a < (mems 12 S).length ∧ mel S a = x := by
  have hm : x ∈ mems 12 S := (mems_mem _ _ _).2 ⟨inb_lt (k := 12) (by simpa using hS) h, h⟩
  obtain ⟨a, ha, e⟩ := List.getElem_of_mem hm
  exact ⟨a, ha, by unfold mel; rw [List.getD_eq_getElem?_getD, List.getElem?_eq_getElem ha]; exact e⟩
theorem mel_getD {S a : Nat} (h : a < (mems 12 S).length) : (memL 12 S).getD a 0 = (mel S a : Int) := memL_getD _ _ _ h
/-- The set behind the pairs before (i, j). -/
def GrQ (f : List (List Int)) (S i j V : Nat) : Prop := ∀ t, inb V t ↔ inb S t ∨ ∃ a b, (a < i ∨ (a = i ∧ b < j)) ∧ a < (mems 12 S).length ∧ b < (mems 12 S).length ∧ ap f (mel S a) (mel S b) = t
theorem GrQ.start (f : List (List Int)) (S : Nat) : GrQ f S 0 0 S := fun t => ⟨.inl, fun h => by
  rcases h with h | ⟨a, b, h, _⟩
  · exact h
  · omega⟩
theorem GrQ.step {f : List (List Int)} {S i j V v : Nat} (h : GrQ f S i j V) (hi : i < (mems 12 S).length) (hj : j < (mems 12 S).length) (hv : ap f (mel S i) (mel S j) = v) : GrQ f S i (j + 1) (V ||| 2 ^ v) := by
  intro t
  rw [inb_or, h t]
  constructor
  · rintro ((h1 | ⟨a, b, h1, h2, h3, h4⟩) | rfl)
    · exact .inl h1
    · exact .inr ⟨a, b, by omega, h2, h3, h4⟩
    · exact .inr ⟨i, j, by omega, hi, hj, hv⟩
  · rintro (h1 | ⟨a, b, h1, h2, h3, h4⟩)
    · exact .inl (.inl h1)
    · by_cases e : a = i ∧ b = j
      · obtain ⟨rfl, rfl⟩ := e
        exact .inr (h4.symm.trans hv)
      · exact .inl (.inr ⟨a, b, by omega, h2, h3, h4⟩)
theorem GrQ.next {f : List (List Int)} {S i V : Nat} (h : GrQ f S i (mems 12 S).length V) : GrQ f S (i + 1) 0 V := by
  intro t
  rw [h t]
  constructor
  · rintro (h1 | ⟨a, b, h1, h2, h3, h4⟩)
    · exact .inl h1
    · exact .inr ⟨a, b, by omega, h2, h3, h4⟩
  · rintro (h1 | ⟨a, b, h1, h2, h3, h4⟩)
    · exact .inl h1
    · exact .inr ⟨a, b, by omega, h2, h3, h4⟩
theorem GrQ.done {f : List (List Int)} {S V : Nat} (hS : S < 4096) (h : GrQ f S (mems 12 S).length 0 V) : GrF f S V := by
  intro t
  rw [h t]
  constructor
  · rintro (h1 | ⟨a, b, h1, h2, h3, h4⟩)
    · exact .inl h1
    · exact .inr ⟨_, _, mel_in h2, mel_in h3, h4⟩
  · rintro (h1 | ⟨x, y, hx, hy, h4⟩)
    · exact .inl h1
    · obtain ⟨a, ha, rfl⟩ := mel_of hS hx
      obtain ⟨b, hb, rfl⟩ := mel_of hS hy
      exact .inr ⟨a, b, .inl ha, ha, hb, h4⟩
/-- A subrack, as a set. -/
def SubF (f : List (List Int)) (S : Nat) : Prop := S ≠ 0 ∧ ClosedF f S
theorem pow_le (n : Nat) (h : n ≤ 12) : 2 ^ n ≤ 4096 := Nat.pow_le_pow_right (n := 2) (by decide) h
end Go.Proofs.Ythknnpkalhachaa
