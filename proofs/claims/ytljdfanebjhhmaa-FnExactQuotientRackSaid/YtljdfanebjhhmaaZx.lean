import Derived.Test.YtljdfanebjhhmaaZr
namespace Go.Proofs.Ytljdfanebjhhmaa
open Go Go.RowKit

/-- The elements reached from x, the steps of the first i of them done. -/
structure OInv (rows : List (List Int)) (n x : Nat) (out : List Int) (i : Nat) : Prop where
  mem : (x : Int) ∈ out
  rng : ∀ v ∈ out, 0 ≤ v ∧ v < (n : Int)
  nd : out.Nodup
  rch : ∀ v ∈ out, Rch rows x v.toNat
  cl : ∀ j, j < i → ∀ r, r < rows.length → (rows.getD r []).getD (out.getD j 0).toNat 0 ∈ out
  le : i ≤ out.length

theorem nodup_le (out : List Int) (n : Nat) (hr : ∀ v ∈ out, 0 ≤ v ∧ v < (n : Int)) (hn : out.Nodup) : out.length ≤ n := by
  obtain ⟨l, hl⟩ := subset_perm out (Go.Proofs.Ytljdfanebjhhmaa.rng n) hn (fun a ha => (mem_rng n a).2 (hr a ha))
  have := hl.length_eq
  rw [rng_length, List.length_append] at this
  omega
theorem OInv.most {rows : List (List Int)} {n x : Nat} {out : List Int} {i : Nat} (h : OInv rows n x out i) : out.length ≤ n := nodup_le out n h.rng h.nd
theorem OInv.start (rows : List (List Int)) (n x : Nat) (hx : x < n) : OInv rows n x [(x : Int)] 0 :=
  ⟨by simp, fun v hv => by simp at hv; subst hv; omega, by simp, fun v hv => by simp at hv; subst hv; rw [Int.toNat_natCast]; exact .start, fun j hj => absurd hj (Nat.not_lt_zero _), by simp⟩
theorem OInv.push {rows : List (List Int)} {n x : Nat} {out : List Int} {i r : Nat} (h : OInv rows n x out i) (hi : i < out.length) (hr : r < rows.length) (v : Int) (hv : v = (rows.getD r []).getD (out.getD i 0).toNat 0) (h0 : 0 ≤ v) (hn : v < (n : Int)) (hno : v ∉ out) : OInv rows n x (out ++ [v]) i := by
  refine ⟨by simp [h.mem], fun u hu => ?_, ?_, fun u hu => ?_, fun j hj s hs => ?_, by have := h.le; simp; omega⟩
  · rcases List.mem_append.1 hu with hu | hu
    · exact h.rng u hu
    · simp at hu; subst hu; exact ⟨h0, hn⟩
  · rw [List.nodup_append]
    exact ⟨h.nd, by simp, fun a ha b hb e => hno (by simp at hb; subst hb; subst e; exact ha)⟩
  · rcases List.mem_append.1 hu with hu | hu
    · exact h.rch u hu
    · simp at hu
      have hm : out.getD i 0 ∈ out := by simp [hi]
      subst hu
      exact .step (h.rch _ hm) ⟨r, hr, by rw [hv]⟩
  · have e : (out ++ [v]).getD j 0 = out.getD j 0 := by
      have : j < out.length := by omega
      simp [List.getElem?_append, this]
    rw [e]
    exact List.mem_append_left _ (h.cl j hj s hs)
theorem OInv.on {rows : List (List Int)} {n x : Nat} {out : List Int} {i : Nat} (h : OInv rows n x out i) (hi : i < out.length) (hr : ∀ r, r < rows.length → (rows.getD r []).getD (out.getD i 0).toNat 0 ∈ out) : OInv rows n x out (i + 1) :=
  ⟨h.mem, h.rng, h.nd, h.rch, fun j hj r hrr => by
    by_cases e : j = i
    · subst e; exact hr r hrr
    · exact h.cl j (by omega) r hrr, by omega⟩
theorem OInv.done {rows : List (List Int)} {n x : Nat} {out : List Int} (h : OInv rows n x out out.length) (y : Nat) : (y : Int) ∈ out ↔ Rch rows x y := by
  constructor
  · intro hy
    have := h.rch _ hy
    rwa [Int.toNat_natCast] at this
  · intro hy
    induction hy with
    | start => exact h.mem
    | step _ hs ih =>
      obtain ⟨r, hr, hz⟩ := hs
      obtain ⟨j, hj, hjy⟩ := List.getElem_of_mem ih
      have e : out.getD j 0 = out[j] := by simp [hj]
      have hc := h.cl j hj r hr
      rw [e, hjy, Int.toNat_natCast] at hc
      have h0 := (h.rng _ hc).1
      rw [← hz, Int.toNat_of_nonneg h0]
      exact hc
end Go.Proofs.Ytljdfanebjhhmaa
