import Derived.Test.YtkagfjofjbpfeaaZn
namespace Go.Proofs.Ytkagfjofjbpfeaa
open Go Go.RowKit

/-- The sizes of two tables, at most K. -/
structure ZSz (K : Nat) (f : List (List Int)) (n : Nat) (s : List (List Int)) (m : Nat) : Prop where
  fl : f.length = n
  nb : n ≤ K
  nr : ∀ i, i < f.length → (f.getD i []).length ≤ K
  sl : s.length = m
  mb : m ≤ K
  mr : ∀ i, i < s.length → (s.getD i []).length ≤ K

/-- Two tables that are read in a world. -/
structure ZArg (K : Nat) (w : World) (A : Option Addr) (n : Nat) (f : List (List Int)) (B : Option Addr) (m : Nat) (s : List (List Int)) : Prop where
  sz : ZSz K f n s m
  fst : Rd2 w A f
  snd : Rd2 w B s

theorem ZArg.later {K : Nat} {w w' : World} {A : Option Addr} {n : Nat} {f : List (List Int)} {B : Option Addr} {m : Nat} {s : List (List Int)} (h : ZArg K w A n f B m s) (hb : Below w.heap.size w w') : ZArg K w' A n f B m s :=
  ⟨h.sz, h.fst.later hb, h.snd.later hb⟩

theorem ZSz.tots {f s : List (List Int)} {n m : Nat} (h : ZSz 1048576 f n s m) : tot f + tot s ≤ 2199023255552 := by
  have h1 := tot_bound f (by rw [h.fl]; exact h.nb) h.nr
  have h2 := tot_bound s (by rw [h.sl]; exact h.mb) h.mr
  omega
theorem ZSz.totf {f s : List (List Int)} {n m : Nat} (h : ZSz 1048576 f n s m) : tot f ≤ 1099511627776 := tot_bound f (by rw [h.fl]; exact h.nb) h.nr
theorem ZSz.totg {f s : List (List Int)} {n m : Nat} (h : ZSz 1048576 f n s m) : tot s ≤ 1099511627776 := tot_bound s (by rw [h.sl]; exact h.mb) h.mr
end Go.Proofs.Ytkagfjofjbpfeaa
