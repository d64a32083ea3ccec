import Derived.Test.YtpkfcjpppncbiaaFrame
import Derived.Test.YtpkfcjpppncbiaaZh
import Derived.Lib.SmallJoins
namespace Go.Proofs.Ytpkfcjpppncbiaa
open Go Go.RowKit Go.ChangeShapes Go.WideShapes Go.ChangeAt Go.Joins Go.Deep

/-- A struct of two slices of slices of numbers that came in. -/
theorem open_sol {H : Type} {enc : TypeId × Value → H} {P : Program} {w : World} {base b0 : Nat} {r : Reach} {t g e q : TypeId} {f0 f1 : Field} {v : Value} {d : DataW H} {p : List MemPlace}
    (hs : P.underlying t = some (.struct #[f0, f1])) (h0 : f0.type = g) (h1 : f1.type = g) (hone : oneCellFields P #[f0, f1] = true) (hC : P.cellsOf t = 2)
    (hg : P.underlying g = some (.slice e)) (he : P.underlying e = some (.slice q)) (hq : P.underlying q = some (.int .i64)) (ce : P.cellsOf e = 1) (cq : P.cellsOf q = 1)
    (hv : Value.okWide P w r b0 t v) (h : DataW.Trod enc P w base (fun _ => true) true t v d p) :
    ∃ (A : Option Addr) (n c : Nat) (B : Option Addr) (m k : Nat) (xs ys : List (List Int)), v = .agg #[.slice A n c, .slice B m k] ∧ ZSz 9223372036854775807 xs n ys m ∧ Rd2 w A xs ∧ Rd2 w B ys := by
  obtain ⟨v0, v1, y0, y1, fu, rfl, _, _, hy0, hy1⟩ := open_agg2 hs hone hC hv h
  rw [h0] at hy0
  rw [h1] at hy1
  obtain ⟨A, n, c, e0⟩ := slice_form hg hy0
  obtain ⟨B, m, k, e1⟩ := slice_form hg hy1
  simp at e0 e1
  subst e0
  subst e1
  obtain ⟨xs, a1, a2, a3, a4, _⟩ := open_table (d := y0.1) (p := y0.2) hg he hq ce cq ⟨fu, by simpa [Value.cells] using hy0⟩
  obtain ⟨ys, b1, b2, b3, b4, _⟩ := open_table (d := y1.1) (p := y1.2) hg he hq ce cq ⟨fu, by simpa [Value.cells] using hy1⟩
  exact ⟨A, n, c, B, m, k, xs, ys, rfl, ⟨a1, a2, a3, b1, b2, b3⟩, a4, b4⟩
end Go.Proofs.Ytpkfcjpppncbiaa
