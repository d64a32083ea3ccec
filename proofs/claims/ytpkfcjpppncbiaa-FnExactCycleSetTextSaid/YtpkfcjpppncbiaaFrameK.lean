import Derived.Test.YtpkfcjpppncbiaaFrame
import Derived.Lib.SmallJoins
namespace Go.Proofs.Ytpkfcjpppncbiaa
open Go Go.RowKit Go.ChangeShapes Go.WideShapes Go.ChangeAt Go.Joins Go.Deep

/-- A struct of one slice of slices of numbers that came in. -/
theorem open_rack {H : Type} {enc : TypeId × Value → H} {P : Program} {w : World} {base b0 : Nat} {r : Reach} {t g e q : TypeId} {f0 : Field} {v : Value} {d : DataW H} {p : List MemPlace}
    (hs : P.underlying t = some (.struct #[f0])) (h0 : f0.type = g) (hone : oneCellFields P #[f0] = true) (hC : P.cellsOf t = 1)
    (hg : P.underlying g = some (.slice e)) (he : P.underlying e = some (.slice q)) (hq : P.underlying q = some (.int .i64)) (ce : P.cellsOf e = 1) (cq : P.cellsOf q = 1)
    (hv : Value.okWide P w r b0 t v) (h : DataW.Trod enc P w base (fun _ => true) true t v d p) :
    ∃ (A : Option Addr) (n c : Nat) (xs : List (List Int)), v = .agg #[.slice A n c] ∧ xs.length = n ∧ n ≤ 9223372036854775807 ∧ (∀ i, i < xs.length → (xs.getD i []).length ≤ 9223372036854775807) ∧ Rd2 w A xs := by
  obtain ⟨cs, rfl, hsz⟩ := okWide_struct hs hv
  obtain ⟨l⟩ := cs
  match l, hsz.trans hC with
  | [c0], _ =>
    obtain ⟨fuel, hf⟩ := h
    obtain ⟨ys, n, _, hx, _, hlen, hg2⟩ := DataW.trod_struct hs hf
    obtain ⟨o0, k0⟩ := hone_of hone 0 f0 rfl
    match ys, hlen with
    | [y0], _ =>
      have hy0 : DataW.trod enc P w base (fun _ => true) true n f0.type [c0] = some y0 := by simpa [Value.cells, o0, k0] using hg2 0 f0 rfl
      rw [h0] at hy0
      obtain ⟨A, n, c, e0⟩ := slice_form hg hy0
      simp at e0
      subst e0
      obtain ⟨xs, a1, a2, a3, a4, _⟩ := open_table (d := y0.1) (p := y0.2) hg he hq ce cq ⟨_, by simpa [Value.cells] using hy0⟩
      exact ⟨A, n, c, xs, rfl, a1, a2, a3, a4⟩
end Go.Proofs.Ytpkfcjpppncbiaa
