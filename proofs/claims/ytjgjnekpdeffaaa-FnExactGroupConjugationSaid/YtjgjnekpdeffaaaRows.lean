/-
  No cell of these rows narrows 'for every input' (looked for: loops, veiled, ifaces, maps, wideKeys, modest, calm, conditions, laid).
  DERIVED. THE GIVEN ROWS OF THIS SEAT. 5 by the template 'for every input the law returns true; each argument reads behind the call as it read before'; 0 by the template 'total and deterministic' (their statements: YtjgjnekpdeffaaaTotals.lean).
  GIVEN WITH THE SEED: the statements are not yours to turn. If you find one false, say at which input.
  Laid BY PROGRAM, IN A SANDBOX (cutbox-rows.mjs): the forced cells as the released guide's own fill.sh prints them over the translation 0ed0ccd5e1e968c5… (all of the seat's roots in one cut). By AI agents, Wed Nov 11 2026. No macro, syntax, notation, axiom, sorry.
-/
import Derived.Test.YtjgjnekpdeffaaaChecked
import GoSem.Claim
import GoSem.ClaimJoined
import GoSem.ClaimMapViews
import Derived.JoinedTies
import Derived.KernelRfl
namespace Go.Proofs.Ytjgjnekpdeffaaa
/- THE CELL 'sum', in the pinned program and in every row, IS THE sha256 OF THE DUMP (.gsa) THAT YtjgjnekpdeffaaaProg.lean LOADS. Nothing in Lean hashes anything: it is a label: what it is worth is what the hold of that sum in a sandbox is worth. -/
noncomputable def Try.pinned : Pinned := { name := "ytjgjnekpdeffaaa", sum := "0ed0ccd5e1e968c535c21df982a70f136cbead0cde32e30c6953a05b52afcff0", checked := Try.checked }
namespace Rows
def none {H : Type} : Left H := { results := [], args := [] }

/-- 'laws.FnExactAlexanderQuandle': WHATEVER THE INPUT: true; the input reads as it did. -/
def fnExactAlexanderQuandleSpec : ChangeSpec := { name := "fnExactAlexanderQuandle", fn := fun _ => fun
  | [d1, d2] => { results := [.lit (.bool true)], args := [d1, d2] }
  | _ => none }
def fnExactAlexanderQuandleRow : OpenClaim := { program := "ytjgjnekpdeffaaa", sum := "0ed0ccd5e1e968c535c21df982a70f136cbead0cde32e30c6953a05b52afcff0", func := "loop.example/g01119/laws.FnExactAlexanderQuandle", spec := "fnExactAlexanderQuandle", unfollowed := true, recurses := true, plainKeys := false, apart := false }
def FnExactAlexanderQuandleSaid : Prop := fnExactAlexanderQuandleRow.holds Try.pinned (OpenSpec.ofChange fnExactAlexanderQuandleSpec)

/-- ITS FALSE NEIGHBOUR: 'it returns false'. Refute it at one input. -/
def fnExactAlexanderQuandleWrong : ChangeSpec := { name := "fnExactAlexanderQuandle", fn := fun _ => fun
  | [d1, d2] => { results := [.lit (.bool false)], args := [d1, d2] }
  | _ => none }
def FnExactAlexanderQuandleWrongFalsely : Prop := fnExactAlexanderQuandleRow.holds Try.pinned (OpenSpec.ofChange fnExactAlexanderQuandleWrong)

/-- 'laws.FnExactCoreQuandle': WHATEVER THE INPUT: true; the input reads as it did. -/
def fnExactCoreQuandleSpec : ChangeSpec := { name := "fnExactCoreQuandle", fn := fun _ => fun
  | [d] => { results := [.lit (.bool true)], args := [d] }
  | _ => none }
def fnExactCoreQuandleRow : OpenClaim := { program := "ytjgjnekpdeffaaa", sum := "0ed0ccd5e1e968c535c21df982a70f136cbead0cde32e30c6953a05b52afcff0", func := "loop.example/g01119/laws.FnExactCoreQuandle", spec := "fnExactCoreQuandle", unfollowed := true, recurses := true, plainKeys := false, apart := false }
def FnExactCoreQuandleSaid : Prop := fnExactCoreQuandleRow.holds Try.pinned (OpenSpec.ofChange fnExactCoreQuandleSpec)

/-- ITS FALSE NEIGHBOUR: 'it returns false'. Refute it at one input. -/
def fnExactCoreQuandleWrong : ChangeSpec := { name := "fnExactCoreQuandle", fn := fun _ => fun
  | [d] => { results := [.lit (.bool false)], args := [d] }
  | _ => none }
def FnExactCoreQuandleWrongFalsely : Prop := fnExactCoreQuandleRow.holds Try.pinned (OpenSpec.ofChange fnExactCoreQuandleWrong)

/-- 'laws.FnExactGroupConjugation': WHATEVER THE INPUT: true; the input reads as it did. -/
def fnExactGroupConjugationSpec : ChangeSpec := { name := "fnExactGroupConjugation", fn := fun _ => fun
  | [d] => { results := [.lit (.bool true)], args := [d] }
  | _ => none }
def fnExactGroupConjugationRow : OpenClaim := { program := "ytjgjnekpdeffaaa", sum := "0ed0ccd5e1e968c535c21df982a70f136cbead0cde32e30c6953a05b52afcff0", func := "loop.example/g01119/laws.FnExactGroupConjugation", spec := "fnExactGroupConjugation", unfollowed := true, recurses := true, plainKeys := false, apart := false }
def FnExactGroupConjugationSaid : Prop := fnExactGroupConjugationRow.holds Try.pinned (OpenSpec.ofChange fnExactGroupConjugationSpec)

/-- ITS FALSE NEIGHBOUR: 'it returns false'. Refute it at one input. -/
def fnExactGroupConjugationWrong : ChangeSpec := { name := "fnExactGroupConjugation", fn := fun _ => fun
  | [d] => { results := [.lit (.bool false)], args := [d] }
  | _ => none }
def FnExactGroupConjugationWrongFalsely : Prop := fnExactGroupConjugationRow.holds Try.pinned (OpenSpec.ofChange fnExactGroupConjugationWrong)

/-- 'laws.FnExactPermutationOrder': WHATEVER THE INPUT: true; the input reads as it did. -/
def fnExactPermutationOrderSpec : ChangeSpec := { name := "fnExactPermutationOrder", fn := fun _ => fun
  | [d] => { results := [.lit (.bool true)], args := [d] }
  | _ => none }
def fnExactPermutationOrderRow : OpenClaim := { program := "ytjgjnekpdeffaaa", sum := "0ed0ccd5e1e968c535c21df982a70f136cbead0cde32e30c6953a05b52afcff0", func := "loop.example/g01119/laws.FnExactPermutationOrder", spec := "fnExactPermutationOrder", recurses := true, plainKeys := false, apart := false }
def FnExactPermutationOrderSaid : Prop := fnExactPermutationOrderRow.holds Try.pinned (OpenSpec.ofChange fnExactPermutationOrderSpec)

/-- ITS FALSE NEIGHBOUR: 'it returns false'. Refute it at one input. -/
def fnExactPermutationOrderWrong : ChangeSpec := { name := "fnExactPermutationOrder", fn := fun _ => fun
  | [d] => { results := [.lit (.bool false)], args := [d] }
  | _ => none }
def FnExactPermutationOrderWrongFalsely : Prop := fnExactPermutationOrderRow.holds Try.pinned (OpenSpec.ofChange fnExactPermutationOrderWrong)

/-- 'laws.FnExactOrderOfSolution': WHATEVER THE INPUT: true; the input reads as it did. -/
def fnExactOrderOfSolutionSpec : ChangeSpec := { name := "fnExactOrderOfSolution", fn := fun _ => fun
  | [d] => { results := [.lit (.bool true)], args := [d] }
  | _ => none }
def fnExactOrderOfSolutionRow : OpenClaim := { program := "ytjgjnekpdeffaaa", sum := "0ed0ccd5e1e968c535c21df982a70f136cbead0cde32e30c6953a05b52afcff0", func := "loop.example/g01119/laws.FnExactOrderOfSolution", spec := "fnExactOrderOfSolution", plainKeys := false, apart := false }
def FnExactOrderOfSolutionSaid : Prop := fnExactOrderOfSolutionRow.holds Try.pinned (OpenSpec.ofChange fnExactOrderOfSolutionSpec)

/-- ITS FALSE NEIGHBOUR: 'it returns false'. Refute it at one input. -/
def fnExactOrderOfSolutionWrong : ChangeSpec := { name := "fnExactOrderOfSolution", fn := fun _ => fun
  | [d] => { results := [.lit (.bool false)], args := [d] }
  | _ => none }
def FnExactOrderOfSolutionWrongFalsely : Prop := fnExactOrderOfSolutionRow.holds Try.pinned (OpenSpec.ofChange fnExactOrderOfSolutionWrong)

/- THE SECOND FORM. 'bulk': how many values and letters a reading holds, each counted each time it is reached (what is shared counts as often as it is met; a slice's spare places count too). A statement '..UptoSaid' is the law's where the arguments, and the package variables that the reading takes, are together of bulk at most 1048576: NARROWER than '..Said'. Prove '..Said' where nothing that the law and all that it calls make is longer than what came in: it says more and counts as full. Else prove '..UptoSaid'. A law counts once. -/
mutual
def uptoBulk {H : Type} : DataW H → Nat
  | .lit (.string bytes) => bytes.length + 1
  | .lit _ => 1
  | .nil => 1
  | .ptr d => uptoBulk d + 1
  | .slice elems spare => uptoBulkAll elems + uptoBulkAll spare + 1
  | .agg parts => uptoBulkAll parts + 1
  | .iface _ d => uptoBulk d + 1
  | .map entries => uptoBulkEntries entries + 1
  | .held _ => 1
def uptoBulkAll {H : Type} : List (DataW H) → Nat
  | [] => 0
  | d :: r => uptoBulk d + uptoBulkAll r
def uptoBulkEntries {H : Type} : List (Lit × DataW H) → Nat
  | [] => 0
  | x :: r => uptoBulkEntry x + uptoBulkEntries r
def uptoBulkEntry {H : Type} : Lit × DataW H → Nat
  | (.string bytes, d) => bytes.length + uptoBulk d + 1
  | (_, d) => uptoBulk d + 1
 end
def uptoSmall : (H : Type) → List (DataW H) → Bool := fun _ ds => decide (uptoBulkAll ds ≤ 1048576)
def OpenSpec.upto (s : _root_.Go.ChangeSpec) : _root_.Go.OpenSpec := { _root_.Go.OpenSpec.ofChange s with cond := some uptoSmall }

/-- 'laws.FnExactAlexanderQuandle', WHERE WHAT IT READS IS OF BULK AT MOST 1048576: true; the input reads as it did. -/
def fnExactAlexanderQuandleUptoRow : OpenClaim := { program := "ytjgjnekpdeffaaa", sum := "0ed0ccd5e1e968c535c21df982a70f136cbead0cde32e30c6953a05b52afcff0", func := "loop.example/g01119/laws.FnExactAlexanderQuandle", spec := "fnExactAlexanderQuandle", unfollowed := true, recurses := true, plainKeys := false, apart := false, narrowed := true }
def FnExactAlexanderQuandleUptoSaid : Prop := fnExactAlexanderQuandleUptoRow.holds Try.pinned (OpenSpec.upto fnExactAlexanderQuandleSpec)

/-- 'laws.FnExactCoreQuandle', WHERE WHAT IT READS IS OF BULK AT MOST 1048576: true; the input reads as it did. -/
def fnExactCoreQuandleUptoRow : OpenClaim := { program := "ytjgjnekpdeffaaa", sum := "0ed0ccd5e1e968c535c21df982a70f136cbead0cde32e30c6953a05b52afcff0", func := "loop.example/g01119/laws.FnExactCoreQuandle", spec := "fnExactCoreQuandle", unfollowed := true, recurses := true, plainKeys := false, apart := false, narrowed := true }
def FnExactCoreQuandleUptoSaid : Prop := fnExactCoreQuandleUptoRow.holds Try.pinned (OpenSpec.upto fnExactCoreQuandleSpec)

/-- 'laws.FnExactGroupConjugation', WHERE WHAT IT READS IS OF BULK AT MOST 1048576: true; the input reads as it did. -/
def fnExactGroupConjugationUptoRow : OpenClaim := { program := "ytjgjnekpdeffaaa", sum := "0ed0ccd5e1e968c535c21df982a70f136cbead0cde32e30c6953a05b52afcff0", func := "loop.example/g01119/laws.FnExactGroupConjugation", spec := "fnExactGroupConjugation", unfollowed := true, recurses := true, plainKeys := false, apart := false, narrowed := true }
def FnExactGroupConjugationUptoSaid : Prop := fnExactGroupConjugationUptoRow.holds Try.pinned (OpenSpec.upto fnExactGroupConjugationSpec)

/-- 'laws.FnExactPermutationOrder', WHERE WHAT IT READS IS OF BULK AT MOST 1048576: true; the input reads as it did. -/
def fnExactPermutationOrderUptoRow : OpenClaim := { program := "ytjgjnekpdeffaaa", sum := "0ed0ccd5e1e968c535c21df982a70f136cbead0cde32e30c6953a05b52afcff0", func := "loop.example/g01119/laws.FnExactPermutationOrder", spec := "fnExactPermutationOrder", recurses := true, plainKeys := false, apart := false, narrowed := true }
def FnExactPermutationOrderUptoSaid : Prop := fnExactPermutationOrderUptoRow.holds Try.pinned (OpenSpec.upto fnExactPermutationOrderSpec)

/-- 'laws.FnExactOrderOfSolution', WHERE WHAT IT READS IS OF BULK AT MOST 1048576: true; the input reads as it did. -/
def fnExactOrderOfSolutionUptoRow : OpenClaim := { program := "ytjgjnekpdeffaaa", sum := "0ed0ccd5e1e968c535c21df982a70f136cbead0cde32e30c6953a05b52afcff0", func := "loop.example/g01119/laws.FnExactOrderOfSolution", spec := "fnExactOrderOfSolution", plainKeys := false, apart := false, narrowed := true }
def FnExactOrderOfSolutionUptoSaid : Prop := fnExactOrderOfSolutionUptoRow.holds Try.pinned (OpenSpec.upto fnExactOrderOfSolutionSpec)

end Rows
end Go.Proofs.Ytjgjnekpdeffaaa
