/-
  No cell of these rows narrows 'for every input' (looked for: loops, veiled, ifaces, maps, wideKeys, modest, calm, conditions, laid).
  DERIVED. THE GIVEN ROWS OF THIS SEAT. 11 by the template 'for every input the law returns true; each argument reads behind the call as it read before'; 0 by the template 'total and deterministic' (their statements: YtnkggphffinekaaTotals.lean).
  GIVEN WITH THE SEED: the statements are not yours to turn. If you find one false, say at which input.
  Laid BY PROGRAM, IN A SANDBOX (cutbox-rows.mjs): the forced cells as the released guide's own fill.sh prints them over the translation fc320c2776929618… (all of the seat's roots in one cut). By AI agents, Wed Nov 11 2026. No macro, syntax, notation, axiom, sorry.
-/
import Derived.Test.YtnkggphffinekaaChecked
import GoSem.Claim
import GoSem.ClaimJoined
import GoSem.ClaimMapViews
import Derived.JoinedTies
import Derived.KernelRfl
namespace Go.Proofs.Ytnkggphffinekaa
/- THE CELL 'sum', in the pinned program and in every row, IS THE sha256 OF THE DUMP (.gsa) THAT YtnkggphffinekaaProg.lean LOADS. Nothing in Lean hashes anything: it is a label: what it is worth is what the hold of that sum in a sandbox is worth. -/
noncomputable def Try.pinned : Pinned := { name := "ytnkggphffinekaa", sum := "fc320c2776929618e009993f08563d16a71a77f0dc8e2701b5d4fb09326f5906", checked := Try.checked }
namespace Rows
def none {H : Type} : Left H := { results := [], args := [] }

/-- 'laws.FnPermutationLaws': WHATEVER THE INPUT: true; the input reads as it did. -/
def fnPermutationLawsSpec : ChangeSpec := { name := "fnPermutationLaws", fn := fun _ => fun
  | [d] => { results := [.lit (.bool true)], args := [d] }
  | _ => none }
def fnPermutationLawsRow : OpenClaim := { program := "ytnkggphffinekaa", sum := "fc320c2776929618e009993f08563d16a71a77f0dc8e2701b5d4fb09326f5906", func := "loop.example/g01119/laws.FnPermutationLaws", spec := "fnPermutationLaws", recurses := true, apart := false }
def FnPermutationLawsSaid : Prop := fnPermutationLawsRow.holds Try.pinned (OpenSpec.ofChange fnPermutationLawsSpec)

/-- ITS FALSE NEIGHBOUR: 'it returns false'. Refute it at one input. -/
def fnPermutationLawsWrong : ChangeSpec := { name := "fnPermutationLaws", fn := fun _ => fun
  | [d] => { results := [.lit (.bool false)], args := [d] }
  | _ => none }
def FnPermutationLawsWrongFalsely : Prop := fnPermutationLawsRow.holds Try.pinned (OpenSpec.ofChange fnPermutationLawsWrong)

/-- 'laws.FnSystems': WHATEVER THE INPUT: true; the input reads as it did. -/
def fnSystemsSpec : ChangeSpec := { name := "fnSystems", fn := fun _ => fun
  | [d] => { results := [.lit (.bool true)], args := [d] }
  | _ => none }
def fnSystemsRow : OpenClaim := { program := "ytnkggphffinekaa", sum := "fc320c2776929618e009993f08563d16a71a77f0dc8e2701b5d4fb09326f5906", func := "loop.example/g01119/laws.FnSystems", spec := "fnSystems", unfollowed := true, recurses := true, apart := false }
def FnSystemsSaid : Prop := fnSystemsRow.holds Try.pinned (OpenSpec.ofChange fnSystemsSpec)

/-- ITS FALSE NEIGHBOUR: 'it returns false'. Refute it at one input. -/
def fnSystemsWrong : ChangeSpec := { name := "fnSystems", fn := fun _ => fun
  | [d] => { results := [.lit (.bool false)], args := [d] }
  | _ => none }
def FnSystemsWrongFalsely : Prop := fnSystemsRow.holds Try.pinned (OpenSpec.ofChange fnSystemsWrong)

/-- 'laws.FnRenamedTables': WHATEVER THE INPUT: true; the input reads as it did. -/
def fnRenamedTablesSpec : ChangeSpec := { name := "fnRenamedTables", fn := fun _ => fun
  | [d] => { results := [.lit (.bool true)], args := [d] }
  | _ => none }
def fnRenamedTablesRow : OpenClaim := { program := "ytnkggphffinekaa", sum := "fc320c2776929618e009993f08563d16a71a77f0dc8e2701b5d4fb09326f5906", func := "loop.example/g01119/laws.FnRenamedTables", spec := "fnRenamedTables", unfollowed := true, recurses := true, apart := false }
def FnRenamedTablesSaid : Prop := fnRenamedTablesRow.holds Try.pinned (OpenSpec.ofChange fnRenamedTablesSpec)

/-- ITS FALSE NEIGHBOUR: 'it returns false'. Refute it at one input. -/
def fnRenamedTablesWrong : ChangeSpec := { name := "fnRenamedTables", fn := fun _ => fun
  | [d] => { results := [.lit (.bool false)], args := [d] }
  | _ => none }
def FnRenamedTablesWrongFalsely : Prop := fnRenamedTablesRow.holds Try.pinned (OpenSpec.ofChange fnRenamedTablesWrong)

/-- 'laws.FnExactIsTable': WHATEVER THE INPUT: true; the input reads as it did. -/
def fnExactIsTableSpec : ChangeSpec := { name := "fnExactIsTable", fn := fun _ => fun
  | [d] => { results := [.lit (.bool true)], args := [d] }
  | _ => none }
def fnExactIsTableRow : OpenClaim := { program := "ytnkggphffinekaa", sum := "fc320c2776929618e009993f08563d16a71a77f0dc8e2701b5d4fb09326f5906", func := "loop.example/g01119/laws.FnExactIsTable", spec := "fnExactIsTable", apart := false }
def FnExactIsTableSaid : Prop := fnExactIsTableRow.holds Try.pinned (OpenSpec.ofChange fnExactIsTableSpec)

/-- ITS FALSE NEIGHBOUR: 'it returns false'. Refute it at one input. -/
def fnExactIsTableWrong : ChangeSpec := { name := "fnExactIsTable", fn := fun _ => fun
  | [d] => { results := [.lit (.bool false)], args := [d] }
  | _ => none }
def FnExactIsTableWrongFalsely : Prop := fnExactIsTableRow.holds Try.pinned (OpenSpec.ofChange fnExactIsTableWrong)

/-- 'laws.FnExactIsPermutation': WHATEVER THE INPUT: true; the input reads as it did. -/
def fnExactIsPermutationSpec : ChangeSpec := { name := "fnExactIsPermutation", fn := fun _ => fun
  | [d] => { results := [.lit (.bool true)], args := [d] }
  | _ => none }
def fnExactIsPermutationRow : OpenClaim := { program := "ytnkggphffinekaa", sum := "fc320c2776929618e009993f08563d16a71a77f0dc8e2701b5d4fb09326f5906", func := "loop.example/g01119/laws.FnExactIsPermutation", spec := "fnExactIsPermutation", apart := false }
def FnExactIsPermutationSaid : Prop := fnExactIsPermutationRow.holds Try.pinned (OpenSpec.ofChange fnExactIsPermutationSpec)

/-- ITS FALSE NEIGHBOUR: 'it returns false'. Refute it at one input. -/
def fnExactIsPermutationWrong : ChangeSpec := { name := "fnExactIsPermutation", fn := fun _ => fun
  | [d] => { results := [.lit (.bool false)], args := [d] }
  | _ => none }
def FnExactIsPermutationWrongFalsely : Prop := fnExactIsPermutationRow.holds Try.pinned (OpenSpec.ofChange fnExactIsPermutationWrong)

/-- 'laws.FnExactThenPermutation': WHATEVER THE INPUT: true; the input reads as it did. -/
def fnExactThenPermutationSpec : ChangeSpec := { name := "fnExactThenPermutation", fn := fun _ => fun
  | [d1, d2] => { results := [.lit (.bool true)], args := [d1, d2] }
  | _ => none }
def fnExactThenPermutationRow : OpenClaim := { program := "ytnkggphffinekaa", sum := "fc320c2776929618e009993f08563d16a71a77f0dc8e2701b5d4fb09326f5906", func := "loop.example/g01119/laws.FnExactThenPermutation", spec := "fnExactThenPermutation", apart := false }
def FnExactThenPermutationSaid : Prop := fnExactThenPermutationRow.holds Try.pinned (OpenSpec.ofChange fnExactThenPermutationSpec)

/-- ITS FALSE NEIGHBOUR: 'it returns false'. Refute it at one input. -/
def fnExactThenPermutationWrong : ChangeSpec := { name := "fnExactThenPermutation", fn := fun _ => fun
  | [d1, d2] => { results := [.lit (.bool false)], args := [d1, d2] }
  | _ => none }
def FnExactThenPermutationWrongFalsely : Prop := fnExactThenPermutationRow.holds Try.pinned (OpenSpec.ofChange fnExactThenPermutationWrong)

/-- 'laws.FnExactInversePermutation': WHATEVER THE INPUT: true; the input reads as it did. -/
def fnExactInversePermutationSpec : ChangeSpec := { name := "fnExactInversePermutation", fn := fun _ => fun
  | [d] => { results := [.lit (.bool true)], args := [d] }
  | _ => none }
def fnExactInversePermutationRow : OpenClaim := { program := "ytnkggphffinekaa", sum := "fc320c2776929618e009993f08563d16a71a77f0dc8e2701b5d4fb09326f5906", func := "loop.example/g01119/laws.FnExactInversePermutation", spec := "fnExactInversePermutation", apart := false }
def FnExactInversePermutationSaid : Prop := fnExactInversePermutationRow.holds Try.pinned (OpenSpec.ofChange fnExactInversePermutationSpec)

/-- ITS FALSE NEIGHBOUR: 'it returns false'. Refute it at one input. -/
def fnExactInversePermutationWrong : ChangeSpec := { name := "fnExactInversePermutation", fn := fun _ => fun
  | [d] => { results := [.lit (.bool false)], args := [d] }
  | _ => none }
def FnExactInversePermutationWrongFalsely : Prop := fnExactInversePermutationRow.holds Try.pinned (OpenSpec.ofChange fnExactInversePermutationWrong)

/-- 'laws.FnExactPermutationOrder': WHATEVER THE INPUT: true; the input reads as it did. -/
def fnExactPermutationOrderSpec : ChangeSpec := { name := "fnExactPermutationOrder", fn := fun _ => fun
  | [d] => { results := [.lit (.bool true)], args := [d] }
  | _ => none }
def fnExactPermutationOrderRow : OpenClaim := { program := "ytnkggphffinekaa", sum := "fc320c2776929618e009993f08563d16a71a77f0dc8e2701b5d4fb09326f5906", func := "loop.example/g01119/laws.FnExactPermutationOrder", spec := "fnExactPermutationOrder", recurses := true, apart := false }
def FnExactPermutationOrderSaid : Prop := fnExactPermutationOrderRow.holds Try.pinned (OpenSpec.ofChange fnExactPermutationOrderSpec)

/-- ITS FALSE NEIGHBOUR: 'it returns false'. Refute it at one input. -/
def fnExactPermutationOrderWrong : ChangeSpec := { name := "fnExactPermutationOrder", fn := fun _ => fun
  | [d] => { results := [.lit (.bool false)], args := [d] }
  | _ => none }
def FnExactPermutationOrderWrongFalsely : Prop := fnExactPermutationOrderRow.holds Try.pinned (OpenSpec.ofChange fnExactPermutationOrderWrong)

/-- 'laws.FnExactCycleLengths': WHATEVER THE INPUT: true; the input reads as it did. -/
def fnExactCycleLengthsSpec : ChangeSpec := { name := "fnExactCycleLengths", fn := fun _ => fun
  | [d] => { results := [.lit (.bool true)], args := [d] }
  | _ => none }
def fnExactCycleLengthsRow : OpenClaim := { program := "ytnkggphffinekaa", sum := "fc320c2776929618e009993f08563d16a71a77f0dc8e2701b5d4fb09326f5906", func := "loop.example/g01119/laws.FnExactCycleLengths", spec := "fnExactCycleLengths", recurses := true, apart := false }
def FnExactCycleLengthsSaid : Prop := fnExactCycleLengthsRow.holds Try.pinned (OpenSpec.ofChange fnExactCycleLengthsSpec)

/-- ITS FALSE NEIGHBOUR: 'it returns false'. Refute it at one input. -/
def fnExactCycleLengthsWrong : ChangeSpec := { name := "fnExactCycleLengths", fn := fun _ => fun
  | [d] => { results := [.lit (.bool false)], args := [d] }
  | _ => none }
def FnExactCycleLengthsWrongFalsely : Prop := fnExactCycleLengthsRow.holds Try.pinned (OpenSpec.ofChange fnExactCycleLengthsWrong)

/-- 'laws.FnExactOrbitLabels': WHATEVER THE INPUT: true; the input reads as it did. -/
def fnExactOrbitLabelsSpec : ChangeSpec := { name := "fnExactOrbitLabels", fn := fun _ => fun
  | [d1, d2] => { results := [.lit (.bool true)], args := [d1, d2] }
  | _ => none }
def fnExactOrbitLabelsRow : OpenClaim := { program := "ytnkggphffinekaa", sum := "fc320c2776929618e009993f08563d16a71a77f0dc8e2701b5d4fb09326f5906", func := "loop.example/g01119/laws.FnExactOrbitLabels", spec := "fnExactOrbitLabels", apart := false }
def FnExactOrbitLabelsSaid : Prop := fnExactOrbitLabelsRow.holds Try.pinned (OpenSpec.ofChange fnExactOrbitLabelsSpec)

/-- ITS FALSE NEIGHBOUR: 'it returns false'. Refute it at one input. -/
def fnExactOrbitLabelsWrong : ChangeSpec := { name := "fnExactOrbitLabels", fn := fun _ => fun
  | [d1, d2] => { results := [.lit (.bool false)], args := [d1, d2] }
  | _ => none }
def FnExactOrbitLabelsWrongFalsely : Prop := fnExactOrbitLabelsRow.holds Try.pinned (OpenSpec.ofChange fnExactOrbitLabelsWrong)

/-- 'laws.FnExactGroupElements': WHATEVER THE INPUT: true; the input reads as it did. -/
def fnExactGroupElementsSpec : ChangeSpec := { name := "fnExactGroupElements", fn := fun _ => fun
  | [d1, d2] => { results := [.lit (.bool true)], args := [d1, d2] }
  | _ => none }
def fnExactGroupElementsRow : OpenClaim := { program := "ytnkggphffinekaa", sum := "fc320c2776929618e009993f08563d16a71a77f0dc8e2701b5d4fb09326f5906", func := "loop.example/g01119/laws.FnExactGroupElements", spec := "fnExactGroupElements", unfollowed := true, recurses := true, apart := false }
def FnExactGroupElementsSaid : Prop := fnExactGroupElementsRow.holds Try.pinned (OpenSpec.ofChange fnExactGroupElementsSpec)

/-- ITS FALSE NEIGHBOUR: 'it returns false'. Refute it at one input. -/
def fnExactGroupElementsWrong : ChangeSpec := { name := "fnExactGroupElements", fn := fun _ => fun
  | [d1, d2] => { results := [.lit (.bool false)], args := [d1, d2] }
  | _ => none }
def FnExactGroupElementsWrongFalsely : Prop := fnExactGroupElementsRow.holds Try.pinned (OpenSpec.ofChange fnExactGroupElementsWrong)

/- THE SECOND FORM. 'bulk': how many values and letters a reading holds, each counted each time it is reached (what is shared counts as often as it is met; a slice's spare places count too). A statement '..UptoSaid' is the law's where the arguments, and the package variables that the reading takes, are together of bulk at most 1048576: NARROWER than '..Said'. Prove '..Said' where nothing that the law and all that it calls make is longer than what came in: it says more and counts as full. Else prove '..UptoSaid'. A law counts once. -/
mutual
def uptoBulk {H : Type} : DataW H → Nat
  | .lit (.string bytes) => bytes.length + 1
  | .lit _ => 1
  | .nil => 1
  | .ptr d => uptoBulk d + 1
  | .slice elems spare => uptoBulkAll elems + uptoBulkAll spare + 1
  | .agg parts => uptoBulkAll parts + 1
  | .iface _ d => uptoBulk d + 1
  | .map entries => uptoBulkEntries entries + 1
  | .held _ => 1
def uptoBulkAll {H : Type} : List (DataW H) → Nat
  | [] => 0
  | d :: r => uptoBulk d + uptoBulkAll r
def uptoBulkEntries {H : Type} : List (Lit × DataW H) → Nat
  | [] => 0
  | x :: r => uptoBulkEntry x + uptoBulkEntries r
def uptoBulkEntry {H : Type} : Lit × DataW H → Nat
  | (.string bytes, d) => bytes.length + uptoBulk d + 1
  | (_, d) => uptoBulk d + 1
 end
def uptoSmall : (H : Type) → List (DataW H) → Bool := fun _ ds => decide (uptoBulkAll ds ≤ 1048576)
def OpenSpec.upto (s : _root_.Go.ChangeSpec) : _root_.Go.OpenSpec := { _root_.Go.OpenSpec.ofChange s with cond := some uptoSmall }

/-- 'laws.FnPermutationLaws', WHERE WHAT IT READS IS OF BULK AT MOST 1048576: true; the input reads as it did. -/
def fnPermutationLawsUptoRow : OpenClaim := { program := "ytnkggphffinekaa", sum := "fc320c2776929618e009993f08563d16a71a77f0dc8e2701b5d4fb09326f5906", func := "loop.example/g01119/laws.FnPermutationLaws", spec := "fnPermutationLaws", recurses := true, apart := false, narrowed := true }
def FnPermutationLawsUptoSaid : Prop := fnPermutationLawsUptoRow.holds Try.pinned (OpenSpec.upto fnPermutationLawsSpec)

/-- 'laws.FnSystems', WHERE WHAT IT READS IS OF BULK AT MOST 1048576: true; the input reads as it did. -/
def fnSystemsUptoRow : OpenClaim := { program := "ytnkggphffinekaa", sum := "fc320c2776929618e009993f08563d16a71a77f0dc8e2701b5d4fb09326f5906", func := "loop.example/g01119/laws.FnSystems", spec := "fnSystems", unfollowed := true, recurses := true, apart := false, narrowed := true }
def FnSystemsUptoSaid : Prop := fnSystemsUptoRow.holds Try.pinned (OpenSpec.upto fnSystemsSpec)

/-- 'laws.FnRenamedTables', WHERE WHAT IT READS IS OF BULK AT MOST 1048576: true; the input reads as it did. -/
def fnRenamedTablesUptoRow : OpenClaim := { program := "ytnkggphffinekaa", sum := "fc320c2776929618e009993f08563d16a71a77f0dc8e2701b5d4fb09326f5906", func := "loop.example/g01119/laws.FnRenamedTables", spec := "fnRenamedTables", unfollowed := true, recurses := true, apart := false, narrowed := true }
def FnRenamedTablesUptoSaid : Prop := fnRenamedTablesUptoRow.holds Try.pinned (OpenSpec.upto fnRenamedTablesSpec)

/-- 'laws.FnExactIsTable', WHERE WHAT IT READS IS OF BULK AT MOST 1048576: true; the input reads as it did. -/
def fnExactIsTableUptoRow : OpenClaim := { program := "ytnkggphffinekaa", sum := "fc320c2776929618e009993f08563d16a71a77f0dc8e2701b5d4fb09326f5906", func := "loop.example/g01119/laws.FnExactIsTable", spec := "fnExactIsTable", apart := false, narrowed := true }
def FnExactIsTableUptoSaid : Prop := fnExactIsTableUptoRow.holds Try.pinned (OpenSpec.upto fnExactIsTableSpec)

/-- 'laws.FnExactIsPermutation', WHERE WHAT IT READS IS OF BULK AT MOST 1048576: true; the input reads as it did. -/
def fnExactIsPermutationUptoRow : OpenClaim := { program := "ytnkggphffinekaa", sum := "fc320c2776929618e009993f08563d16a71a77f0dc8e2701b5d4fb09326f5906", func := "loop.example/g01119/laws.FnExactIsPermutation", spec := "fnExactIsPermutation", apart := false, narrowed := true }
def FnExactIsPermutationUptoSaid : Prop := fnExactIsPermutationUptoRow.holds Try.pinned (OpenSpec.upto fnExactIsPermutationSpec)

/-- 'laws.FnExactThenPermutation', WHERE WHAT IT READS IS OF BULK AT MOST 1048576: true; the input reads as it did. -/
def fnExactThenPermutationUptoRow : OpenClaim := { program := "ytnkggphffinekaa", sum := "fc320c2776929618e009993f08563d16a71a77f0dc8e2701b5d4fb09326f5906", func := "loop.example/g01119/laws.FnExactThenPermutation", spec := "fnExactThenPermutation", apart := false, narrowed := true }
def FnExactThenPermutationUptoSaid : Prop := fnExactThenPermutationUptoRow.holds Try.pinned (OpenSpec.upto fnExactThenPermutationSpec)

/-- 'laws.FnExactInversePermutation', WHERE WHAT IT READS IS OF BULK AT MOST 1048576: true; the input reads as it did. -/
def fnExactInversePermutationUptoRow : OpenClaim := { program := "ytnkggphffinekaa", sum := "fc320c2776929618e009993f08563d16a71a77f0dc8e2701b5d4fb09326f5906", func := "loop.example/g01119/laws.FnExactInversePermutation", spec := "fnExactInversePermutation", apart := false, narrowed := true }
def FnExactInversePermutationUptoSaid : Prop := fnExactInversePermutationUptoRow.holds Try.pinned (OpenSpec.upto fnExactInversePermutationSpec)

/-- 'laws.FnExactPermutationOrder', WHERE WHAT IT READS IS OF BULK AT MOST 1048576: true; the input reads as it did. -/
def fnExactPermutationOrderUptoRow : OpenClaim := { program := "ytnkggphffinekaa", sum := "fc320c2776929618e009993f08563d16a71a77f0dc8e2701b5d4fb09326f5906", func := "loop.example/g01119/laws.FnExactPermutationOrder", spec := "fnExactPermutationOrder", recurses := true, apart := false, narrowed := true }
def FnExactPermutationOrderUptoSaid : Prop := fnExactPermutationOrderUptoRow.holds Try.pinned (OpenSpec.upto fnExactPermutationOrderSpec)

/-- 'laws.FnExactCycleLengths', WHERE WHAT IT READS IS OF BULK AT MOST 1048576: true; the input reads as it did. -/
def fnExactCycleLengthsUptoRow : OpenClaim := { program := "ytnkggphffinekaa", sum := "fc320c2776929618e009993f08563d16a71a77f0dc8e2701b5d4fb09326f5906", func := "loop.example/g01119/laws.FnExactCycleLengths", spec := "fnExactCycleLengths", recurses := true, apart := false, narrowed := true }
def FnExactCycleLengthsUptoSaid : Prop := fnExactCycleLengthsUptoRow.holds Try.pinned (OpenSpec.upto fnExactCycleLengthsSpec)

/-- 'laws.FnExactOrbitLabels', WHERE WHAT IT READS IS OF BULK AT MOST 1048576: true; the input reads as it did. -/
def fnExactOrbitLabelsUptoRow : OpenClaim := { program := "ytnkggphffinekaa", sum := "fc320c2776929618e009993f08563d16a71a77f0dc8e2701b5d4fb09326f5906", func := "loop.example/g01119/laws.FnExactOrbitLabels", spec := "fnExactOrbitLabels", apart := false, narrowed := true }
def FnExactOrbitLabelsUptoSaid : Prop := fnExactOrbitLabelsUptoRow.holds Try.pinned (OpenSpec.upto fnExactOrbitLabelsSpec)

/-- 'laws.FnExactGroupElements', WHERE WHAT IT READS IS OF BULK AT MOST 1048576: true; the input reads as it did. -/
def fnExactGroupElementsUptoRow : OpenClaim := { program := "ytnkggphffinekaa", sum := "fc320c2776929618e009993f08563d16a71a77f0dc8e2701b5d4fb09326f5906", func := "loop.example/g01119/laws.FnExactGroupElements", spec := "fnExactGroupElements", unfollowed := true, recurses := true, apart := false, narrowed := true }
def FnExactGroupElementsUptoSaid : Prop := fnExactGroupElementsUptoRow.holds Try.pinned (OpenSpec.upto fnExactGroupElementsSpec)

end Rows
end Go.Proofs.Ytnkggphffinekaa
