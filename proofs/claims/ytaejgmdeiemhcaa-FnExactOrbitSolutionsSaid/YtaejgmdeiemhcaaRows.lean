/-
  No cell of these rows narrows 'for every input' (looked for: loops, veiled, ifaces, maps, wideKeys, modest, calm, conditions, laid).
  DERIVED. THE GIVEN ROWS OF THIS SEAT. 12 by the template 'for every input the law returns true; each argument reads behind the call as it read before'; 0 by the template 'total and deterministic' (their statements: YtaejgmdeiemhcaaTotals.lean).
  GIVEN WITH THE SEED: the statements are not yours to turn. If you find one false, say at which input.
  Laid BY PROGRAM, IN A SANDBOX (cutbox-rows.mjs): the forced cells as the released guide's own fill.sh prints them over the translation d666135ab148a690… (all of the seat's roots in one cut). By AI agents, Wed Nov 11 2026. No macro, syntax, notation, axiom, sorry.
-/
import Derived.Test.YtaejgmdeiemhcaaChecked
import GoSem.Claim
import GoSem.ClaimJoined
import GoSem.ClaimMapViews
import Derived.JoinedTies
import Derived.KernelRfl
namespace Go.Proofs.Ytaejgmdeiemhcaa
/- THE CELL 'sum', in the pinned program and in every row, IS THE sha256 OF THE DUMP (.gsa) THAT YtaejgmdeiemhcaaProg.lean LOADS. Nothing in Lean hashes anything: it is a label: what it is worth is what the hold of that sum in a sandbox is worth. -/
noncomputable def Try.pinned : Pinned := { name := "ytaejgmdeiemhcaa", sum := "d666135ab148a69079b62361a4b6c67abe18853b6ba808f3ab12d8667223ade4", checked := Try.checked }
namespace Rows
def none {H : Type} : Left H := { results := [], args := [] }

/-- 'laws.FnExactLambdaMaps': WHATEVER THE INPUT: true; the input reads as it did. -/
def fnExactLambdaMapsSpec : ChangeSpec := { name := "fnExactLambdaMaps", fn := fun _ => fun
  | [d] => { results := [.lit (.bool true)], args := [d] }
  | _ => none }
def fnExactLambdaMapsRow : OpenClaim := { program := "ytaejgmdeiemhcaa", sum := "d666135ab148a69079b62361a4b6c67abe18853b6ba808f3ab12d8667223ade4", func := "loop.example/g01119/laws.FnExactLambdaMaps", spec := "fnExactLambdaMaps", unfollowed := true, recurses := true, plainKeys := false, apart := false }
def FnExactLambdaMapsSaid : Prop := fnExactLambdaMapsRow.holds Try.pinned (OpenSpec.ofChange fnExactLambdaMapsSpec)

/-- ITS FALSE NEIGHBOUR: 'it returns false'. Refute it at one input. -/
def fnExactLambdaMapsWrong : ChangeSpec := { name := "fnExactLambdaMaps", fn := fun _ => fun
  | [d] => { results := [.lit (.bool false)], args := [d] }
  | _ => none }
def FnExactLambdaMapsWrongFalsely : Prop := fnExactLambdaMapsRow.holds Try.pinned (OpenSpec.ofChange fnExactLambdaMapsWrong)

/-- 'laws.FnExactRhoMaps': WHATEVER THE INPUT: true; the input reads as it did. -/
def fnExactRhoMapsSpec : ChangeSpec := { name := "fnExactRhoMaps", fn := fun _ => fun
  | [d] => { results := [.lit (.bool true)], args := [d] }
  | _ => none }
def fnExactRhoMapsRow : OpenClaim := { program := "ytaejgmdeiemhcaa", sum := "d666135ab148a69079b62361a4b6c67abe18853b6ba808f3ab12d8667223ade4", func := "loop.example/g01119/laws.FnExactRhoMaps", spec := "fnExactRhoMaps", unfollowed := true, recurses := true, plainKeys := false, apart := false }
def FnExactRhoMapsSaid : Prop := fnExactRhoMapsRow.holds Try.pinned (OpenSpec.ofChange fnExactRhoMapsSpec)

/-- ITS FALSE NEIGHBOUR: 'it returns false'. Refute it at one input. -/
def fnExactRhoMapsWrong : ChangeSpec := { name := "fnExactRhoMaps", fn := fun _ => fun
  | [d] => { results := [.lit (.bool false)], args := [d] }
  | _ => none }
def FnExactRhoMapsWrongFalsely : Prop := fnExactRhoMapsRow.holds Try.pinned (OpenSpec.ofChange fnExactRhoMapsWrong)

/-- 'laws.FnExactLeftGroup': WHATEVER THE INPUT: true; the input reads as it did. -/
def fnExactLeftGroupSpec : ChangeSpec := { name := "fnExactLeftGroup", fn := fun _ => fun
  | [d] => { results := [.lit (.bool true)], args := [d] }
  | _ => none }
def fnExactLeftGroupRow : OpenClaim := { program := "ytaejgmdeiemhcaa", sum := "d666135ab148a69079b62361a4b6c67abe18853b6ba808f3ab12d8667223ade4", func := "loop.example/g01119/laws.FnExactLeftGroup", spec := "fnExactLeftGroup", unfollowed := true, recurses := true, plainKeys := false, apart := false }
def FnExactLeftGroupSaid : Prop := fnExactLeftGroupRow.holds Try.pinned (OpenSpec.ofChange fnExactLeftGroupSpec)

/-- ITS FALSE NEIGHBOUR: 'it returns false'. Refute it at one input. -/
def fnExactLeftGroupWrong : ChangeSpec := { name := "fnExactLeftGroup", fn := fun _ => fun
  | [d] => { results := [.lit (.bool false)], args := [d] }
  | _ => none }
def FnExactLeftGroupWrongFalsely : Prop := fnExactLeftGroupRow.holds Try.pinned (OpenSpec.ofChange fnExactLeftGroupWrong)

/-- 'laws.FnExactLeftGroupOrder': WHATEVER THE INPUT: true; the input reads as it did. -/
def fnExactLeftGroupOrderSpec : ChangeSpec := { name := "fnExactLeftGroupOrder", fn := fun _ => fun
  | [d] => { results := [.lit (.bool true)], args := [d] }
  | _ => none }
def fnExactLeftGroupOrderRow : OpenClaim := { program := "ytaejgmdeiemhcaa", sum := "d666135ab148a69079b62361a4b6c67abe18853b6ba808f3ab12d8667223ade4", func := "loop.example/g01119/laws.FnExactLeftGroupOrder", spec := "fnExactLeftGroupOrder", unfollowed := true, recurses := true, plainKeys := false, apart := false }
def FnExactLeftGroupOrderSaid : Prop := fnExactLeftGroupOrderRow.holds Try.pinned (OpenSpec.ofChange fnExactLeftGroupOrderSpec)

/-- ITS FALSE NEIGHBOUR: 'it returns false'. Refute it at one input. -/
def fnExactLeftGroupOrderWrong : ChangeSpec := { name := "fnExactLeftGroupOrder", fn := fun _ => fun
  | [d] => { results := [.lit (.bool false)], args := [d] }
  | _ => none }
def FnExactLeftGroupOrderWrongFalsely : Prop := fnExactLeftGroupOrderRow.holds Try.pinned (OpenSpec.ofChange fnExactLeftGroupOrderWrong)

/-- 'laws.FnExactRightGroupOrder': WHATEVER THE INPUT: true; the input reads as it did. -/
def fnExactRightGroupOrderSpec : ChangeSpec := { name := "fnExactRightGroupOrder", fn := fun _ => fun
  | [d] => { results := [.lit (.bool true)], args := [d] }
  | _ => none }
def fnExactRightGroupOrderRow : OpenClaim := { program := "ytaejgmdeiemhcaa", sum := "d666135ab148a69079b62361a4b6c67abe18853b6ba808f3ab12d8667223ade4", func := "loop.example/g01119/laws.FnExactRightGroupOrder", spec := "fnExactRightGroupOrder", unfollowed := true, recurses := true, plainKeys := false, apart := false }
def FnExactRightGroupOrderSaid : Prop := fnExactRightGroupOrderRow.holds Try.pinned (OpenSpec.ofChange fnExactRightGroupOrderSpec)

/-- ITS FALSE NEIGHBOUR: 'it returns false'. Refute it at one input. -/
def fnExactRightGroupOrderWrong : ChangeSpec := { name := "fnExactRightGroupOrder", fn := fun _ => fun
  | [d] => { results := [.lit (.bool false)], args := [d] }
  | _ => none }
def FnExactRightGroupOrderWrongFalsely : Prop := fnExactRightGroupOrderRow.holds Try.pinned (OpenSpec.ofChange fnExactRightGroupOrderWrong)

/-- 'laws.FnExactWholeGroupOrder': WHATEVER THE INPUT: true; the input reads as it did. -/
def fnExactWholeGroupOrderSpec : ChangeSpec := { name := "fnExactWholeGroupOrder", fn := fun _ => fun
  | [d] => { results := [.lit (.bool true)], args := [d] }
  | _ => none }
def fnExactWholeGroupOrderRow : OpenClaim := { program := "ytaejgmdeiemhcaa", sum := "d666135ab148a69079b62361a4b6c67abe18853b6ba808f3ab12d8667223ade4", func := "loop.example/g01119/laws.FnExactWholeGroupOrder", spec := "fnExactWholeGroupOrder", unfollowed := true, recurses := true, plainKeys := false, apart := false }
def FnExactWholeGroupOrderSaid : Prop := fnExactWholeGroupOrderRow.holds Try.pinned (OpenSpec.ofChange fnExactWholeGroupOrderSpec)

/-- ITS FALSE NEIGHBOUR: 'it returns false'. Refute it at one input. -/
def fnExactWholeGroupOrderWrong : ChangeSpec := { name := "fnExactWholeGroupOrder", fn := fun _ => fun
  | [d] => { results := [.lit (.bool false)], args := [d] }
  | _ => none }
def FnExactWholeGroupOrderWrongFalsely : Prop := fnExactWholeGroupOrderRow.holds Try.pinned (OpenSpec.ofChange fnExactWholeGroupOrderWrong)

/-- 'laws.FnExactOrbitsOfSolution': WHATEVER THE INPUT: true; the input reads as it did. -/
def fnExactOrbitsOfSolutionSpec : ChangeSpec := { name := "fnExactOrbitsOfSolution", fn := fun _ => fun
  | [d] => { results := [.lit (.bool true)], args := [d] }
  | _ => none }
def fnExactOrbitsOfSolutionRow : OpenClaim := { program := "ytaejgmdeiemhcaa", sum := "d666135ab148a69079b62361a4b6c67abe18853b6ba808f3ab12d8667223ade4", func := "loop.example/g01119/laws.FnExactOrbitsOfSolution", spec := "fnExactOrbitsOfSolution", plainKeys := false, apart := false }
def FnExactOrbitsOfSolutionSaid : Prop := fnExactOrbitsOfSolutionRow.holds Try.pinned (OpenSpec.ofChange fnExactOrbitsOfSolutionSpec)

/-- ITS FALSE NEIGHBOUR: 'it returns false'. Refute it at one input. -/
def fnExactOrbitsOfSolutionWrong : ChangeSpec := { name := "fnExactOrbitsOfSolution", fn := fun _ => fun
  | [d] => { results := [.lit (.bool false)], args := [d] }
  | _ => none }
def FnExactOrbitsOfSolutionWrongFalsely : Prop := fnExactOrbitsOfSolutionRow.holds Try.pinned (OpenSpec.ofChange fnExactOrbitsOfSolutionWrong)

/-- 'laws.FnExactIsIndecomposable': WHATEVER THE INPUT: true; the input reads as it did. -/
def fnExactIsIndecomposableSpec : ChangeSpec := { name := "fnExactIsIndecomposable", fn := fun _ => fun
  | [d] => { results := [.lit (.bool true)], args := [d] }
  | _ => none }
def fnExactIsIndecomposableRow : OpenClaim := { program := "ytaejgmdeiemhcaa", sum := "d666135ab148a69079b62361a4b6c67abe18853b6ba808f3ab12d8667223ade4", func := "loop.example/g01119/laws.FnExactIsIndecomposable", spec := "fnExactIsIndecomposable", plainKeys := false, apart := false }
def FnExactIsIndecomposableSaid : Prop := fnExactIsIndecomposableRow.holds Try.pinned (OpenSpec.ofChange fnExactIsIndecomposableSpec)

/-- ITS FALSE NEIGHBOUR: 'it returns false'. Refute it at one input. -/
def fnExactIsIndecomposableWrong : ChangeSpec := { name := "fnExactIsIndecomposable", fn := fun _ => fun
  | [d] => { results := [.lit (.bool false)], args := [d] }
  | _ => none }
def FnExactIsIndecomposableWrongFalsely : Prop := fnExactIsIndecomposableRow.holds Try.pinned (OpenSpec.ofChange fnExactIsIndecomposableWrong)

/-- 'laws.FnExactIsAbelianLeft': WHATEVER THE INPUT: true; the input reads as it did. -/
def fnExactIsAbelianLeftSpec : ChangeSpec := { name := "fnExactIsAbelianLeft", fn := fun _ => fun
  | [d] => { results := [.lit (.bool true)], args := [d] }
  | _ => none }
def fnExactIsAbelianLeftRow : OpenClaim := { program := "ytaejgmdeiemhcaa", sum := "d666135ab148a69079b62361a4b6c67abe18853b6ba808f3ab12d8667223ade4", func := "loop.example/g01119/laws.FnExactIsAbelianLeft", spec := "fnExactIsAbelianLeft", plainKeys := false, apart := false }
def FnExactIsAbelianLeftSaid : Prop := fnExactIsAbelianLeftRow.holds Try.pinned (OpenSpec.ofChange fnExactIsAbelianLeftSpec)

/-- ITS FALSE NEIGHBOUR: 'it returns false'. Refute it at one input. -/
def fnExactIsAbelianLeftWrong : ChangeSpec := { name := "fnExactIsAbelianLeft", fn := fun _ => fun
  | [d] => { results := [.lit (.bool false)], args := [d] }
  | _ => none }
def FnExactIsAbelianLeftWrongFalsely : Prop := fnExactIsAbelianLeftRow.holds Try.pinned (OpenSpec.ofChange fnExactIsAbelianLeftWrong)

/-- 'laws.FnExactFixedElements': WHATEVER THE INPUT: true; the input reads as it did. -/
def fnExactFixedElementsSpec : ChangeSpec := { name := "fnExactFixedElements", fn := fun _ => fun
  | [d] => { results := [.lit (.bool true)], args := [d] }
  | _ => none }
def fnExactFixedElementsRow : OpenClaim := { program := "ytaejgmdeiemhcaa", sum := "d666135ab148a69079b62361a4b6c67abe18853b6ba808f3ab12d8667223ade4", func := "loop.example/g01119/laws.FnExactFixedElements", spec := "fnExactFixedElements", unfollowed := true, recurses := true, plainKeys := false, apart := false }
def FnExactFixedElementsSaid : Prop := fnExactFixedElementsRow.holds Try.pinned (OpenSpec.ofChange fnExactFixedElementsSpec)

/-- ITS FALSE NEIGHBOUR: 'it returns false'. Refute it at one input. -/
def fnExactFixedElementsWrong : ChangeSpec := { name := "fnExactFixedElements", fn := fun _ => fun
  | [d] => { results := [.lit (.bool false)], args := [d] }
  | _ => none }
def FnExactFixedElementsWrongFalsely : Prop := fnExactFixedElementsRow.holds Try.pinned (OpenSpec.ofChange fnExactFixedElementsWrong)

/-- 'laws.FnExactDecompositionOf': WHATEVER THE INPUT: true; the input reads as it did. -/
def fnExactDecompositionOfSpec : ChangeSpec := { name := "fnExactDecompositionOf", fn := fun _ => fun
  | [d] => { results := [.lit (.bool true)], args := [d] }
  | _ => none }
def fnExactDecompositionOfRow : OpenClaim := { program := "ytaejgmdeiemhcaa", sum := "d666135ab148a69079b62361a4b6c67abe18853b6ba808f3ab12d8667223ade4", func := "loop.example/g01119/laws.FnExactDecompositionOf", spec := "fnExactDecompositionOf", plainKeys := false, apart := false }
def FnExactDecompositionOfSaid : Prop := fnExactDecompositionOfRow.holds Try.pinned (OpenSpec.ofChange fnExactDecompositionOfSpec)

/-- ITS FALSE NEIGHBOUR: 'it returns false'. Refute it at one input. -/
def fnExactDecompositionOfWrong : ChangeSpec := { name := "fnExactDecompositionOf", fn := fun _ => fun
  | [d] => { results := [.lit (.bool false)], args := [d] }
  | _ => none }
def FnExactDecompositionOfWrongFalsely : Prop := fnExactDecompositionOfRow.holds Try.pinned (OpenSpec.ofChange fnExactDecompositionOfWrong)

/-- 'laws.FnExactOrbitSolutions': WHATEVER THE INPUT: true; the input reads as it did. -/
def fnExactOrbitSolutionsSpec : ChangeSpec := { name := "fnExactOrbitSolutions", fn := fun _ => fun
  | [d] => { results := [.lit (.bool true)], args := [d] }
  | _ => none }
def fnExactOrbitSolutionsRow : OpenClaim := { program := "ytaejgmdeiemhcaa", sum := "d666135ab148a69079b62361a4b6c67abe18853b6ba808f3ab12d8667223ade4", func := "loop.example/g01119/laws.FnExactOrbitSolutions", spec := "fnExactOrbitSolutions", unfollowed := true, recurses := true, plainKeys := false, apart := false }
def FnExactOrbitSolutionsSaid : Prop := fnExactOrbitSolutionsRow.holds Try.pinned (OpenSpec.ofChange fnExactOrbitSolutionsSpec)

/-- ITS FALSE NEIGHBOUR: 'it returns false'. Refute it at one input. -/
def fnExactOrbitSolutionsWrong : ChangeSpec := { name := "fnExactOrbitSolutions", fn := fun _ => fun
  | [d] => { results := [.lit (.bool false)], args := [d] }
  | _ => none }
def FnExactOrbitSolutionsWrongFalsely : Prop := fnExactOrbitSolutionsRow.holds Try.pinned (OpenSpec.ofChange fnExactOrbitSolutionsWrong)

/- THE SECOND FORM. 'bulk': how many values and letters a reading holds, each counted each time it is reached (what is shared counts as often as it is met; a slice's spare places count too). A statement '..UptoSaid' is the law's where the arguments, and the package variables that the reading takes, are together of bulk at most 1048576: NARROWER than '..Said'. Prove '..Said' where nothing that the law and all that it calls make is longer than what came in: it says more and counts as full. Else prove '..UptoSaid'. A law counts once. -/
mutual
def uptoBulk {H : Type} : DataW H → Nat
  | .lit (.string bytes) => bytes.length + 1
  | .lit _ => 1
  | .nil => 1
  | .ptr d => uptoBulk d + 1
  | .slice elems spare => uptoBulkAll elems + uptoBulkAll spare + 1
  | .agg parts => uptoBulkAll parts + 1
  | .iface _ d => uptoBulk d + 1
  | .map entries => uptoBulkEntries entries + 1
  | .held _ => 1
def uptoBulkAll {H : Type} : List (DataW H) → Nat
  | [] => 0
  | d :: r => uptoBulk d + uptoBulkAll r
def uptoBulkEntries {H : Type} : List (Lit × DataW H) → Nat
  | [] => 0
  | x :: r => uptoBulkEntry x + uptoBulkEntries r
def uptoBulkEntry {H : Type} : Lit × DataW H → Nat
  | (.string bytes, d) => bytes.length + uptoBulk d + 1
  | (_, d) => uptoBulk d + 1
 end
def uptoSmall : (H : Type) → List (DataW H) → Bool := fun _ ds => decide (uptoBulkAll ds ≤ 1048576)
def OpenSpec.upto (s : _root_.Go.ChangeSpec) : _root_.Go.OpenSpec := { _root_.Go.OpenSpec.ofChange s with cond := some uptoSmall }

/-- 'laws.FnExactLambdaMaps', WHERE WHAT IT READS IS OF BULK AT MOST 1048576: true; the input reads as it did. -/
def fnExactLambdaMapsUptoRow : OpenClaim := { program := "ytaejgmdeiemhcaa", sum := "d666135ab148a69079b62361a4b6c67abe18853b6ba808f3ab12d8667223ade4", func := "loop.example/g01119/laws.FnExactLambdaMaps", spec := "fnExactLambdaMaps", unfollowed := true, recurses := true, plainKeys := false, apart := false, narrowed := true }
def FnExactLambdaMapsUptoSaid : Prop := fnExactLambdaMapsUptoRow.holds Try.pinned (OpenSpec.upto fnExactLambdaMapsSpec)

/-- 'laws.FnExactRhoMaps', WHERE WHAT IT READS IS OF BULK AT MOST 1048576: true; the input reads as it did. -/
def fnExactRhoMapsUptoRow : OpenClaim := { program := "ytaejgmdeiemhcaa", sum := "d666135ab148a69079b62361a4b6c67abe18853b6ba808f3ab12d8667223ade4", func := "loop.example/g01119/laws.FnExactRhoMaps", spec := "fnExactRhoMaps", unfollowed := true, recurses := true, plainKeys := false, apart := false, narrowed := true }
def FnExactRhoMapsUptoSaid : Prop := fnExactRhoMapsUptoRow.holds Try.pinned (OpenSpec.upto fnExactRhoMapsSpec)

/-- 'laws.FnExactLeftGroup', WHERE WHAT IT READS IS OF BULK AT MOST 1048576: true; the input reads as it did. -/
def fnExactLeftGroupUptoRow : OpenClaim := { program := "ytaejgmdeiemhcaa", sum := "d666135ab148a69079b62361a4b6c67abe18853b6ba808f3ab12d8667223ade4", func := "loop.example/g01119/laws.FnExactLeftGroup", spec := "fnExactLeftGroup", unfollowed := true, recurses := true, plainKeys := false, apart := false, narrowed := true }
def FnExactLeftGroupUptoSaid : Prop := fnExactLeftGroupUptoRow.holds Try.pinned (OpenSpec.upto fnExactLeftGroupSpec)

/-- 'laws.FnExactLeftGroupOrder', WHERE WHAT IT READS IS OF BULK AT MOST 1048576: true; the input reads as it did. -/
def fnExactLeftGroupOrderUptoRow : OpenClaim := { program := "ytaejgmdeiemhcaa", sum := "d666135ab148a69079b62361a4b6c67abe18853b6ba808f3ab12d8667223ade4", func := "loop.example/g01119/laws.FnExactLeftGroupOrder", spec := "fnExactLeftGroupOrder", unfollowed := true, recurses := true, plainKeys := false, apart := false, narrowed := true }
def FnExactLeftGroupOrderUptoSaid : Prop := fnExactLeftGroupOrderUptoRow.holds Try.pinned (OpenSpec.upto fnExactLeftGroupOrderSpec)

/-- 'laws.FnExactRightGroupOrder', WHERE WHAT IT READS IS OF BULK AT MOST 1048576: true; the input reads as it did. -/
def fnExactRightGroupOrderUptoRow : OpenClaim := { program := "ytaejgmdeiemhcaa", sum := "d666135ab148a69079b62361a4b6c67abe18853b6ba808f3ab12d8667223ade4", func := "loop.example/g01119/laws.FnExactRightGroupOrder", spec := "fnExactRightGroupOrder", unfollowed := true, recurses := true, plainKeys := false, apart := false, narrowed := true }
def FnExactRightGroupOrderUptoSaid : Prop := fnExactRightGroupOrderUptoRow.holds Try.pinned (OpenSpec.upto fnExactRightGroupOrderSpec)

/-- 'laws.FnExactWholeGroupOrder', WHERE WHAT IT READS IS OF BULK AT MOST 1048576: true; the input reads as it did. -/
def fnExactWholeGroupOrderUptoRow : OpenClaim := { program := "ytaejgmdeiemhcaa", sum := "d666135ab148a69079b62361a4b6c67abe18853b6ba808f3ab12d8667223ade4", func := "loop.example/g01119/laws.FnExactWholeGroupOrder", spec := "fnExactWholeGroupOrder", unfollowed := true, recurses := true, plainKeys := false, apart := false, narrowed := true }
def FnExactWholeGroupOrderUptoSaid : Prop := fnExactWholeGroupOrderUptoRow.holds Try.pinned (OpenSpec.upto fnExactWholeGroupOrderSpec)

/-- 'laws.FnExactOrbitsOfSolution', WHERE WHAT IT READS IS OF BULK AT MOST 1048576: true; the input reads as it did. -/
def fnExactOrbitsOfSolutionUptoRow : OpenClaim := { program := "ytaejgmdeiemhcaa", sum := "d666135ab148a69079b62361a4b6c67abe18853b6ba808f3ab12d8667223ade4", func := "loop.example/g01119/laws.FnExactOrbitsOfSolution", spec := "fnExactOrbitsOfSolution", plainKeys := false, apart := false, narrowed := true }
def FnExactOrbitsOfSolutionUptoSaid : Prop := fnExactOrbitsOfSolutionUptoRow.holds Try.pinned (OpenSpec.upto fnExactOrbitsOfSolutionSpec)

/-- 'laws.FnExactIsIndecomposable', WHERE WHAT IT READS IS OF BULK AT MOST 1048576: true; the input reads as it did. -/
def fnExactIsIndecomposableUptoRow : OpenClaim := { program := "ytaejgmdeiemhcaa", sum := "d666135ab148a69079b62361a4b6c67abe18853b6ba808f3ab12d8667223ade4", func := "loop.example/g01119/laws.FnExactIsIndecomposable", spec := "fnExactIsIndecomposable", plainKeys := false, apart := false, narrowed := true }
def FnExactIsIndecomposableUptoSaid : Prop := fnExactIsIndecomposableUptoRow.holds Try.pinned (OpenSpec.upto fnExactIsIndecomposableSpec)

/-- 'laws.FnExactIsAbelianLeft', WHERE WHAT IT READS IS OF BULK AT MOST 1048576: true; the input reads as it did. -/
def fnExactIsAbelianLeftUptoRow : OpenClaim := { program := "ytaejgmdeiemhcaa", sum := "d666135ab148a69079b62361a4b6c67abe18853b6ba808f3ab12d8667223ade4", func := "loop.example/g01119/laws.FnExactIsAbelianLeft", spec := "fnExactIsAbelianLeft", plainKeys := false, apart := false, narrowed := true }
def FnExactIsAbelianLeftUptoSaid : Prop := fnExactIsAbelianLeftUptoRow.holds Try.pinned (OpenSpec.upto fnExactIsAbelianLeftSpec)

/-- 'laws.FnExactFixedElements', WHERE WHAT IT READS IS OF BULK AT MOST 1048576: true; the input reads as it did. -/
def fnExactFixedElementsUptoRow : OpenClaim := { program := "ytaejgmdeiemhcaa", sum := "d666135ab148a69079b62361a4b6c67abe18853b6ba808f3ab12d8667223ade4", func := "loop.example/g01119/laws.FnExactFixedElements", spec := "fnExactFixedElements", unfollowed := true, recurses := true, plainKeys := false, apart := false, narrowed := true }
def FnExactFixedElementsUptoSaid : Prop := fnExactFixedElementsUptoRow.holds Try.pinned (OpenSpec.upto fnExactFixedElementsSpec)

/-- 'laws.FnExactDecompositionOf', WHERE WHAT IT READS IS OF BULK AT MOST 1048576: true; the input reads as it did. -/
def fnExactDecompositionOfUptoRow : OpenClaim := { program := "ytaejgmdeiemhcaa", sum := "d666135ab148a69079b62361a4b6c67abe18853b6ba808f3ab12d8667223ade4", func := "loop.example/g01119/laws.FnExactDecompositionOf", spec := "fnExactDecompositionOf", plainKeys := false, apart := false, narrowed := true }
def FnExactDecompositionOfUptoSaid : Prop := fnExactDecompositionOfUptoRow.holds Try.pinned (OpenSpec.upto fnExactDecompositionOfSpec)

/-- 'laws.FnExactOrbitSolutions', WHERE WHAT IT READS IS OF BULK AT MOST 1048576: true; the input reads as it did. -/
def fnExactOrbitSolutionsUptoRow : OpenClaim := { program := "ytaejgmdeiemhcaa", sum := "d666135ab148a69079b62361a4b6c67abe18853b6ba808f3ab12d8667223ade4", func := "loop.example/g01119/laws.FnExactOrbitSolutions", spec := "fnExactOrbitSolutions", unfollowed := true, recurses := true, plainKeys := false, apart := false, narrowed := true }
def FnExactOrbitSolutionsUptoSaid : Prop := fnExactOrbitSolutionsUptoRow.holds Try.pinned (OpenSpec.upto fnExactOrbitSolutionsSpec)

end Rows
end Go.Proofs.Ytaejgmdeiemhcaa
