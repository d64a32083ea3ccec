/-
  No cell of these rows narrows 'for every input' (looked for: loops, veiled, ifaces, maps, wideKeys, modest, calm, conditions, laid).
  DERIVED. THE GIVEN ROWS OF THIS SEAT. 12 by the template 'for every input the law returns true; each argument reads behind the call as it read before'; 0 by the template 'total and deterministic' (their statements: YtcmoeapgpljeiaaTotals.lean).
  GIVEN WITH THE SEED: the statements are not yours to turn. If you find one false, say at which input.
  Laid BY PROGRAM, IN A SANDBOX (cutbox-rows.mjs): the forced cells as the released guide's own fill.sh prints them over the translation e109d9db6baa586c… (all of the seat's roots in one cut). By AI agents, Wed Nov 11 2026. No macro, syntax, notation, axiom, sorry.
-/
import Derived.Test.YtcmoeapgpljeiaaChecked
import GoSem.Claim
import GoSem.ClaimJoined
import GoSem.ClaimMapViews
import Derived.JoinedTies
import Derived.KernelRfl
namespace Go.Proofs.Ytcmoeapgpljeiaa
/- THE CELL 'sum', in the pinned program and in every row, IS THE sha256 OF THE DUMP (.gsa) THAT YtcmoeapgpljeiaaProg.lean LOADS. Nothing in Lean hashes anything: it is a label: what it is worth is what the hold of that sum in a sandbox is worth. -/
noncomputable def Try.pinned : Pinned := { name := "ytcmoeapgpljeiaa", sum := "e109d9db6baa586c342d22a39fdb1fa338330019475de07493e04493fd6f6236", checked := Try.checked }
namespace Rows
def none {H : Type} : Left H := { results := [], args := [] }

/-- 'laws.FnExactIsClosedSet': WHATEVER THE INPUT: true; the input reads as it did. -/
def fnExactIsClosedSetSpec : ChangeSpec := { name := "fnExactIsClosedSet", fn := fun _ => fun
  | [d1, d2] => { results := [.lit (.bool true)], args := [d1, d2] }
  | _ => none }
def fnExactIsClosedSetRow : OpenClaim := { program := "ytcmoeapgpljeiaa", sum := "e109d9db6baa586c342d22a39fdb1fa338330019475de07493e04493fd6f6236", func := "loop.example/g01119/laws.FnExactIsClosedSet", spec := "fnExactIsClosedSet", plainKeys := false, apart := false }
def FnExactIsClosedSetSaid : Prop := fnExactIsClosedSetRow.holds Try.pinned (OpenSpec.ofChange fnExactIsClosedSetSpec)

/-- ITS FALSE NEIGHBOUR: 'it returns false'. Refute it at one input. -/
def fnExactIsClosedSetWrong : ChangeSpec := { name := "fnExactIsClosedSet", fn := fun _ => fun
  | [d1, d2] => { results := [.lit (.bool false)], args := [d1, d2] }
  | _ => none }
def FnExactIsClosedSetWrongFalsely : Prop := fnExactIsClosedSetRow.holds Try.pinned (OpenSpec.ofChange fnExactIsClosedSetWrong)

/-- 'laws.FnExactRenameSolution': WHATEVER THE INPUT: true; the input reads as it did. -/
def fnExactRenameSolutionSpec : ChangeSpec := { name := "fnExactRenameSolution", fn := fun _ => fun
  | [d1, d2] => { results := [.lit (.bool true)], args := [d1, d2] }
  | _ => none }
def fnExactRenameSolutionRow : OpenClaim := { program := "ytcmoeapgpljeiaa", sum := "e109d9db6baa586c342d22a39fdb1fa338330019475de07493e04493fd6f6236", func := "loop.example/g01119/laws.FnExactRenameSolution", spec := "fnExactRenameSolution", plainKeys := false, apart := false }
def FnExactRenameSolutionSaid : Prop := fnExactRenameSolutionRow.holds Try.pinned (OpenSpec.ofChange fnExactRenameSolutionSpec)

/-- ITS FALSE NEIGHBOUR: 'it returns false'. Refute it at one input. -/
def fnExactRenameSolutionWrong : ChangeSpec := { name := "fnExactRenameSolution", fn := fun _ => fun
  | [d1, d2] => { results := [.lit (.bool false)], args := [d1, d2] }
  | _ => none }
def FnExactRenameSolutionWrongFalsely : Prop := fnExactRenameSolutionRow.holds Try.pinned (OpenSpec.ofChange fnExactRenameSolutionWrong)

/-- 'laws.FnExactEquationFault': WHATEVER THE INPUT: true; the input reads as it did. -/
def fnExactEquationFaultSpec : ChangeSpec := { name := "fnExactEquationFault", fn := fun _ => fun
  | [d] => { results := [.lit (.bool true)], args := [d] }
  | _ => none }
def fnExactEquationFaultRow : OpenClaim := { program := "ytcmoeapgpljeiaa", sum := "e109d9db6baa586c342d22a39fdb1fa338330019475de07493e04493fd6f6236", func := "loop.example/g01119/laws.FnExactEquationFault", spec := "fnExactEquationFault", plainKeys := false, apart := false }
def FnExactEquationFaultSaid : Prop := fnExactEquationFaultRow.holds Try.pinned (OpenSpec.ofChange fnExactEquationFaultSpec)

/-- ITS FALSE NEIGHBOUR: 'it returns false'. Refute it at one input. -/
def fnExactEquationFaultWrong : ChangeSpec := { name := "fnExactEquationFault", fn := fun _ => fun
  | [d] => { results := [.lit (.bool false)], args := [d] }
  | _ => none }
def FnExactEquationFaultWrongFalsely : Prop := fnExactEquationFaultRow.holds Try.pinned (OpenSpec.ofChange fnExactEquationFaultWrong)

/-- 'laws.FnExactProductSolution': WHATEVER THE INPUT: true; the input reads as it did. -/
def fnExactProductSolutionSpec : ChangeSpec := { name := "fnExactProductSolution", fn := fun _ => fun
  | [d1, d2] => { results := [.lit (.bool true)], args := [d1, d2] }
  | _ => none }
def fnExactProductSolutionRow : OpenClaim := { program := "ytcmoeapgpljeiaa", sum := "e109d9db6baa586c342d22a39fdb1fa338330019475de07493e04493fd6f6236", func := "loop.example/g01119/laws.FnExactProductSolution", spec := "fnExactProductSolution", unfollowed := true, recurses := true, plainKeys := false, apart := false }
def FnExactProductSolutionSaid : Prop := fnExactProductSolutionRow.holds Try.pinned (OpenSpec.ofChange fnExactProductSolutionSpec)

/-- ITS FALSE NEIGHBOUR: 'it returns false'. Refute it at one input. -/
def fnExactProductSolutionWrong : ChangeSpec := { name := "fnExactProductSolution", fn := fun _ => fun
  | [d1, d2] => { results := [.lit (.bool false)], args := [d1, d2] }
  | _ => none }
def FnExactProductSolutionWrongFalsely : Prop := fnExactProductSolutionRow.holds Try.pinned (OpenSpec.ofChange fnExactProductSolutionWrong)

/-- 'laws.FnExactUnionSolution': WHATEVER THE INPUT: true; the input reads as it did. -/
def fnExactUnionSolutionSpec : ChangeSpec := { name := "fnExactUnionSolution", fn := fun _ => fun
  | [d1, d2] => { results := [.lit (.bool true)], args := [d1, d2] }
  | _ => none }
def fnExactUnionSolutionRow : OpenClaim := { program := "ytcmoeapgpljeiaa", sum := "e109d9db6baa586c342d22a39fdb1fa338330019475de07493e04493fd6f6236", func := "loop.example/g01119/laws.FnExactUnionSolution", spec := "fnExactUnionSolution", unfollowed := true, recurses := true, plainKeys := false, apart := false }
def FnExactUnionSolutionSaid : Prop := fnExactUnionSolutionRow.holds Try.pinned (OpenSpec.ofChange fnExactUnionSolutionSpec)

/-- ITS FALSE NEIGHBOUR: 'it returns false'. Refute it at one input. -/
def fnExactUnionSolutionWrong : ChangeSpec := { name := "fnExactUnionSolution", fn := fun _ => fun
  | [d1, d2] => { results := [.lit (.bool false)], args := [d1, d2] }
  | _ => none }
def FnExactUnionSolutionWrongFalsely : Prop := fnExactUnionSolutionRow.holds Try.pinned (OpenSpec.ofChange fnExactUnionSolutionWrong)

/-- 'laws.FnExactSubSolution': WHATEVER THE INPUT: true; the input reads as it did. -/
def fnExactSubSolutionSpec : ChangeSpec := { name := "fnExactSubSolution", fn := fun _ => fun
  | [d1, d2] => { results := [.lit (.bool true)], args := [d1, d2] }
  | _ => none }
def fnExactSubSolutionRow : OpenClaim := { program := "ytcmoeapgpljeiaa", sum := "e109d9db6baa586c342d22a39fdb1fa338330019475de07493e04493fd6f6236", func := "loop.example/g01119/laws.FnExactSubSolution", spec := "fnExactSubSolution", unfollowed := true, recurses := true, plainKeys := false, apart := false }
def FnExactSubSolutionSaid : Prop := fnExactSubSolutionRow.holds Try.pinned (OpenSpec.ofChange fnExactSubSolutionSpec)

/-- ITS FALSE NEIGHBOUR: 'it returns false'. Refute it at one input. -/
def fnExactSubSolutionWrong : ChangeSpec := { name := "fnExactSubSolution", fn := fun _ => fun
  | [d1, d2] => { results := [.lit (.bool false)], args := [d1, d2] }
  | _ => none }
def FnExactSubSolutionWrongFalsely : Prop := fnExactSubSolutionRow.holds Try.pinned (OpenSpec.ofChange fnExactSubSolutionWrong)

/-- 'laws.FnExactSolutionText': WHATEVER THE INPUT: true; the input reads as it did. -/
def fnExactSolutionTextSpec : ChangeSpec := { name := "fnExactSolutionText", fn := fun _ => fun
  | [d] => { results := [.lit (.bool true)], args := [d] }
  | _ => none }
def fnExactSolutionTextRow : OpenClaim := { program := "ytcmoeapgpljeiaa", sum := "e109d9db6baa586c342d22a39fdb1fa338330019475de07493e04493fd6f6236", func := "loop.example/g01119/laws.FnExactSolutionText", spec := "fnExactSolutionText", inPlace := ["internal/abi.NoEscape", "internal/bytealg.MakeNoZero"], plainKeys := false, apart := false }
def FnExactSolutionTextSaid : Prop := fnExactSolutionTextRow.holds Try.pinned (OpenSpec.ofChange fnExactSolutionTextSpec)

/-- ITS FALSE NEIGHBOUR: 'it returns false'. Refute it at one input. -/
def fnExactSolutionTextWrong : ChangeSpec := { name := "fnExactSolutionText", fn := fun _ => fun
  | [d] => { results := [.lit (.bool false)], args := [d] }
  | _ => none }
def FnExactSolutionTextWrongFalsely : Prop := fnExactSolutionTextRow.holds Try.pinned (OpenSpec.ofChange fnExactSolutionTextWrong)

/-- 'laws.FnExactLeastSolution': WHATEVER THE INPUT: true; the input reads as it did. -/
def fnExactLeastSolutionSpec : ChangeSpec := { name := "fnExactLeastSolution", fn := fun _ => fun
  | [d] => { results := [.lit (.bool true)], args := [d] }
  | _ => none }
def fnExactLeastSolutionRow : OpenClaim := { program := "ytcmoeapgpljeiaa", sum := "e109d9db6baa586c342d22a39fdb1fa338330019475de07493e04493fd6f6236", func := "loop.example/g01119/laws.FnExactLeastSolution", spec := "fnExactLeastSolution", unfollowed := true, recurses := true, plainKeys := false, apart := false }
def FnExactLeastSolutionSaid : Prop := fnExactLeastSolutionRow.holds Try.pinned (OpenSpec.ofChange fnExactLeastSolutionSpec)

/-- ITS FALSE NEIGHBOUR: 'it returns false'. Refute it at one input. -/
def fnExactLeastSolutionWrong : ChangeSpec := { name := "fnExactLeastSolution", fn := fun _ => fun
  | [d] => { results := [.lit (.bool false)], args := [d] }
  | _ => none }
def FnExactLeastSolutionWrongFalsely : Prop := fnExactLeastSolutionRow.holds Try.pinned (OpenSpec.ofChange fnExactLeastSolutionWrong)

/-- 'laws.FnExactCollisionOf': WHATEVER THE INPUT: true; the input reads as it did. -/
def fnExactCollisionOfSpec : ChangeSpec := { name := "fnExactCollisionOf", fn := fun _ => fun
  | [d] => { results := [.lit (.bool true)], args := [d] }
  | _ => none }
def fnExactCollisionOfRow : OpenClaim := { program := "ytcmoeapgpljeiaa", sum := "e109d9db6baa586c342d22a39fdb1fa338330019475de07493e04493fd6f6236", func := "loop.example/g01119/laws.FnExactCollisionOf", spec := "fnExactCollisionOf", plainKeys := false, apart := false }
def FnExactCollisionOfSaid : Prop := fnExactCollisionOfRow.holds Try.pinned (OpenSpec.ofChange fnExactCollisionOfSpec)

/-- ITS FALSE NEIGHBOUR: 'it returns false'. Refute it at one input. -/
def fnExactCollisionOfWrong : ChangeSpec := { name := "fnExactCollisionOf", fn := fun _ => fun
  | [d] => { results := [.lit (.bool false)], args := [d] }
  | _ => none }
def FnExactCollisionOfWrongFalsely : Prop := fnExactCollisionOfRow.holds Try.pinned (OpenSpec.ofChange fnExactCollisionOfWrong)

/-- 'laws.FnExactIsSolution': WHATEVER THE INPUT: true; the input reads as it did. -/
def fnExactIsSolutionSpec : ChangeSpec := { name := "fnExactIsSolution", fn := fun _ => fun
  | [d] => { results := [.lit (.bool true)], args := [d] }
  | _ => none }
def fnExactIsSolutionRow : OpenClaim := { program := "ytcmoeapgpljeiaa", sum := "e109d9db6baa586c342d22a39fdb1fa338330019475de07493e04493fd6f6236", func := "loop.example/g01119/laws.FnExactIsSolution", spec := "fnExactIsSolution", plainKeys := false, apart := false }
def FnExactIsSolutionSaid : Prop := fnExactIsSolutionRow.holds Try.pinned (OpenSpec.ofChange fnExactIsSolutionSpec)

/-- ITS FALSE NEIGHBOUR: 'it returns false'. Refute it at one input. -/
def fnExactIsSolutionWrong : ChangeSpec := { name := "fnExactIsSolution", fn := fun _ => fun
  | [d] => { results := [.lit (.bool false)], args := [d] }
  | _ => none }
def FnExactIsSolutionWrongFalsely : Prop := fnExactIsSolutionRow.holds Try.pinned (OpenSpec.ofChange fnExactIsSolutionWrong)

/-- 'laws.FnExactInverseSolution': WHATEVER THE INPUT: true; the input reads as it did. -/
def fnExactInverseSolutionSpec : ChangeSpec := { name := "fnExactInverseSolution", fn := fun _ => fun
  | [d] => { results := [.lit (.bool true)], args := [d] }
  | _ => none }
def fnExactInverseSolutionRow : OpenClaim := { program := "ytcmoeapgpljeiaa", sum := "e109d9db6baa586c342d22a39fdb1fa338330019475de07493e04493fd6f6236", func := "loop.example/g01119/laws.FnExactInverseSolution", spec := "fnExactInverseSolution", unfollowed := true, recurses := true, plainKeys := false, apart := false }
def FnExactInverseSolutionSaid : Prop := fnExactInverseSolutionRow.holds Try.pinned (OpenSpec.ofChange fnExactInverseSolutionSpec)

/-- ITS FALSE NEIGHBOUR: 'it returns false'. Refute it at one input. -/
def fnExactInverseSolutionWrong : ChangeSpec := { name := "fnExactInverseSolution", fn := fun _ => fun
  | [d] => { results := [.lit (.bool false)], args := [d] }
  | _ => none }
def FnExactInverseSolutionWrongFalsely : Prop := fnExactInverseSolutionRow.holds Try.pinned (OpenSpec.ofChange fnExactInverseSolutionWrong)

/-- 'laws.FnExactOrderOfSolution': WHATEVER THE INPUT: true; the input reads as it did. -/
def fnExactOrderOfSolutionSpec : ChangeSpec := { name := "fnExactOrderOfSolution", fn := fun _ => fun
  | [d] => { results := [.lit (.bool true)], args := [d] }
  | _ => none }
def fnExactOrderOfSolutionRow : OpenClaim := { program := "ytcmoeapgpljeiaa", sum := "e109d9db6baa586c342d22a39fdb1fa338330019475de07493e04493fd6f6236", func := "loop.example/g01119/laws.FnExactOrderOfSolution", spec := "fnExactOrderOfSolution", plainKeys := false, apart := false }
def FnExactOrderOfSolutionSaid : Prop := fnExactOrderOfSolutionRow.holds Try.pinned (OpenSpec.ofChange fnExactOrderOfSolutionSpec)

/-- ITS FALSE NEIGHBOUR: 'it returns false'. Refute it at one input. -/
def fnExactOrderOfSolutionWrong : ChangeSpec := { name := "fnExactOrderOfSolution", fn := fun _ => fun
  | [d] => { results := [.lit (.bool false)], args := [d] }
  | _ => none }
def FnExactOrderOfSolutionWrongFalsely : Prop := fnExactOrderOfSolutionRow.holds Try.pinned (OpenSpec.ofChange fnExactOrderOfSolutionWrong)

/- THE SECOND FORM. 'bulk': how many values and letters a reading holds, each counted each time it is reached (what is shared counts as often as it is met; a slice's spare places count too). A statement '..UptoSaid' is the law's where the arguments, and the package variables that the reading takes, are together of bulk at most 1048576: NARROWER than '..Said'. Prove '..Said' where nothing that the law and all that it calls make is longer than what came in: it says more and counts as full. Else prove '..UptoSaid'. A law counts once. -/
mutual
def uptoBulk {H : Type} : DataW H → Nat
  | .lit (.string bytes) => bytes.length + 1
  | .lit _ => 1
  | .nil => 1
  | .ptr d => uptoBulk d + 1
  | .slice elems spare => uptoBulkAll elems + uptoBulkAll spare + 1
  | .agg parts => uptoBulkAll parts + 1
  | .iface _ d => uptoBulk d + 1
  | .map entries => uptoBulkEntries entries + 1
  | .held _ => 1
def uptoBulkAll {H : Type} : List (DataW H) → Nat
  | [] => 0
  | d :: r => uptoBulk d + uptoBulkAll r
def uptoBulkEntries {H : Type} : List (Lit × DataW H) → Nat
  | [] => 0
  | x :: r => uptoBulkEntry x + uptoBulkEntries r
def uptoBulkEntry {H : Type} : Lit × DataW H → Nat
  | (.string bytes, d) => bytes.length + uptoBulk d + 1
  | (_, d) => uptoBulk d + 1
 end
def uptoSmall : (H : Type) → List (DataW H) → Bool := fun _ ds => decide (uptoBulkAll ds ≤ 1048576)
def OpenSpec.upto (s : _root_.Go.ChangeSpec) : _root_.Go.OpenSpec := { _root_.Go.OpenSpec.ofChange s with cond := some uptoSmall }

/-- 'laws.FnExactIsClosedSet', WHERE WHAT IT READS IS OF BULK AT MOST 1048576: true; the input reads as it did. -/
def fnExactIsClosedSetUptoRow : OpenClaim := { program := "ytcmoeapgpljeiaa", sum := "e109d9db6baa586c342d22a39fdb1fa338330019475de07493e04493fd6f6236", func := "loop.example/g01119/laws.FnExactIsClosedSet", spec := "fnExactIsClosedSet", plainKeys := false, apart := false, narrowed := true }
def FnExactIsClosedSetUptoSaid : Prop := fnExactIsClosedSetUptoRow.holds Try.pinned (OpenSpec.upto fnExactIsClosedSetSpec)

/-- 'laws.FnExactRenameSolution', WHERE WHAT IT READS IS OF BULK AT MOST 1048576: true; the input reads as it did. -/
def fnExactRenameSolutionUptoRow : OpenClaim := { program := "ytcmoeapgpljeiaa", sum := "e109d9db6baa586c342d22a39fdb1fa338330019475de07493e04493fd6f6236", func := "loop.example/g01119/laws.FnExactRenameSolution", spec := "fnExactRenameSolution", plainKeys := false, apart := false, narrowed := true }
def FnExactRenameSolutionUptoSaid : Prop := fnExactRenameSolutionUptoRow.holds Try.pinned (OpenSpec.upto fnExactRenameSolutionSpec)

/-- 'laws.FnExactEquationFault', WHERE WHAT IT READS IS OF BULK AT MOST 1048576: true; the input reads as it did. -/
def fnExactEquationFaultUptoRow : OpenClaim := { program := "ytcmoeapgpljeiaa", sum := "e109d9db6baa586c342d22a39fdb1fa338330019475de07493e04493fd6f6236", func := "loop.example/g01119/laws.FnExactEquationFault", spec := "fnExactEquationFault", plainKeys := false, apart := false, narrowed := true }
def FnExactEquationFaultUptoSaid : Prop := fnExactEquationFaultUptoRow.holds Try.pinned (OpenSpec.upto fnExactEquationFaultSpec)

/-- 'laws.FnExactProductSolution', WHERE WHAT IT READS IS OF BULK AT MOST 1048576: true; the input reads as it did. -/
def fnExactProductSolutionUptoRow : OpenClaim := { program := "ytcmoeapgpljeiaa", sum := "e109d9db6baa586c342d22a39fdb1fa338330019475de07493e04493fd6f6236", func := "loop.example/g01119/laws.FnExactProductSolution", spec := "fnExactProductSolution", unfollowed := true, recurses := true, plainKeys := false, apart := false, narrowed := true }
def FnExactProductSolutionUptoSaid : Prop := fnExactProductSolutionUptoRow.holds Try.pinned (OpenSpec.upto fnExactProductSolutionSpec)

/-- 'laws.FnExactUnionSolution', WHERE WHAT IT READS IS OF BULK AT MOST 1048576: true; the input reads as it did. -/
def fnExactUnionSolutionUptoRow : OpenClaim := { program := "ytcmoeapgpljeiaa", sum := "e109d9db6baa586c342d22a39fdb1fa338330019475de07493e04493fd6f6236", func := "loop.example/g01119/laws.FnExactUnionSolution", spec := "fnExactUnionSolution", unfollowed := true, recurses := true, plainKeys := false, apart := false, narrowed := true }
def FnExactUnionSolutionUptoSaid : Prop := fnExactUnionSolutionUptoRow.holds Try.pinned (OpenSpec.upto fnExactUnionSolutionSpec)

/-- 'laws.FnExactSubSolution', WHERE WHAT IT READS IS OF BULK AT MOST 1048576: true; the input reads as it did. -/
def fnExactSubSolutionUptoRow : OpenClaim := { program := "ytcmoeapgpljeiaa", sum := "e109d9db6baa586c342d22a39fdb1fa338330019475de07493e04493fd6f6236", func := "loop.example/g01119/laws.FnExactSubSolution", spec := "fnExactSubSolution", unfollowed := true, recurses := true, plainKeys := false, apart := false, narrowed := true }
def FnExactSubSolutionUptoSaid : Prop := fnExactSubSolutionUptoRow.holds Try.pinned (OpenSpec.upto fnExactSubSolutionSpec)

/-- 'laws.FnExactSolutionText', WHERE WHAT IT READS IS OF BULK AT MOST 1048576: true; the input reads as it did. -/
def fnExactSolutionTextUptoRow : OpenClaim := { program := "ytcmoeapgpljeiaa", sum := "e109d9db6baa586c342d22a39fdb1fa338330019475de07493e04493fd6f6236", func := "loop.example/g01119/laws.FnExactSolutionText", spec := "fnExactSolutionText", inPlace := ["internal/abi.NoEscape", "internal/bytealg.MakeNoZero"], plainKeys := false, apart := false, narrowed := true }
def FnExactSolutionTextUptoSaid : Prop := fnExactSolutionTextUptoRow.holds Try.pinned (OpenSpec.upto fnExactSolutionTextSpec)

/-- 'laws.FnExactLeastSolution', WHERE WHAT IT READS IS OF BULK AT MOST 1048576: true; the input reads as it did. -/
def fnExactLeastSolutionUptoRow : OpenClaim := { program := "ytcmoeapgpljeiaa", sum := "e109d9db6baa586c342d22a39fdb1fa338330019475de07493e04493fd6f6236", func := "loop.example/g01119/laws.FnExactLeastSolution", spec := "fnExactLeastSolution", unfollowed := true, recurses := true, plainKeys := false, apart := false, narrowed := true }
def FnExactLeastSolutionUptoSaid : Prop := fnExactLeastSolutionUptoRow.holds Try.pinned (OpenSpec.upto fnExactLeastSolutionSpec)

/-- 'laws.FnExactCollisionOf', WHERE WHAT IT READS IS OF BULK AT MOST 1048576: true; the input reads as it did. -/
def fnExactCollisionOfUptoRow : OpenClaim := { program := "ytcmoeapgpljeiaa", sum := "e109d9db6baa586c342d22a39fdb1fa338330019475de07493e04493fd6f6236", func := "loop.example/g01119/laws.FnExactCollisionOf", spec := "fnExactCollisionOf", plainKeys := false, apart := false, narrowed := true }
def FnExactCollisionOfUptoSaid : Prop := fnExactCollisionOfUptoRow.holds Try.pinned (OpenSpec.upto fnExactCollisionOfSpec)

/-- 'laws.FnExactIsSolution', WHERE WHAT IT READS IS OF BULK AT MOST 1048576: true; the input reads as it did. -/
def fnExactIsSolutionUptoRow : OpenClaim := { program := "ytcmoeapgpljeiaa", sum := "e109d9db6baa586c342d22a39fdb1fa338330019475de07493e04493fd6f6236", func := "loop.example/g01119/laws.FnExactIsSolution", spec := "fnExactIsSolution", plainKeys := false, apart := false, narrowed := true }
def FnExactIsSolutionUptoSaid : Prop := fnExactIsSolutionUptoRow.holds Try.pinned (OpenSpec.upto fnExactIsSolutionSpec)

/-- 'laws.FnExactInverseSolution', WHERE WHAT IT READS IS OF BULK AT MOST 1048576: true; the input reads as it did. -/
def fnExactInverseSolutionUptoRow : OpenClaim := { program := "ytcmoeapgpljeiaa", sum := "e109d9db6baa586c342d22a39fdb1fa338330019475de07493e04493fd6f6236", func := "loop.example/g01119/laws.FnExactInverseSolution", spec := "fnExactInverseSolution", unfollowed := true, recurses := true, plainKeys := false, apart := false, narrowed := true }
def FnExactInverseSolutionUptoSaid : Prop := fnExactInverseSolutionUptoRow.holds Try.pinned (OpenSpec.upto fnExactInverseSolutionSpec)

/-- 'laws.FnExactOrderOfSolution', WHERE WHAT IT READS IS OF BULK AT MOST 1048576: true; the input reads as it did. -/
def fnExactOrderOfSolutionUptoRow : OpenClaim := { program := "ytcmoeapgpljeiaa", sum := "e109d9db6baa586c342d22a39fdb1fa338330019475de07493e04493fd6f6236", func := "loop.example/g01119/laws.FnExactOrderOfSolution", spec := "fnExactOrderOfSolution", plainKeys := false, apart := false, narrowed := true }
def FnExactOrderOfSolutionUptoSaid : Prop := fnExactOrderOfSolutionUptoRow.holds Try.pinned (OpenSpec.upto fnExactOrderOfSolutionSpec)

end Rows
end Go.Proofs.Ytcmoeapgpljeiaa
