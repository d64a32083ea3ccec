/-
  No cell of these rows narrows 'for every input' (looked for: loops, veiled, ifaces, maps, wideKeys, modest, calm, conditions, laid).
  DERIVED. THE GIVEN ROWS OF THIS SEAT. 12 by the template 'for every input the law returns true; each argument reads behind the call as it read before'; 0 by the template 'total and deterministic' (their statements: YtocdcibfbecdgaaTotals.lean).
  GIVEN WITH THE SEED: the statements are not yours to turn. If you find one false, say at which input.
  Laid BY PROGRAM, IN A SANDBOX (cutbox-rows.mjs): the forced cells as the released guide's own fill.sh prints them over the translation 77dd27c2a498123c… (all of the seat's roots in one cut). By AI agents, Wed Nov 11 2026. No macro, syntax, notation, axiom, sorry.
-/
import Derived.Test.YtocdcibfbecdgaaChecked
import GoSem.Claim
import GoSem.ClaimJoined
import GoSem.ClaimMapViews
import Derived.JoinedTies
import Derived.KernelRfl
namespace Go.Proofs.Ytocdcibfbecdgaa
/- THE CELL 'sum', in the pinned program and in every row, IS THE sha256 OF THE DUMP (.gsa) THAT YtocdcibfbecdgaaProg.lean LOADS. Nothing in Lean hashes anything: it is a label: what it is worth is what the hold of that sum in a sandbox is worth. -/
noncomputable def Try.pinned : Pinned := { name := "ytocdcibfbecdgaa", sum := "77dd27c2a498123ceb070a7d5cb2516f0ead451bd03ad11b37316d1096c8ccdd", checked := Try.checked }
namespace Rows
def none {H : Type} : Left H := { results := [], args := [] }

/-- 'laws.FnExactIsPairMap': WHATEVER THE INPUT: true; the input reads as it did. -/
def fnExactIsPairMapSpec : ChangeSpec := { name := "fnExactIsPairMap", fn := fun _ => fun
  | [d] => { results := [.lit (.bool true)], args := [d] }
  | _ => none }
def fnExactIsPairMapRow : OpenClaim := { program := "ytocdcibfbecdgaa", sum := "77dd27c2a498123ceb070a7d5cb2516f0ead451bd03ad11b37316d1096c8ccdd", func := "loop.example/g01119/laws.FnExactIsPairMap", spec := "fnExactIsPairMap", plainKeys := false, apart := false }
def FnExactIsPairMapSaid : Prop := fnExactIsPairMapRow.holds Try.pinned (OpenSpec.ofChange fnExactIsPairMapSpec)

/-- ITS FALSE NEIGHBOUR: 'it returns false'. Refute it at one input. -/
def fnExactIsPairMapWrong : ChangeSpec := { name := "fnExactIsPairMap", fn := fun _ => fun
  | [d] => { results := [.lit (.bool false)], args := [d] }
  | _ => none }
def FnExactIsPairMapWrongFalsely : Prop := fnExactIsPairMapRow.holds Try.pinned (OpenSpec.ofChange fnExactIsPairMapWrong)

/-- 'laws.FnExactApplyPair': WHATEVER THE INPUT: true; the input reads as it did. -/
def fnExactApplyPairSpec : ChangeSpec := { name := "fnExactApplyPair", fn := fun _ => fun
  | [d1, d2, d3] => { results := [.lit (.bool true)], args := [d1, d2, d3] }
  | _ => none }
def fnExactApplyPairRow : OpenClaim := { program := "ytocdcibfbecdgaa", sum := "77dd27c2a498123ceb070a7d5cb2516f0ead451bd03ad11b37316d1096c8ccdd", func := "loop.example/g01119/laws.FnExactApplyPair", spec := "fnExactApplyPair", plainKeys := false, apart := false }
def FnExactApplyPairSaid : Prop := fnExactApplyPairRow.holds Try.pinned (OpenSpec.ofChange fnExactApplyPairSpec)

/-- ITS FALSE NEIGHBOUR: 'it returns false'. Refute it at one input. -/
def fnExactApplyPairWrong : ChangeSpec := { name := "fnExactApplyPair", fn := fun _ => fun
  | [d1, d2, d3] => { results := [.lit (.bool false)], args := [d1, d2, d3] }
  | _ => none }
def FnExactApplyPairWrongFalsely : Prop := fnExactApplyPairRow.holds Try.pinned (OpenSpec.ofChange fnExactApplyPairWrong)

/-- 'laws.FnExactIsSquareFree': WHATEVER THE INPUT: true; the input reads as it did. -/
def fnExactIsSquareFreeSpec : ChangeSpec := { name := "fnExactIsSquareFree", fn := fun _ => fun
  | [d] => { results := [.lit (.bool true)], args := [d] }
  | _ => none }
def fnExactIsSquareFreeRow : OpenClaim := { program := "ytocdcibfbecdgaa", sum := "77dd27c2a498123ceb070a7d5cb2516f0ead451bd03ad11b37316d1096c8ccdd", func := "loop.example/g01119/laws.FnExactIsSquareFree", spec := "fnExactIsSquareFree", plainKeys := false, apart := false }
def FnExactIsSquareFreeSaid : Prop := fnExactIsSquareFreeRow.holds Try.pinned (OpenSpec.ofChange fnExactIsSquareFreeSpec)

/-- ITS FALSE NEIGHBOUR: 'it returns false'. Refute it at one input. -/
def fnExactIsSquareFreeWrong : ChangeSpec := { name := "fnExactIsSquareFree", fn := fun _ => fun
  | [d] => { results := [.lit (.bool false)], args := [d] }
  | _ => none }
def FnExactIsSquareFreeWrongFalsely : Prop := fnExactIsSquareFreeRow.holds Try.pinned (OpenSpec.ofChange fnExactIsSquareFreeWrong)

/-- 'laws.FnExactIsInvolutive': WHATEVER THE INPUT: true; the input reads as it did. -/
def fnExactIsInvolutiveSpec : ChangeSpec := { name := "fnExactIsInvolutive", fn := fun _ => fun
  | [d] => { results := [.lit (.bool true)], args := [d] }
  | _ => none }
def fnExactIsInvolutiveRow : OpenClaim := { program := "ytocdcibfbecdgaa", sum := "77dd27c2a498123ceb070a7d5cb2516f0ead451bd03ad11b37316d1096c8ccdd", func := "loop.example/g01119/laws.FnExactIsInvolutive", spec := "fnExactIsInvolutive", plainKeys := false, apart := false }
def FnExactIsInvolutiveSaid : Prop := fnExactIsInvolutiveRow.holds Try.pinned (OpenSpec.ofChange fnExactIsInvolutiveSpec)

/-- ITS FALSE NEIGHBOUR: 'it returns false'. Refute it at one input. -/
def fnExactIsInvolutiveWrong : ChangeSpec := { name := "fnExactIsInvolutive", fn := fun _ => fun
  | [d] => { results := [.lit (.bool false)], args := [d] }
  | _ => none }
def FnExactIsInvolutiveWrongFalsely : Prop := fnExactIsInvolutiveRow.holds Try.pinned (OpenSpec.ofChange fnExactIsInvolutiveWrong)

/-- 'laws.FnExactIsNondegenerate': WHATEVER THE INPUT: true; the input reads as it did. -/
def fnExactIsNondegenerateSpec : ChangeSpec := { name := "fnExactIsNondegenerate", fn := fun _ => fun
  | [d] => { results := [.lit (.bool true)], args := [d] }
  | _ => none }
def fnExactIsNondegenerateRow : OpenClaim := { program := "ytocdcibfbecdgaa", sum := "77dd27c2a498123ceb070a7d5cb2516f0ead451bd03ad11b37316d1096c8ccdd", func := "loop.example/g01119/laws.FnExactIsNondegenerate", spec := "fnExactIsNondegenerate", plainKeys := false, apart := false }
def FnExactIsNondegenerateSaid : Prop := fnExactIsNondegenerateRow.holds Try.pinned (OpenSpec.ofChange fnExactIsNondegenerateSpec)

/-- ITS FALSE NEIGHBOUR: 'it returns false'. Refute it at one input. -/
def fnExactIsNondegenerateWrong : ChangeSpec := { name := "fnExactIsNondegenerate", fn := fun _ => fun
  | [d] => { results := [.lit (.bool false)], args := [d] }
  | _ => none }
def FnExactIsNondegenerateWrongFalsely : Prop := fnExactIsNondegenerateRow.holds Try.pinned (OpenSpec.ofChange fnExactIsNondegenerateWrong)

/-- 'laws.FnExactIsSolution': WHATEVER THE INPUT: true; the input reads as it did. -/
def fnExactIsSolutionSpec : ChangeSpec := { name := "fnExactIsSolution", fn := fun _ => fun
  | [d] => { results := [.lit (.bool true)], args := [d] }
  | _ => none }
def fnExactIsSolutionRow : OpenClaim := { program := "ytocdcibfbecdgaa", sum := "77dd27c2a498123ceb070a7d5cb2516f0ead451bd03ad11b37316d1096c8ccdd", func := "loop.example/g01119/laws.FnExactIsSolution", spec := "fnExactIsSolution", plainKeys := false, apart := false }
def FnExactIsSolutionSaid : Prop := fnExactIsSolutionRow.holds Try.pinned (OpenSpec.ofChange fnExactIsSolutionSpec)

/-- ITS FALSE NEIGHBOUR: 'it returns false'. Refute it at one input. -/
def fnExactIsSolutionWrong : ChangeSpec := { name := "fnExactIsSolution", fn := fun _ => fun
  | [d] => { results := [.lit (.bool false)], args := [d] }
  | _ => none }
def FnExactIsSolutionWrongFalsely : Prop := fnExactIsSolutionRow.holds Try.pinned (OpenSpec.ofChange fnExactIsSolutionWrong)

/-- 'laws.FnExactEquationFault': WHATEVER THE INPUT: true; the input reads as it did. -/
def fnExactEquationFaultSpec : ChangeSpec := { name := "fnExactEquationFault", fn := fun _ => fun
  | [d] => { results := [.lit (.bool true)], args := [d] }
  | _ => none }
def fnExactEquationFaultRow : OpenClaim := { program := "ytocdcibfbecdgaa", sum := "77dd27c2a498123ceb070a7d5cb2516f0ead451bd03ad11b37316d1096c8ccdd", func := "loop.example/g01119/laws.FnExactEquationFault", spec := "fnExactEquationFault", plainKeys := false, apart := false }
def FnExactEquationFaultSaid : Prop := fnExactEquationFaultRow.holds Try.pinned (OpenSpec.ofChange fnExactEquationFaultSpec)

/-- ITS FALSE NEIGHBOUR: 'it returns false'. Refute it at one input. -/
def fnExactEquationFaultWrong : ChangeSpec := { name := "fnExactEquationFault", fn := fun _ => fun
  | [d] => { results := [.lit (.bool false)], args := [d] }
  | _ => none }
def FnExactEquationFaultWrongFalsely : Prop := fnExactEquationFaultRow.holds Try.pinned (OpenSpec.ofChange fnExactEquationFaultWrong)

/-- 'laws.FnExactCollisionOf': WHATEVER THE INPUT: true; the input reads as it did. -/
def fnExactCollisionOfSpec : ChangeSpec := { name := "fnExactCollisionOf", fn := fun _ => fun
  | [d] => { results := [.lit (.bool true)], args := [d] }
  | _ => none }
def fnExactCollisionOfRow : OpenClaim := { program := "ytocdcibfbecdgaa", sum := "77dd27c2a498123ceb070a7d5cb2516f0ead451bd03ad11b37316d1096c8ccdd", func := "loop.example/g01119/laws.FnExactCollisionOf", spec := "fnExactCollisionOf", plainKeys := false, apart := false }
def FnExactCollisionOfSaid : Prop := fnExactCollisionOfRow.holds Try.pinned (OpenSpec.ofChange fnExactCollisionOfSpec)

/-- ITS FALSE NEIGHBOUR: 'it returns false'. Refute it at one input. -/
def fnExactCollisionOfWrong : ChangeSpec := { name := "fnExactCollisionOf", fn := fun _ => fun
  | [d] => { results := [.lit (.bool false)], args := [d] }
  | _ => none }
def FnExactCollisionOfWrongFalsely : Prop := fnExactCollisionOfRow.holds Try.pinned (OpenSpec.ofChange fnExactCollisionOfWrong)

/-- 'laws.FnExactRenameSolution': WHATEVER THE INPUT: true; the input reads as it did. -/
def fnExactRenameSolutionSpec : ChangeSpec := { name := "fnExactRenameSolution", fn := fun _ => fun
  | [d1, d2] => { results := [.lit (.bool true)], args := [d1, d2] }
  | _ => none }
def fnExactRenameSolutionRow : OpenClaim := { program := "ytocdcibfbecdgaa", sum := "77dd27c2a498123ceb070a7d5cb2516f0ead451bd03ad11b37316d1096c8ccdd", func := "loop.example/g01119/laws.FnExactRenameSolution", spec := "fnExactRenameSolution", plainKeys := false, apart := false }
def FnExactRenameSolutionSaid : Prop := fnExactRenameSolutionRow.holds Try.pinned (OpenSpec.ofChange fnExactRenameSolutionSpec)

/-- ITS FALSE NEIGHBOUR: 'it returns false'. Refute it at one input. -/
def fnExactRenameSolutionWrong : ChangeSpec := { name := "fnExactRenameSolution", fn := fun _ => fun
  | [d1, d2] => { results := [.lit (.bool false)], args := [d1, d2] }
  | _ => none }
def FnExactRenameSolutionWrongFalsely : Prop := fnExactRenameSolutionRow.holds Try.pinned (OpenSpec.ofChange fnExactRenameSolutionWrong)

/-- 'laws.FnExactLeastSolution': WHATEVER THE INPUT: true; the input reads as it did. -/
def fnExactLeastSolutionSpec : ChangeSpec := { name := "fnExactLeastSolution", fn := fun _ => fun
  | [d] => { results := [.lit (.bool true)], args := [d] }
  | _ => none }
def fnExactLeastSolutionRow : OpenClaim := { program := "ytocdcibfbecdgaa", sum := "77dd27c2a498123ceb070a7d5cb2516f0ead451bd03ad11b37316d1096c8ccdd", func := "loop.example/g01119/laws.FnExactLeastSolution", spec := "fnExactLeastSolution", unfollowed := true, recurses := true, plainKeys := false, apart := false }
def FnExactLeastSolutionSaid : Prop := fnExactLeastSolutionRow.holds Try.pinned (OpenSpec.ofChange fnExactLeastSolutionSpec)

/-- ITS FALSE NEIGHBOUR: 'it returns false'. Refute it at one input. -/
def fnExactLeastSolutionWrong : ChangeSpec := { name := "fnExactLeastSolution", fn := fun _ => fun
  | [d] => { results := [.lit (.bool false)], args := [d] }
  | _ => none }
def FnExactLeastSolutionWrongFalsely : Prop := fnExactLeastSolutionRow.holds Try.pinned (OpenSpec.ofChange fnExactLeastSolutionWrong)

/-- 'laws.FnExactSolutionText': WHATEVER THE INPUT: true; the input reads as it did. -/
def fnExactSolutionTextSpec : ChangeSpec := { name := "fnExactSolutionText", fn := fun _ => fun
  | [d] => { results := [.lit (.bool true)], args := [d] }
  | _ => none }
def fnExactSolutionTextRow : OpenClaim := { program := "ytocdcibfbecdgaa", sum := "77dd27c2a498123ceb070a7d5cb2516f0ead451bd03ad11b37316d1096c8ccdd", func := "loop.example/g01119/laws.FnExactSolutionText", spec := "fnExactSolutionText", inPlace := ["internal/abi.NoEscape", "internal/bytealg.MakeNoZero"], plainKeys := false, apart := false }
def FnExactSolutionTextSaid : Prop := fnExactSolutionTextRow.holds Try.pinned (OpenSpec.ofChange fnExactSolutionTextSpec)

/-- ITS FALSE NEIGHBOUR: 'it returns false'. Refute it at one input. -/
def fnExactSolutionTextWrong : ChangeSpec := { name := "fnExactSolutionText", fn := fun _ => fun
  | [d] => { results := [.lit (.bool false)], args := [d] }
  | _ => none }
def FnExactSolutionTextWrongFalsely : Prop := fnExactSolutionTextRow.holds Try.pinned (OpenSpec.ofChange fnExactSolutionTextWrong)

/-- 'laws.FnExactIsClosedSet': WHATEVER THE INPUT: true; the input reads as it did. -/
def fnExactIsClosedSetSpec : ChangeSpec := { name := "fnExactIsClosedSet", fn := fun _ => fun
  | [d1, d2] => { results := [.lit (.bool true)], args := [d1, d2] }
  | _ => none }
def fnExactIsClosedSetRow : OpenClaim := { program := "ytocdcibfbecdgaa", sum := "77dd27c2a498123ceb070a7d5cb2516f0ead451bd03ad11b37316d1096c8ccdd", func := "loop.example/g01119/laws.FnExactIsClosedSet", spec := "fnExactIsClosedSet", plainKeys := false, apart := false }
def FnExactIsClosedSetSaid : Prop := fnExactIsClosedSetRow.holds Try.pinned (OpenSpec.ofChange fnExactIsClosedSetSpec)

/-- ITS FALSE NEIGHBOUR: 'it returns false'. Refute it at one input. -/
def fnExactIsClosedSetWrong : ChangeSpec := { name := "fnExactIsClosedSet", fn := fun _ => fun
  | [d1, d2] => { results := [.lit (.bool false)], args := [d1, d2] }
  | _ => none }
def FnExactIsClosedSetWrongFalsely : Prop := fnExactIsClosedSetRow.holds Try.pinned (OpenSpec.ofChange fnExactIsClosedSetWrong)

/- THE SECOND FORM. 'bulk': how many values and letters a reading holds, each counted each time it is reached (what is shared counts as often as it is met; a slice's spare places count too). A statement '..UptoSaid' is the law's where the arguments, and the package variables that the reading takes, are together of bulk at most 1048576: NARROWER than '..Said'. Prove '..Said' where nothing that the law and all that it calls make is longer than what came in: it says more and counts as full. Else prove '..UptoSaid'. A law counts once. -/
mutual
def uptoBulk {H : Type} : DataW H → Nat
  | .lit (.string bytes) => bytes.length + 1
  | .lit _ => 1
  | .nil => 1
  | .ptr d => uptoBulk d + 1
  | .slice elems spare => uptoBulkAll elems + uptoBulkAll spare + 1
  | .agg parts => uptoBulkAll parts + 1
  | .iface _ d => uptoBulk d + 1
  | .map entries => uptoBulkEntries entries + 1
  | .held _ => 1
def uptoBulkAll {H : Type} : List (DataW H) → Nat
  | [] => 0
  | d :: r => uptoBulk d + uptoBulkAll r
def uptoBulkEntries {H : Type} : List (Lit × DataW H) → Nat
  | [] => 0
  | x :: r => uptoBulkEntry x + uptoBulkEntries r
def uptoBulkEntry {H : Type} : Lit × DataW H → Nat
  | (.string bytes, d) => bytes.length + uptoBulk d + 1
  | (_, d) => uptoBulk d + 1
 end
def uptoSmall : (H : Type) → List (DataW H) → Bool := fun _ ds => decide (uptoBulkAll ds ≤ 1048576)
def OpenSpec.upto (s : _root_.Go.ChangeSpec) : _root_.Go.OpenSpec := { _root_.Go.OpenSpec.ofChange s with cond := some uptoSmall }

/-- 'laws.FnExactIsPairMap', WHERE WHAT IT READS IS OF BULK AT MOST 1048576: true; the input reads as it did. -/
def fnExactIsPairMapUptoRow : OpenClaim := { program := "ytocdcibfbecdgaa", sum := "77dd27c2a498123ceb070a7d5cb2516f0ead451bd03ad11b37316d1096c8ccdd", func := "loop.example/g01119/laws.FnExactIsPairMap", spec := "fnExactIsPairMap", plainKeys := false, apart := false, narrowed := true }
def FnExactIsPairMapUptoSaid : Prop := fnExactIsPairMapUptoRow.holds Try.pinned (OpenSpec.upto fnExactIsPairMapSpec)

/-- 'laws.FnExactApplyPair', WHERE WHAT IT READS IS OF BULK AT MOST 1048576: true; the input reads as it did. -/
def fnExactApplyPairUptoRow : OpenClaim := { program := "ytocdcibfbecdgaa", sum := "77dd27c2a498123ceb070a7d5cb2516f0ead451bd03ad11b37316d1096c8ccdd", func := "loop.example/g01119/laws.FnExactApplyPair", spec := "fnExactApplyPair", plainKeys := false, apart := false, narrowed := true }
def FnExactApplyPairUptoSaid : Prop := fnExactApplyPairUptoRow.holds Try.pinned (OpenSpec.upto fnExactApplyPairSpec)

/-- 'laws.FnExactIsSquareFree', WHERE WHAT IT READS IS OF BULK AT MOST 1048576: true; the input reads as it did. -/
def fnExactIsSquareFreeUptoRow : OpenClaim := { program := "ytocdcibfbecdgaa", sum := "77dd27c2a498123ceb070a7d5cb2516f0ead451bd03ad11b37316d1096c8ccdd", func := "loop.example/g01119/laws.FnExactIsSquareFree", spec := "fnExactIsSquareFree", plainKeys := false, apart := false, narrowed := true }
def FnExactIsSquareFreeUptoSaid : Prop := fnExactIsSquareFreeUptoRow.holds Try.pinned (OpenSpec.upto fnExactIsSquareFreeSpec)

/-- 'laws.FnExactIsInvolutive', WHERE WHAT IT READS IS OF BULK AT MOST 1048576: true; the input reads as it did. -/
def fnExactIsInvolutiveUptoRow : OpenClaim := { program := "ytocdcibfbecdgaa", sum := "77dd27c2a498123ceb070a7d5cb2516f0ead451bd03ad11b37316d1096c8ccdd", func := "loop.example/g01119/laws.FnExactIsInvolutive", spec := "fnExactIsInvolutive", plainKeys := false, apart := false, narrowed := true }
def FnExactIsInvolutiveUptoSaid : Prop := fnExactIsInvolutiveUptoRow.holds Try.pinned (OpenSpec.upto fnExactIsInvolutiveSpec)

/-- 'laws.FnExactIsNondegenerate', WHERE WHAT IT READS IS OF BULK AT MOST 1048576: true; the input reads as it did. -/
def fnExactIsNondegenerateUptoRow : OpenClaim := { program := "ytocdcibfbecdgaa", sum := "77dd27c2a498123ceb070a7d5cb2516f0ead451bd03ad11b37316d1096c8ccdd", func := "loop.example/g01119/laws.FnExactIsNondegenerate", spec := "fnExactIsNondegenerate", plainKeys := false, apart := false, narrowed := true }
def FnExactIsNondegenerateUptoSaid : Prop := fnExactIsNondegenerateUptoRow.holds Try.pinned (OpenSpec.upto fnExactIsNondegenerateSpec)

/-- 'laws.FnExactIsSolution', WHERE WHAT IT READS IS OF BULK AT MOST 1048576: true; the input reads as it did. -/
def fnExactIsSolutionUptoRow : OpenClaim := { program := "ytocdcibfbecdgaa", sum := "77dd27c2a498123ceb070a7d5cb2516f0ead451bd03ad11b37316d1096c8ccdd", func := "loop.example/g01119/laws.FnExactIsSolution", spec := "fnExactIsSolution", plainKeys := false, apart := false, narrowed := true }
def FnExactIsSolutionUptoSaid : Prop := fnExactIsSolutionUptoRow.holds Try.pinned (OpenSpec.upto fnExactIsSolutionSpec)

/-- 'laws.FnExactEquationFault', WHERE WHAT IT READS IS OF BULK AT MOST 1048576: true; the input reads as it did. -/
def fnExactEquationFaultUptoRow : OpenClaim := { program := "ytocdcibfbecdgaa", sum := "77dd27c2a498123ceb070a7d5cb2516f0ead451bd03ad11b37316d1096c8ccdd", func := "loop.example/g01119/laws.FnExactEquationFault", spec := "fnExactEquationFault", plainKeys := false, apart := false, narrowed := true }
def FnExactEquationFaultUptoSaid : Prop := fnExactEquationFaultUptoRow.holds Try.pinned (OpenSpec.upto fnExactEquationFaultSpec)

/-- 'laws.FnExactCollisionOf', WHERE WHAT IT READS IS OF BULK AT MOST 1048576: true; the input reads as it did. -/
def fnExactCollisionOfUptoRow : OpenClaim := { program := "ytocdcibfbecdgaa", sum := "77dd27c2a498123ceb070a7d5cb2516f0ead451bd03ad11b37316d1096c8ccdd", func := "loop.example/g01119/laws.FnExactCollisionOf", spec := "fnExactCollisionOf", plainKeys := false, apart := false, narrowed := true }
def FnExactCollisionOfUptoSaid : Prop := fnExactCollisionOfUptoRow.holds Try.pinned (OpenSpec.upto fnExactCollisionOfSpec)

/-- 'laws.FnExactRenameSolution', WHERE WHAT IT READS IS OF BULK AT MOST 1048576: true; the input reads as it did. -/
def fnExactRenameSolutionUptoRow : OpenClaim := { program := "ytocdcibfbecdgaa", sum := "77dd27c2a498123ceb070a7d5cb2516f0ead451bd03ad11b37316d1096c8ccdd", func := "loop.example/g01119/laws.FnExactRenameSolution", spec := "fnExactRenameSolution", plainKeys := false, apart := false, narrowed := true }
def FnExactRenameSolutionUptoSaid : Prop := fnExactRenameSolutionUptoRow.holds Try.pinned (OpenSpec.upto fnExactRenameSolutionSpec)

/-- 'laws.FnExactLeastSolution', WHERE WHAT IT READS IS OF BULK AT MOST 1048576: true; the input reads as it did. -/
def fnExactLeastSolutionUptoRow : OpenClaim := { program := "ytocdcibfbecdgaa", sum := "77dd27c2a498123ceb070a7d5cb2516f0ead451bd03ad11b37316d1096c8ccdd", func := "loop.example/g01119/laws.FnExactLeastSolution", spec := "fnExactLeastSolution", unfollowed := true, recurses := true, plainKeys := false, apart := false, narrowed := true }
def FnExactLeastSolutionUptoSaid : Prop := fnExactLeastSolutionUptoRow.holds Try.pinned (OpenSpec.upto fnExactLeastSolutionSpec)

/-- 'laws.FnExactSolutionText', WHERE WHAT IT READS IS OF BULK AT MOST 1048576: true; the input reads as it did. -/
def fnExactSolutionTextUptoRow : OpenClaim := { program := "ytocdcibfbecdgaa", sum := "77dd27c2a498123ceb070a7d5cb2516f0ead451bd03ad11b37316d1096c8ccdd", func := "loop.example/g01119/laws.FnExactSolutionText", spec := "fnExactSolutionText", inPlace := ["internal/abi.NoEscape", "internal/bytealg.MakeNoZero"], plainKeys := false, apart := false, narrowed := true }
def FnExactSolutionTextUptoSaid : Prop := fnExactSolutionTextUptoRow.holds Try.pinned (OpenSpec.upto fnExactSolutionTextSpec)

/-- 'laws.FnExactIsClosedSet', WHERE WHAT IT READS IS OF BULK AT MOST 1048576: true; the input reads as it did. -/
def fnExactIsClosedSetUptoRow : OpenClaim := { program := "ytocdcibfbecdgaa", sum := "77dd27c2a498123ceb070a7d5cb2516f0ead451bd03ad11b37316d1096c8ccdd", func := "loop.example/g01119/laws.FnExactIsClosedSet", spec := "fnExactIsClosedSet", plainKeys := false, apart := false, narrowed := true }
def FnExactIsClosedSetUptoSaid : Prop := fnExactIsClosedSetUptoRow.holds Try.pinned (OpenSpec.upto fnExactIsClosedSetSpec)

end Rows
end Go.Proofs.Ytocdcibfbecdgaa
