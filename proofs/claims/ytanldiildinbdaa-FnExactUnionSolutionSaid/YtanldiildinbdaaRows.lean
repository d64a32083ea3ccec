/-
  No cell of these rows narrows 'for every input' (looked for: loops, veiled, ifaces, maps, wideKeys, modest, calm, conditions, laid).
  DERIVED. THE GIVEN ROWS OF THIS SEAT. 12 by the template 'for every input the law returns true; each argument reads behind the call as it read before'; 0 by the template 'total and deterministic' (their statements: YtanldiildinbdaaTotals.lean).
  GIVEN WITH THE SEED: the statements are not yours to turn. If you find one false, say at which input.
  Laid BY PROGRAM, IN A SANDBOX (cutbox-rows.mjs): the forced cells as the released guide's own fill.sh prints them over the translation b5002f30bceaba61… (all of the seat's roots in one cut). By AI agents, Wed Nov 11 2026. No macro, syntax, notation, axiom, sorry.
-/
import Derived.Test.YtanldiildinbdaaChecked
import GoSem.Claim
import GoSem.ClaimJoined
import GoSem.ClaimMapViews
import Derived.JoinedTies
import Derived.KernelRfl
namespace Go.Proofs.Ytanldiildinbdaa
/- THE CELL 'sum', in the pinned program and in every row, IS THE sha256 OF THE DUMP (.gsa) THAT YtanldiildinbdaaProg.lean LOADS. Nothing in Lean hashes anything: it is a label: what it is worth is what the hold of that sum in a sandbox is worth. -/
noncomputable def Try.pinned : Pinned := { name := "ytanldiildinbdaa", sum := "b5002f30bceaba61275b172315a364f06e7875252a1042de8fac2100e50ee348", checked := Try.checked }
namespace Rows
def none {H : Type} : Left H := { results := [], args := [] }

/-- 'laws.FnExactIsSolution': WHATEVER THE INPUT: true; the input reads as it did. -/
def fnExactIsSolutionSpec : ChangeSpec := { name := "fnExactIsSolution", fn := fun _ => fun
  | [d] => { results := [.lit (.bool true)], args := [d] }
  | _ => none }
def fnExactIsSolutionRow : OpenClaim := { program := "ytanldiildinbdaa", sum := "b5002f30bceaba61275b172315a364f06e7875252a1042de8fac2100e50ee348", func := "loop.example/g01119/laws.FnExactIsSolution", spec := "fnExactIsSolution", plainKeys := false, apart := false }
def FnExactIsSolutionSaid : Prop := fnExactIsSolutionRow.holds Try.pinned (OpenSpec.ofChange fnExactIsSolutionSpec)

/-- ITS FALSE NEIGHBOUR: 'it returns false'. Refute it at one input. -/
def fnExactIsSolutionWrong : ChangeSpec := { name := "fnExactIsSolution", fn := fun _ => fun
  | [d] => { results := [.lit (.bool false)], args := [d] }
  | _ => none }
def FnExactIsSolutionWrongFalsely : Prop := fnExactIsSolutionRow.holds Try.pinned (OpenSpec.ofChange fnExactIsSolutionWrong)

/-- 'laws.FnExactEquationFault': WHATEVER THE INPUT: true; the input reads as it did. -/
def fnExactEquationFaultSpec : ChangeSpec := { name := "fnExactEquationFault", fn := fun _ => fun
  | [d] => { results := [.lit (.bool true)], args := [d] }
  | _ => none }
def fnExactEquationFaultRow : OpenClaim := { program := "ytanldiildinbdaa", sum := "b5002f30bceaba61275b172315a364f06e7875252a1042de8fac2100e50ee348", func := "loop.example/g01119/laws.FnExactEquationFault", spec := "fnExactEquationFault", plainKeys := false, apart := false }
def FnExactEquationFaultSaid : Prop := fnExactEquationFaultRow.holds Try.pinned (OpenSpec.ofChange fnExactEquationFaultSpec)

/-- ITS FALSE NEIGHBOUR: 'it returns false'. Refute it at one input. -/
def fnExactEquationFaultWrong : ChangeSpec := { name := "fnExactEquationFault", fn := fun _ => fun
  | [d] => { results := [.lit (.bool false)], args := [d] }
  | _ => none }
def FnExactEquationFaultWrongFalsely : Prop := fnExactEquationFaultRow.holds Try.pinned (OpenSpec.ofChange fnExactEquationFaultWrong)

/-- 'laws.FnExactCollisionOf': WHATEVER THE INPUT: true; the input reads as it did. -/
def fnExactCollisionOfSpec : ChangeSpec := { name := "fnExactCollisionOf", fn := fun _ => fun
  | [d] => { results := [.lit (.bool true)], args := [d] }
  | _ => none }
def fnExactCollisionOfRow : OpenClaim := { program := "ytanldiildinbdaa", sum := "b5002f30bceaba61275b172315a364f06e7875252a1042de8fac2100e50ee348", func := "loop.example/g01119/laws.FnExactCollisionOf", spec := "fnExactCollisionOf", plainKeys := false, apart := false }
def FnExactCollisionOfSaid : Prop := fnExactCollisionOfRow.holds Try.pinned (OpenSpec.ofChange fnExactCollisionOfSpec)

/-- ITS FALSE NEIGHBOUR: 'it returns false'. Refute it at one input. -/
def fnExactCollisionOfWrong : ChangeSpec := { name := "fnExactCollisionOf", fn := fun _ => fun
  | [d] => { results := [.lit (.bool false)], args := [d] }
  | _ => none }
def FnExactCollisionOfWrongFalsely : Prop := fnExactCollisionOfRow.holds Try.pinned (OpenSpec.ofChange fnExactCollisionOfWrong)

/-- 'laws.FnExactIsNondegenerate': WHATEVER THE INPUT: true; the input reads as it did. -/
def fnExactIsNondegenerateSpec : ChangeSpec := { name := "fnExactIsNondegenerate", fn := fun _ => fun
  | [d] => { results := [.lit (.bool true)], args := [d] }
  | _ => none }
def fnExactIsNondegenerateRow : OpenClaim := { program := "ytanldiildinbdaa", sum := "b5002f30bceaba61275b172315a364f06e7875252a1042de8fac2100e50ee348", func := "loop.example/g01119/laws.FnExactIsNondegenerate", spec := "fnExactIsNondegenerate", plainKeys := false, apart := false }
def FnExactIsNondegenerateSaid : Prop := fnExactIsNondegenerateRow.holds Try.pinned (OpenSpec.ofChange fnExactIsNondegenerateSpec)

/-- ITS FALSE NEIGHBOUR: 'it returns false'. Refute it at one input. -/
def fnExactIsNondegenerateWrong : ChangeSpec := { name := "fnExactIsNondegenerate", fn := fun _ => fun
  | [d] => { results := [.lit (.bool false)], args := [d] }
  | _ => none }
def FnExactIsNondegenerateWrongFalsely : Prop := fnExactIsNondegenerateRow.holds Try.pinned (OpenSpec.ofChange fnExactIsNondegenerateWrong)

/-- 'laws.FnExactIsInvolutive': WHATEVER THE INPUT: true; the input reads as it did. -/
def fnExactIsInvolutiveSpec : ChangeSpec := { name := "fnExactIsInvolutive", fn := fun _ => fun
  | [d] => { results := [.lit (.bool true)], args := [d] }
  | _ => none }
def fnExactIsInvolutiveRow : OpenClaim := { program := "ytanldiildinbdaa", sum := "b5002f30bceaba61275b172315a364f06e7875252a1042de8fac2100e50ee348", func := "loop.example/g01119/laws.FnExactIsInvolutive", spec := "fnExactIsInvolutive", plainKeys := false, apart := false }
def FnExactIsInvolutiveSaid : Prop := fnExactIsInvolutiveRow.holds Try.pinned (OpenSpec.ofChange fnExactIsInvolutiveSpec)

/-- ITS FALSE NEIGHBOUR: 'it returns false'. Refute it at one input. -/
def fnExactIsInvolutiveWrong : ChangeSpec := { name := "fnExactIsInvolutive", fn := fun _ => fun
  | [d] => { results := [.lit (.bool false)], args := [d] }
  | _ => none }
def FnExactIsInvolutiveWrongFalsely : Prop := fnExactIsInvolutiveRow.holds Try.pinned (OpenSpec.ofChange fnExactIsInvolutiveWrong)

/-- 'laws.FnExactIsSquareFree': WHATEVER THE INPUT: true; the input reads as it did. -/
def fnExactIsSquareFreeSpec : ChangeSpec := { name := "fnExactIsSquareFree", fn := fun _ => fun
  | [d] => { results := [.lit (.bool true)], args := [d] }
  | _ => none }
def fnExactIsSquareFreeRow : OpenClaim := { program := "ytanldiildinbdaa", sum := "b5002f30bceaba61275b172315a364f06e7875252a1042de8fac2100e50ee348", func := "loop.example/g01119/laws.FnExactIsSquareFree", spec := "fnExactIsSquareFree", plainKeys := false, apart := false }
def FnExactIsSquareFreeSaid : Prop := fnExactIsSquareFreeRow.holds Try.pinned (OpenSpec.ofChange fnExactIsSquareFreeSpec)

/-- ITS FALSE NEIGHBOUR: 'it returns false'. Refute it at one input. -/
def fnExactIsSquareFreeWrong : ChangeSpec := { name := "fnExactIsSquareFree", fn := fun _ => fun
  | [d] => { results := [.lit (.bool false)], args := [d] }
  | _ => none }
def FnExactIsSquareFreeWrongFalsely : Prop := fnExactIsSquareFreeRow.holds Try.pinned (OpenSpec.ofChange fnExactIsSquareFreeWrong)

/-- 'laws.FnExactInverseSolution': WHATEVER THE INPUT: true; the input reads as it did. -/
def fnExactInverseSolutionSpec : ChangeSpec := { name := "fnExactInverseSolution", fn := fun _ => fun
  | [d] => { results := [.lit (.bool true)], args := [d] }
  | _ => none }
def fnExactInverseSolutionRow : OpenClaim := { program := "ytanldiildinbdaa", sum := "b5002f30bceaba61275b172315a364f06e7875252a1042de8fac2100e50ee348", func := "loop.example/g01119/laws.FnExactInverseSolution", spec := "fnExactInverseSolution", unfollowed := true, recurses := true, plainKeys := false, apart := false }
def FnExactInverseSolutionSaid : Prop := fnExactInverseSolutionRow.holds Try.pinned (OpenSpec.ofChange fnExactInverseSolutionSpec)

/-- ITS FALSE NEIGHBOUR: 'it returns false'. Refute it at one input. -/
def fnExactInverseSolutionWrong : ChangeSpec := { name := "fnExactInverseSolution", fn := fun _ => fun
  | [d] => { results := [.lit (.bool false)], args := [d] }
  | _ => none }
def FnExactInverseSolutionWrongFalsely : Prop := fnExactInverseSolutionRow.holds Try.pinned (OpenSpec.ofChange fnExactInverseSolutionWrong)

/-- 'laws.FnExactMirrorSolution': WHATEVER THE INPUT: true; the input reads as it did. -/
def fnExactMirrorSolutionSpec : ChangeSpec := { name := "fnExactMirrorSolution", fn := fun _ => fun
  | [d] => { results := [.lit (.bool true)], args := [d] }
  | _ => none }
def fnExactMirrorSolutionRow : OpenClaim := { program := "ytanldiildinbdaa", sum := "b5002f30bceaba61275b172315a364f06e7875252a1042de8fac2100e50ee348", func := "loop.example/g01119/laws.FnExactMirrorSolution", spec := "fnExactMirrorSolution", unfollowed := true, recurses := true, plainKeys := false, apart := false }
def FnExactMirrorSolutionSaid : Prop := fnExactMirrorSolutionRow.holds Try.pinned (OpenSpec.ofChange fnExactMirrorSolutionSpec)

/-- ITS FALSE NEIGHBOUR: 'it returns false'. Refute it at one input. -/
def fnExactMirrorSolutionWrong : ChangeSpec := { name := "fnExactMirrorSolution", fn := fun _ => fun
  | [d] => { results := [.lit (.bool false)], args := [d] }
  | _ => none }
def FnExactMirrorSolutionWrongFalsely : Prop := fnExactMirrorSolutionRow.holds Try.pinned (OpenSpec.ofChange fnExactMirrorSolutionWrong)

/-- 'laws.FnExactProductSolution': WHATEVER THE INPUT: true; the input reads as it did. -/
def fnExactProductSolutionSpec : ChangeSpec := { name := "fnExactProductSolution", fn := fun _ => fun
  | [d1, d2] => { results := [.lit (.bool true)], args := [d1, d2] }
  | _ => none }
def fnExactProductSolutionRow : OpenClaim := { program := "ytanldiildinbdaa", sum := "b5002f30bceaba61275b172315a364f06e7875252a1042de8fac2100e50ee348", func := "loop.example/g01119/laws.FnExactProductSolution", spec := "fnExactProductSolution", unfollowed := true, recurses := true, plainKeys := false, apart := false }
def FnExactProductSolutionSaid : Prop := fnExactProductSolutionRow.holds Try.pinned (OpenSpec.ofChange fnExactProductSolutionSpec)

/-- ITS FALSE NEIGHBOUR: 'it returns false'. Refute it at one input. -/
def fnExactProductSolutionWrong : ChangeSpec := { name := "fnExactProductSolution", fn := fun _ => fun
  | [d1, d2] => { results := [.lit (.bool false)], args := [d1, d2] }
  | _ => none }
def FnExactProductSolutionWrongFalsely : Prop := fnExactProductSolutionRow.holds Try.pinned (OpenSpec.ofChange fnExactProductSolutionWrong)

/-- 'laws.FnExactUnionSolution': WHATEVER THE INPUT: true; the input reads as it did. -/
def fnExactUnionSolutionSpec : ChangeSpec := { name := "fnExactUnionSolution", fn := fun _ => fun
  | [d1, d2] => { results := [.lit (.bool true)], args := [d1, d2] }
  | _ => none }
def fnExactUnionSolutionRow : OpenClaim := { program := "ytanldiildinbdaa", sum := "b5002f30bceaba61275b172315a364f06e7875252a1042de8fac2100e50ee348", func := "loop.example/g01119/laws.FnExactUnionSolution", spec := "fnExactUnionSolution", unfollowed := true, recurses := true, plainKeys := false, apart := false }
def FnExactUnionSolutionSaid : Prop := fnExactUnionSolutionRow.holds Try.pinned (OpenSpec.ofChange fnExactUnionSolutionSpec)

/-- ITS FALSE NEIGHBOUR: 'it returns false'. Refute it at one input. -/
def fnExactUnionSolutionWrong : ChangeSpec := { name := "fnExactUnionSolution", fn := fun _ => fun
  | [d1, d2] => { results := [.lit (.bool false)], args := [d1, d2] }
  | _ => none }
def FnExactUnionSolutionWrongFalsely : Prop := fnExactUnionSolutionRow.holds Try.pinned (OpenSpec.ofChange fnExactUnionSolutionWrong)

/-- 'laws.FnExactIsClosedSet': WHATEVER THE INPUT: true; the input reads as it did. -/
def fnExactIsClosedSetSpec : ChangeSpec := { name := "fnExactIsClosedSet", fn := fun _ => fun
  | [d1, d2] => { results := [.lit (.bool true)], args := [d1, d2] }
  | _ => none }
def fnExactIsClosedSetRow : OpenClaim := { program := "ytanldiildinbdaa", sum := "b5002f30bceaba61275b172315a364f06e7875252a1042de8fac2100e50ee348", func := "loop.example/g01119/laws.FnExactIsClosedSet", spec := "fnExactIsClosedSet", plainKeys := false, apart := false }
def FnExactIsClosedSetSaid : Prop := fnExactIsClosedSetRow.holds Try.pinned (OpenSpec.ofChange fnExactIsClosedSetSpec)

/-- ITS FALSE NEIGHBOUR: 'it returns false'. Refute it at one input. -/
def fnExactIsClosedSetWrong : ChangeSpec := { name := "fnExactIsClosedSet", fn := fun _ => fun
  | [d1, d2] => { results := [.lit (.bool false)], args := [d1, d2] }
  | _ => none }
def FnExactIsClosedSetWrongFalsely : Prop := fnExactIsClosedSetRow.holds Try.pinned (OpenSpec.ofChange fnExactIsClosedSetWrong)

/-- 'laws.FnExactSubSolution': WHATEVER THE INPUT: true; the input reads as it did. -/
def fnExactSubSolutionSpec : ChangeSpec := { name := "fnExactSubSolution", fn := fun _ => fun
  | [d1, d2] => { results := [.lit (.bool true)], args := [d1, d2] }
  | _ => none }
def fnExactSubSolutionRow : OpenClaim := { program := "ytanldiildinbdaa", sum := "b5002f30bceaba61275b172315a364f06e7875252a1042de8fac2100e50ee348", func := "loop.example/g01119/laws.FnExactSubSolution", spec := "fnExactSubSolution", unfollowed := true, recurses := true, plainKeys := false, apart := false }
def FnExactSubSolutionSaid : Prop := fnExactSubSolutionRow.holds Try.pinned (OpenSpec.ofChange fnExactSubSolutionSpec)

/-- ITS FALSE NEIGHBOUR: 'it returns false'. Refute it at one input. -/
def fnExactSubSolutionWrong : ChangeSpec := { name := "fnExactSubSolution", fn := fun _ => fun
  | [d1, d2] => { results := [.lit (.bool false)], args := [d1, d2] }
  | _ => none }
def FnExactSubSolutionWrongFalsely : Prop := fnExactSubSolutionRow.holds Try.pinned (OpenSpec.ofChange fnExactSubSolutionWrong)

/- THE SECOND FORM. 'bulk': how many values and letters a reading holds, each counted each time it is reached (what is shared counts as often as it is met; a slice's spare places count too). A statement '..UptoSaid' is the law's where the arguments, and the package variables that the reading takes, are together of bulk at most 1048576: NARROWER than '..Said'. Prove '..Said' where nothing that the law and all that it calls make is longer than what came in: it says more and counts as full. Else prove '..UptoSaid'. A law counts once. -/
mutual
def uptoBulk {H : Type} : DataW H → Nat
  | .lit (.string bytes) => bytes.length + 1
  | .lit _ => 1
  | .nil => 1
  | .ptr d => uptoBulk d + 1
  | .slice elems spare => uptoBulkAll elems + uptoBulkAll spare + 1
  | .agg parts => uptoBulkAll parts + 1
  | .iface _ d => uptoBulk d + 1
  | .map entries => uptoBulkEntries entries + 1
  | .held _ => 1
def uptoBulkAll {H : Type} : List (DataW H) → Nat
  | [] => 0
  | d :: r => uptoBulk d + uptoBulkAll r
def uptoBulkEntries {H : Type} : List (Lit × DataW H) → Nat
  | [] => 0
  | x :: r => uptoBulkEntry x + uptoBulkEntries r
def uptoBulkEntry {H : Type} : Lit × DataW H → Nat
  | (.string bytes, d) => bytes.length + uptoBulk d + 1
  | (_, d) => uptoBulk d + 1
 end
def uptoSmall : (H : Type) → List (DataW H) → Bool := fun _ ds => decide (uptoBulkAll ds ≤ 1048576)
def OpenSpec.upto (s : _root_.Go.ChangeSpec) : _root_.Go.OpenSpec := { _root_.Go.OpenSpec.ofChange s with cond := some uptoSmall }

/-- 'laws.FnExactIsSolution', WHERE WHAT IT READS IS OF BULK AT MOST 1048576: true; the input reads as it did. -/
def fnExactIsSolutionUptoRow : OpenClaim := { program := "ytanldiildinbdaa", sum := "b5002f30bceaba61275b172315a364f06e7875252a1042de8fac2100e50ee348", func := "loop.example/g01119/laws.FnExactIsSolution", spec := "fnExactIsSolution", plainKeys := false, apart := false, narrowed := true }
def FnExactIsSolutionUptoSaid : Prop := fnExactIsSolutionUptoRow.holds Try.pinned (OpenSpec.upto fnExactIsSolutionSpec)

/-- 'laws.FnExactEquationFault', WHERE WHAT IT READS IS OF BULK AT MOST 1048576: true; the input reads as it did. -/
def fnExactEquationFaultUptoRow : OpenClaim := { program := "ytanldiildinbdaa", sum := "b5002f30bceaba61275b172315a364f06e7875252a1042de8fac2100e50ee348", func := "loop.example/g01119/laws.FnExactEquationFault", spec := "fnExactEquationFault", plainKeys := false, apart := false, narrowed := true }
def FnExactEquationFaultUptoSaid : Prop := fnExactEquationFaultUptoRow.holds Try.pinned (OpenSpec.upto fnExactEquationFaultSpec)

/-- 'laws.FnExactCollisionOf', WHERE WHAT IT READS IS OF BULK AT MOST 1048576: true; the input reads as it did. -/
def fnExactCollisionOfUptoRow : OpenClaim := { program := "ytanldiildinbdaa", sum := "b5002f30bceaba61275b172315a364f06e7875252a1042de8fac2100e50ee348", func := "loop.example/g01119/laws.FnExactCollisionOf", spec := "fnExactCollisionOf", plainKeys := false, apart := false, narrowed := true }
def FnExactCollisionOfUptoSaid : Prop := fnExactCollisionOfUptoRow.holds Try.pinned (OpenSpec.upto fnExactCollisionOfSpec)

/-- 'laws.FnExactIsNondegenerate', WHERE WHAT IT READS IS OF BULK AT MOST 1048576: true; the input reads as it did. -/
def fnExactIsNondegenerateUptoRow : OpenClaim := { program := "ytanldiildinbdaa", sum := "b5002f30bceaba61275b172315a364f06e7875252a1042de8fac2100e50ee348", func := "loop.example/g01119/laws.FnExactIsNondegenerate", spec := "fnExactIsNondegenerate", plainKeys := false, apart := false, narrowed := true }
def FnExactIsNondegenerateUptoSaid : Prop := fnExactIsNondegenerateUptoRow.holds Try.pinned (OpenSpec.upto fnExactIsNondegenerateSpec)

/-- 'laws.FnExactIsInvolutive', WHERE WHAT IT READS IS OF BULK AT MOST 1048576: true; the input reads as it did. -/
def fnExactIsInvolutiveUptoRow : OpenClaim := { program := "ytanldiildinbdaa", sum := "b5002f30bceaba61275b172315a364f06e7875252a1042de8fac2100e50ee348", func := "loop.example/g01119/laws.FnExactIsInvolutive", spec := "fnExactIsInvolutive", plainKeys := false, apart := false, narrowed := true }
def FnExactIsInvolutiveUptoSaid : Prop := fnExactIsInvolutiveUptoRow.holds Try.pinned (OpenSpec.upto fnExactIsInvolutiveSpec)

/-- 'laws.FnExactIsSquareFree', WHERE WHAT IT READS IS OF BULK AT MOST 1048576: true; the input reads as it did. -/
def fnExactIsSquareFreeUptoRow : OpenClaim := { program := "ytanldiildinbdaa", sum := "b5002f30bceaba61275b172315a364f06e7875252a1042de8fac2100e50ee348", func := "loop.example/g01119/laws.FnExactIsSquareFree", spec := "fnExactIsSquareFree", plainKeys := false, apart := false, narrowed := true }
def FnExactIsSquareFreeUptoSaid : Prop := fnExactIsSquareFreeUptoRow.holds Try.pinned (OpenSpec.upto fnExactIsSquareFreeSpec)

/-- 'laws.FnExactInverseSolution', WHERE WHAT IT READS IS OF BULK AT MOST 1048576: true; the input reads as it did. -/
def fnExactInverseSolutionUptoRow : OpenClaim := { program := "ytanldiildinbdaa", sum := "b5002f30bceaba61275b172315a364f06e7875252a1042de8fac2100e50ee348", func := "loop.example/g01119/laws.FnExactInverseSolution", spec := "fnExactInverseSolution", unfollowed := true, recurses := true, plainKeys := false, apart := false, narrowed := true }
def FnExactInverseSolutionUptoSaid : Prop := fnExactInverseSolutionUptoRow.holds Try.pinned (OpenSpec.upto fnExactInverseSolutionSpec)

/-- 'laws.FnExactMirrorSolution', WHERE WHAT IT READS IS OF BULK AT MOST 1048576: true; the input reads as it did. -/
def fnExactMirrorSolutionUptoRow : OpenClaim := { program := "ytanldiildinbdaa", sum := "b5002f30bceaba61275b172315a364f06e7875252a1042de8fac2100e50ee348", func := "loop.example/g01119/laws.FnExactMirrorSolution", spec := "fnExactMirrorSolution", unfollowed := true, recurses := true, plainKeys := false, apart := false, narrowed := true }
def FnExactMirrorSolutionUptoSaid : Prop := fnExactMirrorSolutionUptoRow.holds Try.pinned (OpenSpec.upto fnExactMirrorSolutionSpec)

/-- 'laws.FnExactProductSolution', WHERE WHAT IT READS IS OF BULK AT MOST 1048576: true; the input reads as it did. -/
def fnExactProductSolutionUptoRow : OpenClaim := { program := "ytanldiildinbdaa", sum := "b5002f30bceaba61275b172315a364f06e7875252a1042de8fac2100e50ee348", func := "loop.example/g01119/laws.FnExactProductSolution", spec := "fnExactProductSolution", unfollowed := true, recurses := true, plainKeys := false, apart := false, narrowed := true }
def FnExactProductSolutionUptoSaid : Prop := fnExactProductSolutionUptoRow.holds Try.pinned (OpenSpec.upto fnExactProductSolutionSpec)

/-- 'laws.FnExactUnionSolution', WHERE WHAT IT READS IS OF BULK AT MOST 1048576: true; the input reads as it did. -/
def fnExactUnionSolutionUptoRow : OpenClaim := { program := "ytanldiildinbdaa", sum := "b5002f30bceaba61275b172315a364f06e7875252a1042de8fac2100e50ee348", func := "loop.example/g01119/laws.FnExactUnionSolution", spec := "fnExactUnionSolution", unfollowed := true, recurses := true, plainKeys := false, apart := false, narrowed := true }
def FnExactUnionSolutionUptoSaid : Prop := fnExactUnionSolutionUptoRow.holds Try.pinned (OpenSpec.upto fnExactUnionSolutionSpec)

/-- 'laws.FnExactIsClosedSet', WHERE WHAT IT READS IS OF BULK AT MOST 1048576: true; the input reads as it did. -/
def fnExactIsClosedSetUptoRow : OpenClaim := { program := "ytanldiildinbdaa", sum := "b5002f30bceaba61275b172315a364f06e7875252a1042de8fac2100e50ee348", func := "loop.example/g01119/laws.FnExactIsClosedSet", spec := "fnExactIsClosedSet", plainKeys := false, apart := false, narrowed := true }
def FnExactIsClosedSetUptoSaid : Prop := fnExactIsClosedSetUptoRow.holds Try.pinned (OpenSpec.upto fnExactIsClosedSetSpec)

/-- 'laws.FnExactSubSolution', WHERE WHAT IT READS IS OF BULK AT MOST 1048576: true; the input reads as it did. -/
def fnExactSubSolutionUptoRow : OpenClaim := { program := "ytanldiildinbdaa", sum := "b5002f30bceaba61275b172315a364f06e7875252a1042de8fac2100e50ee348", func := "loop.example/g01119/laws.FnExactSubSolution", spec := "fnExactSubSolution", unfollowed := true, recurses := true, plainKeys := false, apart := false, narrowed := true }
def FnExactSubSolutionUptoSaid : Prop := fnExactSubSolutionUptoRow.holds Try.pinned (OpenSpec.upto fnExactSubSolutionSpec)

end Rows
end Go.Proofs.Ytanldiildinbdaa
