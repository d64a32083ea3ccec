/-
  No cell of these rows narrows 'for every input' (looked for: loops, veiled, ifaces, maps, wideKeys, modest, calm, conditions, laid).
  DERIVED. THE GIVEN ROWS OF THIS SEAT. 11 by the template 'for every input the law returns true; each argument reads behind the call as it read before'; 0 by the template 'total and deterministic' (their statements: YthkhkehpmolfaaaTotals.lean).
  GIVEN WITH THE SEED: the statements are not yours to turn. If you find one false, say at which input.
  Laid BY PROGRAM, IN A SANDBOX (cutbox-rows.mjs): the forced cells as the released guide's own fill.sh prints them over the translation 7b885f37c3d4b48c… (all of the seat's roots in one cut). By AI agents, Wed Nov 11 2026. No macro, syntax, notation, axiom, sorry.
-/
import Derived.Test.YthkhkehpmolfaaaChecked
import GoSem.Claim
import GoSem.ClaimJoined
import GoSem.ClaimMapViews
import Derived.JoinedTies
import Derived.KernelRfl
namespace Go.Proofs.Ythkhkehpmolfaaa
/- THE CELL 'sum', in the pinned program and in every row, IS THE sha256 OF THE DUMP (.gsa) THAT YthkhkehpmolfaaaProg.lean LOADS. Nothing in Lean hashes anything: it is a label: what it is worth is what the hold of that sum in a sandbox is worth. -/
noncomputable def Try.pinned : Pinned := { name := "ythkhkehpmolfaaa", sum := "7b885f37c3d4b48c8d72c928aa738dcfb314f6d463b0f7413097621bb4070e40", checked := Try.checked }
namespace Rows
def none {H : Type} : Left H := { results := [], args := [] }

/-- 'laws.FnExactIsCycleSet': WHATEVER THE INPUT: true; the input reads as it did. -/
def fnExactIsCycleSetSpec : ChangeSpec := { name := "fnExactIsCycleSet", fn := fun _ => fun
  | [d] => { results := [.lit (.bool true)], args := [d] }
  | _ => none }
def fnExactIsCycleSetRow : OpenClaim := { program := "ythkhkehpmolfaaa", sum := "7b885f37c3d4b48c8d72c928aa738dcfb314f6d463b0f7413097621bb4070e40", func := "loop.example/g01119/laws.FnExactIsCycleSet", spec := "fnExactIsCycleSet", unfollowed := true, recurses := true, apart := false }
def FnExactIsCycleSetSaid : Prop := fnExactIsCycleSetRow.holds Try.pinned (OpenSpec.ofChange fnExactIsCycleSetSpec)

/-- ITS FALSE NEIGHBOUR: 'it returns false'. Refute it at one input. -/
def fnExactIsCycleSetWrong : ChangeSpec := { name := "fnExactIsCycleSet", fn := fun _ => fun
  | [d] => { results := [.lit (.bool false)], args := [d] }
  | _ => none }
def FnExactIsCycleSetWrongFalsely : Prop := fnExactIsCycleSetRow.holds Try.pinned (OpenSpec.ofChange fnExactIsCycleSetWrong)

/-- 'laws.FnExactCycleFault': WHATEVER THE INPUT: true; the input reads as it did. -/
def fnExactCycleFaultSpec : ChangeSpec := { name := "fnExactCycleFault", fn := fun _ => fun
  | [d] => { results := [.lit (.bool true)], args := [d] }
  | _ => none }
def fnExactCycleFaultRow : OpenClaim := { program := "ythkhkehpmolfaaa", sum := "7b885f37c3d4b48c8d72c928aa738dcfb314f6d463b0f7413097621bb4070e40", func := "loop.example/g01119/laws.FnExactCycleFault", spec := "fnExactCycleFault", unfollowed := true, recurses := true, apart := false }
def FnExactCycleFaultSaid : Prop := fnExactCycleFaultRow.holds Try.pinned (OpenSpec.ofChange fnExactCycleFaultSpec)

/-- ITS FALSE NEIGHBOUR: 'it returns false'. Refute it at one input. -/
def fnExactCycleFaultWrong : ChangeSpec := { name := "fnExactCycleFault", fn := fun _ => fun
  | [d] => { results := [.lit (.bool false)], args := [d] }
  | _ => none }
def FnExactCycleFaultWrongFalsely : Prop := fnExactCycleFaultRow.holds Try.pinned (OpenSpec.ofChange fnExactCycleFaultWrong)

/-- 'laws.FnExactSquaresOf': WHATEVER THE INPUT: true; the input reads as it did. -/
def fnExactSquaresOfSpec : ChangeSpec := { name := "fnExactSquaresOf", fn := fun _ => fun
  | [d] => { results := [.lit (.bool true)], args := [d] }
  | _ => none }
def fnExactSquaresOfRow : OpenClaim := { program := "ythkhkehpmolfaaa", sum := "7b885f37c3d4b48c8d72c928aa738dcfb314f6d463b0f7413097621bb4070e40", func := "loop.example/g01119/laws.FnExactSquaresOf", spec := "fnExactSquaresOf", apart := false }
def FnExactSquaresOfSaid : Prop := fnExactSquaresOfRow.holds Try.pinned (OpenSpec.ofChange fnExactSquaresOfSpec)

/-- ITS FALSE NEIGHBOUR: 'it returns false'. Refute it at one input. -/
def fnExactSquaresOfWrong : ChangeSpec := { name := "fnExactSquaresOf", fn := fun _ => fun
  | [d] => { results := [.lit (.bool false)], args := [d] }
  | _ => none }
def FnExactSquaresOfWrongFalsely : Prop := fnExactSquaresOfRow.holds Try.pinned (OpenSpec.ofChange fnExactSquaresOfWrong)

/-- 'laws.FnExactDotSolve': WHATEVER THE INPUT: true; the input reads as it did. -/
def fnExactDotSolveSpec : ChangeSpec := { name := "fnExactDotSolve", fn := fun _ => fun
  | [d1, d2, d3] => { results := [.lit (.bool true)], args := [d1, d2, d3] }
  | _ => none }
def fnExactDotSolveRow : OpenClaim := { program := "ythkhkehpmolfaaa", sum := "7b885f37c3d4b48c8d72c928aa738dcfb314f6d463b0f7413097621bb4070e40", func := "loop.example/g01119/laws.FnExactDotSolve", spec := "fnExactDotSolve", unfollowed := true, recurses := true, apart := false }
def FnExactDotSolveSaid : Prop := fnExactDotSolveRow.holds Try.pinned (OpenSpec.ofChange fnExactDotSolveSpec)

/-- ITS FALSE NEIGHBOUR: 'it returns false'. Refute it at one input. -/
def fnExactDotSolveWrong : ChangeSpec := { name := "fnExactDotSolve", fn := fun _ => fun
  | [d1, d2, d3] => { results := [.lit (.bool false)], args := [d1, d2, d3] }
  | _ => none }
def FnExactDotSolveWrongFalsely : Prop := fnExactDotSolveRow.holds Try.pinned (OpenSpec.ofChange fnExactDotSolveWrong)

/-- 'laws.FnExactSolutionOfCycleSet': WHATEVER THE INPUT: true; the input reads as it did. -/
def fnExactSolutionOfCycleSetSpec : ChangeSpec := { name := "fnExactSolutionOfCycleSet", fn := fun _ => fun
  | [d] => { results := [.lit (.bool true)], args := [d] }
  | _ => none }
def fnExactSolutionOfCycleSetRow : OpenClaim := { program := "ythkhkehpmolfaaa", sum := "7b885f37c3d4b48c8d72c928aa738dcfb314f6d463b0f7413097621bb4070e40", func := "loop.example/g01119/laws.FnExactSolutionOfCycleSet", spec := "fnExactSolutionOfCycleSet", unfollowed := true, recurses := true, apart := false }
def FnExactSolutionOfCycleSetSaid : Prop := fnExactSolutionOfCycleSetRow.holds Try.pinned (OpenSpec.ofChange fnExactSolutionOfCycleSetSpec)

/-- ITS FALSE NEIGHBOUR: 'it returns false'. Refute it at one input. -/
def fnExactSolutionOfCycleSetWrong : ChangeSpec := { name := "fnExactSolutionOfCycleSet", fn := fun _ => fun
  | [d] => { results := [.lit (.bool false)], args := [d] }
  | _ => none }
def FnExactSolutionOfCycleSetWrongFalsely : Prop := fnExactSolutionOfCycleSetRow.holds Try.pinned (OpenSpec.ofChange fnExactSolutionOfCycleSetWrong)

/-- 'laws.FnExactDualCycleSet': WHATEVER THE INPUT: true; the input reads as it did. -/
def fnExactDualCycleSetSpec : ChangeSpec := { name := "fnExactDualCycleSet", fn := fun _ => fun
  | [d] => { results := [.lit (.bool true)], args := [d] }
  | _ => none }
def fnExactDualCycleSetRow : OpenClaim := { program := "ythkhkehpmolfaaa", sum := "7b885f37c3d4b48c8d72c928aa738dcfb314f6d463b0f7413097621bb4070e40", func := "loop.example/g01119/laws.FnExactDualCycleSet", spec := "fnExactDualCycleSet", unfollowed := true, recurses := true, apart := false }
def FnExactDualCycleSetSaid : Prop := fnExactDualCycleSetRow.holds Try.pinned (OpenSpec.ofChange fnExactDualCycleSetSpec)

/-- ITS FALSE NEIGHBOUR: 'it returns false'. Refute it at one input. -/
def fnExactDualCycleSetWrong : ChangeSpec := { name := "fnExactDualCycleSet", fn := fun _ => fun
  | [d] => { results := [.lit (.bool false)], args := [d] }
  | _ => none }
def FnExactDualCycleSetWrongFalsely : Prop := fnExactDualCycleSetRow.holds Try.pinned (OpenSpec.ofChange fnExactDualCycleSetWrong)

/-- 'laws.FnExactIsSquareFreeCycleSet': WHATEVER THE INPUT: true; the input reads as it did. -/
def fnExactIsSquareFreeCycleSetSpec : ChangeSpec := { name := "fnExactIsSquareFreeCycleSet", fn := fun _ => fun
  | [d] => { results := [.lit (.bool true)], args := [d] }
  | _ => none }
def fnExactIsSquareFreeCycleSetRow : OpenClaim := { program := "ythkhkehpmolfaaa", sum := "7b885f37c3d4b48c8d72c928aa738dcfb314f6d463b0f7413097621bb4070e40", func := "loop.example/g01119/laws.FnExactIsSquareFreeCycleSet", spec := "fnExactIsSquareFreeCycleSet", unfollowed := true, recurses := true, apart := false }
def FnExactIsSquareFreeCycleSetSaid : Prop := fnExactIsSquareFreeCycleSetRow.holds Try.pinned (OpenSpec.ofChange fnExactIsSquareFreeCycleSetSpec)

/-- ITS FALSE NEIGHBOUR: 'it returns false'. Refute it at one input. -/
def fnExactIsSquareFreeCycleSetWrong : ChangeSpec := { name := "fnExactIsSquareFreeCycleSet", fn := fun _ => fun
  | [d] => { results := [.lit (.bool false)], args := [d] }
  | _ => none }
def FnExactIsSquareFreeCycleSetWrongFalsely : Prop := fnExactIsSquareFreeCycleSetRow.holds Try.pinned (OpenSpec.ofChange fnExactIsSquareFreeCycleSetWrong)

/-- 'laws.FnExactAffineCycleSet': WHATEVER THE INPUT: true; the input reads as it did. -/
def fnExactAffineCycleSetSpec : ChangeSpec := { name := "fnExactAffineCycleSet", fn := fun _ => fun
  | [d1, d2, d3, d4] => { results := [.lit (.bool true)], args := [d1, d2, d3, d4] }
  | _ => none }
def fnExactAffineCycleSetRow : OpenClaim := { program := "ythkhkehpmolfaaa", sum := "7b885f37c3d4b48c8d72c928aa738dcfb314f6d463b0f7413097621bb4070e40", func := "loop.example/g01119/laws.FnExactAffineCycleSet", spec := "fnExactAffineCycleSet", unfollowed := true, recurses := true, apart := false }
def FnExactAffineCycleSetSaid : Prop := fnExactAffineCycleSetRow.holds Try.pinned (OpenSpec.ofChange fnExactAffineCycleSetSpec)

/-- ITS FALSE NEIGHBOUR: 'it returns false'. Refute it at one input. -/
def fnExactAffineCycleSetWrong : ChangeSpec := { name := "fnExactAffineCycleSet", fn := fun _ => fun
  | [d1, d2, d3, d4] => { results := [.lit (.bool false)], args := [d1, d2, d3, d4] }
  | _ => none }
def FnExactAffineCycleSetWrongFalsely : Prop := fnExactAffineCycleSetRow.holds Try.pinned (OpenSpec.ofChange fnExactAffineCycleSetWrong)

/-- 'laws.FnExactRowOrders': WHATEVER THE INPUT: true; the input reads as it did. -/
def fnExactRowOrdersSpec : ChangeSpec := { name := "fnExactRowOrders", fn := fun _ => fun
  | [d] => { results := [.lit (.bool true)], args := [d] }
  | _ => none }
def fnExactRowOrdersRow : OpenClaim := { program := "ythkhkehpmolfaaa", sum := "7b885f37c3d4b48c8d72c928aa738dcfb314f6d463b0f7413097621bb4070e40", func := "loop.example/g01119/laws.FnExactRowOrders", spec := "fnExactRowOrders", unfollowed := true, recurses := true, apart := false }
def FnExactRowOrdersSaid : Prop := fnExactRowOrdersRow.holds Try.pinned (OpenSpec.ofChange fnExactRowOrdersSpec)

/-- ITS FALSE NEIGHBOUR: 'it returns false'. Refute it at one input. -/
def fnExactRowOrdersWrong : ChangeSpec := { name := "fnExactRowOrders", fn := fun _ => fun
  | [d] => { results := [.lit (.bool false)], args := [d] }
  | _ => none }
def FnExactRowOrdersWrongFalsely : Prop := fnExactRowOrdersRow.holds Try.pinned (OpenSpec.ofChange fnExactRowOrdersWrong)

/-- 'laws.FnExactDotPower': WHATEVER THE INPUT: true; the input reads as it did. -/
def fnExactDotPowerSpec : ChangeSpec := { name := "fnExactDotPower", fn := fun _ => fun
  | [d1, d2, d3] => { results := [.lit (.bool true)], args := [d1, d2, d3] }
  | _ => none }
def fnExactDotPowerRow : OpenClaim := { program := "ythkhkehpmolfaaa", sum := "7b885f37c3d4b48c8d72c928aa738dcfb314f6d463b0f7413097621bb4070e40", func := "loop.example/g01119/laws.FnExactDotPower", spec := "fnExactDotPower", unfollowed := true, recurses := true, apart := false }
def FnExactDotPowerSaid : Prop := fnExactDotPowerRow.holds Try.pinned (OpenSpec.ofChange fnExactDotPowerSpec)

/-- ITS FALSE NEIGHBOUR: 'it returns false'. Refute it at one input. -/
def fnExactDotPowerWrong : ChangeSpec := { name := "fnExactDotPower", fn := fun _ => fun
  | [d1, d2, d3] => { results := [.lit (.bool false)], args := [d1, d2, d3] }
  | _ => none }
def FnExactDotPowerWrongFalsely : Prop := fnExactDotPowerRow.holds Try.pinned (OpenSpec.ofChange fnExactDotPowerWrong)

/-- 'laws.FnExactLeastCycleSet': WHATEVER THE INPUT: true; the input reads as it did. -/
def fnExactLeastCycleSetSpec : ChangeSpec := { name := "fnExactLeastCycleSet", fn := fun _ => fun
  | [d] => { results := [.lit (.bool true)], args := [d] }
  | _ => none }
def fnExactLeastCycleSetRow : OpenClaim := { program := "ythkhkehpmolfaaa", sum := "7b885f37c3d4b48c8d72c928aa738dcfb314f6d463b0f7413097621bb4070e40", func := "loop.example/g01119/laws.FnExactLeastCycleSet", spec := "fnExactLeastCycleSet", unfollowed := true, recurses := true, apart := false }
def FnExactLeastCycleSetSaid : Prop := fnExactLeastCycleSetRow.holds Try.pinned (OpenSpec.ofChange fnExactLeastCycleSetSpec)

/-- ITS FALSE NEIGHBOUR: 'it returns false'. Refute it at one input. -/
def fnExactLeastCycleSetWrong : ChangeSpec := { name := "fnExactLeastCycleSet", fn := fun _ => fun
  | [d] => { results := [.lit (.bool false)], args := [d] }
  | _ => none }
def FnExactLeastCycleSetWrongFalsely : Prop := fnExactLeastCycleSetRow.holds Try.pinned (OpenSpec.ofChange fnExactLeastCycleSetWrong)

/- THE SECOND FORM. 'bulk': how many values and letters a reading holds, each counted each time it is reached (what is shared counts as often as it is met; a slice's spare places count too). A statement '..UptoSaid' is the law's where the arguments, and the package variables that the reading takes, are together of bulk at most 1048576: NARROWER than '..Said'. Prove '..Said' where nothing that the law and all that it calls make is longer than what came in: it says more and counts as full. Else prove '..UptoSaid'. A law counts once. -/
mutual
def uptoBulk {H : Type} : DataW H → Nat
  | .lit (.string bytes) => bytes.length + 1
  | .lit _ => 1
  | .nil => 1
  | .ptr d => uptoBulk d + 1
  | .slice elems spare => uptoBulkAll elems + uptoBulkAll spare + 1
  | .agg parts => uptoBulkAll parts + 1
  | .iface _ d => uptoBulk d + 1
  | .map entries => uptoBulkEntries entries + 1
  | .held _ => 1
def uptoBulkAll {H : Type} : List (DataW H) → Nat
  | [] => 0
  | d :: r => uptoBulk d + uptoBulkAll r
def uptoBulkEntries {H : Type} : List (Lit × DataW H) → Nat
  | [] => 0
  | x :: r => uptoBulkEntry x + uptoBulkEntries r
def uptoBulkEntry {H : Type} : Lit × DataW H → Nat
  | (.string bytes, d) => bytes.length + uptoBulk d + 1
  | (_, d) => uptoBulk d + 1
 end
def uptoSmall : (H : Type) → List (DataW H) → Bool := fun _ ds => decide (uptoBulkAll ds ≤ 1048576)
def OpenSpec.upto (s : _root_.Go.ChangeSpec) : _root_.Go.OpenSpec := { _root_.Go.OpenSpec.ofChange s with cond := some uptoSmall }

/-- 'laws.FnExactIsCycleSet', WHERE WHAT IT READS IS OF BULK AT MOST 1048576: true; the input reads as it did. -/
def fnExactIsCycleSetUptoRow : OpenClaim := { program := "ythkhkehpmolfaaa", sum := "7b885f37c3d4b48c8d72c928aa738dcfb314f6d463b0f7413097621bb4070e40", func := "loop.example/g01119/laws.FnExactIsCycleSet", spec := "fnExactIsCycleSet", unfollowed := true, recurses := true, apart := false, narrowed := true }
def FnExactIsCycleSetUptoSaid : Prop := fnExactIsCycleSetUptoRow.holds Try.pinned (OpenSpec.upto fnExactIsCycleSetSpec)

/-- 'laws.FnExactCycleFault', WHERE WHAT IT READS IS OF BULK AT MOST 1048576: true; the input reads as it did. -/
def fnExactCycleFaultUptoRow : OpenClaim := { program := "ythkhkehpmolfaaa", sum := "7b885f37c3d4b48c8d72c928aa738dcfb314f6d463b0f7413097621bb4070e40", func := "loop.example/g01119/laws.FnExactCycleFault", spec := "fnExactCycleFault", unfollowed := true, recurses := true, apart := false, narrowed := true }
def FnExactCycleFaultUptoSaid : Prop := fnExactCycleFaultUptoRow.holds Try.pinned (OpenSpec.upto fnExactCycleFaultSpec)

/-- 'laws.FnExactSquaresOf', WHERE WHAT IT READS IS OF BULK AT MOST 1048576: true; the input reads as it did. -/
def fnExactSquaresOfUptoRow : OpenClaim := { program := "ythkhkehpmolfaaa", sum := "7b885f37c3d4b48c8d72c928aa738dcfb314f6d463b0f7413097621bb4070e40", func := "loop.example/g01119/laws.FnExactSquaresOf", spec := "fnExactSquaresOf", apart := false, narrowed := true }
def FnExactSquaresOfUptoSaid : Prop := fnExactSquaresOfUptoRow.holds Try.pinned (OpenSpec.upto fnExactSquaresOfSpec)

/-- 'laws.FnExactDotSolve', WHERE WHAT IT READS IS OF BULK AT MOST 1048576: true; the input reads as it did. -/
def fnExactDotSolveUptoRow : OpenClaim := { program := "ythkhkehpmolfaaa", sum := "7b885f37c3d4b48c8d72c928aa738dcfb314f6d463b0f7413097621bb4070e40", func := "loop.example/g01119/laws.FnExactDotSolve", spec := "fnExactDotSolve", unfollowed := true, recurses := true, apart := false, narrowed := true }
def FnExactDotSolveUptoSaid : Prop := fnExactDotSolveUptoRow.holds Try.pinned (OpenSpec.upto fnExactDotSolveSpec)

/-- 'laws.FnExactSolutionOfCycleSet', WHERE WHAT IT READS IS OF BULK AT MOST 1048576: true; the input reads as it did. -/
def fnExactSolutionOfCycleSetUptoRow : OpenClaim := { program := "ythkhkehpmolfaaa", sum := "7b885f37c3d4b48c8d72c928aa738dcfb314f6d463b0f7413097621bb4070e40", func := "loop.example/g01119/laws.FnExactSolutionOfCycleSet", spec := "fnExactSolutionOfCycleSet", unfollowed := true, recurses := true, apart := false, narrowed := true }
def FnExactSolutionOfCycleSetUptoSaid : Prop := fnExactSolutionOfCycleSetUptoRow.holds Try.pinned (OpenSpec.upto fnExactSolutionOfCycleSetSpec)

/-- 'laws.FnExactDualCycleSet', WHERE WHAT IT READS IS OF BULK AT MOST 1048576: true; the input reads as it did. -/
def fnExactDualCycleSetUptoRow : OpenClaim := { program := "ythkhkehpmolfaaa", sum := "7b885f37c3d4b48c8d72c928aa738dcfb314f6d463b0f7413097621bb4070e40", func := "loop.example/g01119/laws.FnExactDualCycleSet", spec := "fnExactDualCycleSet", unfollowed := true, recurses := true, apart := false, narrowed := true }
def FnExactDualCycleSetUptoSaid : Prop := fnExactDualCycleSetUptoRow.holds Try.pinned (OpenSpec.upto fnExactDualCycleSetSpec)

/-- 'laws.FnExactIsSquareFreeCycleSet', WHERE WHAT IT READS IS OF BULK AT MOST 1048576: true; the input reads as it did. -/
def fnExactIsSquareFreeCycleSetUptoRow : OpenClaim := { program := "ythkhkehpmolfaaa", sum := "7b885f37c3d4b48c8d72c928aa738dcfb314f6d463b0f7413097621bb4070e40", func := "loop.example/g01119/laws.FnExactIsSquareFreeCycleSet", spec := "fnExactIsSquareFreeCycleSet", unfollowed := true, recurses := true, apart := false, narrowed := true }
def FnExactIsSquareFreeCycleSetUptoSaid : Prop := fnExactIsSquareFreeCycleSetUptoRow.holds Try.pinned (OpenSpec.upto fnExactIsSquareFreeCycleSetSpec)

/-- 'laws.FnExactAffineCycleSet', WHERE WHAT IT READS IS OF BULK AT MOST 1048576: true; the input reads as it did. -/
def fnExactAffineCycleSetUptoRow : OpenClaim := { program := "ythkhkehpmolfaaa", sum := "7b885f37c3d4b48c8d72c928aa738dcfb314f6d463b0f7413097621bb4070e40", func := "loop.example/g01119/laws.FnExactAffineCycleSet", spec := "fnExactAffineCycleSet", unfollowed := true, recurses := true, apart := false, narrowed := true }
def FnExactAffineCycleSetUptoSaid : Prop := fnExactAffineCycleSetUptoRow.holds Try.pinned (OpenSpec.upto fnExactAffineCycleSetSpec)

/-- 'laws.FnExactRowOrders', WHERE WHAT IT READS IS OF BULK AT MOST 1048576: true; the input reads as it did. -/
def fnExactRowOrdersUptoRow : OpenClaim := { program := "ythkhkehpmolfaaa", sum := "7b885f37c3d4b48c8d72c928aa738dcfb314f6d463b0f7413097621bb4070e40", func := "loop.example/g01119/laws.FnExactRowOrders", spec := "fnExactRowOrders", unfollowed := true, recurses := true, apart := false, narrowed := true }
def FnExactRowOrdersUptoSaid : Prop := fnExactRowOrdersUptoRow.holds Try.pinned (OpenSpec.upto fnExactRowOrdersSpec)

/-- 'laws.FnExactDotPower', WHERE WHAT IT READS IS OF BULK AT MOST 1048576: true; the input reads as it did. -/
def fnExactDotPowerUptoRow : OpenClaim := { program := "ythkhkehpmolfaaa", sum := "7b885f37c3d4b48c8d72c928aa738dcfb314f6d463b0f7413097621bb4070e40", func := "loop.example/g01119/laws.FnExactDotPower", spec := "fnExactDotPower", unfollowed := true, recurses := true, apart := false, narrowed := true }
def FnExactDotPowerUptoSaid : Prop := fnExactDotPowerUptoRow.holds Try.pinned (OpenSpec.upto fnExactDotPowerSpec)

/-- 'laws.FnExactLeastCycleSet', WHERE WHAT IT READS IS OF BULK AT MOST 1048576: true; the input reads as it did. -/
def fnExactLeastCycleSetUptoRow : OpenClaim := { program := "ythkhkehpmolfaaa", sum := "7b885f37c3d4b48c8d72c928aa738dcfb314f6d463b0f7413097621bb4070e40", func := "loop.example/g01119/laws.FnExactLeastCycleSet", spec := "fnExactLeastCycleSet", unfollowed := true, recurses := true, apart := false, narrowed := true }
def FnExactLeastCycleSetUptoSaid : Prop := fnExactLeastCycleSetUptoRow.holds Try.pinned (OpenSpec.upto fnExactLeastCycleSetSpec)

end Rows
end Go.Proofs.Ythkhkehpmolfaaa
