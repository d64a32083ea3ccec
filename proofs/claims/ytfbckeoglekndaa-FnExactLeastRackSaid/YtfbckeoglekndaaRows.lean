/-
  No cell of these rows narrows 'for every input' (looked for: loops, veiled, ifaces, maps, wideKeys, modest, calm, conditions, laid).
  DERIVED. THE GIVEN ROWS OF THIS SEAT. 12 by the template 'for every input the law returns true; each argument reads behind the call as it read before'; 0 by the template 'total and deterministic' (their statements: YtfbckeoglekndaaTotals.lean).
  GIVEN WITH THE SEED: the statements are not yours to turn. If you find one false, say at which input.
  Laid BY PROGRAM, IN A SANDBOX (cutbox-rows.mjs): the forced cells as the released guide's own fill.sh prints them over the translation 3de79e7290270614… (all of the seat's roots in one cut). By AI agents, Wed Nov 11 2026. No macro, syntax, notation, axiom, sorry.
-/
import Derived.Test.YtfbckeoglekndaaChecked
import GoSem.Claim
import GoSem.ClaimJoined
import GoSem.ClaimMapViews
import Derived.JoinedTies
import Derived.KernelRfl
namespace Go.Proofs.Ytfbckeoglekndaa
/- THE CELL 'sum', in the pinned program and in every row, IS THE sha256 OF THE DUMP (.gsa) THAT YtfbckeoglekndaaProg.lean LOADS. Nothing in Lean hashes anything: it is a label: what it is worth is what the hold of that sum in a sandbox is worth. -/
noncomputable def Try.pinned : Pinned := { name := "ytfbckeoglekndaa", sum := "3de79e7290270614c9591834cb4a090d8d9b61f69a7161574546b5cbdadf2cc7", checked := Try.checked }
namespace Rows
def none {H : Type} : Left H := { results := [], args := [] }

/-- 'laws.FnExactIsRack': WHATEVER THE INPUT: true; the input reads as it did. -/
def fnExactIsRackSpec : ChangeSpec := { name := "fnExactIsRack", fn := fun _ => fun
  | [d] => { results := [.lit (.bool true)], args := [d] }
  | _ => none }
def fnExactIsRackRow : OpenClaim := { program := "ytfbckeoglekndaa", sum := "3de79e7290270614c9591834cb4a090d8d9b61f69a7161574546b5cbdadf2cc7", func := "loop.example/g01119/laws.FnExactIsRack", spec := "fnExactIsRack", apart := false }
def FnExactIsRackSaid : Prop := fnExactIsRackRow.holds Try.pinned (OpenSpec.ofChange fnExactIsRackSpec)

/-- ITS FALSE NEIGHBOUR: 'it returns false'. Refute it at one input. -/
def fnExactIsRackWrong : ChangeSpec := { name := "fnExactIsRack", fn := fun _ => fun
  | [d] => { results := [.lit (.bool false)], args := [d] }
  | _ => none }
def FnExactIsRackWrongFalsely : Prop := fnExactIsRackRow.holds Try.pinned (OpenSpec.ofChange fnExactIsRackWrong)

/-- 'laws.FnExactRackFault': WHATEVER THE INPUT: true; the input reads as it did. -/
def fnExactRackFaultSpec : ChangeSpec := { name := "fnExactRackFault", fn := fun _ => fun
  | [d] => { results := [.lit (.bool true)], args := [d] }
  | _ => none }
def fnExactRackFaultRow : OpenClaim := { program := "ytfbckeoglekndaa", sum := "3de79e7290270614c9591834cb4a090d8d9b61f69a7161574546b5cbdadf2cc7", func := "loop.example/g01119/laws.FnExactRackFault", spec := "fnExactRackFault", apart := false }
def FnExactRackFaultSaid : Prop := fnExactRackFaultRow.holds Try.pinned (OpenSpec.ofChange fnExactRackFaultSpec)

/-- ITS FALSE NEIGHBOUR: 'it returns false'. Refute it at one input. -/
def fnExactRackFaultWrong : ChangeSpec := { name := "fnExactRackFault", fn := fun _ => fun
  | [d] => { results := [.lit (.bool false)], args := [d] }
  | _ => none }
def FnExactRackFaultWrongFalsely : Prop := fnExactRackFaultRow.holds Try.pinned (OpenSpec.ofChange fnExactRackFaultWrong)

/-- 'laws.FnExactIsQuandle': WHATEVER THE INPUT: true; the input reads as it did. -/
def fnExactIsQuandleSpec : ChangeSpec := { name := "fnExactIsQuandle", fn := fun _ => fun
  | [d] => { results := [.lit (.bool true)], args := [d] }
  | _ => none }
def fnExactIsQuandleRow : OpenClaim := { program := "ytfbckeoglekndaa", sum := "3de79e7290270614c9591834cb4a090d8d9b61f69a7161574546b5cbdadf2cc7", func := "loop.example/g01119/laws.FnExactIsQuandle", spec := "fnExactIsQuandle", unfollowed := true, recurses := true, apart := false }
def FnExactIsQuandleSaid : Prop := fnExactIsQuandleRow.holds Try.pinned (OpenSpec.ofChange fnExactIsQuandleSpec)

/-- ITS FALSE NEIGHBOUR: 'it returns false'. Refute it at one input. -/
def fnExactIsQuandleWrong : ChangeSpec := { name := "fnExactIsQuandle", fn := fun _ => fun
  | [d] => { results := [.lit (.bool false)], args := [d] }
  | _ => none }
def FnExactIsQuandleWrongFalsely : Prop := fnExactIsQuandleRow.holds Try.pinned (OpenSpec.ofChange fnExactIsQuandleWrong)

/-- 'laws.FnExactRackSolution': WHATEVER THE INPUT: true; the input reads as it did. -/
def fnExactRackSolutionSpec : ChangeSpec := { name := "fnExactRackSolution", fn := fun _ => fun
  | [d] => { results := [.lit (.bool true)], args := [d] }
  | _ => none }
def fnExactRackSolutionRow : OpenClaim := { program := "ytfbckeoglekndaa", sum := "3de79e7290270614c9591834cb4a090d8d9b61f69a7161574546b5cbdadf2cc7", func := "loop.example/g01119/laws.FnExactRackSolution", spec := "fnExactRackSolution", unfollowed := true, recurses := true, apart := false }
def FnExactRackSolutionSaid : Prop := fnExactRackSolutionRow.holds Try.pinned (OpenSpec.ofChange fnExactRackSolutionSpec)

/-- ITS FALSE NEIGHBOUR: 'it returns false'. Refute it at one input. -/
def fnExactRackSolutionWrong : ChangeSpec := { name := "fnExactRackSolution", fn := fun _ => fun
  | [d] => { results := [.lit (.bool false)], args := [d] }
  | _ => none }
def FnExactRackSolutionWrongFalsely : Prop := fnExactRackSolutionRow.holds Try.pinned (OpenSpec.ofChange fnExactRackSolutionWrong)

/-- 'laws.FnExactRackOrbits': WHATEVER THE INPUT: true; the input reads as it did. -/
def fnExactRackOrbitsSpec : ChangeSpec := { name := "fnExactRackOrbits", fn := fun _ => fun
  | [d] => { results := [.lit (.bool true)], args := [d] }
  | _ => none }
def fnExactRackOrbitsRow : OpenClaim := { program := "ytfbckeoglekndaa", sum := "3de79e7290270614c9591834cb4a090d8d9b61f69a7161574546b5cbdadf2cc7", func := "loop.example/g01119/laws.FnExactRackOrbits", spec := "fnExactRackOrbits", apart := false }
def FnExactRackOrbitsSaid : Prop := fnExactRackOrbitsRow.holds Try.pinned (OpenSpec.ofChange fnExactRackOrbitsSpec)

/-- ITS FALSE NEIGHBOUR: 'it returns false'. Refute it at one input. -/
def fnExactRackOrbitsWrong : ChangeSpec := { name := "fnExactRackOrbits", fn := fun _ => fun
  | [d] => { results := [.lit (.bool false)], args := [d] }
  | _ => none }
def FnExactRackOrbitsWrongFalsely : Prop := fnExactRackOrbitsRow.holds Try.pinned (OpenSpec.ofChange fnExactRackOrbitsWrong)

/-- 'laws.FnExactIsLatinRack': WHATEVER THE INPUT: true; the input reads as it did. -/
def fnExactIsLatinRackSpec : ChangeSpec := { name := "fnExactIsLatinRack", fn := fun _ => fun
  | [d] => { results := [.lit (.bool true)], args := [d] }
  | _ => none }
def fnExactIsLatinRackRow : OpenClaim := { program := "ytfbckeoglekndaa", sum := "3de79e7290270614c9591834cb4a090d8d9b61f69a7161574546b5cbdadf2cc7", func := "loop.example/g01119/laws.FnExactIsLatinRack", spec := "fnExactIsLatinRack", unfollowed := true, recurses := true, apart := false }
def FnExactIsLatinRackSaid : Prop := fnExactIsLatinRackRow.holds Try.pinned (OpenSpec.ofChange fnExactIsLatinRackSpec)

/-- ITS FALSE NEIGHBOUR: 'it returns false'. Refute it at one input. -/
def fnExactIsLatinRackWrong : ChangeSpec := { name := "fnExactIsLatinRack", fn := fun _ => fun
  | [d] => { results := [.lit (.bool false)], args := [d] }
  | _ => none }
def FnExactIsLatinRackWrongFalsely : Prop := fnExactIsLatinRackRow.holds Try.pinned (OpenSpec.ofChange fnExactIsLatinRackWrong)

/-- 'laws.FnExactIsInvolutoryRack': WHATEVER THE INPUT: true; the input reads as it did. -/
def fnExactIsInvolutoryRackSpec : ChangeSpec := { name := "fnExactIsInvolutoryRack", fn := fun _ => fun
  | [d] => { results := [.lit (.bool true)], args := [d] }
  | _ => none }
def fnExactIsInvolutoryRackRow : OpenClaim := { program := "ytfbckeoglekndaa", sum := "3de79e7290270614c9591834cb4a090d8d9b61f69a7161574546b5cbdadf2cc7", func := "loop.example/g01119/laws.FnExactIsInvolutoryRack", spec := "fnExactIsInvolutoryRack", unfollowed := true, recurses := true, apart := false }
def FnExactIsInvolutoryRackSaid : Prop := fnExactIsInvolutoryRackRow.holds Try.pinned (OpenSpec.ofChange fnExactIsInvolutoryRackSpec)

/-- ITS FALSE NEIGHBOUR: 'it returns false'. Refute it at one input. -/
def fnExactIsInvolutoryRackWrong : ChangeSpec := { name := "fnExactIsInvolutoryRack", fn := fun _ => fun
  | [d] => { results := [.lit (.bool false)], args := [d] }
  | _ => none }
def FnExactIsInvolutoryRackWrongFalsely : Prop := fnExactIsInvolutoryRackRow.holds Try.pinned (OpenSpec.ofChange fnExactIsInvolutoryRackWrong)

/-- 'laws.FnExactIsMedialRack': WHATEVER THE INPUT: true; the input reads as it did. -/
def fnExactIsMedialRackSpec : ChangeSpec := { name := "fnExactIsMedialRack", fn := fun _ => fun
  | [d] => { results := [.lit (.bool true)], args := [d] }
  | _ => none }
def fnExactIsMedialRackRow : OpenClaim := { program := "ytfbckeoglekndaa", sum := "3de79e7290270614c9591834cb4a090d8d9b61f69a7161574546b5cbdadf2cc7", func := "loop.example/g01119/laws.FnExactIsMedialRack", spec := "fnExactIsMedialRack", unfollowed := true, recurses := true, apart := false }
def FnExactIsMedialRackSaid : Prop := fnExactIsMedialRackRow.holds Try.pinned (OpenSpec.ofChange fnExactIsMedialRackSpec)

/-- ITS FALSE NEIGHBOUR: 'it returns false'. Refute it at one input. -/
def fnExactIsMedialRackWrong : ChangeSpec := { name := "fnExactIsMedialRack", fn := fun _ => fun
  | [d] => { results := [.lit (.bool false)], args := [d] }
  | _ => none }
def FnExactIsMedialRackWrongFalsely : Prop := fnExactIsMedialRackRow.holds Try.pinned (OpenSpec.ofChange fnExactIsMedialRackWrong)

/-- 'laws.FnExactDualRack': WHATEVER THE INPUT: true; the input reads as it did. -/
def fnExactDualRackSpec : ChangeSpec := { name := "fnExactDualRack", fn := fun _ => fun
  | [d] => { results := [.lit (.bool true)], args := [d] }
  | _ => none }
def fnExactDualRackRow : OpenClaim := { program := "ytfbckeoglekndaa", sum := "3de79e7290270614c9591834cb4a090d8d9b61f69a7161574546b5cbdadf2cc7", func := "loop.example/g01119/laws.FnExactDualRack", spec := "fnExactDualRack", unfollowed := true, recurses := true, apart := false }
def FnExactDualRackSaid : Prop := fnExactDualRackRow.holds Try.pinned (OpenSpec.ofChange fnExactDualRackSpec)

/-- ITS FALSE NEIGHBOUR: 'it returns false'. Refute it at one input. -/
def fnExactDualRackWrong : ChangeSpec := { name := "fnExactDualRack", fn := fun _ => fun
  | [d] => { results := [.lit (.bool false)], args := [d] }
  | _ => none }
def FnExactDualRackWrongFalsely : Prop := fnExactDualRackRow.holds Try.pinned (OpenSpec.ofChange fnExactDualRackWrong)

/-- 'laws.FnExactKinkOf': WHATEVER THE INPUT: true; the input reads as it did. -/
def fnExactKinkOfSpec : ChangeSpec := { name := "fnExactKinkOf", fn := fun _ => fun
  | [d] => { results := [.lit (.bool true)], args := [d] }
  | _ => none }
def fnExactKinkOfRow : OpenClaim := { program := "ytfbckeoglekndaa", sum := "3de79e7290270614c9591834cb4a090d8d9b61f69a7161574546b5cbdadf2cc7", func := "loop.example/g01119/laws.FnExactKinkOf", spec := "fnExactKinkOf", apart := false }
def FnExactKinkOfSaid : Prop := fnExactKinkOfRow.holds Try.pinned (OpenSpec.ofChange fnExactKinkOfSpec)

/-- ITS FALSE NEIGHBOUR: 'it returns false'. Refute it at one input. -/
def fnExactKinkOfWrong : ChangeSpec := { name := "fnExactKinkOf", fn := fun _ => fun
  | [d] => { results := [.lit (.bool false)], args := [d] }
  | _ => none }
def FnExactKinkOfWrongFalsely : Prop := fnExactKinkOfRow.holds Try.pinned (OpenSpec.ofChange fnExactKinkOfWrong)

/-- 'laws.FnExactLeastRack': WHATEVER THE INPUT: true; the input reads as it did. -/
def fnExactLeastRackSpec : ChangeSpec := { name := "fnExactLeastRack", fn := fun _ => fun
  | [d] => { results := [.lit (.bool true)], args := [d] }
  | _ => none }
def fnExactLeastRackRow : OpenClaim := { program := "ytfbckeoglekndaa", sum := "3de79e7290270614c9591834cb4a090d8d9b61f69a7161574546b5cbdadf2cc7", func := "loop.example/g01119/laws.FnExactLeastRack", spec := "fnExactLeastRack", unfollowed := true, recurses := true, apart := false }
def FnExactLeastRackSaid : Prop := fnExactLeastRackRow.holds Try.pinned (OpenSpec.ofChange fnExactLeastRackSpec)

/-- ITS FALSE NEIGHBOUR: 'it returns false'. Refute it at one input. -/
def fnExactLeastRackWrong : ChangeSpec := { name := "fnExactLeastRack", fn := fun _ => fun
  | [d] => { results := [.lit (.bool false)], args := [d] }
  | _ => none }
def FnExactLeastRackWrongFalsely : Prop := fnExactLeastRackRow.holds Try.pinned (OpenSpec.ofChange fnExactLeastRackWrong)

/-- 'laws.FnExactRackText': WHATEVER THE INPUT: true; the input reads as it did. -/
def fnExactRackTextSpec : ChangeSpec := { name := "fnExactRackText", fn := fun _ => fun
  | [d] => { results := [.lit (.bool true)], args := [d] }
  | _ => none }
def fnExactRackTextRow : OpenClaim := { program := "ytfbckeoglekndaa", sum := "3de79e7290270614c9591834cb4a090d8d9b61f69a7161574546b5cbdadf2cc7", func := "loop.example/g01119/laws.FnExactRackText", spec := "fnExactRackText", inPlace := ["internal/abi.NoEscape", "internal/bytealg.MakeNoZero"], apart := false }
def FnExactRackTextSaid : Prop := fnExactRackTextRow.holds Try.pinned (OpenSpec.ofChange fnExactRackTextSpec)

/-- ITS FALSE NEIGHBOUR: 'it returns false'. Refute it at one input. -/
def fnExactRackTextWrong : ChangeSpec := { name := "fnExactRackText", fn := fun _ => fun
  | [d] => { results := [.lit (.bool false)], args := [d] }
  | _ => none }
def FnExactRackTextWrongFalsely : Prop := fnExactRackTextRow.holds Try.pinned (OpenSpec.ofChange fnExactRackTextWrong)

/- THE SECOND FORM. 'bulk': how many values and letters a reading holds, each counted each time it is reached (what is shared counts as often as it is met; a slice's spare places count too). A statement '..UptoSaid' is the law's where the arguments, and the package variables that the reading takes, are together of bulk at most 1048576: NARROWER than '..Said'. Prove '..Said' where nothing that the law and all that it calls make is longer than what came in: it says more and counts as full. Else prove '..UptoSaid'. A law counts once. -/
mutual
def uptoBulk {H : Type} : DataW H → Nat
  | .lit (.string bytes) => bytes.length + 1
  | .lit _ => 1
  | .nil => 1
  | .ptr d => uptoBulk d + 1
  | .slice elems spare => uptoBulkAll elems + uptoBulkAll spare + 1
  | .agg parts => uptoBulkAll parts + 1
  | .iface _ d => uptoBulk d + 1
  | .map entries => uptoBulkEntries entries + 1
  | .held _ => 1
def uptoBulkAll {H : Type} : List (DataW H) → Nat
  | [] => 0
  | d :: r => uptoBulk d + uptoBulkAll r
def uptoBulkEntries {H : Type} : List (Lit × DataW H) → Nat
  | [] => 0
  | x :: r => uptoBulkEntry x + uptoBulkEntries r
def uptoBulkEntry {H : Type} : Lit × DataW H → Nat
  | (.string bytes, d) => bytes.length + uptoBulk d + 1
  | (_, d) => uptoBulk d + 1
 end
def uptoSmall : (H : Type) → List (DataW H) → Bool := fun _ ds => decide (uptoBulkAll ds ≤ 1048576)
def OpenSpec.upto (s : _root_.Go.ChangeSpec) : _root_.Go.OpenSpec := { _root_.Go.OpenSpec.ofChange s with cond := some uptoSmall }

/-- 'laws.FnExactIsRack', WHERE WHAT IT READS IS OF BULK AT MOST 1048576: true; the input reads as it did. -/
def fnExactIsRackUptoRow : OpenClaim := { program := "ytfbckeoglekndaa", sum := "3de79e7290270614c9591834cb4a090d8d9b61f69a7161574546b5cbdadf2cc7", func := "loop.example/g01119/laws.FnExactIsRack", spec := "fnExactIsRack", apart := false, narrowed := true }
def FnExactIsRackUptoSaid : Prop := fnExactIsRackUptoRow.holds Try.pinned (OpenSpec.upto fnExactIsRackSpec)

/-- 'laws.FnExactRackFault', WHERE WHAT IT READS IS OF BULK AT MOST 1048576: true; the input reads as it did. -/
def fnExactRackFaultUptoRow : OpenClaim := { program := "ytfbckeoglekndaa", sum := "3de79e7290270614c9591834cb4a090d8d9b61f69a7161574546b5cbdadf2cc7", func := "loop.example/g01119/laws.FnExactRackFault", spec := "fnExactRackFault", apart := false, narrowed := true }
def FnExactRackFaultUptoSaid : Prop := fnExactRackFaultUptoRow.holds Try.pinned (OpenSpec.upto fnExactRackFaultSpec)

/-- 'laws.FnExactIsQuandle', WHERE WHAT IT READS IS OF BULK AT MOST 1048576: true; the input reads as it did. -/
def fnExactIsQuandleUptoRow : OpenClaim := { program := "ytfbckeoglekndaa", sum := "3de79e7290270614c9591834cb4a090d8d9b61f69a7161574546b5cbdadf2cc7", func := "loop.example/g01119/laws.FnExactIsQuandle", spec := "fnExactIsQuandle", unfollowed := true, recurses := true, apart := false, narrowed := true }
def FnExactIsQuandleUptoSaid : Prop := fnExactIsQuandleUptoRow.holds Try.pinned (OpenSpec.upto fnExactIsQuandleSpec)

/-- 'laws.FnExactRackSolution', WHERE WHAT IT READS IS OF BULK AT MOST 1048576: true; the input reads as it did. -/
def fnExactRackSolutionUptoRow : OpenClaim := { program := "ytfbckeoglekndaa", sum := "3de79e7290270614c9591834cb4a090d8d9b61f69a7161574546b5cbdadf2cc7", func := "loop.example/g01119/laws.FnExactRackSolution", spec := "fnExactRackSolution", unfollowed := true, recurses := true, apart := false, narrowed := true }
def FnExactRackSolutionUptoSaid : Prop := fnExactRackSolutionUptoRow.holds Try.pinned (OpenSpec.upto fnExactRackSolutionSpec)

/-- 'laws.FnExactRackOrbits', WHERE WHAT IT READS IS OF BULK AT MOST 1048576: true; the input reads as it did. -/
def fnExactRackOrbitsUptoRow : OpenClaim := { program := "ytfbckeoglekndaa", sum := "3de79e7290270614c9591834cb4a090d8d9b61f69a7161574546b5cbdadf2cc7", func := "loop.example/g01119/laws.FnExactRackOrbits", spec := "fnExactRackOrbits", apart := false, narrowed := true }
def FnExactRackOrbitsUptoSaid : Prop := fnExactRackOrbitsUptoRow.holds Try.pinned (OpenSpec.upto fnExactRackOrbitsSpec)

/-- 'laws.FnExactIsLatinRack', WHERE WHAT IT READS IS OF BULK AT MOST 1048576: true; the input reads as it did. -/
def fnExactIsLatinRackUptoRow : OpenClaim := { program := "ytfbckeoglekndaa", sum := "3de79e7290270614c9591834cb4a090d8d9b61f69a7161574546b5cbdadf2cc7", func := "loop.example/g01119/laws.FnExactIsLatinRack", spec := "fnExactIsLatinRack", unfollowed := true, recurses := true, apart := false, narrowed := true }
def FnExactIsLatinRackUptoSaid : Prop := fnExactIsLatinRackUptoRow.holds Try.pinned (OpenSpec.upto fnExactIsLatinRackSpec)

/-- 'laws.FnExactIsInvolutoryRack', WHERE WHAT IT READS IS OF BULK AT MOST 1048576: true; the input reads as it did. -/
def fnExactIsInvolutoryRackUptoRow : OpenClaim := { program := "ytfbckeoglekndaa", sum := "3de79e7290270614c9591834cb4a090d8d9b61f69a7161574546b5cbdadf2cc7", func := "loop.example/g01119/laws.FnExactIsInvolutoryRack", spec := "fnExactIsInvolutoryRack", unfollowed := true, recurses := true, apart := false, narrowed := true }
def FnExactIsInvolutoryRackUptoSaid : Prop := fnExactIsInvolutoryRackUptoRow.holds Try.pinned (OpenSpec.upto fnExactIsInvolutoryRackSpec)

/-- 'laws.FnExactIsMedialRack', WHERE WHAT IT READS IS OF BULK AT MOST 1048576: true; the input reads as it did. -/
def fnExactIsMedialRackUptoRow : OpenClaim := { program := "ytfbckeoglekndaa", sum := "3de79e7290270614c9591834cb4a090d8d9b61f69a7161574546b5cbdadf2cc7", func := "loop.example/g01119/laws.FnExactIsMedialRack", spec := "fnExactIsMedialRack", unfollowed := true, recurses := true, apart := false, narrowed := true }
def FnExactIsMedialRackUptoSaid : Prop := fnExactIsMedialRackUptoRow.holds Try.pinned (OpenSpec.upto fnExactIsMedialRackSpec)

/-- 'laws.FnExactDualRack', WHERE WHAT IT READS IS OF BULK AT MOST 1048576: true; the input reads as it did. -/
def fnExactDualRackUptoRow : OpenClaim := { program := "ytfbckeoglekndaa", sum := "3de79e7290270614c9591834cb4a090d8d9b61f69a7161574546b5cbdadf2cc7", func := "loop.example/g01119/laws.FnExactDualRack", spec := "fnExactDualRack", unfollowed := true, recurses := true, apart := false, narrowed := true }
def FnExactDualRackUptoSaid : Prop := fnExactDualRackUptoRow.holds Try.pinned (OpenSpec.upto fnExactDualRackSpec)

/-- 'laws.FnExactKinkOf', WHERE WHAT IT READS IS OF BULK AT MOST 1048576: true; the input reads as it did. -/
def fnExactKinkOfUptoRow : OpenClaim := { program := "ytfbckeoglekndaa", sum := "3de79e7290270614c9591834cb4a090d8d9b61f69a7161574546b5cbdadf2cc7", func := "loop.example/g01119/laws.FnExactKinkOf", spec := "fnExactKinkOf", apart := false, narrowed := true }
def FnExactKinkOfUptoSaid : Prop := fnExactKinkOfUptoRow.holds Try.pinned (OpenSpec.upto fnExactKinkOfSpec)

/-- 'laws.FnExactLeastRack', WHERE WHAT IT READS IS OF BULK AT MOST 1048576: true; the input reads as it did. -/
def fnExactLeastRackUptoRow : OpenClaim := { program := "ytfbckeoglekndaa", sum := "3de79e7290270614c9591834cb4a090d8d9b61f69a7161574546b5cbdadf2cc7", func := "loop.example/g01119/laws.FnExactLeastRack", spec := "fnExactLeastRack", unfollowed := true, recurses := true, apart := false, narrowed := true }
def FnExactLeastRackUptoSaid : Prop := fnExactLeastRackUptoRow.holds Try.pinned (OpenSpec.upto fnExactLeastRackSpec)

/-- 'laws.FnExactRackText', WHERE WHAT IT READS IS OF BULK AT MOST 1048576: true; the input reads as it did. -/
def fnExactRackTextUptoRow : OpenClaim := { program := "ytfbckeoglekndaa", sum := "3de79e7290270614c9591834cb4a090d8d9b61f69a7161574546b5cbdadf2cc7", func := "loop.example/g01119/laws.FnExactRackText", spec := "fnExactRackText", inPlace := ["internal/abi.NoEscape", "internal/bytealg.MakeNoZero"], apart := false, narrowed := true }
def FnExactRackTextUptoSaid : Prop := fnExactRackTextUptoRow.holds Try.pinned (OpenSpec.upto fnExactRackTextSpec)

end Rows
end Go.Proofs.Ytfbckeoglekndaa
