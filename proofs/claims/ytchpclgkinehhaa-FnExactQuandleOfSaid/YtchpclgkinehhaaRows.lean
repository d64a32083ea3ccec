/-
  No cell of these rows narrows 'for every input' (looked for: loops, veiled, ifaces, maps, wideKeys, modest, calm, conditions, laid).
  DERIVED. THE GIVEN ROWS OF THIS SEAT. 12 by the template 'for every input the law returns true; each argument reads behind the call as it read before'; 0 by the template 'total and deterministic' (their statements: YtchpclgkinehhaaTotals.lean).
  GIVEN WITH THE SEED: the statements are not yours to turn. If you find one false, say at which input.
  Laid BY PROGRAM, IN A SANDBOX (cutbox-rows.mjs): the forced cells as the released guide's own fill.sh prints them over the translation 0f146480d8996d99… (all of the seat's roots in one cut). By AI agents, Wed Nov 11 2026. No macro, syntax, notation, axiom, sorry.
-/
import Derived.Test.YtchpclgkinehhaaChecked
import GoSem.Claim
import GoSem.ClaimJoined
import GoSem.ClaimMapViews
import Derived.JoinedTies
import Derived.KernelRfl
namespace Go.Proofs.Ytchpclgkinehhaa
/- THE CELL 'sum', in the pinned program and in every row, IS THE sha256 OF THE DUMP (.gsa) THAT YtchpclgkinehhaaProg.lean LOADS. Nothing in Lean hashes anything: it is a label: what it is worth is what the hold of that sum in a sandbox is worth. -/
noncomputable def Try.pinned : Pinned := { name := "ytchpclgkinehhaa", sum := "0f146480d8996d9912c844b20b759291ce1f312ac8ac7327c126ff3994f00bfb", checked := Try.checked }
namespace Rows
def none {H : Type} : Left H := { results := [], args := [] }

/-- 'laws.FnExactIsRack': WHATEVER THE INPUT: true; the input reads as it did. -/
def fnExactIsRackSpec : ChangeSpec := { name := "fnExactIsRack", fn := fun _ => fun
  | [d] => { results := [.lit (.bool true)], args := [d] }
  | _ => none }
def fnExactIsRackRow : OpenClaim := { program := "ytchpclgkinehhaa", sum := "0f146480d8996d9912c844b20b759291ce1f312ac8ac7327c126ff3994f00bfb", func := "loop.example/g01119/laws.FnExactIsRack", spec := "fnExactIsRack", unfollowed := true, recurses := true, apart := false }
def FnExactIsRackSaid : Prop := fnExactIsRackRow.holds Try.pinned (OpenSpec.ofChange fnExactIsRackSpec)

/-- ITS FALSE NEIGHBOUR: 'it returns false'. Refute it at one input. -/
def fnExactIsRackWrong : ChangeSpec := { name := "fnExactIsRack", fn := fun _ => fun
  | [d] => { results := [.lit (.bool false)], args := [d] }
  | _ => none }
def FnExactIsRackWrongFalsely : Prop := fnExactIsRackRow.holds Try.pinned (OpenSpec.ofChange fnExactIsRackWrong)

/-- 'laws.FnExactRackFault': WHATEVER THE INPUT: true; the input reads as it did. -/
def fnExactRackFaultSpec : ChangeSpec := { name := "fnExactRackFault", fn := fun _ => fun
  | [d] => { results := [.lit (.bool true)], args := [d] }
  | _ => none }
def fnExactRackFaultRow : OpenClaim := { program := "ytchpclgkinehhaa", sum := "0f146480d8996d9912c844b20b759291ce1f312ac8ac7327c126ff3994f00bfb", func := "loop.example/g01119/laws.FnExactRackFault", spec := "fnExactRackFault", unfollowed := true, recurses := true, apart := false }
def FnExactRackFaultSaid : Prop := fnExactRackFaultRow.holds Try.pinned (OpenSpec.ofChange fnExactRackFaultSpec)

/-- ITS FALSE NEIGHBOUR: 'it returns false'. Refute it at one input. -/
def fnExactRackFaultWrong : ChangeSpec := { name := "fnExactRackFault", fn := fun _ => fun
  | [d] => { results := [.lit (.bool false)], args := [d] }
  | _ => none }
def FnExactRackFaultWrongFalsely : Prop := fnExactRackFaultRow.holds Try.pinned (OpenSpec.ofChange fnExactRackFaultWrong)

/-- 'laws.FnExactIsQuandle': WHATEVER THE INPUT: true; the input reads as it did. -/
def fnExactIsQuandleSpec : ChangeSpec := { name := "fnExactIsQuandle", fn := fun _ => fun
  | [d] => { results := [.lit (.bool true)], args := [d] }
  | _ => none }
def fnExactIsQuandleRow : OpenClaim := { program := "ytchpclgkinehhaa", sum := "0f146480d8996d9912c844b20b759291ce1f312ac8ac7327c126ff3994f00bfb", func := "loop.example/g01119/laws.FnExactIsQuandle", spec := "fnExactIsQuandle", unfollowed := true, recurses := true, apart := false }
def FnExactIsQuandleSaid : Prop := fnExactIsQuandleRow.holds Try.pinned (OpenSpec.ofChange fnExactIsQuandleSpec)

/-- ITS FALSE NEIGHBOUR: 'it returns false'. Refute it at one input. -/
def fnExactIsQuandleWrong : ChangeSpec := { name := "fnExactIsQuandle", fn := fun _ => fun
  | [d] => { results := [.lit (.bool false)], args := [d] }
  | _ => none }
def FnExactIsQuandleWrongFalsely : Prop := fnExactIsQuandleRow.holds Try.pinned (OpenSpec.ofChange fnExactIsQuandleWrong)

/-- 'laws.FnExactRackSolution': WHATEVER THE INPUT: true; the input reads as it did. -/
def fnExactRackSolutionSpec : ChangeSpec := { name := "fnExactRackSolution", fn := fun _ => fun
  | [d] => { results := [.lit (.bool true)], args := [d] }
  | _ => none }
def fnExactRackSolutionRow : OpenClaim := { program := "ytchpclgkinehhaa", sum := "0f146480d8996d9912c844b20b759291ce1f312ac8ac7327c126ff3994f00bfb", func := "loop.example/g01119/laws.FnExactRackSolution", spec := "fnExactRackSolution", unfollowed := true, recurses := true, apart := false }
def FnExactRackSolutionSaid : Prop := fnExactRackSolutionRow.holds Try.pinned (OpenSpec.ofChange fnExactRackSolutionSpec)

/-- ITS FALSE NEIGHBOUR: 'it returns false'. Refute it at one input. -/
def fnExactRackSolutionWrong : ChangeSpec := { name := "fnExactRackSolution", fn := fun _ => fun
  | [d] => { results := [.lit (.bool false)], args := [d] }
  | _ => none }
def FnExactRackSolutionWrongFalsely : Prop := fnExactRackSolutionRow.holds Try.pinned (OpenSpec.ofChange fnExactRackSolutionWrong)

/-- 'laws.FnExactIsLatinRack': WHATEVER THE INPUT: true; the input reads as it did. -/
def fnExactIsLatinRackSpec : ChangeSpec := { name := "fnExactIsLatinRack", fn := fun _ => fun
  | [d] => { results := [.lit (.bool true)], args := [d] }
  | _ => none }
def fnExactIsLatinRackRow : OpenClaim := { program := "ytchpclgkinehhaa", sum := "0f146480d8996d9912c844b20b759291ce1f312ac8ac7327c126ff3994f00bfb", func := "loop.example/g01119/laws.FnExactIsLatinRack", spec := "fnExactIsLatinRack", unfollowed := true, recurses := true, apart := false }
def FnExactIsLatinRackSaid : Prop := fnExactIsLatinRackRow.holds Try.pinned (OpenSpec.ofChange fnExactIsLatinRackSpec)

/-- ITS FALSE NEIGHBOUR: 'it returns false'. Refute it at one input. -/
def fnExactIsLatinRackWrong : ChangeSpec := { name := "fnExactIsLatinRack", fn := fun _ => fun
  | [d] => { results := [.lit (.bool false)], args := [d] }
  | _ => none }
def FnExactIsLatinRackWrongFalsely : Prop := fnExactIsLatinRackRow.holds Try.pinned (OpenSpec.ofChange fnExactIsLatinRackWrong)

/-- 'laws.FnExactIsFaithfulRack': WHATEVER THE INPUT: true; the input reads as it did. -/
def fnExactIsFaithfulRackSpec : ChangeSpec := { name := "fnExactIsFaithfulRack", fn := fun _ => fun
  | [d] => { results := [.lit (.bool true)], args := [d] }
  | _ => none }
def fnExactIsFaithfulRackRow : OpenClaim := { program := "ytchpclgkinehhaa", sum := "0f146480d8996d9912c844b20b759291ce1f312ac8ac7327c126ff3994f00bfb", func := "loop.example/g01119/laws.FnExactIsFaithfulRack", spec := "fnExactIsFaithfulRack", unfollowed := true, recurses := true, apart := false }
def FnExactIsFaithfulRackSaid : Prop := fnExactIsFaithfulRackRow.holds Try.pinned (OpenSpec.ofChange fnExactIsFaithfulRackSpec)

/-- ITS FALSE NEIGHBOUR: 'it returns false'. Refute it at one input. -/
def fnExactIsFaithfulRackWrong : ChangeSpec := { name := "fnExactIsFaithfulRack", fn := fun _ => fun
  | [d] => { results := [.lit (.bool false)], args := [d] }
  | _ => none }
def FnExactIsFaithfulRackWrongFalsely : Prop := fnExactIsFaithfulRackRow.holds Try.pinned (OpenSpec.ofChange fnExactIsFaithfulRackWrong)

/-- 'laws.FnExactIsInvolutoryRack': WHATEVER THE INPUT: true; the input reads as it did. -/
def fnExactIsInvolutoryRackSpec : ChangeSpec := { name := "fnExactIsInvolutoryRack", fn := fun _ => fun
  | [d] => { results := [.lit (.bool true)], args := [d] }
  | _ => none }
def fnExactIsInvolutoryRackRow : OpenClaim := { program := "ytchpclgkinehhaa", sum := "0f146480d8996d9912c844b20b759291ce1f312ac8ac7327c126ff3994f00bfb", func := "loop.example/g01119/laws.FnExactIsInvolutoryRack", spec := "fnExactIsInvolutoryRack", unfollowed := true, recurses := true, apart := false }
def FnExactIsInvolutoryRackSaid : Prop := fnExactIsInvolutoryRackRow.holds Try.pinned (OpenSpec.ofChange fnExactIsInvolutoryRackSpec)

/-- ITS FALSE NEIGHBOUR: 'it returns false'. Refute it at one input. -/
def fnExactIsInvolutoryRackWrong : ChangeSpec := { name := "fnExactIsInvolutoryRack", fn := fun _ => fun
  | [d] => { results := [.lit (.bool false)], args := [d] }
  | _ => none }
def FnExactIsInvolutoryRackWrongFalsely : Prop := fnExactIsInvolutoryRackRow.holds Try.pinned (OpenSpec.ofChange fnExactIsInvolutoryRackWrong)

/-- 'laws.FnExactIsMedialRack': WHATEVER THE INPUT: true; the input reads as it did. -/
def fnExactIsMedialRackSpec : ChangeSpec := { name := "fnExactIsMedialRack", fn := fun _ => fun
  | [d] => { results := [.lit (.bool true)], args := [d] }
  | _ => none }
def fnExactIsMedialRackRow : OpenClaim := { program := "ytchpclgkinehhaa", sum := "0f146480d8996d9912c844b20b759291ce1f312ac8ac7327c126ff3994f00bfb", func := "loop.example/g01119/laws.FnExactIsMedialRack", spec := "fnExactIsMedialRack", unfollowed := true, recurses := true, apart := false }
def FnExactIsMedialRackSaid : Prop := fnExactIsMedialRackRow.holds Try.pinned (OpenSpec.ofChange fnExactIsMedialRackSpec)

/-- ITS FALSE NEIGHBOUR: 'it returns false'. Refute it at one input. -/
def fnExactIsMedialRackWrong : ChangeSpec := { name := "fnExactIsMedialRack", fn := fun _ => fun
  | [d] => { results := [.lit (.bool false)], args := [d] }
  | _ => none }
def FnExactIsMedialRackWrongFalsely : Prop := fnExactIsMedialRackRow.holds Try.pinned (OpenSpec.ofChange fnExactIsMedialRackWrong)

/-- 'laws.FnExactDualRack': WHATEVER THE INPUT: true; the input reads as it did. -/
def fnExactDualRackSpec : ChangeSpec := { name := "fnExactDualRack", fn := fun _ => fun
  | [d] => { results := [.lit (.bool true)], args := [d] }
  | _ => none }
def fnExactDualRackRow : OpenClaim := { program := "ytchpclgkinehhaa", sum := "0f146480d8996d9912c844b20b759291ce1f312ac8ac7327c126ff3994f00bfb", func := "loop.example/g01119/laws.FnExactDualRack", spec := "fnExactDualRack", unfollowed := true, recurses := true, apart := false }
def FnExactDualRackSaid : Prop := fnExactDualRackRow.holds Try.pinned (OpenSpec.ofChange fnExactDualRackSpec)

/-- ITS FALSE NEIGHBOUR: 'it returns false'. Refute it at one input. -/
def fnExactDualRackWrong : ChangeSpec := { name := "fnExactDualRack", fn := fun _ => fun
  | [d] => { results := [.lit (.bool false)], args := [d] }
  | _ => none }
def FnExactDualRackWrongFalsely : Prop := fnExactDualRackRow.holds Try.pinned (OpenSpec.ofChange fnExactDualRackWrong)

/-- 'laws.FnExactKinkOf': WHATEVER THE INPUT: true; the input reads as it did. -/
def fnExactKinkOfSpec : ChangeSpec := { name := "fnExactKinkOf", fn := fun _ => fun
  | [d] => { results := [.lit (.bool true)], args := [d] }
  | _ => none }
def fnExactKinkOfRow : OpenClaim := { program := "ytchpclgkinehhaa", sum := "0f146480d8996d9912c844b20b759291ce1f312ac8ac7327c126ff3994f00bfb", func := "loop.example/g01119/laws.FnExactKinkOf", spec := "fnExactKinkOf", unfollowed := true, recurses := true, apart := false }
def FnExactKinkOfSaid : Prop := fnExactKinkOfRow.holds Try.pinned (OpenSpec.ofChange fnExactKinkOfSpec)

/-- ITS FALSE NEIGHBOUR: 'it returns false'. Refute it at one input. -/
def fnExactKinkOfWrong : ChangeSpec := { name := "fnExactKinkOf", fn := fun _ => fun
  | [d] => { results := [.lit (.bool false)], args := [d] }
  | _ => none }
def FnExactKinkOfWrongFalsely : Prop := fnExactKinkOfRow.holds Try.pinned (OpenSpec.ofChange fnExactKinkOfWrong)

/-- 'laws.FnExactQuandleOf': WHATEVER THE INPUT: true; the input reads as it did. -/
def fnExactQuandleOfSpec : ChangeSpec := { name := "fnExactQuandleOf", fn := fun _ => fun
  | [d] => { results := [.lit (.bool true)], args := [d] }
  | _ => none }
def fnExactQuandleOfRow : OpenClaim := { program := "ytchpclgkinehhaa", sum := "0f146480d8996d9912c844b20b759291ce1f312ac8ac7327c126ff3994f00bfb", func := "loop.example/g01119/laws.FnExactQuandleOf", spec := "fnExactQuandleOf", unfollowed := true, recurses := true, apart := false }
def FnExactQuandleOfSaid : Prop := fnExactQuandleOfRow.holds Try.pinned (OpenSpec.ofChange fnExactQuandleOfSpec)

/-- ITS FALSE NEIGHBOUR: 'it returns false'. Refute it at one input. -/
def fnExactQuandleOfWrong : ChangeSpec := { name := "fnExactQuandleOf", fn := fun _ => fun
  | [d] => { results := [.lit (.bool false)], args := [d] }
  | _ => none }
def FnExactQuandleOfWrongFalsely : Prop := fnExactQuandleOfRow.holds Try.pinned (OpenSpec.ofChange fnExactQuandleOfWrong)

/-- 'laws.FnExactRenameSolution': WHATEVER THE INPUT: true; the input reads as it did. -/
def fnExactRenameSolutionSpec : ChangeSpec := { name := "fnExactRenameSolution", fn := fun _ => fun
  | [d1, d2] => { results := [.lit (.bool true)], args := [d1, d2] }
  | _ => none }
def fnExactRenameSolutionRow : OpenClaim := { program := "ytchpclgkinehhaa", sum := "0f146480d8996d9912c844b20b759291ce1f312ac8ac7327c126ff3994f00bfb", func := "loop.example/g01119/laws.FnExactRenameSolution", spec := "fnExactRenameSolution", apart := false }
def FnExactRenameSolutionSaid : Prop := fnExactRenameSolutionRow.holds Try.pinned (OpenSpec.ofChange fnExactRenameSolutionSpec)

/-- ITS FALSE NEIGHBOUR: 'it returns false'. Refute it at one input. -/
def fnExactRenameSolutionWrong : ChangeSpec := { name := "fnExactRenameSolution", fn := fun _ => fun
  | [d1, d2] => { results := [.lit (.bool false)], args := [d1, d2] }
  | _ => none }
def FnExactRenameSolutionWrongFalsely : Prop := fnExactRenameSolutionRow.holds Try.pinned (OpenSpec.ofChange fnExactRenameSolutionWrong)

/- THE SECOND FORM. 'bulk': how many values and letters a reading holds, each counted each time it is reached (what is shared counts as often as it is met; a slice's spare places count too). A statement '..UptoSaid' is the law's where the arguments, and the package variables that the reading takes, are together of bulk at most 1048576: NARROWER than '..Said'. Prove '..Said' where nothing that the law and all that it calls make is longer than what came in: it says more and counts as full. Else prove '..UptoSaid'. A law counts once. -/
mutual
def uptoBulk {H : Type} : DataW H → Nat
  | .lit (.string bytes) => bytes.length + 1
  | .lit _ => 1
  | .nil => 1
  | .ptr d => uptoBulk d + 1
  | .slice elems spare => uptoBulkAll elems + uptoBulkAll spare + 1
  | .agg parts => uptoBulkAll parts + 1
  | .iface _ d => uptoBulk d + 1
  | .map entries => uptoBulkEntries entries + 1
  | .held _ => 1
def uptoBulkAll {H : Type} : List (DataW H) → Nat
  | [] => 0
  | d :: r => uptoBulk d + uptoBulkAll r
def uptoBulkEntries {H : Type} : List (Lit × DataW H) → Nat
  | [] => 0
  | x :: r => uptoBulkEntry x + uptoBulkEntries r
def uptoBulkEntry {H : Type} : Lit × DataW H → Nat
  | (.string bytes, d) => bytes.length + uptoBulk d + 1
  | (_, d) => uptoBulk d + 1
 end
def uptoSmall : (H : Type) → List (DataW H) → Bool := fun _ ds => decide (uptoBulkAll ds ≤ 1048576)
def OpenSpec.upto (s : _root_.Go.ChangeSpec) : _root_.Go.OpenSpec := { _root_.Go.OpenSpec.ofChange s with cond := some uptoSmall }

/-- 'laws.FnExactIsRack', WHERE WHAT IT READS IS OF BULK AT MOST 1048576: true; the input reads as it did. -/
def fnExactIsRackUptoRow : OpenClaim := { program := "ytchpclgkinehhaa", sum := "0f146480d8996d9912c844b20b759291ce1f312ac8ac7327c126ff3994f00bfb", func := "loop.example/g01119/laws.FnExactIsRack", spec := "fnExactIsRack", unfollowed := true, recurses := true, apart := false, narrowed := true }
def FnExactIsRackUptoSaid : Prop := fnExactIsRackUptoRow.holds Try.pinned (OpenSpec.upto fnExactIsRackSpec)

/-- 'laws.FnExactRackFault', WHERE WHAT IT READS IS OF BULK AT MOST 1048576: true; the input reads as it did. -/
def fnExactRackFaultUptoRow : OpenClaim := { program := "ytchpclgkinehhaa", sum := "0f146480d8996d9912c844b20b759291ce1f312ac8ac7327c126ff3994f00bfb", func := "loop.example/g01119/laws.FnExactRackFault", spec := "fnExactRackFault", unfollowed := true, recurses := true, apart := false, narrowed := true }
def FnExactRackFaultUptoSaid : Prop := fnExactRackFaultUptoRow.holds Try.pinned (OpenSpec.upto fnExactRackFaultSpec)

/-- 'laws.FnExactIsQuandle', WHERE WHAT IT READS IS OF BULK AT MOST 1048576: true; the input reads as it did. -/
def fnExactIsQuandleUptoRow : OpenClaim := { program := "ytchpclgkinehhaa", sum := "0f146480d8996d9912c844b20b759291ce1f312ac8ac7327c126ff3994f00bfb", func := "loop.example/g01119/laws.FnExactIsQuandle", spec := "fnExactIsQuandle", unfollowed := true, recurses := true, apart := false, narrowed := true }
def FnExactIsQuandleUptoSaid : Prop := fnExactIsQuandleUptoRow.holds Try.pinned (OpenSpec.upto fnExactIsQuandleSpec)

/-- 'laws.FnExactRackSolution', WHERE WHAT IT READS IS OF BULK AT MOST 1048576: true; the input reads as it did. -/
def fnExactRackSolutionUptoRow : OpenClaim := { program := "ytchpclgkinehhaa", sum := "0f146480d8996d9912c844b20b759291ce1f312ac8ac7327c126ff3994f00bfb", func := "loop.example/g01119/laws.FnExactRackSolution", spec := "fnExactRackSolution", unfollowed := true, recurses := true, apart := false, narrowed := true }
def FnExactRackSolutionUptoSaid : Prop := fnExactRackSolutionUptoRow.holds Try.pinned (OpenSpec.upto fnExactRackSolutionSpec)

/-- 'laws.FnExactIsLatinRack', WHERE WHAT IT READS IS OF BULK AT MOST 1048576: true; the input reads as it did. -/
def fnExactIsLatinRackUptoRow : OpenClaim := { program := "ytchpclgkinehhaa", sum := "0f146480d8996d9912c844b20b759291ce1f312ac8ac7327c126ff3994f00bfb", func := "loop.example/g01119/laws.FnExactIsLatinRack", spec := "fnExactIsLatinRack", unfollowed := true, recurses := true, apart := false, narrowed := true }
def FnExactIsLatinRackUptoSaid : Prop := fnExactIsLatinRackUptoRow.holds Try.pinned (OpenSpec.upto fnExactIsLatinRackSpec)

/-- 'laws.FnExactIsFaithfulRack', WHERE WHAT IT READS IS OF BULK AT MOST 1048576: true; the input reads as it did. -/
def fnExactIsFaithfulRackUptoRow : OpenClaim := { program := "ytchpclgkinehhaa", sum := "0f146480d8996d9912c844b20b759291ce1f312ac8ac7327c126ff3994f00bfb", func := "loop.example/g01119/laws.FnExactIsFaithfulRack", spec := "fnExactIsFaithfulRack", unfollowed := true, recurses := true, apart := false, narrowed := true }
def FnExactIsFaithfulRackUptoSaid : Prop := fnExactIsFaithfulRackUptoRow.holds Try.pinned (OpenSpec.upto fnExactIsFaithfulRackSpec)

/-- 'laws.FnExactIsInvolutoryRack', WHERE WHAT IT READS IS OF BULK AT MOST 1048576: true; the input reads as it did. -/
def fnExactIsInvolutoryRackUptoRow : OpenClaim := { program := "ytchpclgkinehhaa", sum := "0f146480d8996d9912c844b20b759291ce1f312ac8ac7327c126ff3994f00bfb", func := "loop.example/g01119/laws.FnExactIsInvolutoryRack", spec := "fnExactIsInvolutoryRack", unfollowed := true, recurses := true, apart := false, narrowed := true }
def FnExactIsInvolutoryRackUptoSaid : Prop := fnExactIsInvolutoryRackUptoRow.holds Try.pinned (OpenSpec.upto fnExactIsInvolutoryRackSpec)

/-- 'laws.FnExactIsMedialRack', WHERE WHAT IT READS IS OF BULK AT MOST 1048576: true; the input reads as it did. -/
def fnExactIsMedialRackUptoRow : OpenClaim := { program := "ytchpclgkinehhaa", sum := "0f146480d8996d9912c844b20b759291ce1f312ac8ac7327c126ff3994f00bfb", func := "loop.example/g01119/laws.FnExactIsMedialRack", spec := "fnExactIsMedialRack", unfollowed := true, recurses := true, apart := false, narrowed := true }
def FnExactIsMedialRackUptoSaid : Prop := fnExactIsMedialRackUptoRow.holds Try.pinned (OpenSpec.upto fnExactIsMedialRackSpec)

/-- 'laws.FnExactDualRack', WHERE WHAT IT READS IS OF BULK AT MOST 1048576: true; the input reads as it did. -/
def fnExactDualRackUptoRow : OpenClaim := { program := "ytchpclgkinehhaa", sum := "0f146480d8996d9912c844b20b759291ce1f312ac8ac7327c126ff3994f00bfb", func := "loop.example/g01119/laws.FnExactDualRack", spec := "fnExactDualRack", unfollowed := true, recurses := true, apart := false, narrowed := true }
def FnExactDualRackUptoSaid : Prop := fnExactDualRackUptoRow.holds Try.pinned (OpenSpec.upto fnExactDualRackSpec)

/-- 'laws.FnExactKinkOf', WHERE WHAT IT READS IS OF BULK AT MOST 1048576: true; the input reads as it did. -/
def fnExactKinkOfUptoRow : OpenClaim := { program := "ytchpclgkinehhaa", sum := "0f146480d8996d9912c844b20b759291ce1f312ac8ac7327c126ff3994f00bfb", func := "loop.example/g01119/laws.FnExactKinkOf", spec := "fnExactKinkOf", unfollowed := true, recurses := true, apart := false, narrowed := true }
def FnExactKinkOfUptoSaid : Prop := fnExactKinkOfUptoRow.holds Try.pinned (OpenSpec.upto fnExactKinkOfSpec)

/-- 'laws.FnExactQuandleOf', WHERE WHAT IT READS IS OF BULK AT MOST 1048576: true; the input reads as it did. -/
def fnExactQuandleOfUptoRow : OpenClaim := { program := "ytchpclgkinehhaa", sum := "0f146480d8996d9912c844b20b759291ce1f312ac8ac7327c126ff3994f00bfb", func := "loop.example/g01119/laws.FnExactQuandleOf", spec := "fnExactQuandleOf", unfollowed := true, recurses := true, apart := false, narrowed := true }
def FnExactQuandleOfUptoSaid : Prop := fnExactQuandleOfUptoRow.holds Try.pinned (OpenSpec.upto fnExactQuandleOfSpec)

/-- 'laws.FnExactRenameSolution', WHERE WHAT IT READS IS OF BULK AT MOST 1048576: true; the input reads as it did. -/
def fnExactRenameSolutionUptoRow : OpenClaim := { program := "ytchpclgkinehhaa", sum := "0f146480d8996d9912c844b20b759291ce1f312ac8ac7327c126ff3994f00bfb", func := "loop.example/g01119/laws.FnExactRenameSolution", spec := "fnExactRenameSolution", apart := false, narrowed := true }
def FnExactRenameSolutionUptoSaid : Prop := fnExactRenameSolutionUptoRow.holds Try.pinned (OpenSpec.upto fnExactRenameSolutionSpec)

end Rows
end Go.Proofs.Ytchpclgkinehhaa
