/-
  No cell of these rows narrows 'for every input' (looked for: loops, veiled, ifaces, maps, wideKeys, modest, calm, conditions, laid).
  DERIVED. THE GIVEN ROWS OF THIS SEAT. 11 by the template 'for every input the law returns true; each argument reads behind the call as it read before'; 0 by the template 'total and deterministic' (their statements: YtclgjkmoeeklkaaTotals.lean).
  GIVEN WITH THE SEED: the statements are not yours to turn. If you find one false, say at which input.
  Laid BY PROGRAM, IN A SANDBOX (cutbox-rows.mjs): the forced cells as the released guide's own fill.sh prints them over the translation 0b2b860159b1b921… (all of the seat's roots in one cut). By AI agents, Wed Nov 11 2026. No macro, syntax, notation, axiom, sorry.
-/
import Derived.Test.YtclgjkmoeeklkaaChecked
import GoSem.Claim
import GoSem.ClaimJoined
import GoSem.ClaimMapViews
import Derived.JoinedTies
import Derived.KernelRfl
namespace Go.Proofs.Ytclgjkmoeeklkaa
/- THE CELL 'sum', in the pinned program and in every row, IS THE sha256 OF THE DUMP (.gsa) THAT YtclgjkmoeeklkaaProg.lean LOADS. Nothing in Lean hashes anything: it is a label: what it is worth is what the hold of that sum in a sandbox is worth. -/
noncomputable def Try.pinned : Pinned := { name := "ytclgjkmoeeklkaa", sum := "0b2b860159b1b921e466770315f7dde670f10c5e5d608bfe3b4b2cb0b0e83b21", checked := Try.checked }
namespace Rows
def none {H : Type} : Left H := { results := [], args := [] }

/-- 'laws.FnExactIsConnectedRack': WHATEVER THE INPUT: true; the input reads as it did. -/
def fnExactIsConnectedRackSpec : ChangeSpec := { name := "fnExactIsConnectedRack", fn := fun _ => fun
  | [d] => { results := [.lit (.bool true)], args := [d] }
  | _ => none }
def fnExactIsConnectedRackRow : OpenClaim := { program := "ytclgjkmoeeklkaa", sum := "0b2b860159b1b921e466770315f7dde670f10c5e5d608bfe3b4b2cb0b0e83b21", func := "loop.example/g01119/laws.FnExactIsConnectedRack", spec := "fnExactIsConnectedRack", unfollowed := true, recurses := true, plainKeys := false, apart := false }
def FnExactIsConnectedRackSaid : Prop := fnExactIsConnectedRackRow.holds Try.pinned (OpenSpec.ofChange fnExactIsConnectedRackSpec)

/-- ITS FALSE NEIGHBOUR: 'it returns false'. Refute it at one input. -/
def fnExactIsConnectedRackWrong : ChangeSpec := { name := "fnExactIsConnectedRack", fn := fun _ => fun
  | [d] => { results := [.lit (.bool false)], args := [d] }
  | _ => none }
def FnExactIsConnectedRackWrongFalsely : Prop := fnExactIsConnectedRackRow.holds Try.pinned (OpenSpec.ofChange fnExactIsConnectedRackWrong)

/-- 'laws.FnExactIsFaithfulRack': WHATEVER THE INPUT: true; the input reads as it did. -/
def fnExactIsFaithfulRackSpec : ChangeSpec := { name := "fnExactIsFaithfulRack", fn := fun _ => fun
  | [d] => { results := [.lit (.bool true)], args := [d] }
  | _ => none }
def fnExactIsFaithfulRackRow : OpenClaim := { program := "ytclgjkmoeeklkaa", sum := "0b2b860159b1b921e466770315f7dde670f10c5e5d608bfe3b4b2cb0b0e83b21", func := "loop.example/g01119/laws.FnExactIsFaithfulRack", spec := "fnExactIsFaithfulRack", unfollowed := true, recurses := true, plainKeys := false, apart := false }
def FnExactIsFaithfulRackSaid : Prop := fnExactIsFaithfulRackRow.holds Try.pinned (OpenSpec.ofChange fnExactIsFaithfulRackSpec)

/-- ITS FALSE NEIGHBOUR: 'it returns false'. Refute it at one input. -/
def fnExactIsFaithfulRackWrong : ChangeSpec := { name := "fnExactIsFaithfulRack", fn := fun _ => fun
  | [d] => { results := [.lit (.bool false)], args := [d] }
  | _ => none }
def FnExactIsFaithfulRackWrongFalsely : Prop := fnExactIsFaithfulRackRow.holds Try.pinned (OpenSpec.ofChange fnExactIsFaithfulRackWrong)

/-- 'laws.FnExactQuandleOf': WHATEVER THE INPUT: true; the input reads as it did. -/
def fnExactQuandleOfSpec : ChangeSpec := { name := "fnExactQuandleOf", fn := fun _ => fun
  | [d] => { results := [.lit (.bool true)], args := [d] }
  | _ => none }
def fnExactQuandleOfRow : OpenClaim := { program := "ytclgjkmoeeklkaa", sum := "0b2b860159b1b921e466770315f7dde670f10c5e5d608bfe3b4b2cb0b0e83b21", func := "loop.example/g01119/laws.FnExactQuandleOf", spec := "fnExactQuandleOf", unfollowed := true, recurses := true, plainKeys := false, apart := false }
def FnExactQuandleOfSaid : Prop := fnExactQuandleOfRow.holds Try.pinned (OpenSpec.ofChange fnExactQuandleOfSpec)

/-- ITS FALSE NEIGHBOUR: 'it returns false'. Refute it at one input. -/
def fnExactQuandleOfWrong : ChangeSpec := { name := "fnExactQuandleOf", fn := fun _ => fun
  | [d] => { results := [.lit (.bool false)], args := [d] }
  | _ => none }
def FnExactQuandleOfWrongFalsely : Prop := fnExactQuandleOfRow.holds Try.pinned (OpenSpec.ofChange fnExactQuandleOfWrong)

/-- 'laws.FnExactCountRackAutomorphisms': WHATEVER THE INPUT: true; the input reads as it did. -/
def fnExactCountRackAutomorphismsSpec : ChangeSpec := { name := "fnExactCountRackAutomorphisms", fn := fun _ => fun
  | [d] => { results := [.lit (.bool true)], args := [d] }
  | _ => none }
def fnExactCountRackAutomorphismsRow : OpenClaim := { program := "ytclgjkmoeeklkaa", sum := "0b2b860159b1b921e466770315f7dde670f10c5e5d608bfe3b4b2cb0b0e83b21", func := "loop.example/g01119/laws.FnExactCountRackAutomorphisms", spec := "fnExactCountRackAutomorphisms", recurses := true, plainKeys := false, apart := false }
def FnExactCountRackAutomorphismsSaid : Prop := fnExactCountRackAutomorphismsRow.holds Try.pinned (OpenSpec.ofChange fnExactCountRackAutomorphismsSpec)

/-- ITS FALSE NEIGHBOUR: 'it returns false'. Refute it at one input. -/
def fnExactCountRackAutomorphismsWrong : ChangeSpec := { name := "fnExactCountRackAutomorphisms", fn := fun _ => fun
  | [d] => { results := [.lit (.bool false)], args := [d] }
  | _ => none }
def FnExactCountRackAutomorphismsWrongFalsely : Prop := fnExactCountRackAutomorphismsRow.holds Try.pinned (OpenSpec.ofChange fnExactCountRackAutomorphismsWrong)

/-- 'laws.FnExactCollisionOf': WHATEVER THE INPUT: true; the input reads as it did. -/
def fnExactCollisionOfSpec : ChangeSpec := { name := "fnExactCollisionOf", fn := fun _ => fun
  | [d] => { results := [.lit (.bool true)], args := [d] }
  | _ => none }
def fnExactCollisionOfRow : OpenClaim := { program := "ytclgjkmoeeklkaa", sum := "0b2b860159b1b921e466770315f7dde670f10c5e5d608bfe3b4b2cb0b0e83b21", func := "loop.example/g01119/laws.FnExactCollisionOf", spec := "fnExactCollisionOf", plainKeys := false, apart := false }
def FnExactCollisionOfSaid : Prop := fnExactCollisionOfRow.holds Try.pinned (OpenSpec.ofChange fnExactCollisionOfSpec)

/-- ITS FALSE NEIGHBOUR: 'it returns false'. Refute it at one input. -/
def fnExactCollisionOfWrong : ChangeSpec := { name := "fnExactCollisionOf", fn := fun _ => fun
  | [d] => { results := [.lit (.bool false)], args := [d] }
  | _ => none }
def FnExactCollisionOfWrongFalsely : Prop := fnExactCollisionOfRow.holds Try.pinned (OpenSpec.ofChange fnExactCollisionOfWrong)

/-- 'laws.FnExactIsSolution': WHATEVER THE INPUT: true; the input reads as it did. -/
def fnExactIsSolutionSpec : ChangeSpec := { name := "fnExactIsSolution", fn := fun _ => fun
  | [d] => { results := [.lit (.bool true)], args := [d] }
  | _ => none }
def fnExactIsSolutionRow : OpenClaim := { program := "ytclgjkmoeeklkaa", sum := "0b2b860159b1b921e466770315f7dde670f10c5e5d608bfe3b4b2cb0b0e83b21", func := "loop.example/g01119/laws.FnExactIsSolution", spec := "fnExactIsSolution", plainKeys := false, apart := false }
def FnExactIsSolutionSaid : Prop := fnExactIsSolutionRow.holds Try.pinned (OpenSpec.ofChange fnExactIsSolutionSpec)

/-- ITS FALSE NEIGHBOUR: 'it returns false'. Refute it at one input. -/
def fnExactIsSolutionWrong : ChangeSpec := { name := "fnExactIsSolution", fn := fun _ => fun
  | [d] => { results := [.lit (.bool false)], args := [d] }
  | _ => none }
def FnExactIsSolutionWrongFalsely : Prop := fnExactIsSolutionRow.holds Try.pinned (OpenSpec.ofChange fnExactIsSolutionWrong)

/-- 'laws.FnExactInverseSolution': WHATEVER THE INPUT: true; the input reads as it did. -/
def fnExactInverseSolutionSpec : ChangeSpec := { name := "fnExactInverseSolution", fn := fun _ => fun
  | [d] => { results := [.lit (.bool true)], args := [d] }
  | _ => none }
def fnExactInverseSolutionRow : OpenClaim := { program := "ytclgjkmoeeklkaa", sum := "0b2b860159b1b921e466770315f7dde670f10c5e5d608bfe3b4b2cb0b0e83b21", func := "loop.example/g01119/laws.FnExactInverseSolution", spec := "fnExactInverseSolution", unfollowed := true, recurses := true, plainKeys := false, apart := false }
def FnExactInverseSolutionSaid : Prop := fnExactInverseSolutionRow.holds Try.pinned (OpenSpec.ofChange fnExactInverseSolutionSpec)

/-- ITS FALSE NEIGHBOUR: 'it returns false'. Refute it at one input. -/
def fnExactInverseSolutionWrong : ChangeSpec := { name := "fnExactInverseSolution", fn := fun _ => fun
  | [d] => { results := [.lit (.bool false)], args := [d] }
  | _ => none }
def FnExactInverseSolutionWrongFalsely : Prop := fnExactInverseSolutionRow.holds Try.pinned (OpenSpec.ofChange fnExactInverseSolutionWrong)

/-- 'laws.FnExactOrderOfSolution': WHATEVER THE INPUT: true; the input reads as it did. -/
def fnExactOrderOfSolutionSpec : ChangeSpec := { name := "fnExactOrderOfSolution", fn := fun _ => fun
  | [d] => { results := [.lit (.bool true)], args := [d] }
  | _ => none }
def fnExactOrderOfSolutionRow : OpenClaim := { program := "ytclgjkmoeeklkaa", sum := "0b2b860159b1b921e466770315f7dde670f10c5e5d608bfe3b4b2cb0b0e83b21", func := "loop.example/g01119/laws.FnExactOrderOfSolution", spec := "fnExactOrderOfSolution", plainKeys := false, apart := false }
def FnExactOrderOfSolutionSaid : Prop := fnExactOrderOfSolutionRow.holds Try.pinned (OpenSpec.ofChange fnExactOrderOfSolutionSpec)

/-- ITS FALSE NEIGHBOUR: 'it returns false'. Refute it at one input. -/
def fnExactOrderOfSolutionWrong : ChangeSpec := { name := "fnExactOrderOfSolution", fn := fun _ => fun
  | [d] => { results := [.lit (.bool false)], args := [d] }
  | _ => none }
def FnExactOrderOfSolutionWrongFalsely : Prop := fnExactOrderOfSolutionRow.holds Try.pinned (OpenSpec.ofChange fnExactOrderOfSolutionWrong)

/-- 'laws.FnExactInnerOrder': WHATEVER THE INPUT: true; the input reads as it did. -/
def fnExactInnerOrderSpec : ChangeSpec := { name := "fnExactInnerOrder", fn := fun _ => fun
  | [d] => { results := [.lit (.bool true)], args := [d] }
  | _ => none }
def fnExactInnerOrderRow : OpenClaim := { program := "ytclgjkmoeeklkaa", sum := "0b2b860159b1b921e466770315f7dde670f10c5e5d608bfe3b4b2cb0b0e83b21", func := "loop.example/g01119/laws.FnExactInnerOrder", spec := "fnExactInnerOrder", plainKeys := false, apart := false }
def FnExactInnerOrderSaid : Prop := fnExactInnerOrderRow.holds Try.pinned (OpenSpec.ofChange fnExactInnerOrderSpec)

/-- ITS FALSE NEIGHBOUR: 'it returns false'. Refute it at one input. -/
def fnExactInnerOrderWrong : ChangeSpec := { name := "fnExactInnerOrder", fn := fun _ => fun
  | [d] => { results := [.lit (.bool false)], args := [d] }
  | _ => none }
def FnExactInnerOrderWrongFalsely : Prop := fnExactInnerOrderRow.holds Try.pinned (OpenSpec.ofChange fnExactInnerOrderWrong)

/-- 'laws.FnExactCountRackMaps': WHATEVER THE INPUT: true; the input reads as it did. -/
def fnExactCountRackMapsSpec : ChangeSpec := { name := "fnExactCountRackMaps", fn := fun _ => fun
  | [d1, d2] => { results := [.lit (.bool true)], args := [d1, d2] }
  | _ => none }
def fnExactCountRackMapsRow : OpenClaim := { program := "ytclgjkmoeeklkaa", sum := "0b2b860159b1b921e466770315f7dde670f10c5e5d608bfe3b4b2cb0b0e83b21", func := "loop.example/g01119/laws.FnExactCountRackMaps", spec := "fnExactCountRackMaps", recurses := true, plainKeys := false, apart := false }
def FnExactCountRackMapsSaid : Prop := fnExactCountRackMapsRow.holds Try.pinned (OpenSpec.ofChange fnExactCountRackMapsSpec)

/-- ITS FALSE NEIGHBOUR: 'it returns false'. Refute it at one input. -/
def fnExactCountRackMapsWrong : ChangeSpec := { name := "fnExactCountRackMaps", fn := fun _ => fun
  | [d1, d2] => { results := [.lit (.bool false)], args := [d1, d2] }
  | _ => none }
def FnExactCountRackMapsWrongFalsely : Prop := fnExactCountRackMapsRow.holds Try.pinned (OpenSpec.ofChange fnExactCountRackMapsWrong)

/-- 'laws.FnExactRackIsomorphism': WHATEVER THE INPUT: true; the input reads as it did. -/
def fnExactRackIsomorphismSpec : ChangeSpec := { name := "fnExactRackIsomorphism", fn := fun _ => fun
  | [d1, d2] => { results := [.lit (.bool true)], args := [d1, d2] }
  | _ => none }
def fnExactRackIsomorphismRow : OpenClaim := { program := "ytclgjkmoeeklkaa", sum := "0b2b860159b1b921e466770315f7dde670f10c5e5d608bfe3b4b2cb0b0e83b21", func := "loop.example/g01119/laws.FnExactRackIsomorphism", spec := "fnExactRackIsomorphism", unfollowed := true, recurses := true, plainKeys := false, apart := false }
def FnExactRackIsomorphismSaid : Prop := fnExactRackIsomorphismRow.holds Try.pinned (OpenSpec.ofChange fnExactRackIsomorphismSpec)

/-- ITS FALSE NEIGHBOUR: 'it returns false'. Refute it at one input. -/
def fnExactRackIsomorphismWrong : ChangeSpec := { name := "fnExactRackIsomorphism", fn := fun _ => fun
  | [d1, d2] => { results := [.lit (.bool false)], args := [d1, d2] }
  | _ => none }
def FnExactRackIsomorphismWrongFalsely : Prop := fnExactRackIsomorphismRow.holds Try.pinned (OpenSpec.ofChange fnExactRackIsomorphismWrong)

/- THE SECOND FORM. 'bulk': how many values and letters a reading holds, each counted each time it is reached (what is shared counts as often as it is met; a slice's spare places count too). A statement '..UptoSaid' is the law's where the arguments, and the package variables that the reading takes, are together of bulk at most 1048576: NARROWER than '..Said'. Prove '..Said' where nothing that the law and all that it calls make is longer than what came in: it says more and counts as full. Else prove '..UptoSaid'. A law counts once. -/
mutual
def uptoBulk {H : Type} : DataW H → Nat
  | .lit (.string bytes) => bytes.length + 1
  | .lit _ => 1
  | .nil => 1
  | .ptr d => uptoBulk d + 1
  | .slice elems spare => uptoBulkAll elems + uptoBulkAll spare + 1
  | .agg parts => uptoBulkAll parts + 1
  | .iface _ d => uptoBulk d + 1
  | .map entries => uptoBulkEntries entries + 1
  | .held _ => 1
def uptoBulkAll {H : Type} : List (DataW H) → Nat
  | [] => 0
  | d :: r => uptoBulk d + uptoBulkAll r
def uptoBulkEntries {H : Type} : List (Lit × DataW H) → Nat
  | [] => 0
  | x :: r => uptoBulkEntry x + uptoBulkEntries r
def uptoBulkEntry {H : Type} : Lit × DataW H → Nat
  | (.string bytes, d) => bytes.length + uptoBulk d + 1
  | (_, d) => uptoBulk d + 1
 end
def uptoSmall : (H : Type) → List (DataW H) → Bool := fun _ ds => decide (uptoBulkAll ds ≤ 1048576)
def OpenSpec.upto (s : _root_.Go.ChangeSpec) : _root_.Go.OpenSpec := { _root_.Go.OpenSpec.ofChange s with cond := some uptoSmall }

/-- 'laws.FnExactIsConnectedRack', WHERE WHAT IT READS IS OF BULK AT MOST 1048576: true; the input reads as it did. -/
def fnExactIsConnectedRackUptoRow : OpenClaim := { program := "ytclgjkmoeeklkaa", sum := "0b2b860159b1b921e466770315f7dde670f10c5e5d608bfe3b4b2cb0b0e83b21", func := "loop.example/g01119/laws.FnExactIsConnectedRack", spec := "fnExactIsConnectedRack", unfollowed := true, recurses := true, plainKeys := false, apart := false, narrowed := true }
def FnExactIsConnectedRackUptoSaid : Prop := fnExactIsConnectedRackUptoRow.holds Try.pinned (OpenSpec.upto fnExactIsConnectedRackSpec)

/-- 'laws.FnExactIsFaithfulRack', WHERE WHAT IT READS IS OF BULK AT MOST 1048576: true; the input reads as it did. -/
def fnExactIsFaithfulRackUptoRow : OpenClaim := { program := "ytclgjkmoeeklkaa", sum := "0b2b860159b1b921e466770315f7dde670f10c5e5d608bfe3b4b2cb0b0e83b21", func := "loop.example/g01119/laws.FnExactIsFaithfulRack", spec := "fnExactIsFaithfulRack", unfollowed := true, recurses := true, plainKeys := false, apart := false, narrowed := true }
def FnExactIsFaithfulRackUptoSaid : Prop := fnExactIsFaithfulRackUptoRow.holds Try.pinned (OpenSpec.upto fnExactIsFaithfulRackSpec)

/-- 'laws.FnExactQuandleOf', WHERE WHAT IT READS IS OF BULK AT MOST 1048576: true; the input reads as it did. -/
def fnExactQuandleOfUptoRow : OpenClaim := { program := "ytclgjkmoeeklkaa", sum := "0b2b860159b1b921e466770315f7dde670f10c5e5d608bfe3b4b2cb0b0e83b21", func := "loop.example/g01119/laws.FnExactQuandleOf", spec := "fnExactQuandleOf", unfollowed := true, recurses := true, plainKeys := false, apart := false, narrowed := true }
def FnExactQuandleOfUptoSaid : Prop := fnExactQuandleOfUptoRow.holds Try.pinned (OpenSpec.upto fnExactQuandleOfSpec)

/-- 'laws.FnExactCountRackAutomorphisms', WHERE WHAT IT READS IS OF BULK AT MOST 1048576: true; the input reads as it did. -/
def fnExactCountRackAutomorphismsUptoRow : OpenClaim := { program := "ytclgjkmoeeklkaa", sum := "0b2b860159b1b921e466770315f7dde670f10c5e5d608bfe3b4b2cb0b0e83b21", func := "loop.example/g01119/laws.FnExactCountRackAutomorphisms", spec := "fnExactCountRackAutomorphisms", recurses := true, plainKeys := false, apart := false, narrowed := true }
def FnExactCountRackAutomorphismsUptoSaid : Prop := fnExactCountRackAutomorphismsUptoRow.holds Try.pinned (OpenSpec.upto fnExactCountRackAutomorphismsSpec)

/-- 'laws.FnExactCollisionOf', WHERE WHAT IT READS IS OF BULK AT MOST 1048576: true; the input reads as it did. -/
def fnExactCollisionOfUptoRow : OpenClaim := { program := "ytclgjkmoeeklkaa", sum := "0b2b860159b1b921e466770315f7dde670f10c5e5d608bfe3b4b2cb0b0e83b21", func := "loop.example/g01119/laws.FnExactCollisionOf", spec := "fnExactCollisionOf", plainKeys := false, apart := false, narrowed := true }
def FnExactCollisionOfUptoSaid : Prop := fnExactCollisionOfUptoRow.holds Try.pinned (OpenSpec.upto fnExactCollisionOfSpec)

/-- 'laws.FnExactIsSolution', WHERE WHAT IT READS IS OF BULK AT MOST 1048576: true; the input reads as it did. -/
def fnExactIsSolutionUptoRow : OpenClaim := { program := "ytclgjkmoeeklkaa", sum := "0b2b860159b1b921e466770315f7dde670f10c5e5d608bfe3b4b2cb0b0e83b21", func := "loop.example/g01119/laws.FnExactIsSolution", spec := "fnExactIsSolution", plainKeys := false, apart := false, narrowed := true }
def FnExactIsSolutionUptoSaid : Prop := fnExactIsSolutionUptoRow.holds Try.pinned (OpenSpec.upto fnExactIsSolutionSpec)

/-- 'laws.FnExactInverseSolution', WHERE WHAT IT READS IS OF BULK AT MOST 1048576: true; the input reads as it did. -/
def fnExactInverseSolutionUptoRow : OpenClaim := { program := "ytclgjkmoeeklkaa", sum := "0b2b860159b1b921e466770315f7dde670f10c5e5d608bfe3b4b2cb0b0e83b21", func := "loop.example/g01119/laws.FnExactInverseSolution", spec := "fnExactInverseSolution", unfollowed := true, recurses := true, plainKeys := false, apart := false, narrowed := true }
def FnExactInverseSolutionUptoSaid : Prop := fnExactInverseSolutionUptoRow.holds Try.pinned (OpenSpec.upto fnExactInverseSolutionSpec)

/-- 'laws.FnExactOrderOfSolution', WHERE WHAT IT READS IS OF BULK AT MOST 1048576: true; the input reads as it did. -/
def fnExactOrderOfSolutionUptoRow : OpenClaim := { program := "ytclgjkmoeeklkaa", sum := "0b2b860159b1b921e466770315f7dde670f10c5e5d608bfe3b4b2cb0b0e83b21", func := "loop.example/g01119/laws.FnExactOrderOfSolution", spec := "fnExactOrderOfSolution", plainKeys := false, apart := false, narrowed := true }
def FnExactOrderOfSolutionUptoSaid : Prop := fnExactOrderOfSolutionUptoRow.holds Try.pinned (OpenSpec.upto fnExactOrderOfSolutionSpec)

/-- 'laws.FnExactInnerOrder', WHERE WHAT IT READS IS OF BULK AT MOST 1048576: true; the input reads as it did. -/
def fnExactInnerOrderUptoRow : OpenClaim := { program := "ytclgjkmoeeklkaa", sum := "0b2b860159b1b921e466770315f7dde670f10c5e5d608bfe3b4b2cb0b0e83b21", func := "loop.example/g01119/laws.FnExactInnerOrder", spec := "fnExactInnerOrder", plainKeys := false, apart := false, narrowed := true }
def FnExactInnerOrderUptoSaid : Prop := fnExactInnerOrderUptoRow.holds Try.pinned (OpenSpec.upto fnExactInnerOrderSpec)

/-- 'laws.FnExactCountRackMaps', WHERE WHAT IT READS IS OF BULK AT MOST 1048576: true; the input reads as it did. -/
def fnExactCountRackMapsUptoRow : OpenClaim := { program := "ytclgjkmoeeklkaa", sum := "0b2b860159b1b921e466770315f7dde670f10c5e5d608bfe3b4b2cb0b0e83b21", func := "loop.example/g01119/laws.FnExactCountRackMaps", spec := "fnExactCountRackMaps", recurses := true, plainKeys := false, apart := false, narrowed := true }
def FnExactCountRackMapsUptoSaid : Prop := fnExactCountRackMapsUptoRow.holds Try.pinned (OpenSpec.upto fnExactCountRackMapsSpec)

/-- 'laws.FnExactRackIsomorphism', WHERE WHAT IT READS IS OF BULK AT MOST 1048576: true; the input reads as it did. -/
def fnExactRackIsomorphismUptoRow : OpenClaim := { program := "ytclgjkmoeeklkaa", sum := "0b2b860159b1b921e466770315f7dde670f10c5e5d608bfe3b4b2cb0b0e83b21", func := "loop.example/g01119/laws.FnExactRackIsomorphism", spec := "fnExactRackIsomorphism", unfollowed := true, recurses := true, plainKeys := false, apart := false, narrowed := true }
def FnExactRackIsomorphismUptoSaid : Prop := fnExactRackIsomorphismUptoRow.holds Try.pinned (OpenSpec.upto fnExactRackIsomorphismSpec)

end Rows
end Go.Proofs.Ytclgjkmoeeklkaa
