/-
  No cell of these rows narrows 'for every input' (looked for: loops, veiled, ifaces, maps, wideKeys, modest, calm, conditions, laid).
  DERIVED. THE GIVEN ROWS OF THIS SEAT. 11 by the template 'for every input the law returns true; each argument reads behind the call as it read before'; 0 by the template 'total and deterministic' (their statements: YtpnlmmilnglmkaaTotals.lean).
  GIVEN WITH THE SEED: the statements are not yours to turn. If you find one false, say at which input.
  Laid BY PROGRAM, IN A SANDBOX (cutbox-rows.mjs): the forced cells as the released guide's own fill.sh prints them over the translation 63e58bf0e1b717d8… (all of the seat's roots in one cut). By AI agents, Wed Nov 11 2026. No macro, syntax, notation, axiom, sorry.
-/
import Derived.Test.YtpnlmmilnglmkaaChecked
import GoSem.Claim
import GoSem.ClaimJoined
import GoSem.ClaimMapViews
import Derived.JoinedTies
import Derived.KernelRfl
namespace Go.Proofs.Ytpnlmmilnglmkaa
/- THE CELL 'sum', in the pinned program and in every row, IS THE sha256 OF THE DUMP (.gsa) THAT YtpnlmmilnglmkaaProg.lean LOADS. Nothing in Lean hashes anything: it is a label: what it is worth is what the hold of that sum in a sandbox is worth. -/
noncomputable def Try.pinned : Pinned := { name := "ytpnlmmilnglmkaa", sum := "63e58bf0e1b717d869e10de69268d37d1f5fe180d910a5e1b2e1c08cf2b18fad", checked := Try.checked }
namespace Rows
def none {H : Type} : Left H := { results := [], args := [] }

/-- 'laws.FnExactDerivedRack': WHATEVER THE INPUT: true; the input reads as it did. -/
def fnExactDerivedRackSpec : ChangeSpec := { name := "fnExactDerivedRack", fn := fun _ => fun
  | [d] => { results := [.lit (.bool true)], args := [d] }
  | _ => none }
def fnExactDerivedRackRow : OpenClaim := { program := "ytpnlmmilnglmkaa", sum := "63e58bf0e1b717d869e10de69268d37d1f5fe180d910a5e1b2e1c08cf2b18fad", func := "loop.example/g01119/laws.FnExactDerivedRack", spec := "fnExactDerivedRack", unfollowed := true, recurses := true, plainKeys := false, apart := false }
def FnExactDerivedRackSaid : Prop := fnExactDerivedRackRow.holds Try.pinned (OpenSpec.ofChange fnExactDerivedRackSpec)

/-- ITS FALSE NEIGHBOUR: 'it returns false'. Refute it at one input. -/
def fnExactDerivedRackWrong : ChangeSpec := { name := "fnExactDerivedRack", fn := fun _ => fun
  | [d] => { results := [.lit (.bool false)], args := [d] }
  | _ => none }
def FnExactDerivedRackWrongFalsely : Prop := fnExactDerivedRackRow.holds Try.pinned (OpenSpec.ofChange fnExactDerivedRackWrong)

/-- 'laws.FnExactTupleMove': WHATEVER THE INPUT: true; the input reads as it did. -/
def fnExactTupleMoveSpec : ChangeSpec := { name := "fnExactTupleMove", fn := fun _ => fun
  | [d1, d2, d3] => { results := [.lit (.bool true)], args := [d1, d2, d3] }
  | _ => none }
def fnExactTupleMoveRow : OpenClaim := { program := "ytpnlmmilnglmkaa", sum := "63e58bf0e1b717d869e10de69268d37d1f5fe180d910a5e1b2e1c08cf2b18fad", func := "loop.example/g01119/laws.FnExactTupleMove", spec := "fnExactTupleMove", unfollowed := true, recurses := true, plainKeys := false, apart := false }
def FnExactTupleMoveSaid : Prop := fnExactTupleMoveRow.holds Try.pinned (OpenSpec.ofChange fnExactTupleMoveSpec)

/-- ITS FALSE NEIGHBOUR: 'it returns false'. Refute it at one input. -/
def fnExactTupleMoveWrong : ChangeSpec := { name := "fnExactTupleMove", fn := fun _ => fun
  | [d1, d2, d3] => { results := [.lit (.bool false)], args := [d1, d2, d3] }
  | _ => none }
def FnExactTupleMoveWrongFalsely : Prop := fnExactTupleMoveRow.holds Try.pinned (OpenSpec.ofChange fnExactTupleMoveWrong)

/-- 'laws.FnExactRackMove': WHATEVER THE INPUT: true; the input reads as it did. -/
def fnExactRackMoveSpec : ChangeSpec := { name := "fnExactRackMove", fn := fun _ => fun
  | [d1, d2, d3] => { results := [.lit (.bool true)], args := [d1, d2, d3] }
  | _ => none }
def fnExactRackMoveRow : OpenClaim := { program := "ytpnlmmilnglmkaa", sum := "63e58bf0e1b717d869e10de69268d37d1f5fe180d910a5e1b2e1c08cf2b18fad", func := "loop.example/g01119/laws.FnExactRackMove", spec := "fnExactRackMove", unfollowed := true, recurses := true, plainKeys := false, apart := false }
def FnExactRackMoveSaid : Prop := fnExactRackMoveRow.holds Try.pinned (OpenSpec.ofChange fnExactRackMoveSpec)

/-- ITS FALSE NEIGHBOUR: 'it returns false'. Refute it at one input. -/
def fnExactRackMoveWrong : ChangeSpec := { name := "fnExactRackMove", fn := fun _ => fun
  | [d1, d2, d3] => { results := [.lit (.bool false)], args := [d1, d2, d3] }
  | _ => none }
def FnExactRackMoveWrongFalsely : Prop := fnExactRackMoveRow.holds Try.pinned (OpenSpec.ofChange fnExactRackMoveWrong)

/-- 'laws.FnExactGuitarMap': WHATEVER THE INPUT: true; the input reads as it did. -/
def fnExactGuitarMapSpec : ChangeSpec := { name := "fnExactGuitarMap", fn := fun _ => fun
  | [d1, d2] => { results := [.lit (.bool true)], args := [d1, d2] }
  | _ => none }
def fnExactGuitarMapRow : OpenClaim := { program := "ytpnlmmilnglmkaa", sum := "63e58bf0e1b717d869e10de69268d37d1f5fe180d910a5e1b2e1c08cf2b18fad", func := "loop.example/g01119/laws.FnExactGuitarMap", spec := "fnExactGuitarMap", unfollowed := true, recurses := true, plainKeys := false, apart := false }
def FnExactGuitarMapSaid : Prop := fnExactGuitarMapRow.holds Try.pinned (OpenSpec.ofChange fnExactGuitarMapSpec)

/-- ITS FALSE NEIGHBOUR: 'it returns false'. Refute it at one input. -/
def fnExactGuitarMapWrong : ChangeSpec := { name := "fnExactGuitarMap", fn := fun _ => fun
  | [d1, d2] => { results := [.lit (.bool false)], args := [d1, d2] }
  | _ => none }
def FnExactGuitarMapWrongFalsely : Prop := fnExactGuitarMapRow.holds Try.pinned (OpenSpec.ofChange fnExactGuitarMapWrong)

/-- 'laws.FnExactGuitarBack': WHATEVER THE INPUT: true; the input reads as it did. -/
def fnExactGuitarBackSpec : ChangeSpec := { name := "fnExactGuitarBack", fn := fun _ => fun
  | [d1, d2] => { results := [.lit (.bool true)], args := [d1, d2] }
  | _ => none }
def fnExactGuitarBackRow : OpenClaim := { program := "ytpnlmmilnglmkaa", sum := "63e58bf0e1b717d869e10de69268d37d1f5fe180d910a5e1b2e1c08cf2b18fad", func := "loop.example/g01119/laws.FnExactGuitarBack", spec := "fnExactGuitarBack", plainKeys := false, apart := false }
def FnExactGuitarBackSaid : Prop := fnExactGuitarBackRow.holds Try.pinned (OpenSpec.ofChange fnExactGuitarBackSpec)

/-- ITS FALSE NEIGHBOUR: 'it returns false'. Refute it at one input. -/
def fnExactGuitarBackWrong : ChangeSpec := { name := "fnExactGuitarBack", fn := fun _ => fun
  | [d1, d2] => { results := [.lit (.bool false)], args := [d1, d2] }
  | _ => none }
def FnExactGuitarBackWrongFalsely : Prop := fnExactGuitarBackRow.holds Try.pinned (OpenSpec.ofChange fnExactGuitarBackWrong)

/-- 'laws.FnExactTwistedSolution': WHATEVER THE INPUT: true; the input reads as it did. -/
def fnExactTwistedSolutionSpec : ChangeSpec := { name := "fnExactTwistedSolution", fn := fun _ => fun
  | [d1, d2] => { results := [.lit (.bool true)], args := [d1, d2] }
  | _ => none }
def fnExactTwistedSolutionRow : OpenClaim := { program := "ytpnlmmilnglmkaa", sum := "63e58bf0e1b717d869e10de69268d37d1f5fe180d910a5e1b2e1c08cf2b18fad", func := "loop.example/g01119/laws.FnExactTwistedSolution", spec := "fnExactTwistedSolution", unfollowed := true, recurses := true, plainKeys := false, apart := false }
def FnExactTwistedSolutionSaid : Prop := fnExactTwistedSolutionRow.holds Try.pinned (OpenSpec.ofChange fnExactTwistedSolutionSpec)

/-- ITS FALSE NEIGHBOUR: 'it returns false'. Refute it at one input. -/
def fnExactTwistedSolutionWrong : ChangeSpec := { name := "fnExactTwistedSolution", fn := fun _ => fun
  | [d1, d2] => { results := [.lit (.bool false)], args := [d1, d2] }
  | _ => none }
def FnExactTwistedSolutionWrongFalsely : Prop := fnExactTwistedSolutionRow.holds Try.pinned (OpenSpec.ofChange fnExactTwistedSolutionWrong)

/-- 'laws.FnExactTupleOrbit': WHATEVER THE INPUT: true; the input reads as it did. -/
def fnExactTupleOrbitSpec : ChangeSpec := { name := "fnExactTupleOrbit", fn := fun _ => fun
  | [d1, d2] => { results := [.lit (.bool true)], args := [d1, d2] }
  | _ => none }
def fnExactTupleOrbitRow : OpenClaim := { program := "ytpnlmmilnglmkaa", sum := "63e58bf0e1b717d869e10de69268d37d1f5fe180d910a5e1b2e1c08cf2b18fad", func := "loop.example/g01119/laws.FnExactTupleOrbit", spec := "fnExactTupleOrbit", unfollowed := true, recurses := true, plainKeys := false, apart := false }
def FnExactTupleOrbitSaid : Prop := fnExactTupleOrbitRow.holds Try.pinned (OpenSpec.ofChange fnExactTupleOrbitSpec)

/-- ITS FALSE NEIGHBOUR: 'it returns false'. Refute it at one input. -/
def fnExactTupleOrbitWrong : ChangeSpec := { name := "fnExactTupleOrbit", fn := fun _ => fun
  | [d1, d2] => { results := [.lit (.bool false)], args := [d1, d2] }
  | _ => none }
def FnExactTupleOrbitWrongFalsely : Prop := fnExactTupleOrbitRow.holds Try.pinned (OpenSpec.ofChange fnExactTupleOrbitWrong)

/-- 'laws.FnExactCountTupleOrbits': WHATEVER THE INPUT: true; the input reads as it did. -/
def fnExactCountTupleOrbitsSpec : ChangeSpec := { name := "fnExactCountTupleOrbits", fn := fun _ => fun
  | [d1, d2] => { results := [.lit (.bool true)], args := [d1, d2] }
  | _ => none }
def fnExactCountTupleOrbitsRow : OpenClaim := { program := "ytpnlmmilnglmkaa", sum := "63e58bf0e1b717d869e10de69268d37d1f5fe180d910a5e1b2e1c08cf2b18fad", func := "loop.example/g01119/laws.FnExactCountTupleOrbits", spec := "fnExactCountTupleOrbits", unfollowed := true, recurses := true, plainKeys := false, apart := false }
def FnExactCountTupleOrbitsSaid : Prop := fnExactCountTupleOrbitsRow.holds Try.pinned (OpenSpec.ofChange fnExactCountTupleOrbitsSpec)

/-- ITS FALSE NEIGHBOUR: 'it returns false'. Refute it at one input. -/
def fnExactCountTupleOrbitsWrong : ChangeSpec := { name := "fnExactCountTupleOrbits", fn := fun _ => fun
  | [d1, d2] => { results := [.lit (.bool false)], args := [d1, d2] }
  | _ => none }
def FnExactCountTupleOrbitsWrongFalsely : Prop := fnExactCountTupleOrbitsRow.holds Try.pinned (OpenSpec.ofChange fnExactCountTupleOrbitsWrong)

/-- 'laws.FnExactCongruenceFrom': WHATEVER THE INPUT: true; the input reads as it did. -/
def fnExactCongruenceFromSpec : ChangeSpec := { name := "fnExactCongruenceFrom", fn := fun _ => fun
  | [d1, d2, d3] => { results := [.lit (.bool true)], args := [d1, d2, d3] }
  | _ => none }
def fnExactCongruenceFromRow : OpenClaim := { program := "ytpnlmmilnglmkaa", sum := "63e58bf0e1b717d869e10de69268d37d1f5fe180d910a5e1b2e1c08cf2b18fad", func := "loop.example/g01119/laws.FnExactCongruenceFrom", spec := "fnExactCongruenceFrom", unfollowed := true, recurses := true, plainKeys := false, apart := false }
def FnExactCongruenceFromSaid : Prop := fnExactCongruenceFromRow.holds Try.pinned (OpenSpec.ofChange fnExactCongruenceFromSpec)

/-- ITS FALSE NEIGHBOUR: 'it returns false'. Refute it at one input. -/
def fnExactCongruenceFromWrong : ChangeSpec := { name := "fnExactCongruenceFrom", fn := fun _ => fun
  | [d1, d2, d3] => { results := [.lit (.bool false)], args := [d1, d2, d3] }
  | _ => none }
def FnExactCongruenceFromWrongFalsely : Prop := fnExactCongruenceFromRow.holds Try.pinned (OpenSpec.ofChange fnExactCongruenceFromWrong)

/-- 'laws.FnExactIsSimpleRack': WHATEVER THE INPUT: true; the input reads as it did. -/
def fnExactIsSimpleRackSpec : ChangeSpec := { name := "fnExactIsSimpleRack", fn := fun _ => fun
  | [d] => { results := [.lit (.bool true)], args := [d] }
  | _ => none }
def fnExactIsSimpleRackRow : OpenClaim := { program := "ytpnlmmilnglmkaa", sum := "63e58bf0e1b717d869e10de69268d37d1f5fe180d910a5e1b2e1c08cf2b18fad", func := "loop.example/g01119/laws.FnExactIsSimpleRack", spec := "fnExactIsSimpleRack", unfollowed := true, recurses := true, plainKeys := false, apart := false }
def FnExactIsSimpleRackSaid : Prop := fnExactIsSimpleRackRow.holds Try.pinned (OpenSpec.ofChange fnExactIsSimpleRackSpec)

/-- ITS FALSE NEIGHBOUR: 'it returns false'. Refute it at one input. -/
def fnExactIsSimpleRackWrong : ChangeSpec := { name := "fnExactIsSimpleRack", fn := fun _ => fun
  | [d] => { results := [.lit (.bool false)], args := [d] }
  | _ => none }
def FnExactIsSimpleRackWrongFalsely : Prop := fnExactIsSimpleRackRow.holds Try.pinned (OpenSpec.ofChange fnExactIsSimpleRackWrong)

/-- 'laws.FnExactCyclicGroup': WHATEVER THE INPUT: true; the input reads as it did. -/
def fnExactCyclicGroupSpec : ChangeSpec := { name := "fnExactCyclicGroup", fn := fun _ => fun
  | [d] => { results := [.lit (.bool true)], args := [d] }
  | _ => none }
def fnExactCyclicGroupRow : OpenClaim := { program := "ytpnlmmilnglmkaa", sum := "63e58bf0e1b717d869e10de69268d37d1f5fe180d910a5e1b2e1c08cf2b18fad", func := "loop.example/g01119/laws.FnExactCyclicGroup", spec := "fnExactCyclicGroup", unfollowed := true, recurses := true, plainKeys := false, apart := false }
def FnExactCyclicGroupSaid : Prop := fnExactCyclicGroupRow.holds Try.pinned (OpenSpec.ofChange fnExactCyclicGroupSpec)

/-- ITS FALSE NEIGHBOUR: 'it returns false'. Refute it at one input. -/
def fnExactCyclicGroupWrong : ChangeSpec := { name := "fnExactCyclicGroup", fn := fun _ => fun
  | [d] => { results := [.lit (.bool false)], args := [d] }
  | _ => none }
def FnExactCyclicGroupWrongFalsely : Prop := fnExactCyclicGroupRow.holds Try.pinned (OpenSpec.ofChange fnExactCyclicGroupWrong)

/- THE SECOND FORM. 'bulk': how many values and letters a reading holds, each counted each time it is reached (what is shared counts as often as it is met; a slice's spare places count too). A statement '..UptoSaid' is the law's where the arguments, and the package variables that the reading takes, are together of bulk at most 1048576: NARROWER than '..Said'. Prove '..Said' where nothing that the law and all that it calls make is longer than what came in: it says more and counts as full. Else prove '..UptoSaid'. A law counts once. -/
mutual
def uptoBulk {H : Type} : DataW H → Nat
  | .lit (.string bytes) => bytes.length + 1
  | .lit _ => 1
  | .nil => 1
  | .ptr d => uptoBulk d + 1
  | .slice elems spare => uptoBulkAll elems + uptoBulkAll spare + 1
  | .agg parts => uptoBulkAll parts + 1
  | .iface _ d => uptoBulk d + 1
  | .map entries => uptoBulkEntries entries + 1
  | .held _ => 1
def uptoBulkAll {H : Type} : List (DataW H) → Nat
  | [] => 0
  | d :: r => uptoBulk d + uptoBulkAll r
def uptoBulkEntries {H : Type} : List (Lit × DataW H) → Nat
  | [] => 0
  | x :: r => uptoBulkEntry x + uptoBulkEntries r
def uptoBulkEntry {H : Type} : Lit × DataW H → Nat
  | (.string bytes, d) => bytes.length + uptoBulk d + 1
  | (_, d) => uptoBulk d + 1
 end
def uptoSmall : (H : Type) → List (DataW H) → Bool := fun _ ds => decide (uptoBulkAll ds ≤ 1048576)
def OpenSpec.upto (s : _root_.Go.ChangeSpec) : _root_.Go.OpenSpec := { _root_.Go.OpenSpec.ofChange s with cond := some uptoSmall }

/-- 'laws.FnExactDerivedRack', WHERE WHAT IT READS IS OF BULK AT MOST 1048576: true; the input reads as it did. -/
def fnExactDerivedRackUptoRow : OpenClaim := { program := "ytpnlmmilnglmkaa", sum := "63e58bf0e1b717d869e10de69268d37d1f5fe180d910a5e1b2e1c08cf2b18fad", func := "loop.example/g01119/laws.FnExactDerivedRack", spec := "fnExactDerivedRack", unfollowed := true, recurses := true, plainKeys := false, apart := false, narrowed := true }
def FnExactDerivedRackUptoSaid : Prop := fnExactDerivedRackUptoRow.holds Try.pinned (OpenSpec.upto fnExactDerivedRackSpec)

/-- 'laws.FnExactTupleMove', WHERE WHAT IT READS IS OF BULK AT MOST 1048576: true; the input reads as it did. -/
def fnExactTupleMoveUptoRow : OpenClaim := { program := "ytpnlmmilnglmkaa", sum := "63e58bf0e1b717d869e10de69268d37d1f5fe180d910a5e1b2e1c08cf2b18fad", func := "loop.example/g01119/laws.FnExactTupleMove", spec := "fnExactTupleMove", unfollowed := true, recurses := true, plainKeys := false, apart := false, narrowed := true }
def FnExactTupleMoveUptoSaid : Prop := fnExactTupleMoveUptoRow.holds Try.pinned (OpenSpec.upto fnExactTupleMoveSpec)

/-- 'laws.FnExactRackMove', WHERE WHAT IT READS IS OF BULK AT MOST 1048576: true; the input reads as it did. -/
def fnExactRackMoveUptoRow : OpenClaim := { program := "ytpnlmmilnglmkaa", sum := "63e58bf0e1b717d869e10de69268d37d1f5fe180d910a5e1b2e1c08cf2b18fad", func := "loop.example/g01119/laws.FnExactRackMove", spec := "fnExactRackMove", unfollowed := true, recurses := true, plainKeys := false, apart := false, narrowed := true }
def FnExactRackMoveUptoSaid : Prop := fnExactRackMoveUptoRow.holds Try.pinned (OpenSpec.upto fnExactRackMoveSpec)

/-- 'laws.FnExactGuitarMap', WHERE WHAT IT READS IS OF BULK AT MOST 1048576: true; the input reads as it did. -/
def fnExactGuitarMapUptoRow : OpenClaim := { program := "ytpnlmmilnglmkaa", sum := "63e58bf0e1b717d869e10de69268d37d1f5fe180d910a5e1b2e1c08cf2b18fad", func := "loop.example/g01119/laws.FnExactGuitarMap", spec := "fnExactGuitarMap", unfollowed := true, recurses := true, plainKeys := false, apart := false, narrowed := true }
def FnExactGuitarMapUptoSaid : Prop := fnExactGuitarMapUptoRow.holds Try.pinned (OpenSpec.upto fnExactGuitarMapSpec)

/-- 'laws.FnExactGuitarBack', WHERE WHAT IT READS IS OF BULK AT MOST 1048576: true; the input reads as it did. -/
def fnExactGuitarBackUptoRow : OpenClaim := { program := "ytpnlmmilnglmkaa", sum := "63e58bf0e1b717d869e10de69268d37d1f5fe180d910a5e1b2e1c08cf2b18fad", func := "loop.example/g01119/laws.FnExactGuitarBack", spec := "fnExactGuitarBack", plainKeys := false, apart := false, narrowed := true }
def FnExactGuitarBackUptoSaid : Prop := fnExactGuitarBackUptoRow.holds Try.pinned (OpenSpec.upto fnExactGuitarBackSpec)

/-- 'laws.FnExactTwistedSolution', WHERE WHAT IT READS IS OF BULK AT MOST 1048576: true; the input reads as it did. -/
def fnExactTwistedSolutionUptoRow : OpenClaim := { program := "ytpnlmmilnglmkaa", sum := "63e58bf0e1b717d869e10de69268d37d1f5fe180d910a5e1b2e1c08cf2b18fad", func := "loop.example/g01119/laws.FnExactTwistedSolution", spec := "fnExactTwistedSolution", unfollowed := true, recurses := true, plainKeys := false, apart := false, narrowed := true }
def FnExactTwistedSolutionUptoSaid : Prop := fnExactTwistedSolutionUptoRow.holds Try.pinned (OpenSpec.upto fnExactTwistedSolutionSpec)

/-- 'laws.FnExactTupleOrbit', WHERE WHAT IT READS IS OF BULK AT MOST 1048576: true; the input reads as it did. -/
def fnExactTupleOrbitUptoRow : OpenClaim := { program := "ytpnlmmilnglmkaa", sum := "63e58bf0e1b717d869e10de69268d37d1f5fe180d910a5e1b2e1c08cf2b18fad", func := "loop.example/g01119/laws.FnExactTupleOrbit", spec := "fnExactTupleOrbit", unfollowed := true, recurses := true, plainKeys := false, apart := false, narrowed := true }
def FnExactTupleOrbitUptoSaid : Prop := fnExactTupleOrbitUptoRow.holds Try.pinned (OpenSpec.upto fnExactTupleOrbitSpec)

/-- 'laws.FnExactCountTupleOrbits', WHERE WHAT IT READS IS OF BULK AT MOST 1048576: true; the input reads as it did. -/
def fnExactCountTupleOrbitsUptoRow : OpenClaim := { program := "ytpnlmmilnglmkaa", sum := "63e58bf0e1b717d869e10de69268d37d1f5fe180d910a5e1b2e1c08cf2b18fad", func := "loop.example/g01119/laws.FnExactCountTupleOrbits", spec := "fnExactCountTupleOrbits", unfollowed := true, recurses := true, plainKeys := false, apart := false, narrowed := true }
def FnExactCountTupleOrbitsUptoSaid : Prop := fnExactCountTupleOrbitsUptoRow.holds Try.pinned (OpenSpec.upto fnExactCountTupleOrbitsSpec)

/-- 'laws.FnExactCongruenceFrom', WHERE WHAT IT READS IS OF BULK AT MOST 1048576: true; the input reads as it did. -/
def fnExactCongruenceFromUptoRow : OpenClaim := { program := "ytpnlmmilnglmkaa", sum := "63e58bf0e1b717d869e10de69268d37d1f5fe180d910a5e1b2e1c08cf2b18fad", func := "loop.example/g01119/laws.FnExactCongruenceFrom", spec := "fnExactCongruenceFrom", unfollowed := true, recurses := true, plainKeys := false, apart := false, narrowed := true }
def FnExactCongruenceFromUptoSaid : Prop := fnExactCongruenceFromUptoRow.holds Try.pinned (OpenSpec.upto fnExactCongruenceFromSpec)

/-- 'laws.FnExactIsSimpleRack', WHERE WHAT IT READS IS OF BULK AT MOST 1048576: true; the input reads as it did. -/
def fnExactIsSimpleRackUptoRow : OpenClaim := { program := "ytpnlmmilnglmkaa", sum := "63e58bf0e1b717d869e10de69268d37d1f5fe180d910a5e1b2e1c08cf2b18fad", func := "loop.example/g01119/laws.FnExactIsSimpleRack", spec := "fnExactIsSimpleRack", unfollowed := true, recurses := true, plainKeys := false, apart := false, narrowed := true }
def FnExactIsSimpleRackUptoSaid : Prop := fnExactIsSimpleRackUptoRow.holds Try.pinned (OpenSpec.upto fnExactIsSimpleRackSpec)

/-- 'laws.FnExactCyclicGroup', WHERE WHAT IT READS IS OF BULK AT MOST 1048576: true; the input reads as it did. -/
def fnExactCyclicGroupUptoRow : OpenClaim := { program := "ytpnlmmilnglmkaa", sum := "63e58bf0e1b717d869e10de69268d37d1f5fe180d910a5e1b2e1c08cf2b18fad", func := "loop.example/g01119/laws.FnExactCyclicGroup", spec := "fnExactCyclicGroup", unfollowed := true, recurses := true, plainKeys := false, apart := false, narrowed := true }
def FnExactCyclicGroupUptoSaid : Prop := fnExactCyclicGroupUptoRow.holds Try.pinned (OpenSpec.upto fnExactCyclicGroupSpec)

end Rows
end Go.Proofs.Ytpnlmmilnglmkaa
