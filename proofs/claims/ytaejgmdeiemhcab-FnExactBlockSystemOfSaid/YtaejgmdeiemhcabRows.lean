/-
  No cell of these rows narrows 'for every input' (looked for: loops, veiled, ifaces, maps, wideKeys, modest, calm, conditions, laid).
  DERIVED. THE GIVEN ROWS OF THIS SEAT. 5 by the template 'for every input the law returns true; each argument reads behind the call as it read before'; 0 by the template 'total and deterministic' (their statements: YtaejgmdeiemhcabTotals.lean).
  GIVEN WITH THE SEED: the statements are not yours to turn. If you find one false, say at which input.
  Laid BY PROGRAM, IN A SANDBOX (cutbox-rows.mjs): the forced cells as the released guide's own fill.sh prints them over the translation 0433dd5abafaa628… (all of the seat's roots in one cut). By AI agents, Wed Nov 11 2026. No macro, syntax, notation, axiom, sorry.
-/
import Derived.Test.YtaejgmdeiemhcabChecked
import GoSem.Claim
import GoSem.ClaimJoined
import GoSem.ClaimMapViews
import Derived.JoinedTies
import Derived.KernelRfl
namespace Go.Proofs.Ytaejgmdeiemhcab
/- THE CELL 'sum', in the pinned program and in every row, IS THE sha256 OF THE DUMP (.gsa) THAT YtaejgmdeiemhcabProg.lean LOADS. Nothing in Lean hashes anything: it is a label: what it is worth is what the hold of that sum in a sandbox is worth. -/
noncomputable def Try.pinned : Pinned := { name := "ytaejgmdeiemhcab", sum := "0433dd5abafaa628e989cd088a5c860172c1d5a59e657ca1ee3c5c664e77b3a2", checked := Try.checked }
namespace Rows
def none {H : Type} : Left H := { results := [], args := [] }

/-- 'laws.FnExactGroupElements': WHATEVER THE INPUT: true; the input reads as it did. -/
def fnExactGroupElementsSpec : ChangeSpec := { name := "fnExactGroupElements", fn := fun _ => fun
  | [d1, d2] => { results := [.lit (.bool true)], args := [d1, d2] }
  | _ => none }
def fnExactGroupElementsRow : OpenClaim := { program := "ytaejgmdeiemhcab", sum := "0433dd5abafaa628e989cd088a5c860172c1d5a59e657ca1ee3c5c664e77b3a2", func := "loop.example/g01119/laws.FnExactGroupElements", spec := "fnExactGroupElements", unfollowed := true, recurses := true, plainKeys := false, apart := false }
def FnExactGroupElementsSaid : Prop := fnExactGroupElementsRow.holds Try.pinned (OpenSpec.ofChange fnExactGroupElementsSpec)

/-- ITS FALSE NEIGHBOUR: 'it returns false'. Refute it at one input. -/
def fnExactGroupElementsWrong : ChangeSpec := { name := "fnExactGroupElements", fn := fun _ => fun
  | [d1, d2] => { results := [.lit (.bool false)], args := [d1, d2] }
  | _ => none }
def FnExactGroupElementsWrongFalsely : Prop := fnExactGroupElementsRow.holds Try.pinned (OpenSpec.ofChange fnExactGroupElementsWrong)

/-- 'laws.FnExactBlockSystemOf': WHATEVER THE INPUT: true; the input reads as it did. -/
def fnExactBlockSystemOfSpec : ChangeSpec := { name := "fnExactBlockSystemOf", fn := fun _ => fun
  | [d1, d2, d3] => { results := [.lit (.bool true)], args := [d1, d2, d3] }
  | _ => none }
def fnExactBlockSystemOfRow : OpenClaim := { program := "ytaejgmdeiemhcab", sum := "0433dd5abafaa628e989cd088a5c860172c1d5a59e657ca1ee3c5c664e77b3a2", func := "loop.example/g01119/laws.FnExactBlockSystemOf", spec := "fnExactBlockSystemOf", unfollowed := true, recurses := true, plainKeys := false, apart := false }
def FnExactBlockSystemOfSaid : Prop := fnExactBlockSystemOfRow.holds Try.pinned (OpenSpec.ofChange fnExactBlockSystemOfSpec)

/-- ITS FALSE NEIGHBOUR: 'it returns false'. Refute it at one input. -/
def fnExactBlockSystemOfWrong : ChangeSpec := { name := "fnExactBlockSystemOf", fn := fun _ => fun
  | [d1, d2, d3] => { results := [.lit (.bool false)], args := [d1, d2, d3] }
  | _ => none }
def FnExactBlockSystemOfWrongFalsely : Prop := fnExactBlockSystemOfRow.holds Try.pinned (OpenSpec.ofChange fnExactBlockSystemOfWrong)

/-- 'laws.FnExactIsPrimitiveSolution': WHATEVER THE INPUT: true; the input reads as it did. -/
def fnExactIsPrimitiveSolutionSpec : ChangeSpec := { name := "fnExactIsPrimitiveSolution", fn := fun _ => fun
  | [d] => { results := [.lit (.bool true)], args := [d] }
  | _ => none }
def fnExactIsPrimitiveSolutionRow : OpenClaim := { program := "ytaejgmdeiemhcab", sum := "0433dd5abafaa628e989cd088a5c860172c1d5a59e657ca1ee3c5c664e77b3a2", func := "loop.example/g01119/laws.FnExactIsPrimitiveSolution", spec := "fnExactIsPrimitiveSolution", unfollowed := true, recurses := true, plainKeys := false, apart := false }
def FnExactIsPrimitiveSolutionSaid : Prop := fnExactIsPrimitiveSolutionRow.holds Try.pinned (OpenSpec.ofChange fnExactIsPrimitiveSolutionSpec)

/-- ITS FALSE NEIGHBOUR: 'it returns false'. Refute it at one input. -/
def fnExactIsPrimitiveSolutionWrong : ChangeSpec := { name := "fnExactIsPrimitiveSolution", fn := fun _ => fun
  | [d] => { results := [.lit (.bool false)], args := [d] }
  | _ => none }
def FnExactIsPrimitiveSolutionWrongFalsely : Prop := fnExactIsPrimitiveSolutionRow.holds Try.pinned (OpenSpec.ofChange fnExactIsPrimitiveSolutionWrong)

/-- 'laws.FnExactCongruenceFrom': WHATEVER THE INPUT: true; the input reads as it did. -/
def fnExactCongruenceFromSpec : ChangeSpec := { name := "fnExactCongruenceFrom", fn := fun _ => fun
  | [d1, d2, d3] => { results := [.lit (.bool true)], args := [d1, d2, d3] }
  | _ => none }
def fnExactCongruenceFromRow : OpenClaim := { program := "ytaejgmdeiemhcab", sum := "0433dd5abafaa628e989cd088a5c860172c1d5a59e657ca1ee3c5c664e77b3a2", func := "loop.example/g01119/laws.FnExactCongruenceFrom", spec := "fnExactCongruenceFrom", unfollowed := true, recurses := true, plainKeys := false, apart := false }
def FnExactCongruenceFromSaid : Prop := fnExactCongruenceFromRow.holds Try.pinned (OpenSpec.ofChange fnExactCongruenceFromSpec)

/-- ITS FALSE NEIGHBOUR: 'it returns false'. Refute it at one input. -/
def fnExactCongruenceFromWrong : ChangeSpec := { name := "fnExactCongruenceFrom", fn := fun _ => fun
  | [d1, d2, d3] => { results := [.lit (.bool false)], args := [d1, d2, d3] }
  | _ => none }
def FnExactCongruenceFromWrongFalsely : Prop := fnExactCongruenceFromRow.holds Try.pinned (OpenSpec.ofChange fnExactCongruenceFromWrong)

/-- 'laws.FnExactIsSimpleRack': WHATEVER THE INPUT: true; the input reads as it did. -/
def fnExactIsSimpleRackSpec : ChangeSpec := { name := "fnExactIsSimpleRack", fn := fun _ => fun
  | [d] => { results := [.lit (.bool true)], args := [d] }
  | _ => none }
def fnExactIsSimpleRackRow : OpenClaim := { program := "ytaejgmdeiemhcab", sum := "0433dd5abafaa628e989cd088a5c860172c1d5a59e657ca1ee3c5c664e77b3a2", func := "loop.example/g01119/laws.FnExactIsSimpleRack", spec := "fnExactIsSimpleRack", unfollowed := true, recurses := true, plainKeys := false, apart := false }
def FnExactIsSimpleRackSaid : Prop := fnExactIsSimpleRackRow.holds Try.pinned (OpenSpec.ofChange fnExactIsSimpleRackSpec)

/-- ITS FALSE NEIGHBOUR: 'it returns false'. Refute it at one input. -/
def fnExactIsSimpleRackWrong : ChangeSpec := { name := "fnExactIsSimpleRack", fn := fun _ => fun
  | [d] => { results := [.lit (.bool false)], args := [d] }
  | _ => none }
def FnExactIsSimpleRackWrongFalsely : Prop := fnExactIsSimpleRackRow.holds Try.pinned (OpenSpec.ofChange fnExactIsSimpleRackWrong)

/- THE SECOND FORM. 'bulk': how many values and letters a reading holds, each counted each time it is reached (what is shared counts as often as it is met; a slice's spare places count too). A statement '..UptoSaid' is the law's where the arguments, and the package variables that the reading takes, are together of bulk at most 1048576: NARROWER than '..Said'. Prove '..Said' where nothing that the law and all that it calls make is longer than what came in: it says more and counts as full. Else prove '..UptoSaid'. A law counts once. -/
mutual
def uptoBulk {H : Type} : DataW H → Nat
  | .lit (.string bytes) => bytes.length + 1
  | .lit _ => 1
  | .nil => 1
  | .ptr d => uptoBulk d + 1
  | .slice elems spare => uptoBulkAll elems + uptoBulkAll spare + 1
  | .agg parts => uptoBulkAll parts + 1
  | .iface _ d => uptoBulk d + 1
  | .map entries => uptoBulkEntries entries + 1
  | .held _ => 1
def uptoBulkAll {H : Type} : List (DataW H) → Nat
  | [] => 0
  | d :: r => uptoBulk d + uptoBulkAll r
def uptoBulkEntries {H : Type} : List (Lit × DataW H) → Nat
  | [] => 0
  | x :: r => uptoBulkEntry x + uptoBulkEntries r
def uptoBulkEntry {H : Type} : Lit × DataW H → Nat
  | (.string bytes, d) => bytes.length + uptoBulk d + 1
  | (_, d) => uptoBulk d + 1
 end
def uptoSmall : (H : Type) → List (DataW H) → Bool := fun _ ds => decide (uptoBulkAll ds ≤ 1048576)
def OpenSpec.upto (s : _root_.Go.ChangeSpec) : _root_.Go.OpenSpec := { _root_.Go.OpenSpec.ofChange s with cond := some uptoSmall }

/-- 'laws.FnExactGroupElements', WHERE WHAT IT READS IS OF BULK AT MOST 1048576: true; the input reads as it did. -/
def fnExactGroupElementsUptoRow : OpenClaim := { program := "ytaejgmdeiemhcab", sum := "0433dd5abafaa628e989cd088a5c860172c1d5a59e657ca1ee3c5c664e77b3a2", func := "loop.example/g01119/laws.FnExactGroupElements", spec := "fnExactGroupElements", unfollowed := true, recurses := true, plainKeys := false, apart := false, narrowed := true }
def FnExactGroupElementsUptoSaid : Prop := fnExactGroupElementsUptoRow.holds Try.pinned (OpenSpec.upto fnExactGroupElementsSpec)

/-- 'laws.FnExactBlockSystemOf', WHERE WHAT IT READS IS OF BULK AT MOST 1048576: true; the input reads as it did. -/
def fnExactBlockSystemOfUptoRow : OpenClaim := { program := "ytaejgmdeiemhcab", sum := "0433dd5abafaa628e989cd088a5c860172c1d5a59e657ca1ee3c5c664e77b3a2", func := "loop.example/g01119/laws.FnExactBlockSystemOf", spec := "fnExactBlockSystemOf", unfollowed := true, recurses := true, plainKeys := false, apart := false, narrowed := true }
def FnExactBlockSystemOfUptoSaid : Prop := fnExactBlockSystemOfUptoRow.holds Try.pinned (OpenSpec.upto fnExactBlockSystemOfSpec)

/-- 'laws.FnExactIsPrimitiveSolution', WHERE WHAT IT READS IS OF BULK AT MOST 1048576: true; the input reads as it did. -/
def fnExactIsPrimitiveSolutionUptoRow : OpenClaim := { program := "ytaejgmdeiemhcab", sum := "0433dd5abafaa628e989cd088a5c860172c1d5a59e657ca1ee3c5c664e77b3a2", func := "loop.example/g01119/laws.FnExactIsPrimitiveSolution", spec := "fnExactIsPrimitiveSolution", unfollowed := true, recurses := true, plainKeys := false, apart := false, narrowed := true }
def FnExactIsPrimitiveSolutionUptoSaid : Prop := fnExactIsPrimitiveSolutionUptoRow.holds Try.pinned (OpenSpec.upto fnExactIsPrimitiveSolutionSpec)

/-- 'laws.FnExactCongruenceFrom', WHERE WHAT IT READS IS OF BULK AT MOST 1048576: true; the input reads as it did. -/
def fnExactCongruenceFromUptoRow : OpenClaim := { program := "ytaejgmdeiemhcab", sum := "0433dd5abafaa628e989cd088a5c860172c1d5a59e657ca1ee3c5c664e77b3a2", func := "loop.example/g01119/laws.FnExactCongruenceFrom", spec := "fnExactCongruenceFrom", unfollowed := true, recurses := true, plainKeys := false, apart := false, narrowed := true }
def FnExactCongruenceFromUptoSaid : Prop := fnExactCongruenceFromUptoRow.holds Try.pinned (OpenSpec.upto fnExactCongruenceFromSpec)

/-- 'laws.FnExactIsSimpleRack', WHERE WHAT IT READS IS OF BULK AT MOST 1048576: true; the input reads as it did. -/
def fnExactIsSimpleRackUptoRow : OpenClaim := { program := "ytaejgmdeiemhcab", sum := "0433dd5abafaa628e989cd088a5c860172c1d5a59e657ca1ee3c5c664e77b3a2", func := "loop.example/g01119/laws.FnExactIsSimpleRack", spec := "fnExactIsSimpleRack", unfollowed := true, recurses := true, plainKeys := false, apart := false, narrowed := true }
def FnExactIsSimpleRackUptoSaid : Prop := fnExactIsSimpleRackUptoRow.holds Try.pinned (OpenSpec.upto fnExactIsSimpleRackSpec)

end Rows
end Go.Proofs.Ytaejgmdeiemhcab
