/-
  No cell of these rows narrows 'for every input' (looked for: loops, veiled, ifaces, maps, wideKeys, modest, calm, conditions, laid).
  DERIVED. THE GIVEN ROWS OF THIS SEAT. 7 by the template 'for every input the law returns true; each argument reads behind the call as it read before'; 0 by the template 'total and deterministic' (their statements: YtljdfanebjhhmaaTotals.lean).
  GIVEN WITH THE SEED: the statements are not yours to turn. If you find one false, say at which input.
  Laid BY PROGRAM, IN A SANDBOX (cutbox-rows.mjs): the forced cells as the released guide's own fill.sh prints them over the translation 16745b04b15a7943… (all of the seat's roots in one cut). By AI agents, Wed Nov 11 2026. No macro, syntax, notation, axiom, sorry.
-/
import Derived.Test.YtljdfanebjhhmaaChecked
import GoSem.Claim
import GoSem.ClaimJoined
import GoSem.ClaimMapViews
import Derived.JoinedTies
import Derived.KernelRfl
namespace Go.Proofs.Ytljdfanebjhhmaa
/- THE CELL 'sum', in the pinned program and in every row, IS THE sha256 OF THE DUMP (.gsa) THAT YtljdfanebjhhmaaProg.lean LOADS. Nothing in Lean hashes anything: it is a label: what it is worth is what the hold of that sum in a sandbox is worth. -/
noncomputable def Try.pinned : Pinned := { name := "ytljdfanebjhhmaa", sum := "16745b04b15a79430248faba11daf330f759317690bbbe3771545b8acbbd52ae", checked := Try.checked }
namespace Rows
def none {H : Type} : Left H := { results := [], args := [] }

/-- 'laws.FnExactProductRack': WHATEVER THE INPUT: true; the input reads as it did. -/
def fnExactProductRackSpec : ChangeSpec := { name := "fnExactProductRack", fn := fun _ => fun
  | [d1, d2] => { results := [.lit (.bool true)], args := [d1, d2] }
  | _ => none }
def fnExactProductRackRow : OpenClaim := { program := "ytljdfanebjhhmaa", sum := "16745b04b15a79430248faba11daf330f759317690bbbe3771545b8acbbd52ae", func := "loop.example/g01119/laws.FnExactProductRack", spec := "fnExactProductRack", unfollowed := true, recurses := true, plainKeys := false, apart := false }
def FnExactProductRackSaid : Prop := fnExactProductRackRow.holds Try.pinned (OpenSpec.ofChange fnExactProductRackSpec)

/-- ITS FALSE NEIGHBOUR: 'it returns false'. Refute it at one input. -/
def fnExactProductRackWrong : ChangeSpec := { name := "fnExactProductRack", fn := fun _ => fun
  | [d1, d2] => { results := [.lit (.bool false)], args := [d1, d2] }
  | _ => none }
def FnExactProductRackWrongFalsely : Prop := fnExactProductRackRow.holds Try.pinned (OpenSpec.ofChange fnExactProductRackWrong)

/-- 'laws.FnExactUnionRack': WHATEVER THE INPUT: true; the input reads as it did. -/
def fnExactUnionRackSpec : ChangeSpec := { name := "fnExactUnionRack", fn := fun _ => fun
  | [d1, d2] => { results := [.lit (.bool true)], args := [d1, d2] }
  | _ => none }
def fnExactUnionRackRow : OpenClaim := { program := "ytljdfanebjhhmaa", sum := "16745b04b15a79430248faba11daf330f759317690bbbe3771545b8acbbd52ae", func := "loop.example/g01119/laws.FnExactUnionRack", spec := "fnExactUnionRack", unfollowed := true, recurses := true, plainKeys := false, apart := false }
def FnExactUnionRackSaid : Prop := fnExactUnionRackRow.holds Try.pinned (OpenSpec.ofChange fnExactUnionRackSpec)

/-- ITS FALSE NEIGHBOUR: 'it returns false'. Refute it at one input. -/
def fnExactUnionRackWrong : ChangeSpec := { name := "fnExactUnionRack", fn := fun _ => fun
  | [d1, d2] => { results := [.lit (.bool false)], args := [d1, d2] }
  | _ => none }
def FnExactUnionRackWrongFalsely : Prop := fnExactUnionRackRow.holds Try.pinned (OpenSpec.ofChange fnExactUnionRackWrong)

/-- 'laws.FnExactIsCongruence': WHATEVER THE INPUT: true; the input reads as it did. -/
def fnExactIsCongruenceSpec : ChangeSpec := { name := "fnExactIsCongruence", fn := fun _ => fun
  | [d1, d2] => { results := [.lit (.bool true)], args := [d1, d2] }
  | _ => none }
def fnExactIsCongruenceRow : OpenClaim := { program := "ytljdfanebjhhmaa", sum := "16745b04b15a79430248faba11daf330f759317690bbbe3771545b8acbbd52ae", func := "loop.example/g01119/laws.FnExactIsCongruence", spec := "fnExactIsCongruence", unfollowed := true, recurses := true, plainKeys := false, apart := false }
def FnExactIsCongruenceSaid : Prop := fnExactIsCongruenceRow.holds Try.pinned (OpenSpec.ofChange fnExactIsCongruenceSpec)

/-- ITS FALSE NEIGHBOUR: 'it returns false'. Refute it at one input. -/
def fnExactIsCongruenceWrong : ChangeSpec := { name := "fnExactIsCongruence", fn := fun _ => fun
  | [d1, d2] => { results := [.lit (.bool false)], args := [d1, d2] }
  | _ => none }
def FnExactIsCongruenceWrongFalsely : Prop := fnExactIsCongruenceRow.holds Try.pinned (OpenSpec.ofChange fnExactIsCongruenceWrong)

/-- 'laws.FnExactQuotientRack': WHATEVER THE INPUT: true; the input reads as it did. -/
def fnExactQuotientRackSpec : ChangeSpec := { name := "fnExactQuotientRack", fn := fun _ => fun
  | [d1, d2] => { results := [.lit (.bool true)], args := [d1, d2] }
  | _ => none }
def fnExactQuotientRackRow : OpenClaim := { program := "ytljdfanebjhhmaa", sum := "16745b04b15a79430248faba11daf330f759317690bbbe3771545b8acbbd52ae", func := "loop.example/g01119/laws.FnExactQuotientRack", spec := "fnExactQuotientRack", unfollowed := true, recurses := true, plainKeys := false, apart := false }
def FnExactQuotientRackSaid : Prop := fnExactQuotientRackRow.holds Try.pinned (OpenSpec.ofChange fnExactQuotientRackSpec)

/-- ITS FALSE NEIGHBOUR: 'it returns false'. Refute it at one input. -/
def fnExactQuotientRackWrong : ChangeSpec := { name := "fnExactQuotientRack", fn := fun _ => fun
  | [d1, d2] => { results := [.lit (.bool false)], args := [d1, d2] }
  | _ => none }
def FnExactQuotientRackWrongFalsely : Prop := fnExactQuotientRackRow.holds Try.pinned (OpenSpec.ofChange fnExactQuotientRackWrong)

/-- 'laws.FnExactLeastRack': WHATEVER THE INPUT: true; the input reads as it did. -/
def fnExactLeastRackSpec : ChangeSpec := { name := "fnExactLeastRack", fn := fun _ => fun
  | [d] => { results := [.lit (.bool true)], args := [d] }
  | _ => none }
def fnExactLeastRackRow : OpenClaim := { program := "ytljdfanebjhhmaa", sum := "16745b04b15a79430248faba11daf330f759317690bbbe3771545b8acbbd52ae", func := "loop.example/g01119/laws.FnExactLeastRack", spec := "fnExactLeastRack", unfollowed := true, recurses := true, plainKeys := false, apart := false }
def FnExactLeastRackSaid : Prop := fnExactLeastRackRow.holds Try.pinned (OpenSpec.ofChange fnExactLeastRackSpec)

/-- ITS FALSE NEIGHBOUR: 'it returns false'. Refute it at one input. -/
def fnExactLeastRackWrong : ChangeSpec := { name := "fnExactLeastRack", fn := fun _ => fun
  | [d] => { results := [.lit (.bool false)], args := [d] }
  | _ => none }
def FnExactLeastRackWrongFalsely : Prop := fnExactLeastRackRow.holds Try.pinned (OpenSpec.ofChange fnExactLeastRackWrong)

/-- 'laws.FnExactLeastSolution': WHATEVER THE INPUT: true; the input reads as it did. -/
def fnExactLeastSolutionSpec : ChangeSpec := { name := "fnExactLeastSolution", fn := fun _ => fun
  | [d] => { results := [.lit (.bool true)], args := [d] }
  | _ => none }
def fnExactLeastSolutionRow : OpenClaim := { program := "ytljdfanebjhhmaa", sum := "16745b04b15a79430248faba11daf330f759317690bbbe3771545b8acbbd52ae", func := "loop.example/g01119/laws.FnExactLeastSolution", spec := "fnExactLeastSolution", unfollowed := true, recurses := true, plainKeys := false, apart := false }
def FnExactLeastSolutionSaid : Prop := fnExactLeastSolutionRow.holds Try.pinned (OpenSpec.ofChange fnExactLeastSolutionSpec)

/-- ITS FALSE NEIGHBOUR: 'it returns false'. Refute it at one input. -/
def fnExactLeastSolutionWrong : ChangeSpec := { name := "fnExactLeastSolution", fn := fun _ => fun
  | [d] => { results := [.lit (.bool false)], args := [d] }
  | _ => none }
def FnExactLeastSolutionWrongFalsely : Prop := fnExactLeastSolutionRow.holds Try.pinned (OpenSpec.ofChange fnExactLeastSolutionWrong)

/-- 'laws.FnExactOrderOfSolution': WHATEVER THE INPUT: true; the input reads as it did. -/
def fnExactOrderOfSolutionSpec : ChangeSpec := { name := "fnExactOrderOfSolution", fn := fun _ => fun
  | [d] => { results := [.lit (.bool true)], args := [d] }
  | _ => none }
def fnExactOrderOfSolutionRow : OpenClaim := { program := "ytljdfanebjhhmaa", sum := "16745b04b15a79430248faba11daf330f759317690bbbe3771545b8acbbd52ae", func := "loop.example/g01119/laws.FnExactOrderOfSolution", spec := "fnExactOrderOfSolution", plainKeys := false, apart := false }
def FnExactOrderOfSolutionSaid : Prop := fnExactOrderOfSolutionRow.holds Try.pinned (OpenSpec.ofChange fnExactOrderOfSolutionSpec)

/-- ITS FALSE NEIGHBOUR: 'it returns false'. Refute it at one input. -/
def fnExactOrderOfSolutionWrong : ChangeSpec := { name := "fnExactOrderOfSolution", fn := fun _ => fun
  | [d] => { results := [.lit (.bool false)], args := [d] }
  | _ => none }
def FnExactOrderOfSolutionWrongFalsely : Prop := fnExactOrderOfSolutionRow.holds Try.pinned (OpenSpec.ofChange fnExactOrderOfSolutionWrong)

/- THE SECOND FORM. 'bulk': how many values and letters a reading holds, each counted each time it is reached (what is shared counts as often as it is met; a slice's spare places count too). A statement '..UptoSaid' is the law's where the arguments, and the package variables that the reading takes, are together of bulk at most 1048576: NARROWER than '..Said'. Prove '..Said' where nothing that the law and all that it calls make is longer than what came in: it says more and counts as full. Else prove '..UptoSaid'. A law counts once. -/
mutual
def uptoBulk {H : Type} : DataW H → Nat
  | .lit (.string bytes) => bytes.length + 1
  | .lit _ => 1
  | .nil => 1
  | .ptr d => uptoBulk d + 1
  | .slice elems spare => uptoBulkAll elems + uptoBulkAll spare + 1
  | .agg parts => uptoBulkAll parts + 1
  | .iface _ d => uptoBulk d + 1
  | .map entries => uptoBulkEntries entries + 1
  | .held _ => 1
def uptoBulkAll {H : Type} : List (DataW H) → Nat
  | [] => 0
  | d :: r => uptoBulk d + uptoBulkAll r
def uptoBulkEntries {H : Type} : List (Lit × DataW H) → Nat
  | [] => 0
  | x :: r => uptoBulkEntry x + uptoBulkEntries r
def uptoBulkEntry {H : Type} : Lit × DataW H → Nat
  | (.string bytes, d) => bytes.length + uptoBulk d + 1
  | (_, d) => uptoBulk d + 1
 end
def uptoSmall : (H : Type) → List (DataW H) → Bool := fun _ ds => decide (uptoBulkAll ds ≤ 1048576)
def OpenSpec.upto (s : _root_.Go.ChangeSpec) : _root_.Go.OpenSpec := { _root_.Go.OpenSpec.ofChange s with cond := some uptoSmall }

/-- 'laws.FnExactProductRack', WHERE WHAT IT READS IS OF BULK AT MOST 1048576: true; the input reads as it did. -/
def fnExactProductRackUptoRow : OpenClaim := { program := "ytljdfanebjhhmaa", sum := "16745b04b15a79430248faba11daf330f759317690bbbe3771545b8acbbd52ae", func := "loop.example/g01119/laws.FnExactProductRack", spec := "fnExactProductRack", unfollowed := true, recurses := true, plainKeys := false, apart := false, narrowed := true }
def FnExactProductRackUptoSaid : Prop := fnExactProductRackUptoRow.holds Try.pinned (OpenSpec.upto fnExactProductRackSpec)

/-- 'laws.FnExactUnionRack', WHERE WHAT IT READS IS OF BULK AT MOST 1048576: true; the input reads as it did. -/
def fnExactUnionRackUptoRow : OpenClaim := { program := "ytljdfanebjhhmaa", sum := "16745b04b15a79430248faba11daf330f759317690bbbe3771545b8acbbd52ae", func := "loop.example/g01119/laws.FnExactUnionRack", spec := "fnExactUnionRack", unfollowed := true, recurses := true, plainKeys := false, apart := false, narrowed := true }
def FnExactUnionRackUptoSaid : Prop := fnExactUnionRackUptoRow.holds Try.pinned (OpenSpec.upto fnExactUnionRackSpec)

/-- 'laws.FnExactIsCongruence', WHERE WHAT IT READS IS OF BULK AT MOST 1048576: true; the input reads as it did. -/
def fnExactIsCongruenceUptoRow : OpenClaim := { program := "ytljdfanebjhhmaa", sum := "16745b04b15a79430248faba11daf330f759317690bbbe3771545b8acbbd52ae", func := "loop.example/g01119/laws.FnExactIsCongruence", spec := "fnExactIsCongruence", unfollowed := true, recurses := true, plainKeys := false, apart := false, narrowed := true }
def FnExactIsCongruenceUptoSaid : Prop := fnExactIsCongruenceUptoRow.holds Try.pinned (OpenSpec.upto fnExactIsCongruenceSpec)

/-- 'laws.FnExactQuotientRack', WHERE WHAT IT READS IS OF BULK AT MOST 1048576: true; the input reads as it did. -/
def fnExactQuotientRackUptoRow : OpenClaim := { program := "ytljdfanebjhhmaa", sum := "16745b04b15a79430248faba11daf330f759317690bbbe3771545b8acbbd52ae", func := "loop.example/g01119/laws.FnExactQuotientRack", spec := "fnExactQuotientRack", unfollowed := true, recurses := true, plainKeys := false, apart := false, narrowed := true }
def FnExactQuotientRackUptoSaid : Prop := fnExactQuotientRackUptoRow.holds Try.pinned (OpenSpec.upto fnExactQuotientRackSpec)

/-- 'laws.FnExactLeastRack', WHERE WHAT IT READS IS OF BULK AT MOST 1048576: true; the input reads as it did. -/
def fnExactLeastRackUptoRow : OpenClaim := { program := "ytljdfanebjhhmaa", sum := "16745b04b15a79430248faba11daf330f759317690bbbe3771545b8acbbd52ae", func := "loop.example/g01119/laws.FnExactLeastRack", spec := "fnExactLeastRack", unfollowed := true, recurses := true, plainKeys := false, apart := false, narrowed := true }
def FnExactLeastRackUptoSaid : Prop := fnExactLeastRackUptoRow.holds Try.pinned (OpenSpec.upto fnExactLeastRackSpec)

/-- 'laws.FnExactLeastSolution', WHERE WHAT IT READS IS OF BULK AT MOST 1048576: true; the input reads as it did. -/
def fnExactLeastSolutionUptoRow : OpenClaim := { program := "ytljdfanebjhhmaa", sum := "16745b04b15a79430248faba11daf330f759317690bbbe3771545b8acbbd52ae", func := "loop.example/g01119/laws.FnExactLeastSolution", spec := "fnExactLeastSolution", unfollowed := true, recurses := true, plainKeys := false, apart := false, narrowed := true }
def FnExactLeastSolutionUptoSaid : Prop := fnExactLeastSolutionUptoRow.holds Try.pinned (OpenSpec.upto fnExactLeastSolutionSpec)

/-- 'laws.FnExactOrderOfSolution', WHERE WHAT IT READS IS OF BULK AT MOST 1048576: true; the input reads as it did. -/
def fnExactOrderOfSolutionUptoRow : OpenClaim := { program := "ytljdfanebjhhmaa", sum := "16745b04b15a79430248faba11daf330f759317690bbbe3771545b8acbbd52ae", func := "loop.example/g01119/laws.FnExactOrderOfSolution", spec := "fnExactOrderOfSolution", plainKeys := false, apart := false, narrowed := true }
def FnExactOrderOfSolutionUptoSaid : Prop := fnExactOrderOfSolutionUptoRow.holds Try.pinned (OpenSpec.upto fnExactOrderOfSolutionSpec)

end Rows
end Go.Proofs.Ytljdfanebjhhmaa
