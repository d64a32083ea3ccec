/-
  No cell of these rows narrows 'for every input' (looked for: loops, veiled, ifaces, maps, wideKeys, modest, calm, conditions, laid).
  DERIVED. THE GIVEN ROWS OF THIS SEAT. 3 by the template 'for every input the law returns true; each argument reads behind the call as it read before'; 0 by the template 'total and deterministic' (their statements: YtpkfcjpppncbiaaTotals.lean).
  GIVEN WITH THE SEED: the statements are not yours to turn. If you find one false, say at which input.
  Laid BY PROGRAM, IN A SANDBOX (cutbox-rows.mjs): the forced cells as the released guide's own fill.sh prints them over the translation 574c206fee7706de… (all of the seat's roots in one cut). By AI agents, Wed Nov 11 2026. No macro, syntax, notation, axiom, sorry.
-/
import Derived.Test.YtpkfcjpppncbiaaChecked
import GoSem.Claim
import GoSem.ClaimJoined
import GoSem.ClaimMapViews
import Derived.JoinedTies
import Derived.KernelRfl
namespace Go.Proofs.Ytpkfcjpppncbiaa
/- THE CELL 'sum', in the pinned program and in every row, IS THE sha256 OF THE DUMP (.gsa) THAT YtpkfcjpppncbiaaProg.lean LOADS. Nothing in Lean hashes anything: it is a label: what it is worth is what the hold of that sum in a sandbox is worth. -/
noncomputable def Try.pinned : Pinned := { name := "ytpkfcjpppncbiaa", sum := "574c206fee7706de7ce83297ad46343503719d4577e5fbf821b26f450b957ad7", checked := Try.checked }
namespace Rows
def none {H : Type} : Left H := { results := [], args := [] }

/-- 'laws.FnExactRackText': WHATEVER THE INPUT: true; the input reads as it did. -/
def fnExactRackTextSpec : ChangeSpec := { name := "fnExactRackText", fn := fun _ => fun
  | [d] => { results := [.lit (.bool true)], args := [d] }
  | _ => none }
def fnExactRackTextRow : OpenClaim := { program := "ytpkfcjpppncbiaa", sum := "574c206fee7706de7ce83297ad46343503719d4577e5fbf821b26f450b957ad7", func := "loop.example/g01119/laws.FnExactRackText", spec := "fnExactRackText", inPlace := ["internal/abi.NoEscape", "internal/bytealg.MakeNoZero"], unfollowed := true, recurses := true, apart := false }
def FnExactRackTextSaid : Prop := fnExactRackTextRow.holds Try.pinned (OpenSpec.ofChange fnExactRackTextSpec)

/-- ITS FALSE NEIGHBOUR: 'it returns false'. Refute it at one input. -/
def fnExactRackTextWrong : ChangeSpec := { name := "fnExactRackText", fn := fun _ => fun
  | [d] => { results := [.lit (.bool false)], args := [d] }
  | _ => none }
def FnExactRackTextWrongFalsely : Prop := fnExactRackTextRow.holds Try.pinned (OpenSpec.ofChange fnExactRackTextWrong)

/-- 'laws.FnExactCycleSetText': WHATEVER THE INPUT: true; the input reads as it did. -/
def fnExactCycleSetTextSpec : ChangeSpec := { name := "fnExactCycleSetText", fn := fun _ => fun
  | [d] => { results := [.lit (.bool true)], args := [d] }
  | _ => none }
def fnExactCycleSetTextRow : OpenClaim := { program := "ytpkfcjpppncbiaa", sum := "574c206fee7706de7ce83297ad46343503719d4577e5fbf821b26f450b957ad7", func := "loop.example/g01119/laws.FnExactCycleSetText", spec := "fnExactCycleSetText", inPlace := ["internal/abi.NoEscape", "internal/bytealg.MakeNoZero"], apart := false }
def FnExactCycleSetTextSaid : Prop := fnExactCycleSetTextRow.holds Try.pinned (OpenSpec.ofChange fnExactCycleSetTextSpec)

/-- ITS FALSE NEIGHBOUR: 'it returns false'. Refute it at one input. -/
def fnExactCycleSetTextWrong : ChangeSpec := { name := "fnExactCycleSetText", fn := fun _ => fun
  | [d] => { results := [.lit (.bool false)], args := [d] }
  | _ => none }
def FnExactCycleSetTextWrongFalsely : Prop := fnExactCycleSetTextRow.holds Try.pinned (OpenSpec.ofChange fnExactCycleSetTextWrong)

/-- 'laws.FnExactSolutionText': WHATEVER THE INPUT: true; the input reads as it did. -/
def fnExactSolutionTextSpec : ChangeSpec := { name := "fnExactSolutionText", fn := fun _ => fun
  | [d] => { results := [.lit (.bool true)], args := [d] }
  | _ => none }
def fnExactSolutionTextRow : OpenClaim := { program := "ytpkfcjpppncbiaa", sum := "574c206fee7706de7ce83297ad46343503719d4577e5fbf821b26f450b957ad7", func := "loop.example/g01119/laws.FnExactSolutionText", spec := "fnExactSolutionText", inPlace := ["internal/abi.NoEscape", "internal/bytealg.MakeNoZero"], apart := false }
def FnExactSolutionTextSaid : Prop := fnExactSolutionTextRow.holds Try.pinned (OpenSpec.ofChange fnExactSolutionTextSpec)

/-- ITS FALSE NEIGHBOUR: 'it returns false'. Refute it at one input. -/
def fnExactSolutionTextWrong : ChangeSpec := { name := "fnExactSolutionText", fn := fun _ => fun
  | [d] => { results := [.lit (.bool false)], args := [d] }
  | _ => none }
def FnExactSolutionTextWrongFalsely : Prop := fnExactSolutionTextRow.holds Try.pinned (OpenSpec.ofChange fnExactSolutionTextWrong)

/- THE SECOND FORM. 'bulk': how many values and letters a reading holds, each counted each time it is reached (what is shared counts as often as it is met; a slice's spare places count too). A statement '..UptoSaid' is the law's where the arguments, and the package variables that the reading takes, are together of bulk at most 1048576: NARROWER than '..Said'. Prove '..Said' where nothing that the law and all that it calls make is longer than what came in: it says more and counts as full. Else prove '..UptoSaid'. A law counts once. -/
mutual
def uptoBulk {H : Type} : DataW H → Nat
  | .lit (.string bytes) => bytes.length + 1
  | .lit _ => 1
  | .nil => 1
  | .ptr d => uptoBulk d + 1
  | .slice elems spare => uptoBulkAll elems + uptoBulkAll spare + 1
  | .agg parts => uptoBulkAll parts + 1
  | .iface _ d => uptoBulk d + 1
  | .map entries => uptoBulkEntries entries + 1
  | .held _ => 1
def uptoBulkAll {H : Type} : List (DataW H) → Nat
  | [] => 0
  | d :: r => uptoBulk d + uptoBulkAll r
def uptoBulkEntries {H : Type} : List (Lit × DataW H) → Nat
  | [] => 0
  | x :: r => uptoBulkEntry x + uptoBulkEntries r
def uptoBulkEntry {H : Type} : Lit × DataW H → Nat
  | (.string bytes, d) => bytes.length + uptoBulk d + 1
  | (_, d) => uptoBulk d + 1
 end
def uptoSmall : (H : Type) → List (DataW H) → Bool := fun _ ds => decide (uptoBulkAll ds ≤ 1048576)
def OpenSpec.upto (s : _root_.Go.ChangeSpec) : _root_.Go.OpenSpec := { _root_.Go.OpenSpec.ofChange s with cond := some uptoSmall }

/-- 'laws.FnExactRackText', WHERE WHAT IT READS IS OF BULK AT MOST 1048576: true; the input reads as it did. -/
def fnExactRackTextUptoRow : OpenClaim := { program := "ytpkfcjpppncbiaa", sum := "574c206fee7706de7ce83297ad46343503719d4577e5fbf821b26f450b957ad7", func := "loop.example/g01119/laws.FnExactRackText", spec := "fnExactRackText", inPlace := ["internal/abi.NoEscape", "internal/bytealg.MakeNoZero"], unfollowed := true, recurses := true, apart := false, narrowed := true }
def FnExactRackTextUptoSaid : Prop := fnExactRackTextUptoRow.holds Try.pinned (OpenSpec.upto fnExactRackTextSpec)

/-- 'laws.FnExactCycleSetText', WHERE WHAT IT READS IS OF BULK AT MOST 1048576: true; the input reads as it did. -/
def fnExactCycleSetTextUptoRow : OpenClaim := { program := "ytpkfcjpppncbiaa", sum := "574c206fee7706de7ce83297ad46343503719d4577e5fbf821b26f450b957ad7", func := "loop.example/g01119/laws.FnExactCycleSetText", spec := "fnExactCycleSetText", inPlace := ["internal/abi.NoEscape", "internal/bytealg.MakeNoZero"], apart := false, narrowed := true }
def FnExactCycleSetTextUptoSaid : Prop := fnExactCycleSetTextUptoRow.holds Try.pinned (OpenSpec.upto fnExactCycleSetTextSpec)

/-- 'laws.FnExactSolutionText', WHERE WHAT IT READS IS OF BULK AT MOST 1048576: true; the input reads as it did. -/
def fnExactSolutionTextUptoRow : OpenClaim := { program := "ytpkfcjpppncbiaa", sum := "574c206fee7706de7ce83297ad46343503719d4577e5fbf821b26f450b957ad7", func := "loop.example/g01119/laws.FnExactSolutionText", spec := "fnExactSolutionText", inPlace := ["internal/abi.NoEscape", "internal/bytealg.MakeNoZero"], apart := false, narrowed := true }
def FnExactSolutionTextUptoSaid : Prop := fnExactSolutionTextUptoRow.holds Try.pinned (OpenSpec.upto fnExactSolutionTextSpec)

end Rows
end Go.Proofs.Ytpkfcjpppncbiaa
