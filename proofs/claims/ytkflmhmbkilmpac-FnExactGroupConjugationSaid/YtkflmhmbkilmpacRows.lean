/-
  No cell of these rows narrows 'for every input' (looked for: loops, veiled, ifaces, maps, wideKeys, modest, calm, conditions, laid).
  DERIVED. THE GIVEN ROWS OF THIS SEAT. 9 by the template 'for every input the law returns true; each argument reads behind the call as it read before'; 0 by the template 'total and deterministic' (their statements: YtkflmhmbkilmpacTotals.lean).
  GIVEN WITH THE SEED: the statements are not yours to turn. If you find one false, say at which input.
  Laid BY PROGRAM, IN A SANDBOX (cutbox-rows.mjs): the forced cells as the released guide's own fill.sh prints them over the translation 26d32121f1e54041… (all of the seat's roots in one cut). By AI agents, Wed Nov 11 2026. No macro, syntax, notation, axiom, sorry.
-/
import Derived.Test.YtkflmhmbkilmpacChecked
import GoSem.Claim
import GoSem.ClaimJoined
import GoSem.ClaimMapViews
import Derived.JoinedTies
import Derived.KernelRfl
namespace Go.Proofs.Ytkflmhmbkilmpac
/- THE CELL 'sum', in the pinned program and in every row, IS THE sha256 OF THE DUMP (.gsa) THAT YtkflmhmbkilmpacProg.lean LOADS. Nothing in Lean hashes anything: it is a label: what it is worth is what the hold of that sum in a sandbox is worth. -/
noncomputable def Try.pinned : Pinned := { name := "ytkflmhmbkilmpac", sum := "26d32121f1e54041dc3387cf415bdb09b8a085a704cd356e5bad4d36508a9e20", checked := Try.checked }
namespace Rows
def none {H : Type} : Left H := { results := [], args := [] }

/-- 'laws.FnExactProductRack': WHATEVER THE INPUT: true; the input reads as it did. -/
def fnExactProductRackSpec : ChangeSpec := { name := "fnExactProductRack", fn := fun _ => fun
  | [d1, d2] => { results := [.lit (.bool true)], args := [d1, d2] }
  | _ => none }
def fnExactProductRackRow : OpenClaim := { program := "ytkflmhmbkilmpac", sum := "26d32121f1e54041dc3387cf415bdb09b8a085a704cd356e5bad4d36508a9e20", func := "loop.example/g01119/laws.FnExactProductRack", spec := "fnExactProductRack", unfollowed := true, recurses := true, apart := false }
def FnExactProductRackSaid : Prop := fnExactProductRackRow.holds Try.pinned (OpenSpec.ofChange fnExactProductRackSpec)

/-- ITS FALSE NEIGHBOUR: 'it returns false'. Refute it at one input. -/
def fnExactProductRackWrong : ChangeSpec := { name := "fnExactProductRack", fn := fun _ => fun
  | [d1, d2] => { results := [.lit (.bool false)], args := [d1, d2] }
  | _ => none }
def FnExactProductRackWrongFalsely : Prop := fnExactProductRackRow.holds Try.pinned (OpenSpec.ofChange fnExactProductRackWrong)

/-- 'laws.FnExactUnionRack': WHATEVER THE INPUT: true; the input reads as it did. -/
def fnExactUnionRackSpec : ChangeSpec := { name := "fnExactUnionRack", fn := fun _ => fun
  | [d1, d2] => { results := [.lit (.bool true)], args := [d1, d2] }
  | _ => none }
def fnExactUnionRackRow : OpenClaim := { program := "ytkflmhmbkilmpac", sum := "26d32121f1e54041dc3387cf415bdb09b8a085a704cd356e5bad4d36508a9e20", func := "loop.example/g01119/laws.FnExactUnionRack", spec := "fnExactUnionRack", unfollowed := true, recurses := true, apart := false }
def FnExactUnionRackSaid : Prop := fnExactUnionRackRow.holds Try.pinned (OpenSpec.ofChange fnExactUnionRackSpec)

/-- ITS FALSE NEIGHBOUR: 'it returns false'. Refute it at one input. -/
def fnExactUnionRackWrong : ChangeSpec := { name := "fnExactUnionRack", fn := fun _ => fun
  | [d1, d2] => { results := [.lit (.bool false)], args := [d1, d2] }
  | _ => none }
def FnExactUnionRackWrongFalsely : Prop := fnExactUnionRackRow.holds Try.pinned (OpenSpec.ofChange fnExactUnionRackWrong)

/-- 'laws.FnExactSubrackFrom': WHATEVER THE INPUT: true; the input reads as it did. -/
def fnExactSubrackFromSpec : ChangeSpec := { name := "fnExactSubrackFrom", fn := fun _ => fun
  | [d1, d2] => { results := [.lit (.bool true)], args := [d1, d2] }
  | _ => none }
def fnExactSubrackFromRow : OpenClaim := { program := "ytkflmhmbkilmpac", sum := "26d32121f1e54041dc3387cf415bdb09b8a085a704cd356e5bad4d36508a9e20", func := "loop.example/g01119/laws.FnExactSubrackFrom", spec := "fnExactSubrackFrom", unfollowed := true, recurses := true, apart := false }
def FnExactSubrackFromSaid : Prop := fnExactSubrackFromRow.holds Try.pinned (OpenSpec.ofChange fnExactSubrackFromSpec)

/-- ITS FALSE NEIGHBOUR: 'it returns false'. Refute it at one input. -/
def fnExactSubrackFromWrong : ChangeSpec := { name := "fnExactSubrackFrom", fn := fun _ => fun
  | [d1, d2] => { results := [.lit (.bool false)], args := [d1, d2] }
  | _ => none }
def FnExactSubrackFromWrongFalsely : Prop := fnExactSubrackFromRow.holds Try.pinned (OpenSpec.ofChange fnExactSubrackFromWrong)

/-- 'laws.FnExactRestrictRack': WHATEVER THE INPUT: true; the input reads as it did. -/
def fnExactRestrictRackSpec : ChangeSpec := { name := "fnExactRestrictRack", fn := fun _ => fun
  | [d1, d2] => { results := [.lit (.bool true)], args := [d1, d2] }
  | _ => none }
def fnExactRestrictRackRow : OpenClaim := { program := "ytkflmhmbkilmpac", sum := "26d32121f1e54041dc3387cf415bdb09b8a085a704cd356e5bad4d36508a9e20", func := "loop.example/g01119/laws.FnExactRestrictRack", spec := "fnExactRestrictRack", unfollowed := true, recurses := true, apart := false }
def FnExactRestrictRackSaid : Prop := fnExactRestrictRackRow.holds Try.pinned (OpenSpec.ofChange fnExactRestrictRackSpec)

/-- ITS FALSE NEIGHBOUR: 'it returns false'. Refute it at one input. -/
def fnExactRestrictRackWrong : ChangeSpec := { name := "fnExactRestrictRack", fn := fun _ => fun
  | [d1, d2] => { results := [.lit (.bool false)], args := [d1, d2] }
  | _ => none }
def FnExactRestrictRackWrongFalsely : Prop := fnExactRestrictRackRow.holds Try.pinned (OpenSpec.ofChange fnExactRestrictRackWrong)

/-- 'laws.FnExactSubracksOf': WHATEVER THE INPUT: true; the input reads as it did. -/
def fnExactSubracksOfSpec : ChangeSpec := { name := "fnExactSubracksOf", fn := fun _ => fun
  | [d] => { results := [.lit (.bool true)], args := [d] }
  | _ => none }
def fnExactSubracksOfRow : OpenClaim := { program := "ytkflmhmbkilmpac", sum := "26d32121f1e54041dc3387cf415bdb09b8a085a704cd356e5bad4d36508a9e20", func := "loop.example/g01119/laws.FnExactSubracksOf", spec := "fnExactSubracksOf", unfollowed := true, recurses := true, apart := false }
def FnExactSubracksOfSaid : Prop := fnExactSubracksOfRow.holds Try.pinned (OpenSpec.ofChange fnExactSubracksOfSpec)

/-- ITS FALSE NEIGHBOUR: 'it returns false'. Refute it at one input. -/
def fnExactSubracksOfWrong : ChangeSpec := { name := "fnExactSubracksOf", fn := fun _ => fun
  | [d] => { results := [.lit (.bool false)], args := [d] }
  | _ => none }
def FnExactSubracksOfWrongFalsely : Prop := fnExactSubracksOfRow.holds Try.pinned (OpenSpec.ofChange fnExactSubracksOfWrong)

/-- 'laws.FnExactIsCongruence': WHATEVER THE INPUT: true; the input reads as it did. -/
def fnExactIsCongruenceSpec : ChangeSpec := { name := "fnExactIsCongruence", fn := fun _ => fun
  | [d1, d2] => { results := [.lit (.bool true)], args := [d1, d2] }
  | _ => none }
def fnExactIsCongruenceRow : OpenClaim := { program := "ytkflmhmbkilmpac", sum := "26d32121f1e54041dc3387cf415bdb09b8a085a704cd356e5bad4d36508a9e20", func := "loop.example/g01119/laws.FnExactIsCongruence", spec := "fnExactIsCongruence", unfollowed := true, recurses := true, apart := false }
def FnExactIsCongruenceSaid : Prop := fnExactIsCongruenceRow.holds Try.pinned (OpenSpec.ofChange fnExactIsCongruenceSpec)

/-- ITS FALSE NEIGHBOUR: 'it returns false'. Refute it at one input. -/
def fnExactIsCongruenceWrong : ChangeSpec := { name := "fnExactIsCongruence", fn := fun _ => fun
  | [d1, d2] => { results := [.lit (.bool false)], args := [d1, d2] }
  | _ => none }
def FnExactIsCongruenceWrongFalsely : Prop := fnExactIsCongruenceRow.holds Try.pinned (OpenSpec.ofChange fnExactIsCongruenceWrong)

/-- 'laws.FnExactQuotientRack': WHATEVER THE INPUT: true; the input reads as it did. -/
def fnExactQuotientRackSpec : ChangeSpec := { name := "fnExactQuotientRack", fn := fun _ => fun
  | [d1, d2] => { results := [.lit (.bool true)], args := [d1, d2] }
  | _ => none }
def fnExactQuotientRackRow : OpenClaim := { program := "ytkflmhmbkilmpac", sum := "26d32121f1e54041dc3387cf415bdb09b8a085a704cd356e5bad4d36508a9e20", func := "loop.example/g01119/laws.FnExactQuotientRack", spec := "fnExactQuotientRack", unfollowed := true, recurses := true, apart := false }
def FnExactQuotientRackSaid : Prop := fnExactQuotientRackRow.holds Try.pinned (OpenSpec.ofChange fnExactQuotientRackSpec)

/-- ITS FALSE NEIGHBOUR: 'it returns false'. Refute it at one input. -/
def fnExactQuotientRackWrong : ChangeSpec := { name := "fnExactQuotientRack", fn := fun _ => fun
  | [d1, d2] => { results := [.lit (.bool false)], args := [d1, d2] }
  | _ => none }
def FnExactQuotientRackWrongFalsely : Prop := fnExactQuotientRackRow.holds Try.pinned (OpenSpec.ofChange fnExactQuotientRackWrong)

/-- 'laws.FnExactCoreQuandle': WHATEVER THE INPUT: true; the input reads as it did. -/
def fnExactCoreQuandleSpec : ChangeSpec := { name := "fnExactCoreQuandle", fn := fun _ => fun
  | [d] => { results := [.lit (.bool true)], args := [d] }
  | _ => none }
def fnExactCoreQuandleRow : OpenClaim := { program := "ytkflmhmbkilmpac", sum := "26d32121f1e54041dc3387cf415bdb09b8a085a704cd356e5bad4d36508a9e20", func := "loop.example/g01119/laws.FnExactCoreQuandle", spec := "fnExactCoreQuandle", unfollowed := true, recurses := true, apart := false }
def FnExactCoreQuandleSaid : Prop := fnExactCoreQuandleRow.holds Try.pinned (OpenSpec.ofChange fnExactCoreQuandleSpec)

/-- ITS FALSE NEIGHBOUR: 'it returns false'. Refute it at one input. -/
def fnExactCoreQuandleWrong : ChangeSpec := { name := "fnExactCoreQuandle", fn := fun _ => fun
  | [d] => { results := [.lit (.bool false)], args := [d] }
  | _ => none }
def FnExactCoreQuandleWrongFalsely : Prop := fnExactCoreQuandleRow.holds Try.pinned (OpenSpec.ofChange fnExactCoreQuandleWrong)

/-- 'laws.FnExactGroupConjugation': WHATEVER THE INPUT: true; the input reads as it did. -/
def fnExactGroupConjugationSpec : ChangeSpec := { name := "fnExactGroupConjugation", fn := fun _ => fun
  | [d] => { results := [.lit (.bool true)], args := [d] }
  | _ => none }
def fnExactGroupConjugationRow : OpenClaim := { program := "ytkflmhmbkilmpac", sum := "26d32121f1e54041dc3387cf415bdb09b8a085a704cd356e5bad4d36508a9e20", func := "loop.example/g01119/laws.FnExactGroupConjugation", spec := "fnExactGroupConjugation", unfollowed := true, recurses := true, apart := false }
def FnExactGroupConjugationSaid : Prop := fnExactGroupConjugationRow.holds Try.pinned (OpenSpec.ofChange fnExactGroupConjugationSpec)

/-- ITS FALSE NEIGHBOUR: 'it returns false'. Refute it at one input. -/
def fnExactGroupConjugationWrong : ChangeSpec := { name := "fnExactGroupConjugation", fn := fun _ => fun
  | [d] => { results := [.lit (.bool false)], args := [d] }
  | _ => none }
def FnExactGroupConjugationWrongFalsely : Prop := fnExactGroupConjugationRow.holds Try.pinned (OpenSpec.ofChange fnExactGroupConjugationWrong)

/- THE SECOND FORM. 'bulk': how many values and letters a reading holds, each counted each time it is reached (what is shared counts as often as it is met; a slice's spare places count too). A statement '..UptoSaid' is the law's where the arguments, and the package variables that the reading takes, are together of bulk at most 1048576: NARROWER than '..Said'. Prove '..Said' where nothing that the law and all that it calls make is longer than what came in: it says more and counts as full. Else prove '..UptoSaid'. A law counts once. -/
mutual
def uptoBulk {H : Type} : DataW H → Nat
  | .lit (.string bytes) => bytes.length + 1
  | .lit _ => 1
  | .nil => 1
  | .ptr d => uptoBulk d + 1
  | .slice elems spare => uptoBulkAll elems + uptoBulkAll spare + 1
  | .agg parts => uptoBulkAll parts + 1
  | .iface _ d => uptoBulk d + 1
  | .map entries => uptoBulkEntries entries + 1
  | .held _ => 1
def uptoBulkAll {H : Type} : List (DataW H) → Nat
  | [] => 0
  | d :: r => uptoBulk d + uptoBulkAll r
def uptoBulkEntries {H : Type} : List (Lit × DataW H) → Nat
  | [] => 0
  | x :: r => uptoBulkEntry x + uptoBulkEntries r
def uptoBulkEntry {H : Type} : Lit × DataW H → Nat
  | (.string bytes, d) => bytes.length + uptoBulk d + 1
  | (_, d) => uptoBulk d + 1
 end
def uptoSmall : (H : Type) → List (DataW H) → Bool := fun _ ds => decide (uptoBulkAll ds ≤ 1048576)
def OpenSpec.upto (s : _root_.Go.ChangeSpec) : _root_.Go.OpenSpec := { _root_.Go.OpenSpec.ofChange s with cond := some uptoSmall }

/-- 'laws.FnExactProductRack', WHERE WHAT IT READS IS OF BULK AT MOST 1048576: true; the input reads as it did. -/
def fnExactProductRackUptoRow : OpenClaim := { program := "ytkflmhmbkilmpac", sum := "26d32121f1e54041dc3387cf415bdb09b8a085a704cd356e5bad4d36508a9e20", func := "loop.example/g01119/laws.FnExactProductRack", spec := "fnExactProductRack", unfollowed := true, recurses := true, apart := false, narrowed := true }
def FnExactProductRackUptoSaid : Prop := fnExactProductRackUptoRow.holds Try.pinned (OpenSpec.upto fnExactProductRackSpec)

/-- 'laws.FnExactUnionRack', WHERE WHAT IT READS IS OF BULK AT MOST 1048576: true; the input reads as it did. -/
def fnExactUnionRackUptoRow : OpenClaim := { program := "ytkflmhmbkilmpac", sum := "26d32121f1e54041dc3387cf415bdb09b8a085a704cd356e5bad4d36508a9e20", func := "loop.example/g01119/laws.FnExactUnionRack", spec := "fnExactUnionRack", unfollowed := true, recurses := true, apart := false, narrowed := true }
def FnExactUnionRackUptoSaid : Prop := fnExactUnionRackUptoRow.holds Try.pinned (OpenSpec.upto fnExactUnionRackSpec)

/-- 'laws.FnExactSubrackFrom', WHERE WHAT IT READS IS OF BULK AT MOST 1048576: true; the input reads as it did. -/
def fnExactSubrackFromUptoRow : OpenClaim := { program := "ytkflmhmbkilmpac", sum := "26d32121f1e54041dc3387cf415bdb09b8a085a704cd356e5bad4d36508a9e20", func := "loop.example/g01119/laws.FnExactSubrackFrom", spec := "fnExactSubrackFrom", unfollowed := true, recurses := true, apart := false, narrowed := true }
def FnExactSubrackFromUptoSaid : Prop := fnExactSubrackFromUptoRow.holds Try.pinned (OpenSpec.upto fnExactSubrackFromSpec)

/-- 'laws.FnExactRestrictRack', WHERE WHAT IT READS IS OF BULK AT MOST 1048576: true; the input reads as it did. -/
def fnExactRestrictRackUptoRow : OpenClaim := { program := "ytkflmhmbkilmpac", sum := "26d32121f1e54041dc3387cf415bdb09b8a085a704cd356e5bad4d36508a9e20", func := "loop.example/g01119/laws.FnExactRestrictRack", spec := "fnExactRestrictRack", unfollowed := true, recurses := true, apart := false, narrowed := true }
def FnExactRestrictRackUptoSaid : Prop := fnExactRestrictRackUptoRow.holds Try.pinned (OpenSpec.upto fnExactRestrictRackSpec)

/-- 'laws.FnExactSubracksOf', WHERE WHAT IT READS IS OF BULK AT MOST 1048576: true; the input reads as it did. -/
def fnExactSubracksOfUptoRow : OpenClaim := { program := "ytkflmhmbkilmpac", sum := "26d32121f1e54041dc3387cf415bdb09b8a085a704cd356e5bad4d36508a9e20", func := "loop.example/g01119/laws.FnExactSubracksOf", spec := "fnExactSubracksOf", unfollowed := true, recurses := true, apart := false, narrowed := true }
def FnExactSubracksOfUptoSaid : Prop := fnExactSubracksOfUptoRow.holds Try.pinned (OpenSpec.upto fnExactSubracksOfSpec)

/-- 'laws.FnExactIsCongruence', WHERE WHAT IT READS IS OF BULK AT MOST 1048576: true; the input reads as it did. -/
def fnExactIsCongruenceUptoRow : OpenClaim := { program := "ytkflmhmbkilmpac", sum := "26d32121f1e54041dc3387cf415bdb09b8a085a704cd356e5bad4d36508a9e20", func := "loop.example/g01119/laws.FnExactIsCongruence", spec := "fnExactIsCongruence", unfollowed := true, recurses := true, apart := false, narrowed := true }
def FnExactIsCongruenceUptoSaid : Prop := fnExactIsCongruenceUptoRow.holds Try.pinned (OpenSpec.upto fnExactIsCongruenceSpec)

/-- 'laws.FnExactQuotientRack', WHERE WHAT IT READS IS OF BULK AT MOST 1048576: true; the input reads as it did. -/
def fnExactQuotientRackUptoRow : OpenClaim := { program := "ytkflmhmbkilmpac", sum := "26d32121f1e54041dc3387cf415bdb09b8a085a704cd356e5bad4d36508a9e20", func := "loop.example/g01119/laws.FnExactQuotientRack", spec := "fnExactQuotientRack", unfollowed := true, recurses := true, apart := false, narrowed := true }
def FnExactQuotientRackUptoSaid : Prop := fnExactQuotientRackUptoRow.holds Try.pinned (OpenSpec.upto fnExactQuotientRackSpec)

/-- 'laws.FnExactCoreQuandle', WHERE WHAT IT READS IS OF BULK AT MOST 1048576: true; the input reads as it did. -/
def fnExactCoreQuandleUptoRow : OpenClaim := { program := "ytkflmhmbkilmpac", sum := "26d32121f1e54041dc3387cf415bdb09b8a085a704cd356e5bad4d36508a9e20", func := "loop.example/g01119/laws.FnExactCoreQuandle", spec := "fnExactCoreQuandle", unfollowed := true, recurses := true, apart := false, narrowed := true }
def FnExactCoreQuandleUptoSaid : Prop := fnExactCoreQuandleUptoRow.holds Try.pinned (OpenSpec.upto fnExactCoreQuandleSpec)

/-- 'laws.FnExactGroupConjugation', WHERE WHAT IT READS IS OF BULK AT MOST 1048576: true; the input reads as it did. -/
def fnExactGroupConjugationUptoRow : OpenClaim := { program := "ytkflmhmbkilmpac", sum := "26d32121f1e54041dc3387cf415bdb09b8a085a704cd356e5bad4d36508a9e20", func := "loop.example/g01119/laws.FnExactGroupConjugation", spec := "fnExactGroupConjugation", unfollowed := true, recurses := true, apart := false, narrowed := true }
def FnExactGroupConjugationUptoSaid : Prop := fnExactGroupConjugationUptoRow.holds Try.pinned (OpenSpec.upto fnExactGroupConjugationSpec)

end Rows
end Go.Proofs.Ytkflmhmbkilmpac
