/-
  No cell of these rows narrows 'for every input' (looked for: loops, veiled, ifaces, maps, wideKeys, modest, calm, conditions, laid).
  DERIVED. THE GIVEN ROWS OF THIS SEAT. 9 by the template 'for every input the law returns true; each argument reads behind the call as it read before'; 0 by the template 'total and deterministic' (their statements: YtkflmhmbkilmpabTotals.lean).
  GIVEN WITH THE SEED: the statements are not yours to turn. If you find one false, say at which input.
  Laid BY PROGRAM, IN A SANDBOX (cutbox-rows.mjs): the forced cells as the released guide's own fill.sh prints them over the translation 2de8832593ea23fd… (all of the seat's roots in one cut). By AI agents, Wed Nov 11 2026. No macro, syntax, notation, axiom, sorry.
-/
import Derived.Test.YtkflmhmbkilmpabChecked
import GoSem.Claim
import GoSem.ClaimJoined
import GoSem.ClaimMapViews
import Derived.JoinedTies
import Derived.KernelRfl
namespace Go.Proofs.Ytkflmhmbkilmpab
/- THE CELL 'sum', in the pinned program and in every row, IS THE sha256 OF THE DUMP (.gsa) THAT YtkflmhmbkilmpabProg.lean LOADS. Nothing in Lean hashes anything: it is a label: what it is worth is what the hold of that sum in a sandbox is worth. -/
noncomputable def Try.pinned : Pinned := { name := "ytkflmhmbkilmpab", sum := "2de8832593ea23fd054295f1a49bbe130bfa7a9e4c7f5b9b9df170055f2c0e3b", checked := Try.checked }
namespace Rows
def none {H : Type} : Left H := { results := [], args := [] }

/-- 'laws.FnExactDualRack': WHATEVER THE INPUT: true; the input reads as it did. -/
def fnExactDualRackSpec : ChangeSpec := { name := "fnExactDualRack", fn := fun _ => fun
  | [d] => { results := [.lit (.bool true)], args := [d] }
  | _ => none }
def fnExactDualRackRow : OpenClaim := { program := "ytkflmhmbkilmpab", sum := "2de8832593ea23fd054295f1a49bbe130bfa7a9e4c7f5b9b9df170055f2c0e3b", func := "loop.example/g01119/laws.FnExactDualRack", spec := "fnExactDualRack", unfollowed := true, recurses := true, apart := false }
def FnExactDualRackSaid : Prop := fnExactDualRackRow.holds Try.pinned (OpenSpec.ofChange fnExactDualRackSpec)

/-- ITS FALSE NEIGHBOUR: 'it returns false'. Refute it at one input. -/
def fnExactDualRackWrong : ChangeSpec := { name := "fnExactDualRack", fn := fun _ => fun
  | [d] => { results := [.lit (.bool false)], args := [d] }
  | _ => none }
def FnExactDualRackWrongFalsely : Prop := fnExactDualRackRow.holds Try.pinned (OpenSpec.ofChange fnExactDualRackWrong)

/-- 'laws.FnExactKinkOf': WHATEVER THE INPUT: true; the input reads as it did. -/
def fnExactKinkOfSpec : ChangeSpec := { name := "fnExactKinkOf", fn := fun _ => fun
  | [d] => { results := [.lit (.bool true)], args := [d] }
  | _ => none }
def fnExactKinkOfRow : OpenClaim := { program := "ytkflmhmbkilmpab", sum := "2de8832593ea23fd054295f1a49bbe130bfa7a9e4c7f5b9b9df170055f2c0e3b", func := "loop.example/g01119/laws.FnExactKinkOf", spec := "fnExactKinkOf", unfollowed := true, recurses := true, apart := false }
def FnExactKinkOfSaid : Prop := fnExactKinkOfRow.holds Try.pinned (OpenSpec.ofChange fnExactKinkOfSpec)

/-- ITS FALSE NEIGHBOUR: 'it returns false'. Refute it at one input. -/
def fnExactKinkOfWrong : ChangeSpec := { name := "fnExactKinkOf", fn := fun _ => fun
  | [d] => { results := [.lit (.bool false)], args := [d] }
  | _ => none }
def FnExactKinkOfWrongFalsely : Prop := fnExactKinkOfRow.holds Try.pinned (OpenSpec.ofChange fnExactKinkOfWrong)

/-- 'laws.FnExactQuandleOf': WHATEVER THE INPUT: true; the input reads as it did. -/
def fnExactQuandleOfSpec : ChangeSpec := { name := "fnExactQuandleOf", fn := fun _ => fun
  | [d] => { results := [.lit (.bool true)], args := [d] }
  | _ => none }
def fnExactQuandleOfRow : OpenClaim := { program := "ytkflmhmbkilmpab", sum := "2de8832593ea23fd054295f1a49bbe130bfa7a9e4c7f5b9b9df170055f2c0e3b", func := "loop.example/g01119/laws.FnExactQuandleOf", spec := "fnExactQuandleOf", unfollowed := true, recurses := true, apart := false }
def FnExactQuandleOfSaid : Prop := fnExactQuandleOfRow.holds Try.pinned (OpenSpec.ofChange fnExactQuandleOfSpec)

/-- ITS FALSE NEIGHBOUR: 'it returns false'. Refute it at one input. -/
def fnExactQuandleOfWrong : ChangeSpec := { name := "fnExactQuandleOf", fn := fun _ => fun
  | [d] => { results := [.lit (.bool false)], args := [d] }
  | _ => none }
def FnExactQuandleOfWrongFalsely : Prop := fnExactQuandleOfRow.holds Try.pinned (OpenSpec.ofChange fnExactQuandleOfWrong)

/-- 'laws.FnExactLeastRack': WHATEVER THE INPUT: true; the input reads as it did. -/
def fnExactLeastRackSpec : ChangeSpec := { name := "fnExactLeastRack", fn := fun _ => fun
  | [d] => { results := [.lit (.bool true)], args := [d] }
  | _ => none }
def fnExactLeastRackRow : OpenClaim := { program := "ytkflmhmbkilmpab", sum := "2de8832593ea23fd054295f1a49bbe130bfa7a9e4c7f5b9b9df170055f2c0e3b", func := "loop.example/g01119/laws.FnExactLeastRack", spec := "fnExactLeastRack", unfollowed := true, recurses := true, apart := false }
def FnExactLeastRackSaid : Prop := fnExactLeastRackRow.holds Try.pinned (OpenSpec.ofChange fnExactLeastRackSpec)

/-- ITS FALSE NEIGHBOUR: 'it returns false'. Refute it at one input. -/
def fnExactLeastRackWrong : ChangeSpec := { name := "fnExactLeastRack", fn := fun _ => fun
  | [d] => { results := [.lit (.bool false)], args := [d] }
  | _ => none }
def FnExactLeastRackWrongFalsely : Prop := fnExactLeastRackRow.holds Try.pinned (OpenSpec.ofChange fnExactLeastRackWrong)

/-- 'laws.FnExactRackText': WHATEVER THE INPUT: true; the input reads as it did. -/
def fnExactRackTextSpec : ChangeSpec := { name := "fnExactRackText", fn := fun _ => fun
  | [d] => { results := [.lit (.bool true)], args := [d] }
  | _ => none }
def fnExactRackTextRow : OpenClaim := { program := "ytkflmhmbkilmpab", sum := "2de8832593ea23fd054295f1a49bbe130bfa7a9e4c7f5b9b9df170055f2c0e3b", func := "loop.example/g01119/laws.FnExactRackText", spec := "fnExactRackText", inPlace := ["internal/abi.NoEscape", "internal/bytealg.MakeNoZero"], unfollowed := true, recurses := true, apart := false }
def FnExactRackTextSaid : Prop := fnExactRackTextRow.holds Try.pinned (OpenSpec.ofChange fnExactRackTextSpec)

/-- ITS FALSE NEIGHBOUR: 'it returns false'. Refute it at one input. -/
def fnExactRackTextWrong : ChangeSpec := { name := "fnExactRackText", fn := fun _ => fun
  | [d] => { results := [.lit (.bool false)], args := [d] }
  | _ => none }
def FnExactRackTextWrongFalsely : Prop := fnExactRackTextRow.holds Try.pinned (OpenSpec.ofChange fnExactRackTextWrong)

/-- 'laws.FnExactTrivialRack': WHATEVER THE INPUT: true; the input reads as it did. -/
def fnExactTrivialRackSpec : ChangeSpec := { name := "fnExactTrivialRack", fn := fun _ => fun
  | [d] => { results := [.lit (.bool true)], args := [d] }
  | _ => none }
def fnExactTrivialRackRow : OpenClaim := { program := "ytkflmhmbkilmpab", sum := "2de8832593ea23fd054295f1a49bbe130bfa7a9e4c7f5b9b9df170055f2c0e3b", func := "loop.example/g01119/laws.FnExactTrivialRack", spec := "fnExactTrivialRack", unfollowed := true, recurses := true, apart := false }
def FnExactTrivialRackSaid : Prop := fnExactTrivialRackRow.holds Try.pinned (OpenSpec.ofChange fnExactTrivialRackSpec)

/-- ITS FALSE NEIGHBOUR: 'it returns false'. Refute it at one input. -/
def fnExactTrivialRackWrong : ChangeSpec := { name := "fnExactTrivialRack", fn := fun _ => fun
  | [d] => { results := [.lit (.bool false)], args := [d] }
  | _ => none }
def FnExactTrivialRackWrongFalsely : Prop := fnExactTrivialRackRow.holds Try.pinned (OpenSpec.ofChange fnExactTrivialRackWrong)

/-- 'laws.FnExactPermutationRack': WHATEVER THE INPUT: true; the input reads as it did. -/
def fnExactPermutationRackSpec : ChangeSpec := { name := "fnExactPermutationRack", fn := fun _ => fun
  | [d] => { results := [.lit (.bool true)], args := [d] }
  | _ => none }
def fnExactPermutationRackRow : OpenClaim := { program := "ytkflmhmbkilmpab", sum := "2de8832593ea23fd054295f1a49bbe130bfa7a9e4c7f5b9b9df170055f2c0e3b", func := "loop.example/g01119/laws.FnExactPermutationRack", spec := "fnExactPermutationRack", unfollowed := true, recurses := true, apart := false }
def FnExactPermutationRackSaid : Prop := fnExactPermutationRackRow.holds Try.pinned (OpenSpec.ofChange fnExactPermutationRackSpec)

/-- ITS FALSE NEIGHBOUR: 'it returns false'. Refute it at one input. -/
def fnExactPermutationRackWrong : ChangeSpec := { name := "fnExactPermutationRack", fn := fun _ => fun
  | [d] => { results := [.lit (.bool false)], args := [d] }
  | _ => none }
def FnExactPermutationRackWrongFalsely : Prop := fnExactPermutationRackRow.holds Try.pinned (OpenSpec.ofChange fnExactPermutationRackWrong)

/-- 'laws.FnExactDihedralQuandle': WHATEVER THE INPUT: true; the input reads as it did. -/
def fnExactDihedralQuandleSpec : ChangeSpec := { name := "fnExactDihedralQuandle", fn := fun _ => fun
  | [d] => { results := [.lit (.bool true)], args := [d] }
  | _ => none }
def fnExactDihedralQuandleRow : OpenClaim := { program := "ytkflmhmbkilmpab", sum := "2de8832593ea23fd054295f1a49bbe130bfa7a9e4c7f5b9b9df170055f2c0e3b", func := "loop.example/g01119/laws.FnExactDihedralQuandle", spec := "fnExactDihedralQuandle", unfollowed := true, recurses := true, apart := false }
def FnExactDihedralQuandleSaid : Prop := fnExactDihedralQuandleRow.holds Try.pinned (OpenSpec.ofChange fnExactDihedralQuandleSpec)

/-- ITS FALSE NEIGHBOUR: 'it returns false'. Refute it at one input. -/
def fnExactDihedralQuandleWrong : ChangeSpec := { name := "fnExactDihedralQuandle", fn := fun _ => fun
  | [d] => { results := [.lit (.bool false)], args := [d] }
  | _ => none }
def FnExactDihedralQuandleWrongFalsely : Prop := fnExactDihedralQuandleRow.holds Try.pinned (OpenSpec.ofChange fnExactDihedralQuandleWrong)

/-- 'laws.FnExactAlexanderQuandle': WHATEVER THE INPUT: true; the input reads as it did. -/
def fnExactAlexanderQuandleSpec : ChangeSpec := { name := "fnExactAlexanderQuandle", fn := fun _ => fun
  | [d1, d2] => { results := [.lit (.bool true)], args := [d1, d2] }
  | _ => none }
def fnExactAlexanderQuandleRow : OpenClaim := { program := "ytkflmhmbkilmpab", sum := "2de8832593ea23fd054295f1a49bbe130bfa7a9e4c7f5b9b9df170055f2c0e3b", func := "loop.example/g01119/laws.FnExactAlexanderQuandle", spec := "fnExactAlexanderQuandle", unfollowed := true, recurses := true, apart := false }
def FnExactAlexanderQuandleSaid : Prop := fnExactAlexanderQuandleRow.holds Try.pinned (OpenSpec.ofChange fnExactAlexanderQuandleSpec)

/-- ITS FALSE NEIGHBOUR: 'it returns false'. Refute it at one input. -/
def fnExactAlexanderQuandleWrong : ChangeSpec := { name := "fnExactAlexanderQuandle", fn := fun _ => fun
  | [d1, d2] => { results := [.lit (.bool false)], args := [d1, d2] }
  | _ => none }
def FnExactAlexanderQuandleWrongFalsely : Prop := fnExactAlexanderQuandleRow.holds Try.pinned (OpenSpec.ofChange fnExactAlexanderQuandleWrong)

/- THE SECOND FORM. 'bulk': how many values and letters a reading holds, each counted each time it is reached (what is shared counts as often as it is met; a slice's spare places count too). A statement '..UptoSaid' is the law's where the arguments, and the package variables that the reading takes, are together of bulk at most 1048576: NARROWER than '..Said'. Prove '..Said' where nothing that the law and all that it calls make is longer than what came in: it says more and counts as full. Else prove '..UptoSaid'. A law counts once. -/
mutual
def uptoBulk {H : Type} : DataW H → Nat
  | .lit (.string bytes) => bytes.length + 1
  | .lit _ => 1
  | .nil => 1
  | .ptr d => uptoBulk d + 1
  | .slice elems spare => uptoBulkAll elems + uptoBulkAll spare + 1
  | .agg parts => uptoBulkAll parts + 1
  | .iface _ d => uptoBulk d + 1
  | .map entries => uptoBulkEntries entries + 1
  | .held _ => 1
def uptoBulkAll {H : Type} : List (DataW H) → Nat
  | [] => 0
  | d :: r => uptoBulk d + uptoBulkAll r
def uptoBulkEntries {H : Type} : List (Lit × DataW H) → Nat
  | [] => 0
  | x :: r => uptoBulkEntry x + uptoBulkEntries r
def uptoBulkEntry {H : Type} : Lit × DataW H → Nat
  | (.string bytes, d) => bytes.length + uptoBulk d + 1
  | (_, d) => uptoBulk d + 1
 end
def uptoSmall : (H : Type) → List (DataW H) → Bool := fun _ ds => decide (uptoBulkAll ds ≤ 1048576)
def OpenSpec.upto (s : _root_.Go.ChangeSpec) : _root_.Go.OpenSpec := { _root_.Go.OpenSpec.ofChange s with cond := some uptoSmall }

/-- 'laws.FnExactDualRack', WHERE WHAT IT READS IS OF BULK AT MOST 1048576: true; the input reads as it did. -/
def fnExactDualRackUptoRow : OpenClaim := { program := "ytkflmhmbkilmpab", sum := "2de8832593ea23fd054295f1a49bbe130bfa7a9e4c7f5b9b9df170055f2c0e3b", func := "loop.example/g01119/laws.FnExactDualRack", spec := "fnExactDualRack", unfollowed := true, recurses := true, apart := false, narrowed := true }
def FnExactDualRackUptoSaid : Prop := fnExactDualRackUptoRow.holds Try.pinned (OpenSpec.upto fnExactDualRackSpec)

/-- 'laws.FnExactKinkOf', WHERE WHAT IT READS IS OF BULK AT MOST 1048576: true; the input reads as it did. -/
def fnExactKinkOfUptoRow : OpenClaim := { program := "ytkflmhmbkilmpab", sum := "2de8832593ea23fd054295f1a49bbe130bfa7a9e4c7f5b9b9df170055f2c0e3b", func := "loop.example/g01119/laws.FnExactKinkOf", spec := "fnExactKinkOf", unfollowed := true, recurses := true, apart := false, narrowed := true }
def FnExactKinkOfUptoSaid : Prop := fnExactKinkOfUptoRow.holds Try.pinned (OpenSpec.upto fnExactKinkOfSpec)

/-- 'laws.FnExactQuandleOf', WHERE WHAT IT READS IS OF BULK AT MOST 1048576: true; the input reads as it did. -/
def fnExactQuandleOfUptoRow : OpenClaim := { program := "ytkflmhmbkilmpab", sum := "2de8832593ea23fd054295f1a49bbe130bfa7a9e4c7f5b9b9df170055f2c0e3b", func := "loop.example/g01119/laws.FnExactQuandleOf", spec := "fnExactQuandleOf", unfollowed := true, recurses := true, apart := false, narrowed := true }
def FnExactQuandleOfUptoSaid : Prop := fnExactQuandleOfUptoRow.holds Try.pinned (OpenSpec.upto fnExactQuandleOfSpec)

/-- 'laws.FnExactLeastRack', WHERE WHAT IT READS IS OF BULK AT MOST 1048576: true; the input reads as it did. -/
def fnExactLeastRackUptoRow : OpenClaim := { program := "ytkflmhmbkilmpab", sum := "2de8832593ea23fd054295f1a49bbe130bfa7a9e4c7f5b9b9df170055f2c0e3b", func := "loop.example/g01119/laws.FnExactLeastRack", spec := "fnExactLeastRack", unfollowed := true, recurses := true, apart := false, narrowed := true }
def FnExactLeastRackUptoSaid : Prop := fnExactLeastRackUptoRow.holds Try.pinned (OpenSpec.upto fnExactLeastRackSpec)

/-- 'laws.FnExactRackText', WHERE WHAT IT READS IS OF BULK AT MOST 1048576: true; the input reads as it did. -/
def fnExactRackTextUptoRow : OpenClaim := { program := "ytkflmhmbkilmpab", sum := "2de8832593ea23fd054295f1a49bbe130bfa7a9e4c7f5b9b9df170055f2c0e3b", func := "loop.example/g01119/laws.FnExactRackText", spec := "fnExactRackText", inPlace := ["internal/abi.NoEscape", "internal/bytealg.MakeNoZero"], unfollowed := true, recurses := true, apart := false, narrowed := true }
def FnExactRackTextUptoSaid : Prop := fnExactRackTextUptoRow.holds Try.pinned (OpenSpec.upto fnExactRackTextSpec)

/-- 'laws.FnExactTrivialRack', WHERE WHAT IT READS IS OF BULK AT MOST 1048576: true; the input reads as it did. -/
def fnExactTrivialRackUptoRow : OpenClaim := { program := "ytkflmhmbkilmpab", sum := "2de8832593ea23fd054295f1a49bbe130bfa7a9e4c7f5b9b9df170055f2c0e3b", func := "loop.example/g01119/laws.FnExactTrivialRack", spec := "fnExactTrivialRack", unfollowed := true, recurses := true, apart := false, narrowed := true }
def FnExactTrivialRackUptoSaid : Prop := fnExactTrivialRackUptoRow.holds Try.pinned (OpenSpec.upto fnExactTrivialRackSpec)

/-- 'laws.FnExactPermutationRack', WHERE WHAT IT READS IS OF BULK AT MOST 1048576: true; the input reads as it did. -/
def fnExactPermutationRackUptoRow : OpenClaim := { program := "ytkflmhmbkilmpab", sum := "2de8832593ea23fd054295f1a49bbe130bfa7a9e4c7f5b9b9df170055f2c0e3b", func := "loop.example/g01119/laws.FnExactPermutationRack", spec := "fnExactPermutationRack", unfollowed := true, recurses := true, apart := false, narrowed := true }
def FnExactPermutationRackUptoSaid : Prop := fnExactPermutationRackUptoRow.holds Try.pinned (OpenSpec.upto fnExactPermutationRackSpec)

/-- 'laws.FnExactDihedralQuandle', WHERE WHAT IT READS IS OF BULK AT MOST 1048576: true; the input reads as it did. -/
def fnExactDihedralQuandleUptoRow : OpenClaim := { program := "ytkflmhmbkilmpab", sum := "2de8832593ea23fd054295f1a49bbe130bfa7a9e4c7f5b9b9df170055f2c0e3b", func := "loop.example/g01119/laws.FnExactDihedralQuandle", spec := "fnExactDihedralQuandle", unfollowed := true, recurses := true, apart := false, narrowed := true }
def FnExactDihedralQuandleUptoSaid : Prop := fnExactDihedralQuandleUptoRow.holds Try.pinned (OpenSpec.upto fnExactDihedralQuandleSpec)

/-- 'laws.FnExactAlexanderQuandle', WHERE WHAT IT READS IS OF BULK AT MOST 1048576: true; the input reads as it did. -/
def fnExactAlexanderQuandleUptoRow : OpenClaim := { program := "ytkflmhmbkilmpab", sum := "2de8832593ea23fd054295f1a49bbe130bfa7a9e4c7f5b9b9df170055f2c0e3b", func := "loop.example/g01119/laws.FnExactAlexanderQuandle", spec := "fnExactAlexanderQuandle", unfollowed := true, recurses := true, apart := false, narrowed := true }
def FnExactAlexanderQuandleUptoSaid : Prop := fnExactAlexanderQuandleUptoRow.holds Try.pinned (OpenSpec.upto fnExactAlexanderQuandleSpec)

end Rows
end Go.Proofs.Ytkflmhmbkilmpab
