/-
  No cell of these rows narrows 'for every input' (looked for: loops, veiled, ifaces, maps, wideKeys, modest, calm, conditions, laid).
  DERIVED. THE GIVEN ROWS OF THIS SEAT. 9 by the template 'for every input the law returns true; each argument reads behind the call as it read before'; 0 by the template 'total and deterministic' (their statements: YtnkggphffinekabTotals.lean).
  GIVEN WITH THE SEED: the statements are not yours to turn. If you find one false, say at which input.
  Laid BY PROGRAM, IN A SANDBOX (cutbox-rows.mjs): the forced cells as the released guide's own fill.sh prints them over the translation 92e5b862117e34b6… (all of the seat's roots in one cut). By AI agents, Wed Nov 11 2026. No macro, syntax, notation, axiom, sorry.
-/
import Derived.Test.YtnkggphffinekabChecked
import GoSem.Claim
import GoSem.ClaimJoined
import GoSem.ClaimMapViews
import Derived.JoinedTies
import Derived.KernelRfl
namespace Go.Proofs.Ytnkggphffinekab
/- THE CELL 'sum', in the pinned program and in every row, IS THE sha256 OF THE DUMP (.gsa) THAT YtnkggphffinekabProg.lean LOADS. Nothing in Lean hashes anything: it is a label: what it is worth is what the hold of that sum in a sandbox is worth. -/
noncomputable def Try.pinned : Pinned := { name := "ytnkggphffinekab", sum := "92e5b862117e34b679dc0b90015ca426107d9dc4b28d4caac28b7163bde520b9", checked := Try.checked }
namespace Rows
def none {H : Type} : Left H := { results := [], args := [] }

/-- 'laws.FnExactHasPermutationRows': WHATEVER THE INPUT: true; the input reads as it did. -/
def fnExactHasPermutationRowsSpec : ChangeSpec := { name := "fnExactHasPermutationRows", fn := fun _ => fun
  | [d] => { results := [.lit (.bool true)], args := [d] }
  | _ => none }
def fnExactHasPermutationRowsRow : OpenClaim := { program := "ytnkggphffinekab", sum := "92e5b862117e34b679dc0b90015ca426107d9dc4b28d4caac28b7163bde520b9", func := "loop.example/g01119/laws.FnExactHasPermutationRows", spec := "fnExactHasPermutationRows", apart := false }
def FnExactHasPermutationRowsSaid : Prop := fnExactHasPermutationRowsRow.holds Try.pinned (OpenSpec.ofChange fnExactHasPermutationRowsSpec)

/-- ITS FALSE NEIGHBOUR: 'it returns false'. Refute it at one input. -/
def fnExactHasPermutationRowsWrong : ChangeSpec := { name := "fnExactHasPermutationRows", fn := fun _ => fun
  | [d] => { results := [.lit (.bool false)], args := [d] }
  | _ => none }
def FnExactHasPermutationRowsWrongFalsely : Prop := fnExactHasPermutationRowsRow.holds Try.pinned (OpenSpec.ofChange fnExactHasPermutationRowsWrong)

/-- 'laws.FnExactIsLatin': WHATEVER THE INPUT: true; the input reads as it did. -/
def fnExactIsLatinSpec : ChangeSpec := { name := "fnExactIsLatin", fn := fun _ => fun
  | [d] => { results := [.lit (.bool true)], args := [d] }
  | _ => none }
def fnExactIsLatinRow : OpenClaim := { program := "ytnkggphffinekab", sum := "92e5b862117e34b679dc0b90015ca426107d9dc4b28d4caac28b7163bde520b9", func := "loop.example/g01119/laws.FnExactIsLatin", spec := "fnExactIsLatin", apart := false }
def FnExactIsLatinSaid : Prop := fnExactIsLatinRow.holds Try.pinned (OpenSpec.ofChange fnExactIsLatinSpec)

/-- ITS FALSE NEIGHBOUR: 'it returns false'. Refute it at one input. -/
def fnExactIsLatinWrong : ChangeSpec := { name := "fnExactIsLatin", fn := fun _ => fun
  | [d] => { results := [.lit (.bool false)], args := [d] }
  | _ => none }
def FnExactIsLatinWrongFalsely : Prop := fnExactIsLatinRow.holds Try.pinned (OpenSpec.ofChange fnExactIsLatinWrong)

/-- 'laws.FnExactTransposeTable': WHATEVER THE INPUT: true; the input reads as it did. -/
def fnExactTransposeTableSpec : ChangeSpec := { name := "fnExactTransposeTable", fn := fun _ => fun
  | [d] => { results := [.lit (.bool true)], args := [d] }
  | _ => none }
def fnExactTransposeTableRow : OpenClaim := { program := "ytnkggphffinekab", sum := "92e5b862117e34b679dc0b90015ca426107d9dc4b28d4caac28b7163bde520b9", func := "loop.example/g01119/laws.FnExactTransposeTable", spec := "fnExactTransposeTable", apart := false }
def FnExactTransposeTableSaid : Prop := fnExactTransposeTableRow.holds Try.pinned (OpenSpec.ofChange fnExactTransposeTableSpec)

/-- ITS FALSE NEIGHBOUR: 'it returns false'. Refute it at one input. -/
def fnExactTransposeTableWrong : ChangeSpec := { name := "fnExactTransposeTable", fn := fun _ => fun
  | [d] => { results := [.lit (.bool false)], args := [d] }
  | _ => none }
def FnExactTransposeTableWrongFalsely : Prop := fnExactTransposeTableRow.holds Try.pinned (OpenSpec.ofChange fnExactTransposeTableWrong)

/-- 'laws.FnExactRenameTable': WHATEVER THE INPUT: true; the input reads as it did. -/
def fnExactRenameTableSpec : ChangeSpec := { name := "fnExactRenameTable", fn := fun _ => fun
  | [d1, d2] => { results := [.lit (.bool true)], args := [d1, d2] }
  | _ => none }
def fnExactRenameTableRow : OpenClaim := { program := "ytnkggphffinekab", sum := "92e5b862117e34b679dc0b90015ca426107d9dc4b28d4caac28b7163bde520b9", func := "loop.example/g01119/laws.FnExactRenameTable", spec := "fnExactRenameTable", apart := false }
def FnExactRenameTableSaid : Prop := fnExactRenameTableRow.holds Try.pinned (OpenSpec.ofChange fnExactRenameTableSpec)

/-- ITS FALSE NEIGHBOUR: 'it returns false'. Refute it at one input. -/
def fnExactRenameTableWrong : ChangeSpec := { name := "fnExactRenameTable", fn := fun _ => fun
  | [d1, d2] => { results := [.lit (.bool false)], args := [d1, d2] }
  | _ => none }
def FnExactRenameTableWrongFalsely : Prop := fnExactRenameTableRow.holds Try.pinned (OpenSpec.ofChange fnExactRenameTableWrong)

/-- 'laws.FnExactLeastTable': WHATEVER THE INPUT: true; the input reads as it did. -/
def fnExactLeastTableSpec : ChangeSpec := { name := "fnExactLeastTable", fn := fun _ => fun
  | [d] => { results := [.lit (.bool true)], args := [d] }
  | _ => none }
def fnExactLeastTableRow : OpenClaim := { program := "ytnkggphffinekab", sum := "92e5b862117e34b679dc0b90015ca426107d9dc4b28d4caac28b7163bde520b9", func := "loop.example/g01119/laws.FnExactLeastTable", spec := "fnExactLeastTable", unfollowed := true, recurses := true, apart := false }
def FnExactLeastTableSaid : Prop := fnExactLeastTableRow.holds Try.pinned (OpenSpec.ofChange fnExactLeastTableSpec)

/-- ITS FALSE NEIGHBOUR: 'it returns false'. Refute it at one input. -/
def fnExactLeastTableWrong : ChangeSpec := { name := "fnExactLeastTable", fn := fun _ => fun
  | [d] => { results := [.lit (.bool false)], args := [d] }
  | _ => none }
def FnExactLeastTableWrongFalsely : Prop := fnExactLeastTableRow.holds Try.pinned (OpenSpec.ofChange fnExactLeastTableWrong)

/-- 'laws.FnExactAllPermutations': WHATEVER THE INPUT: true; the input reads as it did. -/
def fnExactAllPermutationsSpec : ChangeSpec := { name := "fnExactAllPermutations", fn := fun _ => fun
  | [d] => { results := [.lit (.bool true)], args := [d] }
  | _ => none }
def fnExactAllPermutationsRow : OpenClaim := { program := "ytnkggphffinekab", sum := "92e5b862117e34b679dc0b90015ca426107d9dc4b28d4caac28b7163bde520b9", func := "loop.example/g01119/laws.FnExactAllPermutations", spec := "fnExactAllPermutations", recurses := true, apart := false }
def FnExactAllPermutationsSaid : Prop := fnExactAllPermutationsRow.holds Try.pinned (OpenSpec.ofChange fnExactAllPermutationsSpec)

/-- ITS FALSE NEIGHBOUR: 'it returns false'. Refute it at one input. -/
def fnExactAllPermutationsWrong : ChangeSpec := { name := "fnExactAllPermutations", fn := fun _ => fun
  | [d] => { results := [.lit (.bool false)], args := [d] }
  | _ => none }
def FnExactAllPermutationsWrongFalsely : Prop := fnExactAllPermutationsRow.holds Try.pinned (OpenSpec.ofChange fnExactAllPermutationsWrong)

/-- 'laws.FnExactPermutationText': WHATEVER THE INPUT: true; the input reads as it did. -/
def fnExactPermutationTextSpec : ChangeSpec := { name := "fnExactPermutationText", fn := fun _ => fun
  | [d] => { results := [.lit (.bool true)], args := [d] }
  | _ => none }
def fnExactPermutationTextRow : OpenClaim := { program := "ytnkggphffinekab", sum := "92e5b862117e34b679dc0b90015ca426107d9dc4b28d4caac28b7163bde520b9", func := "loop.example/g01119/laws.FnExactPermutationText", spec := "fnExactPermutationText", apart := false }
def FnExactPermutationTextSaid : Prop := fnExactPermutationTextRow.holds Try.pinned (OpenSpec.ofChange fnExactPermutationTextSpec)

/-- ITS FALSE NEIGHBOUR: 'it returns false'. Refute it at one input. -/
def fnExactPermutationTextWrong : ChangeSpec := { name := "fnExactPermutationText", fn := fun _ => fun
  | [d] => { results := [.lit (.bool false)], args := [d] }
  | _ => none }
def FnExactPermutationTextWrongFalsely : Prop := fnExactPermutationTextRow.holds Try.pinned (OpenSpec.ofChange fnExactPermutationTextWrong)

/-- 'laws.FnExactParsePermutation': WHATEVER THE INPUT: true; the input reads as it did. -/
def fnExactParsePermutationSpec : ChangeSpec := { name := "fnExactParsePermutation", fn := fun _ => fun
  | [d] => { results := [.lit (.bool true)], args := [d] }
  | _ => none }
def fnExactParsePermutationRow : OpenClaim := { program := "ytnkggphffinekab", sum := "92e5b862117e34b679dc0b90015ca426107d9dc4b28d4caac28b7163bde520b9", func := "loop.example/g01119/laws.FnExactParsePermutation", spec := "fnExactParsePermutation", inPlace := ["internal/bytealg.IndexByteString"], apart := false }
def FnExactParsePermutationSaid : Prop := fnExactParsePermutationRow.holds Try.pinned (OpenSpec.ofChange fnExactParsePermutationSpec)

/-- ITS FALSE NEIGHBOUR: 'it returns false'. Refute it at one input. -/
def fnExactParsePermutationWrong : ChangeSpec := { name := "fnExactParsePermutation", fn := fun _ => fun
  | [d] => { results := [.lit (.bool false)], args := [d] }
  | _ => none }
def FnExactParsePermutationWrongFalsely : Prop := fnExactParsePermutationRow.holds Try.pinned (OpenSpec.ofChange fnExactParsePermutationWrong)

/-- 'laws.FnExactTableText': WHATEVER THE INPUT: true; the input reads as it did. -/
def fnExactTableTextSpec : ChangeSpec := { name := "fnExactTableText", fn := fun _ => fun
  | [d] => { results := [.lit (.bool true)], args := [d] }
  | _ => none }
def fnExactTableTextRow : OpenClaim := { program := "ytnkggphffinekab", sum := "92e5b862117e34b679dc0b90015ca426107d9dc4b28d4caac28b7163bde520b9", func := "loop.example/g01119/laws.FnExactTableText", spec := "fnExactTableText", inPlace := ["internal/abi.NoEscape", "internal/bytealg.MakeNoZero"], apart := false }
def FnExactTableTextSaid : Prop := fnExactTableTextRow.holds Try.pinned (OpenSpec.ofChange fnExactTableTextSpec)

/-- ITS FALSE NEIGHBOUR: 'it returns false'. Refute it at one input. -/
def fnExactTableTextWrong : ChangeSpec := { name := "fnExactTableText", fn := fun _ => fun
  | [d] => { results := [.lit (.bool false)], args := [d] }
  | _ => none }
def FnExactTableTextWrongFalsely : Prop := fnExactTableTextRow.holds Try.pinned (OpenSpec.ofChange fnExactTableTextWrong)

/- THE SECOND FORM. 'bulk': how many values and letters a reading holds, each counted each time it is reached (what is shared counts as often as it is met; a slice's spare places count too). A statement '..UptoSaid' is the law's where the arguments, and the package variables that the reading takes, are together of bulk at most 1048576: NARROWER than '..Said'. Prove '..Said' where nothing that the law and all that it calls make is longer than what came in: it says more and counts as full. Else prove '..UptoSaid'. A law counts once. -/
mutual
def uptoBulk {H : Type} : DataW H → Nat
  | .lit (.string bytes) => bytes.length + 1
  | .lit _ => 1
  | .nil => 1
  | .ptr d => uptoBulk d + 1
  | .slice elems spare => uptoBulkAll elems + uptoBulkAll spare + 1
  | .agg parts => uptoBulkAll parts + 1
  | .iface _ d => uptoBulk d + 1
  | .map entries => uptoBulkEntries entries + 1
  | .held _ => 1
def uptoBulkAll {H : Type} : List (DataW H) → Nat
  | [] => 0
  | d :: r => uptoBulk d + uptoBulkAll r
def uptoBulkEntries {H : Type} : List (Lit × DataW H) → Nat
  | [] => 0
  | x :: r => uptoBulkEntry x + uptoBulkEntries r
def uptoBulkEntry {H : Type} : Lit × DataW H → Nat
  | (.string bytes, d) => bytes.length + uptoBulk d + 1
  | (_, d) => uptoBulk d + 1
 end
def uptoSmall : (H : Type) → List (DataW H) → Bool := fun _ ds => decide (uptoBulkAll ds ≤ 1048576)
def OpenSpec.upto (s : _root_.Go.ChangeSpec) : _root_.Go.OpenSpec := { _root_.Go.OpenSpec.ofChange s with cond := some uptoSmall }

/-- 'laws.FnExactHasPermutationRows', WHERE WHAT IT READS IS OF BULK AT MOST 1048576: true; the input reads as it did. -/
def fnExactHasPermutationRowsUptoRow : OpenClaim := { program := "ytnkggphffinekab", sum := "92e5b862117e34b679dc0b90015ca426107d9dc4b28d4caac28b7163bde520b9", func := "loop.example/g01119/laws.FnExactHasPermutationRows", spec := "fnExactHasPermutationRows", apart := false, narrowed := true }
def FnExactHasPermutationRowsUptoSaid : Prop := fnExactHasPermutationRowsUptoRow.holds Try.pinned (OpenSpec.upto fnExactHasPermutationRowsSpec)

/-- 'laws.FnExactIsLatin', WHERE WHAT IT READS IS OF BULK AT MOST 1048576: true; the input reads as it did. -/
def fnExactIsLatinUptoRow : OpenClaim := { program := "ytnkggphffinekab", sum := "92e5b862117e34b679dc0b90015ca426107d9dc4b28d4caac28b7163bde520b9", func := "loop.example/g01119/laws.FnExactIsLatin", spec := "fnExactIsLatin", apart := false, narrowed := true }
def FnExactIsLatinUptoSaid : Prop := fnExactIsLatinUptoRow.holds Try.pinned (OpenSpec.upto fnExactIsLatinSpec)

/-- 'laws.FnExactTransposeTable', WHERE WHAT IT READS IS OF BULK AT MOST 1048576: true; the input reads as it did. -/
def fnExactTransposeTableUptoRow : OpenClaim := { program := "ytnkggphffinekab", sum := "92e5b862117e34b679dc0b90015ca426107d9dc4b28d4caac28b7163bde520b9", func := "loop.example/g01119/laws.FnExactTransposeTable", spec := "fnExactTransposeTable", apart := false, narrowed := true }
def FnExactTransposeTableUptoSaid : Prop := fnExactTransposeTableUptoRow.holds Try.pinned (OpenSpec.upto fnExactTransposeTableSpec)

/-- 'laws.FnExactRenameTable', WHERE WHAT IT READS IS OF BULK AT MOST 1048576: true; the input reads as it did. -/
def fnExactRenameTableUptoRow : OpenClaim := { program := "ytnkggphffinekab", sum := "92e5b862117e34b679dc0b90015ca426107d9dc4b28d4caac28b7163bde520b9", func := "loop.example/g01119/laws.FnExactRenameTable", spec := "fnExactRenameTable", apart := false, narrowed := true }
def FnExactRenameTableUptoSaid : Prop := fnExactRenameTableUptoRow.holds Try.pinned (OpenSpec.upto fnExactRenameTableSpec)

/-- 'laws.FnExactLeastTable', WHERE WHAT IT READS IS OF BULK AT MOST 1048576: true; the input reads as it did. -/
def fnExactLeastTableUptoRow : OpenClaim := { program := "ytnkggphffinekab", sum := "92e5b862117e34b679dc0b90015ca426107d9dc4b28d4caac28b7163bde520b9", func := "loop.example/g01119/laws.FnExactLeastTable", spec := "fnExactLeastTable", unfollowed := true, recurses := true, apart := false, narrowed := true }
def FnExactLeastTableUptoSaid : Prop := fnExactLeastTableUptoRow.holds Try.pinned (OpenSpec.upto fnExactLeastTableSpec)

/-- 'laws.FnExactAllPermutations', WHERE WHAT IT READS IS OF BULK AT MOST 1048576: true; the input reads as it did. -/
def fnExactAllPermutationsUptoRow : OpenClaim := { program := "ytnkggphffinekab", sum := "92e5b862117e34b679dc0b90015ca426107d9dc4b28d4caac28b7163bde520b9", func := "loop.example/g01119/laws.FnExactAllPermutations", spec := "fnExactAllPermutations", recurses := true, apart := false, narrowed := true }
def FnExactAllPermutationsUptoSaid : Prop := fnExactAllPermutationsUptoRow.holds Try.pinned (OpenSpec.upto fnExactAllPermutationsSpec)

/-- 'laws.FnExactPermutationText', WHERE WHAT IT READS IS OF BULK AT MOST 1048576: true; the input reads as it did. -/
def fnExactPermutationTextUptoRow : OpenClaim := { program := "ytnkggphffinekab", sum := "92e5b862117e34b679dc0b90015ca426107d9dc4b28d4caac28b7163bde520b9", func := "loop.example/g01119/laws.FnExactPermutationText", spec := "fnExactPermutationText", apart := false, narrowed := true }
def FnExactPermutationTextUptoSaid : Prop := fnExactPermutationTextUptoRow.holds Try.pinned (OpenSpec.upto fnExactPermutationTextSpec)

/-- 'laws.FnExactParsePermutation', WHERE WHAT IT READS IS OF BULK AT MOST 1048576: true; the input reads as it did. -/
def fnExactParsePermutationUptoRow : OpenClaim := { program := "ytnkggphffinekab", sum := "92e5b862117e34b679dc0b90015ca426107d9dc4b28d4caac28b7163bde520b9", func := "loop.example/g01119/laws.FnExactParsePermutation", spec := "fnExactParsePermutation", inPlace := ["internal/bytealg.IndexByteString"], apart := false, narrowed := true }
def FnExactParsePermutationUptoSaid : Prop := fnExactParsePermutationUptoRow.holds Try.pinned (OpenSpec.upto fnExactParsePermutationSpec)

/-- 'laws.FnExactTableText', WHERE WHAT IT READS IS OF BULK AT MOST 1048576: true; the input reads as it did. -/
def fnExactTableTextUptoRow : OpenClaim := { program := "ytnkggphffinekab", sum := "92e5b862117e34b679dc0b90015ca426107d9dc4b28d4caac28b7163bde520b9", func := "loop.example/g01119/laws.FnExactTableText", spec := "fnExactTableText", inPlace := ["internal/abi.NoEscape", "internal/bytealg.MakeNoZero"], apart := false, narrowed := true }
def FnExactTableTextUptoSaid : Prop := fnExactTableTextUptoRow.holds Try.pinned (OpenSpec.upto fnExactTableTextSpec)

end Rows
end Go.Proofs.Ytnkggphffinekab
