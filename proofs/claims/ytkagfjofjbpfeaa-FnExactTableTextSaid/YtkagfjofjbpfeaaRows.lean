/-
  No cell of these rows narrows 'for every input' (looked for: loops, veiled, ifaces, maps, wideKeys, modest, calm, conditions, laid).
  DERIVED. THE GIVEN ROWS OF THIS SEAT. 12 by the template 'for every input the law returns true; each argument reads behind the call as it read before'; 0 by the template 'total and deterministic' (their statements: YtkagfjofjbpfeaaTotals.lean).
  GIVEN WITH THE SEED: the statements are not yours to turn. If you find one false, say at which input.
  Laid BY PROGRAM, IN A SANDBOX (cutbox-rows.mjs): the forced cells as the released guide's own fill.sh prints them over the translation 162c47532c690c0e… (all of the seat's roots in one cut). By AI agents, Wed Nov 11 2026. No macro, syntax, notation, axiom, sorry.
-/
import Derived.Test.YtkagfjofjbpfeaaChecked
import GoSem.Claim
import GoSem.ClaimJoined
import GoSem.ClaimMapViews
import Derived.JoinedTies
import Derived.KernelRfl
namespace Go.Proofs.Ytkagfjofjbpfeaa
/- THE CELL 'sum', in the pinned program and in every row, IS THE sha256 OF THE DUMP (.gsa) THAT YtkagfjofjbpfeaaProg.lean LOADS. Nothing in Lean hashes anything: it is a label: what it is worth is what the hold of that sum in a sandbox is worth. -/
noncomputable def Try.pinned : Pinned := { name := "ytkagfjofjbpfeaa", sum := "162c47532c690c0e61d2b54bb8391a1105ab572ae10543cd5d10199a1356bbd4", checked := Try.checked }
namespace Rows
def none {H : Type} : Left H := { results := [], args := [] }

/-- 'laws.FnExactIsTable': WHATEVER THE INPUT: true; the input reads as it did. -/
def fnExactIsTableSpec : ChangeSpec := { name := "fnExactIsTable", fn := fun _ => fun
  | [d] => { results := [.lit (.bool true)], args := [d] }
  | _ => none }
def fnExactIsTableRow : OpenClaim := { program := "ytkagfjofjbpfeaa", sum := "162c47532c690c0e61d2b54bb8391a1105ab572ae10543cd5d10199a1356bbd4", func := "loop.example/g01119/laws.FnExactIsTable", spec := "fnExactIsTable", plainKeys := false, apart := false }
def FnExactIsTableSaid : Prop := fnExactIsTableRow.holds Try.pinned (OpenSpec.ofChange fnExactIsTableSpec)

/-- ITS FALSE NEIGHBOUR: 'it returns false'. Refute it at one input. -/
def fnExactIsTableWrong : ChangeSpec := { name := "fnExactIsTable", fn := fun _ => fun
  | [d] => { results := [.lit (.bool false)], args := [d] }
  | _ => none }
def FnExactIsTableWrongFalsely : Prop := fnExactIsTableRow.holds Try.pinned (OpenSpec.ofChange fnExactIsTableWrong)

/-- 'laws.FnExactHasPermutationRows': WHATEVER THE INPUT: true; the input reads as it did. -/
def fnExactHasPermutationRowsSpec : ChangeSpec := { name := "fnExactHasPermutationRows", fn := fun _ => fun
  | [d] => { results := [.lit (.bool true)], args := [d] }
  | _ => none }
def fnExactHasPermutationRowsRow : OpenClaim := { program := "ytkagfjofjbpfeaa", sum := "162c47532c690c0e61d2b54bb8391a1105ab572ae10543cd5d10199a1356bbd4", func := "loop.example/g01119/laws.FnExactHasPermutationRows", spec := "fnExactHasPermutationRows", plainKeys := false, apart := false }
def FnExactHasPermutationRowsSaid : Prop := fnExactHasPermutationRowsRow.holds Try.pinned (OpenSpec.ofChange fnExactHasPermutationRowsSpec)

/-- ITS FALSE NEIGHBOUR: 'it returns false'. Refute it at one input. -/
def fnExactHasPermutationRowsWrong : ChangeSpec := { name := "fnExactHasPermutationRows", fn := fun _ => fun
  | [d] => { results := [.lit (.bool false)], args := [d] }
  | _ => none }
def FnExactHasPermutationRowsWrongFalsely : Prop := fnExactHasPermutationRowsRow.holds Try.pinned (OpenSpec.ofChange fnExactHasPermutationRowsWrong)

/-- 'laws.FnExactIsLatin': WHATEVER THE INPUT: true; the input reads as it did. -/
def fnExactIsLatinSpec : ChangeSpec := { name := "fnExactIsLatin", fn := fun _ => fun
  | [d] => { results := [.lit (.bool true)], args := [d] }
  | _ => none }
def fnExactIsLatinRow : OpenClaim := { program := "ytkagfjofjbpfeaa", sum := "162c47532c690c0e61d2b54bb8391a1105ab572ae10543cd5d10199a1356bbd4", func := "loop.example/g01119/laws.FnExactIsLatin", spec := "fnExactIsLatin", plainKeys := false, apart := false }
def FnExactIsLatinSaid : Prop := fnExactIsLatinRow.holds Try.pinned (OpenSpec.ofChange fnExactIsLatinSpec)

/-- ITS FALSE NEIGHBOUR: 'it returns false'. Refute it at one input. -/
def fnExactIsLatinWrong : ChangeSpec := { name := "fnExactIsLatin", fn := fun _ => fun
  | [d] => { results := [.lit (.bool false)], args := [d] }
  | _ => none }
def FnExactIsLatinWrongFalsely : Prop := fnExactIsLatinRow.holds Try.pinned (OpenSpec.ofChange fnExactIsLatinWrong)

/-- 'laws.FnExactTransposeTable': WHATEVER THE INPUT: true; the input reads as it did. -/
def fnExactTransposeTableSpec : ChangeSpec := { name := "fnExactTransposeTable", fn := fun _ => fun
  | [d] => { results := [.lit (.bool true)], args := [d] }
  | _ => none }
def fnExactTransposeTableRow : OpenClaim := { program := "ytkagfjofjbpfeaa", sum := "162c47532c690c0e61d2b54bb8391a1105ab572ae10543cd5d10199a1356bbd4", func := "loop.example/g01119/laws.FnExactTransposeTable", spec := "fnExactTransposeTable", plainKeys := false, apart := false }
def FnExactTransposeTableSaid : Prop := fnExactTransposeTableRow.holds Try.pinned (OpenSpec.ofChange fnExactTransposeTableSpec)

/-- ITS FALSE NEIGHBOUR: 'it returns false'. Refute it at one input. -/
def fnExactTransposeTableWrong : ChangeSpec := { name := "fnExactTransposeTable", fn := fun _ => fun
  | [d] => { results := [.lit (.bool false)], args := [d] }
  | _ => none }
def FnExactTransposeTableWrongFalsely : Prop := fnExactTransposeTableRow.holds Try.pinned (OpenSpec.ofChange fnExactTransposeTableWrong)

/-- 'laws.FnExactRenameTable': WHATEVER THE INPUT: true; the input reads as it did. -/
def fnExactRenameTableSpec : ChangeSpec := { name := "fnExactRenameTable", fn := fun _ => fun
  | [d1, d2] => { results := [.lit (.bool true)], args := [d1, d2] }
  | _ => none }
def fnExactRenameTableRow : OpenClaim := { program := "ytkagfjofjbpfeaa", sum := "162c47532c690c0e61d2b54bb8391a1105ab572ae10543cd5d10199a1356bbd4", func := "loop.example/g01119/laws.FnExactRenameTable", spec := "fnExactRenameTable", plainKeys := false, apart := false }
def FnExactRenameTableSaid : Prop := fnExactRenameTableRow.holds Try.pinned (OpenSpec.ofChange fnExactRenameTableSpec)

/-- ITS FALSE NEIGHBOUR: 'it returns false'. Refute it at one input. -/
def fnExactRenameTableWrong : ChangeSpec := { name := "fnExactRenameTable", fn := fun _ => fun
  | [d1, d2] => { results := [.lit (.bool false)], args := [d1, d2] }
  | _ => none }
def FnExactRenameTableWrongFalsely : Prop := fnExactRenameTableRow.holds Try.pinned (OpenSpec.ofChange fnExactRenameTableWrong)

/-- 'laws.FnExactLeastTable': WHATEVER THE INPUT: true; the input reads as it did. -/
def fnExactLeastTableSpec : ChangeSpec := { name := "fnExactLeastTable", fn := fun _ => fun
  | [d] => { results := [.lit (.bool true)], args := [d] }
  | _ => none }
def fnExactLeastTableRow : OpenClaim := { program := "ytkagfjofjbpfeaa", sum := "162c47532c690c0e61d2b54bb8391a1105ab572ae10543cd5d10199a1356bbd4", func := "loop.example/g01119/laws.FnExactLeastTable", spec := "fnExactLeastTable", unfollowed := true, recurses := true, plainKeys := false, apart := false }
def FnExactLeastTableSaid : Prop := fnExactLeastTableRow.holds Try.pinned (OpenSpec.ofChange fnExactLeastTableSpec)

/-- ITS FALSE NEIGHBOUR: 'it returns false'. Refute it at one input. -/
def fnExactLeastTableWrong : ChangeSpec := { name := "fnExactLeastTable", fn := fun _ => fun
  | [d] => { results := [.lit (.bool false)], args := [d] }
  | _ => none }
def FnExactLeastTableWrongFalsely : Prop := fnExactLeastTableRow.holds Try.pinned (OpenSpec.ofChange fnExactLeastTableWrong)

/-- 'laws.FnExactTableText': WHATEVER THE INPUT: true; the input reads as it did. -/
def fnExactTableTextSpec : ChangeSpec := { name := "fnExactTableText", fn := fun _ => fun
  | [d] => { results := [.lit (.bool true)], args := [d] }
  | _ => none }
def fnExactTableTextRow : OpenClaim := { program := "ytkagfjofjbpfeaa", sum := "162c47532c690c0e61d2b54bb8391a1105ab572ae10543cd5d10199a1356bbd4", func := "loop.example/g01119/laws.FnExactTableText", spec := "fnExactTableText", inPlace := ["internal/abi.NoEscape", "internal/bytealg.MakeNoZero"], plainKeys := false, apart := false }
def FnExactTableTextSaid : Prop := fnExactTableTextRow.holds Try.pinned (OpenSpec.ofChange fnExactTableTextSpec)

/-- ITS FALSE NEIGHBOUR: 'it returns false'. Refute it at one input. -/
def fnExactTableTextWrong : ChangeSpec := { name := "fnExactTableText", fn := fun _ => fun
  | [d] => { results := [.lit (.bool false)], args := [d] }
  | _ => none }
def FnExactTableTextWrongFalsely : Prop := fnExactTableTextRow.holds Try.pinned (OpenSpec.ofChange fnExactTableTextWrong)

/-- 'laws.FnExactGuitarMap': WHATEVER THE INPUT: true; the input reads as it did. -/
def fnExactGuitarMapSpec : ChangeSpec := { name := "fnExactGuitarMap", fn := fun _ => fun
  | [d1, d2] => { results := [.lit (.bool true)], args := [d1, d2] }
  | _ => none }
def fnExactGuitarMapRow : OpenClaim := { program := "ytkagfjofjbpfeaa", sum := "162c47532c690c0e61d2b54bb8391a1105ab572ae10543cd5d10199a1356bbd4", func := "loop.example/g01119/laws.FnExactGuitarMap", spec := "fnExactGuitarMap", unfollowed := true, recurses := true, plainKeys := false, apart := false }
def FnExactGuitarMapSaid : Prop := fnExactGuitarMapRow.holds Try.pinned (OpenSpec.ofChange fnExactGuitarMapSpec)

/-- ITS FALSE NEIGHBOUR: 'it returns false'. Refute it at one input. -/
def fnExactGuitarMapWrong : ChangeSpec := { name := "fnExactGuitarMap", fn := fun _ => fun
  | [d1, d2] => { results := [.lit (.bool false)], args := [d1, d2] }
  | _ => none }
def FnExactGuitarMapWrongFalsely : Prop := fnExactGuitarMapRow.holds Try.pinned (OpenSpec.ofChange fnExactGuitarMapWrong)

/-- 'laws.FnExactRackOrbits': WHATEVER THE INPUT: true; the input reads as it did. -/
def fnExactRackOrbitsSpec : ChangeSpec := { name := "fnExactRackOrbits", fn := fun _ => fun
  | [d] => { results := [.lit (.bool true)], args := [d] }
  | _ => none }
def fnExactRackOrbitsRow : OpenClaim := { program := "ytkagfjofjbpfeaa", sum := "162c47532c690c0e61d2b54bb8391a1105ab572ae10543cd5d10199a1356bbd4", func := "loop.example/g01119/laws.FnExactRackOrbits", spec := "fnExactRackOrbits", unfollowed := true, recurses := true, plainKeys := false, apart := false }
def FnExactRackOrbitsSaid : Prop := fnExactRackOrbitsRow.holds Try.pinned (OpenSpec.ofChange fnExactRackOrbitsSpec)

/-- ITS FALSE NEIGHBOUR: 'it returns false'. Refute it at one input. -/
def fnExactRackOrbitsWrong : ChangeSpec := { name := "fnExactRackOrbits", fn := fun _ => fun
  | [d] => { results := [.lit (.bool false)], args := [d] }
  | _ => none }
def FnExactRackOrbitsWrongFalsely : Prop := fnExactRackOrbitsRow.holds Try.pinned (OpenSpec.ofChange fnExactRackOrbitsWrong)

/-- 'laws.FnExactIsConnectedRack': WHATEVER THE INPUT: true; the input reads as it did. -/
def fnExactIsConnectedRackSpec : ChangeSpec := { name := "fnExactIsConnectedRack", fn := fun _ => fun
  | [d] => { results := [.lit (.bool true)], args := [d] }
  | _ => none }
def fnExactIsConnectedRackRow : OpenClaim := { program := "ytkagfjofjbpfeaa", sum := "162c47532c690c0e61d2b54bb8391a1105ab572ae10543cd5d10199a1356bbd4", func := "loop.example/g01119/laws.FnExactIsConnectedRack", spec := "fnExactIsConnectedRack", unfollowed := true, recurses := true, plainKeys := false, apart := false }
def FnExactIsConnectedRackSaid : Prop := fnExactIsConnectedRackRow.holds Try.pinned (OpenSpec.ofChange fnExactIsConnectedRackSpec)

/-- ITS FALSE NEIGHBOUR: 'it returns false'. Refute it at one input. -/
def fnExactIsConnectedRackWrong : ChangeSpec := { name := "fnExactIsConnectedRack", fn := fun _ => fun
  | [d] => { results := [.lit (.bool false)], args := [d] }
  | _ => none }
def FnExactIsConnectedRackWrongFalsely : Prop := fnExactIsConnectedRackRow.holds Try.pinned (OpenSpec.ofChange fnExactIsConnectedRackWrong)

/-- 'laws.FnExactIsPairMap': WHATEVER THE INPUT: true; the input reads as it did. -/
def fnExactIsPairMapSpec : ChangeSpec := { name := "fnExactIsPairMap", fn := fun _ => fun
  | [d] => { results := [.lit (.bool true)], args := [d] }
  | _ => none }
def fnExactIsPairMapRow : OpenClaim := { program := "ytkagfjofjbpfeaa", sum := "162c47532c690c0e61d2b54bb8391a1105ab572ae10543cd5d10199a1356bbd4", func := "loop.example/g01119/laws.FnExactIsPairMap", spec := "fnExactIsPairMap", plainKeys := false, apart := false }
def FnExactIsPairMapSaid : Prop := fnExactIsPairMapRow.holds Try.pinned (OpenSpec.ofChange fnExactIsPairMapSpec)

/-- ITS FALSE NEIGHBOUR: 'it returns false'. Refute it at one input. -/
def fnExactIsPairMapWrong : ChangeSpec := { name := "fnExactIsPairMap", fn := fun _ => fun
  | [d] => { results := [.lit (.bool false)], args := [d] }
  | _ => none }
def FnExactIsPairMapWrongFalsely : Prop := fnExactIsPairMapRow.holds Try.pinned (OpenSpec.ofChange fnExactIsPairMapWrong)

/-- 'laws.FnExactApplyPair': WHATEVER THE INPUT: true; the input reads as it did. -/
def fnExactApplyPairSpec : ChangeSpec := { name := "fnExactApplyPair", fn := fun _ => fun
  | [d1, d2, d3] => { results := [.lit (.bool true)], args := [d1, d2, d3] }
  | _ => none }
def fnExactApplyPairRow : OpenClaim := { program := "ytkagfjofjbpfeaa", sum := "162c47532c690c0e61d2b54bb8391a1105ab572ae10543cd5d10199a1356bbd4", func := "loop.example/g01119/laws.FnExactApplyPair", spec := "fnExactApplyPair", plainKeys := false, apart := false }
def FnExactApplyPairSaid : Prop := fnExactApplyPairRow.holds Try.pinned (OpenSpec.ofChange fnExactApplyPairSpec)

/-- ITS FALSE NEIGHBOUR: 'it returns false'. Refute it at one input. -/
def fnExactApplyPairWrong : ChangeSpec := { name := "fnExactApplyPair", fn := fun _ => fun
  | [d1, d2, d3] => { results := [.lit (.bool false)], args := [d1, d2, d3] }
  | _ => none }
def FnExactApplyPairWrongFalsely : Prop := fnExactApplyPairRow.holds Try.pinned (OpenSpec.ofChange fnExactApplyPairWrong)

/- THE SECOND FORM. 'bulk': how many values and letters a reading holds, each counted each time it is reached (what is shared counts as often as it is met; a slice's spare places count too). A statement '..UptoSaid' is the law's where the arguments, and the package variables that the reading takes, are together of bulk at most 1048576: NARROWER than '..Said'. Prove '..Said' where nothing that the law and all that it calls make is longer than what came in: it says more and counts as full. Else prove '..UptoSaid'. A law counts once. -/
mutual
def uptoBulk {H : Type} : DataW H → Nat
  | .lit (.string bytes) => bytes.length + 1
  | .lit _ => 1
  | .nil => 1
  | .ptr d => uptoBulk d + 1
  | .slice elems spare => uptoBulkAll elems + uptoBulkAll spare + 1
  | .agg parts => uptoBulkAll parts + 1
  | .iface _ d => uptoBulk d + 1
  | .map entries => uptoBulkEntries entries + 1
  | .held _ => 1
def uptoBulkAll {H : Type} : List (DataW H) → Nat
  | [] => 0
  | d :: r => uptoBulk d + uptoBulkAll r
def uptoBulkEntries {H : Type} : List (Lit × DataW H) → Nat
  | [] => 0
  | x :: r => uptoBulkEntry x + uptoBulkEntries r
def uptoBulkEntry {H : Type} : Lit × DataW H → Nat
  | (.string bytes, d) => bytes.length + uptoBulk d + 1
  | (_, d) => uptoBulk d + 1
 end
def uptoSmall : (H : Type) → List (DataW H) → Bool := fun _ ds => decide (uptoBulkAll ds ≤ 1048576)
def OpenSpec.upto (s : _root_.Go.ChangeSpec) : _root_.Go.OpenSpec := { _root_.Go.OpenSpec.ofChange s with cond := some uptoSmall }

/-- 'laws.FnExactIsTable', WHERE WHAT IT READS IS OF BULK AT MOST 1048576: true; the input reads as it did. -/
def fnExactIsTableUptoRow : OpenClaim := { program := "ytkagfjofjbpfeaa", sum := "162c47532c690c0e61d2b54bb8391a1105ab572ae10543cd5d10199a1356bbd4", func := "loop.example/g01119/laws.FnExactIsTable", spec := "fnExactIsTable", plainKeys := false, apart := false, narrowed := true }
def FnExactIsTableUptoSaid : Prop := fnExactIsTableUptoRow.holds Try.pinned (OpenSpec.upto fnExactIsTableSpec)

/-- 'laws.FnExactHasPermutationRows', WHERE WHAT IT READS IS OF BULK AT MOST 1048576: true; the input reads as it did. -/
def fnExactHasPermutationRowsUptoRow : OpenClaim := { program := "ytkagfjofjbpfeaa", sum := "162c47532c690c0e61d2b54bb8391a1105ab572ae10543cd5d10199a1356bbd4", func := "loop.example/g01119/laws.FnExactHasPermutationRows", spec := "fnExactHasPermutationRows", plainKeys := false, apart := false, narrowed := true }
def FnExactHasPermutationRowsUptoSaid : Prop := fnExactHasPermutationRowsUptoRow.holds Try.pinned (OpenSpec.upto fnExactHasPermutationRowsSpec)

/-- 'laws.FnExactIsLatin', WHERE WHAT IT READS IS OF BULK AT MOST 1048576: true; the input reads as it did. -/
def fnExactIsLatinUptoRow : OpenClaim := { program := "ytkagfjofjbpfeaa", sum := "162c47532c690c0e61d2b54bb8391a1105ab572ae10543cd5d10199a1356bbd4", func := "loop.example/g01119/laws.FnExactIsLatin", spec := "fnExactIsLatin", plainKeys := false, apart := false, narrowed := true }
def FnExactIsLatinUptoSaid : Prop := fnExactIsLatinUptoRow.holds Try.pinned (OpenSpec.upto fnExactIsLatinSpec)

/-- 'laws.FnExactTransposeTable', WHERE WHAT IT READS IS OF BULK AT MOST 1048576: true; the input reads as it did. -/
def fnExactTransposeTableUptoRow : OpenClaim := { program := "ytkagfjofjbpfeaa", sum := "162c47532c690c0e61d2b54bb8391a1105ab572ae10543cd5d10199a1356bbd4", func := "loop.example/g01119/laws.FnExactTransposeTable", spec := "fnExactTransposeTable", plainKeys := false, apart := false, narrowed := true }
def FnExactTransposeTableUptoSaid : Prop := fnExactTransposeTableUptoRow.holds Try.pinned (OpenSpec.upto fnExactTransposeTableSpec)

/-- 'laws.FnExactRenameTable', WHERE WHAT IT READS IS OF BULK AT MOST 1048576: true; the input reads as it did. -/
def fnExactRenameTableUptoRow : OpenClaim := { program := "ytkagfjofjbpfeaa", sum := "162c47532c690c0e61d2b54bb8391a1105ab572ae10543cd5d10199a1356bbd4", func := "loop.example/g01119/laws.FnExactRenameTable", spec := "fnExactRenameTable", plainKeys := false, apart := false, narrowed := true }
def FnExactRenameTableUptoSaid : Prop := fnExactRenameTableUptoRow.holds Try.pinned (OpenSpec.upto fnExactRenameTableSpec)

/-- 'laws.FnExactLeastTable', WHERE WHAT IT READS IS OF BULK AT MOST 1048576: true; the input reads as it did. -/
def fnExactLeastTableUptoRow : OpenClaim := { program := "ytkagfjofjbpfeaa", sum := "162c47532c690c0e61d2b54bb8391a1105ab572ae10543cd5d10199a1356bbd4", func := "loop.example/g01119/laws.FnExactLeastTable", spec := "fnExactLeastTable", unfollowed := true, recurses := true, plainKeys := false, apart := false, narrowed := true }
def FnExactLeastTableUptoSaid : Prop := fnExactLeastTableUptoRow.holds Try.pinned (OpenSpec.upto fnExactLeastTableSpec)

/-- 'laws.FnExactTableText', WHERE WHAT IT READS IS OF BULK AT MOST 1048576: true; the input reads as it did. -/
def fnExactTableTextUptoRow : OpenClaim := { program := "ytkagfjofjbpfeaa", sum := "162c47532c690c0e61d2b54bb8391a1105ab572ae10543cd5d10199a1356bbd4", func := "loop.example/g01119/laws.FnExactTableText", spec := "fnExactTableText", inPlace := ["internal/abi.NoEscape", "internal/bytealg.MakeNoZero"], plainKeys := false, apart := false, narrowed := true }
def FnExactTableTextUptoSaid : Prop := fnExactTableTextUptoRow.holds Try.pinned (OpenSpec.upto fnExactTableTextSpec)

/-- 'laws.FnExactGuitarMap', WHERE WHAT IT READS IS OF BULK AT MOST 1048576: true; the input reads as it did. -/
def fnExactGuitarMapUptoRow : OpenClaim := { program := "ytkagfjofjbpfeaa", sum := "162c47532c690c0e61d2b54bb8391a1105ab572ae10543cd5d10199a1356bbd4", func := "loop.example/g01119/laws.FnExactGuitarMap", spec := "fnExactGuitarMap", unfollowed := true, recurses := true, plainKeys := false, apart := false, narrowed := true }
def FnExactGuitarMapUptoSaid : Prop := fnExactGuitarMapUptoRow.holds Try.pinned (OpenSpec.upto fnExactGuitarMapSpec)

/-- 'laws.FnExactRackOrbits', WHERE WHAT IT READS IS OF BULK AT MOST 1048576: true; the input reads as it did. -/
def fnExactRackOrbitsUptoRow : OpenClaim := { program := "ytkagfjofjbpfeaa", sum := "162c47532c690c0e61d2b54bb8391a1105ab572ae10543cd5d10199a1356bbd4", func := "loop.example/g01119/laws.FnExactRackOrbits", spec := "fnExactRackOrbits", unfollowed := true, recurses := true, plainKeys := false, apart := false, narrowed := true }
def FnExactRackOrbitsUptoSaid : Prop := fnExactRackOrbitsUptoRow.holds Try.pinned (OpenSpec.upto fnExactRackOrbitsSpec)

/-- 'laws.FnExactIsConnectedRack', WHERE WHAT IT READS IS OF BULK AT MOST 1048576: true; the input reads as it did. -/
def fnExactIsConnectedRackUptoRow : OpenClaim := { program := "ytkagfjofjbpfeaa", sum := "162c47532c690c0e61d2b54bb8391a1105ab572ae10543cd5d10199a1356bbd4", func := "loop.example/g01119/laws.FnExactIsConnectedRack", spec := "fnExactIsConnectedRack", unfollowed := true, recurses := true, plainKeys := false, apart := false, narrowed := true }
def FnExactIsConnectedRackUptoSaid : Prop := fnExactIsConnectedRackUptoRow.holds Try.pinned (OpenSpec.upto fnExactIsConnectedRackSpec)

/-- 'laws.FnExactIsPairMap', WHERE WHAT IT READS IS OF BULK AT MOST 1048576: true; the input reads as it did. -/
def fnExactIsPairMapUptoRow : OpenClaim := { program := "ytkagfjofjbpfeaa", sum := "162c47532c690c0e61d2b54bb8391a1105ab572ae10543cd5d10199a1356bbd4", func := "loop.example/g01119/laws.FnExactIsPairMap", spec := "fnExactIsPairMap", plainKeys := false, apart := false, narrowed := true }
def FnExactIsPairMapUptoSaid : Prop := fnExactIsPairMapUptoRow.holds Try.pinned (OpenSpec.upto fnExactIsPairMapSpec)

/-- 'laws.FnExactApplyPair', WHERE WHAT IT READS IS OF BULK AT MOST 1048576: true; the input reads as it did. -/
def fnExactApplyPairUptoRow : OpenClaim := { program := "ytkagfjofjbpfeaa", sum := "162c47532c690c0e61d2b54bb8391a1105ab572ae10543cd5d10199a1356bbd4", func := "loop.example/g01119/laws.FnExactApplyPair", spec := "fnExactApplyPair", plainKeys := false, apart := false, narrowed := true }
def FnExactApplyPairUptoSaid : Prop := fnExactApplyPairUptoRow.holds Try.pinned (OpenSpec.upto fnExactApplyPairSpec)

end Rows
end Go.Proofs.Ytkagfjofjbpfeaa
