/-
  No cell of these rows narrows 'for every input' (looked for: loops, veiled, ifaces, maps, wideKeys, modest, calm, conditions, laid).
  DERIVED. THE GIVEN ROWS OF THIS SEAT. 10 by the template 'for every input the law returns true; each argument reads behind the call as it read before'; 0 by the template 'total and deterministic' (their statements: YtelildgngkajnaaTotals.lean).
  GIVEN WITH THE SEED: the statements are not yours to turn. If you find one false, say at which input.
  Laid BY PROGRAM, IN A SANDBOX (cutbox-rows.mjs): the forced cells as the released guide's own fill.sh prints them over the translation a59c7d464bab38e2… (all of the seat's roots in one cut). By AI agents, Wed Nov 11 2026. No macro, syntax, notation, axiom, sorry.
-/
import Derived.Test.YtelildgngkajnaaChecked
import GoSem.Claim
import GoSem.ClaimJoined
import GoSem.ClaimMapViews
import Derived.JoinedTies
import Derived.KernelRfl
namespace Go.Proofs.Ytelildgngkajnaa
/- THE CELL 'sum', in the pinned program and in every row, IS THE sha256 OF THE DUMP (.gsa) THAT YtelildgngkajnaaProg.lean LOADS. Nothing in Lean hashes anything: it is a label: what it is worth is what the hold of that sum in a sandbox is worth. -/
noncomputable def Try.pinned : Pinned := { name := "ytelildgngkajnaa", sum := "a59c7d464bab38e291f51531333f946de4e71004b581f6e3980a5b6a370aa8a5", checked := Try.checked }
namespace Rows
def none {H : Type} : Left H := { results := [], args := [] }

/-- 'laws.FnExactDihedralGroup': WHATEVER THE INPUT: true; the input reads as it did. -/
def fnExactDihedralGroupSpec : ChangeSpec := { name := "fnExactDihedralGroup", fn := fun _ => fun
  | [d] => { results := [.lit (.bool true)], args := [d] }
  | _ => none }
def fnExactDihedralGroupRow : OpenClaim := { program := "ytelildgngkajnaa", sum := "a59c7d464bab38e291f51531333f946de4e71004b581f6e3980a5b6a370aa8a5", func := "loop.example/g01119/laws.FnExactDihedralGroup", spec := "fnExactDihedralGroup", unfollowed := true, recurses := true, apart := false }
def FnExactDihedralGroupSaid : Prop := fnExactDihedralGroupRow.holds Try.pinned (OpenSpec.ofChange fnExactDihedralGroupSpec)

/-- ITS FALSE NEIGHBOUR: 'it returns false'. Refute it at one input. -/
def fnExactDihedralGroupWrong : ChangeSpec := { name := "fnExactDihedralGroup", fn := fun _ => fun
  | [d] => { results := [.lit (.bool false)], args := [d] }
  | _ => none }
def FnExactDihedralGroupWrongFalsely : Prop := fnExactDihedralGroupRow.holds Try.pinned (OpenSpec.ofChange fnExactDihedralGroupWrong)

/-- 'laws.FnExactDicyclicGroup': WHATEVER THE INPUT: true; the input reads as it did. -/
def fnExactDicyclicGroupSpec : ChangeSpec := { name := "fnExactDicyclicGroup", fn := fun _ => fun
  | [d] => { results := [.lit (.bool true)], args := [d] }
  | _ => none }
def fnExactDicyclicGroupRow : OpenClaim := { program := "ytelildgngkajnaa", sum := "a59c7d464bab38e291f51531333f946de4e71004b581f6e3980a5b6a370aa8a5", func := "loop.example/g01119/laws.FnExactDicyclicGroup", spec := "fnExactDicyclicGroup", unfollowed := true, recurses := true, apart := false }
def FnExactDicyclicGroupSaid : Prop := fnExactDicyclicGroupRow.holds Try.pinned (OpenSpec.ofChange fnExactDicyclicGroupSpec)

/-- ITS FALSE NEIGHBOUR: 'it returns false'. Refute it at one input. -/
def fnExactDicyclicGroupWrong : ChangeSpec := { name := "fnExactDicyclicGroup", fn := fun _ => fun
  | [d] => { results := [.lit (.bool false)], args := [d] }
  | _ => none }
def FnExactDicyclicGroupWrongFalsely : Prop := fnExactDicyclicGroupRow.holds Try.pinned (OpenSpec.ofChange fnExactDicyclicGroupWrong)

/-- 'laws.FnExactProductGroup': WHATEVER THE INPUT: true; the input reads as it did. -/
def fnExactProductGroupSpec : ChangeSpec := { name := "fnExactProductGroup", fn := fun _ => fun
  | [d1, d2] => { results := [.lit (.bool true)], args := [d1, d2] }
  | _ => none }
def fnExactProductGroupRow : OpenClaim := { program := "ytelildgngkajnaa", sum := "a59c7d464bab38e291f51531333f946de4e71004b581f6e3980a5b6a370aa8a5", func := "loop.example/g01119/laws.FnExactProductGroup", spec := "fnExactProductGroup", unfollowed := true, recurses := true, apart := false }
def FnExactProductGroupSaid : Prop := fnExactProductGroupRow.holds Try.pinned (OpenSpec.ofChange fnExactProductGroupSpec)

/-- ITS FALSE NEIGHBOUR: 'it returns false'. Refute it at one input. -/
def fnExactProductGroupWrong : ChangeSpec := { name := "fnExactProductGroup", fn := fun _ => fun
  | [d1, d2] => { results := [.lit (.bool false)], args := [d1, d2] }
  | _ => none }
def FnExactProductGroupWrongFalsely : Prop := fnExactProductGroupRow.holds Try.pinned (OpenSpec.ofChange fnExactProductGroupWrong)

/-- 'laws.FnExactGroupOfPermutations': WHATEVER THE INPUT: true; the input reads as it did. -/
def fnExactGroupOfPermutationsSpec : ChangeSpec := { name := "fnExactGroupOfPermutations", fn := fun _ => fun
  | [d1, d2] => { results := [.lit (.bool true)], args := [d1, d2] }
  | _ => none }
def fnExactGroupOfPermutationsRow : OpenClaim := { program := "ytelildgngkajnaa", sum := "a59c7d464bab38e291f51531333f946de4e71004b581f6e3980a5b6a370aa8a5", func := "loop.example/g01119/laws.FnExactGroupOfPermutations", spec := "fnExactGroupOfPermutations", unfollowed := true, recurses := true, apart := false }
def FnExactGroupOfPermutationsSaid : Prop := fnExactGroupOfPermutationsRow.holds Try.pinned (OpenSpec.ofChange fnExactGroupOfPermutationsSpec)

/-- ITS FALSE NEIGHBOUR: 'it returns false'. Refute it at one input. -/
def fnExactGroupOfPermutationsWrong : ChangeSpec := { name := "fnExactGroupOfPermutations", fn := fun _ => fun
  | [d1, d2] => { results := [.lit (.bool false)], args := [d1, d2] }
  | _ => none }
def FnExactGroupOfPermutationsWrongFalsely : Prop := fnExactGroupOfPermutationsRow.holds Try.pinned (OpenSpec.ofChange fnExactGroupOfPermutationsWrong)

/-- 'laws.FnExactNamedGroups': WHATEVER THE INPUT: true; the input reads as it did. -/
def fnExactNamedGroupsSpec : ChangeSpec := { name := "fnExactNamedGroups", fn := fun _ => fun
  | [d] => { results := [.lit (.bool true)], args := [d] }
  | _ => none }
def fnExactNamedGroupsRow : OpenClaim := { program := "ytelildgngkajnaa", sum := "a59c7d464bab38e291f51531333f946de4e71004b581f6e3980a5b6a370aa8a5", func := "loop.example/g01119/laws.FnExactNamedGroups", spec := "fnExactNamedGroups", unfollowed := true, recurses := true, apart := false }
def FnExactNamedGroupsSaid : Prop := fnExactNamedGroupsRow.holds Try.pinned (OpenSpec.ofChange fnExactNamedGroupsSpec)

/-- ITS FALSE NEIGHBOUR: 'it returns false'. Refute it at one input. -/
def fnExactNamedGroupsWrong : ChangeSpec := { name := "fnExactNamedGroups", fn := fun _ => fun
  | [d] => { results := [.lit (.bool false)], args := [d] }
  | _ => none }
def FnExactNamedGroupsWrongFalsely : Prop := fnExactNamedGroupsRow.holds Try.pinned (OpenSpec.ofChange fnExactNamedGroupsWrong)

/-- 'laws.FnExactGroupAutomorphisms': WHATEVER THE INPUT: true; the input reads as it did. -/
def fnExactGroupAutomorphismsSpec : ChangeSpec := { name := "fnExactGroupAutomorphisms", fn := fun _ => fun
  | [d] => { results := [.lit (.bool true)], args := [d] }
  | _ => none }
def fnExactGroupAutomorphismsRow : OpenClaim := { program := "ytelildgngkajnaa", sum := "a59c7d464bab38e291f51531333f946de4e71004b581f6e3980a5b6a370aa8a5", func := "loop.example/g01119/laws.FnExactGroupAutomorphisms", spec := "fnExactGroupAutomorphisms", unfollowed := true, recurses := true, apart := false }
def FnExactGroupAutomorphismsSaid : Prop := fnExactGroupAutomorphismsRow.holds Try.pinned (OpenSpec.ofChange fnExactGroupAutomorphismsSpec)

/-- ITS FALSE NEIGHBOUR: 'it returns false'. Refute it at one input. -/
def fnExactGroupAutomorphismsWrong : ChangeSpec := { name := "fnExactGroupAutomorphisms", fn := fun _ => fun
  | [d] => { results := [.lit (.bool false)], args := [d] }
  | _ => none }
def FnExactGroupAutomorphismsWrongFalsely : Prop := fnExactGroupAutomorphismsRow.holds Try.pinned (OpenSpec.ofChange fnExactGroupAutomorphismsWrong)

/-- 'laws.FnExactGroupIsomorphism': WHATEVER THE INPUT: true; the input reads as it did. -/
def fnExactGroupIsomorphismSpec : ChangeSpec := { name := "fnExactGroupIsomorphism", fn := fun _ => fun
  | [d1, d2] => { results := [.lit (.bool true)], args := [d1, d2] }
  | _ => none }
def fnExactGroupIsomorphismRow : OpenClaim := { program := "ytelildgngkajnaa", sum := "a59c7d464bab38e291f51531333f946de4e71004b581f6e3980a5b6a370aa8a5", func := "loop.example/g01119/laws.FnExactGroupIsomorphism", spec := "fnExactGroupIsomorphism", unfollowed := true, recurses := true, apart := false }
def FnExactGroupIsomorphismSaid : Prop := fnExactGroupIsomorphismRow.holds Try.pinned (OpenSpec.ofChange fnExactGroupIsomorphismSpec)

/-- ITS FALSE NEIGHBOUR: 'it returns false'. Refute it at one input. -/
def fnExactGroupIsomorphismWrong : ChangeSpec := { name := "fnExactGroupIsomorphism", fn := fun _ => fun
  | [d1, d2] => { results := [.lit (.bool false)], args := [d1, d2] }
  | _ => none }
def FnExactGroupIsomorphismWrongFalsely : Prop := fnExactGroupIsomorphismRow.holds Try.pinned (OpenSpec.ofChange fnExactGroupIsomorphismWrong)

/-- 'laws.FnExactCoreQuandle': WHATEVER THE INPUT: true; the input reads as it did. -/
def fnExactCoreQuandleSpec : ChangeSpec := { name := "fnExactCoreQuandle", fn := fun _ => fun
  | [d] => { results := [.lit (.bool true)], args := [d] }
  | _ => none }
def fnExactCoreQuandleRow : OpenClaim := { program := "ytelildgngkajnaa", sum := "a59c7d464bab38e291f51531333f946de4e71004b581f6e3980a5b6a370aa8a5", func := "loop.example/g01119/laws.FnExactCoreQuandle", spec := "fnExactCoreQuandle", unfollowed := true, recurses := true, apart := false }
def FnExactCoreQuandleSaid : Prop := fnExactCoreQuandleRow.holds Try.pinned (OpenSpec.ofChange fnExactCoreQuandleSpec)

/-- ITS FALSE NEIGHBOUR: 'it returns false'. Refute it at one input. -/
def fnExactCoreQuandleWrong : ChangeSpec := { name := "fnExactCoreQuandle", fn := fun _ => fun
  | [d] => { results := [.lit (.bool false)], args := [d] }
  | _ => none }
def FnExactCoreQuandleWrongFalsely : Prop := fnExactCoreQuandleRow.holds Try.pinned (OpenSpec.ofChange fnExactCoreQuandleWrong)

/-- 'laws.FnExactSubrackFrom': WHATEVER THE INPUT: true; the input reads as it did. -/
def fnExactSubrackFromSpec : ChangeSpec := { name := "fnExactSubrackFrom", fn := fun _ => fun
  | [d1, d2] => { results := [.lit (.bool true)], args := [d1, d2] }
  | _ => none }
def fnExactSubrackFromRow : OpenClaim := { program := "ytelildgngkajnaa", sum := "a59c7d464bab38e291f51531333f946de4e71004b581f6e3980a5b6a370aa8a5", func := "loop.example/g01119/laws.FnExactSubrackFrom", spec := "fnExactSubrackFrom", unfollowed := true, recurses := true, apart := false }
def FnExactSubrackFromSaid : Prop := fnExactSubrackFromRow.holds Try.pinned (OpenSpec.ofChange fnExactSubrackFromSpec)

/-- ITS FALSE NEIGHBOUR: 'it returns false'. Refute it at one input. -/
def fnExactSubrackFromWrong : ChangeSpec := { name := "fnExactSubrackFrom", fn := fun _ => fun
  | [d1, d2] => { results := [.lit (.bool false)], args := [d1, d2] }
  | _ => none }
def FnExactSubrackFromWrongFalsely : Prop := fnExactSubrackFromRow.holds Try.pinned (OpenSpec.ofChange fnExactSubrackFromWrong)

/-- 'laws.FnExactRestrictRack': WHATEVER THE INPUT: true; the input reads as it did. -/
def fnExactRestrictRackSpec : ChangeSpec := { name := "fnExactRestrictRack", fn := fun _ => fun
  | [d1, d2] => { results := [.lit (.bool true)], args := [d1, d2] }
  | _ => none }
def fnExactRestrictRackRow : OpenClaim := { program := "ytelildgngkajnaa", sum := "a59c7d464bab38e291f51531333f946de4e71004b581f6e3980a5b6a370aa8a5", func := "loop.example/g01119/laws.FnExactRestrictRack", spec := "fnExactRestrictRack", unfollowed := true, recurses := true, apart := false }
def FnExactRestrictRackSaid : Prop := fnExactRestrictRackRow.holds Try.pinned (OpenSpec.ofChange fnExactRestrictRackSpec)

/-- ITS FALSE NEIGHBOUR: 'it returns false'. Refute it at one input. -/
def fnExactRestrictRackWrong : ChangeSpec := { name := "fnExactRestrictRack", fn := fun _ => fun
  | [d1, d2] => { results := [.lit (.bool false)], args := [d1, d2] }
  | _ => none }
def FnExactRestrictRackWrongFalsely : Prop := fnExactRestrictRackRow.holds Try.pinned (OpenSpec.ofChange fnExactRestrictRackWrong)

/- THE SECOND FORM. 'bulk': how many values and letters a reading holds, each counted each time it is reached (what is shared counts as often as it is met; a slice's spare places count too). A statement '..UptoSaid' is the law's where the arguments, and the package variables that the reading takes, are together of bulk at most 1048576: NARROWER than '..Said'. Prove '..Said' where nothing that the law and all that it calls make is longer than what came in: it says more and counts as full. Else prove '..UptoSaid'. A law counts once. -/
mutual
def uptoBulk {H : Type} : DataW H → Nat
  | .lit (.string bytes) => bytes.length + 1
  | .lit _ => 1
  | .nil => 1
  | .ptr d => uptoBulk d + 1
  | .slice elems spare => uptoBulkAll elems + uptoBulkAll spare + 1
  | .agg parts => uptoBulkAll parts + 1
  | .iface _ d => uptoBulk d + 1
  | .map entries => uptoBulkEntries entries + 1
  | .held _ => 1
def uptoBulkAll {H : Type} : List (DataW H) → Nat
  | [] => 0
  | d :: r => uptoBulk d + uptoBulkAll r
def uptoBulkEntries {H : Type} : List (Lit × DataW H) → Nat
  | [] => 0
  | x :: r => uptoBulkEntry x + uptoBulkEntries r
def uptoBulkEntry {H : Type} : Lit × DataW H → Nat
  | (.string bytes, d) => bytes.length + uptoBulk d + 1
  | (_, d) => uptoBulk d + 1
 end
def uptoSmall : (H : Type) → List (DataW H) → Bool := fun _ ds => decide (uptoBulkAll ds ≤ 1048576)
def OpenSpec.upto (s : _root_.Go.ChangeSpec) : _root_.Go.OpenSpec := { _root_.Go.OpenSpec.ofChange s with cond := some uptoSmall }

/-- 'laws.FnExactDihedralGroup', WHERE WHAT IT READS IS OF BULK AT MOST 1048576: true; the input reads as it did. -/
def fnExactDihedralGroupUptoRow : OpenClaim := { program := "ytelildgngkajnaa", sum := "a59c7d464bab38e291f51531333f946de4e71004b581f6e3980a5b6a370aa8a5", func := "loop.example/g01119/laws.FnExactDihedralGroup", spec := "fnExactDihedralGroup", unfollowed := true, recurses := true, apart := false, narrowed := true }
def FnExactDihedralGroupUptoSaid : Prop := fnExactDihedralGroupUptoRow.holds Try.pinned (OpenSpec.upto fnExactDihedralGroupSpec)

/-- 'laws.FnExactDicyclicGroup', WHERE WHAT IT READS IS OF BULK AT MOST 1048576: true; the input reads as it did. -/
def fnExactDicyclicGroupUptoRow : OpenClaim := { program := "ytelildgngkajnaa", sum := "a59c7d464bab38e291f51531333f946de4e71004b581f6e3980a5b6a370aa8a5", func := "loop.example/g01119/laws.FnExactDicyclicGroup", spec := "fnExactDicyclicGroup", unfollowed := true, recurses := true, apart := false, narrowed := true }
def FnExactDicyclicGroupUptoSaid : Prop := fnExactDicyclicGroupUptoRow.holds Try.pinned (OpenSpec.upto fnExactDicyclicGroupSpec)

/-- 'laws.FnExactProductGroup', WHERE WHAT IT READS IS OF BULK AT MOST 1048576: true; the input reads as it did. -/
def fnExactProductGroupUptoRow : OpenClaim := { program := "ytelildgngkajnaa", sum := "a59c7d464bab38e291f51531333f946de4e71004b581f6e3980a5b6a370aa8a5", func := "loop.example/g01119/laws.FnExactProductGroup", spec := "fnExactProductGroup", unfollowed := true, recurses := true, apart := false, narrowed := true }
def FnExactProductGroupUptoSaid : Prop := fnExactProductGroupUptoRow.holds Try.pinned (OpenSpec.upto fnExactProductGroupSpec)

/-- 'laws.FnExactGroupOfPermutations', WHERE WHAT IT READS IS OF BULK AT MOST 1048576: true; the input reads as it did. -/
def fnExactGroupOfPermutationsUptoRow : OpenClaim := { program := "ytelildgngkajnaa", sum := "a59c7d464bab38e291f51531333f946de4e71004b581f6e3980a5b6a370aa8a5", func := "loop.example/g01119/laws.FnExactGroupOfPermutations", spec := "fnExactGroupOfPermutations", unfollowed := true, recurses := true, apart := false, narrowed := true }
def FnExactGroupOfPermutationsUptoSaid : Prop := fnExactGroupOfPermutationsUptoRow.holds Try.pinned (OpenSpec.upto fnExactGroupOfPermutationsSpec)

/-- 'laws.FnExactNamedGroups', WHERE WHAT IT READS IS OF BULK AT MOST 1048576: true; the input reads as it did. -/
def fnExactNamedGroupsUptoRow : OpenClaim := { program := "ytelildgngkajnaa", sum := "a59c7d464bab38e291f51531333f946de4e71004b581f6e3980a5b6a370aa8a5", func := "loop.example/g01119/laws.FnExactNamedGroups", spec := "fnExactNamedGroups", unfollowed := true, recurses := true, apart := false, narrowed := true }
def FnExactNamedGroupsUptoSaid : Prop := fnExactNamedGroupsUptoRow.holds Try.pinned (OpenSpec.upto fnExactNamedGroupsSpec)

/-- 'laws.FnExactGroupAutomorphisms', WHERE WHAT IT READS IS OF BULK AT MOST 1048576: true; the input reads as it did. -/
def fnExactGroupAutomorphismsUptoRow : OpenClaim := { program := "ytelildgngkajnaa", sum := "a59c7d464bab38e291f51531333f946de4e71004b581f6e3980a5b6a370aa8a5", func := "loop.example/g01119/laws.FnExactGroupAutomorphisms", spec := "fnExactGroupAutomorphisms", unfollowed := true, recurses := true, apart := false, narrowed := true }
def FnExactGroupAutomorphismsUptoSaid : Prop := fnExactGroupAutomorphismsUptoRow.holds Try.pinned (OpenSpec.upto fnExactGroupAutomorphismsSpec)

/-- 'laws.FnExactGroupIsomorphism', WHERE WHAT IT READS IS OF BULK AT MOST 1048576: true; the input reads as it did. -/
def fnExactGroupIsomorphismUptoRow : OpenClaim := { program := "ytelildgngkajnaa", sum := "a59c7d464bab38e291f51531333f946de4e71004b581f6e3980a5b6a370aa8a5", func := "loop.example/g01119/laws.FnExactGroupIsomorphism", spec := "fnExactGroupIsomorphism", unfollowed := true, recurses := true, apart := false, narrowed := true }
def FnExactGroupIsomorphismUptoSaid : Prop := fnExactGroupIsomorphismUptoRow.holds Try.pinned (OpenSpec.upto fnExactGroupIsomorphismSpec)

/-- 'laws.FnExactCoreQuandle', WHERE WHAT IT READS IS OF BULK AT MOST 1048576: true; the input reads as it did. -/
def fnExactCoreQuandleUptoRow : OpenClaim := { program := "ytelildgngkajnaa", sum := "a59c7d464bab38e291f51531333f946de4e71004b581f6e3980a5b6a370aa8a5", func := "loop.example/g01119/laws.FnExactCoreQuandle", spec := "fnExactCoreQuandle", unfollowed := true, recurses := true, apart := false, narrowed := true }
def FnExactCoreQuandleUptoSaid : Prop := fnExactCoreQuandleUptoRow.holds Try.pinned (OpenSpec.upto fnExactCoreQuandleSpec)

/-- 'laws.FnExactSubrackFrom', WHERE WHAT IT READS IS OF BULK AT MOST 1048576: true; the input reads as it did. -/
def fnExactSubrackFromUptoRow : OpenClaim := { program := "ytelildgngkajnaa", sum := "a59c7d464bab38e291f51531333f946de4e71004b581f6e3980a5b6a370aa8a5", func := "loop.example/g01119/laws.FnExactSubrackFrom", spec := "fnExactSubrackFrom", unfollowed := true, recurses := true, apart := false, narrowed := true }
def FnExactSubrackFromUptoSaid : Prop := fnExactSubrackFromUptoRow.holds Try.pinned (OpenSpec.upto fnExactSubrackFromSpec)

/-- 'laws.FnExactRestrictRack', WHERE WHAT IT READS IS OF BULK AT MOST 1048576: true; the input reads as it did. -/
def fnExactRestrictRackUptoRow : OpenClaim := { program := "ytelildgngkajnaa", sum := "a59c7d464bab38e291f51531333f946de4e71004b581f6e3980a5b6a370aa8a5", func := "loop.example/g01119/laws.FnExactRestrictRack", spec := "fnExactRestrictRack", unfollowed := true, recurses := true, apart := false, narrowed := true }
def FnExactRestrictRackUptoSaid : Prop := fnExactRestrictRackUptoRow.holds Try.pinned (OpenSpec.upto fnExactRestrictRackSpec)

end Rows
end Go.Proofs.Ytelildgngkajnaa
