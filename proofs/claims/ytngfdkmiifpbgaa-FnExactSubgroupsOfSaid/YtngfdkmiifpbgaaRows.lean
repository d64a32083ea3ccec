/-
  No cell of these rows narrows 'for every input' (looked for: loops, veiled, ifaces, maps, wideKeys, modest, calm, conditions, laid).
  DERIVED. THE GIVEN ROWS OF THIS SEAT. 11 by the template 'for every input the law returns true; each argument reads behind the call as it read before'; 0 by the template 'total and deterministic' (their statements: YtngfdkmiifpbgaaTotals.lean).
  GIVEN WITH THE SEED: the statements are not yours to turn. If you find one false, say at which input.
  Laid BY PROGRAM, IN A SANDBOX (cutbox-rows.mjs): the forced cells as the released guide's own fill.sh prints them over the translation 5f32d05ae28617b6… (all of the seat's roots in one cut). By AI agents, Wed Nov 11 2026. No macro, syntax, notation, axiom, sorry.
-/
import Derived.Test.YtngfdkmiifpbgaaChecked
import GoSem.Claim
import GoSem.ClaimJoined
import GoSem.ClaimMapViews
import Derived.JoinedTies
import Derived.KernelRfl
namespace Go.Proofs.Ytngfdkmiifpbgaa
/- THE CELL 'sum', in the pinned program and in every row, IS THE sha256 OF THE DUMP (.gsa) THAT YtngfdkmiifpbgaaProg.lean LOADS. Nothing in Lean hashes anything: it is a label: what it is worth is what the hold of that sum in a sandbox is worth. -/
noncomputable def Try.pinned : Pinned := { name := "ytngfdkmiifpbgaa", sum := "5f32d05ae28617b6445d228cb6b89e569329190d3815d3023687aaf33d496bfe", checked := Try.checked }
namespace Rows
def none {H : Type} : Left H := { results := [], args := [] }

/-- 'laws.FnExactIsGroup': WHATEVER THE INPUT: true; the input reads as it did. -/
def fnExactIsGroupSpec : ChangeSpec := { name := "fnExactIsGroup", fn := fun _ => fun
  | [d] => { results := [.lit (.bool true)], args := [d] }
  | _ => none }
def fnExactIsGroupRow : OpenClaim := { program := "ytngfdkmiifpbgaa", sum := "5f32d05ae28617b6445d228cb6b89e569329190d3815d3023687aaf33d496bfe", func := "loop.example/g01119/laws.FnExactIsGroup", spec := "fnExactIsGroup", unfollowed := true, recurses := true, apart := false }
def FnExactIsGroupSaid : Prop := fnExactIsGroupRow.holds Try.pinned (OpenSpec.ofChange fnExactIsGroupSpec)

/-- ITS FALSE NEIGHBOUR: 'it returns false'. Refute it at one input. -/
def fnExactIsGroupWrong : ChangeSpec := { name := "fnExactIsGroup", fn := fun _ => fun
  | [d] => { results := [.lit (.bool false)], args := [d] }
  | _ => none }
def FnExactIsGroupWrongFalsely : Prop := fnExactIsGroupRow.holds Try.pinned (OpenSpec.ofChange fnExactIsGroupWrong)

/-- 'laws.FnExactInverseIn': WHATEVER THE INPUT: true; the input reads as it did. -/
def fnExactInverseInSpec : ChangeSpec := { name := "fnExactInverseIn", fn := fun _ => fun
  | [d1, d2] => { results := [.lit (.bool true)], args := [d1, d2] }
  | _ => none }
def fnExactInverseInRow : OpenClaim := { program := "ytngfdkmiifpbgaa", sum := "5f32d05ae28617b6445d228cb6b89e569329190d3815d3023687aaf33d496bfe", func := "loop.example/g01119/laws.FnExactInverseIn", spec := "fnExactInverseIn", unfollowed := true, recurses := true, apart := false }
def FnExactInverseInSaid : Prop := fnExactInverseInRow.holds Try.pinned (OpenSpec.ofChange fnExactInverseInSpec)

/-- ITS FALSE NEIGHBOUR: 'it returns false'. Refute it at one input. -/
def fnExactInverseInWrong : ChangeSpec := { name := "fnExactInverseIn", fn := fun _ => fun
  | [d1, d2] => { results := [.lit (.bool false)], args := [d1, d2] }
  | _ => none }
def FnExactInverseInWrongFalsely : Prop := fnExactInverseInRow.holds Try.pinned (OpenSpec.ofChange fnExactInverseInWrong)

/-- 'laws.FnExactOrderIn': WHATEVER THE INPUT: true; the input reads as it did. -/
def fnExactOrderInSpec : ChangeSpec := { name := "fnExactOrderIn", fn := fun _ => fun
  | [d1, d2] => { results := [.lit (.bool true)], args := [d1, d2] }
  | _ => none }
def fnExactOrderInRow : OpenClaim := { program := "ytngfdkmiifpbgaa", sum := "5f32d05ae28617b6445d228cb6b89e569329190d3815d3023687aaf33d496bfe", func := "loop.example/g01119/laws.FnExactOrderIn", spec := "fnExactOrderIn", unfollowed := true, recurses := true, apart := false }
def FnExactOrderInSaid : Prop := fnExactOrderInRow.holds Try.pinned (OpenSpec.ofChange fnExactOrderInSpec)

/-- ITS FALSE NEIGHBOUR: 'it returns false'. Refute it at one input. -/
def fnExactOrderInWrong : ChangeSpec := { name := "fnExactOrderIn", fn := fun _ => fun
  | [d1, d2] => { results := [.lit (.bool false)], args := [d1, d2] }
  | _ => none }
def FnExactOrderInWrongFalsely : Prop := fnExactOrderInRow.holds Try.pinned (OpenSpec.ofChange fnExactOrderInWrong)

/-- 'laws.FnExactCyclicGroup': WHATEVER THE INPUT: true; the input reads as it did. -/
def fnExactCyclicGroupSpec : ChangeSpec := { name := "fnExactCyclicGroup", fn := fun _ => fun
  | [d] => { results := [.lit (.bool true)], args := [d] }
  | _ => none }
def fnExactCyclicGroupRow : OpenClaim := { program := "ytngfdkmiifpbgaa", sum := "5f32d05ae28617b6445d228cb6b89e569329190d3815d3023687aaf33d496bfe", func := "loop.example/g01119/laws.FnExactCyclicGroup", spec := "fnExactCyclicGroup", unfollowed := true, recurses := true, apart := false }
def FnExactCyclicGroupSaid : Prop := fnExactCyclicGroupRow.holds Try.pinned (OpenSpec.ofChange fnExactCyclicGroupSpec)

/-- ITS FALSE NEIGHBOUR: 'it returns false'. Refute it at one input. -/
def fnExactCyclicGroupWrong : ChangeSpec := { name := "fnExactCyclicGroup", fn := fun _ => fun
  | [d] => { results := [.lit (.bool false)], args := [d] }
  | _ => none }
def FnExactCyclicGroupWrongFalsely : Prop := fnExactCyclicGroupRow.holds Try.pinned (OpenSpec.ofChange fnExactCyclicGroupWrong)

/-- 'laws.FnExactOppositeGroup': WHATEVER THE INPUT: true; the input reads as it did. -/
def fnExactOppositeGroupSpec : ChangeSpec := { name := "fnExactOppositeGroup", fn := fun _ => fun
  | [d] => { results := [.lit (.bool true)], args := [d] }
  | _ => none }
def fnExactOppositeGroupRow : OpenClaim := { program := "ytngfdkmiifpbgaa", sum := "5f32d05ae28617b6445d228cb6b89e569329190d3815d3023687aaf33d496bfe", func := "loop.example/g01119/laws.FnExactOppositeGroup", spec := "fnExactOppositeGroup", unfollowed := true, recurses := true, apart := false }
def FnExactOppositeGroupSaid : Prop := fnExactOppositeGroupRow.holds Try.pinned (OpenSpec.ofChange fnExactOppositeGroupSpec)

/-- ITS FALSE NEIGHBOUR: 'it returns false'. Refute it at one input. -/
def fnExactOppositeGroupWrong : ChangeSpec := { name := "fnExactOppositeGroup", fn := fun _ => fun
  | [d] => { results := [.lit (.bool false)], args := [d] }
  | _ => none }
def FnExactOppositeGroupWrongFalsely : Prop := fnExactOppositeGroupRow.holds Try.pinned (OpenSpec.ofChange fnExactOppositeGroupWrong)

/-- 'laws.FnExactIsAbelianGroup': WHATEVER THE INPUT: true; the input reads as it did. -/
def fnExactIsAbelianGroupSpec : ChangeSpec := { name := "fnExactIsAbelianGroup", fn := fun _ => fun
  | [d] => { results := [.lit (.bool true)], args := [d] }
  | _ => none }
def fnExactIsAbelianGroupRow : OpenClaim := { program := "ytngfdkmiifpbgaa", sum := "5f32d05ae28617b6445d228cb6b89e569329190d3815d3023687aaf33d496bfe", func := "loop.example/g01119/laws.FnExactIsAbelianGroup", spec := "fnExactIsAbelianGroup", unfollowed := true, recurses := true, apart := false }
def FnExactIsAbelianGroupSaid : Prop := fnExactIsAbelianGroupRow.holds Try.pinned (OpenSpec.ofChange fnExactIsAbelianGroupSpec)

/-- ITS FALSE NEIGHBOUR: 'it returns false'. Refute it at one input. -/
def fnExactIsAbelianGroupWrong : ChangeSpec := { name := "fnExactIsAbelianGroup", fn := fun _ => fun
  | [d] => { results := [.lit (.bool false)], args := [d] }
  | _ => none }
def FnExactIsAbelianGroupWrongFalsely : Prop := fnExactIsAbelianGroupRow.holds Try.pinned (OpenSpec.ofChange fnExactIsAbelianGroupWrong)

/-- 'laws.FnExactCenterOf': WHATEVER THE INPUT: true; the input reads as it did. -/
def fnExactCenterOfSpec : ChangeSpec := { name := "fnExactCenterOf", fn := fun _ => fun
  | [d] => { results := [.lit (.bool true)], args := [d] }
  | _ => none }
def fnExactCenterOfRow : OpenClaim := { program := "ytngfdkmiifpbgaa", sum := "5f32d05ae28617b6445d228cb6b89e569329190d3815d3023687aaf33d496bfe", func := "loop.example/g01119/laws.FnExactCenterOf", spec := "fnExactCenterOf", unfollowed := true, recurses := true, apart := false }
def FnExactCenterOfSaid : Prop := fnExactCenterOfRow.holds Try.pinned (OpenSpec.ofChange fnExactCenterOfSpec)

/-- ITS FALSE NEIGHBOUR: 'it returns false'. Refute it at one input. -/
def fnExactCenterOfWrong : ChangeSpec := { name := "fnExactCenterOf", fn := fun _ => fun
  | [d] => { results := [.lit (.bool false)], args := [d] }
  | _ => none }
def FnExactCenterOfWrongFalsely : Prop := fnExactCenterOfRow.holds Try.pinned (OpenSpec.ofChange fnExactCenterOfWrong)

/-- 'laws.FnExactSubgroupsOf': WHATEVER THE INPUT: true; the input reads as it did. -/
def fnExactSubgroupsOfSpec : ChangeSpec := { name := "fnExactSubgroupsOf", fn := fun _ => fun
  | [d] => { results := [.lit (.bool true)], args := [d] }
  | _ => none }
def fnExactSubgroupsOfRow : OpenClaim := { program := "ytngfdkmiifpbgaa", sum := "5f32d05ae28617b6445d228cb6b89e569329190d3815d3023687aaf33d496bfe", func := "loop.example/g01119/laws.FnExactSubgroupsOf", spec := "fnExactSubgroupsOf", unfollowed := true, recurses := true, apart := false }
def FnExactSubgroupsOfSaid : Prop := fnExactSubgroupsOfRow.holds Try.pinned (OpenSpec.ofChange fnExactSubgroupsOfSpec)

/-- ITS FALSE NEIGHBOUR: 'it returns false'. Refute it at one input. -/
def fnExactSubgroupsOfWrong : ChangeSpec := { name := "fnExactSubgroupsOf", fn := fun _ => fun
  | [d] => { results := [.lit (.bool false)], args := [d] }
  | _ => none }
def FnExactSubgroupsOfWrongFalsely : Prop := fnExactSubgroupsOfRow.holds Try.pinned (OpenSpec.ofChange fnExactSubgroupsOfWrong)

/-- 'laws.FnExactIsNormalIn': WHATEVER THE INPUT: true; the input reads as it did. -/
def fnExactIsNormalInSpec : ChangeSpec := { name := "fnExactIsNormalIn", fn := fun _ => fun
  | [d1, d2] => { results := [.lit (.bool true)], args := [d1, d2] }
  | _ => none }
def fnExactIsNormalInRow : OpenClaim := { program := "ytngfdkmiifpbgaa", sum := "5f32d05ae28617b6445d228cb6b89e569329190d3815d3023687aaf33d496bfe", func := "loop.example/g01119/laws.FnExactIsNormalIn", spec := "fnExactIsNormalIn", unfollowed := true, recurses := true, apart := false }
def FnExactIsNormalInSaid : Prop := fnExactIsNormalInRow.holds Try.pinned (OpenSpec.ofChange fnExactIsNormalInSpec)

/-- ITS FALSE NEIGHBOUR: 'it returns false'. Refute it at one input. -/
def fnExactIsNormalInWrong : ChangeSpec := { name := "fnExactIsNormalIn", fn := fun _ => fun
  | [d1, d2] => { results := [.lit (.bool false)], args := [d1, d2] }
  | _ => none }
def FnExactIsNormalInWrongFalsely : Prop := fnExactIsNormalInRow.holds Try.pinned (OpenSpec.ofChange fnExactIsNormalInWrong)

/-- 'laws.FnExactGroupConjugation': WHATEVER THE INPUT: true; the input reads as it did. -/
def fnExactGroupConjugationSpec : ChangeSpec := { name := "fnExactGroupConjugation", fn := fun _ => fun
  | [d] => { results := [.lit (.bool true)], args := [d] }
  | _ => none }
def fnExactGroupConjugationRow : OpenClaim := { program := "ytngfdkmiifpbgaa", sum := "5f32d05ae28617b6445d228cb6b89e569329190d3815d3023687aaf33d496bfe", func := "loop.example/g01119/laws.FnExactGroupConjugation", spec := "fnExactGroupConjugation", unfollowed := true, recurses := true, apart := false }
def FnExactGroupConjugationSaid : Prop := fnExactGroupConjugationRow.holds Try.pinned (OpenSpec.ofChange fnExactGroupConjugationSpec)

/-- ITS FALSE NEIGHBOUR: 'it returns false'. Refute it at one input. -/
def fnExactGroupConjugationWrong : ChangeSpec := { name := "fnExactGroupConjugation", fn := fun _ => fun
  | [d] => { results := [.lit (.bool false)], args := [d] }
  | _ => none }
def FnExactGroupConjugationWrongFalsely : Prop := fnExactGroupConjugationRow.holds Try.pinned (OpenSpec.ofChange fnExactGroupConjugationWrong)

/-- 'laws.FnExactSubracksOf': WHATEVER THE INPUT: true; the input reads as it did. -/
def fnExactSubracksOfSpec : ChangeSpec := { name := "fnExactSubracksOf", fn := fun _ => fun
  | [d] => { results := [.lit (.bool true)], args := [d] }
  | _ => none }
def fnExactSubracksOfRow : OpenClaim := { program := "ytngfdkmiifpbgaa", sum := "5f32d05ae28617b6445d228cb6b89e569329190d3815d3023687aaf33d496bfe", func := "loop.example/g01119/laws.FnExactSubracksOf", spec := "fnExactSubracksOf", unfollowed := true, recurses := true, apart := false }
def FnExactSubracksOfSaid : Prop := fnExactSubracksOfRow.holds Try.pinned (OpenSpec.ofChange fnExactSubracksOfSpec)

/-- ITS FALSE NEIGHBOUR: 'it returns false'. Refute it at one input. -/
def fnExactSubracksOfWrong : ChangeSpec := { name := "fnExactSubracksOf", fn := fun _ => fun
  | [d] => { results := [.lit (.bool false)], args := [d] }
  | _ => none }
def FnExactSubracksOfWrongFalsely : Prop := fnExactSubracksOfRow.holds Try.pinned (OpenSpec.ofChange fnExactSubracksOfWrong)

/- THE SECOND FORM. 'bulk': how many values and letters a reading holds, each counted each time it is reached (what is shared counts as often as it is met; a slice's spare places count too). A statement '..UptoSaid' is the law's where the arguments, and the package variables that the reading takes, are together of bulk at most 1048576: NARROWER than '..Said'. Prove '..Said' where nothing that the law and all that it calls make is longer than what came in: it says more and counts as full. Else prove '..UptoSaid'. A law counts once. -/
mutual
def uptoBulk {H : Type} : DataW H → Nat
  | .lit (.string bytes) => bytes.length + 1
  | .lit _ => 1
  | .nil => 1
  | .ptr d => uptoBulk d + 1
  | .slice elems spare => uptoBulkAll elems + uptoBulkAll spare + 1
  | .agg parts => uptoBulkAll parts + 1
  | .iface _ d => uptoBulk d + 1
  | .map entries => uptoBulkEntries entries + 1
  | .held _ => 1
def uptoBulkAll {H : Type} : List (DataW H) → Nat
  | [] => 0
  | d :: r => uptoBulk d + uptoBulkAll r
def uptoBulkEntries {H : Type} : List (Lit × DataW H) → Nat
  | [] => 0
  | x :: r => uptoBulkEntry x + uptoBulkEntries r
def uptoBulkEntry {H : Type} : Lit × DataW H → Nat
  | (.string bytes, d) => bytes.length + uptoBulk d + 1
  | (_, d) => uptoBulk d + 1
 end
def uptoSmall : (H : Type) → List (DataW H) → Bool := fun _ ds => decide (uptoBulkAll ds ≤ 1048576)
def OpenSpec.upto (s : _root_.Go.ChangeSpec) : _root_.Go.OpenSpec := { _root_.Go.OpenSpec.ofChange s with cond := some uptoSmall }

/-- 'laws.FnExactIsGroup', WHERE WHAT IT READS IS OF BULK AT MOST 1048576: true; the input reads as it did. -/
def fnExactIsGroupUptoRow : OpenClaim := { program := "ytngfdkmiifpbgaa", sum := "5f32d05ae28617b6445d228cb6b89e569329190d3815d3023687aaf33d496bfe", func := "loop.example/g01119/laws.FnExactIsGroup", spec := "fnExactIsGroup", unfollowed := true, recurses := true, apart := false, narrowed := true }
def FnExactIsGroupUptoSaid : Prop := fnExactIsGroupUptoRow.holds Try.pinned (OpenSpec.upto fnExactIsGroupSpec)

/-- 'laws.FnExactInverseIn', WHERE WHAT IT READS IS OF BULK AT MOST 1048576: true; the input reads as it did. -/
def fnExactInverseInUptoRow : OpenClaim := { program := "ytngfdkmiifpbgaa", sum := "5f32d05ae28617b6445d228cb6b89e569329190d3815d3023687aaf33d496bfe", func := "loop.example/g01119/laws.FnExactInverseIn", spec := "fnExactInverseIn", unfollowed := true, recurses := true, apart := false, narrowed := true }
def FnExactInverseInUptoSaid : Prop := fnExactInverseInUptoRow.holds Try.pinned (OpenSpec.upto fnExactInverseInSpec)

/-- 'laws.FnExactOrderIn', WHERE WHAT IT READS IS OF BULK AT MOST 1048576: true; the input reads as it did. -/
def fnExactOrderInUptoRow : OpenClaim := { program := "ytngfdkmiifpbgaa", sum := "5f32d05ae28617b6445d228cb6b89e569329190d3815d3023687aaf33d496bfe", func := "loop.example/g01119/laws.FnExactOrderIn", spec := "fnExactOrderIn", unfollowed := true, recurses := true, apart := false, narrowed := true }
def FnExactOrderInUptoSaid : Prop := fnExactOrderInUptoRow.holds Try.pinned (OpenSpec.upto fnExactOrderInSpec)

/-- 'laws.FnExactCyclicGroup', WHERE WHAT IT READS IS OF BULK AT MOST 1048576: true; the input reads as it did. -/
def fnExactCyclicGroupUptoRow : OpenClaim := { program := "ytngfdkmiifpbgaa", sum := "5f32d05ae28617b6445d228cb6b89e569329190d3815d3023687aaf33d496bfe", func := "loop.example/g01119/laws.FnExactCyclicGroup", spec := "fnExactCyclicGroup", unfollowed := true, recurses := true, apart := false, narrowed := true }
def FnExactCyclicGroupUptoSaid : Prop := fnExactCyclicGroupUptoRow.holds Try.pinned (OpenSpec.upto fnExactCyclicGroupSpec)

/-- 'laws.FnExactOppositeGroup', WHERE WHAT IT READS IS OF BULK AT MOST 1048576: true; the input reads as it did. -/
def fnExactOppositeGroupUptoRow : OpenClaim := { program := "ytngfdkmiifpbgaa", sum := "5f32d05ae28617b6445d228cb6b89e569329190d3815d3023687aaf33d496bfe", func := "loop.example/g01119/laws.FnExactOppositeGroup", spec := "fnExactOppositeGroup", unfollowed := true, recurses := true, apart := false, narrowed := true }
def FnExactOppositeGroupUptoSaid : Prop := fnExactOppositeGroupUptoRow.holds Try.pinned (OpenSpec.upto fnExactOppositeGroupSpec)

/-- 'laws.FnExactIsAbelianGroup', WHERE WHAT IT READS IS OF BULK AT MOST 1048576: true; the input reads as it did. -/
def fnExactIsAbelianGroupUptoRow : OpenClaim := { program := "ytngfdkmiifpbgaa", sum := "5f32d05ae28617b6445d228cb6b89e569329190d3815d3023687aaf33d496bfe", func := "loop.example/g01119/laws.FnExactIsAbelianGroup", spec := "fnExactIsAbelianGroup", unfollowed := true, recurses := true, apart := false, narrowed := true }
def FnExactIsAbelianGroupUptoSaid : Prop := fnExactIsAbelianGroupUptoRow.holds Try.pinned (OpenSpec.upto fnExactIsAbelianGroupSpec)

/-- 'laws.FnExactCenterOf', WHERE WHAT IT READS IS OF BULK AT MOST 1048576: true; the input reads as it did. -/
def fnExactCenterOfUptoRow : OpenClaim := { program := "ytngfdkmiifpbgaa", sum := "5f32d05ae28617b6445d228cb6b89e569329190d3815d3023687aaf33d496bfe", func := "loop.example/g01119/laws.FnExactCenterOf", spec := "fnExactCenterOf", unfollowed := true, recurses := true, apart := false, narrowed := true }
def FnExactCenterOfUptoSaid : Prop := fnExactCenterOfUptoRow.holds Try.pinned (OpenSpec.upto fnExactCenterOfSpec)

/-- 'laws.FnExactSubgroupsOf', WHERE WHAT IT READS IS OF BULK AT MOST 1048576: true; the input reads as it did. -/
def fnExactSubgroupsOfUptoRow : OpenClaim := { program := "ytngfdkmiifpbgaa", sum := "5f32d05ae28617b6445d228cb6b89e569329190d3815d3023687aaf33d496bfe", func := "loop.example/g01119/laws.FnExactSubgroupsOf", spec := "fnExactSubgroupsOf", unfollowed := true, recurses := true, apart := false, narrowed := true }
def FnExactSubgroupsOfUptoSaid : Prop := fnExactSubgroupsOfUptoRow.holds Try.pinned (OpenSpec.upto fnExactSubgroupsOfSpec)

/-- 'laws.FnExactIsNormalIn', WHERE WHAT IT READS IS OF BULK AT MOST 1048576: true; the input reads as it did. -/
def fnExactIsNormalInUptoRow : OpenClaim := { program := "ytngfdkmiifpbgaa", sum := "5f32d05ae28617b6445d228cb6b89e569329190d3815d3023687aaf33d496bfe", func := "loop.example/g01119/laws.FnExactIsNormalIn", spec := "fnExactIsNormalIn", unfollowed := true, recurses := true, apart := false, narrowed := true }
def FnExactIsNormalInUptoSaid : Prop := fnExactIsNormalInUptoRow.holds Try.pinned (OpenSpec.upto fnExactIsNormalInSpec)

/-- 'laws.FnExactGroupConjugation', WHERE WHAT IT READS IS OF BULK AT MOST 1048576: true; the input reads as it did. -/
def fnExactGroupConjugationUptoRow : OpenClaim := { program := "ytngfdkmiifpbgaa", sum := "5f32d05ae28617b6445d228cb6b89e569329190d3815d3023687aaf33d496bfe", func := "loop.example/g01119/laws.FnExactGroupConjugation", spec := "fnExactGroupConjugation", unfollowed := true, recurses := true, apart := false, narrowed := true }
def FnExactGroupConjugationUptoSaid : Prop := fnExactGroupConjugationUptoRow.holds Try.pinned (OpenSpec.upto fnExactGroupConjugationSpec)

/-- 'laws.FnExactSubracksOf', WHERE WHAT IT READS IS OF BULK AT MOST 1048576: true; the input reads as it did. -/
def fnExactSubracksOfUptoRow : OpenClaim := { program := "ytngfdkmiifpbgaa", sum := "5f32d05ae28617b6445d228cb6b89e569329190d3815d3023687aaf33d496bfe", func := "loop.example/g01119/laws.FnExactSubracksOf", spec := "fnExactSubracksOf", unfollowed := true, recurses := true, apart := false, narrowed := true }
def FnExactSubracksOfUptoSaid : Prop := fnExactSubracksOfUptoRow.holds Try.pinned (OpenSpec.upto fnExactSubracksOfSpec)

end Rows
end Go.Proofs.Ytngfdkmiifpbgaa
