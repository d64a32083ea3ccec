/-
  No cell of these rows narrows 'for every input' (looked for: loops, veiled, ifaces, maps, wideKeys, modest, calm, conditions, laid).
  DERIVED. THE GIVEN ROWS OF THIS SEAT. 10 by the template 'for every input the law returns true; each argument reads behind the call as it read before'; 0 by the template 'total and deterministic' (their statements: YtgmloaemnbnbgaaTotals.lean).
  GIVEN WITH THE SEED: the statements are not yours to turn. If you find one false, say at which input.
  Laid BY PROGRAM, IN A SANDBOX (cutbox-rows.mjs): the forced cells as the released guide's own fill.sh prints them over the translation fbc0b5654cd493ff… (all of the seat's roots in one cut). By AI agents, Wed Nov 11 2026. No macro, syntax, notation, axiom, sorry.
-/
import Derived.Test.YtgmloaemnbnbgaaChecked
import GoSem.Claim
import GoSem.ClaimJoined
import GoSem.ClaimMapViews
import Derived.JoinedTies
import Derived.KernelRfl
namespace Go.Proofs.Ytgmloaemnbnbgaa
/- THE CELL 'sum', in the pinned program and in every row, IS THE sha256 OF THE DUMP (.gsa) THAT YtgmloaemnbnbgaaProg.lean LOADS. Nothing in Lean hashes anything: it is a label: what it is worth is what the hold of that sum in a sandbox is worth. -/
noncomputable def Try.pinned : Pinned := { name := "ytgmloaemnbnbgaa", sum := "fbc0b5654cd493ff8e92fdb418c285aeb749a4ebb82bdc7faa62b9d062f25a27", checked := Try.checked }
namespace Rows
def none {H : Type} : Left H := { results := [], args := [] }

/-- 'laws.FnExactAlikeClasses': WHATEVER THE INPUT: true; the input reads as it did. -/
def fnExactAlikeClassesSpec : ChangeSpec := { name := "fnExactAlikeClasses", fn := fun _ => fun
  | [d] => { results := [.lit (.bool true)], args := [d] }
  | _ => none }
def fnExactAlikeClassesRow : OpenClaim := { program := "ytgmloaemnbnbgaa", sum := "fbc0b5654cd493ff8e92fdb418c285aeb749a4ebb82bdc7faa62b9d062f25a27", func := "loop.example/g01119/laws.FnExactAlikeClasses", spec := "fnExactAlikeClasses", plainKeys := false, apart := false }
def FnExactAlikeClassesSaid : Prop := fnExactAlikeClassesRow.holds Try.pinned (OpenSpec.ofChange fnExactAlikeClassesSpec)

/-- ITS FALSE NEIGHBOUR: 'it returns false'. Refute it at one input. -/
def fnExactAlikeClassesWrong : ChangeSpec := { name := "fnExactAlikeClasses", fn := fun _ => fun
  | [d] => { results := [.lit (.bool false)], args := [d] }
  | _ => none }
def FnExactAlikeClassesWrongFalsely : Prop := fnExactAlikeClassesRow.holds Try.pinned (OpenSpec.ofChange fnExactAlikeClassesWrong)

/-- 'laws.FnExactRetractOf': WHATEVER THE INPUT: true; the input reads as it did. -/
def fnExactRetractOfSpec : ChangeSpec := { name := "fnExactRetractOf", fn := fun _ => fun
  | [d] => { results := [.lit (.bool true)], args := [d] }
  | _ => none }
def fnExactRetractOfRow : OpenClaim := { program := "ytgmloaemnbnbgaa", sum := "fbc0b5654cd493ff8e92fdb418c285aeb749a4ebb82bdc7faa62b9d062f25a27", func := "loop.example/g01119/laws.FnExactRetractOf", spec := "fnExactRetractOf", unfollowed := true, recurses := true, plainKeys := false, apart := false }
def FnExactRetractOfSaid : Prop := fnExactRetractOfRow.holds Try.pinned (OpenSpec.ofChange fnExactRetractOfSpec)

/-- ITS FALSE NEIGHBOUR: 'it returns false'. Refute it at one input. -/
def fnExactRetractOfWrong : ChangeSpec := { name := "fnExactRetractOf", fn := fun _ => fun
  | [d] => { results := [.lit (.bool false)], args := [d] }
  | _ => none }
def FnExactRetractOfWrongFalsely : Prop := fnExactRetractOfRow.holds Try.pinned (OpenSpec.ofChange fnExactRetractOfWrong)

/-- 'laws.FnExactRetractSizes': WHATEVER THE INPUT: true; the input reads as it did. -/
def fnExactRetractSizesSpec : ChangeSpec := { name := "fnExactRetractSizes", fn := fun _ => fun
  | [d] => { results := [.lit (.bool true)], args := [d] }
  | _ => none }
def fnExactRetractSizesRow : OpenClaim := { program := "ytgmloaemnbnbgaa", sum := "fbc0b5654cd493ff8e92fdb418c285aeb749a4ebb82bdc7faa62b9d062f25a27", func := "loop.example/g01119/laws.FnExactRetractSizes", spec := "fnExactRetractSizes", unfollowed := true, recurses := true, plainKeys := false, apart := false }
def FnExactRetractSizesSaid : Prop := fnExactRetractSizesRow.holds Try.pinned (OpenSpec.ofChange fnExactRetractSizesSpec)

/-- ITS FALSE NEIGHBOUR: 'it returns false'. Refute it at one input. -/
def fnExactRetractSizesWrong : ChangeSpec := { name := "fnExactRetractSizes", fn := fun _ => fun
  | [d] => { results := [.lit (.bool false)], args := [d] }
  | _ => none }
def FnExactRetractSizesWrongFalsely : Prop := fnExactRetractSizesRow.holds Try.pinned (OpenSpec.ofChange fnExactRetractSizesWrong)

/-- 'laws.FnExactLevelOf': WHATEVER THE INPUT: true; the input reads as it did. -/
def fnExactLevelOfSpec : ChangeSpec := { name := "fnExactLevelOf", fn := fun _ => fun
  | [d] => { results := [.lit (.bool true)], args := [d] }
  | _ => none }
def fnExactLevelOfRow : OpenClaim := { program := "ytgmloaemnbnbgaa", sum := "fbc0b5654cd493ff8e92fdb418c285aeb749a4ebb82bdc7faa62b9d062f25a27", func := "loop.example/g01119/laws.FnExactLevelOf", spec := "fnExactLevelOf", unfollowed := true, recurses := true, plainKeys := false, apart := false }
def FnExactLevelOfSaid : Prop := fnExactLevelOfRow.holds Try.pinned (OpenSpec.ofChange fnExactLevelOfSpec)

/-- ITS FALSE NEIGHBOUR: 'it returns false'. Refute it at one input. -/
def fnExactLevelOfWrong : ChangeSpec := { name := "fnExactLevelOf", fn := fun _ => fun
  | [d] => { results := [.lit (.bool false)], args := [d] }
  | _ => none }
def FnExactLevelOfWrongFalsely : Prop := fnExactLevelOfRow.holds Try.pinned (OpenSpec.ofChange fnExactLevelOfWrong)

/-- 'laws.FnExactIsIrretractable': WHATEVER THE INPUT: true; the input reads as it did. -/
def fnExactIsIrretractableSpec : ChangeSpec := { name := "fnExactIsIrretractable", fn := fun _ => fun
  | [d] => { results := [.lit (.bool true)], args := [d] }
  | _ => none }
def fnExactIsIrretractableRow : OpenClaim := { program := "ytgmloaemnbnbgaa", sum := "fbc0b5654cd493ff8e92fdb418c285aeb749a4ebb82bdc7faa62b9d062f25a27", func := "loop.example/g01119/laws.FnExactIsIrretractable", spec := "fnExactIsIrretractable", unfollowed := true, recurses := true, plainKeys := false, apart := false }
def FnExactIsIrretractableSaid : Prop := fnExactIsIrretractableRow.holds Try.pinned (OpenSpec.ofChange fnExactIsIrretractableSpec)

/-- ITS FALSE NEIGHBOUR: 'it returns false'. Refute it at one input. -/
def fnExactIsIrretractableWrong : ChangeSpec := { name := "fnExactIsIrretractable", fn := fun _ => fun
  | [d] => { results := [.lit (.bool false)], args := [d] }
  | _ => none }
def FnExactIsIrretractableWrongFalsely : Prop := fnExactIsIrretractableRow.holds Try.pinned (OpenSpec.ofChange fnExactIsIrretractableWrong)

/-- 'laws.FnExactLastRetract': WHATEVER THE INPUT: true; the input reads as it did. -/
def fnExactLastRetractSpec : ChangeSpec := { name := "fnExactLastRetract", fn := fun _ => fun
  | [d] => { results := [.lit (.bool true)], args := [d] }
  | _ => none }
def fnExactLastRetractRow : OpenClaim := { program := "ytgmloaemnbnbgaa", sum := "fbc0b5654cd493ff8e92fdb418c285aeb749a4ebb82bdc7faa62b9d062f25a27", func := "loop.example/g01119/laws.FnExactLastRetract", spec := "fnExactLastRetract", unfollowed := true, recurses := true, plainKeys := false, apart := false }
def FnExactLastRetractSaid : Prop := fnExactLastRetractRow.holds Try.pinned (OpenSpec.ofChange fnExactLastRetractSpec)

/-- ITS FALSE NEIGHBOUR: 'it returns false'. Refute it at one input. -/
def fnExactLastRetractWrong : ChangeSpec := { name := "fnExactLastRetract", fn := fun _ => fun
  | [d] => { results := [.lit (.bool false)], args := [d] }
  | _ => none }
def FnExactLastRetractWrongFalsely : Prop := fnExactLastRetractRow.holds Try.pinned (OpenSpec.ofChange fnExactLastRetractWrong)

/-- 'laws.FnExactSeriesLabels': WHATEVER THE INPUT: true; the input reads as it did. -/
def fnExactSeriesLabelsSpec : ChangeSpec := { name := "fnExactSeriesLabels", fn := fun _ => fun
  | [d1, d2] => { results := [.lit (.bool true)], args := [d1, d2] }
  | _ => none }
def fnExactSeriesLabelsRow : OpenClaim := { program := "ytgmloaemnbnbgaa", sum := "fbc0b5654cd493ff8e92fdb418c285aeb749a4ebb82bdc7faa62b9d062f25a27", func := "loop.example/g01119/laws.FnExactSeriesLabels", spec := "fnExactSeriesLabels", unfollowed := true, recurses := true, plainKeys := false, apart := false }
def FnExactSeriesLabelsSaid : Prop := fnExactSeriesLabelsRow.holds Try.pinned (OpenSpec.ofChange fnExactSeriesLabelsSpec)

/-- ITS FALSE NEIGHBOUR: 'it returns false'. Refute it at one input. -/
def fnExactSeriesLabelsWrong : ChangeSpec := { name := "fnExactSeriesLabels", fn := fun _ => fun
  | [d1, d2] => { results := [.lit (.bool false)], args := [d1, d2] }
  | _ => none }
def FnExactSeriesLabelsWrongFalsely : Prop := fnExactSeriesLabelsRow.holds Try.pinned (OpenSpec.ofChange fnExactSeriesLabelsWrong)

/-- 'laws.FnExactIsTwist': WHATEVER THE INPUT: true; the input reads as it did. -/
def fnExactIsTwistSpec : ChangeSpec := { name := "fnExactIsTwist", fn := fun _ => fun
  | [d] => { results := [.lit (.bool true)], args := [d] }
  | _ => none }
def fnExactIsTwistRow : OpenClaim := { program := "ytgmloaemnbnbgaa", sum := "fbc0b5654cd493ff8e92fdb418c285aeb749a4ebb82bdc7faa62b9d062f25a27", func := "loop.example/g01119/laws.FnExactIsTwist", spec := "fnExactIsTwist", plainKeys := false, apart := false }
def FnExactIsTwistSaid : Prop := fnExactIsTwistRow.holds Try.pinned (OpenSpec.ofChange fnExactIsTwistSpec)

/-- ITS FALSE NEIGHBOUR: 'it returns false'. Refute it at one input. -/
def fnExactIsTwistWrong : ChangeSpec := { name := "fnExactIsTwist", fn := fun _ => fun
  | [d] => { results := [.lit (.bool false)], args := [d] }
  | _ => none }
def FnExactIsTwistWrongFalsely : Prop := fnExactIsTwistRow.holds Try.pinned (OpenSpec.ofChange fnExactIsTwistWrong)

/-- 'laws.FnExactClassSolution': WHATEVER THE INPUT: true; the input reads as it did. -/
def fnExactClassSolutionSpec : ChangeSpec := { name := "fnExactClassSolution", fn := fun _ => fun
  | [d1, d2] => { results := [.lit (.bool true)], args := [d1, d2] }
  | _ => none }
def fnExactClassSolutionRow : OpenClaim := { program := "ytgmloaemnbnbgaa", sum := "fbc0b5654cd493ff8e92fdb418c285aeb749a4ebb82bdc7faa62b9d062f25a27", func := "loop.example/g01119/laws.FnExactClassSolution", spec := "fnExactClassSolution", unfollowed := true, recurses := true, plainKeys := false, apart := false }
def FnExactClassSolutionSaid : Prop := fnExactClassSolutionRow.holds Try.pinned (OpenSpec.ofChange fnExactClassSolutionSpec)

/-- ITS FALSE NEIGHBOUR: 'it returns false'. Refute it at one input. -/
def fnExactClassSolutionWrong : ChangeSpec := { name := "fnExactClassSolution", fn := fun _ => fun
  | [d1, d2] => { results := [.lit (.bool false)], args := [d1, d2] }
  | _ => none }
def FnExactClassSolutionWrongFalsely : Prop := fnExactClassSolutionRow.holds Try.pinned (OpenSpec.ofChange fnExactClassSolutionWrong)

/-- 'laws.FnExactInnerOrder': WHATEVER THE INPUT: true; the input reads as it did. -/
def fnExactInnerOrderSpec : ChangeSpec := { name := "fnExactInnerOrder", fn := fun _ => fun
  | [d] => { results := [.lit (.bool true)], args := [d] }
  | _ => none }
def fnExactInnerOrderRow : OpenClaim := { program := "ytgmloaemnbnbgaa", sum := "fbc0b5654cd493ff8e92fdb418c285aeb749a4ebb82bdc7faa62b9d062f25a27", func := "loop.example/g01119/laws.FnExactInnerOrder", spec := "fnExactInnerOrder", unfollowed := true, recurses := true, plainKeys := false, apart := false }
def FnExactInnerOrderSaid : Prop := fnExactInnerOrderRow.holds Try.pinned (OpenSpec.ofChange fnExactInnerOrderSpec)

/-- ITS FALSE NEIGHBOUR: 'it returns false'. Refute it at one input. -/
def fnExactInnerOrderWrong : ChangeSpec := { name := "fnExactInnerOrder", fn := fun _ => fun
  | [d] => { results := [.lit (.bool false)], args := [d] }
  | _ => none }
def FnExactInnerOrderWrongFalsely : Prop := fnExactInnerOrderRow.holds Try.pinned (OpenSpec.ofChange fnExactInnerOrderWrong)

/- THE SECOND FORM. 'bulk': how many values and letters a reading holds, each counted each time it is reached (what is shared counts as often as it is met; a slice's spare places count too). A statement '..UptoSaid' is the law's where the arguments, and the package variables that the reading takes, are together of bulk at most 1048576: NARROWER than '..Said'. Prove '..Said' where nothing that the law and all that it calls make is longer than what came in: it says more and counts as full. Else prove '..UptoSaid'. A law counts once. -/
mutual
def uptoBulk {H : Type} : DataW H → Nat
  | .lit (.string bytes) => bytes.length + 1
  | .lit _ => 1
  | .nil => 1
  | .ptr d => uptoBulk d + 1
  | .slice elems spare => uptoBulkAll elems + uptoBulkAll spare + 1
  | .agg parts => uptoBulkAll parts + 1
  | .iface _ d => uptoBulk d + 1
  | .map entries => uptoBulkEntries entries + 1
  | .held _ => 1
def uptoBulkAll {H : Type} : List (DataW H) → Nat
  | [] => 0
  | d :: r => uptoBulk d + uptoBulkAll r
def uptoBulkEntries {H : Type} : List (Lit × DataW H) → Nat
  | [] => 0
  | x :: r => uptoBulkEntry x + uptoBulkEntries r
def uptoBulkEntry {H : Type} : Lit × DataW H → Nat
  | (.string bytes, d) => bytes.length + uptoBulk d + 1
  | (_, d) => uptoBulk d + 1
 end
def uptoSmall : (H : Type) → List (DataW H) → Bool := fun _ ds => decide (uptoBulkAll ds ≤ 1048576)
def OpenSpec.upto (s : _root_.Go.ChangeSpec) : _root_.Go.OpenSpec := { _root_.Go.OpenSpec.ofChange s with cond := some uptoSmall }

/-- 'laws.FnExactAlikeClasses', WHERE WHAT IT READS IS OF BULK AT MOST 1048576: true; the input reads as it did. -/
def fnExactAlikeClassesUptoRow : OpenClaim := { program := "ytgmloaemnbnbgaa", sum := "fbc0b5654cd493ff8e92fdb418c285aeb749a4ebb82bdc7faa62b9d062f25a27", func := "loop.example/g01119/laws.FnExactAlikeClasses", spec := "fnExactAlikeClasses", plainKeys := false, apart := false, narrowed := true }
def FnExactAlikeClassesUptoSaid : Prop := fnExactAlikeClassesUptoRow.holds Try.pinned (OpenSpec.upto fnExactAlikeClassesSpec)

/-- 'laws.FnExactRetractOf', WHERE WHAT IT READS IS OF BULK AT MOST 1048576: true; the input reads as it did. -/
def fnExactRetractOfUptoRow : OpenClaim := { program := "ytgmloaemnbnbgaa", sum := "fbc0b5654cd493ff8e92fdb418c285aeb749a4ebb82bdc7faa62b9d062f25a27", func := "loop.example/g01119/laws.FnExactRetractOf", spec := "fnExactRetractOf", unfollowed := true, recurses := true, plainKeys := false, apart := false, narrowed := true }
def FnExactRetractOfUptoSaid : Prop := fnExactRetractOfUptoRow.holds Try.pinned (OpenSpec.upto fnExactRetractOfSpec)

/-- 'laws.FnExactRetractSizes', WHERE WHAT IT READS IS OF BULK AT MOST 1048576: true; the input reads as it did. -/
def fnExactRetractSizesUptoRow : OpenClaim := { program := "ytgmloaemnbnbgaa", sum := "fbc0b5654cd493ff8e92fdb418c285aeb749a4ebb82bdc7faa62b9d062f25a27", func := "loop.example/g01119/laws.FnExactRetractSizes", spec := "fnExactRetractSizes", unfollowed := true, recurses := true, plainKeys := false, apart := false, narrowed := true }
def FnExactRetractSizesUptoSaid : Prop := fnExactRetractSizesUptoRow.holds Try.pinned (OpenSpec.upto fnExactRetractSizesSpec)

/-- 'laws.FnExactLevelOf', WHERE WHAT IT READS IS OF BULK AT MOST 1048576: true; the input reads as it did. -/
def fnExactLevelOfUptoRow : OpenClaim := { program := "ytgmloaemnbnbgaa", sum := "fbc0b5654cd493ff8e92fdb418c285aeb749a4ebb82bdc7faa62b9d062f25a27", func := "loop.example/g01119/laws.FnExactLevelOf", spec := "fnExactLevelOf", unfollowed := true, recurses := true, plainKeys := false, apart := false, narrowed := true }
def FnExactLevelOfUptoSaid : Prop := fnExactLevelOfUptoRow.holds Try.pinned (OpenSpec.upto fnExactLevelOfSpec)

/-- 'laws.FnExactIsIrretractable', WHERE WHAT IT READS IS OF BULK AT MOST 1048576: true; the input reads as it did. -/
def fnExactIsIrretractableUptoRow : OpenClaim := { program := "ytgmloaemnbnbgaa", sum := "fbc0b5654cd493ff8e92fdb418c285aeb749a4ebb82bdc7faa62b9d062f25a27", func := "loop.example/g01119/laws.FnExactIsIrretractable", spec := "fnExactIsIrretractable", unfollowed := true, recurses := true, plainKeys := false, apart := false, narrowed := true }
def FnExactIsIrretractableUptoSaid : Prop := fnExactIsIrretractableUptoRow.holds Try.pinned (OpenSpec.upto fnExactIsIrretractableSpec)

/-- 'laws.FnExactLastRetract', WHERE WHAT IT READS IS OF BULK AT MOST 1048576: true; the input reads as it did. -/
def fnExactLastRetractUptoRow : OpenClaim := { program := "ytgmloaemnbnbgaa", sum := "fbc0b5654cd493ff8e92fdb418c285aeb749a4ebb82bdc7faa62b9d062f25a27", func := "loop.example/g01119/laws.FnExactLastRetract", spec := "fnExactLastRetract", unfollowed := true, recurses := true, plainKeys := false, apart := false, narrowed := true }
def FnExactLastRetractUptoSaid : Prop := fnExactLastRetractUptoRow.holds Try.pinned (OpenSpec.upto fnExactLastRetractSpec)

/-- 'laws.FnExactSeriesLabels', WHERE WHAT IT READS IS OF BULK AT MOST 1048576: true; the input reads as it did. -/
def fnExactSeriesLabelsUptoRow : OpenClaim := { program := "ytgmloaemnbnbgaa", sum := "fbc0b5654cd493ff8e92fdb418c285aeb749a4ebb82bdc7faa62b9d062f25a27", func := "loop.example/g01119/laws.FnExactSeriesLabels", spec := "fnExactSeriesLabels", unfollowed := true, recurses := true, plainKeys := false, apart := false, narrowed := true }
def FnExactSeriesLabelsUptoSaid : Prop := fnExactSeriesLabelsUptoRow.holds Try.pinned (OpenSpec.upto fnExactSeriesLabelsSpec)

/-- 'laws.FnExactIsTwist', WHERE WHAT IT READS IS OF BULK AT MOST 1048576: true; the input reads as it did. -/
def fnExactIsTwistUptoRow : OpenClaim := { program := "ytgmloaemnbnbgaa", sum := "fbc0b5654cd493ff8e92fdb418c285aeb749a4ebb82bdc7faa62b9d062f25a27", func := "loop.example/g01119/laws.FnExactIsTwist", spec := "fnExactIsTwist", plainKeys := false, apart := false, narrowed := true }
def FnExactIsTwistUptoSaid : Prop := fnExactIsTwistUptoRow.holds Try.pinned (OpenSpec.upto fnExactIsTwistSpec)

/-- 'laws.FnExactClassSolution', WHERE WHAT IT READS IS OF BULK AT MOST 1048576: true; the input reads as it did. -/
def fnExactClassSolutionUptoRow : OpenClaim := { program := "ytgmloaemnbnbgaa", sum := "fbc0b5654cd493ff8e92fdb418c285aeb749a4ebb82bdc7faa62b9d062f25a27", func := "loop.example/g01119/laws.FnExactClassSolution", spec := "fnExactClassSolution", unfollowed := true, recurses := true, plainKeys := false, apart := false, narrowed := true }
def FnExactClassSolutionUptoSaid : Prop := fnExactClassSolutionUptoRow.holds Try.pinned (OpenSpec.upto fnExactClassSolutionSpec)

/-- 'laws.FnExactInnerOrder', WHERE WHAT IT READS IS OF BULK AT MOST 1048576: true; the input reads as it did. -/
def fnExactInnerOrderUptoRow : OpenClaim := { program := "ytgmloaemnbnbgaa", sum := "fbc0b5654cd493ff8e92fdb418c285aeb749a4ebb82bdc7faa62b9d062f25a27", func := "loop.example/g01119/laws.FnExactInnerOrder", spec := "fnExactInnerOrder", unfollowed := true, recurses := true, plainKeys := false, apart := false, narrowed := true }
def FnExactInnerOrderUptoSaid : Prop := fnExactInnerOrderUptoRow.holds Try.pinned (OpenSpec.upto fnExactInnerOrderSpec)

end Rows
end Go.Proofs.Ytgmloaemnbnbgaa
