/-
  No cell of these rows narrows 'for every input' (looked for: loops, veiled, ifaces, maps, wideKeys, modest, calm, conditions, laid).
  DERIVED. THE GIVEN ROWS OF THIS SEAT. 12 by the template 'for every input the law returns true; each argument reads behind the call as it read before'; 0 by the template 'total and deterministic' (their statements: YtiaebilcgmahlaaTotals.lean).
  GIVEN WITH THE SEED: the statements are not yours to turn. If you find one false, say at which input.
  Laid BY PROGRAM, IN A SANDBOX (cutbox-rows.mjs): the forced cells as the released guide's own fill.sh prints them over the translation 2d913829e83b8923… (all of the seat's roots in one cut). By AI agents, Wed Nov 11 2026. No macro, syntax, notation, axiom, sorry.
-/
import Derived.Test.YtiaebilcgmahlaaChecked
import GoSem.Claim
import GoSem.ClaimJoined
import GoSem.ClaimMapViews
import Derived.JoinedTies
import Derived.KernelRfl
namespace Go.Proofs.Ytiaebilcgmahlaa
/- THE CELL 'sum', in the pinned program and in every row, IS THE sha256 OF THE DUMP (.gsa) THAT YtiaebilcgmahlaaProg.lean LOADS. Nothing in Lean hashes anything: it is a label: what it is worth is what the hold of that sum in a sandbox is worth. -/
noncomputable def Try.pinned : Pinned := { name := "ytiaebilcgmahlaa", sum := "2d913829e83b8923cc9a51fa71b198ff9e7353a971ddaaf24d9a6c312ab6318c", checked := Try.checked }
namespace Rows
def none {H : Type} : Left H := { results := [], args := [] }

/-- 'laws.FnExactTupleOrbit': WHATEVER THE INPUT: true; the input reads as it did. -/
def fnExactTupleOrbitSpec : ChangeSpec := { name := "fnExactTupleOrbit", fn := fun _ => fun
  | [d1, d2] => { results := [.lit (.bool true)], args := [d1, d2] }
  | _ => none }
def fnExactTupleOrbitRow : OpenClaim := { program := "ytiaebilcgmahlaa", sum := "2d913829e83b8923cc9a51fa71b198ff9e7353a971ddaaf24d9a6c312ab6318c", func := "loop.example/g01119/laws.FnExactTupleOrbit", spec := "fnExactTupleOrbit", unfollowed := true, recurses := true, plainKeys := false, apart := false }
def FnExactTupleOrbitSaid : Prop := fnExactTupleOrbitRow.holds Try.pinned (OpenSpec.ofChange fnExactTupleOrbitSpec)

/-- ITS FALSE NEIGHBOUR: 'it returns false'. Refute it at one input. -/
def fnExactTupleOrbitWrong : ChangeSpec := { name := "fnExactTupleOrbit", fn := fun _ => fun
  | [d1, d2] => { results := [.lit (.bool false)], args := [d1, d2] }
  | _ => none }
def FnExactTupleOrbitWrongFalsely : Prop := fnExactTupleOrbitRow.holds Try.pinned (OpenSpec.ofChange fnExactTupleOrbitWrong)

/-- 'laws.FnExactCountTupleOrbits': WHATEVER THE INPUT: true; the input reads as it did. -/
def fnExactCountTupleOrbitsSpec : ChangeSpec := { name := "fnExactCountTupleOrbits", fn := fun _ => fun
  | [d1, d2] => { results := [.lit (.bool true)], args := [d1, d2] }
  | _ => none }
def fnExactCountTupleOrbitsRow : OpenClaim := { program := "ytiaebilcgmahlaa", sum := "2d913829e83b8923cc9a51fa71b198ff9e7353a971ddaaf24d9a6c312ab6318c", func := "loop.example/g01119/laws.FnExactCountTupleOrbits", spec := "fnExactCountTupleOrbits", unfollowed := true, recurses := true, plainKeys := false, apart := false }
def FnExactCountTupleOrbitsSaid : Prop := fnExactCountTupleOrbitsRow.holds Try.pinned (OpenSpec.ofChange fnExactCountTupleOrbitsSpec)

/-- ITS FALSE NEIGHBOUR: 'it returns false'. Refute it at one input. -/
def fnExactCountTupleOrbitsWrong : ChangeSpec := { name := "fnExactCountTupleOrbits", fn := fun _ => fun
  | [d1, d2] => { results := [.lit (.bool false)], args := [d1, d2] }
  | _ => none }
def FnExactCountTupleOrbitsWrongFalsely : Prop := fnExactCountTupleOrbitsRow.holds Try.pinned (OpenSpec.ofChange fnExactCountTupleOrbitsWrong)

/-- 'laws.FnExactClassOfWord': WHATEVER THE INPUT: true; the input reads as it did. -/
def fnExactClassOfWordSpec : ChangeSpec := { name := "fnExactClassOfWord", fn := fun _ => fun
  | [d1, d2] => { results := [.lit (.bool true)], args := [d1, d2] }
  | _ => none }
def fnExactClassOfWordRow : OpenClaim := { program := "ytiaebilcgmahlaa", sum := "2d913829e83b8923cc9a51fa71b198ff9e7353a971ddaaf24d9a6c312ab6318c", func := "loop.example/g01119/laws.FnExactClassOfWord", spec := "fnExactClassOfWord", unfollowed := true, recurses := true, plainKeys := false, apart := false }
def FnExactClassOfWordSaid : Prop := fnExactClassOfWordRow.holds Try.pinned (OpenSpec.ofChange fnExactClassOfWordSpec)

/-- ITS FALSE NEIGHBOUR: 'it returns false'. Refute it at one input. -/
def fnExactClassOfWordWrong : ChangeSpec := { name := "fnExactClassOfWord", fn := fun _ => fun
  | [d1, d2] => { results := [.lit (.bool false)], args := [d1, d2] }
  | _ => none }
def FnExactClassOfWordWrongFalsely : Prop := fnExactClassOfWordRow.holds Try.pinned (OpenSpec.ofChange fnExactClassOfWordWrong)

/-- 'laws.FnExactAreEqualWords': WHATEVER THE INPUT: true; the input reads as it did. -/
def fnExactAreEqualWordsSpec : ChangeSpec := { name := "fnExactAreEqualWords", fn := fun _ => fun
  | [d1, d2, d3] => { results := [.lit (.bool true)], args := [d1, d2, d3] }
  | _ => none }
def fnExactAreEqualWordsRow : OpenClaim := { program := "ytiaebilcgmahlaa", sum := "2d913829e83b8923cc9a51fa71b198ff9e7353a971ddaaf24d9a6c312ab6318c", func := "loop.example/g01119/laws.FnExactAreEqualWords", spec := "fnExactAreEqualWords", unfollowed := true, recurses := true, plainKeys := false, apart := false }
def FnExactAreEqualWordsSaid : Prop := fnExactAreEqualWordsRow.holds Try.pinned (OpenSpec.ofChange fnExactAreEqualWordsSpec)

/-- ITS FALSE NEIGHBOUR: 'it returns false'. Refute it at one input. -/
def fnExactAreEqualWordsWrong : ChangeSpec := { name := "fnExactAreEqualWords", fn := fun _ => fun
  | [d1, d2, d3] => { results := [.lit (.bool false)], args := [d1, d2, d3] }
  | _ => none }
def FnExactAreEqualWordsWrongFalsely : Prop := fnExactAreEqualWordsRow.holds Try.pinned (OpenSpec.ofChange fnExactAreEqualWordsWrong)

/-- 'laws.FnExactNormalWord': WHATEVER THE INPUT: true; the input reads as it did. -/
def fnExactNormalWordSpec : ChangeSpec := { name := "fnExactNormalWord", fn := fun _ => fun
  | [d1, d2] => { results := [.lit (.bool true)], args := [d1, d2] }
  | _ => none }
def fnExactNormalWordRow : OpenClaim := { program := "ytiaebilcgmahlaa", sum := "2d913829e83b8923cc9a51fa71b198ff9e7353a971ddaaf24d9a6c312ab6318c", func := "loop.example/g01119/laws.FnExactNormalWord", spec := "fnExactNormalWord", unfollowed := true, recurses := true, plainKeys := false, apart := false }
def FnExactNormalWordSaid : Prop := fnExactNormalWordRow.holds Try.pinned (OpenSpec.ofChange fnExactNormalWordSpec)

/-- ITS FALSE NEIGHBOUR: 'it returns false'. Refute it at one input. -/
def fnExactNormalWordWrong : ChangeSpec := { name := "fnExactNormalWord", fn := fun _ => fun
  | [d1, d2] => { results := [.lit (.bool false)], args := [d1, d2] }
  | _ => none }
def FnExactNormalWordWrongFalsely : Prop := fnExactNormalWordRow.holds Try.pinned (OpenSpec.ofChange fnExactNormalWordWrong)

/-- 'laws.FnExactCountClasses': WHATEVER THE INPUT: true; the input reads as it did. -/
def fnExactCountClassesSpec : ChangeSpec := { name := "fnExactCountClasses", fn := fun _ => fun
  | [d1, d2] => { results := [.lit (.bool true)], args := [d1, d2] }
  | _ => none }
def fnExactCountClassesRow : OpenClaim := { program := "ytiaebilcgmahlaa", sum := "2d913829e83b8923cc9a51fa71b198ff9e7353a971ddaaf24d9a6c312ab6318c", func := "loop.example/g01119/laws.FnExactCountClasses", spec := "fnExactCountClasses", unfollowed := true, recurses := true, plainKeys := false, apart := false }
def FnExactCountClassesSaid : Prop := fnExactCountClassesRow.holds Try.pinned (OpenSpec.ofChange fnExactCountClassesSpec)

/-- ITS FALSE NEIGHBOUR: 'it returns false'. Refute it at one input. -/
def fnExactCountClassesWrong : ChangeSpec := { name := "fnExactCountClasses", fn := fun _ => fun
  | [d1, d2] => { results := [.lit (.bool false)], args := [d1, d2] }
  | _ => none }
def FnExactCountClassesWrongFalsely : Prop := fnExactCountClassesRow.holds Try.pinned (OpenSpec.ofChange fnExactCountClassesWrong)

/-- 'laws.FnExactNormalWords': WHATEVER THE INPUT: true; the input reads as it did. -/
def fnExactNormalWordsSpec : ChangeSpec := { name := "fnExactNormalWords", fn := fun _ => fun
  | [d1, d2] => { results := [.lit (.bool true)], args := [d1, d2] }
  | _ => none }
def fnExactNormalWordsRow : OpenClaim := { program := "ytiaebilcgmahlaa", sum := "2d913829e83b8923cc9a51fa71b198ff9e7353a971ddaaf24d9a6c312ab6318c", func := "loop.example/g01119/laws.FnExactNormalWords", spec := "fnExactNormalWords", unfollowed := true, recurses := true, plainKeys := false, apart := false }
def FnExactNormalWordsSaid : Prop := fnExactNormalWordsRow.holds Try.pinned (OpenSpec.ofChange fnExactNormalWordsSpec)

/-- ITS FALSE NEIGHBOUR: 'it returns false'. Refute it at one input. -/
def fnExactNormalWordsWrong : ChangeSpec := { name := "fnExactNormalWords", fn := fun _ => fun
  | [d1, d2] => { results := [.lit (.bool false)], args := [d1, d2] }
  | _ => none }
def FnExactNormalWordsWrongFalsely : Prop := fnExactNormalWordsRow.holds Try.pinned (OpenSpec.ofChange fnExactNormalWordsWrong)

/-- 'laws.FnExactDividesWord': WHATEVER THE INPUT: true; the input reads as it did. -/
def fnExactDividesWordSpec : ChangeSpec := { name := "fnExactDividesWord", fn := fun _ => fun
  | [d1, d2, d3] => { results := [.lit (.bool true)], args := [d1, d2, d3] }
  | _ => none }
def fnExactDividesWordRow : OpenClaim := { program := "ytiaebilcgmahlaa", sum := "2d913829e83b8923cc9a51fa71b198ff9e7353a971ddaaf24d9a6c312ab6318c", func := "loop.example/g01119/laws.FnExactDividesWord", spec := "fnExactDividesWord", unfollowed := true, recurses := true, plainKeys := false, apart := false }
def FnExactDividesWordSaid : Prop := fnExactDividesWordRow.holds Try.pinned (OpenSpec.ofChange fnExactDividesWordSpec)

/-- ITS FALSE NEIGHBOUR: 'it returns false'. Refute it at one input. -/
def fnExactDividesWordWrong : ChangeSpec := { name := "fnExactDividesWord", fn := fun _ => fun
  | [d1, d2, d3] => { results := [.lit (.bool false)], args := [d1, d2, d3] }
  | _ => none }
def FnExactDividesWordWrongFalsely : Prop := fnExactDividesWordRow.holds Try.pinned (OpenSpec.ofChange fnExactDividesWordWrong)

/-- 'laws.FnExactQuotientWord': WHATEVER THE INPUT: true; the input reads as it did. -/
def fnExactQuotientWordSpec : ChangeSpec := { name := "fnExactQuotientWord", fn := fun _ => fun
  | [d1, d2, d3] => { results := [.lit (.bool true)], args := [d1, d2, d3] }
  | _ => none }
def fnExactQuotientWordRow : OpenClaim := { program := "ytiaebilcgmahlaa", sum := "2d913829e83b8923cc9a51fa71b198ff9e7353a971ddaaf24d9a6c312ab6318c", func := "loop.example/g01119/laws.FnExactQuotientWord", spec := "fnExactQuotientWord", unfollowed := true, recurses := true, plainKeys := false, apart := false }
def FnExactQuotientWordSaid : Prop := fnExactQuotientWordRow.holds Try.pinned (OpenSpec.ofChange fnExactQuotientWordSpec)

/-- ITS FALSE NEIGHBOUR: 'it returns false'. Refute it at one input. -/
def fnExactQuotientWordWrong : ChangeSpec := { name := "fnExactQuotientWord", fn := fun _ => fun
  | [d1, d2, d3] => { results := [.lit (.bool false)], args := [d1, d2, d3] }
  | _ => none }
def FnExactQuotientWordWrongFalsely : Prop := fnExactQuotientWordRow.holds Try.pinned (OpenSpec.ofChange fnExactQuotientWordWrong)

/-- 'laws.FnExactActWord': WHATEVER THE INPUT: true; the input reads as it did. -/
def fnExactActWordSpec : ChangeSpec := { name := "fnExactActWord", fn := fun _ => fun
  | [d1, d2, d3] => { results := [.lit (.bool true)], args := [d1, d2, d3] }
  | _ => none }
def fnExactActWordRow : OpenClaim := { program := "ytiaebilcgmahlaa", sum := "2d913829e83b8923cc9a51fa71b198ff9e7353a971ddaaf24d9a6c312ab6318c", func := "loop.example/g01119/laws.FnExactActWord", spec := "fnExactActWord", unfollowed := true, recurses := true, plainKeys := false, apart := false }
def FnExactActWordSaid : Prop := fnExactActWordRow.holds Try.pinned (OpenSpec.ofChange fnExactActWordSpec)

/-- ITS FALSE NEIGHBOUR: 'it returns false'. Refute it at one input. -/
def fnExactActWordWrong : ChangeSpec := { name := "fnExactActWord", fn := fun _ => fun
  | [d1, d2, d3] => { results := [.lit (.bool false)], args := [d1, d2, d3] }
  | _ => none }
def FnExactActWordWrongFalsely : Prop := fnExactActWordRow.holds Try.pinned (OpenSpec.ofChange fnExactActWordWrong)

/-- 'laws.FnExactFixedPairs': WHATEVER THE INPUT: true; the input reads as it did. -/
def fnExactFixedPairsSpec : ChangeSpec := { name := "fnExactFixedPairs", fn := fun _ => fun
  | [d] => { results := [.lit (.bool true)], args := [d] }
  | _ => none }
def fnExactFixedPairsRow : OpenClaim := { program := "ytiaebilcgmahlaa", sum := "2d913829e83b8923cc9a51fa71b198ff9e7353a971ddaaf24d9a6c312ab6318c", func := "loop.example/g01119/laws.FnExactFixedPairs", spec := "fnExactFixedPairs", plainKeys := false, apart := false }
def FnExactFixedPairsSaid : Prop := fnExactFixedPairsRow.holds Try.pinned (OpenSpec.ofChange fnExactFixedPairsSpec)

/-- ITS FALSE NEIGHBOUR: 'it returns false'. Refute it at one input. -/
def fnExactFixedPairsWrong : ChangeSpec := { name := "fnExactFixedPairs", fn := fun _ => fun
  | [d] => { results := [.lit (.bool false)], args := [d] }
  | _ => none }
def FnExactFixedPairsWrongFalsely : Prop := fnExactFixedPairsRow.holds Try.pinned (OpenSpec.ofChange fnExactFixedPairsWrong)

/-- 'laws.FnExactCommonMultiple': WHATEVER THE INPUT: true; the input reads as it did. -/
def fnExactCommonMultipleSpec : ChangeSpec := { name := "fnExactCommonMultiple", fn := fun _ => fun
  | [d1, d2, d3] => { results := [.lit (.bool true)], args := [d1, d2, d3] }
  | _ => none }
def fnExactCommonMultipleRow : OpenClaim := { program := "ytiaebilcgmahlaa", sum := "2d913829e83b8923cc9a51fa71b198ff9e7353a971ddaaf24d9a6c312ab6318c", func := "loop.example/g01119/laws.FnExactCommonMultiple", spec := "fnExactCommonMultiple", plainKeys := false, apart := false }
def FnExactCommonMultipleSaid : Prop := fnExactCommonMultipleRow.holds Try.pinned (OpenSpec.ofChange fnExactCommonMultipleSpec)

/-- ITS FALSE NEIGHBOUR: 'it returns false'. Refute it at one input. -/
def fnExactCommonMultipleWrong : ChangeSpec := { name := "fnExactCommonMultiple", fn := fun _ => fun
  | [d1, d2, d3] => { results := [.lit (.bool false)], args := [d1, d2, d3] }
  | _ => none }
def FnExactCommonMultipleWrongFalsely : Prop := fnExactCommonMultipleRow.holds Try.pinned (OpenSpec.ofChange fnExactCommonMultipleWrong)

/- THE SECOND FORM. 'bulk': how many values and letters a reading holds, each counted each time it is reached (what is shared counts as often as it is met; a slice's spare places count too). A statement '..UptoSaid' is the law's where the arguments, and the package variables that the reading takes, are together of bulk at most 1048576: NARROWER than '..Said'. Prove '..Said' where nothing that the law and all that it calls make is longer than what came in: it says more and counts as full. Else prove '..UptoSaid'. A law counts once. -/
mutual
def uptoBulk {H : Type} : DataW H → Nat
  | .lit (.string bytes) => bytes.length + 1
  | .lit _ => 1
  | .nil => 1
  | .ptr d => uptoBulk d + 1
  | .slice elems spare => uptoBulkAll elems + uptoBulkAll spare + 1
  | .agg parts => uptoBulkAll parts + 1
  | .iface _ d => uptoBulk d + 1
  | .map entries => uptoBulkEntries entries + 1
  | .held _ => 1
def uptoBulkAll {H : Type} : List (DataW H) → Nat
  | [] => 0
  | d :: r => uptoBulk d + uptoBulkAll r
def uptoBulkEntries {H : Type} : List (Lit × DataW H) → Nat
  | [] => 0
  | x :: r => uptoBulkEntry x + uptoBulkEntries r
def uptoBulkEntry {H : Type} : Lit × DataW H → Nat
  | (.string bytes, d) => bytes.length + uptoBulk d + 1
  | (_, d) => uptoBulk d + 1
 end
def uptoSmall : (H : Type) → List (DataW H) → Bool := fun _ ds => decide (uptoBulkAll ds ≤ 1048576)
def OpenSpec.upto (s : _root_.Go.ChangeSpec) : _root_.Go.OpenSpec := { _root_.Go.OpenSpec.ofChange s with cond := some uptoSmall }

/-- 'laws.FnExactTupleOrbit', WHERE WHAT IT READS IS OF BULK AT MOST 1048576: true; the input reads as it did. -/
def fnExactTupleOrbitUptoRow : OpenClaim := { program := "ytiaebilcgmahlaa", sum := "2d913829e83b8923cc9a51fa71b198ff9e7353a971ddaaf24d9a6c312ab6318c", func := "loop.example/g01119/laws.FnExactTupleOrbit", spec := "fnExactTupleOrbit", unfollowed := true, recurses := true, plainKeys := false, apart := false, narrowed := true }
def FnExactTupleOrbitUptoSaid : Prop := fnExactTupleOrbitUptoRow.holds Try.pinned (OpenSpec.upto fnExactTupleOrbitSpec)

/-- 'laws.FnExactCountTupleOrbits', WHERE WHAT IT READS IS OF BULK AT MOST 1048576: true; the input reads as it did. -/
def fnExactCountTupleOrbitsUptoRow : OpenClaim := { program := "ytiaebilcgmahlaa", sum := "2d913829e83b8923cc9a51fa71b198ff9e7353a971ddaaf24d9a6c312ab6318c", func := "loop.example/g01119/laws.FnExactCountTupleOrbits", spec := "fnExactCountTupleOrbits", unfollowed := true, recurses := true, plainKeys := false, apart := false, narrowed := true }
def FnExactCountTupleOrbitsUptoSaid : Prop := fnExactCountTupleOrbitsUptoRow.holds Try.pinned (OpenSpec.upto fnExactCountTupleOrbitsSpec)

/-- 'laws.FnExactClassOfWord', WHERE WHAT IT READS IS OF BULK AT MOST 1048576: true; the input reads as it did. -/
def fnExactClassOfWordUptoRow : OpenClaim := { program := "ytiaebilcgmahlaa", sum := "2d913829e83b8923cc9a51fa71b198ff9e7353a971ddaaf24d9a6c312ab6318c", func := "loop.example/g01119/laws.FnExactClassOfWord", spec := "fnExactClassOfWord", unfollowed := true, recurses := true, plainKeys := false, apart := false, narrowed := true }
def FnExactClassOfWordUptoSaid : Prop := fnExactClassOfWordUptoRow.holds Try.pinned (OpenSpec.upto fnExactClassOfWordSpec)

/-- 'laws.FnExactAreEqualWords', WHERE WHAT IT READS IS OF BULK AT MOST 1048576: true; the input reads as it did. -/
def fnExactAreEqualWordsUptoRow : OpenClaim := { program := "ytiaebilcgmahlaa", sum := "2d913829e83b8923cc9a51fa71b198ff9e7353a971ddaaf24d9a6c312ab6318c", func := "loop.example/g01119/laws.FnExactAreEqualWords", spec := "fnExactAreEqualWords", unfollowed := true, recurses := true, plainKeys := false, apart := false, narrowed := true }
def FnExactAreEqualWordsUptoSaid : Prop := fnExactAreEqualWordsUptoRow.holds Try.pinned (OpenSpec.upto fnExactAreEqualWordsSpec)

/-- 'laws.FnExactNormalWord', WHERE WHAT IT READS IS OF BULK AT MOST 1048576: true; the input reads as it did. -/
def fnExactNormalWordUptoRow : OpenClaim := { program := "ytiaebilcgmahlaa", sum := "2d913829e83b8923cc9a51fa71b198ff9e7353a971ddaaf24d9a6c312ab6318c", func := "loop.example/g01119/laws.FnExactNormalWord", spec := "fnExactNormalWord", unfollowed := true, recurses := true, plainKeys := false, apart := false, narrowed := true }
def FnExactNormalWordUptoSaid : Prop := fnExactNormalWordUptoRow.holds Try.pinned (OpenSpec.upto fnExactNormalWordSpec)

/-- 'laws.FnExactCountClasses', WHERE WHAT IT READS IS OF BULK AT MOST 1048576: true; the input reads as it did. -/
def fnExactCountClassesUptoRow : OpenClaim := { program := "ytiaebilcgmahlaa", sum := "2d913829e83b8923cc9a51fa71b198ff9e7353a971ddaaf24d9a6c312ab6318c", func := "loop.example/g01119/laws.FnExactCountClasses", spec := "fnExactCountClasses", unfollowed := true, recurses := true, plainKeys := false, apart := false, narrowed := true }
def FnExactCountClassesUptoSaid : Prop := fnExactCountClassesUptoRow.holds Try.pinned (OpenSpec.upto fnExactCountClassesSpec)

/-- 'laws.FnExactNormalWords', WHERE WHAT IT READS IS OF BULK AT MOST 1048576: true; the input reads as it did. -/
def fnExactNormalWordsUptoRow : OpenClaim := { program := "ytiaebilcgmahlaa", sum := "2d913829e83b8923cc9a51fa71b198ff9e7353a971ddaaf24d9a6c312ab6318c", func := "loop.example/g01119/laws.FnExactNormalWords", spec := "fnExactNormalWords", unfollowed := true, recurses := true, plainKeys := false, apart := false, narrowed := true }
def FnExactNormalWordsUptoSaid : Prop := fnExactNormalWordsUptoRow.holds Try.pinned (OpenSpec.upto fnExactNormalWordsSpec)

/-- 'laws.FnExactDividesWord', WHERE WHAT IT READS IS OF BULK AT MOST 1048576: true; the input reads as it did. -/
def fnExactDividesWordUptoRow : OpenClaim := { program := "ytiaebilcgmahlaa", sum := "2d913829e83b8923cc9a51fa71b198ff9e7353a971ddaaf24d9a6c312ab6318c", func := "loop.example/g01119/laws.FnExactDividesWord", spec := "fnExactDividesWord", unfollowed := true, recurses := true, plainKeys := false, apart := false, narrowed := true }
def FnExactDividesWordUptoSaid : Prop := fnExactDividesWordUptoRow.holds Try.pinned (OpenSpec.upto fnExactDividesWordSpec)

/-- 'laws.FnExactQuotientWord', WHERE WHAT IT READS IS OF BULK AT MOST 1048576: true; the input reads as it did. -/
def fnExactQuotientWordUptoRow : OpenClaim := { program := "ytiaebilcgmahlaa", sum := "2d913829e83b8923cc9a51fa71b198ff9e7353a971ddaaf24d9a6c312ab6318c", func := "loop.example/g01119/laws.FnExactQuotientWord", spec := "fnExactQuotientWord", unfollowed := true, recurses := true, plainKeys := false, apart := false, narrowed := true }
def FnExactQuotientWordUptoSaid : Prop := fnExactQuotientWordUptoRow.holds Try.pinned (OpenSpec.upto fnExactQuotientWordSpec)

/-- 'laws.FnExactActWord', WHERE WHAT IT READS IS OF BULK AT MOST 1048576: true; the input reads as it did. -/
def fnExactActWordUptoRow : OpenClaim := { program := "ytiaebilcgmahlaa", sum := "2d913829e83b8923cc9a51fa71b198ff9e7353a971ddaaf24d9a6c312ab6318c", func := "loop.example/g01119/laws.FnExactActWord", spec := "fnExactActWord", unfollowed := true, recurses := true, plainKeys := false, apart := false, narrowed := true }
def FnExactActWordUptoSaid : Prop := fnExactActWordUptoRow.holds Try.pinned (OpenSpec.upto fnExactActWordSpec)

/-- 'laws.FnExactFixedPairs', WHERE WHAT IT READS IS OF BULK AT MOST 1048576: true; the input reads as it did. -/
def fnExactFixedPairsUptoRow : OpenClaim := { program := "ytiaebilcgmahlaa", sum := "2d913829e83b8923cc9a51fa71b198ff9e7353a971ddaaf24d9a6c312ab6318c", func := "loop.example/g01119/laws.FnExactFixedPairs", spec := "fnExactFixedPairs", plainKeys := false, apart := false, narrowed := true }
def FnExactFixedPairsUptoSaid : Prop := fnExactFixedPairsUptoRow.holds Try.pinned (OpenSpec.upto fnExactFixedPairsSpec)

/-- 'laws.FnExactCommonMultiple', WHERE WHAT IT READS IS OF BULK AT MOST 1048576: true; the input reads as it did. -/
def fnExactCommonMultipleUptoRow : OpenClaim := { program := "ytiaebilcgmahlaa", sum := "2d913829e83b8923cc9a51fa71b198ff9e7353a971ddaaf24d9a6c312ab6318c", func := "loop.example/g01119/laws.FnExactCommonMultiple", spec := "fnExactCommonMultiple", plainKeys := false, apart := false, narrowed := true }
def FnExactCommonMultipleUptoSaid : Prop := fnExactCommonMultipleUptoRow.holds Try.pinned (OpenSpec.upto fnExactCommonMultipleSpec)

end Rows
end Go.Proofs.Ytiaebilcgmahlaa
