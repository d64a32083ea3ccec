/-
  No cell of these rows narrows 'for every input' (looked for: loops, veiled, ifaces, maps, wideKeys, modest, calm, conditions, laid).
  DERIVED. THE GIVEN ROWS OF THIS SEAT. 4 by the template 'for every input the law returns true; each argument reads behind the call as it read before'; 0 by the template 'total and deterministic' (their statements: YtbhlcfcmjildmaaTotals.lean).
  GIVEN WITH THE SEED: the statements are not yours to turn. If you find one false, say at which input.
  Laid BY PROGRAM, IN A SANDBOX (cutbox-rows.mjs): the forced cells as the released guide's own fill.sh prints them over the translation a545f33552b1df63… (all of the seat's roots in one cut). By AI agents, Wed Nov 11 2026. No macro, syntax, notation, axiom, sorry.
-/
import Derived.Test.YtbhlcfcmjildmaaChecked
import GoSem.Claim
import GoSem.ClaimJoined
import GoSem.ClaimMapViews
import Derived.JoinedTies
import Derived.KernelRfl
namespace Go.Proofs.Ytbhlcfcmjildmaa
/- THE CELL 'sum', in the pinned program and in every row, IS THE sha256 OF THE DUMP (.gsa) THAT YtbhlcfcmjildmaaProg.lean LOADS. Nothing in Lean hashes anything: it is a label: what it is worth is what the hold of that sum in a sandbox is worth. -/
noncomputable def Try.pinned : Pinned := { name := "ytbhlcfcmjildmaa", sum := "a545f33552b1df6310a102eb5114e7399d8c1735cc9e69e755ab68b6dd60529d", checked := Try.checked }
namespace Rows
def none {H : Type} : Left H := { results := [], args := [] }

/-- 'laws.FnExactGarsideWord': WHATEVER THE INPUT: true; the input reads as it did. -/
def fnExactGarsideWordSpec : ChangeSpec := { name := "fnExactGarsideWord", fn := fun _ => fun
  | [d] => { results := [.lit (.bool true)], args := [d] }
  | _ => none }
def fnExactGarsideWordRow : OpenClaim := { program := "ytbhlcfcmjildmaa", sum := "a545f33552b1df6310a102eb5114e7399d8c1735cc9e69e755ab68b6dd60529d", func := "loop.example/g01119/laws.FnExactGarsideWord", spec := "fnExactGarsideWord", unfollowed := true, recurses := true, plainKeys := false, apart := false }
def FnExactGarsideWordSaid : Prop := fnExactGarsideWordRow.holds Try.pinned (OpenSpec.ofChange fnExactGarsideWordSpec)

/-- ITS FALSE NEIGHBOUR: 'it returns false'. Refute it at one input. -/
def fnExactGarsideWordWrong : ChangeSpec := { name := "fnExactGarsideWord", fn := fun _ => fun
  | [d] => { results := [.lit (.bool false)], args := [d] }
  | _ => none }
def FnExactGarsideWordWrongFalsely : Prop := fnExactGarsideWordRow.holds Try.pinned (OpenSpec.ofChange fnExactGarsideWordWrong)

/-- 'laws.FnExactCommonMultiple': WHATEVER THE INPUT: true; the input reads as it did. -/
def fnExactCommonMultipleSpec : ChangeSpec := { name := "fnExactCommonMultiple", fn := fun _ => fun
  | [d1, d2, d3] => { results := [.lit (.bool true)], args := [d1, d2, d3] }
  | _ => none }
def fnExactCommonMultipleRow : OpenClaim := { program := "ytbhlcfcmjildmaa", sum := "a545f33552b1df6310a102eb5114e7399d8c1735cc9e69e755ab68b6dd60529d", func := "loop.example/g01119/laws.FnExactCommonMultiple", spec := "fnExactCommonMultiple", plainKeys := false, apart := false }
def FnExactCommonMultipleSaid : Prop := fnExactCommonMultipleRow.holds Try.pinned (OpenSpec.ofChange fnExactCommonMultipleSpec)

/-- ITS FALSE NEIGHBOUR: 'it returns false'. Refute it at one input. -/
def fnExactCommonMultipleWrong : ChangeSpec := { name := "fnExactCommonMultiple", fn := fun _ => fun
  | [d1, d2, d3] => { results := [.lit (.bool false)], args := [d1, d2, d3] }
  | _ => none }
def FnExactCommonMultipleWrongFalsely : Prop := fnExactCommonMultipleRow.holds Try.pinned (OpenSpec.ofChange fnExactCommonMultipleWrong)

/-- 'laws.FnExactNormalWords': WHATEVER THE INPUT: true; the input reads as it did. -/
def fnExactNormalWordsSpec : ChangeSpec := { name := "fnExactNormalWords", fn := fun _ => fun
  | [d1, d2] => { results := [.lit (.bool true)], args := [d1, d2] }
  | _ => none }
def fnExactNormalWordsRow : OpenClaim := { program := "ytbhlcfcmjildmaa", sum := "a545f33552b1df6310a102eb5114e7399d8c1735cc9e69e755ab68b6dd60529d", func := "loop.example/g01119/laws.FnExactNormalWords", spec := "fnExactNormalWords", unfollowed := true, recurses := true, plainKeys := false, apart := false }
def FnExactNormalWordsSaid : Prop := fnExactNormalWordsRow.holds Try.pinned (OpenSpec.ofChange fnExactNormalWordsSpec)

/-- ITS FALSE NEIGHBOUR: 'it returns false'. Refute it at one input. -/
def fnExactNormalWordsWrong : ChangeSpec := { name := "fnExactNormalWords", fn := fun _ => fun
  | [d1, d2] => { results := [.lit (.bool false)], args := [d1, d2] }
  | _ => none }
def FnExactNormalWordsWrongFalsely : Prop := fnExactNormalWordsRow.holds Try.pinned (OpenSpec.ofChange fnExactNormalWordsWrong)

/-- 'laws.FnExactClassOfWord': WHATEVER THE INPUT: true; the input reads as it did. -/
def fnExactClassOfWordSpec : ChangeSpec := { name := "fnExactClassOfWord", fn := fun _ => fun
  | [d1, d2] => { results := [.lit (.bool true)], args := [d1, d2] }
  | _ => none }
def fnExactClassOfWordRow : OpenClaim := { program := "ytbhlcfcmjildmaa", sum := "a545f33552b1df6310a102eb5114e7399d8c1735cc9e69e755ab68b6dd60529d", func := "loop.example/g01119/laws.FnExactClassOfWord", spec := "fnExactClassOfWord", unfollowed := true, recurses := true, plainKeys := false, apart := false }
def FnExactClassOfWordSaid : Prop := fnExactClassOfWordRow.holds Try.pinned (OpenSpec.ofChange fnExactClassOfWordSpec)

/-- ITS FALSE NEIGHBOUR: 'it returns false'. Refute it at one input. -/
def fnExactClassOfWordWrong : ChangeSpec := { name := "fnExactClassOfWord", fn := fun _ => fun
  | [d1, d2] => { results := [.lit (.bool false)], args := [d1, d2] }
  | _ => none }
def FnExactClassOfWordWrongFalsely : Prop := fnExactClassOfWordRow.holds Try.pinned (OpenSpec.ofChange fnExactClassOfWordWrong)

/- THE SECOND FORM. 'bulk': how many values and letters a reading holds, each counted each time it is reached (what is shared counts as often as it is met; a slice's spare places count too). A statement '..UptoSaid' is the law's where the arguments, and the package variables that the reading takes, are together of bulk at most 1048576: NARROWER than '..Said'. Prove '..Said' where nothing that the law and all that it calls make is longer than what came in: it says more and counts as full. Else prove '..UptoSaid'. A law counts once. -/
mutual
def uptoBulk {H : Type} : DataW H → Nat
  | .lit (.string bytes) => bytes.length + 1
  | .lit _ => 1
  | .nil => 1
  | .ptr d => uptoBulk d + 1
  | .slice elems spare => uptoBulkAll elems + uptoBulkAll spare + 1
  | .agg parts => uptoBulkAll parts + 1
  | .iface _ d => uptoBulk d + 1
  | .map entries => uptoBulkEntries entries + 1
  | .held _ => 1
def uptoBulkAll {H : Type} : List (DataW H) → Nat
  | [] => 0
  | d :: r => uptoBulk d + uptoBulkAll r
def uptoBulkEntries {H : Type} : List (Lit × DataW H) → Nat
  | [] => 0
  | x :: r => uptoBulkEntry x + uptoBulkEntries r
def uptoBulkEntry {H : Type} : Lit × DataW H → Nat
  | (.string bytes, d) => bytes.length + uptoBulk d + 1
  | (_, d) => uptoBulk d + 1
 end
def uptoSmall : (H : Type) → List (DataW H) → Bool := fun _ ds => decide (uptoBulkAll ds ≤ 1048576)
def OpenSpec.upto (s : _root_.Go.ChangeSpec) : _root_.Go.OpenSpec := { _root_.Go.OpenSpec.ofChange s with cond := some uptoSmall }

/-- 'laws.FnExactGarsideWord', WHERE WHAT IT READS IS OF BULK AT MOST 1048576: true; the input reads as it did. -/
def fnExactGarsideWordUptoRow : OpenClaim := { program := "ytbhlcfcmjildmaa", sum := "a545f33552b1df6310a102eb5114e7399d8c1735cc9e69e755ab68b6dd60529d", func := "loop.example/g01119/laws.FnExactGarsideWord", spec := "fnExactGarsideWord", unfollowed := true, recurses := true, plainKeys := false, apart := false, narrowed := true }
def FnExactGarsideWordUptoSaid : Prop := fnExactGarsideWordUptoRow.holds Try.pinned (OpenSpec.upto fnExactGarsideWordSpec)

/-- 'laws.FnExactCommonMultiple', WHERE WHAT IT READS IS OF BULK AT MOST 1048576: true; the input reads as it did. -/
def fnExactCommonMultipleUptoRow : OpenClaim := { program := "ytbhlcfcmjildmaa", sum := "a545f33552b1df6310a102eb5114e7399d8c1735cc9e69e755ab68b6dd60529d", func := "loop.example/g01119/laws.FnExactCommonMultiple", spec := "fnExactCommonMultiple", plainKeys := false, apart := false, narrowed := true }
def FnExactCommonMultipleUptoSaid : Prop := fnExactCommonMultipleUptoRow.holds Try.pinned (OpenSpec.upto fnExactCommonMultipleSpec)

/-- 'laws.FnExactNormalWords', WHERE WHAT IT READS IS OF BULK AT MOST 1048576: true; the input reads as it did. -/
def fnExactNormalWordsUptoRow : OpenClaim := { program := "ytbhlcfcmjildmaa", sum := "a545f33552b1df6310a102eb5114e7399d8c1735cc9e69e755ab68b6dd60529d", func := "loop.example/g01119/laws.FnExactNormalWords", spec := "fnExactNormalWords", unfollowed := true, recurses := true, plainKeys := false, apart := false, narrowed := true }
def FnExactNormalWordsUptoSaid : Prop := fnExactNormalWordsUptoRow.holds Try.pinned (OpenSpec.upto fnExactNormalWordsSpec)

/-- 'laws.FnExactClassOfWord', WHERE WHAT IT READS IS OF BULK AT MOST 1048576: true; the input reads as it did. -/
def fnExactClassOfWordUptoRow : OpenClaim := { program := "ytbhlcfcmjildmaa", sum := "a545f33552b1df6310a102eb5114e7399d8c1735cc9e69e755ab68b6dd60529d", func := "loop.example/g01119/laws.FnExactClassOfWord", spec := "fnExactClassOfWord", unfollowed := true, recurses := true, plainKeys := false, apart := false, narrowed := true }
def FnExactClassOfWordUptoSaid : Prop := fnExactClassOfWordUptoRow.holds Try.pinned (OpenSpec.upto fnExactClassOfWordSpec)

end Rows
end Go.Proofs.Ytbhlcfcmjildmaa
