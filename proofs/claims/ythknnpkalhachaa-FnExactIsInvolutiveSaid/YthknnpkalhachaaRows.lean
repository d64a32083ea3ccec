/-
  No cell of these rows narrows 'for every input' (looked for: loops, veiled, ifaces, maps, wideKeys, modest, calm, conditions, laid).
  DERIVED. THE GIVEN ROWS OF THIS SEAT. 8 by the template 'for every input the law returns true; each argument reads behind the call as it read before'; 0 by the template 'total and deterministic' (their statements: YthknnpkalhachaaTotals.lean).
  GIVEN WITH THE SEED: the statements are not yours to turn. If you find one false, say at which input.
  Laid BY PROGRAM, IN A SANDBOX (cutbox-rows.mjs): the forced cells as the released guide's own fill.sh prints them over the translation c8a366faff1d18f1… (all of the seat's roots in one cut). By AI agents, Wed Nov 11 2026. No macro, syntax, notation, axiom, sorry.
-/
import Derived.Test.YthknnpkalhachaaChecked
import GoSem.Claim
import GoSem.ClaimJoined
import GoSem.ClaimMapViews
import Derived.JoinedTies
import Derived.KernelRfl
namespace Go.Proofs.Ythknnpkalhachaa
/- THE CELL 'sum', in the pinned program and in every row, IS THE sha256 OF THE DUMP (.gsa) THAT YthknnpkalhachaaProg.lean LOADS. Nothing in Lean hashes anything: it is a label: what it is worth is what the hold of that sum in a sandbox is worth. -/
noncomputable def Try.pinned : Pinned := { name := "ythknnpkalhachaa", sum := "c8a366faff1d18f197e6e16a41946f2b0c20d6ff4295ffbb807b50a7bd745b0c", checked := Try.checked }
namespace Rows
def none {H : Type} : Left H := { results := [], args := [] }

/-- 'laws.FnExactIsSolution': WHATEVER THE INPUT: true; the input reads as it did. -/
def fnExactIsSolutionSpec : ChangeSpec := { name := "fnExactIsSolution", fn := fun _ => fun
  | [d] => { results := [.lit (.bool true)], args := [d] }
  | _ => none }
def fnExactIsSolutionRow : OpenClaim := { program := "ythknnpkalhachaa", sum := "c8a366faff1d18f197e6e16a41946f2b0c20d6ff4295ffbb807b50a7bd745b0c", func := "loop.example/g01119/laws.FnExactIsSolution", spec := "fnExactIsSolution", plainKeys := false, apart := false }
def FnExactIsSolutionSaid : Prop := fnExactIsSolutionRow.holds Try.pinned (OpenSpec.ofChange fnExactIsSolutionSpec)

/-- ITS FALSE NEIGHBOUR: 'it returns false'. Refute it at one input. -/
def fnExactIsSolutionWrong : ChangeSpec := { name := "fnExactIsSolution", fn := fun _ => fun
  | [d] => { results := [.lit (.bool false)], args := [d] }
  | _ => none }
def FnExactIsSolutionWrongFalsely : Prop := fnExactIsSolutionRow.holds Try.pinned (OpenSpec.ofChange fnExactIsSolutionWrong)

/-- 'laws.FnExactIsInvolutive': WHATEVER THE INPUT: true; the input reads as it did. -/
def fnExactIsInvolutiveSpec : ChangeSpec := { name := "fnExactIsInvolutive", fn := fun _ => fun
  | [d] => { results := [.lit (.bool true)], args := [d] }
  | _ => none }
def fnExactIsInvolutiveRow : OpenClaim := { program := "ythknnpkalhachaa", sum := "c8a366faff1d18f197e6e16a41946f2b0c20d6ff4295ffbb807b50a7bd745b0c", func := "loop.example/g01119/laws.FnExactIsInvolutive", spec := "fnExactIsInvolutive", plainKeys := false, apart := false }
def FnExactIsInvolutiveSaid : Prop := fnExactIsInvolutiveRow.holds Try.pinned (OpenSpec.ofChange fnExactIsInvolutiveSpec)

/-- ITS FALSE NEIGHBOUR: 'it returns false'. Refute it at one input. -/
def fnExactIsInvolutiveWrong : ChangeSpec := { name := "fnExactIsInvolutive", fn := fun _ => fun
  | [d] => { results := [.lit (.bool false)], args := [d] }
  | _ => none }
def FnExactIsInvolutiveWrongFalsely : Prop := fnExactIsInvolutiveRow.holds Try.pinned (OpenSpec.ofChange fnExactIsInvolutiveWrong)

/-- 'laws.FnExactConjugationQuandle': WHATEVER THE INPUT: true; the input reads as it did. -/
def fnExactConjugationQuandleSpec : ChangeSpec := { name := "fnExactConjugationQuandle", fn := fun _ => fun
  | [d] => { results := [.lit (.bool true)], args := [d] }
  | _ => none }
def fnExactConjugationQuandleRow : OpenClaim := { program := "ythknnpkalhachaa", sum := "c8a366faff1d18f197e6e16a41946f2b0c20d6ff4295ffbb807b50a7bd745b0c", func := "loop.example/g01119/laws.FnExactConjugationQuandle", spec := "fnExactConjugationQuandle", unfollowed := true, recurses := true, plainKeys := false, apart := false }
def FnExactConjugationQuandleSaid : Prop := fnExactConjugationQuandleRow.holds Try.pinned (OpenSpec.ofChange fnExactConjugationQuandleSpec)

/-- ITS FALSE NEIGHBOUR: 'it returns false'. Refute it at one input. -/
def fnExactConjugationQuandleWrong : ChangeSpec := { name := "fnExactConjugationQuandle", fn := fun _ => fun
  | [d] => { results := [.lit (.bool false)], args := [d] }
  | _ => none }
def FnExactConjugationQuandleWrongFalsely : Prop := fnExactConjugationQuandleRow.holds Try.pinned (OpenSpec.ofChange fnExactConjugationQuandleWrong)

/-- 'laws.FnExactClassQuandle': WHATEVER THE INPUT: true; the input reads as it did. -/
def fnExactClassQuandleSpec : ChangeSpec := { name := "fnExactClassQuandle", fn := fun _ => fun
  | [d] => { results := [.lit (.bool true)], args := [d] }
  | _ => none }
def fnExactClassQuandleRow : OpenClaim := { program := "ythknnpkalhachaa", sum := "c8a366faff1d18f197e6e16a41946f2b0c20d6ff4295ffbb807b50a7bd745b0c", func := "loop.example/g01119/laws.FnExactClassQuandle", spec := "fnExactClassQuandle", unfollowed := true, recurses := true, plainKeys := false, apart := false }
def FnExactClassQuandleSaid : Prop := fnExactClassQuandleRow.holds Try.pinned (OpenSpec.ofChange fnExactClassQuandleSpec)

/-- ITS FALSE NEIGHBOUR: 'it returns false'. Refute it at one input. -/
def fnExactClassQuandleWrong : ChangeSpec := { name := "fnExactClassQuandle", fn := fun _ => fun
  | [d] => { results := [.lit (.bool false)], args := [d] }
  | _ => none }
def FnExactClassQuandleWrongFalsely : Prop := fnExactClassQuandleRow.holds Try.pinned (OpenSpec.ofChange fnExactClassQuandleWrong)

/-- 'laws.FnExactCycleSetOfSolution': WHATEVER THE INPUT: true; the input reads as it did. -/
def fnExactCycleSetOfSolutionSpec : ChangeSpec := { name := "fnExactCycleSetOfSolution", fn := fun _ => fun
  | [d] => { results := [.lit (.bool true)], args := [d] }
  | _ => none }
def fnExactCycleSetOfSolutionRow : OpenClaim := { program := "ythknnpkalhachaa", sum := "c8a366faff1d18f197e6e16a41946f2b0c20d6ff4295ffbb807b50a7bd745b0c", func := "loop.example/g01119/laws.FnExactCycleSetOfSolution", spec := "fnExactCycleSetOfSolution", plainKeys := false, apart := false }
def FnExactCycleSetOfSolutionSaid : Prop := fnExactCycleSetOfSolutionRow.holds Try.pinned (OpenSpec.ofChange fnExactCycleSetOfSolutionSpec)

/-- ITS FALSE NEIGHBOUR: 'it returns false'. Refute it at one input. -/
def fnExactCycleSetOfSolutionWrong : ChangeSpec := { name := "fnExactCycleSetOfSolution", fn := fun _ => fun
  | [d] => { results := [.lit (.bool false)], args := [d] }
  | _ => none }
def FnExactCycleSetOfSolutionWrongFalsely : Prop := fnExactCycleSetOfSolutionRow.holds Try.pinned (OpenSpec.ofChange fnExactCycleSetOfSolutionWrong)

/-- 'laws.FnExactGuitarMap': WHATEVER THE INPUT: true; the input reads as it did. -/
def fnExactGuitarMapSpec : ChangeSpec := { name := "fnExactGuitarMap", fn := fun _ => fun
  | [d1, d2] => { results := [.lit (.bool true)], args := [d1, d2] }
  | _ => none }
def fnExactGuitarMapRow : OpenClaim := { program := "ythknnpkalhachaa", sum := "c8a366faff1d18f197e6e16a41946f2b0c20d6ff4295ffbb807b50a7bd745b0c", func := "loop.example/g01119/laws.FnExactGuitarMap", spec := "fnExactGuitarMap", unfollowed := true, recurses := true, plainKeys := false, apart := false }
def FnExactGuitarMapSaid : Prop := fnExactGuitarMapRow.holds Try.pinned (OpenSpec.ofChange fnExactGuitarMapSpec)

/-- ITS FALSE NEIGHBOUR: 'it returns false'. Refute it at one input. -/
def fnExactGuitarMapWrong : ChangeSpec := { name := "fnExactGuitarMap", fn := fun _ => fun
  | [d1, d2] => { results := [.lit (.bool false)], args := [d1, d2] }
  | _ => none }
def FnExactGuitarMapWrongFalsely : Prop := fnExactGuitarMapRow.holds Try.pinned (OpenSpec.ofChange fnExactGuitarMapWrong)

/-- 'laws.FnExactDivisorsOfWord': WHATEVER THE INPUT: true; the input reads as it did. -/
def fnExactDivisorsOfWordSpec : ChangeSpec := { name := "fnExactDivisorsOfWord", fn := fun _ => fun
  | [d1, d2] => { results := [.lit (.bool true)], args := [d1, d2] }
  | _ => none }
def fnExactDivisorsOfWordRow : OpenClaim := { program := "ythknnpkalhachaa", sum := "c8a366faff1d18f197e6e16a41946f2b0c20d6ff4295ffbb807b50a7bd745b0c", func := "loop.example/g01119/laws.FnExactDivisorsOfWord", spec := "fnExactDivisorsOfWord", unfollowed := true, recurses := true, plainKeys := false, apart := false }
def FnExactDivisorsOfWordSaid : Prop := fnExactDivisorsOfWordRow.holds Try.pinned (OpenSpec.ofChange fnExactDivisorsOfWordSpec)

/-- ITS FALSE NEIGHBOUR: 'it returns false'. Refute it at one input. -/
def fnExactDivisorsOfWordWrong : ChangeSpec := { name := "fnExactDivisorsOfWord", fn := fun _ => fun
  | [d1, d2] => { results := [.lit (.bool false)], args := [d1, d2] }
  | _ => none }
def FnExactDivisorsOfWordWrongFalsely : Prop := fnExactDivisorsOfWordRow.holds Try.pinned (OpenSpec.ofChange fnExactDivisorsOfWordWrong)

/-- 'laws.FnExactGarsideWord': WHATEVER THE INPUT: true; the input reads as it did. -/
def fnExactGarsideWordSpec : ChangeSpec := { name := "fnExactGarsideWord", fn := fun _ => fun
  | [d] => { results := [.lit (.bool true)], args := [d] }
  | _ => none }
def fnExactGarsideWordRow : OpenClaim := { program := "ythknnpkalhachaa", sum := "c8a366faff1d18f197e6e16a41946f2b0c20d6ff4295ffbb807b50a7bd745b0c", func := "loop.example/g01119/laws.FnExactGarsideWord", spec := "fnExactGarsideWord", unfollowed := true, recurses := true, plainKeys := false, apart := false }
def FnExactGarsideWordSaid : Prop := fnExactGarsideWordRow.holds Try.pinned (OpenSpec.ofChange fnExactGarsideWordSpec)

/-- ITS FALSE NEIGHBOUR: 'it returns false'. Refute it at one input. -/
def fnExactGarsideWordWrong : ChangeSpec := { name := "fnExactGarsideWord", fn := fun _ => fun
  | [d] => { results := [.lit (.bool false)], args := [d] }
  | _ => none }
def FnExactGarsideWordWrongFalsely : Prop := fnExactGarsideWordRow.holds Try.pinned (OpenSpec.ofChange fnExactGarsideWordWrong)

/- THE SECOND FORM. 'bulk': how many values and letters a reading holds, each counted each time it is reached (what is shared counts as often as it is met; a slice's spare places count too). A statement '..UptoSaid' is the law's where the arguments, and the package variables that the reading takes, are together of bulk at most 1048576: NARROWER than '..Said'. Prove '..Said' where nothing that the law and all that it calls make is longer than what came in: it says more and counts as full. Else prove '..UptoSaid'. A law counts once. -/
mutual
def uptoBulk {H : Type} : DataW H → Nat
  | .lit (.string bytes) => bytes.length + 1
  | .lit _ => 1
  | .nil => 1
  | .ptr d => uptoBulk d + 1
  | .slice elems spare => uptoBulkAll elems + uptoBulkAll spare + 1
  | .agg parts => uptoBulkAll parts + 1
  | .iface _ d => uptoBulk d + 1
  | .map entries => uptoBulkEntries entries + 1
  | .held _ => 1
def uptoBulkAll {H : Type} : List (DataW H) → Nat
  | [] => 0
  | d :: r => uptoBulk d + uptoBulkAll r
def uptoBulkEntries {H : Type} : List (Lit × DataW H) → Nat
  | [] => 0
  | x :: r => uptoBulkEntry x + uptoBulkEntries r
def uptoBulkEntry {H : Type} : Lit × DataW H → Nat
  | (.string bytes, d) => bytes.length + uptoBulk d + 1
  | (_, d) => uptoBulk d + 1
 end
def uptoSmall : (H : Type) → List (DataW H) → Bool := fun _ ds => decide (uptoBulkAll ds ≤ 1048576)
def OpenSpec.upto (s : _root_.Go.ChangeSpec) : _root_.Go.OpenSpec := { _root_.Go.OpenSpec.ofChange s with cond := some uptoSmall }

/-- 'laws.FnExactIsSolution', WHERE WHAT IT READS IS OF BULK AT MOST 1048576: true; the input reads as it did. -/
def fnExactIsSolutionUptoRow : OpenClaim := { program := "ythknnpkalhachaa", sum := "c8a366faff1d18f197e6e16a41946f2b0c20d6ff4295ffbb807b50a7bd745b0c", func := "loop.example/g01119/laws.FnExactIsSolution", spec := "fnExactIsSolution", plainKeys := false, apart := false, narrowed := true }
def FnExactIsSolutionUptoSaid : Prop := fnExactIsSolutionUptoRow.holds Try.pinned (OpenSpec.upto fnExactIsSolutionSpec)

/-- 'laws.FnExactIsInvolutive', WHERE WHAT IT READS IS OF BULK AT MOST 1048576: true; the input reads as it did. -/
def fnExactIsInvolutiveUptoRow : OpenClaim := { program := "ythknnpkalhachaa", sum := "c8a366faff1d18f197e6e16a41946f2b0c20d6ff4295ffbb807b50a7bd745b0c", func := "loop.example/g01119/laws.FnExactIsInvolutive", spec := "fnExactIsInvolutive", plainKeys := false, apart := false, narrowed := true }
def FnExactIsInvolutiveUptoSaid : Prop := fnExactIsInvolutiveUptoRow.holds Try.pinned (OpenSpec.upto fnExactIsInvolutiveSpec)

/-- 'laws.FnExactConjugationQuandle', WHERE WHAT IT READS IS OF BULK AT MOST 1048576: true; the input reads as it did. -/
def fnExactConjugationQuandleUptoRow : OpenClaim := { program := "ythknnpkalhachaa", sum := "c8a366faff1d18f197e6e16a41946f2b0c20d6ff4295ffbb807b50a7bd745b0c", func := "loop.example/g01119/laws.FnExactConjugationQuandle", spec := "fnExactConjugationQuandle", unfollowed := true, recurses := true, plainKeys := false, apart := false, narrowed := true }
def FnExactConjugationQuandleUptoSaid : Prop := fnExactConjugationQuandleUptoRow.holds Try.pinned (OpenSpec.upto fnExactConjugationQuandleSpec)

/-- 'laws.FnExactClassQuandle', WHERE WHAT IT READS IS OF BULK AT MOST 1048576: true; the input reads as it did. -/
def fnExactClassQuandleUptoRow : OpenClaim := { program := "ythknnpkalhachaa", sum := "c8a366faff1d18f197e6e16a41946f2b0c20d6ff4295ffbb807b50a7bd745b0c", func := "loop.example/g01119/laws.FnExactClassQuandle", spec := "fnExactClassQuandle", unfollowed := true, recurses := true, plainKeys := false, apart := false, narrowed := true }
def FnExactClassQuandleUptoSaid : Prop := fnExactClassQuandleUptoRow.holds Try.pinned (OpenSpec.upto fnExactClassQuandleSpec)

/-- 'laws.FnExactCycleSetOfSolution', WHERE WHAT IT READS IS OF BULK AT MOST 1048576: true; the input reads as it did. -/
def fnExactCycleSetOfSolutionUptoRow : OpenClaim := { program := "ythknnpkalhachaa", sum := "c8a366faff1d18f197e6e16a41946f2b0c20d6ff4295ffbb807b50a7bd745b0c", func := "loop.example/g01119/laws.FnExactCycleSetOfSolution", spec := "fnExactCycleSetOfSolution", plainKeys := false, apart := false, narrowed := true }
def FnExactCycleSetOfSolutionUptoSaid : Prop := fnExactCycleSetOfSolutionUptoRow.holds Try.pinned (OpenSpec.upto fnExactCycleSetOfSolutionSpec)

/-- 'laws.FnExactGuitarMap', WHERE WHAT IT READS IS OF BULK AT MOST 1048576: true; the input reads as it did. -/
def fnExactGuitarMapUptoRow : OpenClaim := { program := "ythknnpkalhachaa", sum := "c8a366faff1d18f197e6e16a41946f2b0c20d6ff4295ffbb807b50a7bd745b0c", func := "loop.example/g01119/laws.FnExactGuitarMap", spec := "fnExactGuitarMap", unfollowed := true, recurses := true, plainKeys := false, apart := false, narrowed := true }
def FnExactGuitarMapUptoSaid : Prop := fnExactGuitarMapUptoRow.holds Try.pinned (OpenSpec.upto fnExactGuitarMapSpec)

/-- 'laws.FnExactDivisorsOfWord', WHERE WHAT IT READS IS OF BULK AT MOST 1048576: true; the input reads as it did. -/
def fnExactDivisorsOfWordUptoRow : OpenClaim := { program := "ythknnpkalhachaa", sum := "c8a366faff1d18f197e6e16a41946f2b0c20d6ff4295ffbb807b50a7bd745b0c", func := "loop.example/g01119/laws.FnExactDivisorsOfWord", spec := "fnExactDivisorsOfWord", unfollowed := true, recurses := true, plainKeys := false, apart := false, narrowed := true }
def FnExactDivisorsOfWordUptoSaid : Prop := fnExactDivisorsOfWordUptoRow.holds Try.pinned (OpenSpec.upto fnExactDivisorsOfWordSpec)

/-- 'laws.FnExactGarsideWord', WHERE WHAT IT READS IS OF BULK AT MOST 1048576: true; the input reads as it did. -/
def fnExactGarsideWordUptoRow : OpenClaim := { program := "ythknnpkalhachaa", sum := "c8a366faff1d18f197e6e16a41946f2b0c20d6ff4295ffbb807b50a7bd745b0c", func := "loop.example/g01119/laws.FnExactGarsideWord", spec := "fnExactGarsideWord", unfollowed := true, recurses := true, plainKeys := false, apart := false, narrowed := true }
def FnExactGarsideWordUptoSaid : Prop := fnExactGarsideWordUptoRow.holds Try.pinned (OpenSpec.upto fnExactGarsideWordSpec)

end Rows
end Go.Proofs.Ythknnpkalhachaa
