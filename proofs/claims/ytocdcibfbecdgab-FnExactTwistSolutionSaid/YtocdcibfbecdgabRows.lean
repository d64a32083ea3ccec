/-
  No cell of these rows narrows 'for every input' (looked for: loops, veiled, ifaces, maps, wideKeys, modest, calm, conditions, laid).
  DERIVED. THE GIVEN ROWS OF THIS SEAT. 11 by the template 'for every input the law returns true; each argument reads behind the call as it read before'; 0 by the template 'total and deterministic' (their statements: YtocdcibfbecdgabTotals.lean).
  GIVEN WITH THE SEED: the statements are not yours to turn. If you find one false, say at which input.
  Laid BY PROGRAM, IN A SANDBOX (cutbox-rows.mjs): the forced cells as the released guide's own fill.sh prints them over the translation 7c586359747f2a61… (all of the seat's roots in one cut). By AI agents, Wed Nov 11 2026. No macro, syntax, notation, axiom, sorry.
-/
import Derived.Test.YtocdcibfbecdgabChecked
import GoSem.Claim
import GoSem.ClaimJoined
import GoSem.ClaimMapViews
import Derived.JoinedTies
import Derived.KernelRfl
namespace Go.Proofs.Ytocdcibfbecdgab
/- THE CELL 'sum', in the pinned program and in every row, IS THE sha256 OF THE DUMP (.gsa) THAT YtocdcibfbecdgabProg.lean LOADS. Nothing in Lean hashes anything: it is a label: what it is worth is what the hold of that sum in a sandbox is worth. -/
noncomputable def Try.pinned : Pinned := { name := "ytocdcibfbecdgab", sum := "7c586359747f2a61bb95c11915dfbdea2f81c37e3806f45d86936fa338e6f197", checked := Try.checked }
namespace Rows
def none {H : Type} : Left H := { results := [], args := [] }

/-- 'laws.FnExactMirrorSolution': WHATEVER THE INPUT: true; the input reads as it did. -/
def fnExactMirrorSolutionSpec : ChangeSpec := { name := "fnExactMirrorSolution", fn := fun _ => fun
  | [d] => { results := [.lit (.bool true)], args := [d] }
  | _ => none }
def fnExactMirrorSolutionRow : OpenClaim := { program := "ytocdcibfbecdgab", sum := "7c586359747f2a61bb95c11915dfbdea2f81c37e3806f45d86936fa338e6f197", func := "loop.example/g01119/laws.FnExactMirrorSolution", spec := "fnExactMirrorSolution", unfollowed := true, recurses := true, plainKeys := false, apart := false }
def FnExactMirrorSolutionSaid : Prop := fnExactMirrorSolutionRow.holds Try.pinned (OpenSpec.ofChange fnExactMirrorSolutionSpec)

/-- ITS FALSE NEIGHBOUR: 'it returns false'. Refute it at one input. -/
def fnExactMirrorSolutionWrong : ChangeSpec := { name := "fnExactMirrorSolution", fn := fun _ => fun
  | [d] => { results := [.lit (.bool false)], args := [d] }
  | _ => none }
def FnExactMirrorSolutionWrongFalsely : Prop := fnExactMirrorSolutionRow.holds Try.pinned (OpenSpec.ofChange fnExactMirrorSolutionWrong)

/-- 'laws.FnExactFlipSolution': WHATEVER THE INPUT: true; the input reads as it did. -/
def fnExactFlipSolutionSpec : ChangeSpec := { name := "fnExactFlipSolution", fn := fun _ => fun
  | [d] => { results := [.lit (.bool true)], args := [d] }
  | _ => none }
def fnExactFlipSolutionRow : OpenClaim := { program := "ytocdcibfbecdgab", sum := "7c586359747f2a61bb95c11915dfbdea2f81c37e3806f45d86936fa338e6f197", func := "loop.example/g01119/laws.FnExactFlipSolution", spec := "fnExactFlipSolution", unfollowed := true, recurses := true, plainKeys := false, apart := false }
def FnExactFlipSolutionSaid : Prop := fnExactFlipSolutionRow.holds Try.pinned (OpenSpec.ofChange fnExactFlipSolutionSpec)

/-- ITS FALSE NEIGHBOUR: 'it returns false'. Refute it at one input. -/
def fnExactFlipSolutionWrong : ChangeSpec := { name := "fnExactFlipSolution", fn := fun _ => fun
  | [d] => { results := [.lit (.bool false)], args := [d] }
  | _ => none }
def FnExactFlipSolutionWrongFalsely : Prop := fnExactFlipSolutionRow.holds Try.pinned (OpenSpec.ofChange fnExactFlipSolutionWrong)

/-- 'laws.FnExactTwistSolution': WHATEVER THE INPUT: true; the input reads as it did. -/
def fnExactTwistSolutionSpec : ChangeSpec := { name := "fnExactTwistSolution", fn := fun _ => fun
  | [d1, d2] => { results := [.lit (.bool true)], args := [d1, d2] }
  | _ => none }
def fnExactTwistSolutionRow : OpenClaim := { program := "ytocdcibfbecdgab", sum := "7c586359747f2a61bb95c11915dfbdea2f81c37e3806f45d86936fa338e6f197", func := "loop.example/g01119/laws.FnExactTwistSolution", spec := "fnExactTwistSolution", unfollowed := true, recurses := true, plainKeys := false, apart := false }
def FnExactTwistSolutionSaid : Prop := fnExactTwistSolutionRow.holds Try.pinned (OpenSpec.ofChange fnExactTwistSolutionSpec)

/-- ITS FALSE NEIGHBOUR: 'it returns false'. Refute it at one input. -/
def fnExactTwistSolutionWrong : ChangeSpec := { name := "fnExactTwistSolution", fn := fun _ => fun
  | [d1, d2] => { results := [.lit (.bool false)], args := [d1, d2] }
  | _ => none }
def FnExactTwistSolutionWrongFalsely : Prop := fnExactTwistSolutionRow.holds Try.pinned (OpenSpec.ofChange fnExactTwistSolutionWrong)

/-- 'laws.FnExactProductSolution': WHATEVER THE INPUT: true; the input reads as it did. -/
def fnExactProductSolutionSpec : ChangeSpec := { name := "fnExactProductSolution", fn := fun _ => fun
  | [d1, d2] => { results := [.lit (.bool true)], args := [d1, d2] }
  | _ => none }
def fnExactProductSolutionRow : OpenClaim := { program := "ytocdcibfbecdgab", sum := "7c586359747f2a61bb95c11915dfbdea2f81c37e3806f45d86936fa338e6f197", func := "loop.example/g01119/laws.FnExactProductSolution", spec := "fnExactProductSolution", unfollowed := true, recurses := true, plainKeys := false, apart := false }
def FnExactProductSolutionSaid : Prop := fnExactProductSolutionRow.holds Try.pinned (OpenSpec.ofChange fnExactProductSolutionSpec)

/-- ITS FALSE NEIGHBOUR: 'it returns false'. Refute it at one input. -/
def fnExactProductSolutionWrong : ChangeSpec := { name := "fnExactProductSolution", fn := fun _ => fun
  | [d1, d2] => { results := [.lit (.bool false)], args := [d1, d2] }
  | _ => none }
def FnExactProductSolutionWrongFalsely : Prop := fnExactProductSolutionRow.holds Try.pinned (OpenSpec.ofChange fnExactProductSolutionWrong)

/-- 'laws.FnExactUnionSolution': WHATEVER THE INPUT: true; the input reads as it did. -/
def fnExactUnionSolutionSpec : ChangeSpec := { name := "fnExactUnionSolution", fn := fun _ => fun
  | [d1, d2] => { results := [.lit (.bool true)], args := [d1, d2] }
  | _ => none }
def fnExactUnionSolutionRow : OpenClaim := { program := "ytocdcibfbecdgab", sum := "7c586359747f2a61bb95c11915dfbdea2f81c37e3806f45d86936fa338e6f197", func := "loop.example/g01119/laws.FnExactUnionSolution", spec := "fnExactUnionSolution", unfollowed := true, recurses := true, plainKeys := false, apart := false }
def FnExactUnionSolutionSaid : Prop := fnExactUnionSolutionRow.holds Try.pinned (OpenSpec.ofChange fnExactUnionSolutionSpec)

/-- ITS FALSE NEIGHBOUR: 'it returns false'. Refute it at one input. -/
def fnExactUnionSolutionWrong : ChangeSpec := { name := "fnExactUnionSolution", fn := fun _ => fun
  | [d1, d2] => { results := [.lit (.bool false)], args := [d1, d2] }
  | _ => none }
def FnExactUnionSolutionWrongFalsely : Prop := fnExactUnionSolutionRow.holds Try.pinned (OpenSpec.ofChange fnExactUnionSolutionWrong)

/-- 'laws.FnExactSubSolution': WHATEVER THE INPUT: true; the input reads as it did. -/
def fnExactSubSolutionSpec : ChangeSpec := { name := "fnExactSubSolution", fn := fun _ => fun
  | [d1, d2] => { results := [.lit (.bool true)], args := [d1, d2] }
  | _ => none }
def fnExactSubSolutionRow : OpenClaim := { program := "ytocdcibfbecdgab", sum := "7c586359747f2a61bb95c11915dfbdea2f81c37e3806f45d86936fa338e6f197", func := "loop.example/g01119/laws.FnExactSubSolution", spec := "fnExactSubSolution", unfollowed := true, recurses := true, plainKeys := false, apart := false }
def FnExactSubSolutionSaid : Prop := fnExactSubSolutionRow.holds Try.pinned (OpenSpec.ofChange fnExactSubSolutionSpec)

/-- ITS FALSE NEIGHBOUR: 'it returns false'. Refute it at one input. -/
def fnExactSubSolutionWrong : ChangeSpec := { name := "fnExactSubSolution", fn := fun _ => fun
  | [d1, d2] => { results := [.lit (.bool false)], args := [d1, d2] }
  | _ => none }
def FnExactSubSolutionWrongFalsely : Prop := fnExactSubSolutionRow.holds Try.pinned (OpenSpec.ofChange fnExactSubSolutionWrong)

/-- 'laws.FnExactInverseSolution': WHATEVER THE INPUT: true; the input reads as it did. -/
def fnExactInverseSolutionSpec : ChangeSpec := { name := "fnExactInverseSolution", fn := fun _ => fun
  | [d] => { results := [.lit (.bool true)], args := [d] }
  | _ => none }
def fnExactInverseSolutionRow : OpenClaim := { program := "ytocdcibfbecdgab", sum := "7c586359747f2a61bb95c11915dfbdea2f81c37e3806f45d86936fa338e6f197", func := "loop.example/g01119/laws.FnExactInverseSolution", spec := "fnExactInverseSolution", unfollowed := true, recurses := true, plainKeys := false, apart := false }
def FnExactInverseSolutionSaid : Prop := fnExactInverseSolutionRow.holds Try.pinned (OpenSpec.ofChange fnExactInverseSolutionSpec)

/-- ITS FALSE NEIGHBOUR: 'it returns false'. Refute it at one input. -/
def fnExactInverseSolutionWrong : ChangeSpec := { name := "fnExactInverseSolution", fn := fun _ => fun
  | [d] => { results := [.lit (.bool false)], args := [d] }
  | _ => none }
def FnExactInverseSolutionWrongFalsely : Prop := fnExactInverseSolutionRow.holds Try.pinned (OpenSpec.ofChange fnExactInverseSolutionWrong)

/-- 'laws.FnExactOrderOfSolution': WHATEVER THE INPUT: true; the input reads as it did. -/
def fnExactOrderOfSolutionSpec : ChangeSpec := { name := "fnExactOrderOfSolution", fn := fun _ => fun
  | [d] => { results := [.lit (.bool true)], args := [d] }
  | _ => none }
def fnExactOrderOfSolutionRow : OpenClaim := { program := "ytocdcibfbecdgab", sum := "7c586359747f2a61bb95c11915dfbdea2f81c37e3806f45d86936fa338e6f197", func := "loop.example/g01119/laws.FnExactOrderOfSolution", spec := "fnExactOrderOfSolution", plainKeys := false, apart := false }
def FnExactOrderOfSolutionSaid : Prop := fnExactOrderOfSolutionRow.holds Try.pinned (OpenSpec.ofChange fnExactOrderOfSolutionSpec)

/-- ITS FALSE NEIGHBOUR: 'it returns false'. Refute it at one input. -/
def fnExactOrderOfSolutionWrong : ChangeSpec := { name := "fnExactOrderOfSolution", fn := fun _ => fun
  | [d] => { results := [.lit (.bool false)], args := [d] }
  | _ => none }
def FnExactOrderOfSolutionWrongFalsely : Prop := fnExactOrderOfSolutionRow.holds Try.pinned (OpenSpec.ofChange fnExactOrderOfSolutionWrong)

/-- 'laws.FnExactSolutionIsomorphism': WHATEVER THE INPUT: true; the input reads as it did. -/
def fnExactSolutionIsomorphismSpec : ChangeSpec := { name := "fnExactSolutionIsomorphism", fn := fun _ => fun
  | [d1, d2] => { results := [.lit (.bool true)], args := [d1, d2] }
  | _ => none }
def fnExactSolutionIsomorphismRow : OpenClaim := { program := "ytocdcibfbecdgab", sum := "7c586359747f2a61bb95c11915dfbdea2f81c37e3806f45d86936fa338e6f197", func := "loop.example/g01119/laws.FnExactSolutionIsomorphism", spec := "fnExactSolutionIsomorphism", recurses := true, plainKeys := false, apart := false }
def FnExactSolutionIsomorphismSaid : Prop := fnExactSolutionIsomorphismRow.holds Try.pinned (OpenSpec.ofChange fnExactSolutionIsomorphismSpec)

/-- ITS FALSE NEIGHBOUR: 'it returns false'. Refute it at one input. -/
def fnExactSolutionIsomorphismWrong : ChangeSpec := { name := "fnExactSolutionIsomorphism", fn := fun _ => fun
  | [d1, d2] => { results := [.lit (.bool false)], args := [d1, d2] }
  | _ => none }
def FnExactSolutionIsomorphismWrongFalsely : Prop := fnExactSolutionIsomorphismRow.holds Try.pinned (OpenSpec.ofChange fnExactSolutionIsomorphismWrong)

/-- 'laws.FnExactSolutionAutomorphisms': WHATEVER THE INPUT: true; the input reads as it did. -/
def fnExactSolutionAutomorphismsSpec : ChangeSpec := { name := "fnExactSolutionAutomorphisms", fn := fun _ => fun
  | [d] => { results := [.lit (.bool true)], args := [d] }
  | _ => none }
def fnExactSolutionAutomorphismsRow : OpenClaim := { program := "ytocdcibfbecdgab", sum := "7c586359747f2a61bb95c11915dfbdea2f81c37e3806f45d86936fa338e6f197", func := "loop.example/g01119/laws.FnExactSolutionAutomorphisms", spec := "fnExactSolutionAutomorphisms", unfollowed := true, recurses := true, plainKeys := false, apart := false }
def FnExactSolutionAutomorphismsSaid : Prop := fnExactSolutionAutomorphismsRow.holds Try.pinned (OpenSpec.ofChange fnExactSolutionAutomorphismsSpec)

/-- ITS FALSE NEIGHBOUR: 'it returns false'. Refute it at one input. -/
def fnExactSolutionAutomorphismsWrong : ChangeSpec := { name := "fnExactSolutionAutomorphisms", fn := fun _ => fun
  | [d] => { results := [.lit (.bool false)], args := [d] }
  | _ => none }
def FnExactSolutionAutomorphismsWrongFalsely : Prop := fnExactSolutionAutomorphismsRow.holds Try.pinned (OpenSpec.ofChange fnExactSolutionAutomorphismsWrong)

/-- 'laws.FnExactGroupElements': WHATEVER THE INPUT: true; the input reads as it did. -/
def fnExactGroupElementsSpec : ChangeSpec := { name := "fnExactGroupElements", fn := fun _ => fun
  | [d1, d2] => { results := [.lit (.bool true)], args := [d1, d2] }
  | _ => none }
def fnExactGroupElementsRow : OpenClaim := { program := "ytocdcibfbecdgab", sum := "7c586359747f2a61bb95c11915dfbdea2f81c37e3806f45d86936fa338e6f197", func := "loop.example/g01119/laws.FnExactGroupElements", spec := "fnExactGroupElements", unfollowed := true, recurses := true, plainKeys := false, apart := false }
def FnExactGroupElementsSaid : Prop := fnExactGroupElementsRow.holds Try.pinned (OpenSpec.ofChange fnExactGroupElementsSpec)

/-- ITS FALSE NEIGHBOUR: 'it returns false'. Refute it at one input. -/
def fnExactGroupElementsWrong : ChangeSpec := { name := "fnExactGroupElements", fn := fun _ => fun
  | [d1, d2] => { results := [.lit (.bool false)], args := [d1, d2] }
  | _ => none }
def FnExactGroupElementsWrongFalsely : Prop := fnExactGroupElementsRow.holds Try.pinned (OpenSpec.ofChange fnExactGroupElementsWrong)

/- THE SECOND FORM. 'bulk': how many values and letters a reading holds, each counted each time it is reached (what is shared counts as often as it is met; a slice's spare places count too). A statement '..UptoSaid' is the law's where the arguments, and the package variables that the reading takes, are together of bulk at most 1048576: NARROWER than '..Said'. Prove '..Said' where nothing that the law and all that it calls make is longer than what came in: it says more and counts as full. Else prove '..UptoSaid'. A law counts once. -/
mutual
def uptoBulk {H : Type} : DataW H → Nat
  | .lit (.string bytes) => bytes.length + 1
  | .lit _ => 1
  | .nil => 1
  | .ptr d => uptoBulk d + 1
  | .slice elems spare => uptoBulkAll elems + uptoBulkAll spare + 1
  | .agg parts => uptoBulkAll parts + 1
  | .iface _ d => uptoBulk d + 1
  | .map entries => uptoBulkEntries entries + 1
  | .held _ => 1
def uptoBulkAll {H : Type} : List (DataW H) → Nat
  | [] => 0
  | d :: r => uptoBulk d + uptoBulkAll r
def uptoBulkEntries {H : Type} : List (Lit × DataW H) → Nat
  | [] => 0
  | x :: r => uptoBulkEntry x + uptoBulkEntries r
def uptoBulkEntry {H : Type} : Lit × DataW H → Nat
  | (.string bytes, d) => bytes.length + uptoBulk d + 1
  | (_, d) => uptoBulk d + 1
 end
def uptoSmall : (H : Type) → List (DataW H) → Bool := fun _ ds => decide (uptoBulkAll ds ≤ 1048576)
def OpenSpec.upto (s : _root_.Go.ChangeSpec) : _root_.Go.OpenSpec := { _root_.Go.OpenSpec.ofChange s with cond := some uptoSmall }

/-- 'laws.FnExactMirrorSolution', WHERE WHAT IT READS IS OF BULK AT MOST 1048576: true; the input reads as it did. -/
def fnExactMirrorSolutionUptoRow : OpenClaim := { program := "ytocdcibfbecdgab", sum := "7c586359747f2a61bb95c11915dfbdea2f81c37e3806f45d86936fa338e6f197", func := "loop.example/g01119/laws.FnExactMirrorSolution", spec := "fnExactMirrorSolution", unfollowed := true, recurses := true, plainKeys := false, apart := false, narrowed := true }
def FnExactMirrorSolutionUptoSaid : Prop := fnExactMirrorSolutionUptoRow.holds Try.pinned (OpenSpec.upto fnExactMirrorSolutionSpec)

/-- 'laws.FnExactFlipSolution', WHERE WHAT IT READS IS OF BULK AT MOST 1048576: true; the input reads as it did. -/
def fnExactFlipSolutionUptoRow : OpenClaim := { program := "ytocdcibfbecdgab", sum := "7c586359747f2a61bb95c11915dfbdea2f81c37e3806f45d86936fa338e6f197", func := "loop.example/g01119/laws.FnExactFlipSolution", spec := "fnExactFlipSolution", unfollowed := true, recurses := true, plainKeys := false, apart := false, narrowed := true }
def FnExactFlipSolutionUptoSaid : Prop := fnExactFlipSolutionUptoRow.holds Try.pinned (OpenSpec.upto fnExactFlipSolutionSpec)

/-- 'laws.FnExactTwistSolution', WHERE WHAT IT READS IS OF BULK AT MOST 1048576: true; the input reads as it did. -/
def fnExactTwistSolutionUptoRow : OpenClaim := { program := "ytocdcibfbecdgab", sum := "7c586359747f2a61bb95c11915dfbdea2f81c37e3806f45d86936fa338e6f197", func := "loop.example/g01119/laws.FnExactTwistSolution", spec := "fnExactTwistSolution", unfollowed := true, recurses := true, plainKeys := false, apart := false, narrowed := true }
def FnExactTwistSolutionUptoSaid : Prop := fnExactTwistSolutionUptoRow.holds Try.pinned (OpenSpec.upto fnExactTwistSolutionSpec)

/-- 'laws.FnExactProductSolution', WHERE WHAT IT READS IS OF BULK AT MOST 1048576: true; the input reads as it did. -/
def fnExactProductSolutionUptoRow : OpenClaim := { program := "ytocdcibfbecdgab", sum := "7c586359747f2a61bb95c11915dfbdea2f81c37e3806f45d86936fa338e6f197", func := "loop.example/g01119/laws.FnExactProductSolution", spec := "fnExactProductSolution", unfollowed := true, recurses := true, plainKeys := false, apart := false, narrowed := true }
def FnExactProductSolutionUptoSaid : Prop := fnExactProductSolutionUptoRow.holds Try.pinned (OpenSpec.upto fnExactProductSolutionSpec)

/-- 'laws.FnExactUnionSolution', WHERE WHAT IT READS IS OF BULK AT MOST 1048576: true; the input reads as it did. -/
def fnExactUnionSolutionUptoRow : OpenClaim := { program := "ytocdcibfbecdgab", sum := "7c586359747f2a61bb95c11915dfbdea2f81c37e3806f45d86936fa338e6f197", func := "loop.example/g01119/laws.FnExactUnionSolution", spec := "fnExactUnionSolution", unfollowed := true, recurses := true, plainKeys := false, apart := false, narrowed := true }
def FnExactUnionSolutionUptoSaid : Prop := fnExactUnionSolutionUptoRow.holds Try.pinned (OpenSpec.upto fnExactUnionSolutionSpec)

/-- 'laws.FnExactSubSolution', WHERE WHAT IT READS IS OF BULK AT MOST 1048576: true; the input reads as it did. -/
def fnExactSubSolutionUptoRow : OpenClaim := { program := "ytocdcibfbecdgab", sum := "7c586359747f2a61bb95c11915dfbdea2f81c37e3806f45d86936fa338e6f197", func := "loop.example/g01119/laws.FnExactSubSolution", spec := "fnExactSubSolution", unfollowed := true, recurses := true, plainKeys := false, apart := false, narrowed := true }
def FnExactSubSolutionUptoSaid : Prop := fnExactSubSolutionUptoRow.holds Try.pinned (OpenSpec.upto fnExactSubSolutionSpec)

/-- 'laws.FnExactInverseSolution', WHERE WHAT IT READS IS OF BULK AT MOST 1048576: true; the input reads as it did. -/
def fnExactInverseSolutionUptoRow : OpenClaim := { program := "ytocdcibfbecdgab", sum := "7c586359747f2a61bb95c11915dfbdea2f81c37e3806f45d86936fa338e6f197", func := "loop.example/g01119/laws.FnExactInverseSolution", spec := "fnExactInverseSolution", unfollowed := true, recurses := true, plainKeys := false, apart := false, narrowed := true }
def FnExactInverseSolutionUptoSaid : Prop := fnExactInverseSolutionUptoRow.holds Try.pinned (OpenSpec.upto fnExactInverseSolutionSpec)

/-- 'laws.FnExactOrderOfSolution', WHERE WHAT IT READS IS OF BULK AT MOST 1048576: true; the input reads as it did. -/
def fnExactOrderOfSolutionUptoRow : OpenClaim := { program := "ytocdcibfbecdgab", sum := "7c586359747f2a61bb95c11915dfbdea2f81c37e3806f45d86936fa338e6f197", func := "loop.example/g01119/laws.FnExactOrderOfSolution", spec := "fnExactOrderOfSolution", plainKeys := false, apart := false, narrowed := true }
def FnExactOrderOfSolutionUptoSaid : Prop := fnExactOrderOfSolutionUptoRow.holds Try.pinned (OpenSpec.upto fnExactOrderOfSolutionSpec)

/-- 'laws.FnExactSolutionIsomorphism', WHERE WHAT IT READS IS OF BULK AT MOST 1048576: true; the input reads as it did. -/
def fnExactSolutionIsomorphismUptoRow : OpenClaim := { program := "ytocdcibfbecdgab", sum := "7c586359747f2a61bb95c11915dfbdea2f81c37e3806f45d86936fa338e6f197", func := "loop.example/g01119/laws.FnExactSolutionIsomorphism", spec := "fnExactSolutionIsomorphism", recurses := true, plainKeys := false, apart := false, narrowed := true }
def FnExactSolutionIsomorphismUptoSaid : Prop := fnExactSolutionIsomorphismUptoRow.holds Try.pinned (OpenSpec.upto fnExactSolutionIsomorphismSpec)

/-- 'laws.FnExactSolutionAutomorphisms', WHERE WHAT IT READS IS OF BULK AT MOST 1048576: true; the input reads as it did. -/
def fnExactSolutionAutomorphismsUptoRow : OpenClaim := { program := "ytocdcibfbecdgab", sum := "7c586359747f2a61bb95c11915dfbdea2f81c37e3806f45d86936fa338e6f197", func := "loop.example/g01119/laws.FnExactSolutionAutomorphisms", spec := "fnExactSolutionAutomorphisms", unfollowed := true, recurses := true, plainKeys := false, apart := false, narrowed := true }
def FnExactSolutionAutomorphismsUptoSaid : Prop := fnExactSolutionAutomorphismsUptoRow.holds Try.pinned (OpenSpec.upto fnExactSolutionAutomorphismsSpec)

/-- 'laws.FnExactGroupElements', WHERE WHAT IT READS IS OF BULK AT MOST 1048576: true; the input reads as it did. -/
def fnExactGroupElementsUptoRow : OpenClaim := { program := "ytocdcibfbecdgab", sum := "7c586359747f2a61bb95c11915dfbdea2f81c37e3806f45d86936fa338e6f197", func := "loop.example/g01119/laws.FnExactGroupElements", spec := "fnExactGroupElements", unfollowed := true, recurses := true, plainKeys := false, apart := false, narrowed := true }
def FnExactGroupElementsUptoSaid : Prop := fnExactGroupElementsUptoRow.holds Try.pinned (OpenSpec.upto fnExactGroupElementsSpec)

end Rows
end Go.Proofs.Ytocdcibfbecdgab
