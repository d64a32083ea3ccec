/-
  DERIVED. GIVEN WITH THE SEED: THE CARDS: each row of YtkflmhmbkilmpabDoorRows.lean that lists a variable, with what it lists TIED to the program's text (the seventh form; the later family's looks); each row that meets fmt, with fmt's text TOLD by the authors' own Lean function (tested against real Go, not proved from fmt's source: count such statements apart). THE CARD IS WHAT COUNTS. Prove the row's statement (the work); the ties are given (YtkflmhmbkilmpabDoorTie.lean); close each card by the builder's one call (the guide's Derived/Test/ToyasCard.lean, 'card_holds'). Laid BY PROGRAM, IN A SANDBOX (cutbox-door.mjs). By AI agents, Wed Nov 11 2026. No macro, syntax, notation, axiom, sorry.
-/
import Derived.Test.YtkflmhmbkilmpabDoorRows
import GoSem.ClaimSeven
namespace Go.Proofs.YtkflmhmbkilmpabDoor
namespace Rows

/-- THE TIED CARD OF 'laws.FnExactParseRack'. -/
def fnExactParseRackCard : Claim7 := { stood := { row := fnExactParseRackRow, standIns := [], harness := (true, "e40b5f247fe6cba6308f7e58e00ce84fb1e6bc0ccce342d9a1ff90fbcb738b13"), looks := false }, kinds := [], alts := [], laidByText := true, laidKinds := [.data, .pinned], laidTests := true, laidLooks := .later }
def FnExactParseRackCardSaid : Prop := Claim7.holds Tryd.pinned (.plain (OpenSpec.ofChange fnExactParseRackSpec)) fnExactParseRackCard

/-- THE SECOND FORM's CARD OF 'laws.FnExactParseRack'. -/
def fnExactParseRackUptoCard : Claim7 := { stood := { row := fnExactParseRackUptoRow, standIns := [], harness := (true, "e40b5f247fe6cba6308f7e58e00ce84fb1e6bc0ccce342d9a1ff90fbcb738b13"), looks := false }, kinds := [], alts := [], laidByText := true, laidKinds := [.data, .pinned], laidTests := true, laidLooks := .later }
def FnExactParseRackUptoCardSaid : Prop := Claim7.holds Tryd.pinned (.plain (OpenSpec.upto fnExactParseRackSpec)) fnExactParseRackUptoCard
end Rows
end Go.Proofs.YtkflmhmbkilmpabDoor
