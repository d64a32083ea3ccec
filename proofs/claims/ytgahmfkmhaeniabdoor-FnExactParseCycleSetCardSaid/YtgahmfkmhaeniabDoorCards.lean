/-
  DERIVED. GIVEN WITH THE SEED: THE CARDS: each row of YtgahmfkmhaeniabDoorRows.lean that lists a variable, with what it lists TIED to the program's text (the seventh form; the later family's looks); each row that meets fmt, with fmt's text TOLD by the authors' own Lean function (tested against real Go, not proved from fmt's source: count such statements apart). THE CARD IS WHAT COUNTS. Prove the row's statement (the work); the ties are given (YtgahmfkmhaeniabDoorTie.lean); close each card by the builder's one call (the guide's Derived/Test/ToyasCard.lean, 'card_holds'). Laid BY PROGRAM, IN A SANDBOX (cutbox-door.mjs). By AI agents, Wed Nov 11 2026. No macro, syntax, notation, axiom, sorry.
-/
import Derived.Test.YtgahmfkmhaeniabDoorRows
import GoSem.ClaimSeven
namespace Go.Proofs.YtgahmfkmhaeniabDoor
namespace Rows

/-- THE TIED CARD OF 'laws.FnExactParseCycleSet'. -/
def fnExactParseCycleSetCard : Claim7 := { stood := { row := fnExactParseCycleSetRow, standIns := [], harness := (true, "ebc2a10df0f1ade4d5d071db82505353fbf90f79bd38a10851adfb378a1c0aac"), looks := false }, kinds := [], alts := [], laidByText := true, laidKinds := [.data, .pinned], laidTests := true, laidLooks := .later }
def FnExactParseCycleSetCardSaid : Prop := Claim7.holds Tryd.pinned (.plain (OpenSpec.ofChange fnExactParseCycleSetSpec)) fnExactParseCycleSetCard

/-- THE SECOND FORM's CARD OF 'laws.FnExactParseCycleSet'. -/
def fnExactParseCycleSetUptoCard : Claim7 := { stood := { row := fnExactParseCycleSetUptoRow, standIns := [], harness := (true, "ebc2a10df0f1ade4d5d071db82505353fbf90f79bd38a10851adfb378a1c0aac"), looks := false }, kinds := [], alts := [], laidByText := true, laidKinds := [.data, .pinned], laidTests := true, laidLooks := .later }
def FnExactParseCycleSetUptoCardSaid : Prop := Claim7.holds Tryd.pinned (.plain (OpenSpec.upto fnExactParseCycleSetSpec)) fnExactParseCycleSetUptoCard
end Rows
end Go.Proofs.YtgahmfkmhaeniabDoor
