/-
  DERIVED. GIVEN WITH THE SEED: THE CARDS: each row of YtelildgngkajnaaDoorRows.lean that lists a variable, with what it lists TIED to the program's text (the seventh form; the later family's looks); each row that meets fmt, with fmt's text TOLD by the authors' own Lean function (tested against real Go, not proved from fmt's source: count such statements apart). THE CARD IS WHAT COUNTS. Prove the row's statement (the work); the ties are given (YtelildgngkajnaaDoorTie.lean); close each card by the builder's one call (the guide's Derived/Test/ToyasCard.lean, 'card_holds'). Laid BY PROGRAM, IN A SANDBOX (cutbox-door.mjs). By AI agents, Wed Nov 11 2026. No macro, syntax, notation, axiom, sorry.
-/
import Derived.Test.YtelildgngkajnaaDoorRows
import GoSem.ClaimSeven
namespace Go.Proofs.YtelildgngkajnaaDoor
namespace Rows

/-- THE TIED CARD OF 'laws.FnExactQuotientGroup'. -/
def fnExactQuotientGroupCard : Claim7 := { stood := { row := fnExactQuotientGroupRow, standIns := [], harness := (true, "2376631135d09d0162fcc50fc2315cbd9969775941f35874f66d54838b974843"), looks := false }, kinds := [], alts := [], laidByText := true, laidKinds := [.data], laidTests := true, laidLooks := .later }
def FnExactQuotientGroupCardSaid : Prop := Claim7.holds Tryd.pinned (.plain (OpenSpec.ofChange fnExactQuotientGroupSpec)) fnExactQuotientGroupCard

/-- THE SECOND FORM's CARD OF 'laws.FnExactQuotientGroup'. -/
def fnExactQuotientGroupUptoCard : Claim7 := { stood := { row := fnExactQuotientGroupUptoRow, standIns := [], harness := (true, "2376631135d09d0162fcc50fc2315cbd9969775941f35874f66d54838b974843"), looks := false }, kinds := [], alts := [], laidByText := true, laidKinds := [.data], laidTests := true, laidLooks := .later }
def FnExactQuotientGroupUptoCardSaid : Prop := Claim7.holds Tryd.pinned (.plain (OpenSpec.upto fnExactQuotientGroupSpec)) fnExactQuotientGroupUptoCard
end Rows
end Go.Proofs.YtelildgngkajnaaDoor
