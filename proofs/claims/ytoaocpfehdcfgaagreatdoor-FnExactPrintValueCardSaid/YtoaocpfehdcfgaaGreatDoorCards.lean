/-
  DERIVED. GIVEN WITH THE SEED: THE CARDS: each row of YtoaocpfehdcfgaaGreatDoorRows.lean that lists a variable, with what it lists TIED to the program's text (the seventh form; the later family's looks); each row that meets fmt, with fmt's text TOLD by the authors' own Lean function (tested against real Go, not proved from fmt's source: count such statements apart). THE CARD IS WHAT COUNTS. Prove the row's statement (the work); the ties are given (YtoaocpfehdcfgaaGreatDoorTie.lean); close each card by the builder's one call (the guide's Derived/Test/ToyasCard.lean, 'card_holds'). Laid BY PROGRAM, IN A SANDBOX (cutbox-door.mjs). By AI agents, Wed Nov 11 2026. No macro, syntax, notation, axiom, sorry.
-/
import Derived.Test.YtoaocpfehdcfgaaGreatDoorRows
import GoSem.ClaimSeven
namespace Go.Proofs.YtoaocpfehdcfgaaGreatDoor
namespace Rows

/-- THE TIED CARD OF 'laws.FnExactPrintValue'. -/
def fnExactPrintValueCard : Claim7 := { stood := { row := fnExactPrintValueRow, standIns := [], harness := (true, "a7a1ff634b51b6be9268a7dafe2c72a76f81b6be99cb4b1157c47f60b7288b27"), looks := false }, kinds := [], alts := [], laidByText := true, laidKinds := [.data, .pinned], laidTests := true, laidLooks := .later }
def FnExactPrintValueCardSaid : Prop := Claim7.holds Tryz.pinned (.plain (OpenSpec.ofChange fnExactPrintValueSpec)) fnExactPrintValueCard

/-- THE SECOND FORM's CARD OF 'laws.FnExactPrintValue'. -/
def fnExactPrintValueUptoCard : Claim7 := { stood := { row := fnExactPrintValueUptoRow, standIns := [], harness := (true, "a7a1ff634b51b6be9268a7dafe2c72a76f81b6be99cb4b1157c47f60b7288b27"), looks := false }, kinds := [], alts := [], laidByText := true, laidKinds := [.data, .pinned], laidTests := true, laidLooks := .later }
def FnExactPrintValueUptoCardSaid : Prop := Claim7.holds Tryz.pinned (.plain (OpenSpec.upto fnExactPrintValueSpec)) fnExactPrintValueUptoCard
end Rows
end Go.Proofs.YtoaocpfehdcfgaaGreatDoor
