/-
  DERIVED. GIVEN WITH THE SEED: THE CARDS: each row of YtdohpppkdecbdaaGreatDoorRows.lean that lists a variable, with what it lists TIED to the program's text (the seventh form; the later family's looks); each row that meets fmt, with fmt's text TOLD by the authors' own Lean function (tested against real Go, not proved from fmt's source: count such statements apart). THE CARD IS WHAT COUNTS. Prove the row's statement (the work); the ties are given (YtdohpppkdecbdaaGreatDoorTie.lean); close each card by the builder's one call (the guide's Derived/Test/ToyasCard.lean, 'card_holds'). Laid BY PROGRAM, IN A SANDBOX (cutbox-door.mjs). By AI agents, Wed Nov 11 2026. No macro, syntax, notation, axiom, sorry.
-/
import Derived.Test.YtdohpppkdecbdaaGreatDoorRows
import GoSem.ClaimSeven
namespace Go.Proofs.YtdohpppkdecbdaaGreatDoor
namespace Rows

/-- THE TIED CARD OF 'laws.FnExactIsUnit'. -/
def fnExactIsUnitCard : Claim7 := { stood := { row := fnExactIsUnitRow, standIns := [], harness := (true, "49c1a3517f79c2f7fb85286d671284ce3d9aefb85a47a13ab2df0bdf84502c53"), looks := true }, kinds := [], alts := [], laidByText := true, laidKinds := [.sentinel], laidTests := true, laidLooks := .later }
def FnExactIsUnitCardSaid : Prop := Claim7.holds Tryz.pinned (.plain (OpenSpec.ofChange fnExactIsUnitSpec)) fnExactIsUnitCard

/-- THE SECOND FORM's CARD OF 'laws.FnExactIsUnit'. -/
def fnExactIsUnitUptoCard : Claim7 := { stood := { row := fnExactIsUnitUptoRow, standIns := [], harness := (true, "49c1a3517f79c2f7fb85286d671284ce3d9aefb85a47a13ab2df0bdf84502c53"), looks := true }, kinds := [], alts := [], laidByText := true, laidKinds := [.sentinel], laidTests := true, laidLooks := .later }
def FnExactIsUnitUptoCardSaid : Prop := Claim7.holds Tryz.pinned (.plain (OpenSpec.upto fnExactIsUnitSpec)) fnExactIsUnitUptoCard
end Rows
end Go.Proofs.YtdohpppkdecbdaaGreatDoor
