/-
  DERIVED. GIVEN WITH THE SEED: THE CARDS: each row of YtdfkfpllapbaeaaGreatDoorRows.lean that lists a variable, with what it lists TIED to the program's text (the seventh form; the later family's looks); each row that meets fmt, with fmt's text TOLD by the authors' own Lean function (tested against real Go, not proved from fmt's source: count such statements apart). THE CARD IS WHAT COUNTS. Prove the row's statement (the work); the ties are given (YtdfkfpllapbaeaaGreatDoorTie.lean); close each card by the builder's one call (the guide's Derived/Test/ToyasCard.lean, 'card_holds'). Laid BY PROGRAM, IN A SANDBOX (cutbox-door.mjs). By AI agents, Wed Nov 11 2026. No macro, syntax, notation, axiom, sorry.
-/
import Derived.Test.YtdfkfpllapbaeaaGreatDoorRows
import GoSem.ClaimSeven
namespace Go.Proofs.YtdfkfpllapbaeaaGreatDoor
namespace Rows

/-- THE TIED CARD OF 'laws.FnExactIsMethod'. -/
def fnExactIsMethodCard : Claim7 := { stood := { row := fnExactIsMethodRow, standIns := [], harness := (true, "4c07098de539e8520441b1a03fd9090efa90a27ea0c81267e398385a75f5dbbe"), looks := true }, kinds := [], alts := [], laidByText := true, laidKinds := [.sentinel], laidTests := true, laidLooks := .later }
def FnExactIsMethodCardSaid : Prop := Claim7.holds Tryz.pinned (.plain (OpenSpec.ofChange fnExactIsMethodSpec)) fnExactIsMethodCard

/-- THE SECOND FORM's CARD OF 'laws.FnExactIsMethod'. -/
def fnExactIsMethodUptoCard : Claim7 := { stood := { row := fnExactIsMethodUptoRow, standIns := [], harness := (true, "4c07098de539e8520441b1a03fd9090efa90a27ea0c81267e398385a75f5dbbe"), looks := true }, kinds := [], alts := [], laidByText := true, laidKinds := [.sentinel], laidTests := true, laidLooks := .later }
def FnExactIsMethodUptoCardSaid : Prop := Claim7.holds Tryz.pinned (.plain (OpenSpec.upto fnExactIsMethodSpec)) fnExactIsMethodUptoCard
end Rows
end Go.Proofs.YtdfkfpllapbaeaaGreatDoor
