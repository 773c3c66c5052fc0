/-
  DERIVED. GIVEN WITH THE SEED: THE CARDS: each row of YtnlgdkfenipmfaaGreatDoorRows.lean that lists a variable, with what it lists TIED to the program's text (the seventh form; the later family's looks); each row that meets fmt, with fmt's text TOLD by the authors' own Lean function (tested against real Go, not proved from fmt's source: count such statements apart). THE CARD IS WHAT COUNTS. Prove the row's statement (the work); the ties are given (YtnlgdkfenipmfaaGreatDoorTie.lean); close each card by the builder's one call (the guide's Derived/Test/ToyasCard.lean, 'card_holds'). Laid BY PROGRAM, IN A SANDBOX (cutbox-door.mjs). By AI agents, Wed Nov 11 2026. No macro, syntax, notation, axiom, sorry.
-/
import Derived.Test.YtnlgdkfenipmfaaGreatDoorRows
import GoSem.ClaimSeven
namespace Go.Proofs.YtnlgdkfenipmfaaGreatDoor
namespace Rows

/-- THE TIED CARD OF 'laws.FnUnitText'. -/
def fnUnitTextCard : Claim7 := { stood := { row := fnUnitTextRow, standIns := [], harness := (true, "65006348da4d5be7757fbda159273005222e0a3bde42dd11bec5b505543730a1"), looks := true }, kinds := [], alts := [], laidByText := true, laidKinds := [.data, .sentinel, .pinned], laidTests := true, laidLooks := .later }
def FnUnitTextCardSaid : Prop := Claim7.holds Tryz.pinned (.plain (OpenSpec.ofChange fnUnitTextSpec)) fnUnitTextCard

/-- THE TIED CARD OF 'laws.FnExactCheckUnit'. -/
def fnExactCheckUnitCard : Claim7 := { stood := { row := fnExactCheckUnitRow, standIns := [], harness := (true, "65006348da4d5be7757fbda159273005222e0a3bde42dd11bec5b505543730a1"), looks := true }, kinds := [], alts := [], laidByText := true, laidKinds := [.sentinel], laidTests := true, laidLooks := .later }
def FnExactCheckUnitCardSaid : Prop := Claim7.holds Tryz.pinned (.plain (OpenSpec.ofChange fnExactCheckUnitSpec)) fnExactCheckUnitCard

/-- THE SECOND FORM's CARD OF 'laws.FnUnitText'. -/
def fnUnitTextUptoCard : Claim7 := { stood := { row := fnUnitTextUptoRow, standIns := [], harness := (true, "65006348da4d5be7757fbda159273005222e0a3bde42dd11bec5b505543730a1"), looks := true }, kinds := [], alts := [], laidByText := true, laidKinds := [.data, .sentinel, .pinned], laidTests := true, laidLooks := .later }
def FnUnitTextUptoCardSaid : Prop := Claim7.holds Tryz.pinned (.plain (OpenSpec.upto fnUnitTextSpec)) fnUnitTextUptoCard

/-- THE SECOND FORM's CARD OF 'laws.FnExactCheckUnit'. -/
def fnExactCheckUnitUptoCard : Claim7 := { stood := { row := fnExactCheckUnitUptoRow, standIns := [], harness := (true, "65006348da4d5be7757fbda159273005222e0a3bde42dd11bec5b505543730a1"), looks := true }, kinds := [], alts := [], laidByText := true, laidKinds := [.sentinel], laidTests := true, laidLooks := .later }
def FnExactCheckUnitUptoCardSaid : Prop := Claim7.holds Tryz.pinned (.plain (OpenSpec.upto fnExactCheckUnitSpec)) fnExactCheckUnitUptoCard
end Rows
end Go.Proofs.YtnlgdkfenipmfaaGreatDoor
