/-
  DERIVED. GIVEN WITH THE SEED: THE CARDS: each row of YtbigfeblomfflaaGreatDoorRows.lean that lists a variable, with what it lists TIED to the program's text (the seventh form; the later family's looks); each row that meets fmt, with fmt's text TOLD by the authors' own Lean function (tested against real Go, not proved from fmt's source: count such statements apart). THE CARD IS WHAT COUNTS. Prove the row's statement (the work); the ties are given (YtbigfeblomfflaaGreatDoorTie.lean); close each card by the builder's one call (the guide's Derived/Test/ToyasCard.lean, 'card_holds'). Laid BY PROGRAM, IN A SANDBOX (cutbox-door.mjs). By AI agents, Wed Nov 11 2026. No macro, syntax, notation, axiom, sorry.
-/
import Derived.Test.YtbigfeblomfflaaGreatDoorRows
import GoSem.ClaimSeven
namespace Go.Proofs.YtbigfeblomfflaaGreatDoor
namespace Rows

/-- THE TIED CARD OF 'laws.FnExprText'. -/
def fnExprTextCard : Claim7 := { stood := { row := fnExprTextRow, standIns := [], harness := (true, "d14edc6eb3c2c4141dde99104881f8d5ac670e79e1f81cf77d5beb597ec96612"), looks := true }, kinds := [], alts := [], laidByText := true, laidKinds := [.data, .pinned], laidTests := true, laidLooks := .later }
def FnExprTextCardSaid : Prop := Claim7.holds Tryz.pinned (.plain (OpenSpec.ofChange fnExprTextSpec)) fnExprTextCard

/-- THE TIED CARD OF 'laws.FnUnitText'. -/
def fnUnitTextCard : Claim7 := { stood := { row := fnUnitTextRow, standIns := [], harness := (true, "d14edc6eb3c2c4141dde99104881f8d5ac670e79e1f81cf77d5beb597ec96612"), looks := true }, kinds := [], alts := [], laidByText := true, laidKinds := [.data, .sentinel, .pinned], laidTests := true, laidLooks := .later }
def FnUnitTextCardSaid : Prop := Claim7.holds Tryz.pinned (.plain (OpenSpec.ofChange fnUnitTextSpec)) fnUnitTextCard

/-- THE TIED CARD OF 'laws.FnExactFormatMethod'. -/
def fnExactFormatMethodCard : Claim7 := { stood := { row := fnExactFormatMethodRow, standIns := [], harness := (true, "d14edc6eb3c2c4141dde99104881f8d5ac670e79e1f81cf77d5beb597ec96612"), looks := true }, kinds := [], alts := [], laidByText := true, laidKinds := [.data, .sentinel, .pinned], laidTests := true, laidLooks := .later }
def FnExactFormatMethodCardSaid : Prop := Claim7.holds Tryz.pinned (.plain (OpenSpec.ofChange fnExactFormatMethodSpec)) fnExactFormatMethodCard

/-- THE TIED CARD OF 'laws.FnExactFormatUnit'. -/
def fnExactFormatUnitCard : Claim7 := { stood := { row := fnExactFormatUnitRow, standIns := [], harness := (true, "d14edc6eb3c2c4141dde99104881f8d5ac670e79e1f81cf77d5beb597ec96612"), looks := true }, kinds := [], alts := [], laidByText := true, laidKinds := [.data, .sentinel, .pinned], laidTests := true, laidLooks := .later }
def FnExactFormatUnitCardSaid : Prop := Claim7.holds Tryz.pinned (.plain (OpenSpec.ofChange fnExactFormatUnitSpec)) fnExactFormatUnitCard

/-- THE SECOND FORM's CARD OF 'laws.FnExprText'. -/
def fnExprTextUptoCard : Claim7 := { stood := { row := fnExprTextUptoRow, standIns := [], harness := (true, "d14edc6eb3c2c4141dde99104881f8d5ac670e79e1f81cf77d5beb597ec96612"), looks := true }, kinds := [], alts := [], laidByText := true, laidKinds := [.data, .pinned], laidTests := true, laidLooks := .later }
def FnExprTextUptoCardSaid : Prop := Claim7.holds Tryz.pinned (.plain (OpenSpec.upto fnExprTextSpec)) fnExprTextUptoCard

/-- THE SECOND FORM's CARD OF 'laws.FnUnitText'. -/
def fnUnitTextUptoCard : Claim7 := { stood := { row := fnUnitTextUptoRow, standIns := [], harness := (true, "d14edc6eb3c2c4141dde99104881f8d5ac670e79e1f81cf77d5beb597ec96612"), looks := true }, kinds := [], alts := [], laidByText := true, laidKinds := [.data, .sentinel, .pinned], laidTests := true, laidLooks := .later }
def FnUnitTextUptoCardSaid : Prop := Claim7.holds Tryz.pinned (.plain (OpenSpec.upto fnUnitTextSpec)) fnUnitTextUptoCard

/-- THE SECOND FORM's CARD OF 'laws.FnExactFormatMethod'. -/
def fnExactFormatMethodUptoCard : Claim7 := { stood := { row := fnExactFormatMethodUptoRow, standIns := [], harness := (true, "d14edc6eb3c2c4141dde99104881f8d5ac670e79e1f81cf77d5beb597ec96612"), looks := true }, kinds := [], alts := [], laidByText := true, laidKinds := [.data, .sentinel, .pinned], laidTests := true, laidLooks := .later }
def FnExactFormatMethodUptoCardSaid : Prop := Claim7.holds Tryz.pinned (.plain (OpenSpec.upto fnExactFormatMethodSpec)) fnExactFormatMethodUptoCard

/-- THE SECOND FORM's CARD OF 'laws.FnExactFormatUnit'. -/
def fnExactFormatUnitUptoCard : Claim7 := { stood := { row := fnExactFormatUnitUptoRow, standIns := [], harness := (true, "d14edc6eb3c2c4141dde99104881f8d5ac670e79e1f81cf77d5beb597ec96612"), looks := true }, kinds := [], alts := [], laidByText := true, laidKinds := [.data, .sentinel, .pinned], laidTests := true, laidLooks := .later }
def FnExactFormatUnitUptoCardSaid : Prop := Claim7.holds Tryz.pinned (.plain (OpenSpec.upto fnExactFormatUnitSpec)) fnExactFormatUnitUptoCard
end Rows
end Go.Proofs.YtbigfeblomfflaaGreatDoor
