/-
  DERIVED. GIVEN WITH THE SEED: THE CARDS: each row of YtlmhgeanknhcfaaGreatDoorRows.lean that lists a variable, with what it lists TIED to the program's text (the seventh form; the later family's looks); each row that meets fmt, with fmt's text TOLD by the authors' own Lean function (tested against real Go, not proved from fmt's source: count such statements apart). THE CARD IS WHAT COUNTS. Prove the row's statement (the work); the ties are given (YtlmhgeanknhcfaaGreatDoorTie.lean); close each card by the builder's one call (the guide's Derived/Test/ToyasCard.lean, 'card_holds'). Laid BY PROGRAM, IN A SANDBOX (cutbox-door.mjs). By AI agents, Wed Nov 11 2026. No macro, syntax, notation, axiom, sorry.
-/
import Derived.Test.YtlmhgeanknhcfaaGreatDoorRows
import GoSem.ClaimSeven
namespace Go.Proofs.YtlmhgeanknhcfaaGreatDoor
namespace Rows

/-- THE TIED CARD OF 'laws.FnExactParseExpr'. -/
def fnExactParseExprCard : Claim7 := { stood := { row := fnExactParseExprRow, standIns := [], harness := (true, "30666d1e397c51d9b8ce0a8133b07d68e3d439c9bf88123df45a8dffa730dd06"), looks := true }, kinds := [], alts := [], laidByText := true, laidKinds := [.data, .pinned], laidTests := true, laidLooks := .later }
def FnExactParseExprCardSaid : Prop := Claim7.holds Tryz.pinned (.plain (OpenSpec.ofChange fnExactParseExprSpec)) fnExactParseExprCard

/-- THE TIED CARD OF 'laws.FnExactIsUnit'. -/
def fnExactIsUnitCard : Claim7 := { stood := { row := fnExactIsUnitRow, standIns := [], harness := (true, "30666d1e397c51d9b8ce0a8133b07d68e3d439c9bf88123df45a8dffa730dd06"), looks := true }, kinds := [], alts := [], laidByText := true, laidKinds := [.sentinel], laidTests := true, laidLooks := .later }
def FnExactIsUnitCardSaid : Prop := Claim7.holds Tryz.pinned (.plain (OpenSpec.ofChange fnExactIsUnitSpec)) fnExactIsUnitCard

/-- THE TIED CARD OF 'laws.FnExactParseMethod'. -/
def fnExactParseMethodCard : Claim7 := { stood := { row := fnExactParseMethodRow, standIns := [], harness := (true, "30666d1e397c51d9b8ce0a8133b07d68e3d439c9bf88123df45a8dffa730dd06"), looks := true }, kinds := [], alts := [], laidByText := true, laidKinds := [.data, .sentinel, .pinned], laidTests := true, laidLooks := .later }
def FnExactParseMethodCardSaid : Prop := Claim7.holds Tryz.pinned (.plain (OpenSpec.ofChange fnExactParseMethodSpec)) fnExactParseMethodCard

/-- THE TIED CARD OF 'laws.FnExactParseUnit'. -/
def fnExactParseUnitCard : Claim7 := { stood := { row := fnExactParseUnitRow, standIns := [], harness := (true, "30666d1e397c51d9b8ce0a8133b07d68e3d439c9bf88123df45a8dffa730dd06"), looks := true }, kinds := [], alts := [], laidByText := true, laidKinds := [.data, .sentinel, .pinned], laidTests := true, laidLooks := .later }
def FnExactParseUnitCardSaid : Prop := Claim7.holds Tryz.pinned (.plain (OpenSpec.ofChange fnExactParseUnitSpec)) fnExactParseUnitCard

/-- THE SECOND FORM's CARD OF 'laws.FnExactParseExpr'. -/
def fnExactParseExprUptoCard : Claim7 := { stood := { row := fnExactParseExprUptoRow, standIns := [], harness := (true, "30666d1e397c51d9b8ce0a8133b07d68e3d439c9bf88123df45a8dffa730dd06"), looks := true }, kinds := [], alts := [], laidByText := true, laidKinds := [.data, .pinned], laidTests := true, laidLooks := .later }
def FnExactParseExprUptoCardSaid : Prop := Claim7.holds Tryz.pinned (.plain (OpenSpec.upto fnExactParseExprSpec)) fnExactParseExprUptoCard

/-- THE SECOND FORM's CARD OF 'laws.FnExactIsUnit'. -/
def fnExactIsUnitUptoCard : Claim7 := { stood := { row := fnExactIsUnitUptoRow, standIns := [], harness := (true, "30666d1e397c51d9b8ce0a8133b07d68e3d439c9bf88123df45a8dffa730dd06"), looks := true }, kinds := [], alts := [], laidByText := true, laidKinds := [.sentinel], laidTests := true, laidLooks := .later }
def FnExactIsUnitUptoCardSaid : Prop := Claim7.holds Tryz.pinned (.plain (OpenSpec.upto fnExactIsUnitSpec)) fnExactIsUnitUptoCard

/-- THE SECOND FORM's CARD OF 'laws.FnExactParseMethod'. -/
def fnExactParseMethodUptoCard : Claim7 := { stood := { row := fnExactParseMethodUptoRow, standIns := [], harness := (true, "30666d1e397c51d9b8ce0a8133b07d68e3d439c9bf88123df45a8dffa730dd06"), looks := true }, kinds := [], alts := [], laidByText := true, laidKinds := [.data, .sentinel, .pinned], laidTests := true, laidLooks := .later }
def FnExactParseMethodUptoCardSaid : Prop := Claim7.holds Tryz.pinned (.plain (OpenSpec.upto fnExactParseMethodSpec)) fnExactParseMethodUptoCard

/-- THE SECOND FORM's CARD OF 'laws.FnExactParseUnit'. -/
def fnExactParseUnitUptoCard : Claim7 := { stood := { row := fnExactParseUnitUptoRow, standIns := [], harness := (true, "30666d1e397c51d9b8ce0a8133b07d68e3d439c9bf88123df45a8dffa730dd06"), looks := true }, kinds := [], alts := [], laidByText := true, laidKinds := [.data, .sentinel, .pinned], laidTests := true, laidLooks := .later }
def FnExactParseUnitUptoCardSaid : Prop := Claim7.holds Tryz.pinned (.plain (OpenSpec.upto fnExactParseUnitSpec)) fnExactParseUnitUptoCard
end Rows
end Go.Proofs.YtlmhgeanknhcfaaGreatDoor
