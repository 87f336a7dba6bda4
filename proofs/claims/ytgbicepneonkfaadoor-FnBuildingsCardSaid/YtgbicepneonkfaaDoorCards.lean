/-
  DERIVED. GIVEN WITH THE SEED: THE CARDS: each row of YtgbicepneonkfaaDoorRows.lean that lists a variable, with what it lists TIED to the program's text (the seventh form; the later family's looks); each row that meets fmt, with fmt's text TOLD by the authors' own Lean function (tested against real Go, not proved from fmt's source: count such statements apart). THE CARD IS WHAT COUNTS. Prove the row's statement (the work); the ties are given (YtgbicepneonkfaaDoorTie.lean); close each card by the builder's one call (the guide's Derived/Test/ToyasCard.lean, 'card_holds'). Laid BY PROGRAM, IN A SANDBOX (cutbox-door.mjs). By AI agents, Wed Nov 11 2026. No macro, syntax, notation, axiom, sorry.
-/
import Derived.Test.YtgbicepneonkfaaDoorRows
import GoSem.ClaimSeven
namespace Go.Proofs.YtgbicepneonkfaaDoor
namespace Rows

/-- THE TIED CARD OF 'laws.FnBuildings'. -/
def fnBuildingsCard : Claim7 := { stood := { row := fnBuildingsRow, standIns := [], harness := (true, "db436233fb90ed9f682b550d83dfe7ab28989e673751bea810e8000bee869df0"), looks := true }, kinds := [], alts := [], laidByText := true, laidKinds := [.data, .data, .data, .data, .sentinel, .sentinel, .pinned], laidTests := true, laidLooks := .later }
def FnBuildingsCardSaid : Prop := Claim7.holds Tryd.pinned (.plain (OpenSpec.ofChange fnBuildingsSpec)) fnBuildingsCard

/-- THE TIED CARD OF 'laws.FnExactPinsText'. -/
def fnExactPinsTextCard : Claim7 := { stood := { row := fnExactPinsTextRow, standIns := [], harness := (true, "db436233fb90ed9f682b550d83dfe7ab28989e673751bea810e8000bee869df0"), looks := true }, kinds := [], alts := [], laidByText := true, laidKinds := [.data, .data, .data], laidTests := true, laidLooks := .later }
def FnExactPinsTextCardSaid : Prop := Claim7.holds Tryd.pinned (.plain (OpenSpec.ofChange fnExactPinsTextSpec)) fnExactPinsTextCard

/-- THE TIED CARD OF 'laws.FnExactReadPins'. -/
def fnExactReadPinsCard : Claim7 := { stood := { row := fnExactReadPinsRow, standIns := [], harness := (true, "db436233fb90ed9f682b550d83dfe7ab28989e673751bea810e8000bee869df0"), looks := true }, kinds := [], alts := [], laidByText := true, laidKinds := [.data, .data, .data, .data, .sentinel, .sentinel, .pinned], laidTests := true, laidLooks := .later }
def FnExactReadPinsCardSaid : Prop := Claim7.holds Tryd.pinned (.plain (OpenSpec.ofChange fnExactReadPinsSpec)) fnExactReadPinsCard

/-- THE TIED CARD OF 'laws.FnExactBuildingText'. -/
def fnExactBuildingTextCard : Claim7 := { stood := { row := fnExactBuildingTextRow, standIns := [], harness := (true, "db436233fb90ed9f682b550d83dfe7ab28989e673751bea810e8000bee869df0"), looks := true }, kinds := [], alts := [], laidByText := true, laidKinds := [.data, .data, .data], laidTests := true, laidLooks := .later }
def FnExactBuildingTextCardSaid : Prop := Claim7.holds Tryd.pinned (.plain (OpenSpec.ofChange fnExactBuildingTextSpec)) fnExactBuildingTextCard

/-- THE TIED CARD OF 'laws.FnExactReadBuilding'. -/
def fnExactReadBuildingCard : Claim7 := { stood := { row := fnExactReadBuildingRow, standIns := [], harness := (true, "db436233fb90ed9f682b550d83dfe7ab28989e673751bea810e8000bee869df0"), looks := true }, kinds := [], alts := [], laidByText := true, laidKinds := [.data, .data, .data, .data, .sentinel, .sentinel, .pinned], laidTests := true, laidLooks := .later }
def FnExactReadBuildingCardSaid : Prop := Claim7.holds Tryd.pinned (.plain (OpenSpec.ofChange fnExactReadBuildingSpec)) fnExactReadBuildingCard

/-- THE SECOND FORM's CARD OF 'laws.FnBuildings'. -/
def fnBuildingsUptoCard : Claim7 := { stood := { row := fnBuildingsUptoRow, standIns := [], harness := (true, "db436233fb90ed9f682b550d83dfe7ab28989e673751bea810e8000bee869df0"), looks := true }, kinds := [], alts := [], laidByText := true, laidKinds := [.data, .data, .data, .data, .sentinel, .sentinel, .pinned], laidTests := true, laidLooks := .later }
def FnBuildingsUptoCardSaid : Prop := Claim7.holds Tryd.pinned (.plain (OpenSpec.upto fnBuildingsSpec)) fnBuildingsUptoCard

/-- THE SECOND FORM's CARD OF 'laws.FnExactPinsText'. -/
def fnExactPinsTextUptoCard : Claim7 := { stood := { row := fnExactPinsTextUptoRow, standIns := [], harness := (true, "db436233fb90ed9f682b550d83dfe7ab28989e673751bea810e8000bee869df0"), looks := true }, kinds := [], alts := [], laidByText := true, laidKinds := [.data, .data, .data], laidTests := true, laidLooks := .later }
def FnExactPinsTextUptoCardSaid : Prop := Claim7.holds Tryd.pinned (.plain (OpenSpec.upto fnExactPinsTextSpec)) fnExactPinsTextUptoCard

/-- THE SECOND FORM's CARD OF 'laws.FnExactReadPins'. -/
def fnExactReadPinsUptoCard : Claim7 := { stood := { row := fnExactReadPinsUptoRow, standIns := [], harness := (true, "db436233fb90ed9f682b550d83dfe7ab28989e673751bea810e8000bee869df0"), looks := true }, kinds := [], alts := [], laidByText := true, laidKinds := [.data, .data, .data, .data, .sentinel, .sentinel, .pinned], laidTests := true, laidLooks := .later }
def FnExactReadPinsUptoCardSaid : Prop := Claim7.holds Tryd.pinned (.plain (OpenSpec.upto fnExactReadPinsSpec)) fnExactReadPinsUptoCard

/-- THE SECOND FORM's CARD OF 'laws.FnExactBuildingText'. -/
def fnExactBuildingTextUptoCard : Claim7 := { stood := { row := fnExactBuildingTextUptoRow, standIns := [], harness := (true, "db436233fb90ed9f682b550d83dfe7ab28989e673751bea810e8000bee869df0"), looks := true }, kinds := [], alts := [], laidByText := true, laidKinds := [.data, .data, .data], laidTests := true, laidLooks := .later }
def FnExactBuildingTextUptoCardSaid : Prop := Claim7.holds Tryd.pinned (.plain (OpenSpec.upto fnExactBuildingTextSpec)) fnExactBuildingTextUptoCard

/-- THE SECOND FORM's CARD OF 'laws.FnExactReadBuilding'. -/
def fnExactReadBuildingUptoCard : Claim7 := { stood := { row := fnExactReadBuildingUptoRow, standIns := [], harness := (true, "db436233fb90ed9f682b550d83dfe7ab28989e673751bea810e8000bee869df0"), looks := true }, kinds := [], alts := [], laidByText := true, laidKinds := [.data, .data, .data, .data, .sentinel, .sentinel, .pinned], laidTests := true, laidLooks := .later }
def FnExactReadBuildingUptoCardSaid : Prop := Claim7.holds Tryd.pinned (.plain (OpenSpec.upto fnExactReadBuildingSpec)) fnExactReadBuildingUptoCard
end Rows
end Go.Proofs.YtgbicepneonkfaaDoor
