/-
  DERIVED. GIVEN WITH THE SEED: THE CARDS: each row of YtiijkcebloefbaaDoorRows.lean that lists a variable, with what it lists TIED to the program's text (the seventh form; the later family's looks); each row that meets fmt, with fmt's text TOLD by the authors' own Lean function (tested against real Go, not proved from fmt's source: count such statements apart). THE CARD IS WHAT COUNTS. Prove the row's statement (the work); the ties are given (YtiijkcebloefbaaDoorTie.lean); close each card by the builder's one call (the guide's Derived/Test/ToyasCard.lean, 'card_holds'). Laid BY PROGRAM, IN A SANDBOX (cutbox-door.mjs). By AI agents, Wed Nov 11 2026. No macro, syntax, notation, axiom, sorry.
-/
import Derived.Test.YtiijkcebloefbaaDoorRows
import GoSem.ClaimSeven
namespace Go.Proofs.YtiijkcebloefbaaDoor
namespace Rows

/-- THE TIED CARD OF 'laws.FnBlanks'. -/
def fnBlanksCard : Claim7 := { stood := { row := fnBlanksRow, standIns := [], harness := (true, "a17da1dae70d0dcf9b92679db2205325ab0920ed70c903290868553b30671732"), looks := false }, kinds := [], alts := [], laidByText := true, laidKinds := [.data], laidTests := true, laidLooks := .later }
def FnBlanksCardSaid : Prop := Claim7.holds Tryd.pinned (.plain (OpenSpec.ofChange fnBlanksSpec)) fnBlanksCard

/-- THE TIED CARD OF 'laws.FnExactCountBlanks'. -/
def fnExactCountBlanksCard : Claim7 := { stood := { row := fnExactCountBlanksRow, standIns := [], harness := (true, "a17da1dae70d0dcf9b92679db2205325ab0920ed70c903290868553b30671732"), looks := false }, kinds := [], alts := [], laidByText := true, laidKinds := [.data], laidTests := true, laidLooks := .later }
def FnExactCountBlanksCardSaid : Prop := Claim7.holds Tryd.pinned (.plain (OpenSpec.ofChange fnExactCountBlanksSpec)) fnExactCountBlanksCard

/-- THE SECOND FORM's CARD OF 'laws.FnBlanks'. -/
def fnBlanksUptoCard : Claim7 := { stood := { row := fnBlanksUptoRow, standIns := [], harness := (true, "a17da1dae70d0dcf9b92679db2205325ab0920ed70c903290868553b30671732"), looks := false }, kinds := [], alts := [], laidByText := true, laidKinds := [.data], laidTests := true, laidLooks := .later }
def FnBlanksUptoCardSaid : Prop := Claim7.holds Tryd.pinned (.plain (OpenSpec.upto fnBlanksSpec)) fnBlanksUptoCard

/-- THE SECOND FORM's CARD OF 'laws.FnExactCountBlanks'. -/
def fnExactCountBlanksUptoCard : Claim7 := { stood := { row := fnExactCountBlanksUptoRow, standIns := [], harness := (true, "a17da1dae70d0dcf9b92679db2205325ab0920ed70c903290868553b30671732"), looks := false }, kinds := [], alts := [], laidByText := true, laidKinds := [.data], laidTests := true, laidLooks := .later }
def FnExactCountBlanksUptoCardSaid : Prop := Claim7.holds Tryd.pinned (.plain (OpenSpec.upto fnExactCountBlanksSpec)) fnExactCountBlanksUptoCard
end Rows
end Go.Proofs.YtiijkcebloefbaaDoor
