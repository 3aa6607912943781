/-
  DERIVED. GIVEN WITH THE SEED: THE CARDS: each row of YtianfjidbeineaaGreatDoorRows.lean that lists a variable, with what it lists TIED to the program's text (the seventh form; the later family's looks); each row that meets fmt, with fmt's text TOLD by the authors' own Lean function (tested against real Go, not proved from fmt's source: count such statements apart). THE CARD IS WHAT COUNTS. Prove the row's statement (the work); the ties are given (YtianfjidbeineaaGreatDoorTie.lean); close each card by the builder's one call (the guide's Derived/Test/ToyasCard.lean, 'card_holds'). Laid BY PROGRAM, IN A SANDBOX (cutbox-door.mjs). By AI agents, Wed Nov 11 2026. No macro, syntax, notation, axiom, sorry.
-/
import Derived.Test.YtianfjidbeineaaGreatDoorRows
import GoSem.ClaimSeven
namespace Go.Proofs.YtianfjidbeineaaGreatDoor
namespace Rows

/-- THE TIED CARD OF 'dendronlaw09.RowsCells'. -/
def rowsCellsCard : Claim7 := { stood := { row := rowsCellsRow, standIns := [], harness := (true, "885c1355689222cccb61c3139621a6636fb64cd2ef1af163d7343c3d7e634eb2"), looks := false }, kinds := [], alts := [], laidByText := true, laidKinds := [.data], laidTests := true, laidLooks := .later }
def RowsCellsCardSaid : Prop := Claim7.holds Tryz.pinned (.plain (OpenSpec.ofChange rowsCellsSpec)) rowsCellsCard

/-- THE TIED CARD OF 'dendronlaw09.RowsReads'. -/
def rowsReadsCard : Claim7 := { stood := { row := rowsReadsRow, standIns := [], harness := (true, "885c1355689222cccb61c3139621a6636fb64cd2ef1af163d7343c3d7e634eb2"), looks := false }, kinds := [], alts := [], laidByText := true, laidKinds := [.data], laidTests := true, laidLooks := .later }
def RowsReadsCardSaid : Prop := Claim7.holds Tryz.pinned (.plain (OpenSpec.ofChange rowsReadsSpec)) rowsReadsCard

/-- THE TIED CARD OF 'dendronlaw09.RowsBack'. -/
def rowsBackCard : Claim7 := { stood := { row := rowsBackRow, standIns := [], harness := (true, "885c1355689222cccb61c3139621a6636fb64cd2ef1af163d7343c3d7e634eb2"), looks := false }, kinds := [], alts := [], laidByText := true, laidKinds := [.data], laidTests := true, laidLooks := .later }
def RowsBackCardSaid : Prop := Claim7.holds Tryz.pinned (.plain (OpenSpec.ofChange rowsBackSpec)) rowsBackCard

/-- THE TIED CARD OF 'dendronlaw09.RowsSames'. -/
def rowsSamesCard : Claim7 := { stood := { row := rowsSamesRow, standIns := [], harness := (true, "885c1355689222cccb61c3139621a6636fb64cd2ef1af163d7343c3d7e634eb2"), looks := false }, kinds := [], alts := [], laidByText := true, laidKinds := [.data], laidTests := true, laidLooks := .later }
def RowsSamesCardSaid : Prop := Claim7.holds Tryz.pinned (.plain (OpenSpec.ofChange rowsSamesSpec)) rowsSamesCard

/-- THE TIED CARD OF 'dendronlaw09.RowsTurns'. -/
def rowsTurnsCard : Claim7 := { stood := { row := rowsTurnsRow, standIns := [], harness := (true, "885c1355689222cccb61c3139621a6636fb64cd2ef1af163d7343c3d7e634eb2"), looks := false }, kinds := [], alts := [], laidByText := true, laidKinds := [.data], laidTests := true, laidLooks := .later }
def RowsTurnsCardSaid : Prop := Claim7.holds Tryz.pinned (.plain (OpenSpec.ofChange rowsTurnsSpec)) rowsTurnsCard

/-- THE SECOND FORM's CARD OF 'dendronlaw09.RowsCells'. -/
def rowsCellsUptoCard : Claim7 := { stood := { row := rowsCellsUptoRow, standIns := [], harness := (true, "885c1355689222cccb61c3139621a6636fb64cd2ef1af163d7343c3d7e634eb2"), looks := false }, kinds := [], alts := [], laidByText := true, laidKinds := [.data], laidTests := true, laidLooks := .later }
def RowsCellsUptoCardSaid : Prop := Claim7.holds Tryz.pinned (.plain (OpenSpec.upto rowsCellsSpec)) rowsCellsUptoCard

/-- THE SECOND FORM's CARD OF 'dendronlaw09.RowsReads'. -/
def rowsReadsUptoCard : Claim7 := { stood := { row := rowsReadsUptoRow, standIns := [], harness := (true, "885c1355689222cccb61c3139621a6636fb64cd2ef1af163d7343c3d7e634eb2"), looks := false }, kinds := [], alts := [], laidByText := true, laidKinds := [.data], laidTests := true, laidLooks := .later }
def RowsReadsUptoCardSaid : Prop := Claim7.holds Tryz.pinned (.plain (OpenSpec.upto rowsReadsSpec)) rowsReadsUptoCard

/-- THE SECOND FORM's CARD OF 'dendronlaw09.RowsBack'. -/
def rowsBackUptoCard : Claim7 := { stood := { row := rowsBackUptoRow, standIns := [], harness := (true, "885c1355689222cccb61c3139621a6636fb64cd2ef1af163d7343c3d7e634eb2"), looks := false }, kinds := [], alts := [], laidByText := true, laidKinds := [.data], laidTests := true, laidLooks := .later }
def RowsBackUptoCardSaid : Prop := Claim7.holds Tryz.pinned (.plain (OpenSpec.upto rowsBackSpec)) rowsBackUptoCard

/-- THE SECOND FORM's CARD OF 'dendronlaw09.RowsSames'. -/
def rowsSamesUptoCard : Claim7 := { stood := { row := rowsSamesUptoRow, standIns := [], harness := (true, "885c1355689222cccb61c3139621a6636fb64cd2ef1af163d7343c3d7e634eb2"), looks := false }, kinds := [], alts := [], laidByText := true, laidKinds := [.data], laidTests := true, laidLooks := .later }
def RowsSamesUptoCardSaid : Prop := Claim7.holds Tryz.pinned (.plain (OpenSpec.upto rowsSamesSpec)) rowsSamesUptoCard

/-- THE SECOND FORM's CARD OF 'dendronlaw09.RowsTurns'. -/
def rowsTurnsUptoCard : Claim7 := { stood := { row := rowsTurnsUptoRow, standIns := [], harness := (true, "885c1355689222cccb61c3139621a6636fb64cd2ef1af163d7343c3d7e634eb2"), looks := false }, kinds := [], alts := [], laidByText := true, laidKinds := [.data], laidTests := true, laidLooks := .later }
def RowsTurnsUptoCardSaid : Prop := Claim7.holds Tryz.pinned (.plain (OpenSpec.upto rowsTurnsSpec)) rowsTurnsUptoCard
end Rows
end Go.Proofs.YtianfjidbeineaaGreatDoor
