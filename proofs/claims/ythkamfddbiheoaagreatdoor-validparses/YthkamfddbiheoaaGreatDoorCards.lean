/-
  DERIVED. GIVEN WITH THE SEED: THE CARDS: each row of YthkamfddbiheoaaGreatDoorRows.lean that lists a variable, with what it lists TIED to the program's text (the seventh form; the later family's looks); each row that meets fmt, with fmt's text TOLD by the authors' own Lean function (tested against real Go, not proved from fmt's source: count such statements apart). THE CARD IS WHAT COUNTS. Prove the row's statement (the work); the ties are given (YthkamfddbiheoaaGreatDoorTie.lean); close each card by the builder's one call (the guide's Derived/Test/ToyasCard.lean, 'card_holds'). Laid BY PROGRAM, IN A SANDBOX (cutbox-door.mjs). By AI agents, Wed Nov 11 2026. No macro, syntax, notation, axiom, sorry.
-/
import Derived.Test.YthkamfddbiheoaaGreatDoorRows
import GoSem.ClaimSeven
namespace Go.Proofs.YthkamfddbiheoaaGreatDoor
namespace Rows

/-- THE TIED CARD OF 'dendronlaw07.ModelBack'. -/
def modelBackCard : Claim7 := { stood := { row := modelBackRow, standIns := [], harness := (true, "c4aa1b5b3cc03d14c9beeb154ff1ffac97d59de215b5ec5e8041e2ff0ef8fb50"), looks := true }, kinds := [], alts := [], laidByText := true, laidKinds := [.data, .data, .data, .data, .sentinel, .sentinel, .pinned], laidTests := true, laidLooks := .later }
def ModelBackCardSaid : Prop := Claim7.holds Tryz.pinned (.plain (OpenSpec.ofChange modelBackSpec)) modelBackCard

/-- THE TIED CARD OF 'dendronlaw07.ModelReads'. -/
def modelReadsCard : Claim7 := { stood := { row := modelReadsRow, standIns := [], harness := (true, "c4aa1b5b3cc03d14c9beeb154ff1ffac97d59de215b5ec5e8041e2ff0ef8fb50"), looks := true }, kinds := [], alts := [], laidByText := true, laidKinds := [.data, .data, .data, .data, .sentinel, .sentinel, .pinned], laidTests := true, laidLooks := .later }
def ModelReadsCardSaid : Prop := Claim7.holds Tryz.pinned (.plain (OpenSpec.ofChange modelReadsSpec)) modelReadsCard

/-- THE TIED CARD OF 'dendronlaw07.ModelAgain'. -/
def modelAgainCard : Claim7 := { stood := { row := modelAgainRow, standIns := [], harness := (true, "c4aa1b5b3cc03d14c9beeb154ff1ffac97d59de215b5ec5e8041e2ff0ef8fb50"), looks := true }, kinds := [], alts := [], laidByText := true, laidKinds := [.data, .data, .data, .data, .sentinel, .sentinel, .pinned], laidTests := true, laidLooks := .later }
def ModelAgainCardSaid : Prop := Claim7.holds Tryz.pinned (.plain (OpenSpec.ofChange modelAgainSpec)) modelAgainCard

/-- THE TIED CARD OF 'dendronlaw08.ValidParses'. -/
def validParsesCard : Claim7 := { stood := { row := validParsesRow, standIns := [], harness := (true, "c4aa1b5b3cc03d14c9beeb154ff1ffac97d59de215b5ec5e8041e2ff0ef8fb50"), looks := true }, kinds := [], alts := [], laidByText := true, laidKinds := [.data, .data, .data, .data, .sentinel, .sentinel, .pinned], laidTests := true, laidLooks := .later }
def ValidParsesCardSaid : Prop := Claim7.holds Tryz.pinned (.plain (OpenSpec.ofChange validParsesSpec)) validParsesCard

/-- THE SECOND FORM's CARD OF 'dendronlaw07.ModelBack'. -/
def modelBackUptoCard : Claim7 := { stood := { row := modelBackUptoRow, standIns := [], harness := (true, "c4aa1b5b3cc03d14c9beeb154ff1ffac97d59de215b5ec5e8041e2ff0ef8fb50"), looks := true }, kinds := [], alts := [], laidByText := true, laidKinds := [.data, .data, .data, .data, .sentinel, .sentinel, .pinned], laidTests := true, laidLooks := .later }
def ModelBackUptoCardSaid : Prop := Claim7.holds Tryz.pinned (.plain (OpenSpec.upto modelBackSpec)) modelBackUptoCard

/-- THE SECOND FORM's CARD OF 'dendronlaw07.ModelReads'. -/
def modelReadsUptoCard : Claim7 := { stood := { row := modelReadsUptoRow, standIns := [], harness := (true, "c4aa1b5b3cc03d14c9beeb154ff1ffac97d59de215b5ec5e8041e2ff0ef8fb50"), looks := true }, kinds := [], alts := [], laidByText := true, laidKinds := [.data, .data, .data, .data, .sentinel, .sentinel, .pinned], laidTests := true, laidLooks := .later }
def ModelReadsUptoCardSaid : Prop := Claim7.holds Tryz.pinned (.plain (OpenSpec.upto modelReadsSpec)) modelReadsUptoCard

/-- THE SECOND FORM's CARD OF 'dendronlaw07.ModelAgain'. -/
def modelAgainUptoCard : Claim7 := { stood := { row := modelAgainUptoRow, standIns := [], harness := (true, "c4aa1b5b3cc03d14c9beeb154ff1ffac97d59de215b5ec5e8041e2ff0ef8fb50"), looks := true }, kinds := [], alts := [], laidByText := true, laidKinds := [.data, .data, .data, .data, .sentinel, .sentinel, .pinned], laidTests := true, laidLooks := .later }
def ModelAgainUptoCardSaid : Prop := Claim7.holds Tryz.pinned (.plain (OpenSpec.upto modelAgainSpec)) modelAgainUptoCard

/-- THE SECOND FORM's CARD OF 'dendronlaw08.ValidParses'. -/
def validParsesUptoCard : Claim7 := { stood := { row := validParsesUptoRow, standIns := [], harness := (true, "c4aa1b5b3cc03d14c9beeb154ff1ffac97d59de215b5ec5e8041e2ff0ef8fb50"), looks := true }, kinds := [], alts := [], laidByText := true, laidKinds := [.data, .data, .data, .data, .sentinel, .sentinel, .pinned], laidTests := true, laidLooks := .later }
def ValidParsesUptoCardSaid : Prop := Claim7.holds Tryz.pinned (.plain (OpenSpec.upto validParsesSpec)) validParsesUptoCard
end Rows
end Go.Proofs.YthkamfddbiheoaaGreatDoor
