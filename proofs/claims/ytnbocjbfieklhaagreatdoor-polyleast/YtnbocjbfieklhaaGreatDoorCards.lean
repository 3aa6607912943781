/-
  DERIVED. GIVEN WITH THE SEED: THE CARDS: each row of YtnbocjbfieklhaaGreatDoorRows.lean that lists a variable, with what it lists TIED to the program's text (the seventh form; the later family's looks); each row that meets fmt, with fmt's text TOLD by the authors' own Lean function (tested against real Go, not proved from fmt's source: count such statements apart). THE CARD IS WHAT COUNTS. Prove the row's statement (the work); the ties are given (YtnbocjbfieklhaaGreatDoorTie.lean); close each card by the builder's one call (the guide's Derived/Test/ToyasCard.lean, 'card_holds'). Laid BY PROGRAM, IN A SANDBOX (cutbox-door.mjs). By AI agents, Wed Nov 11 2026. No macro, syntax, notation, axiom, sorry.
-/
import Derived.Test.YtnbocjbfieklhaaGreatDoorRows
import GoSem.ClaimSeven
namespace Go.Proofs.YtnbocjbfieklhaaGreatDoor
namespace Rows

/-- THE TIED CARD OF 'dendronlaw04.PolyProducts'. -/
def polyProductsCard : Claim7 := { stood := { row := polyProductsRow, standIns := [], harness := (true, "bbc665b88dfdf00f59a32d7f70012164447cbec1d4343b32efd05aa9803691dc"), looks := false }, kinds := [], alts := [], laidByText := true, laidKinds := [.data], laidTests := true, laidLooks := .later }
def PolyProductsCardSaid : Prop := Claim7.holds Tryz.pinned (.plain (OpenSpec.ofChange polyProductsSpec)) polyProductsCard

/-- THE TIED CARD OF 'dendronlaw04.PolyGcds'. -/
def polyGcdsCard : Claim7 := { stood := { row := polyGcdsRow, standIns := [], harness := (true, "bbc665b88dfdf00f59a32d7f70012164447cbec1d4343b32efd05aa9803691dc"), looks := false }, kinds := [], alts := [], laidByText := true, laidKinds := [.data], laidTests := true, laidLooks := .later }
def PolyGcdsCardSaid : Prop := Claim7.holds Tryz.pinned (.plain (OpenSpec.ofChange polyGcdsSpec)) polyGcdsCard

/-- THE TIED CARD OF 'dendronlaw04.PolyLeast'. -/
def polyLeastCard : Claim7 := { stood := { row := polyLeastRow, standIns := [], harness := (true, "bbc665b88dfdf00f59a32d7f70012164447cbec1d4343b32efd05aa9803691dc"), looks := false }, kinds := [], alts := [], laidByText := true, laidKinds := [.data], laidTests := true, laidLooks := .later }
def PolyLeastCardSaid : Prop := Claim7.holds Tryz.pinned (.plain (OpenSpec.ofChange polyLeastSpec)) polyLeastCard

/-- THE TIED CARD OF 'dendronlaw04.PolyValues'. -/
def polyValuesCard : Claim7 := { stood := { row := polyValuesRow, standIns := [], harness := (true, "bbc665b88dfdf00f59a32d7f70012164447cbec1d4343b32efd05aa9803691dc"), looks := false }, kinds := [], alts := [], laidByText := true, laidKinds := [.data], laidTests := true, laidLooks := .later }
def PolyValuesCardSaid : Prop := Claim7.holds Tryz.pinned (.plain (OpenSpec.ofChange polyValuesSpec)) polyValuesCard

/-- THE TIED CARD OF 'dendronlaw04.PolySlopes'. -/
def polySlopesCard : Claim7 := { stood := { row := polySlopesRow, standIns := [], harness := (true, "bbc665b88dfdf00f59a32d7f70012164447cbec1d4343b32efd05aa9803691dc"), looks := false }, kinds := [], alts := [], laidByText := true, laidKinds := [.data], laidTests := true, laidLooks := .later }
def PolySlopesCardSaid : Prop := Claim7.holds Tryz.pinned (.plain (OpenSpec.ofChange polySlopesSpec)) polySlopesCard

/-- THE TIED CARD OF 'dendronlaw04.PolyThrough'. -/
def polyThroughCard : Claim7 := { stood := { row := polyThroughRow, standIns := [], harness := (true, "bbc665b88dfdf00f59a32d7f70012164447cbec1d4343b32efd05aa9803691dc"), looks := false }, kinds := [], alts := [], laidByText := true, laidKinds := [.data], laidTests := true, laidLooks := .later }
def PolyThroughCardSaid : Prop := Claim7.holds Tryz.pinned (.plain (OpenSpec.ofChange polyThroughSpec)) polyThroughCard

/-- THE SECOND FORM's CARD OF 'dendronlaw04.PolyProducts'. -/
def polyProductsUptoCard : Claim7 := { stood := { row := polyProductsUptoRow, standIns := [], harness := (true, "bbc665b88dfdf00f59a32d7f70012164447cbec1d4343b32efd05aa9803691dc"), looks := false }, kinds := [], alts := [], laidByText := true, laidKinds := [.data], laidTests := true, laidLooks := .later }
def PolyProductsUptoCardSaid : Prop := Claim7.holds Tryz.pinned (.plain (OpenSpec.upto polyProductsSpec)) polyProductsUptoCard

/-- THE SECOND FORM's CARD OF 'dendronlaw04.PolyGcds'. -/
def polyGcdsUptoCard : Claim7 := { stood := { row := polyGcdsUptoRow, standIns := [], harness := (true, "bbc665b88dfdf00f59a32d7f70012164447cbec1d4343b32efd05aa9803691dc"), looks := false }, kinds := [], alts := [], laidByText := true, laidKinds := [.data], laidTests := true, laidLooks := .later }
def PolyGcdsUptoCardSaid : Prop := Claim7.holds Tryz.pinned (.plain (OpenSpec.upto polyGcdsSpec)) polyGcdsUptoCard

/-- THE SECOND FORM's CARD OF 'dendronlaw04.PolyLeast'. -/
def polyLeastUptoCard : Claim7 := { stood := { row := polyLeastUptoRow, standIns := [], harness := (true, "bbc665b88dfdf00f59a32d7f70012164447cbec1d4343b32efd05aa9803691dc"), looks := false }, kinds := [], alts := [], laidByText := true, laidKinds := [.data], laidTests := true, laidLooks := .later }
def PolyLeastUptoCardSaid : Prop := Claim7.holds Tryz.pinned (.plain (OpenSpec.upto polyLeastSpec)) polyLeastUptoCard

/-- THE SECOND FORM's CARD OF 'dendronlaw04.PolyValues'. -/
def polyValuesUptoCard : Claim7 := { stood := { row := polyValuesUptoRow, standIns := [], harness := (true, "bbc665b88dfdf00f59a32d7f70012164447cbec1d4343b32efd05aa9803691dc"), looks := false }, kinds := [], alts := [], laidByText := true, laidKinds := [.data], laidTests := true, laidLooks := .later }
def PolyValuesUptoCardSaid : Prop := Claim7.holds Tryz.pinned (.plain (OpenSpec.upto polyValuesSpec)) polyValuesUptoCard

/-- THE SECOND FORM's CARD OF 'dendronlaw04.PolySlopes'. -/
def polySlopesUptoCard : Claim7 := { stood := { row := polySlopesUptoRow, standIns := [], harness := (true, "bbc665b88dfdf00f59a32d7f70012164447cbec1d4343b32efd05aa9803691dc"), looks := false }, kinds := [], alts := [], laidByText := true, laidKinds := [.data], laidTests := true, laidLooks := .later }
def PolySlopesUptoCardSaid : Prop := Claim7.holds Tryz.pinned (.plain (OpenSpec.upto polySlopesSpec)) polySlopesUptoCard

/-- THE SECOND FORM's CARD OF 'dendronlaw04.PolyThrough'. -/
def polyThroughUptoCard : Claim7 := { stood := { row := polyThroughUptoRow, standIns := [], harness := (true, "bbc665b88dfdf00f59a32d7f70012164447cbec1d4343b32efd05aa9803691dc"), looks := false }, kinds := [], alts := [], laidByText := true, laidKinds := [.data], laidTests := true, laidLooks := .later }
def PolyThroughUptoCardSaid : Prop := Claim7.holds Tryz.pinned (.plain (OpenSpec.upto polyThroughSpec)) polyThroughUptoCard
end Rows
end Go.Proofs.YtnbocjbfieklhaaGreatDoor
