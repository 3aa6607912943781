/-
  DERIVED. GIVEN WITH THE SEED: THE CARDS: each row of YtbbliiafkjipbaaGreatDoorRows.lean that lists a variable, with what it lists TIED to the program's text (the seventh form; the later family's looks); each row that meets fmt, with fmt's text TOLD by the authors' own Lean function (tested against real Go, not proved from fmt's source: count such statements apart). THE CARD IS WHAT COUNTS. Prove the row's statement (the work); the ties are given (YtbbliiafkjipbaaGreatDoorTie.lean); close each card by the builder's one call (the guide's Derived/Test/ToyasCard.lean, 'card_holds'). Laid BY PROGRAM, IN A SANDBOX (cutbox-door.mjs). By AI agents, Wed Nov 11 2026. No macro, syntax, notation, axiom, sorry.
-/
import Derived.Test.YtbbliiafkjipbaaGreatDoorRows
import GoSem.ClaimSeven
namespace Go.Proofs.YtbbliiafkjipbaaGreatDoor
namespace Rows

/-- THE TIED CARD OF 'dendronlaw11.ExpectLegs'. -/
def expectLegsCard : Claim7 := { stood := { row := expectLegsRow, standIns := [], harness := (true, "58d71e1b5000b0e2587b5db2d71ea12029712d3cfea31691cab49e52e761c372"), looks := false }, kinds := [], alts := [], laidByText := true, laidKinds := [.data], laidTests := true, laidLooks := .later }
def ExpectLegsCardSaid : Prop := Claim7.holds Tryz.pinned (.plain (OpenSpec.ofChange expectLegsSpec)) expectLegsCard

/-- THE TIED CARD OF 'dendronlaw11.ExpectReaches'. -/
def expectReachesCard : Claim7 := { stood := { row := expectReachesRow, standIns := [], harness := (true, "58d71e1b5000b0e2587b5db2d71ea12029712d3cfea31691cab49e52e761c372"), looks := false }, kinds := [], alts := [], laidByText := true, laidKinds := [.data], laidTests := true, laidLooks := .later }
def ExpectReachesCardSaid : Prop := Claim7.holds Tryz.pinned (.plain (OpenSpec.ofChange expectReachesSpec)) expectReachesCard

/-- THE SECOND FORM's CARD OF 'dendronlaw11.ExpectLegs'. -/
def expectLegsUptoCard : Claim7 := { stood := { row := expectLegsUptoRow, standIns := [], harness := (true, "58d71e1b5000b0e2587b5db2d71ea12029712d3cfea31691cab49e52e761c372"), looks := false }, kinds := [], alts := [], laidByText := true, laidKinds := [.data], laidTests := true, laidLooks := .later }
def ExpectLegsUptoCardSaid : Prop := Claim7.holds Tryz.pinned (.plain (OpenSpec.upto expectLegsSpec)) expectLegsUptoCard

/-- THE SECOND FORM's CARD OF 'dendronlaw11.ExpectReaches'. -/
def expectReachesUptoCard : Claim7 := { stood := { row := expectReachesUptoRow, standIns := [], harness := (true, "58d71e1b5000b0e2587b5db2d71ea12029712d3cfea31691cab49e52e761c372"), looks := false }, kinds := [], alts := [], laidByText := true, laidKinds := [.data], laidTests := true, laidLooks := .later }
def ExpectReachesUptoCardSaid : Prop := Claim7.holds Tryz.pinned (.plain (OpenSpec.upto expectReachesSpec)) expectReachesUptoCard
end Rows
end Go.Proofs.YtbbliiafkjipbaaGreatDoor
