/-
  DERIVED. GIVEN WITH THE SEED: THE CARDS: each row of YtnbocjbfieklhabGreatDoorRows.lean that lists a variable, with what it lists TIED to the program's text (the seventh form; the later family's looks); each row that meets fmt, with fmt's text TOLD by the authors' own Lean function (tested against real Go, not proved from fmt's source: count such statements apart). THE CARD IS WHAT COUNTS. Prove the row's statement (the work); the ties are given (YtnbocjbfieklhabGreatDoorTie.lean); close each card by the builder's one call (the guide's Derived/Test/ToyasCard.lean, 'card_holds'). Laid BY PROGRAM, IN A SANDBOX (cutbox-door.mjs). By AI agents, Wed Nov 11 2026. No macro, syntax, notation, axiom, sorry.
-/
import Derived.Test.YtnbocjbfieklhabGreatDoorRows
import GoSem.ClaimSeven
namespace Go.Proofs.YtnbocjbfieklhabGreatDoor
namespace Rows

/-- THE TIED CARD OF 'dendronlaw04.PolyChains'. -/
def polyChainsCard : Claim7 := { stood := { row := polyChainsRow, standIns := [], harness := (true, "b31e401f992273ffbadf862f04549d144c05f754ab65c7e44af6f6a8e926861e"), looks := false }, kinds := [], alts := [], laidByText := true, laidKinds := [.data], laidTests := true, laidLooks := .later }
def PolyChainsCardSaid : Prop := Claim7.holds Tryz.pinned (.plain (OpenSpec.ofChange polyChainsSpec)) polyChainsCard

/-- THE TIED CARD OF 'dendronlaw04.PolyRoots'. -/
def polyRootsCard : Claim7 := { stood := { row := polyRootsRow, standIns := [], harness := (true, "b31e401f992273ffbadf862f04549d144c05f754ab65c7e44af6f6a8e926861e"), looks := false }, kinds := [], alts := [], laidByText := true, laidKinds := [.data], laidTests := true, laidLooks := .later }
def PolyRootsCardSaid : Prop := Claim7.holds Tryz.pinned (.plain (OpenSpec.ofChange polyRootsSpec)) polyRootsCard

/-- THE SECOND FORM's CARD OF 'dendronlaw04.PolyChains'. -/
def polyChainsUptoCard : Claim7 := { stood := { row := polyChainsUptoRow, standIns := [], harness := (true, "b31e401f992273ffbadf862f04549d144c05f754ab65c7e44af6f6a8e926861e"), looks := false }, kinds := [], alts := [], laidByText := true, laidKinds := [.data], laidTests := true, laidLooks := .later }
def PolyChainsUptoCardSaid : Prop := Claim7.holds Tryz.pinned (.plain (OpenSpec.upto polyChainsSpec)) polyChainsUptoCard

/-- THE SECOND FORM's CARD OF 'dendronlaw04.PolyRoots'. -/
def polyRootsUptoCard : Claim7 := { stood := { row := polyRootsUptoRow, standIns := [], harness := (true, "b31e401f992273ffbadf862f04549d144c05f754ab65c7e44af6f6a8e926861e"), looks := false }, kinds := [], alts := [], laidByText := true, laidKinds := [.data], laidTests := true, laidLooks := .later }
def PolyRootsUptoCardSaid : Prop := Claim7.holds Tryz.pinned (.plain (OpenSpec.upto polyRootsSpec)) polyRootsUptoCard
end Rows
end Go.Proofs.YtnbocjbfieklhabGreatDoor
