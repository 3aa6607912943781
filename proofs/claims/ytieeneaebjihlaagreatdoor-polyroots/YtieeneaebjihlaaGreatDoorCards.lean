/-
  DERIVED. GIVEN WITH THE SEED: THE CARDS: each row of YtieeneaebjihlaaGreatDoorRows.lean that lists a variable, with what it lists TIED to the program's text (the seventh form; the later family's looks); each row that meets fmt, with fmt's text TOLD by the authors' own Lean function (tested against real Go, not proved from fmt's source: count such statements apart). THE CARD IS WHAT COUNTS. Prove the row's statement (the work); the ties are given (YtieeneaebjihlaaGreatDoorTie.lean); close each card by the builder's one call (the guide's Derived/Test/ToyasCard.lean, 'card_holds'). Laid BY PROGRAM, IN A SANDBOX (cutbox-door.mjs). By AI agents, Wed Nov 11 2026. No macro, syntax, notation, axiom, sorry.
-/
import Derived.Test.YtieeneaebjihlaaGreatDoorRows
import GoSem.ClaimSeven
namespace Go.Proofs.YtieeneaebjihlaaGreatDoor
namespace Rows

/-- THE TIED CARD OF 'dendronlaw04.PolyRoots'. -/
def polyRootsCard : Claim7 := { stood := { row := polyRootsRow, standIns := [], harness := (true, "946d23f3729168903cb858ee17e7682a0a240083c88a55935055be2fe346e902"), looks := false }, kinds := [], alts := [], laidByText := true, laidKinds := [.data], laidTests := true, laidLooks := .later }
def PolyRootsCardSaid : Prop := Claim7.holds Tryz.pinned (.plain (OpenSpec.ofChange polyRootsSpec)) polyRootsCard

/-- THE SECOND FORM's CARD OF 'dendronlaw04.PolyRoots'. -/
def polyRootsUptoCard : Claim7 := { stood := { row := polyRootsUptoRow, standIns := [], harness := (true, "946d23f3729168903cb858ee17e7682a0a240083c88a55935055be2fe346e902"), looks := false }, kinds := [], alts := [], laidByText := true, laidKinds := [.data], laidTests := true, laidLooks := .later }
def PolyRootsUptoCardSaid : Prop := Claim7.holds Tryz.pinned (.plain (OpenSpec.upto polyRootsSpec)) polyRootsUptoCard
end Rows
end Go.Proofs.YtieeneaebjihlaaGreatDoor
