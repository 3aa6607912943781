/-
  DERIVED. GIVEN WITH THE SEED: THE CARDS: each row of YtjmagcgobhaenaaDoorRows.lean that lists a variable, with what it lists TIED to the program's text (the seventh form; the later family's looks); each row that meets fmt, with fmt's text TOLD by the authors' own Lean function (tested against real Go, not proved from fmt's source: count such statements apart). THE CARD IS WHAT COUNTS. Prove the row's statement (the work); the ties are given (YtjmagcgobhaenaaDoorTie.lean); close each card by the builder's one call (the guide's Derived/Test/ToyasCard.lean, 'card_holds'). Laid BY PROGRAM, IN A SANDBOX (cutbox-door.mjs). By AI agents, Wed Nov 11 2026. No macro, syntax, notation, axiom, sorry.
-/
import Derived.Test.YtjmagcgobhaenaaDoorRows
import GoSem.ClaimSeven
namespace Go.Proofs.YtjmagcgobhaenaaDoor
namespace Rows

/-- THE TIED CARD OF 'dendronlaw08.ValidUsed'. -/
def validUsedCard : Claim7 := { stood := { row := validUsedRow, standIns := [], harness := (true, "3d6ee5367ea52f353800fe1d8d9c692c5f448725f2ac1cafbe34e5faf2f9e59e"), looks := false }, kinds := [], alts := [], laidByText := true, laidKinds := [.data], laidTests := true, laidLooks := .later }
def ValidUsedCardSaid : Prop := Claim7.holds Tryd.pinned (.plain (OpenSpec.ofChange validUsedSpec)) validUsedCard

/-- THE TIED CARD OF 'dendronlaw08.ValidLeaves'. -/
def validLeavesCard : Claim7 := { stood := { row := validLeavesRow, standIns := [], harness := (true, "3d6ee5367ea52f353800fe1d8d9c692c5f448725f2ac1cafbe34e5faf2f9e59e"), looks := false }, kinds := [], alts := [], laidByText := true, laidKinds := [.data], laidTests := true, laidLooks := .later }
def ValidLeavesCardSaid : Prop := Claim7.holds Tryd.pinned (.plain (OpenSpec.ofChange validLeavesSpec)) validLeavesCard

/-- THE SECOND FORM's CARD OF 'dendronlaw08.ValidUsed'. -/
def validUsedUptoCard : Claim7 := { stood := { row := validUsedUptoRow, standIns := [], harness := (true, "3d6ee5367ea52f353800fe1d8d9c692c5f448725f2ac1cafbe34e5faf2f9e59e"), looks := false }, kinds := [], alts := [], laidByText := true, laidKinds := [.data], laidTests := true, laidLooks := .later }
def ValidUsedUptoCardSaid : Prop := Claim7.holds Tryd.pinned (.plain (OpenSpec.upto validUsedSpec)) validUsedUptoCard

/-- THE SECOND FORM's CARD OF 'dendronlaw08.ValidLeaves'. -/
def validLeavesUptoCard : Claim7 := { stood := { row := validLeavesUptoRow, standIns := [], harness := (true, "3d6ee5367ea52f353800fe1d8d9c692c5f448725f2ac1cafbe34e5faf2f9e59e"), looks := false }, kinds := [], alts := [], laidByText := true, laidKinds := [.data], laidTests := true, laidLooks := .later }
def ValidLeavesUptoCardSaid : Prop := Claim7.holds Tryd.pinned (.plain (OpenSpec.upto validLeavesSpec)) validLeavesUptoCard
end Rows
end Go.Proofs.YtjmagcgobhaenaaDoor
