/-
  DERIVED. GIVEN WITH THE SEED: THE CARDS: each row of YtnnnkajomljdgaaDoorRows.lean that lists a variable, with what it lists TIED to the program's text (the seventh form; the later family's looks); each row that meets fmt, with fmt's text TOLD by the authors' own Lean function (tested against real Go, not proved from fmt's source: count such statements apart). THE CARD IS WHAT COUNTS. Prove the row's statement (the work); the ties are given (YtnnnkajomljdgaaDoorTie.lean); close each card by the builder's one call (the guide's Derived/Test/ToyasCard.lean, 'card_holds'). Laid BY PROGRAM, IN A SANDBOX (cutbox-door.mjs). By AI agents, Wed Nov 11 2026. No macro, syntax, notation, axiom, sorry.
-/
import Derived.Test.YtnnnkajomljdgaaDoorRows
import GoSem.ClaimSeven
namespace Go.Proofs.YtnnnkajomljdgaaDoor
namespace Rows

/-- THE TIED CARD OF 'dendronlaw10.RouteLefts'. -/
def routeLeftsCard : Claim7 := { stood := { row := routeLeftsRow, standIns := [], harness := (true, "7f59b3c6d3d5c89dd360b56c06d12b4c067ffb5db6b6c6a3c7f42a9b7179f86c"), looks := false }, kinds := [], alts := [], laidByText := true, laidKinds := [.data], laidTests := true, laidLooks := .later }
def RouteLeftsCardSaid : Prop := Claim7.holds Tryd.pinned (.plain (OpenSpec.ofChange routeLeftsSpec)) routeLeftsCard

/-- THE SECOND FORM's CARD OF 'dendronlaw10.RouteLefts'. -/
def routeLeftsUptoCard : Claim7 := { stood := { row := routeLeftsUptoRow, standIns := [], harness := (true, "7f59b3c6d3d5c89dd360b56c06d12b4c067ffb5db6b6c6a3c7f42a9b7179f86c"), looks := false }, kinds := [], alts := [], laidByText := true, laidKinds := [.data], laidTests := true, laidLooks := .later }
def RouteLeftsUptoCardSaid : Prop := Claim7.holds Tryd.pinned (.plain (OpenSpec.upto routeLeftsSpec)) routeLeftsUptoCard
end Rows
end Go.Proofs.YtnnnkajomljdgaaDoor
