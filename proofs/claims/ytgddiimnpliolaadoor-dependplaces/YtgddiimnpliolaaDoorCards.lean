/-
  DERIVED. GIVEN WITH THE SEED: THE CARDS: each row of YtgddiimnpliolaaDoorRows.lean that lists a variable, with what it lists TIED to the program's text (the seventh form; the later family's looks); each row that meets fmt, with fmt's text TOLD by the authors' own Lean function (tested against real Go, not proved from fmt's source: count such statements apart). THE CARD IS WHAT COUNTS. Prove the row's statement (the work); the ties are given (YtgddiimnpliolaaDoorTie.lean); close each card by the builder's one call (the guide's Derived/Test/ToyasCard.lean, 'card_holds'). Laid BY PROGRAM, IN A SANDBOX (cutbox-door.mjs). By AI agents, Wed Nov 11 2026. No macro, syntax, notation, axiom, sorry.
-/
import Derived.Test.YtgddiimnpliolaaDoorRows
import GoSem.ClaimSeven
namespace Go.Proofs.YtgddiimnpliolaaDoor
namespace Rows

/-- THE TIED CARD OF 'dendronlaw08.ValidLeaves'. -/
def validLeavesCard : Claim7 := { stood := { row := validLeavesRow, standIns := [], harness := (true, "456af802cdee95ae23ed01af2acc19d58be20befe2c00b4fb431ef1b1445b6f4"), looks := false }, kinds := [], alts := [], laidByText := true, laidKinds := [.data], laidTests := true, laidLooks := .later }
def ValidLeavesCardSaid : Prop := Claim7.holds Tryd.pinned (.plain (OpenSpec.ofChange validLeavesSpec)) validLeavesCard

/-- THE TIED CARD OF 'dendronlaw13.DependPlaces'. -/
def dependPlacesCard : Claim7 := { stood := { row := dependPlacesRow, standIns := [], harness := (true, "456af802cdee95ae23ed01af2acc19d58be20befe2c00b4fb431ef1b1445b6f4"), looks := false }, kinds := [], alts := [], laidByText := true, laidKinds := [.data], laidTests := true, laidLooks := .later }
def DependPlacesCardSaid : Prop := Claim7.holds Tryd.pinned (.plain (OpenSpec.ofChange dependPlacesSpec)) dependPlacesCard

/-- THE SECOND FORM's CARD OF 'dendronlaw08.ValidLeaves'. -/
def validLeavesUptoCard : Claim7 := { stood := { row := validLeavesUptoRow, standIns := [], harness := (true, "456af802cdee95ae23ed01af2acc19d58be20befe2c00b4fb431ef1b1445b6f4"), looks := false }, kinds := [], alts := [], laidByText := true, laidKinds := [.data], laidTests := true, laidLooks := .later }
def ValidLeavesUptoCardSaid : Prop := Claim7.holds Tryd.pinned (.plain (OpenSpec.upto validLeavesSpec)) validLeavesUptoCard

/-- THE SECOND FORM's CARD OF 'dendronlaw13.DependPlaces'. -/
def dependPlacesUptoCard : Claim7 := { stood := { row := dependPlacesUptoRow, standIns := [], harness := (true, "456af802cdee95ae23ed01af2acc19d58be20befe2c00b4fb431ef1b1445b6f4"), looks := false }, kinds := [], alts := [], laidByText := true, laidKinds := [.data], laidTests := true, laidLooks := .later }
def DependPlacesUptoCardSaid : Prop := Claim7.holds Tryd.pinned (.plain (OpenSpec.upto dependPlacesSpec)) dependPlacesUptoCard
end Rows
end Go.Proofs.YtgddiimnpliolaaDoor
