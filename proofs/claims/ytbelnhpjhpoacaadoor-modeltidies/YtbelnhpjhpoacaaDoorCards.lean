/-
  DERIVED. GIVEN WITH THE SEED: THE CARDS: each row of YtbelnhpjhpoacaaDoorRows.lean that lists a variable, with what it lists TIED to the program's text (the seventh form; the later family's looks); each row that meets fmt, with fmt's text TOLD by the authors' own Lean function (tested against real Go, not proved from fmt's source: count such statements apart). THE CARD IS WHAT COUNTS. Prove the row's statement (the work); the ties are given (YtbelnhpjhpoacaaDoorTie.lean); close each card by the builder's one call (the guide's Derived/Test/ToyasCard.lean, 'card_holds'). Laid BY PROGRAM, IN A SANDBOX (cutbox-door.mjs). By AI agents, Wed Nov 11 2026. No macro, syntax, notation, axiom, sorry.
-/
import Derived.Test.YtbelnhpjhpoacaaDoorRows
import GoSem.ClaimSeven
namespace Go.Proofs.YtbelnhpjhpoacaaDoor
namespace Rows

/-- THE TIED CARD OF 'dendronlaw07.ModelTidies'. -/
def modelTidiesCard : Claim7 := { stood := { row := modelTidiesRow, standIns := [], harness := (true, "e520eafcfb2bb4aa4d587fbe9e66881a9659a9e2af44b51572abe9fb5df3fa73"), looks := false }, kinds := [], alts := [], laidByText := true, laidKinds := [.data, .data, .data], laidTests := true, laidLooks := .later }
def ModelTidiesCardSaid : Prop := Claim7.holds Tryd.pinned (.plain (OpenSpec.ofChange modelTidiesSpec)) modelTidiesCard

/-- THE SECOND FORM's CARD OF 'dendronlaw07.ModelTidies'. -/
def modelTidiesUptoCard : Claim7 := { stood := { row := modelTidiesUptoRow, standIns := [], harness := (true, "e520eafcfb2bb4aa4d587fbe9e66881a9659a9e2af44b51572abe9fb5df3fa73"), looks := false }, kinds := [], alts := [], laidByText := true, laidKinds := [.data, .data, .data], laidTests := true, laidLooks := .later }
def ModelTidiesUptoCardSaid : Prop := Claim7.holds Tryd.pinned (.plain (OpenSpec.upto modelTidiesSpec)) modelTidiesUptoCard
end Rows
end Go.Proofs.YtbelnhpjhpoacaaDoor
