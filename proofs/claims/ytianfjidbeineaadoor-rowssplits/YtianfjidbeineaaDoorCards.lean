/-
  DERIVED. GIVEN WITH THE SEED: THE CARDS: each row of YtianfjidbeineaaDoorRows.lean that lists a variable, with what it lists TIED to the program's text (the seventh form; the later family's looks); each row that meets fmt, with fmt's text TOLD by the authors' own Lean function (tested against real Go, not proved from fmt's source: count such statements apart). THE CARD IS WHAT COUNTS. Prove the row's statement (the work); the ties are given (YtianfjidbeineaaDoorTie.lean); close each card by the builder's one call (the guide's Derived/Test/ToyasCard.lean, 'card_holds'). Laid BY PROGRAM, IN A SANDBOX (cutbox-door.mjs). By AI agents, Wed Nov 11 2026. No macro, syntax, notation, axiom, sorry.
-/
import Derived.Test.YtianfjidbeineaaDoorRows
import GoSem.ClaimSeven
namespace Go.Proofs.YtianfjidbeineaaDoor
namespace Rows

/-- THE TIED CARD OF 'dendronlaw09.RowsSplits'. -/
def rowsSplitsCard : Claim7 := { stood := { row := rowsSplitsRow, standIns := [], harness := (true, "c8e6be53bc1b4d10cffcd3e7aa66abdadb2a50ab854b1380777183e88156017b"), looks := false }, kinds := [], alts := [], laidByText := true, laidKinds := [.data], laidTests := true, laidLooks := .later }
def RowsSplitsCardSaid : Prop := Claim7.holds Tryd.pinned (.plain (OpenSpec.ofChange rowsSplitsSpec)) rowsSplitsCard

/-- THE SECOND FORM's CARD OF 'dendronlaw09.RowsSplits'. -/
def rowsSplitsUptoCard : Claim7 := { stood := { row := rowsSplitsUptoRow, standIns := [], harness := (true, "c8e6be53bc1b4d10cffcd3e7aa66abdadb2a50ab854b1380777183e88156017b"), looks := false }, kinds := [], alts := [], laidByText := true, laidKinds := [.data], laidTests := true, laidLooks := .later }
def RowsSplitsUptoCardSaid : Prop := Claim7.holds Tryd.pinned (.plain (OpenSpec.upto rowsSplitsSpec)) rowsSplitsUptoCard
end Rows
end Go.Proofs.YtianfjidbeineaaDoor
