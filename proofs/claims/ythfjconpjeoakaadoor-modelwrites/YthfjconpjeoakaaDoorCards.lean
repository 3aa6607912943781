/-
  DERIVED. GIVEN WITH THE SEED: THE CARDS: each row of YthfjconpjeoakaaDoorRows.lean that lists a variable, with what it lists TIED to the program's text (the seventh form; the later family's looks); each row that meets fmt, with fmt's text TOLD by the authors' own Lean function (tested against real Go, not proved from fmt's source: count such statements apart). THE CARD IS WHAT COUNTS. Prove the row's statement (the work); the ties are given (YthfjconpjeoakaaDoorTie.lean); close each card by the builder's one call (the guide's Derived/Test/ToyasCard.lean, 'card_holds'). Laid BY PROGRAM, IN A SANDBOX (cutbox-door.mjs). By AI agents, Wed Nov 11 2026. No macro, syntax, notation, axiom, sorry.
-/
import Derived.Test.YthfjconpjeoakaaDoorRows
import GoSem.ClaimSeven
namespace Go.Proofs.YthfjconpjeoakaaDoor
namespace Rows

/-- THE TIED CARD OF 'dendronlaw07.ModelWrites'. -/
def modelWritesCard : Claim7 := { stood := { row := modelWritesRow, standIns := [], harness := (true, "70b8e878feb67192ea435d70ac49c2821cf47cc43801fd7bf112d10bea98be63"), looks := false }, kinds := [], alts := [], laidByText := true, laidKinds := [.data, .data, .data], laidTests := true, laidLooks := .later }
def ModelWritesCardSaid : Prop := Claim7.holds Tryd.pinned (.plain (OpenSpec.ofChange modelWritesSpec)) modelWritesCard

/-- THE TIED CARD OF 'dendronlaw07.ModelTidies'. -/
def modelTidiesCard : Claim7 := { stood := { row := modelTidiesRow, standIns := [], harness := (true, "70b8e878feb67192ea435d70ac49c2821cf47cc43801fd7bf112d10bea98be63"), looks := false }, kinds := [], alts := [], laidByText := true, laidKinds := [.data, .data, .data], laidTests := true, laidLooks := .later }
def ModelTidiesCardSaid : Prop := Claim7.holds Tryd.pinned (.plain (OpenSpec.ofChange modelTidiesSpec)) modelTidiesCard

/-- THE SECOND FORM's CARD OF 'dendronlaw07.ModelWrites'. -/
def modelWritesUptoCard : Claim7 := { stood := { row := modelWritesUptoRow, standIns := [], harness := (true, "70b8e878feb67192ea435d70ac49c2821cf47cc43801fd7bf112d10bea98be63"), looks := false }, kinds := [], alts := [], laidByText := true, laidKinds := [.data, .data, .data], laidTests := true, laidLooks := .later }
def ModelWritesUptoCardSaid : Prop := Claim7.holds Tryd.pinned (.plain (OpenSpec.upto modelWritesSpec)) modelWritesUptoCard

/-- THE SECOND FORM's CARD OF 'dendronlaw07.ModelTidies'. -/
def modelTidiesUptoCard : Claim7 := { stood := { row := modelTidiesUptoRow, standIns := [], harness := (true, "70b8e878feb67192ea435d70ac49c2821cf47cc43801fd7bf112d10bea98be63"), looks := false }, kinds := [], alts := [], laidByText := true, laidKinds := [.data, .data, .data], laidTests := true, laidLooks := .later }
def ModelTidiesUptoCardSaid : Prop := Claim7.holds Tryd.pinned (.plain (OpenSpec.upto modelTidiesSpec)) modelTidiesUptoCard
end Rows
end Go.Proofs.YthfjconpjeoakaaDoor
