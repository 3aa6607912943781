/-
  DERIVED. GIVEN WITH THE SEED: THE CARDS: each row of YtjfacmeeplalkaaDoorRows.lean that lists a variable, with what it lists TIED to the program's text (the seventh form; the later family's looks); each row that meets fmt, with fmt's text TOLD by the authors' own Lean function (tested against real Go, not proved from fmt's source: count such statements apart). THE CARD IS WHAT COUNTS. Prove the row's statement (the work); the ties are given (YtjfacmeeplalkaaDoorTie.lean); close each card by the builder's one call (the guide's Derived/Test/ToyasCard.lean, 'card_holds'). Laid BY PROGRAM, IN A SANDBOX (cutbox-door.mjs). By AI agents, Wed Nov 11 2026. No macro, syntax, notation, axiom, sorry.
-/
import Derived.Test.YtjfacmeeplalkaaDoorRows
import GoSem.ClaimSeven
namespace Go.Proofs.YtjfacmeeplalkaaDoor
namespace Rows

/-- THE TIED CARD OF 'dendronlaw02.WholeGcds'. -/
def wholeGcdsCard : Claim7 := { stood := { row := wholeGcdsRow, standIns := [], harness := (true, "df60c005182ab2178289f6afa78c24630eddf724e1de201e01af05aaa1737cac"), looks := false }, kinds := [], alts := [], laidByText := true, laidKinds := [.data], laidTests := true, laidLooks := .later }
def WholeGcdsCardSaid : Prop := Claim7.holds Tryd.pinned (.plain (OpenSpec.ofChange wholeGcdsSpec)) wholeGcdsCard

/-- THE SECOND FORM's CARD OF 'dendronlaw02.WholeGcds'. -/
def wholeGcdsUptoCard : Claim7 := { stood := { row := wholeGcdsUptoRow, standIns := [], harness := (true, "df60c005182ab2178289f6afa78c24630eddf724e1de201e01af05aaa1737cac"), looks := false }, kinds := [], alts := [], laidByText := true, laidKinds := [.data], laidTests := true, laidLooks := .later }
def WholeGcdsUptoCardSaid : Prop := Claim7.holds Tryd.pinned (.plain (OpenSpec.upto wholeGcdsSpec)) wholeGcdsUptoCard
end Rows
end Go.Proofs.YtjfacmeeplalkaaDoor
