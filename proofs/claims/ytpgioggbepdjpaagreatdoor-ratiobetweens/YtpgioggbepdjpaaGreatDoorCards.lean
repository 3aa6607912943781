/-
  DERIVED. GIVEN WITH THE SEED: THE CARDS: each row of YtpgioggbepdjpaaGreatDoorRows.lean that lists a variable, with what it lists TIED to the program's text (the seventh form; the later family's looks); each row that meets fmt, with fmt's text TOLD by the authors' own Lean function (tested against real Go, not proved from fmt's source: count such statements apart). THE CARD IS WHAT COUNTS. Prove the row's statement (the work); the ties are given (YtpgioggbepdjpaaGreatDoorTie.lean); close each card by the builder's one call (the guide's Derived/Test/ToyasCard.lean, 'card_holds'). Laid BY PROGRAM, IN A SANDBOX (cutbox-door.mjs). By AI agents, Wed Nov 11 2026. No macro, syntax, notation, axiom, sorry.
-/
import Derived.Test.YtpgioggbepdjpaaGreatDoorRows
import GoSem.ClaimSeven
namespace Go.Proofs.YtpgioggbepdjpaaGreatDoor
namespace Rows

/-- THE TIED CARD OF 'dendronlaw03.RatioNears'. -/
def ratioNearsCard : Claim7 := { stood := { row := ratioNearsRow, standIns := [], harness := (true, "51394e755401dc49060e326d79ca5809954e3cac7b87752ebd6f82bbdd028512"), looks := false }, kinds := [], alts := [], laidByText := true, laidKinds := [.data], laidTests := true, laidLooks := .later }
def RatioNearsCardSaid : Prop := Claim7.holds Tryz.pinned (.plain (OpenSpec.ofChange ratioNearsSpec)) ratioNearsCard

/-- THE TIED CARD OF 'dendronlaw03.RatioBetweens'. -/
def ratioBetweensCard : Claim7 := { stood := { row := ratioBetweensRow, standIns := [], harness := (true, "51394e755401dc49060e326d79ca5809954e3cac7b87752ebd6f82bbdd028512"), looks := false }, kinds := [], alts := [], laidByText := true, laidKinds := [.data], laidTests := true, laidLooks := .later }
def RatioBetweensCardSaid : Prop := Claim7.holds Tryz.pinned (.plain (OpenSpec.ofChange ratioBetweensSpec)) ratioBetweensCard

/-- THE SECOND FORM's CARD OF 'dendronlaw03.RatioNears'. -/
def ratioNearsUptoCard : Claim7 := { stood := { row := ratioNearsUptoRow, standIns := [], harness := (true, "51394e755401dc49060e326d79ca5809954e3cac7b87752ebd6f82bbdd028512"), looks := false }, kinds := [], alts := [], laidByText := true, laidKinds := [.data], laidTests := true, laidLooks := .later }
def RatioNearsUptoCardSaid : Prop := Claim7.holds Tryz.pinned (.plain (OpenSpec.upto ratioNearsSpec)) ratioNearsUptoCard

/-- THE SECOND FORM's CARD OF 'dendronlaw03.RatioBetweens'. -/
def ratioBetweensUptoCard : Claim7 := { stood := { row := ratioBetweensUptoRow, standIns := [], harness := (true, "51394e755401dc49060e326d79ca5809954e3cac7b87752ebd6f82bbdd028512"), looks := false }, kinds := [], alts := [], laidByText := true, laidKinds := [.data], laidTests := true, laidLooks := .later }
def RatioBetweensUptoCardSaid : Prop := Claim7.holds Tryz.pinned (.plain (OpenSpec.upto ratioBetweensSpec)) ratioBetweensUptoCard
end Rows
end Go.Proofs.YtpgioggbepdjpaaGreatDoor
