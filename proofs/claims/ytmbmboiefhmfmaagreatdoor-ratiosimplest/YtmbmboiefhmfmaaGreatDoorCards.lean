/-
  DERIVED. GIVEN WITH THE SEED: THE CARDS: each row of YtmbmboiefhmfmaaGreatDoorRows.lean that lists a variable, with what it lists TIED to the program's text (the seventh form; the later family's looks); each row that meets fmt, with fmt's text TOLD by the authors' own Lean function (tested against real Go, not proved from fmt's source: count such statements apart). THE CARD IS WHAT COUNTS. Prove the row's statement (the work); the ties are given (YtmbmboiefhmfmaaGreatDoorTie.lean); close each card by the builder's one call (the guide's Derived/Test/ToyasCard.lean, 'card_holds'). Laid BY PROGRAM, IN A SANDBOX (cutbox-door.mjs). By AI agents, Wed Nov 11 2026. No macro, syntax, notation, axiom, sorry.
-/
import Derived.Test.YtmbmboiefhmfmaaGreatDoorRows
import GoSem.ClaimSeven
namespace Go.Proofs.YtmbmboiefhmfmaaGreatDoor
namespace Rows

/-- THE TIED CARD OF 'dendronlaw03.RatioDecimals'. -/
def ratioDecimalsCard : Claim7 := { stood := { row := ratioDecimalsRow, standIns := [], harness := (true, "eccea4b1585cbee0c04a22ce75d490ac6561d8be7ec591fce5aaaf7d19f2813c"), looks := false }, kinds := [], alts := [], laidByText := true, laidKinds := [.data], laidTests := true, laidLooks := .later }
def RatioDecimalsCardSaid : Prop := Claim7.holds Tryz.pinned (.plain (OpenSpec.ofChange ratioDecimalsSpec)) ratioDecimalsCard

/-- THE TIED CARD OF 'dendronlaw03.RatioNears'. -/
def ratioNearsCard : Claim7 := { stood := { row := ratioNearsRow, standIns := [], harness := (true, "eccea4b1585cbee0c04a22ce75d490ac6561d8be7ec591fce5aaaf7d19f2813c"), looks := false }, kinds := [], alts := [], laidByText := true, laidKinds := [.data], laidTests := true, laidLooks := .later }
def RatioNearsCardSaid : Prop := Claim7.holds Tryz.pinned (.plain (OpenSpec.ofChange ratioNearsSpec)) ratioNearsCard

/-- THE TIED CARD OF 'dendronlaw03.RatioSimplest'. -/
def ratioSimplestCard : Claim7 := { stood := { row := ratioSimplestRow, standIns := [], harness := (true, "eccea4b1585cbee0c04a22ce75d490ac6561d8be7ec591fce5aaaf7d19f2813c"), looks := false }, kinds := [], alts := [], laidByText := true, laidKinds := [.data], laidTests := true, laidLooks := .later }
def RatioSimplestCardSaid : Prop := Claim7.holds Tryz.pinned (.plain (OpenSpec.ofChange ratioSimplestSpec)) ratioSimplestCard

/-- THE TIED CARD OF 'dendronlaw03.RatioBetweens'. -/
def ratioBetweensCard : Claim7 := { stood := { row := ratioBetweensRow, standIns := [], harness := (true, "eccea4b1585cbee0c04a22ce75d490ac6561d8be7ec591fce5aaaf7d19f2813c"), looks := false }, kinds := [], alts := [], laidByText := true, laidKinds := [.data], laidTests := true, laidLooks := .later }
def RatioBetweensCardSaid : Prop := Claim7.holds Tryz.pinned (.plain (OpenSpec.ofChange ratioBetweensSpec)) ratioBetweensCard

/-- THE SECOND FORM's CARD OF 'dendronlaw03.RatioDecimals'. -/
def ratioDecimalsUptoCard : Claim7 := { stood := { row := ratioDecimalsUptoRow, standIns := [], harness := (true, "eccea4b1585cbee0c04a22ce75d490ac6561d8be7ec591fce5aaaf7d19f2813c"), looks := false }, kinds := [], alts := [], laidByText := true, laidKinds := [.data], laidTests := true, laidLooks := .later }
def RatioDecimalsUptoCardSaid : Prop := Claim7.holds Tryz.pinned (.plain (OpenSpec.upto ratioDecimalsSpec)) ratioDecimalsUptoCard

/-- THE SECOND FORM's CARD OF 'dendronlaw03.RatioNears'. -/
def ratioNearsUptoCard : Claim7 := { stood := { row := ratioNearsUptoRow, standIns := [], harness := (true, "eccea4b1585cbee0c04a22ce75d490ac6561d8be7ec591fce5aaaf7d19f2813c"), looks := false }, kinds := [], alts := [], laidByText := true, laidKinds := [.data], laidTests := true, laidLooks := .later }
def RatioNearsUptoCardSaid : Prop := Claim7.holds Tryz.pinned (.plain (OpenSpec.upto ratioNearsSpec)) ratioNearsUptoCard

/-- THE SECOND FORM's CARD OF 'dendronlaw03.RatioSimplest'. -/
def ratioSimplestUptoCard : Claim7 := { stood := { row := ratioSimplestUptoRow, standIns := [], harness := (true, "eccea4b1585cbee0c04a22ce75d490ac6561d8be7ec591fce5aaaf7d19f2813c"), looks := false }, kinds := [], alts := [], laidByText := true, laidKinds := [.data], laidTests := true, laidLooks := .later }
def RatioSimplestUptoCardSaid : Prop := Claim7.holds Tryz.pinned (.plain (OpenSpec.upto ratioSimplestSpec)) ratioSimplestUptoCard

/-- THE SECOND FORM's CARD OF 'dendronlaw03.RatioBetweens'. -/
def ratioBetweensUptoCard : Claim7 := { stood := { row := ratioBetweensUptoRow, standIns := [], harness := (true, "eccea4b1585cbee0c04a22ce75d490ac6561d8be7ec591fce5aaaf7d19f2813c"), looks := false }, kinds := [], alts := [], laidByText := true, laidKinds := [.data], laidTests := true, laidLooks := .later }
def RatioBetweensUptoCardSaid : Prop := Claim7.holds Tryz.pinned (.plain (OpenSpec.upto ratioBetweensSpec)) ratioBetweensUptoCard
end Rows
end Go.Proofs.YtmbmboiefhmfmaaGreatDoor
