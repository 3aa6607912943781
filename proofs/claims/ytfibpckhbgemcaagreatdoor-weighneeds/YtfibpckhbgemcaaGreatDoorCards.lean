/-
  DERIVED. GIVEN WITH THE SEED: THE CARDS: each row of YtfibpckhbgemcaaGreatDoorRows.lean that lists a variable, with what it lists TIED to the program's text (the seventh form; the later family's looks); each row that meets fmt, with fmt's text TOLD by the authors' own Lean function (tested against real Go, not proved from fmt's source: count such statements apart). THE CARD IS WHAT COUNTS. Prove the row's statement (the work); the ties are given (YtfibpckhbgemcaaGreatDoorTie.lean); close each card by the builder's one call (the guide's Derived/Test/ToyasCard.lean, 'card_holds'). Laid BY PROGRAM, IN A SANDBOX (cutbox-door.mjs). By AI agents, Wed Nov 11 2026. No macro, syntax, notation, axiom, sorry.
-/
import Derived.Test.YtfibpckhbgemcaaGreatDoorRows
import GoSem.ClaimSeven
namespace Go.Proofs.YtfibpckhbgemcaaGreatDoor
namespace Rows

/-- THE TIED CARD OF 'dendronlaw14.WeighFacts'. -/
def weighFactsCard : Claim7 := { stood := { row := weighFactsRow, standIns := [], harness := (true, "eeffd6bd899e8edb0c7b9ed8e33ff2a95ce20abacf21bee988a273f730e03bab"), looks := false }, kinds := [], alts := [], laidByText := true, laidKinds := [.data], laidTests := true, laidLooks := .later }
def WeighFactsCardSaid : Prop := Claim7.holds Tryz.pinned (.plain (OpenSpec.ofChange weighFactsSpec)) weighFactsCard

/-- THE TIED CARD OF 'dendronlaw14.WeighWeights'. -/
def weighWeightsCard : Claim7 := { stood := { row := weighWeightsRow, standIns := [], harness := (true, "eeffd6bd899e8edb0c7b9ed8e33ff2a95ce20abacf21bee988a273f730e03bab"), looks := false }, kinds := [], alts := [], laidByText := true, laidKinds := [.data], laidTests := true, laidLooks := .later }
def WeighWeightsCardSaid : Prop := Claim7.holds Tryz.pinned (.plain (OpenSpec.ofChange weighWeightsSpec)) weighWeightsCard

/-- THE TIED CARD OF 'dendronlaw14.WeighPairs'. -/
def weighPairsCard : Claim7 := { stood := { row := weighPairsRow, standIns := [], harness := (true, "eeffd6bd899e8edb0c7b9ed8e33ff2a95ce20abacf21bee988a273f730e03bab"), looks := false }, kinds := [], alts := [], laidByText := true, laidKinds := [.data], laidTests := true, laidLooks := .later }
def WeighPairsCardSaid : Prop := Claim7.holds Tryz.pinned (.plain (OpenSpec.ofChange weighPairsSpec)) weighPairsCard

/-- THE TIED CARD OF 'dendronlaw14.WeighNeeds'. -/
def weighNeedsCard : Claim7 := { stood := { row := weighNeedsRow, standIns := [], harness := (true, "eeffd6bd899e8edb0c7b9ed8e33ff2a95ce20abacf21bee988a273f730e03bab"), looks := false }, kinds := [], alts := [], laidByText := true, laidKinds := [.data], laidTests := true, laidLooks := .later }
def WeighNeedsCardSaid : Prop := Claim7.holds Tryz.pinned (.plain (OpenSpec.ofChange weighNeedsSpec)) weighNeedsCard

/-- THE TIED CARD OF 'dendronlaw14.WeighAll'. -/
def weighAllCard : Claim7 := { stood := { row := weighAllRow, standIns := [], harness := (true, "eeffd6bd899e8edb0c7b9ed8e33ff2a95ce20abacf21bee988a273f730e03bab"), looks := false }, kinds := [], alts := [], laidByText := true, laidKinds := [.data], laidTests := true, laidLooks := .later }
def WeighAllCardSaid : Prop := Claim7.holds Tryz.pinned (.plain (OpenSpec.ofChange weighAllSpec)) weighAllCard

/-- THE TIED CARD OF 'dendronlaw14.WeighKept'. -/
def weighKeptCard : Claim7 := { stood := { row := weighKeptRow, standIns := [], harness := (true, "eeffd6bd899e8edb0c7b9ed8e33ff2a95ce20abacf21bee988a273f730e03bab"), looks := false }, kinds := [], alts := [], laidByText := true, laidKinds := [.data], laidTests := true, laidLooks := .later }
def WeighKeptCardSaid : Prop := Claim7.holds Tryz.pinned (.plain (OpenSpec.ofChange weighKeptSpec)) weighKeptCard

/-- THE TIED CARD OF 'dendronlaw14.WeighNobody'. -/
def weighNobodyCard : Claim7 := { stood := { row := weighNobodyRow, standIns := [], harness := (true, "eeffd6bd899e8edb0c7b9ed8e33ff2a95ce20abacf21bee988a273f730e03bab"), looks := false }, kinds := [], alts := [], laidByText := true, laidKinds := [.data], laidTests := true, laidLooks := .later }
def WeighNobodyCardSaid : Prop := Claim7.holds Tryz.pinned (.plain (OpenSpec.ofChange weighNobodySpec)) weighNobodyCard

/-- THE SECOND FORM's CARD OF 'dendronlaw14.WeighFacts'. -/
def weighFactsUptoCard : Claim7 := { stood := { row := weighFactsUptoRow, standIns := [], harness := (true, "eeffd6bd899e8edb0c7b9ed8e33ff2a95ce20abacf21bee988a273f730e03bab"), looks := false }, kinds := [], alts := [], laidByText := true, laidKinds := [.data], laidTests := true, laidLooks := .later }
def WeighFactsUptoCardSaid : Prop := Claim7.holds Tryz.pinned (.plain (OpenSpec.upto weighFactsSpec)) weighFactsUptoCard

/-- THE SECOND FORM's CARD OF 'dendronlaw14.WeighWeights'. -/
def weighWeightsUptoCard : Claim7 := { stood := { row := weighWeightsUptoRow, standIns := [], harness := (true, "eeffd6bd899e8edb0c7b9ed8e33ff2a95ce20abacf21bee988a273f730e03bab"), looks := false }, kinds := [], alts := [], laidByText := true, laidKinds := [.data], laidTests := true, laidLooks := .later }
def WeighWeightsUptoCardSaid : Prop := Claim7.holds Tryz.pinned (.plain (OpenSpec.upto weighWeightsSpec)) weighWeightsUptoCard

/-- THE SECOND FORM's CARD OF 'dendronlaw14.WeighPairs'. -/
def weighPairsUptoCard : Claim7 := { stood := { row := weighPairsUptoRow, standIns := [], harness := (true, "eeffd6bd899e8edb0c7b9ed8e33ff2a95ce20abacf21bee988a273f730e03bab"), looks := false }, kinds := [], alts := [], laidByText := true, laidKinds := [.data], laidTests := true, laidLooks := .later }
def WeighPairsUptoCardSaid : Prop := Claim7.holds Tryz.pinned (.plain (OpenSpec.upto weighPairsSpec)) weighPairsUptoCard

/-- THE SECOND FORM's CARD OF 'dendronlaw14.WeighNeeds'. -/
def weighNeedsUptoCard : Claim7 := { stood := { row := weighNeedsUptoRow, standIns := [], harness := (true, "eeffd6bd899e8edb0c7b9ed8e33ff2a95ce20abacf21bee988a273f730e03bab"), looks := false }, kinds := [], alts := [], laidByText := true, laidKinds := [.data], laidTests := true, laidLooks := .later }
def WeighNeedsUptoCardSaid : Prop := Claim7.holds Tryz.pinned (.plain (OpenSpec.upto weighNeedsSpec)) weighNeedsUptoCard

/-- THE SECOND FORM's CARD OF 'dendronlaw14.WeighAll'. -/
def weighAllUptoCard : Claim7 := { stood := { row := weighAllUptoRow, standIns := [], harness := (true, "eeffd6bd899e8edb0c7b9ed8e33ff2a95ce20abacf21bee988a273f730e03bab"), looks := false }, kinds := [], alts := [], laidByText := true, laidKinds := [.data], laidTests := true, laidLooks := .later }
def WeighAllUptoCardSaid : Prop := Claim7.holds Tryz.pinned (.plain (OpenSpec.upto weighAllSpec)) weighAllUptoCard

/-- THE SECOND FORM's CARD OF 'dendronlaw14.WeighKept'. -/
def weighKeptUptoCard : Claim7 := { stood := { row := weighKeptUptoRow, standIns := [], harness := (true, "eeffd6bd899e8edb0c7b9ed8e33ff2a95ce20abacf21bee988a273f730e03bab"), looks := false }, kinds := [], alts := [], laidByText := true, laidKinds := [.data], laidTests := true, laidLooks := .later }
def WeighKeptUptoCardSaid : Prop := Claim7.holds Tryz.pinned (.plain (OpenSpec.upto weighKeptSpec)) weighKeptUptoCard

/-- THE SECOND FORM's CARD OF 'dendronlaw14.WeighNobody'. -/
def weighNobodyUptoCard : Claim7 := { stood := { row := weighNobodyUptoRow, standIns := [], harness := (true, "eeffd6bd899e8edb0c7b9ed8e33ff2a95ce20abacf21bee988a273f730e03bab"), looks := false }, kinds := [], alts := [], laidByText := true, laidKinds := [.data], laidTests := true, laidLooks := .later }
def WeighNobodyUptoCardSaid : Prop := Claim7.holds Tryz.pinned (.plain (OpenSpec.upto weighNobodySpec)) weighNobodyUptoCard
end Rows
end Go.Proofs.YtfibpckhbgemcaaGreatDoor
