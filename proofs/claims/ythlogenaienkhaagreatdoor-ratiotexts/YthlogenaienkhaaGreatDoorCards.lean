/-
  DERIVED. GIVEN WITH THE SEED: THE CARDS: each row of YthlogenaienkhaaGreatDoorRows.lean that lists a variable, with what it lists TIED to the program's text (the seventh form; the later family's looks); each row that meets fmt, with fmt's text TOLD by the authors' own Lean function (tested against real Go, not proved from fmt's source: count such statements apart). THE CARD IS WHAT COUNTS. Prove the row's statement (the work); the ties are given (YthlogenaienkhaaGreatDoorTie.lean); close each card by the builder's one call (the guide's Derived/Test/ToyasCard.lean, 'card_holds'). Laid BY PROGRAM, IN A SANDBOX (cutbox-door.mjs). By AI agents, Wed Nov 11 2026. No macro, syntax, notation, axiom, sorry.
-/
import Derived.Test.YthlogenaienkhaaGreatDoorRows
import GoSem.ClaimSeven
namespace Go.Proofs.YthlogenaienkhaaGreatDoor
namespace Rows

/-- THE TIED CARD OF 'dendronlaw03.RatioAll'. -/
def ratioAllCard : Claim7 := { stood := { row := ratioAllRow, standIns := [], harness := (true, "3380e13b50b7f32269091fe29852d4a9c6381b7d7ac34cf65ee07c32c1b30c36"), looks := false }, kinds := [], alts := [], laidByText := true, laidKinds := [.data], laidTests := true, laidLooks := .later }
def RatioAllCardSaid : Prop := Claim7.holds Tryz.pinned (.plain (OpenSpec.ofChange ratioAllSpec)) ratioAllCard

/-- THE TIED CARD OF 'dendronlaw03.RatioPowers'. -/
def ratioPowersCard : Claim7 := { stood := { row := ratioPowersRow, standIns := [], harness := (true, "3380e13b50b7f32269091fe29852d4a9c6381b7d7ac34cf65ee07c32c1b30c36"), looks := false }, kinds := [], alts := [], laidByText := true, laidKinds := [.data], laidTests := true, laidLooks := .later }
def RatioPowersCardSaid : Prop := Claim7.holds Tryz.pinned (.plain (OpenSpec.ofChange ratioPowersSpec)) ratioPowersCard

/-- THE TIED CARD OF 'dendronlaw03.RatioTexts'. -/
def ratioTextsCard : Claim7 := { stood := { row := ratioTextsRow, standIns := [], harness := (true, "3380e13b50b7f32269091fe29852d4a9c6381b7d7ac34cf65ee07c32c1b30c36"), looks := false }, kinds := [], alts := [], laidByText := true, laidKinds := [.data], laidTests := true, laidLooks := .later }
def RatioTextsCardSaid : Prop := Claim7.holds Tryz.pinned (.plain (OpenSpec.ofChange ratioTextsSpec)) ratioTextsCard

/-- THE TIED CARD OF 'dendronlaw03.RatioReads'. -/
def ratioReadsCard : Claim7 := { stood := { row := ratioReadsRow, standIns := [], harness := (true, "3380e13b50b7f32269091fe29852d4a9c6381b7d7ac34cf65ee07c32c1b30c36"), looks := false }, kinds := [], alts := [], laidByText := true, laidKinds := [.data], laidTests := true, laidLooks := .later }
def RatioReadsCardSaid : Prop := Claim7.holds Tryz.pinned (.plain (OpenSpec.ofChange ratioReadsSpec)) ratioReadsCard

/-- THE TIED CARD OF 'dendronlaw03.RatioFolds'. -/
def ratioFoldsCard : Claim7 := { stood := { row := ratioFoldsRow, standIns := [], harness := (true, "3380e13b50b7f32269091fe29852d4a9c6381b7d7ac34cf65ee07c32c1b30c36"), looks := false }, kinds := [], alts := [], laidByText := true, laidKinds := [.data], laidTests := true, laidLooks := .later }
def RatioFoldsCardSaid : Prop := Claim7.holds Tryz.pinned (.plain (OpenSpec.ofChange ratioFoldsSpec)) ratioFoldsCard

/-- THE TIED CARD OF 'dendronlaw03.RatioUnfolds'. -/
def ratioUnfoldsCard : Claim7 := { stood := { row := ratioUnfoldsRow, standIns := [], harness := (true, "3380e13b50b7f32269091fe29852d4a9c6381b7d7ac34cf65ee07c32c1b30c36"), looks := false }, kinds := [], alts := [], laidByText := true, laidKinds := [.data], laidTests := true, laidLooks := .later }
def RatioUnfoldsCardSaid : Prop := Claim7.holds Tryz.pinned (.plain (OpenSpec.ofChange ratioUnfoldsSpec)) ratioUnfoldsCard

/-- THE SECOND FORM's CARD OF 'dendronlaw03.RatioAll'. -/
def ratioAllUptoCard : Claim7 := { stood := { row := ratioAllUptoRow, standIns := [], harness := (true, "3380e13b50b7f32269091fe29852d4a9c6381b7d7ac34cf65ee07c32c1b30c36"), looks := false }, kinds := [], alts := [], laidByText := true, laidKinds := [.data], laidTests := true, laidLooks := .later }
def RatioAllUptoCardSaid : Prop := Claim7.holds Tryz.pinned (.plain (OpenSpec.upto ratioAllSpec)) ratioAllUptoCard

/-- THE SECOND FORM's CARD OF 'dendronlaw03.RatioPowers'. -/
def ratioPowersUptoCard : Claim7 := { stood := { row := ratioPowersUptoRow, standIns := [], harness := (true, "3380e13b50b7f32269091fe29852d4a9c6381b7d7ac34cf65ee07c32c1b30c36"), looks := false }, kinds := [], alts := [], laidByText := true, laidKinds := [.data], laidTests := true, laidLooks := .later }
def RatioPowersUptoCardSaid : Prop := Claim7.holds Tryz.pinned (.plain (OpenSpec.upto ratioPowersSpec)) ratioPowersUptoCard

/-- THE SECOND FORM's CARD OF 'dendronlaw03.RatioTexts'. -/
def ratioTextsUptoCard : Claim7 := { stood := { row := ratioTextsUptoRow, standIns := [], harness := (true, "3380e13b50b7f32269091fe29852d4a9c6381b7d7ac34cf65ee07c32c1b30c36"), looks := false }, kinds := [], alts := [], laidByText := true, laidKinds := [.data], laidTests := true, laidLooks := .later }
def RatioTextsUptoCardSaid : Prop := Claim7.holds Tryz.pinned (.plain (OpenSpec.upto ratioTextsSpec)) ratioTextsUptoCard

/-- THE SECOND FORM's CARD OF 'dendronlaw03.RatioReads'. -/
def ratioReadsUptoCard : Claim7 := { stood := { row := ratioReadsUptoRow, standIns := [], harness := (true, "3380e13b50b7f32269091fe29852d4a9c6381b7d7ac34cf65ee07c32c1b30c36"), looks := false }, kinds := [], alts := [], laidByText := true, laidKinds := [.data], laidTests := true, laidLooks := .later }
def RatioReadsUptoCardSaid : Prop := Claim7.holds Tryz.pinned (.plain (OpenSpec.upto ratioReadsSpec)) ratioReadsUptoCard

/-- THE SECOND FORM's CARD OF 'dendronlaw03.RatioFolds'. -/
def ratioFoldsUptoCard : Claim7 := { stood := { row := ratioFoldsUptoRow, standIns := [], harness := (true, "3380e13b50b7f32269091fe29852d4a9c6381b7d7ac34cf65ee07c32c1b30c36"), looks := false }, kinds := [], alts := [], laidByText := true, laidKinds := [.data], laidTests := true, laidLooks := .later }
def RatioFoldsUptoCardSaid : Prop := Claim7.holds Tryz.pinned (.plain (OpenSpec.upto ratioFoldsSpec)) ratioFoldsUptoCard

/-- THE SECOND FORM's CARD OF 'dendronlaw03.RatioUnfolds'. -/
def ratioUnfoldsUptoCard : Claim7 := { stood := { row := ratioUnfoldsUptoRow, standIns := [], harness := (true, "3380e13b50b7f32269091fe29852d4a9c6381b7d7ac34cf65ee07c32c1b30c36"), looks := false }, kinds := [], alts := [], laidByText := true, laidKinds := [.data], laidTests := true, laidLooks := .later }
def RatioUnfoldsUptoCardSaid : Prop := Claim7.holds Tryz.pinned (.plain (OpenSpec.upto ratioUnfoldsSpec)) ratioUnfoldsUptoCard
end Rows
end Go.Proofs.YthlogenaienkhaaGreatDoor
