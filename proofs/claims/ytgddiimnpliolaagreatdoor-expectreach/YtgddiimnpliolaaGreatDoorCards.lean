/-
  DERIVED. GIVEN WITH THE SEED: THE CARDS: each row of YtgddiimnpliolaaGreatDoorRows.lean that lists a variable, with what it lists TIED to the program's text (the seventh form; the later family's looks); each row that meets fmt, with fmt's text TOLD by the authors' own Lean function (tested against real Go, not proved from fmt's source: count such statements apart). THE CARD IS WHAT COUNTS. Prove the row's statement (the work); the ties are given (YtgddiimnpliolaaGreatDoorTie.lean); close each card by the builder's one call (the guide's Derived/Test/ToyasCard.lean, 'card_holds'). Laid BY PROGRAM, IN A SANDBOX (cutbox-door.mjs). By AI agents, Wed Nov 11 2026. No macro, syntax, notation, axiom, sorry.
-/
import Derived.Test.YtgddiimnpliolaaGreatDoorRows
import GoSem.ClaimSeven
namespace Go.Proofs.YtgddiimnpliolaaGreatDoor
namespace Rows

/-- THE TIED CARD OF 'dendronlaw11.ExpectTables'. -/
def expectTablesCard : Claim7 := { stood := { row := expectTablesRow, standIns := [], harness := (true, "dcc389e807bc8d5f1a990ce784507b20bf5010e9b0176c6e9255f5a052bf5811"), looks := false }, kinds := [], alts := [], laidByText := true, laidKinds := [.data], laidTests := true, laidLooks := .later }
def ExpectTablesCardSaid : Prop := Claim7.holds Tryz.pinned (.plain (OpenSpec.ofChange expectTablesSpec)) expectTablesCard

/-- THE TIED CARD OF 'dendronlaw11.ExpectLegs'. -/
def expectLegsCard : Claim7 := { stood := { row := expectLegsRow, standIns := [], harness := (true, "dcc389e807bc8d5f1a990ce784507b20bf5010e9b0176c6e9255f5a052bf5811"), looks := false }, kinds := [], alts := [], laidByText := true, laidKinds := [.data], laidTests := true, laidLooks := .later }
def ExpectLegsCardSaid : Prop := Claim7.holds Tryz.pinned (.plain (OpenSpec.ofChange expectLegsSpec)) expectLegsCard

/-- THE TIED CARD OF 'dendronlaw11.ExpectReaches'. -/
def expectReachesCard : Claim7 := { stood := { row := expectReachesRow, standIns := [], harness := (true, "dcc389e807bc8d5f1a990ce784507b20bf5010e9b0176c6e9255f5a052bf5811"), looks := false }, kinds := [], alts := [], laidByText := true, laidKinds := [.data], laidTests := true, laidLooks := .later }
def ExpectReachesCardSaid : Prop := Claim7.holds Tryz.pinned (.plain (OpenSpec.ofChange expectReachesSpec)) expectReachesCard

/-- THE TIED CARD OF 'dendronlaw11.ExpectReach'. -/
def expectReachCard : Claim7 := { stood := { row := expectReachRow, standIns := [], harness := (true, "dcc389e807bc8d5f1a990ce784507b20bf5010e9b0176c6e9255f5a052bf5811"), looks := false }, kinds := [], alts := [], laidByText := true, laidKinds := [.data], laidTests := true, laidLooks := .later }
def ExpectReachCardSaid : Prop := Claim7.holds Tryz.pinned (.plain (OpenSpec.ofChange expectReachSpec)) expectReachCard

/-- THE TIED CARD OF 'dendronlaw13.DependCovers'. -/
def dependCoversCard : Claim7 := { stood := { row := dependCoversRow, standIns := [], harness := (true, "dcc389e807bc8d5f1a990ce784507b20bf5010e9b0176c6e9255f5a052bf5811"), looks := false }, kinds := [], alts := [], laidByText := true, laidKinds := [.data], laidTests := true, laidLooks := .later }
def DependCoversCardSaid : Prop := Claim7.holds Tryz.pinned (.plain (OpenSpec.ofChange dependCoversSpec)) dependCoversCard

/-- THE TIED CARD OF 'dendronlaw13.DependRests'. -/
def dependRestsCard : Claim7 := { stood := { row := dependRestsRow, standIns := [], harness := (true, "dcc389e807bc8d5f1a990ce784507b20bf5010e9b0176c6e9255f5a052bf5811"), looks := false }, kinds := [], alts := [], laidByText := true, laidKinds := [.data], laidTests := true, laidLooks := .later }
def DependRestsCardSaid : Prop := Claim7.holds Tryz.pinned (.plain (OpenSpec.ofChange dependRestsSpec)) dependRestsCard

/-- THE TIED CARD OF 'dendronlaw13.DependAverages'. -/
def dependAveragesCard : Claim7 := { stood := { row := dependAveragesRow, standIns := [], harness := (true, "dcc389e807bc8d5f1a990ce784507b20bf5010e9b0176c6e9255f5a052bf5811"), looks := false }, kinds := [], alts := [], laidByText := true, laidKinds := [.data], laidTests := true, laidLooks := .later }
def DependAveragesCardSaid : Prop := Claim7.holds Tryz.pinned (.plain (OpenSpec.ofChange dependAveragesSpec)) dependAveragesCard

/-- THE TIED CARD OF 'dendronlaw13.DependGrids'. -/
def dependGridsCard : Claim7 := { stood := { row := dependGridsRow, standIns := [], harness := (true, "dcc389e807bc8d5f1a990ce784507b20bf5010e9b0176c6e9255f5a052bf5811"), looks := false }, kinds := [], alts := [], laidByText := true, laidKinds := [.data], laidTests := true, laidLooks := .later }
def DependGridsCardSaid : Prop := Claim7.holds Tryz.pinned (.plain (OpenSpec.ofChange dependGridsSpec)) dependGridsCard

/-- THE TIED CARD OF 'dendronlaw13.DependCurves'. -/
def dependCurvesCard : Claim7 := { stood := { row := dependCurvesRow, standIns := [], harness := (true, "dcc389e807bc8d5f1a990ce784507b20bf5010e9b0176c6e9255f5a052bf5811"), looks := false }, kinds := [], alts := [], laidByText := true, laidKinds := [.data], laidTests := true, laidLooks := .later }
def DependCurvesCardSaid : Prop := Claim7.holds Tryz.pinned (.plain (OpenSpec.ofChange dependCurvesSpec)) dependCurvesCard

/-- THE TIED CARD OF 'dendronlaw13.DependUnasked'. -/
def dependUnaskedCard : Claim7 := { stood := { row := dependUnaskedRow, standIns := [], harness := (true, "dcc389e807bc8d5f1a990ce784507b20bf5010e9b0176c6e9255f5a052bf5811"), looks := false }, kinds := [], alts := [], laidByText := true, laidKinds := [.data], laidTests := true, laidLooks := .later }
def DependUnaskedCardSaid : Prop := Claim7.holds Tryz.pinned (.plain (OpenSpec.ofChange dependUnaskedSpec)) dependUnaskedCard

/-- THE SECOND FORM's CARD OF 'dendronlaw11.ExpectTables'. -/
def expectTablesUptoCard : Claim7 := { stood := { row := expectTablesUptoRow, standIns := [], harness := (true, "dcc389e807bc8d5f1a990ce784507b20bf5010e9b0176c6e9255f5a052bf5811"), looks := false }, kinds := [], alts := [], laidByText := true, laidKinds := [.data], laidTests := true, laidLooks := .later }
def ExpectTablesUptoCardSaid : Prop := Claim7.holds Tryz.pinned (.plain (OpenSpec.upto expectTablesSpec)) expectTablesUptoCard

/-- THE SECOND FORM's CARD OF 'dendronlaw11.ExpectLegs'. -/
def expectLegsUptoCard : Claim7 := { stood := { row := expectLegsUptoRow, standIns := [], harness := (true, "dcc389e807bc8d5f1a990ce784507b20bf5010e9b0176c6e9255f5a052bf5811"), looks := false }, kinds := [], alts := [], laidByText := true, laidKinds := [.data], laidTests := true, laidLooks := .later }
def ExpectLegsUptoCardSaid : Prop := Claim7.holds Tryz.pinned (.plain (OpenSpec.upto expectLegsSpec)) expectLegsUptoCard

/-- THE SECOND FORM's CARD OF 'dendronlaw11.ExpectReaches'. -/
def expectReachesUptoCard : Claim7 := { stood := { row := expectReachesUptoRow, standIns := [], harness := (true, "dcc389e807bc8d5f1a990ce784507b20bf5010e9b0176c6e9255f5a052bf5811"), looks := false }, kinds := [], alts := [], laidByText := true, laidKinds := [.data], laidTests := true, laidLooks := .later }
def ExpectReachesUptoCardSaid : Prop := Claim7.holds Tryz.pinned (.plain (OpenSpec.upto expectReachesSpec)) expectReachesUptoCard

/-- THE SECOND FORM's CARD OF 'dendronlaw11.ExpectReach'. -/
def expectReachUptoCard : Claim7 := { stood := { row := expectReachUptoRow, standIns := [], harness := (true, "dcc389e807bc8d5f1a990ce784507b20bf5010e9b0176c6e9255f5a052bf5811"), looks := false }, kinds := [], alts := [], laidByText := true, laidKinds := [.data], laidTests := true, laidLooks := .later }
def ExpectReachUptoCardSaid : Prop := Claim7.holds Tryz.pinned (.plain (OpenSpec.upto expectReachSpec)) expectReachUptoCard

/-- THE SECOND FORM's CARD OF 'dendronlaw13.DependCovers'. -/
def dependCoversUptoCard : Claim7 := { stood := { row := dependCoversUptoRow, standIns := [], harness := (true, "dcc389e807bc8d5f1a990ce784507b20bf5010e9b0176c6e9255f5a052bf5811"), looks := false }, kinds := [], alts := [], laidByText := true, laidKinds := [.data], laidTests := true, laidLooks := .later }
def DependCoversUptoCardSaid : Prop := Claim7.holds Tryz.pinned (.plain (OpenSpec.upto dependCoversSpec)) dependCoversUptoCard

/-- THE SECOND FORM's CARD OF 'dendronlaw13.DependRests'. -/
def dependRestsUptoCard : Claim7 := { stood := { row := dependRestsUptoRow, standIns := [], harness := (true, "dcc389e807bc8d5f1a990ce784507b20bf5010e9b0176c6e9255f5a052bf5811"), looks := false }, kinds := [], alts := [], laidByText := true, laidKinds := [.data], laidTests := true, laidLooks := .later }
def DependRestsUptoCardSaid : Prop := Claim7.holds Tryz.pinned (.plain (OpenSpec.upto dependRestsSpec)) dependRestsUptoCard

/-- THE SECOND FORM's CARD OF 'dendronlaw13.DependAverages'. -/
def dependAveragesUptoCard : Claim7 := { stood := { row := dependAveragesUptoRow, standIns := [], harness := (true, "dcc389e807bc8d5f1a990ce784507b20bf5010e9b0176c6e9255f5a052bf5811"), looks := false }, kinds := [], alts := [], laidByText := true, laidKinds := [.data], laidTests := true, laidLooks := .later }
def DependAveragesUptoCardSaid : Prop := Claim7.holds Tryz.pinned (.plain (OpenSpec.upto dependAveragesSpec)) dependAveragesUptoCard

/-- THE SECOND FORM's CARD OF 'dendronlaw13.DependGrids'. -/
def dependGridsUptoCard : Claim7 := { stood := { row := dependGridsUptoRow, standIns := [], harness := (true, "dcc389e807bc8d5f1a990ce784507b20bf5010e9b0176c6e9255f5a052bf5811"), looks := false }, kinds := [], alts := [], laidByText := true, laidKinds := [.data], laidTests := true, laidLooks := .later }
def DependGridsUptoCardSaid : Prop := Claim7.holds Tryz.pinned (.plain (OpenSpec.upto dependGridsSpec)) dependGridsUptoCard

/-- THE SECOND FORM's CARD OF 'dendronlaw13.DependCurves'. -/
def dependCurvesUptoCard : Claim7 := { stood := { row := dependCurvesUptoRow, standIns := [], harness := (true, "dcc389e807bc8d5f1a990ce784507b20bf5010e9b0176c6e9255f5a052bf5811"), looks := false }, kinds := [], alts := [], laidByText := true, laidKinds := [.data], laidTests := true, laidLooks := .later }
def DependCurvesUptoCardSaid : Prop := Claim7.holds Tryz.pinned (.plain (OpenSpec.upto dependCurvesSpec)) dependCurvesUptoCard

/-- THE SECOND FORM's CARD OF 'dendronlaw13.DependUnasked'. -/
def dependUnaskedUptoCard : Claim7 := { stood := { row := dependUnaskedUptoRow, standIns := [], harness := (true, "dcc389e807bc8d5f1a990ce784507b20bf5010e9b0176c6e9255f5a052bf5811"), looks := false }, kinds := [], alts := [], laidByText := true, laidKinds := [.data], laidTests := true, laidLooks := .later }
def DependUnaskedUptoCardSaid : Prop := Claim7.holds Tryz.pinned (.plain (OpenSpec.upto dependUnaskedSpec)) dependUnaskedUptoCard
end Rows
end Go.Proofs.YtgddiimnpliolaaGreatDoor
