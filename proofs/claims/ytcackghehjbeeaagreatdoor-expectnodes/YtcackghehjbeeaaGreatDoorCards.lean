/-
  DERIVED. GIVEN WITH THE SEED: THE CARDS: each row of YtcackghehjbeeaaGreatDoorRows.lean that lists a variable, with what it lists TIED to the program's text (the seventh form; the later family's looks); each row that meets fmt, with fmt's text TOLD by the authors' own Lean function (tested against real Go, not proved from fmt's source: count such statements apart). THE CARD IS WHAT COUNTS. Prove the row's statement (the work); the ties are given (YtcackghehjbeeaaGreatDoorTie.lean); close each card by the builder's one call (the guide's Derived/Test/ToyasCard.lean, 'card_holds'). Laid BY PROGRAM, IN A SANDBOX (cutbox-door.mjs). By AI agents, Wed Nov 11 2026. No macro, syntax, notation, axiom, sorry.
-/
import Derived.Test.YtcackghehjbeeaaGreatDoorRows
import GoSem.ClaimSeven
namespace Go.Proofs.YtcackghehjbeeaaGreatDoor
namespace Rows

/-- THE TIED CARD OF 'dendronlaw11.ExpectValues'. -/
def expectValuesCard : Claim7 := { stood := { row := expectValuesRow, standIns := [], harness := (true, "f1372680ce68651806104b41e34c7c02812a880fb8b4d6c3acbcef32c7b1ad34"), looks := false }, kinds := [], alts := [], laidByText := true, laidKinds := [.data], laidTests := true, laidLooks := .later }
def ExpectValuesCardSaid : Prop := Claim7.holds Tryz.pinned (.plain (OpenSpec.ofChange expectValuesSpec)) expectValuesCard

/-- THE TIED CARD OF 'dendronlaw11.ExpectBases'. -/
def expectBasesCard : Claim7 := { stood := { row := expectBasesRow, standIns := [], harness := (true, "f1372680ce68651806104b41e34c7c02812a880fb8b4d6c3acbcef32c7b1ad34"), looks := false }, kinds := [], alts := [], laidByText := true, laidKinds := [.data], laidTests := true, laidLooks := .later }
def ExpectBasesCardSaid : Prop := Claim7.holds Tryz.pinned (.plain (OpenSpec.ofChange expectBasesSpec)) expectBasesCard

/-- THE TIED CARD OF 'dendronlaw11.ExpectNodes'. -/
def expectNodesCard : Claim7 := { stood := { row := expectNodesRow, standIns := [], harness := (true, "f1372680ce68651806104b41e34c7c02812a880fb8b4d6c3acbcef32c7b1ad34"), looks := false }, kinds := [], alts := [], laidByText := true, laidKinds := [.data], laidTests := true, laidLooks := .later }
def ExpectNodesCardSaid : Prop := Claim7.holds Tryz.pinned (.plain (OpenSpec.ofChange expectNodesSpec)) expectNodesCard

/-- THE TIED CARD OF 'dendronlaw11.ExpectTables'. -/
def expectTablesCard : Claim7 := { stood := { row := expectTablesRow, standIns := [], harness := (true, "f1372680ce68651806104b41e34c7c02812a880fb8b4d6c3acbcef32c7b1ad34"), looks := false }, kinds := [], alts := [], laidByText := true, laidKinds := [.data], laidTests := true, laidLooks := .later }
def ExpectTablesCardSaid : Prop := Claim7.holds Tryz.pinned (.plain (OpenSpec.ofChange expectTablesSpec)) expectTablesCard

/-- THE TIED CARD OF 'dendronlaw11.ExpectAll'. -/
def expectAllCard : Claim7 := { stood := { row := expectAllRow, standIns := [], harness := (true, "f1372680ce68651806104b41e34c7c02812a880fb8b4d6c3acbcef32c7b1ad34"), looks := false }, kinds := [], alts := [], laidByText := true, laidKinds := [.data], laidTests := true, laidLooks := .later }
def ExpectAllCardSaid : Prop := Claim7.holds Tryz.pinned (.plain (OpenSpec.ofChange expectAllSpec)) expectAllCard

/-- THE TIED CARD OF 'dendronlaw11.ExpectLegs'. -/
def expectLegsCard : Claim7 := { stood := { row := expectLegsRow, standIns := [], harness := (true, "f1372680ce68651806104b41e34c7c02812a880fb8b4d6c3acbcef32c7b1ad34"), looks := false }, kinds := [], alts := [], laidByText := true, laidKinds := [.data], laidTests := true, laidLooks := .later }
def ExpectLegsCardSaid : Prop := Claim7.holds Tryz.pinned (.plain (OpenSpec.ofChange expectLegsSpec)) expectLegsCard

/-- THE SECOND FORM's CARD OF 'dendronlaw11.ExpectValues'. -/
def expectValuesUptoCard : Claim7 := { stood := { row := expectValuesUptoRow, standIns := [], harness := (true, "f1372680ce68651806104b41e34c7c02812a880fb8b4d6c3acbcef32c7b1ad34"), looks := false }, kinds := [], alts := [], laidByText := true, laidKinds := [.data], laidTests := true, laidLooks := .later }
def ExpectValuesUptoCardSaid : Prop := Claim7.holds Tryz.pinned (.plain (OpenSpec.upto expectValuesSpec)) expectValuesUptoCard

/-- THE SECOND FORM's CARD OF 'dendronlaw11.ExpectBases'. -/
def expectBasesUptoCard : Claim7 := { stood := { row := expectBasesUptoRow, standIns := [], harness := (true, "f1372680ce68651806104b41e34c7c02812a880fb8b4d6c3acbcef32c7b1ad34"), looks := false }, kinds := [], alts := [], laidByText := true, laidKinds := [.data], laidTests := true, laidLooks := .later }
def ExpectBasesUptoCardSaid : Prop := Claim7.holds Tryz.pinned (.plain (OpenSpec.upto expectBasesSpec)) expectBasesUptoCard

/-- THE SECOND FORM's CARD OF 'dendronlaw11.ExpectNodes'. -/
def expectNodesUptoCard : Claim7 := { stood := { row := expectNodesUptoRow, standIns := [], harness := (true, "f1372680ce68651806104b41e34c7c02812a880fb8b4d6c3acbcef32c7b1ad34"), looks := false }, kinds := [], alts := [], laidByText := true, laidKinds := [.data], laidTests := true, laidLooks := .later }
def ExpectNodesUptoCardSaid : Prop := Claim7.holds Tryz.pinned (.plain (OpenSpec.upto expectNodesSpec)) expectNodesUptoCard

/-- THE SECOND FORM's CARD OF 'dendronlaw11.ExpectTables'. -/
def expectTablesUptoCard : Claim7 := { stood := { row := expectTablesUptoRow, standIns := [], harness := (true, "f1372680ce68651806104b41e34c7c02812a880fb8b4d6c3acbcef32c7b1ad34"), looks := false }, kinds := [], alts := [], laidByText := true, laidKinds := [.data], laidTests := true, laidLooks := .later }
def ExpectTablesUptoCardSaid : Prop := Claim7.holds Tryz.pinned (.plain (OpenSpec.upto expectTablesSpec)) expectTablesUptoCard

/-- THE SECOND FORM's CARD OF 'dendronlaw11.ExpectAll'. -/
def expectAllUptoCard : Claim7 := { stood := { row := expectAllUptoRow, standIns := [], harness := (true, "f1372680ce68651806104b41e34c7c02812a880fb8b4d6c3acbcef32c7b1ad34"), looks := false }, kinds := [], alts := [], laidByText := true, laidKinds := [.data], laidTests := true, laidLooks := .later }
def ExpectAllUptoCardSaid : Prop := Claim7.holds Tryz.pinned (.plain (OpenSpec.upto expectAllSpec)) expectAllUptoCard

/-- THE SECOND FORM's CARD OF 'dendronlaw11.ExpectLegs'. -/
def expectLegsUptoCard : Claim7 := { stood := { row := expectLegsUptoRow, standIns := [], harness := (true, "f1372680ce68651806104b41e34c7c02812a880fb8b4d6c3acbcef32c7b1ad34"), looks := false }, kinds := [], alts := [], laidByText := true, laidKinds := [.data], laidTests := true, laidLooks := .later }
def ExpectLegsUptoCardSaid : Prop := Claim7.holds Tryz.pinned (.plain (OpenSpec.upto expectLegsSpec)) expectLegsUptoCard
end Rows
end Go.Proofs.YtcackghehjbeeaaGreatDoor
