/-
  DERIVED. GIVEN WITH THE SEED: THE CARDS: each row of YtjmagcgobhaenaaGreatDoorRows.lean that lists a variable, with what it lists TIED to the program's text (the seventh form; the later family's looks); each row that meets fmt, with fmt's text TOLD by the authors' own Lean function (tested against real Go, not proved from fmt's source: count such statements apart). THE CARD IS WHAT COUNTS. Prove the row's statement (the work); the ties are given (YtjmagcgobhaenaaGreatDoorTie.lean); close each card by the builder's one call (the guide's Derived/Test/ToyasCard.lean, 'card_holds'). Laid BY PROGRAM, IN A SANDBOX (cutbox-door.mjs). By AI agents, Wed Nov 11 2026. No macro, syntax, notation, axiom, sorry.
-/
import Derived.Test.YtjmagcgobhaenaaGreatDoorRows
import GoSem.ClaimSeven
namespace Go.Proofs.YtjmagcgobhaenaaGreatDoor
namespace Rows

/-- THE TIED CARD OF 'dendronlaw11.ExpectValues'. -/
def expectValuesCard : Claim7 := { stood := { row := expectValuesRow, standIns := [], harness := (true, "96e10479682fd2d0092d6d8080c64f56979f34b188a27a43367f1dfae78bc047"), looks := false }, kinds := [], alts := [], laidByText := true, laidKinds := [.data], laidTests := true, laidLooks := .later }
def ExpectValuesCardSaid : Prop := Claim7.holds Tryz.pinned (.plain (OpenSpec.ofChange expectValuesSpec)) expectValuesCard

/-- THE TIED CARD OF 'dendronlaw11.ExpectTables'. -/
def expectTablesCard : Claim7 := { stood := { row := expectTablesRow, standIns := [], harness := (true, "96e10479682fd2d0092d6d8080c64f56979f34b188a27a43367f1dfae78bc047"), looks := false }, kinds := [], alts := [], laidByText := true, laidKinds := [.data], laidTests := true, laidLooks := .later }
def ExpectTablesCardSaid : Prop := Claim7.holds Tryz.pinned (.plain (OpenSpec.ofChange expectTablesSpec)) expectTablesCard

/-- THE TIED CARD OF 'dendronlaw11.ExpectAll'. -/
def expectAllCard : Claim7 := { stood := { row := expectAllRow, standIns := [], harness := (true, "96e10479682fd2d0092d6d8080c64f56979f34b188a27a43367f1dfae78bc047"), looks := false }, kinds := [], alts := [], laidByText := true, laidKinds := [.data], laidTests := true, laidLooks := .later }
def ExpectAllCardSaid : Prop := Claim7.holds Tryz.pinned (.plain (OpenSpec.ofChange expectAllSpec)) expectAllCard

/-- THE TIED CARD OF 'dendronlaw11.ExpectLegs'. -/
def expectLegsCard : Claim7 := { stood := { row := expectLegsRow, standIns := [], harness := (true, "96e10479682fd2d0092d6d8080c64f56979f34b188a27a43367f1dfae78bc047"), looks := false }, kinds := [], alts := [], laidByText := true, laidKinds := [.data], laidTests := true, laidLooks := .later }
def ExpectLegsCardSaid : Prop := Claim7.holds Tryz.pinned (.plain (OpenSpec.ofChange expectLegsSpec)) expectLegsCard

/-- THE TIED CARD OF 'dendronlaw11.ExpectReaches'. -/
def expectReachesCard : Claim7 := { stood := { row := expectReachesRow, standIns := [], harness := (true, "96e10479682fd2d0092d6d8080c64f56979f34b188a27a43367f1dfae78bc047"), looks := false }, kinds := [], alts := [], laidByText := true, laidKinds := [.data], laidTests := true, laidLooks := .later }
def ExpectReachesCardSaid : Prop := Claim7.holds Tryz.pinned (.plain (OpenSpec.ofChange expectReachesSpec)) expectReachesCard

/-- THE TIED CARD OF 'dendronlaw11.ExpectReach'. -/
def expectReachCard : Claim7 := { stood := { row := expectReachRow, standIns := [], harness := (true, "96e10479682fd2d0092d6d8080c64f56979f34b188a27a43367f1dfae78bc047"), looks := false }, kinds := [], alts := [], laidByText := true, laidKinds := [.data], laidTests := true, laidLooks := .later }
def ExpectReachCardSaid : Prop := Claim7.holds Tryz.pinned (.plain (OpenSpec.ofChange expectReachSpec)) expectReachCard

/-- THE TIED CARD OF 'dendronlaw12.SaabasSteps'. -/
def saabasStepsCard : Claim7 := { stood := { row := saabasStepsRow, standIns := [], harness := (true, "96e10479682fd2d0092d6d8080c64f56979f34b188a27a43367f1dfae78bc047"), looks := false }, kinds := [], alts := [], laidByText := true, laidKinds := [.data], laidTests := true, laidLooks := .later }
def SaabasStepsCardSaid : Prop := Claim7.holds Tryz.pinned (.plain (OpenSpec.ofChange saabasStepsSpec)) saabasStepsCard

/-- THE TIED CARD OF 'dendronlaw12.SaabasValues'. -/
def saabasValuesCard : Claim7 := { stood := { row := saabasValuesRow, standIns := [], harness := (true, "96e10479682fd2d0092d6d8080c64f56979f34b188a27a43367f1dfae78bc047"), looks := false }, kinds := [], alts := [], laidByText := true, laidKinds := [.data], laidTests := true, laidLooks := .later }
def SaabasValuesCardSaid : Prop := Claim7.holds Tryz.pinned (.plain (OpenSpec.ofChange saabasValuesSpec)) saabasValuesCard

/-- THE TIED CARD OF 'dendronlaw12.SaabasAdds'. -/
def saabasAddsCard : Claim7 := { stood := { row := saabasAddsRow, standIns := [], harness := (true, "96e10479682fd2d0092d6d8080c64f56979f34b188a27a43367f1dfae78bc047"), looks := false }, kinds := [], alts := [], laidByText := true, laidKinds := [.data], laidTests := true, laidLooks := .later }
def SaabasAddsCardSaid : Prop := Claim7.holds Tryz.pinned (.plain (OpenSpec.ofChange saabasAddsSpec)) saabasAddsCard

/-- THE TIED CARD OF 'dendronlaw12.SaabasOrders'. -/
def saabasOrdersCard : Claim7 := { stood := { row := saabasOrdersRow, standIns := [], harness := (true, "96e10479682fd2d0092d6d8080c64f56979f34b188a27a43367f1dfae78bc047"), looks := false }, kinds := [], alts := [], laidByText := true, laidKinds := [.data], laidTests := true, laidLooks := .later }
def SaabasOrdersCardSaid : Prop := Claim7.holds Tryz.pinned (.plain (OpenSpec.ofChange saabasOrdersSpec)) saabasOrdersCard

/-- THE SECOND FORM's CARD OF 'dendronlaw11.ExpectValues'. -/
def expectValuesUptoCard : Claim7 := { stood := { row := expectValuesUptoRow, standIns := [], harness := (true, "96e10479682fd2d0092d6d8080c64f56979f34b188a27a43367f1dfae78bc047"), looks := false }, kinds := [], alts := [], laidByText := true, laidKinds := [.data], laidTests := true, laidLooks := .later }
def ExpectValuesUptoCardSaid : Prop := Claim7.holds Tryz.pinned (.plain (OpenSpec.upto expectValuesSpec)) expectValuesUptoCard

/-- THE SECOND FORM's CARD OF 'dendronlaw11.ExpectTables'. -/
def expectTablesUptoCard : Claim7 := { stood := { row := expectTablesUptoRow, standIns := [], harness := (true, "96e10479682fd2d0092d6d8080c64f56979f34b188a27a43367f1dfae78bc047"), looks := false }, kinds := [], alts := [], laidByText := true, laidKinds := [.data], laidTests := true, laidLooks := .later }
def ExpectTablesUptoCardSaid : Prop := Claim7.holds Tryz.pinned (.plain (OpenSpec.upto expectTablesSpec)) expectTablesUptoCard

/-- THE SECOND FORM's CARD OF 'dendronlaw11.ExpectAll'. -/
def expectAllUptoCard : Claim7 := { stood := { row := expectAllUptoRow, standIns := [], harness := (true, "96e10479682fd2d0092d6d8080c64f56979f34b188a27a43367f1dfae78bc047"), looks := false }, kinds := [], alts := [], laidByText := true, laidKinds := [.data], laidTests := true, laidLooks := .later }
def ExpectAllUptoCardSaid : Prop := Claim7.holds Tryz.pinned (.plain (OpenSpec.upto expectAllSpec)) expectAllUptoCard

/-- THE SECOND FORM's CARD OF 'dendronlaw11.ExpectLegs'. -/
def expectLegsUptoCard : Claim7 := { stood := { row := expectLegsUptoRow, standIns := [], harness := (true, "96e10479682fd2d0092d6d8080c64f56979f34b188a27a43367f1dfae78bc047"), looks := false }, kinds := [], alts := [], laidByText := true, laidKinds := [.data], laidTests := true, laidLooks := .later }
def ExpectLegsUptoCardSaid : Prop := Claim7.holds Tryz.pinned (.plain (OpenSpec.upto expectLegsSpec)) expectLegsUptoCard

/-- THE SECOND FORM's CARD OF 'dendronlaw11.ExpectReaches'. -/
def expectReachesUptoCard : Claim7 := { stood := { row := expectReachesUptoRow, standIns := [], harness := (true, "96e10479682fd2d0092d6d8080c64f56979f34b188a27a43367f1dfae78bc047"), looks := false }, kinds := [], alts := [], laidByText := true, laidKinds := [.data], laidTests := true, laidLooks := .later }
def ExpectReachesUptoCardSaid : Prop := Claim7.holds Tryz.pinned (.plain (OpenSpec.upto expectReachesSpec)) expectReachesUptoCard

/-- THE SECOND FORM's CARD OF 'dendronlaw11.ExpectReach'. -/
def expectReachUptoCard : Claim7 := { stood := { row := expectReachUptoRow, standIns := [], harness := (true, "96e10479682fd2d0092d6d8080c64f56979f34b188a27a43367f1dfae78bc047"), looks := false }, kinds := [], alts := [], laidByText := true, laidKinds := [.data], laidTests := true, laidLooks := .later }
def ExpectReachUptoCardSaid : Prop := Claim7.holds Tryz.pinned (.plain (OpenSpec.upto expectReachSpec)) expectReachUptoCard

/-- THE SECOND FORM's CARD OF 'dendronlaw12.SaabasSteps'. -/
def saabasStepsUptoCard : Claim7 := { stood := { row := saabasStepsUptoRow, standIns := [], harness := (true, "96e10479682fd2d0092d6d8080c64f56979f34b188a27a43367f1dfae78bc047"), looks := false }, kinds := [], alts := [], laidByText := true, laidKinds := [.data], laidTests := true, laidLooks := .later }
def SaabasStepsUptoCardSaid : Prop := Claim7.holds Tryz.pinned (.plain (OpenSpec.upto saabasStepsSpec)) saabasStepsUptoCard

/-- THE SECOND FORM's CARD OF 'dendronlaw12.SaabasValues'. -/
def saabasValuesUptoCard : Claim7 := { stood := { row := saabasValuesUptoRow, standIns := [], harness := (true, "96e10479682fd2d0092d6d8080c64f56979f34b188a27a43367f1dfae78bc047"), looks := false }, kinds := [], alts := [], laidByText := true, laidKinds := [.data], laidTests := true, laidLooks := .later }
def SaabasValuesUptoCardSaid : Prop := Claim7.holds Tryz.pinned (.plain (OpenSpec.upto saabasValuesSpec)) saabasValuesUptoCard

/-- THE SECOND FORM's CARD OF 'dendronlaw12.SaabasAdds'. -/
def saabasAddsUptoCard : Claim7 := { stood := { row := saabasAddsUptoRow, standIns := [], harness := (true, "96e10479682fd2d0092d6d8080c64f56979f34b188a27a43367f1dfae78bc047"), looks := false }, kinds := [], alts := [], laidByText := true, laidKinds := [.data], laidTests := true, laidLooks := .later }
def SaabasAddsUptoCardSaid : Prop := Claim7.holds Tryz.pinned (.plain (OpenSpec.upto saabasAddsSpec)) saabasAddsUptoCard

/-- THE SECOND FORM's CARD OF 'dendronlaw12.SaabasOrders'. -/
def saabasOrdersUptoCard : Claim7 := { stood := { row := saabasOrdersUptoRow, standIns := [], harness := (true, "96e10479682fd2d0092d6d8080c64f56979f34b188a27a43367f1dfae78bc047"), looks := false }, kinds := [], alts := [], laidByText := true, laidKinds := [.data], laidTests := true, laidLooks := .later }
def SaabasOrdersUptoCardSaid : Prop := Claim7.holds Tryz.pinned (.plain (OpenSpec.upto saabasOrdersSpec)) saabasOrdersUptoCard
end Rows
end Go.Proofs.YtjmagcgobhaenaaGreatDoor
