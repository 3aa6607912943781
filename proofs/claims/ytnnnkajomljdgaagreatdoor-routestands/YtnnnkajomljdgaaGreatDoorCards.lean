/-
  DERIVED. GIVEN WITH THE SEED: THE CARDS: each row of YtnnnkajomljdgaaGreatDoorRows.lean that lists a variable, with what it lists TIED to the program's text (the seventh form; the later family's looks); each row that meets fmt, with fmt's text TOLD by the authors' own Lean function (tested against real Go, not proved from fmt's source: count such statements apart). THE CARD IS WHAT COUNTS. Prove the row's statement (the work); the ties are given (YtnnnkajomljdgaaGreatDoorTie.lean); close each card by the builder's one call (the guide's Derived/Test/ToyasCard.lean, 'card_holds'). Laid BY PROGRAM, IN A SANDBOX (cutbox-door.mjs). By AI agents, Wed Nov 11 2026. No macro, syntax, notation, axiom, sorry.
-/
import Derived.Test.YtnnnkajomljdgaaGreatDoorRows
import GoSem.ClaimSeven
namespace Go.Proofs.YtnnnkajomljdgaaGreatDoor
namespace Rows

/-- THE TIED CARD OF 'dendronlaw10.RouteWays'. -/
def routeWaysCard : Claim7 := { stood := { row := routeWaysRow, standIns := [], harness := (true, "60721c48722a9e8b562d581eaa8eecad4e5ec86f465869b22e499f0c68cb6c50"), looks := false }, kinds := [], alts := [], laidByText := true, laidKinds := [.data], laidTests := true, laidLooks := .later }
def RouteWaysCardSaid : Prop := Claim7.holds Tryz.pinned (.plain (OpenSpec.ofChange routeWaysSpec)) routeWaysCard

/-- THE TIED CARD OF 'dendronlaw10.RoutePredicts'. -/
def routePredictsCard : Claim7 := { stood := { row := routePredictsRow, standIns := [], harness := (true, "60721c48722a9e8b562d581eaa8eecad4e5ec86f465869b22e499f0c68cb6c50"), looks := false }, kinds := [], alts := [], laidByText := true, laidKinds := [.data], laidTests := true, laidLooks := .later }
def RoutePredictsCardSaid : Prop := Claim7.holds Tryz.pinned (.plain (OpenSpec.ofChange routePredictsSpec)) routePredictsCard

/-- THE TIED CARD OF 'dendronlaw10.RouteMeans'. -/
def routeMeansCard : Claim7 := { stood := { row := routeMeansRow, standIns := [], harness := (true, "60721c48722a9e8b562d581eaa8eecad4e5ec86f465869b22e499f0c68cb6c50"), looks := false }, kinds := [], alts := [], laidByText := true, laidKinds := [.data], laidTests := true, laidLooks := .later }
def RouteMeansCardSaid : Prop := Claim7.holds Tryz.pinned (.plain (OpenSpec.ofChange routeMeansSpec)) routeMeansCard

/-- THE TIED CARD OF 'dendronlaw10.RouteCuts'. -/
def routeCutsCard : Claim7 := { stood := { row := routeCutsRow, standIns := [], harness := (true, "60721c48722a9e8b562d581eaa8eecad4e5ec86f465869b22e499f0c68cb6c50"), looks := false }, kinds := [], alts := [], laidByText := true, laidKinds := [.data], laidTests := true, laidLooks := .later }
def RouteCutsCardSaid : Prop := Claim7.holds Tryz.pinned (.plain (OpenSpec.ofChange routeCutsSpec)) routeCutsCard

/-- THE TIED CARD OF 'dendronlaw10.RouteStands'. -/
def routeStandsCard : Claim7 := { stood := { row := routeStandsRow, standIns := [], harness := (true, "60721c48722a9e8b562d581eaa8eecad4e5ec86f465869b22e499f0c68cb6c50"), looks := false }, kinds := [], alts := [], laidByText := true, laidKinds := [.data], laidTests := true, laidLooks := .later }
def RouteStandsCardSaid : Prop := Claim7.holds Tryz.pinned (.plain (OpenSpec.ofChange routeStandsSpec)) routeStandsCard

/-- THE SECOND FORM's CARD OF 'dendronlaw10.RouteWays'. -/
def routeWaysUptoCard : Claim7 := { stood := { row := routeWaysUptoRow, standIns := [], harness := (true, "60721c48722a9e8b562d581eaa8eecad4e5ec86f465869b22e499f0c68cb6c50"), looks := false }, kinds := [], alts := [], laidByText := true, laidKinds := [.data], laidTests := true, laidLooks := .later }
def RouteWaysUptoCardSaid : Prop := Claim7.holds Tryz.pinned (.plain (OpenSpec.upto routeWaysSpec)) routeWaysUptoCard

/-- THE SECOND FORM's CARD OF 'dendronlaw10.RoutePredicts'. -/
def routePredictsUptoCard : Claim7 := { stood := { row := routePredictsUptoRow, standIns := [], harness := (true, "60721c48722a9e8b562d581eaa8eecad4e5ec86f465869b22e499f0c68cb6c50"), looks := false }, kinds := [], alts := [], laidByText := true, laidKinds := [.data], laidTests := true, laidLooks := .later }
def RoutePredictsUptoCardSaid : Prop := Claim7.holds Tryz.pinned (.plain (OpenSpec.upto routePredictsSpec)) routePredictsUptoCard

/-- THE SECOND FORM's CARD OF 'dendronlaw10.RouteMeans'. -/
def routeMeansUptoCard : Claim7 := { stood := { row := routeMeansUptoRow, standIns := [], harness := (true, "60721c48722a9e8b562d581eaa8eecad4e5ec86f465869b22e499f0c68cb6c50"), looks := false }, kinds := [], alts := [], laidByText := true, laidKinds := [.data], laidTests := true, laidLooks := .later }
def RouteMeansUptoCardSaid : Prop := Claim7.holds Tryz.pinned (.plain (OpenSpec.upto routeMeansSpec)) routeMeansUptoCard

/-- THE SECOND FORM's CARD OF 'dendronlaw10.RouteCuts'. -/
def routeCutsUptoCard : Claim7 := { stood := { row := routeCutsUptoRow, standIns := [], harness := (true, "60721c48722a9e8b562d581eaa8eecad4e5ec86f465869b22e499f0c68cb6c50"), looks := false }, kinds := [], alts := [], laidByText := true, laidKinds := [.data], laidTests := true, laidLooks := .later }
def RouteCutsUptoCardSaid : Prop := Claim7.holds Tryz.pinned (.plain (OpenSpec.upto routeCutsSpec)) routeCutsUptoCard

/-- THE SECOND FORM's CARD OF 'dendronlaw10.RouteStands'. -/
def routeStandsUptoCard : Claim7 := { stood := { row := routeStandsUptoRow, standIns := [], harness := (true, "60721c48722a9e8b562d581eaa8eecad4e5ec86f465869b22e499f0c68cb6c50"), looks := false }, kinds := [], alts := [], laidByText := true, laidKinds := [.data], laidTests := true, laidLooks := .later }
def RouteStandsUptoCardSaid : Prop := Claim7.holds Tryz.pinned (.plain (OpenSpec.upto routeStandsSpec)) routeStandsUptoCard
end Rows
end Go.Proofs.YtnnnkajomljdgaaGreatDoor
