/-
  Texts of mine, joined: what lies beneath the statement.
-/
import Derived.Test.YthlogenaienkhaaGreatDoorJbed2857f4b
import Derived.ChangeSame
import Derived.ProofKit
import Derived.OpenShut
/-
 A whole number that comes in, as an argument: a sign and limbs of whatever length.
-/
namespace Go.Proofs.YthlogenaienkhaaGreatDoor
open Go.ChangeShapes Go.WideShapes Go.ChangeAt Go.RowKit

end Go.Proofs.YthlogenaienkhaaGreatDoor
