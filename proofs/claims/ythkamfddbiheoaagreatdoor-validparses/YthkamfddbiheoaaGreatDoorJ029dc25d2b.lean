/-
  Texts of mine.
-/
import Derived.Test.YthkamfddbiheoaaGreatDoorJ1ecfaddd90
import Derived.ChangeSame
import Derived.ProofKit
import Derived.OpenShut
namespace Go.Proofs.YthkamfddbiheoaaGreatDoor
open Go.ChangeShapes Go.WideShapes Go.ChangeAt Go.RowKit

end Go.Proofs.YthkamfddbiheoaaGreatDoor
