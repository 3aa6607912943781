/-
  Texts of mine.
-/
import Derived.Test.YthkamfddbiheoaaGreatDoorJeefed49211
import Derived.Test.YthkamfddbiheoaaGreatDoorJc8c39ed620
namespace Go.Proofs.YthkamfddbiheoaaGreatDoor
open Go.RowKit

end Go.Proofs.YthkamfddbiheoaaGreatDoor
