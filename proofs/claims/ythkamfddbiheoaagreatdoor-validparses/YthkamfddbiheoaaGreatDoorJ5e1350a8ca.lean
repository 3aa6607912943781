/-
  Texts of mine.
-/
import Derived.Test.YthkamfddbiheoaaGreatDoorJf7fc8f69bc
import Derived.Laws.BytesArg
namespace Go.Proofs.YthkamfddbiheoaaGreatDoor
open Go.RowKit

end Go.Proofs.YthkamfddbiheoaaGreatDoor
