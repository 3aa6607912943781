/-
  Texts of mine.
-/
import Derived.Test.YtbbliiafkjipbaaGreatDoorJ2897dd21db
import Derived.Laws.BytesArg
namespace Go.Proofs.YtbbliiafkjipbaaGreatDoor
open Go.RowKit
end Go.Proofs.YtbbliiafkjipbaaGreatDoor
