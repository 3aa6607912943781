/-
  Texts of mine, joined: what lies beneath the statement.
-/
import Derived.Test.YtbbliiafkjipbaaGreatDoorJ8228823551
import Derived.Laws.BytesArg
namespace Go.Proofs.YtbbliiafkjipbaaGreatDoor
open Go.RowKit
end Go.Proofs.YtbbliiafkjipbaaGreatDoor
