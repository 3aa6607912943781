/-
  Texts of mine, joined: what lies beneath the statement.
-/
import Derived.Test.YtcackghehjbeeaaGreatDoorJ7db699be85
import Derived.Lib.Strings
import Derived.WalkSmall
namespace Go.Proofs.YtcackghehjbeeaaGreatDoor
open Go.RowKit

end Go.Proofs.YtcackghehjbeeaaGreatDoor
