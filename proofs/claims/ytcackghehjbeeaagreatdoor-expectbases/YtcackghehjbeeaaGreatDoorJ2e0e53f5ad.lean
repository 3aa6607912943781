/-
  Texts of mine, joined: what lies beneath the statement.
-/
import Derived.Test.YtcackghehjbeeaaGreatDoorJ5d614d6e13
import Derived.Test.YtcackghehjbeeaaGreatDoorJb23ac26697
namespace Go.Proofs.YtcackghehjbeeaaGreatDoor
open Go.RowKit

end Go.Proofs.YtcackghehjbeeaaGreatDoor
