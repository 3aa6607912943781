/-
  Texts of mine, joined: what lies beneath the statement.
-/
import Derived.Test.YtcackghehjbeeaaGreatDoorJ4028383263
import Derived.Laws.BytesArg
namespace Go.Proofs.YtcackghehjbeeaaGreatDoor
open Go.RowKit

end Go.Proofs.YtcackghehjbeeaaGreatDoor
