/-
  Texts of mine, joined: what lies beneath the statement.
-/
import Derived.Test.YtcackghehjbeeaaGreatDoorJa06fe547be
import Derived.Laws.BytesArg
namespace Go.Proofs.YtcackghehjbeeaaGreatDoor
open Go.RowKit

end Go.Proofs.YtcackghehjbeeaaGreatDoor
