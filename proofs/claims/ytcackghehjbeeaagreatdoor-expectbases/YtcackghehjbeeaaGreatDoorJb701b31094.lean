/-
  Texts of mine, joined: what lies beneath the statement.
-/
import Derived.Test.YtcackghehjbeeaaGreatDoorJc4e3d9d827
import Derived.Test.YtcackghehjbeeaaGreatDoorJ66e09734ad
namespace Go.Proofs.YtcackghehjbeeaaGreatDoor
open Go.RowKit
set_option linter.unusedVariables false

end Go.Proofs.YtcackghehjbeeaaGreatDoor
