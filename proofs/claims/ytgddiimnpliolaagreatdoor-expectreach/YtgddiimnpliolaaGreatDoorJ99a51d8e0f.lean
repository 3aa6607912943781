/-
  Texts of mine, joined: what lies beneath the statement.
-/
import Derived.Test.YtgddiimnpliolaaGreatDoorJ4390adc1ad
import Derived.Lib.Strings
import Derived.WalkSmall
namespace Go.Proofs.YtgddiimnpliolaaGreatDoor
open Go.RowKit

end Go.Proofs.YtgddiimnpliolaaGreatDoor
