/-
  Texts of mine, joined: what lies beneath the statement.
-/
import Derived.Test.YtgddiimnpliolaaDoorJ049d118492
import Derived.WalkMore
namespace Go.Proofs.YtgddiimnpliolaaDoor
open Go.RowKit
set_option linter.unusedVariables false
set_option linter.unusedSimpArgs false
end Go.Proofs.YtgddiimnpliolaaDoor
