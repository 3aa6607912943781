/-
  Texts of mine, joined: what lies beneath the statement.
-/
import Derived.Test.YtpgioggbepdjpaaGreatDoorJ88f5a7ff8b
import Derived.Test.YtpgioggbepdjpaaGreatDoorJe9b0c7e062
import Derived.Test.YtpgioggbepdjpaaGreatDoorJ31e4bc19d4
namespace Go.Proofs.YtpgioggbepdjpaaGreatDoor
open Go.RowKit
set_option linter.unusedVariables false
set_option linter.unusedSimpArgs false
end Go.Proofs.YtpgioggbepdjpaaGreatDoor
