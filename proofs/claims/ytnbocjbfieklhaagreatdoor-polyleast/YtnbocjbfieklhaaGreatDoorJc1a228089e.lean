/-
  Texts of mine, joined: what lies beneath the statement.
-/
import Derived.Test.YtnbocjbfieklhaaGreatDoorJc33cab8363
import Derived.Laws.BytesArg
namespace Go.Proofs.YtnbocjbfieklhaaGreatDoor
open Go.RowKit
end Go.Proofs.YtnbocjbfieklhaaGreatDoor
