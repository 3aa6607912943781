/-
  Texts of mine, joined: what lies beneath the statement.
-/
import Derived.Test.YtcackghehjbeeaaGreatDoorJ2e0e53f5ad
import Derived.Test.YtcackghehjbeeaaGreatDoorJ5d614d6e13
import Derived.Laws.AppendOwnNone
namespace Go.Proofs.YtcackghehjbeeaaGreatDoor
open Go.RowKit

/-- A digit ahead of others. -/
def ahead (d : Int) (f : Nat → Int) : Nat → Int := fun i => if i = 0 then d else f (i - 1)
end Go.Proofs.YtcackghehjbeeaaGreatDoor
