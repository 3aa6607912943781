/-
  Texts of mine, joined: what lies beneath the statement.
-/
import Derived.Test.YtbbliiafkjipbaaGreatDoorJ589b951bbb
import Derived.Lib.OthersKept
namespace Go.Proofs.YtbbliiafkjipbaaGreatDoor
open Go.RowKit
def valsOf (k : IntKind) (f : Nat → Int) (n : Nat) : List Value := (List.range n).map (fun i => Value.int k (f i))
theorem valsOf_length (k : IntKind) (f : Nat → Int) (n : Nat) : (valsOf k f n).length = n := by simp [valsOf]
theorem valsOf_at (k : IntKind) (f : Nat → Int) (n i : Nat) (h : i < n) : (valsOf k f n)[i]? = some (.int k (f i)) := by simp [valsOf,h]
end Go.Proofs.YtbbliiafkjipbaaGreatDoor
