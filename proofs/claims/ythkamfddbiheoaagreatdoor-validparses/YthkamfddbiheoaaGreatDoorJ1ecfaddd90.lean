/-
  Texts of mine.
-/
import Derived.Test.YthkamfddbiheoaaGreatDoorJeefed49211
import Derived.ProofKit
import Derived.OpenShut
import Derived.Below
import Derived.Laws.AppendOwnNone
namespace Go.Proofs.YthkamfddbiheoaaGreatDoor
open Go.RowKit

/-- Limbs as they come in, of whatever length. -/
def Raw (w : World) (v : Value) (n : Nat) (f : Nat → Int) : Prop :=
 ∃ ao c, v = .slice ao n c ∧ (ao = none → c = 0) ∧ n ≤ c ∧ c ≤ maxLen ∧ U64 n f ∧ (0 < n → ∃ b off, ao = some ⟨b, off, none⟩ ∧ Cells w .u64 b off n f)

end Go.Proofs.YthkamfddbiheoaaGreatDoor
