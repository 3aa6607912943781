/-
  Texts of mine, joined: what lies beneath the statement.
-/
import Derived.Test.YthlogenaienkhaaGreatDoorJ6f32142673
import Derived.ProofKit
import Derived.OpenShut
import Derived.Below
import Derived.Laws.AppendOwnNone
/-
 What the statements' own few and kept answer, and limbs as they come in.
-/
namespace Go.Proofs.YthlogenaienkhaaGreatDoor
open Go.RowKit

/-- Limbs as they come in, of whatever length. -/
def Raw (w : World) (v : Value) (n : Nat) (f : Nat → Int) : Prop :=
 ∃ ao c, v = .slice ao n c ∧ (ao = none → c = 0) ∧ n ≤ c ∧ c ≤ maxLen ∧ U64 n f ∧ (0 < n → ∃ b off, ao = some ⟨b, off, none⟩ ∧ Cells w .u64 b off n f)

end Go.Proofs.YthlogenaienkhaaGreatDoor
