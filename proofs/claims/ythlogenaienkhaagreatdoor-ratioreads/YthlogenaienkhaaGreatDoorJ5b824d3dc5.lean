/-
  Texts of mine, joined: what lies beneath the statement.
-/
import Derived.Test.YthlogenaienkhaaGreatDoorJ5e617eeeac
import Derived.Test.YthlogenaienkhaaGreatDoorJbed2857f4b
import Derived.Test.YthlogenaienkhaaGreatDoorJbd5ab10338
/-
 What the statements' own few and awake answer for whole numbers, and dendronref02.Is of a number in its one form.
-/
namespace Go.Proofs.YthlogenaienkhaaGreatDoor
open Go.RowKit
set_option linter.unusedVariables false

theorem rightB_rep (m : Nat) : rightB (dg W32 m) (nl W32 m) = true := by
 simp only [rightB, decide_eq_true_eq]
 exact ⟨fun i _ => by have := dg_bounds W32 m i (by decide); unfold W32 at this ⊢; omega, fun h0 => nl_top W32 m h0⟩
theorem refRight_rep {w : World} {v : Value} {m : Nat} (h : Rep w v m) :
  Calls Tryz.prog 76 #[v] w fun e w' => e = .returned (.bool true) ∧ w' = w := by
 have g := refRight_any v _ _ w h
 rw [rightB_rep] at g; exact g

theorem nl10_le (x n : Nat) (h : nl W32 x ≤ n) : nl 10000 x ≤ 3 * n := nl_small x n (Nat.lt_of_lt_of_le (lt_pow_nl W32 x (by decide)) (Nat.pow_le_pow_right (by decide) h))
theorem nl_small7 (k : Nat) (h : k < 4294967296) : nl W32 k ≤ 1 := nl_le W32 k 1 (by decide) (by unfold W32; omega)

end Go.Proofs.YthlogenaienkhaaGreatDoor

/-
 What nat.Pow and nat.PowMod answer, and the document's own Power.
-/
namespace Go.Proofs.YthlogenaienkhaaGreatDoor
open Go.RowKit

theorem nl10_pow (x l n : Nat) (h : x < W32 ^ l) : nl 10000 (x ^ n) ≤ 3 * (l * n + 1) := by
 refine nl_small _ _ ?_
 have h2 : x ^ n ≤ (W32 ^ l) ^ n := Nat.pow_le_pow_left (Nat.le_of_lt h) n
 rw [← Nat.pow_mul] at h2
 have h3 : W32 ^ (l * n) < W32 ^ (l * n + 1) := Nat.pow_lt_pow_right (by decide) (by omega)
 omega

end Go.Proofs.YthlogenaienkhaaGreatDoor
