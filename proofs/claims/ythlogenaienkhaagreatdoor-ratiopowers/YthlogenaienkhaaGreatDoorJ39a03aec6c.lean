/-
  Texts of mine, joined: what lies beneath the statement.
-/
import Derived.Test.YthlogenaienkhaaGreatDoorJ83ab0e8fca
import Derived.Test.YthlogenaienkhaaGreatDoorJ9a8b7ddabf
import Derived.Test.YthlogenaienkhaaGreatDoorJbd5ab10338
/-
 What the statements' own few and awake answer for whole numbers, and dendronref02.Is of a number in its one form.
-/
namespace Go.Proofs.YthlogenaienkhaaGreatDoor
open Go.RowKit
set_option linter.unusedVariables false

theorem rightB_rep (m : Nat) : rightB (dg W32 m) (nl W32 m) = true := by
 simp only [rightB, decide_eq_true_eq]
 exact ⟨fun i _ => by have := dg_bounds W32 m i (by decide); unfold W32 at this ⊢; omega, fun h0 => nl_top W32 m h0⟩
theorem refRight_rep {w : World} {v : Value} {m : Nat} (h : Rep w v m) :
  Calls Tryz.prog 76 #[v] w fun e w' => e = .returned (.bool true) ∧ w' = w := by
 have g := refRight_any v _ _ w h
 rw [rightB_rep] at g; exact g

theorem nl10_le (x n : Nat) (h : nl W32 x ≤ n) : nl 10000 x ≤ 3 * n := nl_small x n (Nat.lt_of_lt_of_le (lt_pow_nl W32 x (by decide)) (Nat.pow_le_pow_right (by decide) h))
theorem nl_small7 (k : Nat) (h : k < 4294967296) : nl W32 k ≤ 1 := nl_le W32 k 1 (by decide) (by unfold W32; omega)

end Go.Proofs.YthlogenaienkhaaGreatDoor

/-
 What nat.Pow and nat.PowMod answer, and the document's own Power.
-/
namespace Go.Proofs.YthlogenaienkhaaGreatDoor
open Go.RowKit

set_option maxRecDepth 20000 in
set_option maxHeartbeats 400000 in
theorem pow_ok (u : Value) (n k : Nat) (f : Nat → Int) (w : World) (hu : Nums .u64 w u n f) (hf : U64 n f) (hn : n ≤ 40) (hk : k ≤ 4096) :
  Calls Tryz.prog 99 #[u, .int .i64 (k : Int)] w fun e w' => ∃ r, e = .returned (.tuple #[r, .int .i64 0]) ∧ RepM w.heap.size w' r (num f n ^ k) ∧ Below w.heap.size w w' := by
 have hx := nl_le W32 (num f n) n (by decide) (num_lt f n)
 have h0 : ¬ (k : Int) < 0 := by omega
 have h1 : ¬ (4096 : Int) < (k : Int) := by omega
 go_enter Tryz.func99, Tryz.ntmps99
 go_wp2_with fail
 refine (plain_any _ _ _ _ hu hf).mono ?_
 rintro e w1 ⟨r1, rfl, hr1, hb1⟩
 go_wp2_with fail
 refine (power_any _ _ k _ hr1 hk (by omega)).mono ?_
 rintro e w2 ⟨r2, rfl, hr2, hb2⟩
 have s1 := hb1.size
 go_wp2
 go_ret2
 exact ⟨_, rfl, hr2.le s1, hb1.trans (hb2.mono s1)⟩

end Go.Proofs.YthlogenaienkhaaGreatDoor
