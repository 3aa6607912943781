/-
  Texts of mine, joined: what lies beneath the statement.
-/
import Derived.Test.YthlogenaienkhaaGreatDoorJd2ebc52910
import Derived.Test.YthlogenaienkhaaGreatDoorJ6d48735a61
/-
 What dendronref02.Over answers.
-/
namespace Go.Proofs.YthlogenaienkhaaGreatDoor
open Go.RowKit
set_option linter.unusedVariables false

theorem RepJ.store4 {w : World} {v : Value} {z : Int} (h : RepJ w v z) {R R' m c m' c' : Nat} {p p' : Bool} {ao ao' : Option Addr} (q1 : w.cell? ⟨R, 0, none⟩ = some (.bool p)) (q2 : w.cell? ⟨R, 1, none⟩ = some (.slice ao m c))
  (q3 : w.cell? ⟨R', 0, none⟩ = some (.bool p')) (q4 : w.cell? ⟨R', 1, none⟩ = some (.slice ao' m' c')) (hne : R' ≠ R) (x y x' y' : Value) :
  RepJ ((((w.setCell ⟨R, 0, none⟩ x).setCell ⟨R, 1, none⟩ y).setCell ⟨R', 0, none⟩ x').setCell ⟨R', 1, none⟩ y') v z := by
 have a1 : ((w.setCell ⟨R, 0, none⟩ x).setCell ⟨R, 1, none⟩ y).cell? ⟨R', 0, none⟩ = some (.bool p') := by
  rw [World.cell?_setCell_other _ _ _ _ (fun e => by injection e; omega), World.cell?_setCell_other _ _ _ _ (fun e => by injection e; omega)]; exact q3
 have a2 : ((w.setCell ⟨R, 0, none⟩ x).setCell ⟨R, 1, none⟩ y).cell? ⟨R', 1, none⟩ = some (.slice ao' m' c') := by
  rw [World.cell?_setCell_other _ _ _ _ (fun e => by injection e; omega), World.cell?_setCell_other _ _ _ _ (fun e => by injection e; omega)]; exact q4
 exact (h.store2 q1 q2 x y).store2 a1 a2 x' y'
theorem nl_succ (x : Nat) : nl W32 (x + 1) ≤ nl W32 x + 1 := by
 apply nl_le W32 _ _ (by decide)
 have h := lt_pow_nl W32 x (by decide)
 rw [Nat.pow_succ]
 have : W32 ^ nl W32 x * 2 ≤ W32 ^ nl W32 x * W32 := Nat.mul_le_mul_left _ (by decide)
 generalize W32 ^ nl W32 x = P at *
 omega

end Go.Proofs.YthlogenaienkhaaGreatDoor
