/-
  Texts of mine.
-/
import Derived.Test.YthkamfddbiheoaaGreatDoorJ8ba87e95f0
import Derived.Test.YthkamfddbiheoaaGreatDoorJ39577e7d21
namespace Go.Proofs.YthkamfddbiheoaaGreatDoor
open Go.RowKit
set_option linter.unusedVariables false

theorem RepJ.store4 {w : World} {v : Value} {z : Int} (h : RepJ w v z) {R R' m c m' c' : Nat} {p p' : Bool} {ao ao' : Option Addr} (q1 : w.cell? ⟨R, 0, none⟩ = some (.bool p)) (q2 : w.cell? ⟨R, 1, none⟩ = some (.slice ao m c))
  (q3 : w.cell? ⟨R', 0, none⟩ = some (.bool p')) (q4 : w.cell? ⟨R', 1, none⟩ = some (.slice ao' m' c')) (hne : R' ≠ R) (x y x' y' : Value) :
  RepJ ((((w.setCell ⟨R, 0, none⟩ x).setCell ⟨R, 1, none⟩ y).setCell ⟨R', 0, none⟩ x').setCell ⟨R', 1, none⟩ y') v z := by
 have a1 : ((w.setCell ⟨R, 0, none⟩ x).setCell ⟨R, 1, none⟩ y).cell? ⟨R', 0, none⟩ = some (.bool p') := by
  rw [World.cell?_setCell_other _ _ _ _ (fun e => by injection e; omega), World.cell?_setCell_other _ _ _ _ (fun e => by injection e; omega)]; exact q3
 have a2 : ((w.setCell ⟨R, 0, none⟩ x).setCell ⟨R, 1, none⟩ y).cell? ⟨R', 1, none⟩ = some (.slice ao' m' c') := by
  rw [World.cell?_setCell_other _ _ _ _ (fun e => by injection e; omega), World.cell?_setCell_other _ _ _ _ (fun e => by injection e; omega)]; exact q4
 exact (h.store2 q1 q2 x y).store2 a1 a2 x' y'
end Go.Proofs.YthkamfddbiheoaaGreatDoor
