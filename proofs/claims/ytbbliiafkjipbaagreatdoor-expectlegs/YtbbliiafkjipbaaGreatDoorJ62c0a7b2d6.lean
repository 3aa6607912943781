/-
  Texts of mine.
-/
import Derived.Test.YtbbliiafkjipbaaGreatDoorJ43baf62222
import Derived.Test.YtbbliiafkjipbaaGreatDoorJe343d2e1c4
namespace Go.Proofs.YtbbliiafkjipbaaGreatDoor
open Go.RowKit
set_option linter.unusedVariables false
theorem RepJ.store4 {w : World} {v : Value} {z : Int} (h : RepJ w v z) {R R' m c m' c' : Nat} {p p' : Bool} {ao ao' : Option Addr} (q1 : w.cell? ⟨R,0,none⟩ = some (.bool p)) (q2 : w.cell? ⟨R,1,none⟩ = some (.slice ao m c))
  (q3 : w.cell? ⟨R',0,none⟩ = some (.bool p')) (q4 : w.cell? ⟨R',1,none⟩ = some (.slice ao' m' c')) (hne : R' ≠ R) (x y x' y' : Value) :
  RepJ ((((w.setCell ⟨R,0,none⟩ x).setCell ⟨R,1,none⟩ y).setCell ⟨R',0,none⟩ x').setCell ⟨R',1,none⟩ y') v z := by
 have a1 : ((w.setCell ⟨R,0,none⟩ x).setCell ⟨R,1,none⟩ y).cell? ⟨R',0,none⟩ = some (.bool p') := by
  rw [World.cell?_setCell_other _ _ _ _ (fun e => by injection e; omega),World.cell?_setCell_other _ _ _ _ (fun e => by injection e; omega)]; exact q3
 have a2 : ((w.setCell ⟨R,0,none⟩ x).setCell ⟨R,1,none⟩ y).cell? ⟨R',1,none⟩ = some (.slice ao' m' c') := by
  rw [World.cell?_setCell_other _ _ _ _ (fun e => by injection e; omega),World.cell?_setCell_other _ _ _ _ (fun e => by injection e; omega)]; exact q4
 exact (h.store2 q1 q2 x y).store2 a1 a2 x' y'
end Go.Proofs.YtbbliiafkjipbaaGreatDoor
