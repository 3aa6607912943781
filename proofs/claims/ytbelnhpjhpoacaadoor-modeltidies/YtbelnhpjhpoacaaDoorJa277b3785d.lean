/-
  Texts of mine.
-/
import Derived.Test.YtbelnhpjhpoacaaDoorJ53f245fabc
import Derived.Test.YtbelnhpjhpoacaaDoorJ2652bde399
namespace Go.Proofs.YtbelnhpjhpoacaaDoor
open Go.RowKit
set_option linter.unusedVariables false

theorem RepJ.store4 {w : World} {v : Value} {z : Int} (h : RepJ w v z) {R R' m c m' c' : Nat} {p p' : Bool} {ao ao' : Option Addr} (q1 : w.cell? ⟨R, 0, none⟩ = some (.bool p)) (q2 : w.cell? ⟨R, 1, none⟩ = some (.slice ao m c))
    (q3 : w.cell? ⟨R', 0, none⟩ = some (.bool p')) (q4 : w.cell? ⟨R', 1, none⟩ = some (.slice ao' m' c')) (hne : R' ≠ R) (x y x' y' : Value) :
    RepJ ((((w.setCell ⟨R, 0, none⟩ x).setCell ⟨R, 1, none⟩ y).setCell ⟨R', 0, none⟩ x').setCell ⟨R', 1, none⟩ y') v z := by
  have a1 : ((w.setCell ⟨R, 0, none⟩ x).setCell ⟨R, 1, none⟩ y).cell? ⟨R', 0, none⟩ = some (.bool p') := by
    rw [World.cell?_setCell_other _ _ _ _ (fun e => by injection e; omega), World.cell?_setCell_other _ _ _ _ (fun e => by injection e; omega)]; exact q3
  have a2 : ((w.setCell ⟨R, 0, none⟩ x).setCell ⟨R, 1, none⟩ y).cell? ⟨R', 1, none⟩ = some (.slice ao' m' c') := by
    rw [World.cell?_setCell_other _ _ _ _ (fun e => by injection e; omega), World.cell?_setCell_other _ _ _ _ (fun e => by injection e; omega)]; exact q4
  exact (h.store2 q1 q2 x y).store2 a1 a2 x' y'
theorem keep6s {w w' : World} {B : Nat} {a b c d a' b' : Addr} {x y z t x' y' : Value} (hb : Below B w w') (hB : w.heap.size ≤ B) (h : w.cell? a = some x ∧ w.cell? b = some y ∧ w.cell? c = some z ∧ w.cell? d = some t ∧ w.cell? a' = some x' ∧ w.cell? b' = some y') :
    w'.cell? a = some x ∧ w'.cell? b = some y ∧ w'.cell? c = some z ∧ w'.cell? d = some t ∧ w'.cell? a' = some x' ∧ w'.cell? b' = some y' :=
  ⟨(keep2 hb hB ⟨h.1, h.2.1⟩).1, (keep2 hb hB ⟨h.1, h.2.1⟩).2, keep4 hb hB h.2.2⟩

theorem put2_cells {w : World} {R R' : Nat} {x y x' y' : Value} (hne : R' ≠ R) (h : w.cell? ⟨R', 0, none⟩ = some x ∧ w.cell? ⟨R', 1, none⟩ = some y) :
    ((w.setCell ⟨R, 0, none⟩ x').setCell ⟨R, 1, none⟩ y').cell? ⟨R', 0, none⟩ = some x ∧ ((w.setCell ⟨R, 0, none⟩ x').setCell ⟨R, 1, none⟩ y').cell? ⟨R', 1, none⟩ = some y := by
  obtain ⟨h1, h2⟩ := h
  refine ⟨?_, ?_⟩
  · rw [World.cell?_setCell_other _ _ _ _ (fun e => by injection e; omega), World.cell?_setCell_other _ _ _ _ (fun e => by injection e; omega)]; exact h1
  · rw [World.cell?_setCell_other _ _ _ _ (fun e => by injection e; omega), World.cell?_setCell_other _ _ _ _ (fun e => by injection e; omega)]; exact h2
theorem nl_succ (x : Nat) : nl W32 (x + 1) ≤ nl W32 x + 1 := by
  apply nl_le W32 _ _ (by decide)
  have h := lt_pow_nl W32 x (by decide)
  rw [Nat.pow_succ]
  have : W32 ^ nl W32 x * 2 ≤ W32 ^ nl W32 x * W32 := Nat.mul_le_mul_left _ (by decide)
  generalize W32 ^ nl W32 x = P at *
  omega

/-- What Over answers. -/
def OverOut (x y : Int) (B : Nat) (w : World) (e : Ending) (w' : World) : Prop :=
  ∃ q r, e = .returned (.tuple #[q, r]) ∧ RepJ w' q (x.fdiv y) ∧ RepJ w' r (x.fmod y) ∧ Below B w w'
theorem fmod_less (x y : Int) : x + -(x.fdiv y * y) = x.fmod y := by
  have := Int.mul_fdiv_add_fmod x y
  rw [Int.mul_comm] at this; omega
theorem nl10_abs {x y : Int} (h : x.natAbs ≤ y.natAbs) : nl 10000 x.natAbs ≤ nl 10000 y.natAbs := nl_mono 10000 _ _ (by decide) h


end Go.Proofs.YtbelnhpjhpoacaaDoor
