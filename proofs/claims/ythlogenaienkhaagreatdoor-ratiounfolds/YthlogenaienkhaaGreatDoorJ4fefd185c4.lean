/-
  Texts of mine, joined: what lies beneath the statement.
-/
import Derived.Test.YthlogenaienkhaaGreatDoorJ01222156c2
import Derived.Test.YthlogenaienkhaaGreatDoorJ5ec733ea37
/-
 A row of whole numbers stays where something else is set.
-/
namespace Go.Proofs.YthlogenaienkhaaGreatDoor
open Go.RowKit
set_option linter.unusedVariables false

theorem grown_set3 (w : World) (R : Nat) (x y z : Value) : w.grownBy (((w.setCell ⟨R,0,none⟩ x).setCell ⟨R,1,none⟩ y).setCell ⟨R,2,none⟩ z) (some R) :=
 ⟨rfl,rfl,rfl,by simp,fun k _ hk => by rw [Below.heap_setCell _ _ _ _ (fun e => hk (by rw [e])),Below.heap_setCell _ _ _ _ (fun e => hk (by rw [e])),Below.heap_setCell _ _ _ _ (fun e => hk (by rw [e]))]⟩
/-- Something else was set. -/
theorem IRow.other {w w' : World} {b off n c : Nat} {z : Nat → Int} {L : Nat} {row : Option Nat} (h : IRow w (.slice (some ⟨b,off,none⟩) n c) n z L) (hg : w.grownBy w' row) (hk : KeepQ IsNum w w') (hne : ∀ g,row = some g → b ≠ g) : IRow w' (.slice (some ⟨b,off,none⟩) n c) n z L := by
 obtain ⟨el,⟨a,c',h1,h2,h3,h4⟩,h5⟩ := h
 cases h1
 refine ⟨el,⟨_,_,rfl,h2,h3,fun hn => ?_⟩,fun i hi => (h5 i hi).keep hk⟩
 obtain ⟨b',off',e,hc⟩ := h4 hn
 cases e
 refine ⟨b,off,rfl,fun i hi j hj => ?_⟩
 have hb := hg.block b (World.block_lt_of_cell? _ _ (hc i hi j hj)) (fun e => hne b e.symm rfl)
 exact (World.cell?_of_block (w := w) hb).trans (hc i hi j hj)

end Go.Proofs.YthlogenaienkhaaGreatDoor
