/-
  Texts of mine, joined: what lies beneath the statement.
-/
import Derived.Test.YtjmagcgobhaenaaGreatDoorJ74f9ee5660
import Derived.Test.YtjmagcgobhaenaaGreatDoorJc35467fed7
namespace Go.Proofs.YtjmagcgobhaenaaGreatDoor
open Go.RowKit
set_option linter.unusedVariables false
set_option linter.unusedSimpArgs false





def Aside (v1 v2 : Value) : Prop := ∀ g,v1.ownBlock = some g → v2.ownBlock ≠ some g
theorem Aside.symm {v1 v2 : Value} (h : Aside v1 v2) : Aside v2 v1 := fun g h1 h2 => h g h2 h1
theorem aside_nil (v : Value) : Aside (.slice none 0 0) v := fun g h => by cases h
theorem FOwn.stay {B : Nat} {w w' : World} {v x : Value} {n : Nat} {q : Nat → Rat} (h : FOwn B w v n q) (hg : w.grownBy w' x.ownBlock) (hk : KeepQ IsNum w w') (ha : Aside v x) : FOwn B w' v n q := by
 obtain ⟨us,el,h1,h2,h3,h4⟩ := h
 have hv : ∀ g,v.ownBlock = some g → some g ≠ x.ownBlock := fun g hg e => ha g hg e.symm
 refine ⟨us,el,h1.kept hg ?_,fun g hgg o u hu => h2 g hgg o u ?_,h3,fun i hi => (h4 i hi).keep hk⟩
 ·cases hb : v.ownBlock with
  | none => exact .inl rfl
  | some g => exact .inr (hv g hb)
 ·rw [← World.cell?_of_block (w := w) (hg.block g (h1.lt g hgg).2 (hv g hgg))]; exact hu
theorem aside_new {B : Nat} {w : World} {v x : Value} {n : Nat} {q : Nat → Rat} {g5 m c : Nat} (h : FOwn B w v n q) (ha : Aside v x) (hat : x.ownBlock = some g5 ∨ g5 = w.heap.size) : Aside v (.slice (some ⟨g5,0,none⟩) m c) := by
 intro g hg e
 have e' : g5 = g := by injection e
 subst e'
 rcases hat with h1 | h1
 ·exact ha g5 hg h1
 ·have := (h.both g5 hg).2; omega
end Go.Proofs.YtjmagcgobhaenaaGreatDoor
