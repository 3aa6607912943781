/-
  Texts of mine, joined: what lies beneath the statement.
-/
import Derived.Test.YtbbliiafkjipbaaGreatDoorJd34b898184
import Derived.Test.YtbbliiafkjipbaaGreatDoorJ3286969a4a
import Derived.Test.YtbbliiafkjipbaaGreatDoorJ02cbbf8899
namespace Go.Proofs.YtbbliiafkjipbaaGreatDoor
open Go.RowKit
set_option linter.unusedVariables false
def RepJ (w : World) (v : Value) (z : Int) : Prop :=
 ∃ ao c,v = .agg #[.bool (decide (z < 0)),.slice ao (nl 10000 z.natAbs) c] ∧ RepD w (.slice ao (nl 10000 z.natAbs) c) z.natAbs
theorem RepJ.below {w w' : World} {v : Value} {z : Int} (h : RepJ w v z) (hb : Below w.heap.size w w') : RepJ w' v z := by
 obtain ⟨ao,c,h1,h2⟩ := h
 exact ⟨ao,c,h1,Nums.below h2 hb⟩
theorem RepJ.open {w : World} {v : Value} {z : Int} (h : RepJ w v z) : ∃ b ao n c,v = .agg #[.bool b,.slice ao n c] := by
 obtain ⟨ao,c,h1,_⟩ := h
 exact ⟨_,_,_,_,h1⟩
theorem RepJ.mk {w : World} {s : Value} {m : Nat} (neg : Bool) (hs : RepD w s m) : RepJ w (.agg #[.bool (neg && !decide (m = 0)),s]) (zof neg m) := by
 obtain ⟨ao,c,rfl,h2⟩ := hs
 refine ⟨ao,c,?_,?_⟩
 ·rw [zof_abs,zof_neg]
 ·rw [zof_abs]; exact ⟨ao,c,rfl,h2⟩
theorem RepJ.nil (w : World) : RepJ w (.agg #[.bool false,.slice none 0 0]) 0 :=
 ⟨none,0,by simp [nl_zero],by show RepD w (.slice none (nl 10000 0) 0) 0; rw [nl_zero]; unfold RepD; rw [nl_zero]; exact Nums.nil _ _ _⟩
theorem RepJ.store2 {w : World} {v : Value} {z : Int} (h : RepJ w v z) {R m c : Nat} {p : Bool} {ao : Option Addr} (q1 : w.cell? ⟨R,0,none⟩ = some (.bool p)) (q2 : w.cell? ⟨R,1,none⟩ = some (.slice ao m c)) (x y : Value) :
  RepJ ((w.setCell ⟨R,0,none⟩ x).setCell ⟨R,1,none⟩ y) v z := by
 obtain ⟨ao,c,h1,h2⟩ := h
 exact ⟨ao,c,h1,Nums.store2 h2 q1 q2 x y⟩
end Go.Proofs.YtbbliiafkjipbaaGreatDoor

namespace Go.Proofs.YtbbliiafkjipbaaGreatDoor
open Go.RowKit
end Go.Proofs.YtbbliiafkjipbaaGreatDoor

namespace Go.Proofs.YtbbliiafkjipbaaGreatDoor
open Go.RowKit
set_option linter.unusedVariables false
end Go.Proofs.YtbbliiafkjipbaaGreatDoor
