/-
  Texts of mine.
-/
import Derived.Test.YthkamfddbiheoaaGreatDoorJ839713949f
import Derived.Test.YthkamfddbiheoaaGreatDoorJ58bd616bed
import Derived.Test.YthkamfddbiheoaaGreatDoorJb511855696
namespace Go.Proofs.YthkamfddbiheoaaGreatDoor
open Go.RowKit
set_option linter.unusedVariables false

theorem RepJ.num {w : World} {p : Bool} {ao : Option Addr} {n c : Nat} {z : Int} (h : RepJ w (.agg #[.bool p, .slice ao n c]) z) : RepD w (.slice ao n c) z.natAbs := by
 obtain ⟨ao', c', e, hd⟩ := h
 simp only [Value.agg.injEq, Array.mk.injEq, List.cons.injEq, Value.slice.injEq, and_true] at e
 obtain ⟨_, rfl, rfl, rfl⟩ := e
 exact hd
theorem Tab.keep {w w' : World} (h : Tab w) (hk : KeepQ IsNum w w') : Tab w' := fun i hi => hk _ _ _ ⟨_, _, rfl⟩ (h i hi)
theorem RepD.below {w w' : World} {v : Value} {m : Nat} (h : RepD w v m) (hb : Below w.heap.size w w') : RepD w' v m := Nums.below h hb
theorem RepD.keep {w w' : World} {v : Value} {m : Nat} (h : RepD w v m) (hk : KeepQ IsNum w w') : RepD w' v m := Nums.keep h hk
theorem Rep.below {w w' : World} {v : Value} {m : Nat} (h : Rep w v m) (hb : Below w.heap.size w w') : Rep w' v m := Nums.below h hb
theorem Rep.keep {w w' : World} {v : Value} {m : Nat} (h : Rep w v m) (hk : KeepQ IsNum w w') : Rep w' v m := Nums.keep h hk

end Go.Proofs.YthkamfddbiheoaaGreatDoor
