/-
  Texts of mine, joined: what lies beneath the statement.
-/
import Derived.Test.YtfibpckhbgemcaaGreatDoorJ87c88de587
import Derived.Test.YtfibpckhbgemcaaGreatDoorJe44aa1e506
import Derived.Test.YtfibpckhbgemcaaGreatDoorJ7a8aa7ceef
namespace Go.Proofs.YtfibpckhbgemcaaGreatDoor
open Go.RowKit
set_option linter.unusedVariables false

theorem RepJ.num {w : World} {p : Bool} {ao : Option Addr} {n c : Nat} {z : Int} (h : RepJ w (.agg #[.bool p, .slice ao n c]) z) : RepD w (.slice ao n c) z.natAbs := by
  obtain ⟨ao', c', e, hd⟩ := h
  simp only [Value.agg.injEq, Array.mk.injEq, List.cons.injEq, Value.slice.injEq, and_true] at e
  obtain ⟨_, rfl, rfl, rfl⟩ := e
  exact hd
theorem nlj6 {x : Int} {a : Nat} (hx : nl W32 x.natAbs ≤ a) (ha : a ≤ 1000 := by omega) : nl 10000 x.natAbs ≤ 400000 := Nat.le_trans (nl10_le _ _ hx) (by omega)
theorem Tab.keep {w w' : World} (h : Tab w) (hk : KeepQ IsNum w w') : Tab w' := fun i hi => hk _ _ _ ⟨_, _, rfl⟩ (h i hi)
theorem RepD.below {w w' : World} {v : Value} {m : Nat} (h : RepD w v m) (hb : Below w.heap.size w w') : RepD w' v m := Nums.below h hb
theorem wright_rep (v : Value) (z : Int) (w : World) (h : RepI w v z) : Calls Tryz.prog 13 #[v] w fun e w' => e = .returned (.bool true) ∧ Below w.heap.size w w' := by
  obtain ⟨ao, c, rfl, h2⟩ := h
  have g := wright_any (decide (z < 0)) ao _ c _ w h2 (u64_dg _ _)
  rw [rightB_rep, num_nl] at g
  have e : (decide (z < 0) && decide (z.natAbs = 0)) = false := by
    by_cases hz : z < 0
    · have : ¬ z.natAbs = 0 := by omega
      simp [this]
    · simp [hz]
  rw [e] at g
  exact g

theorem RepD.keep {w w' : World} {v : Value} {m : Nat} (h : RepD w v m) (hk : KeepQ IsNum w w') : RepD w' v m := Nums.keep h hk
theorem Rep.below {w w' : World} {v : Value} {m : Nat} (h : Rep w v m) (hb : Below w.heap.size w w') : Rep w' v m := Nums.below h hb
theorem Rep.keep {w w' : World} {v : Value} {m : Nat} (h : Rep w v m) (hk : KeepQ IsNum w w') : Rep w' v m := Nums.keep h hk

end Go.Proofs.YtfibpckhbgemcaaGreatDoor
