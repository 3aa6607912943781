/-
  Texts of mine.
-/
import Derived.Test.YtbelnhpjhpoacaaDoorJc6f1048f80
import Derived.ChangeSame
import Derived.ProofKit
import Derived.OpenShut
namespace Go.Proofs.YtbelnhpjhpoacaaDoor
open Go.ChangeShapes Go.WideShapes Go.ChangeAt Go.RowKit

theorem cells_wint : Tryd.prog.cellsOf 33 = 2 := by kernel_rfl
theorem cells_bool : Tryd.prog.cellsOf 4 = 1 := by kernel_rfl
theorem cells_nat : Tryd.prog.cellsOf 31 = 1 := by kernel_rfl
theorem cells_u64 : Tryd.prog.cellsOf 45 = 1 := by kernel_rfl
theorem agg2 {cs : Array Value} (h : cs.size = 2) : ∃ a b, cs = #[a, b] := by
  obtain ⟨l⟩ := cs
  match l, h with
  | [a, b], _ => exact ⟨a, b, rfl⟩

/-- Limbs, as they are read. -/
theorem open_nat {H : Type} {enc : TypeId × Value → H} {W : World} {base : Nat} {fuel : Nat} {cs : List Value} {x : DataW H × List MemPlace}
    (h : DataW.trod enc Tryd.prog W base (fun _ => true) true fuel 31 cs = some x) : ∃ ao n c f, cs = [.slice ao n c] ∧ Raw W (.slice ao n c) n f := by
  rcases open_ints Tryd.underlying31 Tryd.underlying45 cells_u64 h with ⟨hcs, _⟩ | ⟨x, l, c, zs, hcs, _, hl, hm, hz, _, hcell, hwz⟩
  · exact ⟨_, _, _, _, hcs, raw_nil W⟩
  · exact ⟨_, _, _, _, hcs, raw_row W x _ _ zs hl hm (by simpa using hz) hcell hwz⟩
set_option maxRecDepth 100000 in
theorem open_wint {H : Type} {enc : TypeId × Value → H} {W : World} {base b0 : Nat} {r : Reach} {v : Value} {d : DataW H} {ps : List MemPlace}
    (hval : Value.okWide Tryd.prog W r b0 33 v) (h : DataW.Trod enc Tryd.prog W base (fun _ => true) true 33 v d ps) :
    ∃ neg ao n c f, v = .agg #[.bool neg, .slice ao n c] ∧ Raw W (.slice ao n c) n f := by
  obtain ⟨cs, rfl, hsz⟩ := okWide_struct Tryd.underlying33 hval
  rw [cells_wint] at hsz
  obtain ⟨c0, c1, rfl⟩ := agg2 hsz
  obtain ⟨fuel, hf⟩ := h
  obtain ⟨y0, y1, m, hx, _, hy0, hy1⟩ := trod_struct2 Tryd.underlying33 hf
  obtain ⟨b, e0, _⟩ := DataW.trod_bool Tryd.underlying4 hy0
  obtain ⟨ao, n, c, f, e1, hraw⟩ := open_nat hy1
  simp [Value.cells, cells_bool, cells_nat] at e0 e1
  subst e0 e1
  exact ⟨b, ao, n, c, f, rfl, hraw⟩

end Go.Proofs.YtbelnhpjhpoacaaDoor
