/-
  Texts of mine.
-/
import Derived.Test.YtbbliiafkjipbaaGreatDoorJa7a6dc5483
import Derived.ChangeSame
import Derived.ProofKit
import Derived.OpenShut
namespace Go.Proofs.YtbbliiafkjipbaaGreatDoor
open Go.ChangeShapes Go.WideShapes Go.ChangeAt Go.RowKit
theorem cells_wint : Tryz.prog.cellsOf 40 = 2 := by kernel_rfl
theorem cells_bool : Tryz.prog.cellsOf 4 = 1 := by kernel_rfl
theorem cells_nat : Tryz.prog.cellsOf 38 = 1 := by kernel_rfl
theorem cells_u64 : Tryz.prog.cellsOf 54 = 1 := by kernel_rfl
theorem open_nat {H : Type} {enc : TypeId × Value → H} {W : World} {base : Nat} {fuel : Nat} {cs : List Value} {x : DataW H × List MemPlace}
  (h : DataW.trod enc Tryz.prog W base (fun _ => true) true fuel 38 cs = some x) : ∃ ao n c f,cs = [.slice ao n c] ∧ Raw W (.slice ao n c) n f := by
 rcases open_ints Tryz.underlying38 Tryz.underlying54 cells_u64 h with ⟨hcs,_⟩ | ⟨x,l,c,zs,hcs,_,hl,hm,hz,_,hcell,hwz⟩
 ·exact ⟨_,_,_,_,hcs,raw_nil W⟩
 ·exact ⟨_,_,_,_,hcs,raw_row W x _ _ zs hl hm (by simpa using hz) hcell hwz⟩
end Go.Proofs.YtbbliiafkjipbaaGreatDoor
