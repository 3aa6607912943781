/-
  Texts of mine, joined: what lies beneath the statement.
-/
import Derived.Test.YtjmagcgobhaenaaGreatDoorJ7ceb9cd56f
import Derived.ChangeSame
import Derived.ProofKit
import Derived.OpenShut
namespace Go.Proofs.YtjmagcgobhaenaaGreatDoor
open Go.ChangeShapes Go.WideShapes Go.ChangeAt Go.RowKit
theorem cells_wint : Tryz.prog.cellsOf 32 = 2 := by kernel_rfl
theorem cells_bool : Tryz.prog.cellsOf 4 = 1 := by kernel_rfl
theorem cells_nat : Tryz.prog.cellsOf 30 = 1 := by kernel_rfl
theorem cells_u64 : Tryz.prog.cellsOf 26 = 1 := by kernel_rfl
theorem open_nat {H : Type} {enc : TypeId × Value → H} {W : World} {base : Nat} {fuel : Nat} {cs : List Value} {x : DataW H × List MemPlace}
  (h : DataW.trod enc Tryz.prog W base (fun _ => true) true fuel 30 cs = some x) : ∃ ao n c f,cs = [.slice ao n c] ∧ Raw W (.slice ao n c) n f := by
 rcases open_ints Tryz.underlying30 Tryz.underlying26 cells_u64 h with ⟨hcs,_⟩ | ⟨x,l,c,zs,hcs,_,hl,hm,hz,_,hcell,hwz⟩
 ·exact ⟨_,_,_,_,hcs,raw_nil W⟩
 ·exact ⟨_,_,_,_,hcs,raw_row W x _ _ zs hl hm (by simpa using hz) hcell hwz⟩
end Go.Proofs.YtjmagcgobhaenaaGreatDoor
