/-
  Texts of mine.
-/
import Derived.Test.YtbbliiafkjipbaaGreatDoorJe3777f3c23
import Derived.Lib.OthersKept
namespace Go.Proofs.YtbbliiafkjipbaaGreatDoor
open Go.RowKit
def valsOf (k : IntKind) (f : Nat → Int) (n : Nat) : List Value := (List.range n).map (fun i => Value.int k (f i))
theorem valsOf_length (k : IntKind) (f : Nat → Int) (n : Nat) : (valsOf k f n).length = n := by simp [valsOf]
theorem valsOf_at (k : IntKind) (f : Nat → Int) (n i : Nat) (h : i < n) : (valsOf k f n)[i]? = some (.int k (f i)) := by simp [valsOf,h]
theorem valsOf_snoc (k : IntKind) (f : Nat → Int) (n : Nat) (v : Int) : valsOf k f n ++ [.int k v] = valsOf k (put f n v) (n + 1) := by
 simp only [valsOf,List.range_succ,List.map_append,List.map_cons,List.map_nil,put_same]
 congr 1
 exact List.map_congr_left (fun i hi => by rw [put_other _ _ _ _ (by simp at hi; omega)])
theorem valsOf_congr (k : IntKind) {f g : Nat → Int} {n : Nat} (h : ∀ i,i < n → f i = g i) : valsOf k f n = valsOf k g n :=
 List.map_congr_left (fun i hi => by rw [h i (by simpa using hi)])
theorem grown_refl (w : World) (row : Option Nat) : w.grownBy w row := ⟨rfl,rfl,rfl,Nat.le_refl _,fun _ _ _ => rfl⟩
end Go.Proofs.YtbbliiafkjipbaaGreatDoor
