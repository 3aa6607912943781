/-
  Texts of mine.
-/
import Derived.Test.YtbbliiafkjipbaaGreatDoorJ16721cdd31
import Derived.Shelf.Abstract
namespace Go.Proofs.YtbbliiafkjipbaaGreatDoor
open Go.RowKit
set_option linter.unusedVariables false
def Marks (B : Nat) (W : World) : List Deferred → Prop
 | [] => True
 | d :: ds => ∃ D,d = { target := .collected D,args := #[] } ∧ B ≤ D ∧ W.heap[D]? = some (.deferred (some [])) ∧ (∀ d' ∈ ds,d' ≠ d) ∧ Marks B W ds
theorem Marks.others {B : Nat} {W W' : World} (h : KeepsOthers W W') : ∀ {ds : List Deferred},Marks B W ds → Marks B W' ds
 | [],_ => trivial
 | _ :: _,⟨D,e,hB,hD,hn,hs⟩ => ⟨D,e,hB,h.same D _ hD rfl,hn,hs.others h⟩
theorem KeepsOthers.of_below {W W' : World} (h : Below W.heap.size W W') : KeepsOthers W W' :=
 ⟨h.size,fun k o hk ho => (h.block k (Array.getElem?_eq_some_iff.1 hk).1).trans hk⟩
theorem Marks.lt {B : Nat} {W : World} : ∀ {ds : List Deferred},Marks B W ds → ∀ D,W.heap.size ≤ D → ∀ d ∈ ds,d ≠ { target := .collected D,args := #[] }
 | [],_,_,_,d,hd => by cases hd
 | _ :: _,⟨D',e,hB,hD,hn,hs⟩,D,hl,d,hd => by
  rcases List.mem_cons.1 hd with rfl | hd
  ·intro e2
   rw [e] at e2
   simp only [Deferred.mk.injEq,Target.collected.injEq,and_true] at e2
   have := (Array.getElem?_eq_some_iff.1 hD).1
   omega
  ·exact hs.lt D hl d hd
theorem Marks.put {B : Nat} {W : World} {D : Nat} {o : Obj} : ∀ {ds : List Deferred},Marks B W ds → (∀ d ∈ ds,d ≠ { target := .collected D,args := #[] }) → Marks B (W.putObj D o) ds
 | [],_,_ => trivial
 | _ :: _,⟨D',e,hB,hD,hn,hs⟩,h => by
  refine ⟨D',e,hB,?_,hn,hs.put fun d hd => h d (List.mem_cons_of_mem _ hd)⟩
  refine (World.putObj_heap_other (fun e2 => ?_)).trans hD
  exact h _ List.mem_cons_self (by rw [e,e2])
end Go.Proofs.YtbbliiafkjipbaaGreatDoor
