/-
  Texts of mine, joined: what lies beneath the statement.
-/
import Derived.Test.YtgddiimnpliolaaDoorJddbd12e38b
import Derived.Shelf.Abstract
namespace Go.Proofs.YtgddiimnpliolaaDoor
open Go.RowKit
set_option linter.unusedVariables false
def Marks (B : Nat) (W : World) : List Deferred → Prop
  | [] => True
  | d :: ds => ∃ D, d = { target := .collected D, args := #[] } ∧ B ≤ D ∧ W.heap[D]? = some (.deferred (some [])) ∧ (∀ d' ∈ ds, d' ≠ d) ∧ Marks B W ds
theorem Marks.others {B : Nat} {W W' : World} (h : KeepsOthers W W') : ∀ {ds : List Deferred}, Marks B W ds → Marks B W' ds
  | [], _ => trivial
  | _ :: _, ⟨D, e, hB, hD, hn, hs⟩ => ⟨D, e, hB, h.same D _ hD rfl, hn, hs.others h⟩
theorem KeepsOthers.of_below {W W' : World} (h : Below W.heap.size W W') : KeepsOthers W W' :=
  ⟨h.size, fun k o hk ho => (h.block k (Array.getElem?_eq_some_iff.1 hk).1).trans hk⟩
theorem KeepsOthers.drew' (W : World) : KeepsOthers W W.drew := ⟨Nat.le_refl _, fun _ _ h _ => h⟩
theorem Marks.lt {B : Nat} {W : World} : ∀ {ds : List Deferred}, Marks B W ds → ∀ D, W.heap.size ≤ D → ∀ d ∈ ds, d ≠ { target := .collected D, args := #[] }
  | [], _, _, _, d, hd => by cases hd
  | _ :: _, ⟨D', e, hB, hD, hn, hs⟩, D, hl, d, hd => by
    rcases List.mem_cons.1 hd with rfl | hd
    · intro e2
      rw [e] at e2
      simp only [Deferred.mk.injEq, Target.collected.injEq, and_true] at e2
      have := (Array.getElem?_eq_some_iff.1 hD).1
      omega
    · exact hs.lt D hl d hd
theorem Marks.put {B : Nat} {W : World} {D : Nat} {o : Obj} : ∀ {ds : List Deferred}, Marks B W ds → (∀ d ∈ ds, d ≠ { target := .collected D, args := #[] }) → Marks B (W.putObj D o) ds
  | [], _, _ => trivial
  | _ :: _, ⟨D', e, hB, hD, hn, hs⟩, h => by
    refine ⟨D', e, hB, ?_, hn, hs.put fun d hd => h d (List.mem_cons_of_mem _ hd)⟩
    refine (World.putObj_heap_other (fun e2 => ?_)).trans hD
    exact h _ List.mem_cons_self (by rw [e, e2])
theorem leaves_marks {F : Fence} {n : Nat} {P : Program} {fn : Func} {tmps : Array Value} {R : Ending → World → Prop} {B : Nat} : ∀ (ds : List Deferred) (W : World), Marks B W ds → B ≤ W.heap.size →
    (∀ W', Below B W W' → (∀ p v, W.cell? p = some v → W'.cell? p = some v) → (∃ v, (results fn tmps).run P W' = .ok v W' ∧ R (.returned v) W')) → LeavesInM F n P fn tmps R ds .returning W
  | [], W, _, _, h => h W (Below.refl _ _) (fun _ _ h => h)
  | _ :: ds, W, ⟨D, e, hB, hD, hn, hs⟩, hl, h => by
    have hb : Below B W (W.putObj D (.deferred none)) := (Below.refl _ _).grown (grownBy_putObj' W D _) hl (fun k e => by cases e; exact hB)
    have hc : ∀ p v, W.cell? p = some v → (W.putObj D (.deferred none)).cell? p = some v := fun p v hp => cell_kept hp (grownBy_putObj' W D _) (fun r e => by cases e; exact ⟨_, hD, rfl⟩)
    refine ⟨by simp, .inl ⟨D, _, by rw [e], run_takeDeferred hD, ?_⟩⟩
    refine leaves_marks ds _ (hs.put fun d hd => e ▸ hn d hd) (Nat.le_trans hl hb.size) fun W' h1 h2 => ?_
    exact h W' (hb.trans h1) (fun p v hp => h2 p v (hc p v hp))
end Go.Proofs.YtgddiimnpliolaaDoor
