/-
  Texts of mine, joined: what lies beneath the statement.
-/
import Derived.Test.YtgddiimnpliolaaDoorJ14d28fd1ec
import Derived.Test.YtgddiimnpliolaaDoorJddbd12e38b
import Derived.Test.YtgddiimnpliolaaDoorJ652d582500
import Derived.Test.YtgddiimnpliolaaDoorJ7a8da8948c
import Derived.Shelf.Abstract
import Derived.Shelf.RegionOpen
import Derived.WalkKit
import Derived.OwnWalkIn
import Derived.TacticsInMore
import Derived.LoopNIn
import Derived.LoopIn
namespace Go.Proofs.YtgddiimnpliolaaDoor
open Go.RowKit Go.Shelf
set_option linter.unusedVariables false
set_option linter.unusedSimpArgs false
attribute [local go_sem] Oper.semAt_some
section
variable {P : Program} {ops : Array Oper} {Q : Exit → Act → World → Prop} {S : World → Prop}
theorem region_held_in {n l id : Nat} {a : Act} {w : World} (hQ : ¬ LetsOut Q) (hd : noDefer ops = true) (hm : P.follows .mixedOrders = true) (hS : S w.drew)
    (h : S w.drew → wpAnyH P .any ops Q S ops.size (Array.replicate ops.size false) a w.drew) : (Code.region id ops true).wpIn (Fence.wide.inRound l) n P Q a w :=
  region_in hm hQ hd (wpAny_of_held _ _ _ _ (h hS))
end
theorem GArr.kept {w w' : World} {g n : Nat} {q : Nat → Rat} {L : Nat} {row : Option Nat} (h : GArr w g n q L) (hg : w.grownBy w' row) (hr : ∀ r, row = some r → ∃ o : Obj, w.heap[r]? = some o ∧ o.isCells = false) : GArr w' g n q L := by
  obtain ⟨el, A, R⟩ := h
  exact ⟨el, ⟨fun i hi j hj => cell_kept (A.1 i hi j hj) hg hr, fun i hi j hj => (frozen_kept (A.1 i hi j hj) hg hr).trans (A.2.1 i hi j hj), A.2.2⟩, fun j hj => (R j hj).keep (fun _ _ _ _ hc => cell_kept hc hg hr)⟩
def finsB (K : Nat) : Nat → List (Fin K)
  | 0 => []
  | k + 1 => if h : k < K then finsB K k ++ [⟨k, h⟩] else finsB K k
theorem finsB_succ {K k : Nat} (h : k < K) : finsB K (k + 1) = finsB K k ++ [⟨k, h⟩] := by
  show (if h : k < K then finsB K k ++ [⟨k, h⟩] else finsB K k) = _
  rw [dif_pos h]
theorem finsB_len {K : Nat} : ∀ k, k ≤ K → (finsB K k).length = k
  | 0, _ => rfl
  | k + 1, h => by rw [finsB_succ (by omega), List.length_append, finsB_len k (by omega)]; rfl
def nthB (zs : List Nat) (K x : Nat) : Nat := zs.getD (K - 1 - x) 0
theorem finsB_map (zs : List Nat) : ∀ k, k ≤ zs.length → (finsB zs.length k).map (fun x => nthB zs zs.length x.1) = (zs.drop (zs.length - k)).reverse
  | 0, _ => by rw [Nat.sub_zero, List.drop_length]; rfl
  | k + 1, h => by
    rw [finsB_succ (by omega), List.map_append, finsB_map zs k (by omega)]
    have hk : zs.length - (k + 1) < zs.length := by omega
    rw [List.drop_eq_getElem_cons hk, List.reverse_cons, show zs.length - (k + 1) + 1 = zs.length - k by omega]
    congr 1
    show [nthB zs zs.length k] = _
    unfold nthB
    rw [List.getD_eq_getElem?_getD, List.getElem?_eq_getElem (by omega)]
    simp only [Option.getD_some, List.cons.injEq, and_true]
    congr 1
    omega
theorem finsB_all (zs : List Nat) : (finsB zs.length zs.length).map (fun x => nthB zs zs.length x.1) = zs.reverse := by
  rw [finsB_map zs _ (Nat.le_refl _), Nat.sub_self, List.drop_zero]
def KeepB (Bs b : Nat) (W W' : World) : Prop := ∀ j, W'.cell? ⟨Bs, j, none⟩ = W.cell? ⟨Bs, j, none⟩ ∧ W'.cell? ⟨b, j, none⟩ = W.cell? ⟨b, j, none⟩
theorem KeepB.trans {Bs b : Nat} {A B C : World} (h : KeepB Bs b A B) (k : KeepB Bs b B C) : KeepB Bs b A C := fun j => ⟨(k j).1.trans (h j).1, (k j).2.trans (h j).2⟩
theorem KeepB.of_below {Bs b n0 : Nat} {A B : World} (h : Below n0 A B) (h1 : Bs < n0) (h2 : b < n0) : KeepB Bs b A B := fun j => ⟨h.cell (p := ⟨Bs, j, none⟩) h1, h.cell (p := ⟨b, j, none⟩) h2⟩
theorem keepB_b {Bs b : Nat} {w : World} (h1 : Bs < w.heap.size) (h2 : b < w.heap.size) (W : World) (l : Nat) (o o' : Obj) (hl : w.heap.size ≤ l) (h : W.heap[l]? = some o) (hc : o.isCells = false) (hw : o.isWalk = false) : KeepB Bs b W (W.putObj l o') :=
  KeepB.of_below (belowK_b (Nat.le_refl _) W l o o' hl h hc hw) h1 h2
def backV (zs : List Nat) (K x : Nat) : Array Value := #[.int .i64 ((K - 1 - x : Nat) : Int), .int .i64 ((nthB zs K x : Nat) : Int)]
theorem cell_boxB (W : World) (v : Value) (t : TypeId) : (W.alloc (.cells #[v] t)).cell? ⟨W.heap.size, 0, none⟩ = some v := by
  have h := World.alloc_heap_new W (.cells #[v] t)
  unfold World.cell?
  dsimp only
  rw [h]
  rfl
end Go.Proofs.YtgddiimnpliolaaDoor
