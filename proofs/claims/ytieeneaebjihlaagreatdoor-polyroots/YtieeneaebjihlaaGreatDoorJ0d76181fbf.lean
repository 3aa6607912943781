/-
  Texts of mine, joined: what lies beneath the statement.
-/
import Derived.Test.YtieeneaebjihlaaGreatDoorJ51cb84c4e9
import Derived.Test.YtieeneaebjihlaaGreatDoorJ3234f0f596
import Derived.Shelf.Abstract
import Derived.Shelf.RegionOpen
import Derived.WalkKit
import Derived.OwnWalkIn
import Derived.TacticsInMore
import Derived.LoopNIn
import Derived.LoopIn
namespace Go.Proofs.YtieeneaebjihlaaGreatDoor
open Go.RowKit Go.Shelf
set_option linter.unusedVariables false
set_option linter.unusedSimpArgs false
attribute [local go_sem] Oper.semAt_some

/-- The first k of those below K. -/
def fins (K : Nat) : Nat → List (Fin K)
 | 0 => []
 | k + 1 => if h : k < K then fins K k ++ [⟨k,h⟩] else fins K k
theorem fins_succ {K k : Nat} (h : k < K) : fins K (k + 1) = fins K k ++ [⟨k,h⟩] := by
 show (if h : k < K then fins K k ++ [⟨k,h⟩] else fins K k) = _
 rw [dif_pos h]
theorem fins_len {K : Nat} : ∀ k,k ≤ K → (fins K k).length = k
 | 0,_ => rfl
 | k + 1,h => by rw [fins_succ (by omega),List.length_append,fins_len k (by omega)]; rfl
/-- The x-th two. -/
def chunkV (b off len : Nat) (x : Nat) : Value := .slice (some ⟨b,off + x * 2 * 3,none⟩) (min 2 (len - x * 2)) (min 2 (len - x * 2))
/-- The iterator's two boxes hold what they held. -/
def Keep2 (Bs Bn : Nat) (W W' : World) : Prop := W'.cell? ⟨Bs,0,none⟩ = W.cell? ⟨Bs,0,none⟩ ∧ W'.cell? ⟨Bn,0,none⟩ = W.cell? ⟨Bn,0,none⟩
theorem Keep2.trans {Bs Bn : Nat} {A B C : World} (h : Keep2 Bs Bn A B) (k : Keep2 Bs Bn B C) : Keep2 Bs Bn A C := ⟨k.1.trans h.1,k.2.trans h.2⟩
theorem Keep2.of_below {Bs Bn n0 : Nat} {A B : World} (h : Below n0 A B) (h1 : Bs < n0) (h2 : Bn < n0) : Keep2 Bs Bn A B := ⟨h.cell (p := ⟨Bs,0,none⟩) h1,h.cell (p := ⟨Bn,0,none⟩) h2⟩
theorem keep2_b {Bs Bn : Nat} {w : World} (h1 : Bs < w.heap.size) (h2 : Bn < w.heap.size) (W : World) (l : Nat) (o o' : Obj) (hl : w.heap.size ≤ l) (h : W.heap[l]? = some o) (hc : o.isCells = false) (hw : o.isWalk = false) : Keep2 Bs Bn W (W.putObj l o') :=
 Keep2.of_below (belowK_b (Nat.le_refl _) W l o o' hl h hc hw) h1 h2
theorem drew_grown (W : World) : W.grownBy W.drew none := ⟨rfl,rfl,rfl,Nat.le_refl _,fun _ _ _ => rfl⟩

set_option maxRecDepth 100000 in
set_option maxHeartbeats 4000000 in
theorem chunk1_in (n l Bs Bn b off len cap K : Nat) (hn : 1 ≤ n) (hK : K = (len + 1) / 2) (hlen : len ≤ 1000) (hlc : len ≤ cap) (hcap : cap ≤ 9223372036854775807) (J Jx : List (Fin K) → World → Prop)
  (W : World) (hJ : AbidesFrom W.heap.size J)
  (hY : ∀ pre x W1,J pre W1 → pre.length < K → YieldAt Fence.wide (n - 1) Tryz.prog l #[chunkV b off len x.1] W1 fun e W' =>
   (e = .returned (.bool true) ∧ J (pre ++ [x]) W' ∧ Keep2 Bs Bn W1 W') ∨ (e = .returned (.bool false) ∧ Jx (pre ++ [x]) W'))
  (hcs : W.cell? ⟨Bs,0,none⟩ = some (.slice (some ⟨b,off,none⟩) len cap)) (hcn : W.cell? ⟨Bn,0,none⟩ = some (.int .i64 2)) (h0 : J [] W) :
  CallsIn Fence.wide n Tryz.prog 100 #[.func (.yield l) #[] #[],.pointer (some ⟨Bs,0,none⟩),.pointer (some ⟨Bn,0,none⟩)] W fun e W' => (∃ v,e = .returned v) ∧
   ((∃ ys,ys = fins K K ∧ J ys W') ∨ (∃ pre,(∃ k,k ≤ K ∧ pre = fins K k) ∧ Jx pre W')) := by
 refine callsIn_of_wp Tryz.func100 rfl trivial ?_ rfl
 simp only [Tryz.ntmps100,List.size_toArray,List.length_cons,List.length_nil,Nat.reduceAdd,Nat.reduceSub,Array.replicate_succ,Array.replicate_zero,List.push_toArray,List.append_toArray,List.nil_append,List.cons_append]
 gi_wp2
 gi_loopw [4] (fun i wr => ∃ k : Nat,k ≤ K ∧ i = .int .i64 ((k * 2 : Nat) : Int) ∧ J (fins K k) wr ∧ wr.cell? ⟨Bs,0,none⟩ = some (.slice (some ⟨b,off,none⟩) len cap) ∧ wr.cell? ⟨Bn,0,none⟩ = some (.int .i64 2)) (fun i _ => 2000 - (intOf i).toNat)
 case atStart => exact ⟨0,Nat.zero_le _,rfl,h0,hcs,hcn⟩
 case round =>
  obtain ⟨k,hk,rfl,hJs,cs,cn⟩ := hrel
  obtain ⟨i,hi⟩ : ∃ i,i = k * 2 := ⟨_,rfl⟩
  have HI : Hid (i = k * 2) := hi
  by_cases hlt : k < K
  ·have hJd := hJ _ _ _ none hJs (drew_grown wr) (fun r e => by cases e)
   obtain ⟨fn,tmps,assign,body,hy,hR⟩ := hY _ ⟨k,hlt⟩ wr.drew hJd (by rw [fins_len _ (by omega)]; exact hlt)
   have e1 : i < len := by omega
   obtain ⟨m,hm⟩ : ∃ m,m = min 2 (len - i) := ⟨_,rfl⟩
   have HM : Hid (m = min 2 (len - i)) := hm
   have hy2 : Sem.run Tryz.prog (Instr.yield l #[.slice (some ⟨b,off + i * 3,none⟩) m m]) wr.drew = .ok (.round l fn tmps assign body) wr.drew := by rw [hm,hi]; exact hy
   rw [← hi]
   have c1 : (i : Int) < (len : Int) := by omega
   have c2 : min (2 : Int) ((len - i : Nat) : Int) = (m : Int) := by omega
   have c3 : (0 : Int) ≤ (i : Int) := by omega
   have c4 : (i : Int) ≤ (len : Int) := by omega
   have c5 : (len : Int) ≤ (cap : Int) := by omega
   have c6 : i ≤ len := by omega
   have c7 : ¬ cap = i := by omega
   have c8 : (i : Int) + (m : Int) ≤ (cap : Int) := by omega
   have c9 : (i : Int) ≤ (i : Int) + (m : Int) := by omega
   have c10 : (i : Int) ≤ (cap : Int) := by omega
   clear hi hm hy
   gi_wp2
   gi_region
   (rename_i hback; refine hback _ _ ?_)
   gi_wp2
   refine hR.mono ?_
   rintro e W' (⟨rfl,hj,hbl⟩ | ⟨rfl,hx⟩)
   ·dsimp only
    have cn2 := hbl.2.trans ((World.cell?_drew _ _).trans cn)
    have cs2 := hbl.1.trans ((World.cell?_drew _ _).trans cs)
    have c11 : (i : Int) + 2 < 2000 := by omega
    (rename_i hb1 _ _ hb2; refine hb2 _ _ ?_)
    gi_wp2
    have hi : i = k * 2 := HI
    refine ⟨⟨k + 1,hlt,by congr 1; omega,by rw [fins_succ hlt]; exact hj,cs2,cn2⟩,?_⟩
    simp only [intOf]
    omega
   ·dsimp only
    (rename_i hb1 _ _ hb2; refine hb2 _ _ ?_)
    gi_wp2
    refine bodyPost_ret (results_none rfl _ _ _) rfl ?_
    exact ⟨⟨_,rfl⟩,.inr ⟨_,⟨k + 1,hlt,(fins_succ hlt).symm⟩,hx⟩⟩
  ·have c1 : ¬ (i : Int) < (len : Int) := by omega
   have ek : k = K := by omega
   have hJK : J (fins K K) wr := by rw [ek] at hJs; exact hJs
   rw [← hi]
   clear hi hK ek
   gi_wp2
   go_end0
   exact ⟨⟨_,rfl⟩,.inl hJK⟩

/-- What ranges over slices.Chunk is handed, two and two. -/
theorem chunk_stops (n Bs Bn b off len cap K : Nat) (hn : 1 ≤ n) (hK : K = (len + 1) / 2) (hlen : len ≤ 1000) (hlc : len ≤ cap) (hcap : cap ≤ 9223372036854775807) (w : World) (hBs : Bs < w.heap.size) (hBn : Bn < w.heap.size)
  (hcs : w.cell? ⟨Bs,0,none⟩ = some (.slice (some ⟨b,off,none⟩) len cap)) (hcn : w.cell? ⟨Bn,0,none⟩ = some (.int .i64 2)) :
  SeqStopsK Fence.wide n Tryz.prog 100 #[.pointer (some ⟨Bs,0,none⟩),.pointer (some ⟨Bn,0,none⟩)] (fun x : Fin K => #[chunkV b off len x.1]) (Keep2 Bs Bn) (fun ys => ys = fins K K) (fun pre => ∃ k,k ≤ K ∧ pre = fins K k) K w := fun l J Jx W hW hJ hJx hY h0 =>
 chunk1_in n l Bs Bn b off len cap K hn hK hlen hlc hcap J Jx W hJ hY ((hW.cell (p := ⟨Bs,0,none⟩) hBs).trans hcs) ((hW.cell (p := ⟨Bn,0,none⟩) hBn).trans hcn) h0

theorem cell_box (W : World) (v : Value) (t : TypeId) : (W.alloc (.cells #[v] t)).cell? ⟨W.heap.size,0,none⟩ = some v := by
 have h := World.alloc_heap_new W (.cells #[v] t)
 unfold World.cell?
 dsimp only
 rw [h]
 rfl
set_option maxRecDepth 100000 in
/-- slices.Chunk itself lays two boxes. -/
theorem chunk_at (v : Value) (w : World) (ad : Option Addr) (len cap : Nat) (hv : v = .slice ad len cap) :
  Calls Tryz.prog 91 #[v,.int .i64 2] w fun e w' => ∃ Bs Bn,e = .returned (.func (.func 100) #[] #[.pointer (some ⟨Bs,0,none⟩),.pointer (some ⟨Bn,0,none⟩)]) ∧ w.heap.size ≤ Bs ∧ Bs < w'.heap.size ∧ w.heap.size ≤ Bn ∧ Bn < w'.heap.size ∧ w'.cell? ⟨Bs,0,none⟩ = some v ∧ w'.cell? ⟨Bn,0,none⟩ = some (.int .i64 2) ∧ Below w.heap.size w w' := by
 subst hv
 go_enter Tryz.func91,Tryz.ntmps91
 go_wp2
 go_ret
 refine ⟨w.heap.size,w.heap.size + 1,rfl,Nat.le_refl _,by simp; omega,by omega,by simp,?_,?_,((Below.refl _ _).alloc (Nat.le_refl _) _).alloc (by simp) _⟩
 ·exact (World.cell?_alloc_lt _ _ _ (by simp)).trans (cell_box _ _ _)
 ·have h := cell_box (w.alloc (Obj.cells #[Value.slice ad len cap] 22)) (.int .i64 2) 3
  rw [World.size_alloc] at h
  exact h

end Go.Proofs.YtieeneaebjihlaaGreatDoor
