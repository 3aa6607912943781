/-
  Texts of mine.
-/
import Derived.Test.YtbbliiafkjipbaaGreatDoorJd9abae9e33
import Derived.Test.YtbbliiafkjipbaaGreatDoorJ16721cdd31
import Derived.Test.YtbbliiafkjipbaaGreatDoorJbb7abe21cb
import Derived.Shelf.Abstract
import Derived.Shelf.RegionOpen
import Derived.WalkKit
import Derived.OwnWalkIn
import Derived.TacticsInMore
import Derived.LoopNIn
import Derived.LoopIn
import Derived.Test.YtbbliiafkjipbaaGreatDoorJ0923b60517
namespace Go.Proofs.YtbbliiafkjipbaaGreatDoor
open Go.RowKit Go.Shelf
set_option linter.unusedVariables false
set_option linter.unusedSimpArgs false
attribute [local go_sem] Oper.semAt_some
section
variable {P : Program} {ops : Array Oper} {Q : Exit → Act → World → Prop} {S : World → Prop}
end
theorem GArr.kept {w w' : World} {g n : Nat} {q : Nat → Rat} {L : Nat} {row : Option Nat} (h : GArr w g n q L) (hg : w.grownBy w' row) (hr : ∀ r,row = some r → ∃ o : Obj,w.heap[r]? = some o ∧ o.isCells = false) : GArr w' g n q L := by
 obtain ⟨el,A,R⟩ := h
 exact ⟨el,⟨fun i hi j hj => cell_kept (A.1 i hi j hj) hg hr,fun i hi j hj => (frozen_kept (A.1 i hi j hj) hg hr).trans (A.2.1 i hi j hj),A.2.2⟩,fun j hj => (R j hj).keep (fun _ _ _ _ hc => cell_kept hc hg hr)⟩
def finsB (K : Nat) : Nat → List (Fin K)
 | 0 => []
 | k + 1 => if h : k < K then finsB K k ++ [⟨k,h⟩] else finsB K k
theorem finsB_succ {K k : Nat} (h : k < K) : finsB K (k + 1) = finsB K k ++ [⟨k,h⟩] := by
 show (if h : k < K then finsB K k ++ [⟨k,h⟩] else finsB K k) = _
 rw [dif_pos h]
theorem finsB_len {K : Nat} : ∀ k,k ≤ K → (finsB K k).length = k
 | 0,_ => rfl
 | k + 1,h => by rw [finsB_succ (by omega),List.length_append,finsB_len k (by omega)]; rfl
def nthB (zs : List Nat) (K x : Nat) : Nat := zs.getD (K - 1 - x) 0
theorem finsB_map (zs : List Nat) : ∀ k,k ≤ zs.length → (finsB zs.length k).map (fun x => nthB zs zs.length x.1) = (zs.drop (zs.length - k)).reverse
 | 0,_ => by rw [Nat.sub_zero,List.drop_length]; rfl
 | k + 1,h => by
  rw [finsB_succ (by omega),List.map_append,finsB_map zs k (by omega)]
  have hk : zs.length - (k + 1) < zs.length := by omega
  rw [List.drop_eq_getElem_cons hk,List.reverse_cons,show zs.length - (k + 1) + 1 = zs.length - k by omega]
  congr 1
  show [nthB zs zs.length k] = _
  unfold nthB
  rw [List.getD_eq_getElem?_getD,List.getElem?_eq_getElem (by omega)]
  simp only [Option.getD_some,List.cons.injEq,and_true]
  congr 1
  omega
theorem finsB_all (zs : List Nat) : (finsB zs.length zs.length).map (fun x => nthB zs zs.length x.1) = zs.reverse := by
 rw [finsB_map zs _ (Nat.le_refl _),Nat.sub_self,List.drop_zero]
def KeepB (Bs b : Nat) (W W' : World) : Prop := ∀ j,W'.cell? ⟨Bs,j,none⟩ = W.cell? ⟨Bs,j,none⟩ ∧ W'.cell? ⟨b,j,none⟩ = W.cell? ⟨b,j,none⟩
theorem KeepB.trans {Bs b : Nat} {A B C : World} (h : KeepB Bs b A B) (k : KeepB Bs b B C) : KeepB Bs b A C := fun j => ⟨(k j).1.trans (h j).1,(k j).2.trans (h j).2⟩
theorem KeepB.of_below {Bs b n0 : Nat} {A B : World} (h : Below n0 A B) (h1 : Bs < n0) (h2 : b < n0) : KeepB Bs b A B := fun j => ⟨h.cell (p := ⟨Bs,j,none⟩) h1,h.cell (p := ⟨b,j,none⟩) h2⟩
theorem keepB_b {Bs b : Nat} {w : World} (h1 : Bs < w.heap.size) (h2 : b < w.heap.size) (W : World) (l : Nat) (o o' : Obj) (hl : w.heap.size ≤ l) (h : W.heap[l]? = some o) (hc : o.isCells = false) (hw : o.isWalk = false) : KeepB Bs b W (W.putObj l o') :=
 KeepB.of_below (belowK_b (Nat.le_refl _) W l o o' hl h hc hw) h1 h2
def backV (zs : List Nat) (K x : Nat) : Array Value := #[.int .i64 ((K - 1 - x : Nat) : Int),.int .i64 ((nthB zs K x : Nat) : Int)]
set_option maxRecDepth 100000 in
set_option maxHeartbeats 4000000 in
theorem back1_in (n l Bs b cap K : Nat) (zs : List Nat) (hn : 1 ≤ n) (hK : K = zs.length) (hlen : K ≤ 1000) (hlc : K ≤ cap) (J Jx : List (Fin K) → World → Prop)
  (W : World) (hY : ∀ pre x W1,J pre W1 → pre.length < K → YieldAt Fence.wide (n - 1) Tryz.prog l (backV zs K x.1) W1 fun e W' =>
   (e = .returned (.bool true) ∧ J (pre ++ [x]) W' ∧ KeepB Bs b W1 W') ∨ (e = .returned (.bool false) ∧ Jx (pre ++ [x]) W'))
  (hcs : W.cell? ⟨Bs,0,none⟩ = some (.slice (some ⟨b,0,none⟩) K cap)) (hce : ∀ j x : Nat,zs[j]? = some x → W.cell? ⟨b,j,none⟩ = some (.int .i64 (x : Int))) (h0 : J [] W) :
  CallsIn Fence.wide n Tryz.prog 100 #[.func (.yield l) #[] #[],.pointer (some ⟨Bs,0,none⟩)] W fun e W' => (∃ v,e = .returned v) ∧
   ((∃ ys,ys = finsB K K ∧ J ys W') ∨ (∃ pre,(∃ k,k ≤ K ∧ pre = finsB K k) ∧ Jx pre W')) := by
 refine callsIn_of_wp Tryz.func100 rfl trivial ?_ rfl
 simp only [Tryz.ntmps100,List.size_toArray,List.length_cons,List.length_nil,Nat.reduceAdd,Nat.reduceSub,Array.replicate_succ,Array.replicate_zero,List.push_toArray,List.append_toArray,List.nil_append,List.cons_append]
 have g0 : IntKind.i64.wrap ((K : Int) - 1) = (K : Int) - 1 := by rw [IntKind.wrap_i64]; omega
 have HK : Hid (K = zs.length) := hK
 clear hK
 gi_wp2
 gi_loopw [3] (fun i wr => ∃ m : Nat,m ≤ K ∧ i = .int .i64 ((m : Int) - 1) ∧ J (finsB K (K - m)) wr ∧ wr.cell? ⟨Bs,0,none⟩ = some (.slice (some ⟨b,0,none⟩) K cap) ∧ Hid (∀ j x : Nat,zs[j]? = some x → wr.cell? ⟨b,j,none⟩ = some (.int .i64 (x : Int)))) (fun i _ => (intOf i + 1).toNat)
 case atStart => exact ⟨K,Nat.le_refl _,rfl,by rw [Nat.sub_self]; exact h0,hcs,hce⟩
 case round =>
  obtain ⟨m,hm,rfl,hJs,cs,ce⟩ := hrel
  by_cases h1 : 0 < m
  ·obtain ⟨i,rfl⟩ : ∃ i,m = i + 1 := ⟨m - 1,by omega⟩
   have ei : (((i + 1 : Nat) : Int) - 1) = (i : Int) := by omega
   rw [ei]
   have hlt : K - (i + 1) < K := by omega
   obtain ⟨fn,tmps,assign,body,hy,hR⟩ := hY _ ⟨K - (i + 1),hlt⟩ wr hJs (by rw [finsB_len _ (by omega)]; exact hlt)
   obtain ⟨z,hz⟩ : ∃ z,zs[i]? = some z := ⟨_,List.getElem?_eq_getElem (by have := HK.out; omega)⟩
   have CE := ce.out i z hz
   have eb : backV zs K (K - (i + 1)) = #[.int .i64 (i : Int),.int .i64 (z : Int)] := by
    unfold backV nthB
    rw [show K - 1 - (K - (i + 1)) = i by omega,List.getD_eq_getElem?_getD,hz]
    rfl
   dsimp only at hy
   rw [eb] at hy
   have c1 : (0 : Int) ≤ (i : Int) := by omega
   have c2 : (i : Int) < (K : Int) := by omega
   have c3 : IntKind.i64.wrap ((i : Int) - 1) = (i : Int) - 1 := by rw [IntKind.wrap_i64]; omega
   clear ei eb
   gi_wp2
   refine hR.mono ?_
   rintro e W' (⟨rfl,hj,hbl⟩ | ⟨rfl,hx⟩)
   ·have cs2 := (hbl 0).1.trans cs
    have ce2 : Hid (∀ j x : Nat,zs[j]? = some x → W'.cell? ⟨b,j,none⟩ = some (.int .i64 (x : Int))) := fun j x hjx => (hbl j).2.trans (ce.out j x hjx)
    gi_wp2
    go_roundw
    case rel => exact ⟨i,by omega,rfl,by rw [show K - i = K - (i + 1) + 1 by omega,finsB_succ hlt]; exact hj,cs2,ce2⟩
    case measure => simp [intOf]
   ·gi_wp2
    refine bodyPost_ret (results_none rfl _ _ _) rfl ?_
    exact ⟨⟨_,rfl⟩,.inr ⟨_,⟨K - (i + 1) + 1,by omega,(finsB_succ hlt).symm⟩,hx⟩⟩
  ·obtain rfl : m = 0 := by omega
   rw [Nat.sub_zero] at hJs
   have c1 : ¬ (0 : Int) ≤ (((0 : Nat) : Int) - 1) := by omega
   gi_wp2
   go_end0
   exact ⟨⟨_,rfl⟩,.inl hJs⟩
theorem back_stops (n Bs b cap K : Nat) (zs : List Nat) (hn : 1 ≤ n) (hK : K = zs.length) (hlen : K ≤ 1000) (hlc : K ≤ cap) (w : World) (hBs : Bs < w.heap.size) (hb : b < w.heap.size)
  (hcs : w.cell? ⟨Bs,0,none⟩ = some (.slice (some ⟨b,0,none⟩) K cap)) (hce : ∀ j x : Nat,zs[j]? = some x → w.cell? ⟨b,j,none⟩ = some (.int .i64 (x : Int))) :
  SeqStopsK Fence.wide n Tryz.prog 100 #[.pointer (some ⟨Bs,0,none⟩)] (fun x : Fin K => backV zs K x.1) (KeepB Bs b) (fun ys => ys = finsB K K) (fun pre => ∃ k,k ≤ K ∧ pre = finsB K k) K w := fun l J Jx W hW hJ hJx hY h0 =>
 back1_in n l Bs b cap K zs hn hK hlen hlc J Jx W hY ((hW.cell (p := ⟨Bs,0,none⟩) hBs).trans hcs) (fun j x hj => (hW.cell (p := ⟨b,j,none⟩) hb).trans (hce j x hj)) h0
theorem cell_boxB (W : World) (v : Value) (t : TypeId) : (W.alloc (.cells #[v] t)).cell? ⟨W.heap.size,0,none⟩ = some v := by
 have h := World.alloc_heap_new W (.cells #[v] t)
 unfold World.cell?
 dsimp only
 rw [h]
 rfl
set_option maxRecDepth 100000 in
theorem back_at (v : Value) (w : World) (ad : Option Addr) (len cap : Nat) (hv : v = .slice ad len cap) :
  Calls Tryz.prog 66 #[v] w fun e w' => ∃ Bs,e = .returned (.func (.func 100) #[] #[.pointer (some ⟨Bs,0,none⟩)]) ∧ w.heap.size ≤ Bs ∧ Bs < w'.heap.size ∧ w'.cell? ⟨Bs,0,none⟩ = some v ∧ Below w.heap.size w w' := by
 subst hv
 go_enter Tryz.func66,Tryz.ntmps66
 go_wp2
 go_ret
 exact ⟨w.heap.size,rfl,Nat.le_refl _,by simp,cell_boxB _ _ _,(Below.refl _ _).alloc (Nat.le_refl _) _⟩

section
variable {W W' : World} {row : Option Nat}
theorem V3.kept11 {R : Nat} {x y z : Value} (h : V3 W R x y z) (hg : W.grownBy W' row) (hr : ∀ r,row = some r → ∃ o : Obj,W.heap[r]? = some o ∧ o.isCells = false) : V3 W' R x y z :=
 ⟨cell_kept h.1 hg hr,cell_kept h.2.1 hg hr,cell_kept h.2.2.1 hg hr,(frozen_kept h.1 hg hr).trans h.2.2.2.1,(frozen_kept h.2.1 hg hr).trans h.2.2.2.2.1,(frozen_kept h.2.2.1 hg hr).trans h.2.2.2.2.2⟩
theorem V1.kept11 {R : Nat} {x : Value} (h : V1 W R x) (hg : W.grownBy W' row) (hr : ∀ r,row = some r → ∃ o : Obj,W.heap[r]? = some o ∧ o.isCells = false) : V1 W' R x :=
 ⟨cell_kept h.1 hg hr,(frozen_kept h.1 hg hr).trans h.2⟩
theorem V3.block11 {R : Nat} {x y z : Value} (h : V3 W R x y z) (hb : W'.heap[R]? = W.heap[R]?) : V3 W' R x y z :=
 ⟨(World.cell?_of_block (a := ⟨R,0,none⟩) hb).trans h.1,(World.cell?_of_block (a := ⟨R,1,none⟩) hb).trans h.2.1,(World.cell?_of_block (a := ⟨R,2,none⟩) hb).trans h.2.2.1,(World.frozen?_of_block (a := ⟨R,0,none⟩) hb).trans h.2.2.2.1,(World.frozen?_of_block (a := ⟨R,1,none⟩) hb).trans h.2.2.2.2.1,(World.frozen?_of_block (a := ⟨R,2,none⟩) hb).trans h.2.2.2.2.2⟩
theorem V1.block11 {R : Nat} {x : Value} (h : V1 W R x) (hb : W'.heap[R]? = W.heap[R]?) : V1 W' R x :=
 ⟨(World.cell?_of_block (a := ⟨R,0,none⟩) hb).trans h.1,(World.frozen?_of_block (a := ⟨R,0,none⟩) hb).trans h.2⟩
end
structure RK11 (B : Nat) (WL W5 W : World) : Prop where
 all : KeepsOthers WL W
 round : KeepsOthers W5 W
 low : Below B W5 W
 base : B ≤ W5.heap.size
theorem RK11.below {B : Nat} {WL W5 W W' : World} (h : RK11 B WL W5 W) (hb : Below W.heap.size W W') : RK11 B WL W5 W' :=
 ⟨h.all.trans (KeepsOthers.of_below hb),h.round.trans (KeepsOthers.of_below hb),h.low.trans (hb.mono (Nat.le_trans h.base h.low.size)),h.base⟩
structure AInv (w WL : World) (E : World → Prop) (Bo g n : Nat) (f : (Nat → Rat) → Nat → Rat) (L : Nat) (zs : List Nat) (K : Nat) (pre : List (Fin K)) (W : World) : Prop where
 env : E W
 vo : V1 W Bo (.slice (some ⟨g,0,none⟩) n n)
 arr : GArr W g n (runB f (pre.map fun x => nthB zs K x.1)) L
 below : Below w.heap.size w W
 others : KeepsOthers WL W
theorem AInv.own {w WL : World} {E : World → Prop} {Bo g n : Nat} {f : (Nat → Rat) → Nat → Rat} {L : Nat} {zs : List Nat} {K : Nat} (hw : w.heap.size ≤ WL.heap.size)
  (hE : ∀ (W W' : World) (row : Option Nat),E W → W.grownBy W' row → (∀ r,row = some r → ∃ o : Obj,W.heap[r]? = some o ∧ o.isCells = false) → E W') : OwnFrom WL.heap.size (AInv w WL E Bo g n f L zs K) := by
 intro pre W W' row h hg hr2
 have hr : ∀ r,row = some r → ∃ o : Obj,W.heap[r]? = some o ∧ o.isCells = false := fun r e => (hr2 r e).2
 obtain ⟨h1,h2,h3,h10,h11⟩ := h
 exact ⟨hE _ _ _ h1 hg hr,h2.kept11 hg hr,h3.kept hg hr,
  h10.grown hg (by have := h10.size; omega) (fun k e => by have := (hr2 k e).1; omega),
  ⟨Nat.le_trans h11.size hg.size,fun k o hk hc => (hg.block k (Array.getElem?_eq_some_iff.1 (h11.same k o hk hc)).1 (fun e => by have := (hr2 k e.symm).1; have := (Array.getElem?_eq_some_iff.1 hk).1; omega)).trans (h11.same k o hk hc)⟩⟩
abbrev put3 (W : World) (g i : Nat) (a b c : Value) : World := ((W.setCell ⟨g,i * 3,none⟩ a).setCell ⟨g,i * 3 + 1,none⟩ b).setCell ⟨g,i * 3 + 2,none⟩ c
theorem put3_block (W : World) (g i k : Nat) (a b c : Value) (h : k ≠ g) : (put3 W g i a b c).heap[k]? = W.heap[k]? :=
 ((Below.heap_setCell _ _ _ _ h).trans (Below.heap_setCell _ _ _ _ h)).trans (Below.heap_setCell _ _ _ _ h)
theorem AInv.put {w WL W5 W : World} {E : World → Prop} {Bo g n Bs b0 i : Nat} {f : (Nat → Rat) → Nat → Rat} {L : Nat} {zs : List Nat} {K : Nat} {pre : List (Fin K)} {x : Fin K}
  (hE2 : ∀ W W' : World,(∀ k,k ≠ g → W'.heap[k]? = W.heap[k]?) → E W → E W')
  (hB : Hid (Bo ≠ g ∧ Bs ≠ g ∧ b0 ≠ g ∧ Bs < WL.heap.size ∧ b0 < WL.heap.size ∧ w.heap.size ≤ g))
  (env : E W) (vo : V1 W Bo (.slice (some ⟨g,0,none⟩) n n)) (arr : GArr W g n (runB f (pre.map fun x => nthB zs K x.1)) L) (BB : Below w.heap.size w W) (rk : RK11 WL.heap.size WL W5 W)
  (hi : nthB zs K x.1 = i) (hin : i < n) {p : Bool} {a b : Option Addr} {n1 c m d : Nat} (hr : RatAt W (.agg #[.bool p,.slice a n1 c,.slice b m d]) (f (runB f (pre.map fun x => nthB zs K x.1)) i) L) :
  (∃ u0 u1 u2,W.cell? ⟨g,i * 3,none⟩ = some u0 ∧ W.cell? ⟨g,i * 3 + 1,none⟩ = some u1 ∧ W.cell? ⟨g,i * 3 + 2,none⟩ = some u2 ∧ W.frozen? ⟨g,i * 3,none⟩ = false ∧ W.frozen? ⟨g,i * 3 + 1,none⟩ = false ∧ W.frozen? ⟨g,i * 3 + 2,none⟩ = false) ∧
  KeepsFrom WL.heap.size W5 (put3 W g i (.bool p) (.slice a n1 c) (.slice b m d)) ∧ KeepB Bs b0 W5 (put3 W g i (.bool p) (.slice a n1 c) (.slice b m d)) ∧
   AInv w WL E Bo g n f L zs K (pre ++ [x]) (put3 W g i (.bool p) (.slice a n1 c) (.slice b m d)) := by
 obtain ⟨b1,b2,b3,b4,b5,b6⟩ := hB
 obtain ⟨u0,u1,u2,c0,c1,c2,f0,f1,f2,A,KQ⟩ := arr.put hin hr
 have hlow := KeepB.of_below (A := W5) (B := W) rk.low b4 b5
 have hKO : KeepsOthers W (put3 W g i (.bool p) (.slice a n1 c) (.slice b m d)) := ((KeepsOthers.setCell _ _ _).trans (KeepsOthers.setCell _ _ _)).trans (KeepsOthers.setCell _ _ _)
 refine ⟨⟨u0,u1,u2,c0,c1,c2,f0,f1,f2⟩,(rk.round.trans hKO).from _,fun j => ⟨?_,?_⟩,?_⟩
 ·exact (World.cell?_of_block (a := ⟨Bs,j,none⟩) (put3_block _ _ _ _ _ _ _ b2)).trans (hlow j).1
 ·exact (World.cell?_of_block (a := ⟨b0,j,none⟩) (put3_block _ _ _ _ _ _ _ b3)).trans (hlow j).2
 ·refine ⟨hE2 _ _ (fun k hk => put3_block _ _ _ _ _ _ _ hk) env,vo.block11 (put3_block _ _ _ _ _ _ _ b1),?_,((BB.setCell b6 _).setCell b6 _).setCell b6 _,rk.all.trans hKO⟩
  rw [List.map_append,List.map_cons,List.map_nil,runB_more,hi]
  exact A
theorem wpListIn_make_full {F : Fence} {n0 : Nat} {P : Program} (w : World) {ops : Array Oper} {rest : List Oper} {o : Oper} {a : Act} {Q : Exit → Act → World → Prop}
  (hg : o.guard = none) (l c : Operand) (t : TypeId) (hop : o.op = Op.makeSlice t l c)
  (base : Nat) (e : TypeId) (i : TypeInfo) (z : Value) (size : Nat) (h1 : P.underlying t = some (.slice e)) (h2 : P.info? e = some i) (h3 : i.zero = some z) (h4 : i.size = size)
  (kl kc : IntKind) (L C : Int) (n : Nat) (hl : a.eval l = .int kl L) (hc : a.eval c = .int kc C) (hL : L = (n : Int)) (hC : C = (n : Int)) (b2 : i.bytes * n ≤ 281474976710656) (b3 : n ≤ maxLen) (b4 : base ≤ w.heap.size)
  (hK : ∀ w',w'.ownsRow base e size (.slice (some ⟨w.heap.size,0,none⟩) n n) n (madeCells z.cells (n * size)).toList → w.grownBy w' none → wpListIn F n0 P ops Q rest (a.put o.dst (.slice (some ⟨w.heap.size,0,none⟩) n n)) w') :
  wpListIn F n0 P ops Q (o :: rest) a w := by
 refine wpListIn_plain hg fun K hK' => ?_
 obtain ⟨w',hrun,r1,r2⟩ := run_make_full (P := P) w base t e i z size h1 h2 h3 h4 kl kc n b2 b3 b4
 subst hL
 subst hC
 unfold Oper.wpIn
 refine ⟨?_,?_⟩
 ·simp [Oper.about,hop]
 ·rw [Oper.semAt_plain F _ _ (by rw [hop]; intro c hc'; cases hc')]
  simp [execOp,hop,hl,hc,hrun,Result.andThen]
  exact hK' _ _ (hK w' r1 r2)
theorem leaves_marksF {F : Fence} {n : Nat} {P : Program} {fn : Func} {tmps : Array Value} {R : Ending → World → Prop} {B : Nat} : ∀ (ds : List Deferred) (W : World),Marks B W ds → B ≤ W.heap.size →
  (∀ W',Below B W W' → (∀ p v,W.cell? p = some v → W'.cell? p = some v ∧ W'.frozen? p = W.frozen? p) → (∃ v,(results fn tmps).run P W' = .ok v W' ∧ R (.returned v) W')) → LeavesInM F n P fn tmps R ds .returning W
 | [],W,_,_,h => h W (Below.refl _ _) (fun _ _ h => ⟨h,rfl⟩)
 | _ :: ds,W,⟨D,e,hB,hD,hn,hs⟩,hl,h => by
  have hb : Below B W (W.putObj D (.deferred none)) := (Below.refl _ _).grown (grownBy_putObj' W D _) hl (fun k e => by cases e; exact hB)
  have hc : ∀ p v,W.cell? p = some v → (W.putObj D (.deferred none)).cell? p = some v ∧ (W.putObj D (.deferred none)).frozen? p = W.frozen? p := fun p v hp => ⟨cell_kept hp (grownBy_putObj' W D _) (fun r e => by cases e; exact ⟨_,hD,rfl⟩),frozen_kept hp (grownBy_putObj' W D _) (fun r e => by cases e; exact ⟨_,hD,rfl⟩)⟩
  refine ⟨by simp,.inl ⟨D,_,by rw [e],run_takeDeferred hD,?_⟩⟩
  refine leaves_marksF ds _ (hs.put fun d hd => e ▸ hn d hd) (Nat.le_trans hl hb.size) fun W' h1 h2 => ?_
  exact h W' (hb.trans h1) (fun p v hp => ⟨(h2 p v (hc p v hp).1).1,(h2 p v (hc p v hp).1).2.trans (hc p v hp).2⟩)
theorem GArr.left {W W' : World} {g n : Nat} {q : Nat → Rat} {L : Nat} (h : GArr W g n q L) (hc : ∀ p v,W.cell? p = some v → W'.cell? p = some v ∧ W'.frozen? p = W.frozen? p) : GArr W' g n q L := by
 obtain ⟨el,A,R⟩ := h
 exact ⟨el,⟨fun i hi j hj => (hc _ _ (A.1 i hi j hj)).1,fun i hi j hj => (hc _ _ (A.1 i hi j hj)).2.trans (A.2.1 i hi j hj),A.2.2⟩,fun j hj => (R j hj).keep (fun _ _ _ _ h => (hc _ _ h).1)⟩
theorem GArr.grow {W : World} {g n : Nat} {q : Nat → Rat} {L M : Nat} (h : GArr W g n q L) (hM : L ≤ M) : GArr W g n q M := let ⟨el,a,b⟩ := h; ⟨el,a,fun j hj => (b j hj).le hM⟩
end Go.Proofs.YtbbliiafkjipbaaGreatDoor
