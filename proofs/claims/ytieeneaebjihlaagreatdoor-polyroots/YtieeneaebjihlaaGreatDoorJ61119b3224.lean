/-
  Texts of mine, joined: what lies beneath the statement.
-/
import Derived.Test.YtieeneaebjihlaaGreatDoorJ0d76181fbf
import Derived.Test.YtieeneaebjihlaaGreatDoorJb7ce933148
import Derived.Test.YtieeneaebjihlaaGreatDoorJ3234f0f596
import Derived.Test.YtieeneaebjihlaaGreatDoorJc0b533a066
import Derived.Test.YtieeneaebjihlaaGreatDoorJ0bdc9dde62
import Derived.Shelf.Abstract
import Derived.Shelf.RegionOpen
import Derived.WalkKit
import Derived.OwnWalkIn
import Derived.TacticsInMore
import Derived.LoopNIn
import Derived.LoopIn
namespace Go.Proofs.YtieeneaebjihlaaGreatDoor
open Go.RowKit
set_option linter.unusedVariables false

section
variable {W W' : World} {row : Option Nat}
theorem keepQ_kept {Q : Value → Prop} (hg : W.grownBy W' row) (hr : ∀ r,row = some r → ∃ o : Obj,W.heap[r]? = some o ∧ o.isCells = false) : KeepQ Q W W' := fun _ _ _ _ h => cell_kept h hg hr
theorem V3.kept {R : Nat} {x y z : Value} (h : V3 W R x y z) (hg : W.grownBy W' row) (hr : ∀ r,row = some r → ∃ o : Obj,W.heap[r]? = some o ∧ o.isCells = false) : V3 W' R x y z :=
 ⟨cell_kept h.1 hg hr,cell_kept h.2.1 hg hr,cell_kept h.2.2.1 hg hr,(frozen_kept h.1 hg hr).trans h.2.2.2.1,(frozen_kept h.2.1 hg hr).trans h.2.2.2.2.1,(frozen_kept h.2.2.1 hg hr).trans h.2.2.2.2.2⟩
theorem V1.kept {R : Nat} {x : Value} (h : V1 W R x) (hg : W.grownBy W' row) (hr : ∀ r,row = some r → ∃ o : Obj,W.heap[r]? = some o ∧ o.isCells = false) : V1 W' R x :=
 ⟨cell_kept h.1 hg hr,(frozen_kept h.1 hg hr).trans h.2⟩
theorem FRow.kept {v : Value} {n : Nat} {q : Nat → Rat} (h : FRow W v n q) (hg : W.grownBy W' row) (hr : ∀ r,row = some r → ∃ o : Obj,W.heap[r]? = some o ∧ o.isCells = false) : FRow W' v n q := by
 obtain ⟨el,⟨ao,c,h1,h2,h3,h4⟩,h5⟩ := h
 refine ⟨el,⟨ao,c,h1,h2,h3,fun h0 => ?_⟩,fun i hi => (h5 i hi).keep (keepQ_kept hg hr)⟩
 obtain ⟨b,off,e,hc⟩ := h4 h0
 exact ⟨b,off,e,fun i hi j hj => cell_kept (hc i hi j hj) hg hr⟩
theorem below_none (hg : W.grownBy W' none) : Below W.heap.size W W' := (Below.refl _ _).grown hg (Nat.le_refl _) (fun k e => by cases e)
theorem ownBlock_cells {B : Nat} {t : TypeId} {s n g : Nat} {v : Value} {us : List Value} (h : W.ownsRow B t s v n us) (hg : v.ownBlock = some g) : ∃ o : Obj,W.heap[g]? = some o ∧ o.isCells = true := by
 rcases h.2 with ⟨rfl,_⟩ | ⟨g',c,cs,rfl,_,hb,_⟩
 ·simp [Value.ownBlock] at hg
 ·simp only [Value.ownBlock,Option.some.injEq] at hg
  subst hg
  exact ⟨_,hb,rfl⟩
theorem FOwn.kept {B : Nat} {v : Value} {n : Nat} {q : Nat → Rat} (h : FOwn B W v n q) (hg : W.grownBy W' row) (hr : ∀ r,row = some r → ∃ o : Obj,W.heap[r]? = some o ∧ o.isCells = false) : FOwn B W' v n q := by
 cases row with
 | none => exact h.below (below_none hg)
 | some r =>
  refine h.far hg (keepQ_kept hg hr) fun g hgo e => ?_
  obtain ⟨us,el,h1,_⟩ := h
  obtain ⟨o,ho,hc⟩ := ownBlock_cells h1 hgo
  obtain ⟨o',ho',hc'⟩ := hr r rfl
  rw [e,ho'] at ho
  cases ho
  rw [hc] at hc'
  cases hc'
theorem FOwn.congr {B : Nat} {v : Value} {n : Nat} {q q' : Nat → Rat} (h : FOwn B W v n q) (hq : ∀ i,i < n → q i = q' i) : FOwn B W v n q' := by
 obtain ⟨us,el,h1,h2,h3,h4⟩ := h
 exact ⟨us,el,h1,h2,h3,fun i hi => hq i hi ▸ h4 i hi⟩
end

theorem getD_app_l (l m : List Nat) (i d : Nat) (h : i < l.length) : (l ++ m).getD i d = l.getD i d := by
 simp only [List.getD_eq_getElem?_getD,List.getElem?_append_left h]
theorem getD_app_r (l m : List Nat) (i d : Nat) (h : l.length ≤ i) : (l ++ m).getD i d = m.getD (i - l.length) d := by
 simp only [List.getD_eq_getElem?_getD,List.getElem?_append_right h]
/-- What the pairs that have come are put together to. -/
def preQ (q : Nat → Rat) (n : Nat) (r : Rat) {K : Nat} (pre : List (Fin K)) (i : Nat) : Rat := halfQ q n r ((pre.map (·.1)).getD i 0)
theorem preQ_more {q : Nat → Rat} {n : Nat} {r : Rat} {K : Nat} {pre : List (Fin K)} {x : Fin K} (i : Nat) (hi : i < pre.length) : preQ q n r pre i = preQ q n r (pre ++ [x]) i := by
 unfold preQ
 rw [List.map_append,getD_app_l _ _ _ _ (by simpa using hi)]
theorem preQ_last {q : Nat → Rat} {n : Nat} {r : Rat} {K : Nat} {pre : List (Fin K)} {x : Fin K} : preQ q n r (pre ++ [x]) pre.length = halfQ q n r x.1 := by
 unfold preQ
 congr 1
 simp [List.getD_eq_getElem?_getD]
theorem fins_at {K : Nat} : ∀ k,k ≤ K → ∀ i,i < k → ((fins K k).map (·.1)).getD i 0 = i
 | 0,_,i,hi => by omega
 | k + 1,h,i,hi => by
  rw [fins_succ (by omega),List.map_append]
  by_cases e : i < k
  ·rw [getD_app_l _ _ _ _ (by rw [List.length_map,fins_len k (by omega)]; exact e)]
   exact fins_at k (by omega) i e
  ·have e2 : i = k := by omega
   subst e2
   rw [getD_app_r _ _ _ _ (by rw [List.length_map,fins_len _ (by omega)]; exact Nat.le_refl _),List.length_map,fins_len _ (by omega)]
   simp
theorem preQ_all {q : Nat → Rat} {n : Nat} {r : Rat} {K : Nat} (i : Nat) (hi : i < K) : preQ q n r (fins K K) i = halfQ q n r i := by
 unfold preQ
 rw [fins_at K (Nat.le_refl _) i hi]
/-- Between two rounds of the range. -/
structure HInv (w WL : World) (Bx Ba Bm Br Bh : Nat) (fa fm px py pz z0 z1 z2 v : Value) (n : Nat) (q : Nat → Rat) (r : Rat) (X : Nat) (K : Nat) (pre : List (Fin K)) (W : World) : Prop where
 vx : V3 W Bx px py pz
 va : V1 W Ba fa
 vm : V1 W Bm fm
 vr : V3 W Br z0 z1 z2
 vh : ∃ ho hc,V1 W Bh (.slice ho pre.length hc) ∧ FOwn WL.heap.size W (.slice ho pre.length hc) pre.length (preQ q n r pre)
 row : FRow W v n q
 num : RatAt W (.agg #[px,py,pz]) r X
 tab : Tab W
 below : Below w.heap.size w W
 others : KeepsOthers WL W
theorem HInv.own {w WL : World} {Bx Ba Bm Br Bh : Nat} {fa fm px py pz z0 z1 z2 v : Value} {n : Nat} {q : Nat → Rat} {r : Rat} {X K : Nat} (hw : w.heap.size ≤ WL.heap.size) : OwnFrom WL.heap.size (HInv w WL Bx Ba Bm Br Bh fa fm px py pz z0 z1 z2 v n q r X K) := by
 intro pre W W' row h hg hr2
 have hr : ∀ r,row = some r → ∃ o : Obj,W.heap[r]? = some o ∧ o.isCells = false := fun r e => (hr2 r e).2
 obtain ⟨h1,h2,h3,h4,⟨ho,hc,h5,h6⟩,h7,h8,h9,h10,h11⟩ := h
 exact ⟨h1.kept hg hr,h2.kept hg hr,h3.kept hg hr,h4.kept hg hr,⟨ho,hc,h5.kept hg hr,h6.kept hg hr⟩,h7.kept hg hr,h8.keep (keepQ_kept hg hr),h9.keep (keepQ_kept hg hr),
  h10.grown hg (by have := h10.size; omega) (fun k e => by have := (hr2 k e).1; omega),
  ⟨Nat.le_trans h11.size hg.size,fun k o hk hc => (hg.block k (Array.getElem?_eq_some_iff.1 (h11.same k o hk hc)).1 (fun e => by have := (hr2 k e.symm).1; have := (Array.getElem?_eq_some_iff.1 hk).1; omega)).trans (h11.same k o hk hc)⟩⟩

/-- What a round has kept so far: W5 is the world at its start, B the heap's size at the range's. -/
structure RK (B : Nat) (WL W5 W : World) : Prop where
 all : KeepsOthers WL W
 round : KeepsOthers W5 W
 low : Below B W5 W
 base : B ≤ W5.heap.size
theorem RK.below {B : Nat} {WL W5 W W' : World} (h : RK B WL W5 W) (hb : Below W.heap.size W W') : RK B WL W5 W' :=
 ⟨h.all.trans (KeepsOthers.of_below hb),h.round.trans (KeepsOthers.of_below hb),h.low.trans (hb.mono (Nat.le_trans h.base h.low.size)),h.base⟩
theorem RK.grown {B : Nat} {WL W5 W W' : World} {row : Option Nat} (h : RK B WL W5 W) (hg : W.grownBy W' row) (hr : ∀ g,row = some g → B ≤ g ∧ ∃ o : Obj,W.heap[g]? = some o ∧ o.isCells = true) : RK B WL W5 W' := by
 have hk : KeepsOthers W W' := KeepsOthers.of_grownBy hg fun j o e ho => by
  obtain ⟨_,o',ho',hc⟩ := hr j e
  rw [ho] at ho'; cases ho'; exact hc
 exact ⟨h.all.trans hk,h.round.trans hk,h.low.grown hg (Nat.le_trans h.base h.low.size) (fun k e => (hr k e).1),h.base⟩
theorem FRow.set1 {W : World} {b off n cc : Nat} {q : Nat → Rat} (h : FRow W (.slice (some ⟨b,off,none⟩) n cc) n q) {R : Nat} {x : Value} (hne : b ≠ R) (hk : KeepQ IsNum W (W.setCell ⟨R,0,none⟩ x)) : FRow (W.setCell ⟨R,0,none⟩ x) (.slice (some ⟨b,off,none⟩) n cc) n q := by
 obtain ⟨el,⟨ao,c,h1,h2,h3,h4⟩,h5⟩ := h
 cases h1
 refine ⟨el,⟨_,cc,rfl,h2,h3,fun h0 => ?_⟩,fun i hi => (h5 i hi).keep hk⟩
 obtain ⟨b',off',e,hc⟩ := h4 h0
 cases e
 exact ⟨b,off,rfl,fun i hi j hj => set_cell_block (hc i hi j hj) hne⟩
/-- How a round ends: the longer row is laid into its box. -/
theorem HInv.put {w WL W5 W : World} {Bx Ba Bm Br Bh Bs Bn b off cc : Nat} {fa fm px py pz z0 z1 z2 : Value} {n : Nat} {q : Nat → Rat} {r : Rat} {X K : Nat} {pre : List (Fin K)} {x : Fin K} {ho g : Option Addr} {m hc c : Nat}
  (hB : Hid (Bx ≠ Bh ∧ Ba ≠ Bh ∧ Bm ≠ Bh ∧ Br ≠ Bh ∧ b ≠ Bh ∧ Bh < WL.heap.size ∧ Bs ≠ Bh ∧ Bn ≠ Bh ∧ Bs < WL.heap.size ∧ Bn < WL.heap.size ∧ w.heap.size ≤ Bh))
  (VX : V3 W Bx px py pz) (VA : V1 W Ba fa) (VM : V1 W Bm fm) (VR : V3 W Br z0 z1 z2) (VH : V1 W Bh (.slice ho m hc)) (O : FOwn WL.heap.size W (.slice g (pre.length + 1) c) (pre.length + 1) (preQ q n r (pre ++ [x])))
  (hv : FRow W (.slice (some ⟨b,off,none⟩) n cc) n q) (hx : RatAt W (.agg #[px,py,pz]) r X) (ht : Tab W) (BB : Below w.heap.size w W) (rk : RK WL.heap.size WL W5 W) :
  KeepsFrom WL.heap.size W5 (W.setCell ⟨Bh,0,none⟩ (.slice g (pre.length + 1) c)) ∧ Keep2 Bs Bn W5 (W.setCell ⟨Bh,0,none⟩ (.slice g (pre.length + 1) c)) ∧
   HInv w WL Bx Ba Bm Br Bh fa fm px py pz z0 z1 z2 (.slice (some ⟨b,off,none⟩) n cc) n q r X K (pre ++ [x]) (W.setCell ⟨Bh,0,none⟩ (.slice g (pre.length + 1) c)) := by
 obtain ⟨b1,b2,b3,b4,b5,b6,b7,b8,b9,b10,b11⟩ := hB
 have hKp := VH.keepJ (.slice g (pre.length + 1) c)
 have hlow := Keep2.of_below rk.low b9 b10
 refine ⟨(rk.round.trans (KeepsOthers.setCell _ _ _)).from _,⟨?_,?_⟩,?_⟩
 ·exact (World.cell?_of_block (a := ⟨Bs,0,none⟩) (Below.heap_setCell _ _ _ _ b7)).trans hlow.1
 ·exact (World.cell?_of_block (a := ⟨Bn,0,none⟩) (Below.heap_setCell _ _ _ _ b8)).trans hlow.2
 ·refine ⟨VX.other1 b1 _,VA.other1 b2 _,VM.other1 b3 _,VR.other1 b4 _,⟨g,c,?_,?_⟩,hv.set1 b5 hKp,hx.keep hKp,ht.keep hKp,BB.setCell b11 _,rk.all.trans (KeepsOthers.setCell _ _ _)⟩
  ·rw [List.length_append]; exact VH.same _
  ·rw [List.length_append]; exact O.other (grown_set1 _ _ _) hKp (fun g hg => by cases hg; exact b6)

theorem V3.low {B R : Nat} {W W' : World} {x y z : Value} (h : V3 W R x y z) (hb : Below B W W') (hlt : R < B) : V3 W' R x y z :=
 ⟨(hb.cell (p := ⟨R,0,none⟩) hlt).trans h.1,(hb.cell (p := ⟨R,1,none⟩) hlt).trans h.2.1,(hb.cell (p := ⟨R,2,none⟩) hlt).trans h.2.2.1,(hb.frozen (p := ⟨R,0,none⟩) hlt).trans h.2.2.2.1,(hb.frozen (p := ⟨R,1,none⟩) hlt).trans h.2.2.2.2.1,(hb.frozen (p := ⟨R,2,none⟩) hlt).trans h.2.2.2.2.2⟩
theorem V1.low {B R : Nat} {W W' : World} {x : Value} (h : V1 W R x) (hb : Below B W W') (hlt : R < B) : V1 W' R x :=
 ⟨(hb.cell (p := ⟨R,0,none⟩) hlt).trans h.1,(hb.frozen (p := ⟨R,0,none⟩) hlt).trans h.2⟩
theorem FRow.low {B b off n cc : Nat} {W W' : World} {q : Nat → Rat} (h : FRow W (.slice (some ⟨b,off,none⟩) n cc) n q) (hb : Below B W W') (hlt : b < B) (hk : KeepQ IsNum W W') : FRow W' (.slice (some ⟨b,off,none⟩) n cc) n q := by
 obtain ⟨el,⟨ao,c,h1,h2,h3,h4⟩,h5⟩ := h
 cases h1
 refine ⟨el,⟨_,cc,rfl,h2,h3,fun h0 => ?_⟩,fun i hi => (h5 i hi).keep hk⟩
 obtain ⟨b',off',e,hc⟩ := h4 h0
 cases e
 exact ⟨b,off,rfl,fun i hi j hj => (hb.cell (p := ⟨b,off + i * 3 + j,none⟩) hlt).trans (hc i hi j hj)⟩
/-- Behind the append: the row that the append has made is laid into its box. -/
theorem HInv.app {w WL W5 W W6 : World} {Bx Ba Bm Br Bh Bs Bn b off cc : Nat} {fa fm px py pz z0 z1 z2 : Value} {n : Nat} {q : Nat → Rat} {r : Rat} {X K : Nat} {pre : List (Fin K)} {x : Fin K} {ho : Option Addr} {hc g5 cap5 : Nat} {us : List Value} {el : Nat → Nat → Value} {x0 x1 x2 : Value}
  (hB : Hid (Bx ≠ Bh ∧ Ba ≠ Bh ∧ Bm ≠ Bh ∧ Br ≠ Bh ∧ b ≠ Bh ∧ Bh < WL.heap.size ∧ Bs ≠ Bh ∧ Bn ≠ Bh ∧ Bs < WL.heap.size ∧ Bn < WL.heap.size ∧ w.heap.size ≤ Bh))
  (hL : Hid (Bx < WL.heap.size ∧ Ba < WL.heap.size ∧ Bm < WL.heap.size ∧ Br < WL.heap.size ∧ b < WL.heap.size))
  (VX : V3 W Bx px py pz) (VA : V1 W Ba fa) (VM : V1 W Bm fm) (VR : V3 W Br z0 z1 z2) (VH : V1 W Bh (.slice ho pre.length hc))
  (hv : FRow W (.slice (some ⟨b,off,none⟩) n cc) n q) (hx : RatAt W (.agg #[px,py,pz]) r X) (ht : Tab W) (BB : Below w.heap.size w W) (rk : RK WL.heap.size WL W5 W)
  (o1 : W.ownsRow WL.heap.size 28 3 (.slice ho pre.length hc) pre.length us) (o3 : ∀ i,i < pre.length → ∀ j,j < 3 → us[i * 3 + j]? = some (el i j)) (o4 : ∀ i,i < pre.length → RepQ W (.agg #[el i 0,el i 1,el i 2]) (preQ q n r pre i))
  (hbq : RepQ W (.agg #[x0,x1,x2]) (halfQ q n r x.1))
  (ho5 : W6.ownsRow WL.heap.size 28 3 (.slice (some ⟨g5,0,none⟩) (pre.length + 1) cap5) (pre.length + 1) (us ++ [x0,x1,x2])) (hg5 : W.grownBy W6 (Value.ownBlock (.slice ho pre.length hc))) (hp5 : PureB IsNum W6 g5) (hk5 : KeepQ IsNum W W6) :
  KeepsFrom WL.heap.size W5 (W6.setCell ⟨Bh,0,none⟩ (.slice (some ⟨g5,0,none⟩) (pre.length + 1) cap5)) ∧ Keep2 Bs Bn W5 (W6.setCell ⟨Bh,0,none⟩ (.slice (some ⟨g5,0,none⟩) (pre.length + 1) cap5)) ∧
   HInv w WL Bx Ba Bm Br Bh fa fm px py pz z0 z1 z2 (.slice (some ⟨b,off,none⟩) n cc) n q r X K (pre ++ [x]) (W6.setCell ⟨Bh,0,none⟩ (.slice (some ⟨g5,0,none⟩) (pre.length + 1) cap5)) := by
 have hsz : WL.heap.size ≤ W.heap.size := Nat.le_trans rk.base rk.low.size
 have low : Below WL.heap.size W W6 := (Below.refl _ _).grown hg5 hsz (fun k e => (o1.lt k e).1)
 have rk6 := rk.grown hg5 (fun g e => ⟨(o1.lt g e).1,ownBlock_cells o1 e⟩)
 have O : FOwn WL.heap.size W6 (.slice (some ⟨g5,0,none⟩) (pre.length + 1) cap5) (pre.length + 1) (preQ q n r (pre ++ [x])) :=
  FOwn.more ho5 hp5 o1.1 o3 (fun i hi => preQ_more (x := x) i hi ▸ o4 i hi) (by rw [preQ_last]; exact hbq) hk5
 have hB2 := hB
 obtain ⟨l1,l2,l3,l4,l5⟩ := hL
 obtain ⟨_,_,_,_,_,b6,_,_,_,_,b11⟩ := hB2
 exact HInv.put hB (VX.low low l1) (VA.low low l2) (VM.low low l3) (VR.low low l4) (VH.low low b6) O (hv.low low l5 hk5) (hx.keep hk5) (ht.keep hk5) (BB.trans (low.mono (by omega))) rk6

end Go.Proofs.YtieeneaebjihlaaGreatDoor

namespace Go.Proofs.YtieeneaebjihlaaGreatDoor
open Go.RowKit Go.Shelf
set_option linter.unusedVariables false
set_option linter.unusedSimpArgs false
attribute [local go_sem] Oper.semAt_some

theorem Marks.below {B : Nat} {W W' : World} {ds : List Deferred} (h : Marks B W ds) (hb : Below W.heap.size W W') : Marks B W' ds := h.others (KeepsOthers.of_below hb)
def lenV : Value → Nat | .slice _ n _ => n | _ => 0
set_option maxRecDepth 100000 in
set_option maxHeartbeats 4000000 in
theorem pvalue_at (v x : Value) (n L X j : Nat) (q : Nat → Rat) (r : Rat) (w : World) (hv : FRow w v n q) (hx : RatAt w x r X) (sq : ∀ i,i < n → qsz (q i) ≤ L) (sx : qsz r ≤ X) (ht : Tab w) (hn : 0 < n) (hnj : n ≤ 2 ^ j) (hn1 : n ≤ 1000) (hS : vsz j L X ≤ 40000) :
  Calls Tryz.prog 72 #[v,x,(.func (.func 65) #[] #[]),(.func (.func 23) #[] #[])] w fun e w' => ∃ y,e = .returned y ∧ RepQ w' y (evN q r n) ∧ Below w.heap.size w w' := by
 refine (callsIn_wide (n := 9)).1 ?_
 obtain ⟨px,ax,nx,cx,bx,mx,dx,rfl⟩ := hx.open
 obtain ⟨ev,hev⟩ : ∃ ev,ev = evN q r n := ⟨_,rfl⟩
 rw [← hev]
 have BB : Below w.heap.size w w := Below.refl _ _
 obtain ⟨W1,hW1,hS1,hL1,VX⟩ := V3.lay w 28 (.bool px) (.slice ax nx cx) (.slice bx mx dx)
 replace BB := BB.trans (hL1.mono BB.size); replace hv := hv.below hL1; replace hx := hx.below hL1; replace ht := ht.below hL1
 obtain ⟨W2,hW2,hS2,hL2,VA⟩ := V1.lay W1 49 (.func (.func 65) #[] #[])
 replace BB := BB.trans (hL2.mono BB.size); replace hv := hv.below hL2; replace hx := hx.below hL2; replace ht := ht.below hL2; replace VX := VX.below hL2
 obtain ⟨W3,hW3,hS3,hL3,VM⟩ := V1.lay W2 49 (.func (.func 23) #[] #[])
 replace BB := BB.trans (hL3.mono BB.size); replace hv := hv.below hL3; replace hx := hx.below hL3; replace ht := ht.below hL3; replace VX := VX.below hL3; replace VA := VA.below hL3
 obtain ⟨W4,hW4,hS4,hL4,VR⟩ := V3.lay W3 28 (.bool false) (.slice none 0 0) (.slice none 0 0)
 replace BB := BB.trans (hL4.mono BB.size); replace hv := hv.below hL4; replace hx := hx.below hL4; replace ht := ht.below hL4; replace VX := VX.below hL4; replace VA := VA.below hL4; replace VM := VM.below hL4
 rw [hS1] at VA; rw [hS2,hS1] at VM; rw [hS3,hS2,hS1] at VR
 clear hL1 hL2 hL3 hL4
 refine callsIn_of_wp_marks Tryz.func72 rfl trivial ?_
 simp only [Tryz.ntmps72,List.size_toArray,List.length_cons,List.length_nil,Nat.reduceAdd,Nat.reduceSub,Array.replicate_succ,Array.replicate_zero,List.push_toArray,List.append_toArray,List.nil_append,List.cons_append]
 gi_wp2
 rw [← hW1,← hW2,← hW3,← hW4]
 clear hW1 hW2 hW3 hW4
 obtain ⟨Bx,hBx⟩ : ∃ B,B = w.heap.size := ⟨_,rfl⟩
 rw [← hBx] at VX VA VM VR ⊢
 obtain ⟨Ba,hBa⟩ : ∃ B,B = Bx + 1 := ⟨_,rfl⟩
 rw [← hBa] at VA VM VR ⊢
 obtain ⟨Bm,hBm⟩ : ∃ B,B = Ba + 1 := ⟨_,rfl⟩
 rw [← hBm] at VM VR ⊢
 obtain ⟨Br,hBr⟩ : ∃ B,B = Bm + 1 := ⟨_,rfl⟩
 rw [← hBr] at VR ⊢
 have HBS : Hid (Bx = w.heap.size ∧ Ba = Bx + 1 ∧ Bm = Ba + 1 ∧ Br = Bm + 1) := ⟨hBx,hBa,hBm,hBr⟩
 clear hBa hBm hBr hS1 hS2 hS3 hS4
 generalize (Value.agg #[Value.bool px,Value.slice ax nx cx,Value.slice bx mx dx]) = t1
 clear hBx
 refine wpIn_loop (fun a W => ∃ (v : Value) (n L X j : Nat) (q : Nat → Rat) (r : Rat) (px : Bool) (ax : Option Addr) (nx cx : Nat) (bx : Option Addr) (mx dx : Nat) (ds : List Deferred) (u9 u10 u11 u12 u13 u14 u15 u16 u17 u18 u19 u20 u21 u22 u23 u24 u25 u26 u27 u28 u29 u30 u31 u32 u33 u34 u35 u36 u37 u38 u39 u40 u41 u42 u43 u44 u45 u46 u47 : Value),a = { tmps := List.toArray (v :: t1 :: (.func (.func 65) #[] #[]) :: (.func (.func 23) #[] #[]) :: undef :: .pointer (some ⟨Bx,0,none⟩) :: .pointer (some ⟨Ba,0,none⟩) :: .pointer (some ⟨Bm,0,none⟩) :: .pointer (some ⟨Br,0,none⟩) :: u9 :: u10 :: u11 :: u12 :: u13 :: u14 :: u15 :: u16 :: u17 :: u18 :: u19 :: u20 :: u21 :: u22 :: u23 :: u24 :: u25 :: u26 :: u27 :: u28 :: u29 :: u30 :: u31 :: u32 :: u33 :: u34 :: u35 :: u36 :: u37 :: u38 :: u39 :: u40 :: u41 :: u42 :: u43 :: u44 :: u45 :: u46 :: u47 :: []),defers := ds } ∧ Marks w.heap.size W ds ∧ V3 W Bx (.bool px) (.slice ax nx cx) (.slice bx mx dx) ∧ V1 W Ba (.func (.func 65) #[] #[]) ∧ V1 W Bm (.func (.func 23) #[] #[]) ∧ V3 W Br (.bool false) (.slice none 0 0) (.slice none 0 0) ∧ FRow W v n q ∧ RatAt W (.agg #[.bool px,.slice ax nx cx,.slice bx mx dx]) r X ∧ Tab W ∧ Below w.heap.size w W ∧ Hid (∀ i,i < n → qsz (q i) ≤ L) ∧ Hid (qsz r ≤ X) ∧ 0 < n ∧ Hid (n ≤ 2 ^ j) ∧ n ≤ 1000 ∧ Hid (vsz j L X ≤ 40000) ∧ Hid (evN q r n = ev)) (fun a _ => lenV (a.tmps.getD 0 undef)) ?_ ?_
 ·exact ⟨v,n,L,X,j,q,r,px,ax,nx,cx,bx,mx,dx,[],undef,undef,undef,undef,undef,undef,undef,undef,undef,undef,undef,undef,undef,undef,undef,undef,undef,undef,undef,undef,undef,undef,undef,undef,undef,undef,undef,undef,undef,undef,undef,undef,undef,undef,undef,undef,undef,undef,undef,rfl,trivial,VX,VA,VM,VR,hv,hx,ht,BB,sq,sx,hn,hnj,hn1,hS,hev.symm⟩
 clear hv hx VX VA VM VR ht BB sq sx hn hnj hn1 hS hev
 rintro a W ⟨v,n,L,X,j,q,r,px,ax,nx,cx,bx,mx,dx,ds,u9,u10,u11,u12,u13,u14,u15,u16,u17,u18,u19,u20,u21,u22,u23,u24,u25,u26,u27,u28,u29,u30,u31,u32,u33,u34,u35,u36,u37,u38,u39,u40,u41,u42,u43,u44,u45,u46,u47,rfl,hMk,VX,VA,VM,VR,hv,hx,ht,BB,sq,sx,hn,hnj,hn1,hS,hev⟩
 obtain ⟨b,off,cc,p1,ao1,m1,d1,bo1,k1,e1,hvv,hcc,-,-⟩ := hv.at 0 hn
 have hcc2 : cc ≤ 9223372036854775807 := by obtain ⟨el,⟨a',c',h1,h2,h3,h4⟩,h5⟩ := hv; rw [hvv] at h1; cases h1; exact h3
 subst hvv
 obtain ⟨WH,hWH,hSH,hLH,VH⟩ := V1.lay W 22 (.slice none 0 0)
 have hWw : w.heap.size ≤ W.heap.size := BB.size
 have hbW0 : b < W.heap.size := by obtain ⟨el,⟨a',c',h1,h2,h3,h4⟩,h5⟩ := hv; cases h1; obtain ⟨b',off',e,hc⟩ := h4 hn; cases e; exact World.block_lt_of_cell? _ _ (hc 0 hn 0 (by omega))
 have hBrW : Br < W.heap.size := VR.lt
 replace BB := BB.trans (hLH.mono BB.size); replace hv := hv.below hLH; replace hx := hx.below hLH; replace ht := ht.below hLH; replace VX := VX.below hLH; replace VA := VA.below hLH; replace VM := VM.below hLH; replace VR := VR.below hLH
 replace hMk := hMk.others (KeepsOthers.of_below hLH)
 obtain ⟨Bh,hBh⟩ : ∃ B,B = W.heap.size := ⟨_,rfl⟩
 rw [← hBh] at VH hSH
 clear hLH
 gi_wp2_with fail
 rw [← hWH,← hBh]
 have HBh : Hid (Bh = W.heap.size) := hBh
 have HSH : Hid (WH.heap.size = Bh + 1) := hSH
 clear hBh hSH
 refine ⟨trivial,(callsIn_wide.2 (chunk_at _ _ _ _ _ rfl)).mono ?_⟩
 rintro e WL ⟨Bs,Bn,rfl,hs1,hs2,hn3,hn4,hcs,hcn,hbc⟩
 gi_wp2_with fail
 clear hWH
 replace BB := BB.trans (hbc.mono BB.size); replace hv := hv.below hbc; replace hx := hx.below hbc; replace ht := ht.below hbc; replace VX := VX.below hbc; replace VA := VA.below hbc; replace VM := VM.below hbc; replace VR := VR.below hbc; replace VH := VH.below hbc
 replace hMk := hMk.others (KeepsOthers.of_below hbc)
 have hbW : b < W.heap.size := hbW0
 have hBh := HBh.out
 have hSH := HSH.out
 have hB : Hid (Bx ≠ Bh ∧ Ba ≠ Bh ∧ Bm ≠ Bh ∧ Br ≠ Bh ∧ b ≠ Bh ∧ Bh < WL.heap.size ∧ Bs ≠ Bh ∧ Bn ≠ Bh ∧ Bs < WL.heap.size ∧ Bn < WL.heap.size ∧ w.heap.size ≤ Bh) := by have := HBS.out; exact ⟨by omega,by omega,by omega,by omega,by omega,by omega,by omega,by omega,by omega,by omega,by omega⟩
 have hL : Hid (Bx < WL.heap.size ∧ Ba < WL.heap.size ∧ Bm < WL.heap.size ∧ Br < WL.heap.size ∧ b < WL.heap.size) := by have := HBS.out; exact ⟨by omega,by omega,by omega,by omega,by omega⟩
 clear hBh hSH hWw hBrW hbW hbW0 hs1 hn3
 obtain ⟨kn,hkn0⟩ : ∃ kn,kn = (n + 1) / 2 := ⟨_,rfl⟩
 refine wpIn_rangeFunc_ownG rfl (by decide) (gf := 100) (lb := #[.pointer (some ⟨Bs,0,none⟩),.pointer (some ⟨Bn,0,none⟩)]) rfl trivial (enters_of Tryz.func100 (by kernel_rfl) rfl)
  (chunk_stops 8 Bs Bn b off n cc kn (by omega) hkn0 hn1 hcc hcc2 WL hs2 hn4 hcs hcn) Keep2.trans (keep2_b hs2 hn4) (Below.refl _ _) (fun _ => rfl)
  (HInv w WL Bx Ba Bm Br Bh (.func (.func 65) #[] #[]) (.func (.func 23) #[] #[]) (.bool px) (.slice ax nx cx) (.slice bx mx dx) (.bool false) (.slice none 0 0) (.slice none 0 0) (.slice (some ⟨b,off,none⟩) n cc) n q r X kn) (fun _ _ _ => False) (HInv.own BB.size) (fun c s W W' row h _ _ => h)
  ⟨VX,VA,VM,VR,⟨none,0,VH,FOwn.nil _ _ _⟩,hv,hx,ht,BB,KeepsOthers.refl _⟩
  (fun x => { tmps := List.toArray ((.slice (some ⟨b,off,none⟩) n cc) :: t1 :: (.func (.func 65) #[] #[]) :: (.func (.func 23) #[] #[]) :: undef :: .pointer (some ⟨Bx,0,none⟩) :: .pointer (some ⟨Ba,0,none⟩) :: .pointer (some ⟨Bm,0,none⟩) :: .pointer (some ⟨Br,0,none⟩) :: .pointer (some ⟨Bh,0,none⟩) :: chunkV b off n x.1 :: (.slice (some ⟨b,off,none⟩) n cc) :: .func (.func 100) #[] #[.pointer (some ⟨Bs,0,none⟩),.pointer (some ⟨Bn,0,none⟩)] :: chunkV b off n x.1 :: u14 :: u15 :: u16 :: u17 :: u18 :: u19 :: u20 :: u21 :: u22 :: u23 :: u24 :: u25 :: u26 :: u27 :: u28 :: u29 :: u30 :: u31 :: u32 :: u33 :: u34 :: u35 :: u36 :: u37 :: u38 :: u39 :: u40 :: u41 :: u42 :: u43 :: u44 :: u45 :: u46 :: u47 :: []),defers := [] }) ?assign ?body ?done ?stop
 case assign =>
  intro l x W K hK
  gi_wp2
  exact hK
 case stop =>
  rintro D c pre W _ _ h _
  exact h.elim
 case body =>
  clear VX VA VM VR VH hv hx ht BB hMk
  rintro l pre ⟨k,hkK⟩ W5 ⟨VX,VA,VM,VR,⟨ho,hc,VH,O⟩,hv,hx,ht,BB,hO⟩ hlt
  have rk : RK WL.heap.size WL W5 W5 := ⟨hO,KeepsOthers.refl _,Below.refl _ _,hO.size⟩
  clear hO
  have hpl : pre.length ≤ 1000 := by omega
  have hkn : k * 2 < n := by omega
  obtain ⟨o,hoo⟩ : ∃ o,o = off + k * 2 * 3 := ⟨_,rfl⟩
  have hLX : L + X ≤ 40000 := Nat.le_trans (vsz_le j L X) hS.out
  by_cases hod : k * 2 + 1 < n
  ·have ecv : chunkV b off n k = .slice (some ⟨b,o,none⟩) 2 2 := by unfold chunkV; rw [show min 2 (n - k * 2) = 2 by omega,hoo]
   obtain ⟨b7,off7,cc7,p10,ao10,m10,d10,bo10,k10,e10,hvv0,hcc0,XC0,Hi0⟩ := hv.at (k * 2) hkn
   cases hvv0
   rw [← hoo] at XC0
   obtain ⟨b8,off8,cc8,p11,ao11,m11,d11,bo11,k11,e11,hvv1,hcc1,XC1,Hi1⟩ := hv.at (k * 2 + 1) hod
   cases hvv1
   rw [show off + (k * 2 + 1) * 3 = o + 3 by omega] at XC1
   have s0 := sq.out (k * 2) hkn
   have s1 := sq.out (k * 2 + 1) hod
   have s2 := sx.out
   have HHQ : Hid (halfQ q n r k = q (k * 2) + q (k * 2 + 1) * r) := by show halfQ q n r k = _; unfold halfQ; rw [if_pos (by omega),Nat.mul_comm 2 k]
   have HOO : Hid (o = off + k * 2 * 3) := hoo
   clear hoo hkn0
   dsimp only
   rw [ecv]
   clear ecv
   gi_wp2_with fail
   refine region_until_in (by rintro ⟨_,_,h⟩; exact h) (by kernel_rfl) 13 #[true,true,true,true,true,true,true,true,true,true,true,true,true,false,false] (fun aF lsd a' w' => ∃ vu0 vu1 vu2 vu3 vu4 vu5 vu6 vu7 vu8 vu9 vu10 vu11 vu12 : Value,a' = ((((((((((((aF.put (some 17) vu0).put (some 18) vu1).put (some 19) vu2).put (some 20) vu3).put (some 21) vu4).put (some 22) vu5).put (some 23) vu6).put (some 24) vu7).put (some 25) vu8).put (some 26) vu9).put (some 27) vu10).put (some 28) vu11).put (some 29) vu12 ∧ Below W5.heap.size W5 w' ∧ (lsd.getD 0 false = true → vu0 = .slice ho pre.length hc) ∧ (lsd.getD 1 false = true → vu1 = .func (.func 65) #[] #[]) ∧ (lsd.getD 2 false = true → vu2 = .slice (some ⟨b,o,none⟩) 2 2) ∧ (lsd.getD 3 false = true → vu3 = .pointer (some ⟨b,o,none⟩)) ∧ (lsd.getD 4 false = true → vu4 = .agg #[.bool p10,.slice ao10 m10 d10,.slice bo10 k10 e10]) ∧ (lsd.getD 5 false = true → vu5 = .func (.func 23) #[] #[]) ∧ (lsd.getD 6 false = true → vu6 = .slice (some ⟨b,o,none⟩) 2 2) ∧ (lsd.getD 7 false = true → vu7 = .pointer (some ⟨b,o + 3,none⟩)) ∧ (lsd.getD 8 false = true → vu8 = .agg #[.bool p11,.slice ao11 m11 d11,.slice bo11 k11 e11]) ∧ (lsd.getD 9 false = true → vu9 = .agg #[.bool px,.slice ax nx cx,.slice bx mx dx]) ∧ (lsd.getD 10 false = true → RepQ w' vu10 (q (k * 2 + 1) * r)) ∧ (lsd.getD 11 false = true → RepQ w' vu11 (q (k * 2) + q (k * 2 + 1) * r)) ∧ (lsd.getD 12 false = true → BuiltQ W5.heap.size w' vu12 (q (k * 2) + q (k * 2 + 1) * r))) (by kernel_rfl) (by decide) (by kernel_rfl) (by rfl) (by kernel_rfl) ?_ ?_ ?_
   ·exact ⟨_,_,_,_,_,_,_,_,_,_,_,_,_,by simp only [Act.put,xL4,xL5,xL6]; rfl,(Below.refl _ _).drew,fun h => absurd h (fun h => mark_none h),fun h => absurd h (fun h => mark_none h),fun h => absurd h (fun h => mark_none h),fun h => absurd h (fun h => mark_none h),fun h => absurd h (fun h => mark_none h),fun h => absurd h (fun h => mark_none h),fun h => absurd h (fun h => mark_none h),fun h => absurd h (fun h => mark_none h),fun h => absurd h (fun h => mark_none h),fun h => absurd h (fun h => mark_none h),fun h => absurd h (fun h => mark_none h),fun h => absurd h (fun h => mark_none h),fun h => absurd h (fun h => mark_none h)⟩
   ·rintro lsd au wn iu hszu ⟨vu0,vu1,vu2,vu3,vu4,vu5,vu6,vu7,vu8,vu9,vu10,vu11,vu12,rfl,hbu,fu0,fu1,fu2,fu3,fu4,fu5,fu6,fu7,fu8,fu9,fu10,fu11,fu12⟩ himu hru
    rcases (show iu = 0 ∨ iu = 1 ∨ iu = 2 ∨ iu = 3 ∨ iu = 4 ∨ iu = 5 ∨ iu = 6 ∨ iu = 7 ∨ iu = 8 ∨ iu = 9 ∨ iu = 10 ∨ iu = 11 ∨ iu = 12 by omega) with rfl | rfl | rfl | rfl | rfl | rfl | rfl | rfl | rfl | rfl | rfl | rfl | rfl
    ·refine wpOp_shut (by rfl) (fun K hK => ?_)
     simp only [Act.put,xL4,xL5,xL6]
     obtain ⟨VH_0,VH_1⟩ := VH.below hbu
     go_simp
     exact hK.out _ _ ⟨(.slice ho pre.length hc),vu1,vu2,vu3,vu4,vu5,vu6,vu7,vu8,vu9,vu10,vu11,vu12,by simp only [Act.put,xL4,xL5,xL6],hbu,fun _ => rfl,fun h => fu1 (mark_of (by decide) h),fun h => fu2 (mark_of (by decide) h),fun h => fu3 (mark_of (by decide) h),fun h => fu4 (mark_of (by decide) h),fun h => fu5 (mark_of (by decide) h),fun h => fu6 (mark_of (by decide) h),fun h => fu7 (mark_of (by decide) h),fun h => fu8 (mark_of (by decide) h),fun h => fu9 (mark_of (by decide) h),fun h => fu10 (mark_of (by decide) h),fun h => fu11 (mark_of (by decide) h),fun h => fu12 (mark_of (by decide) h)⟩
    ·refine wpOp_shut (by rfl) (fun K hK => ?_)
     simp only [Act.put,xL4,xL5,xL6]
     obtain ⟨VA_0,VA_1⟩ := VA.below hbu
     go_simp
     exact hK.out _ _ ⟨vu0,(.func (.func 65) #[] #[]),vu2,vu3,vu4,vu5,vu6,vu7,vu8,vu9,vu10,vu11,vu12,by simp only [Act.put,xL4,xL5,xL6],hbu,fun h => fu0 (mark_of (by decide) h),fun _ => rfl,fun h => fu2 (mark_of (by decide) h),fun h => fu3 (mark_of (by decide) h),fun h => fu4 (mark_of (by decide) h),fun h => fu5 (mark_of (by decide) h),fun h => fu6 (mark_of (by decide) h),fun h => fu7 (mark_of (by decide) h),fun h => fu8 (mark_of (by decide) h),fun h => fu9 (mark_of (by decide) h),fun h => fu10 (mark_of (by decide) h),fun h => fu11 (mark_of (by decide) h),fun h => fu12 (mark_of (by decide) h)⟩
    ·refine wpOp_shut (by rfl) (fun K hK => ?_)
     simp only [Act.put,xL4,xL5,xL6]
     go_simp
     exact hK.out _ _ ⟨vu0,vu1,(.slice (some ⟨b,o,none⟩) 2 2),vu3,vu4,vu5,vu6,vu7,vu8,vu9,vu10,vu11,vu12,by simp only [Act.put,xL4,xL5,xL6],hbu,fun h => fu0 (mark_of (by decide) h),fun h => fu1 (mark_of (by decide) h),fun _ => rfl,fun h => fu3 (mark_of (by decide) h),fun h => fu4 (mark_of (by decide) h),fun h => fu5 (mark_of (by decide) h),fun h => fu6 (mark_of (by decide) h),fun h => fu7 (mark_of (by decide) h),fun h => fu8 (mark_of (by decide) h),fun h => fu9 (mark_of (by decide) h),fun h => fu10 (mark_of (by decide) h),fun h => fu11 (mark_of (by decide) h),fun h => fu12 (mark_of (by decide) h)⟩
    ·have eu2 := fu2 (dep_of 2 hru rfl (by kernel_rfl))
     replace eu2 := eu2.symm
     subst eu2
     refine wpOp_shut (by rfl) (fun K hK => ?_)
     simp only [Act.put,xL4,xL5,xL6]
     go_simp
     exact hK.out _ _ ⟨vu0,vu1,(.slice (some ⟨b,o,none⟩) 2 2),(.pointer (some ⟨b,o,none⟩)),vu4,vu5,vu6,vu7,vu8,vu9,vu10,vu11,vu12,by simp only [Act.put,xL4,xL5,xL6],hbu,fun h => fu0 (mark_of (by decide) h),fun h => fu1 (mark_of (by decide) h),fun _ => rfl,fun _ => rfl,fun h => fu4 (mark_of (by decide) h),fun h => fu5 (mark_of (by decide) h),fun h => fu6 (mark_of (by decide) h),fun h => fu7 (mark_of (by decide) h),fun h => fu8 (mark_of (by decide) h),fun h => fu9 (mark_of (by decide) h),fun h => fu10 (mark_of (by decide) h),fun h => fu11 (mark_of (by decide) h),fun h => fu12 (mark_of (by decide) h)⟩
    ·have eu3 := fu3 (dep_of 3 hru rfl (by kernel_rfl))
     replace eu3 := eu3.symm
     subst eu3
     refine wpOp_shut (by rfl) (fun K hK => ?_)
     simp only [Act.put,xL4,xL5,xL6]
     obtain ⟨XC0_0,XC0_1,XC0_2⟩ := XC0.below hbu
     go_simp
     exact hK.out _ _ ⟨vu0,vu1,vu2,(.pointer (some ⟨b,o,none⟩)),(.agg #[.bool p10,.slice ao10 m10 d10,.slice bo10 k10 e10]),vu5,vu6,vu7,vu8,vu9,vu10,vu11,vu12,by simp only [Act.put,xL4,xL5,xL6],hbu,fun h => fu0 (mark_of (by decide) h),fun h => fu1 (mark_of (by decide) h),fun h => fu2 (mark_of (by decide) h),fun _ => rfl,fun _ => rfl,fun h => fu5 (mark_of (by decide) h),fun h => fu6 (mark_of (by decide) h),fun h => fu7 (mark_of (by decide) h),fun h => fu8 (mark_of (by decide) h),fun h => fu9 (mark_of (by decide) h),fun h => fu10 (mark_of (by decide) h),fun h => fu11 (mark_of (by decide) h),fun h => fu12 (mark_of (by decide) h)⟩
    ·refine wpOp_shut (by rfl) (fun K hK => ?_)
     simp only [Act.put,xL4,xL5,xL6]
     obtain ⟨VM_0,VM_1⟩ := VM.below hbu
     go_simp
     exact hK.out _ _ ⟨vu0,vu1,vu2,vu3,vu4,(.func (.func 23) #[] #[]),vu6,vu7,vu8,vu9,vu10,vu11,vu12,by simp only [Act.put,xL4,xL5,xL6],hbu,fun h => fu0 (mark_of (by decide) h),fun h => fu1 (mark_of (by decide) h),fun h => fu2 (mark_of (by decide) h),fun h => fu3 (mark_of (by decide) h),fun h => fu4 (mark_of (by decide) h),fun _ => rfl,fun h => fu6 (mark_of (by decide) h),fun h => fu7 (mark_of (by decide) h),fun h => fu8 (mark_of (by decide) h),fun h => fu9 (mark_of (by decide) h),fun h => fu10 (mark_of (by decide) h),fun h => fu11 (mark_of (by decide) h),fun h => fu12 (mark_of (by decide) h)⟩
    ·refine wpOp_shut (by rfl) (fun K hK => ?_)
     simp only [Act.put,xL4,xL5,xL6]
     go_simp
     exact hK.out _ _ ⟨vu0,vu1,vu2,vu3,vu4,vu5,(.slice (some ⟨b,o,none⟩) 2 2),vu7,vu8,vu9,vu10,vu11,vu12,by simp only [Act.put,xL4,xL5,xL6],hbu,fun h => fu0 (mark_of (by decide) h),fun h => fu1 (mark_of (by decide) h),fun h => fu2 (mark_of (by decide) h),fun h => fu3 (mark_of (by decide) h),fun h => fu4 (mark_of (by decide) h),fun h => fu5 (mark_of (by decide) h),fun _ => rfl,fun h => fu7 (mark_of (by decide) h),fun h => fu8 (mark_of (by decide) h),fun h => fu9 (mark_of (by decide) h),fun h => fu10 (mark_of (by decide) h),fun h => fu11 (mark_of (by decide) h),fun h => fu12 (mark_of (by decide) h)⟩
    ·have eu6 := fu6 (dep_of 6 hru rfl (by kernel_rfl))
     replace eu6 := eu6.symm
     subst eu6
     refine wpOp_shut (by rfl) (fun K hK => ?_)
     simp only [Act.put,xL4,xL5,xL6]
     go_simp
     exact hK.out _ _ ⟨vu0,vu1,vu2,vu3,vu4,vu5,(.slice (some ⟨b,o,none⟩) 2 2),(.pointer (some ⟨b,o + 3,none⟩)),vu8,vu9,vu10,vu11,vu12,by simp only [Act.put,xL4,xL5,xL6],hbu,fun h => fu0 (mark_of (by decide) h),fun h => fu1 (mark_of (by decide) h),fun h => fu2 (mark_of (by decide) h),fun h => fu3 (mark_of (by decide) h),fun h => fu4 (mark_of (by decide) h),fun h => fu5 (mark_of (by decide) h),fun _ => rfl,fun _ => rfl,fun h => fu8 (mark_of (by decide) h),fun h => fu9 (mark_of (by decide) h),fun h => fu10 (mark_of (by decide) h),fun h => fu11 (mark_of (by decide) h),fun h => fu12 (mark_of (by decide) h)⟩
    ·have eu7 := fu7 (dep_of 7 hru rfl (by kernel_rfl))
     replace eu7 := eu7.symm
     subst eu7
     refine wpOp_shut (by rfl) (fun K hK => ?_)
     simp only [Act.put,xL4,xL5,xL6]
     obtain ⟨XC1_0,XC1_1,XC1_2⟩ := XC1.below hbu
     go_simp
     exact hK.out _ _ ⟨vu0,vu1,vu2,vu3,vu4,vu5,vu6,(.pointer (some ⟨b,o + 3,none⟩)),(.agg #[.bool p11,.slice ao11 m11 d11,.slice bo11 k11 e11]),vu9,vu10,vu11,vu12,by simp only [Act.put,xL4,xL5,xL6],hbu,fun h => fu0 (mark_of (by decide) h),fun h => fu1 (mark_of (by decide) h),fun h => fu2 (mark_of (by decide) h),fun h => fu3 (mark_of (by decide) h),fun h => fu4 (mark_of (by decide) h),fun h => fu5 (mark_of (by decide) h),fun h => fu6 (mark_of (by decide) h),fun _ => rfl,fun _ => rfl,fun h => fu9 (mark_of (by decide) h),fun h => fu10 (mark_of (by decide) h),fun h => fu11 (mark_of (by decide) h),fun h => fu12 (mark_of (by decide) h)⟩
    ·refine wpOp_shut (by rfl) (fun K hK => ?_)
     simp only [Act.put,xL4,xL5,xL6]
     obtain ⟨VX_0,VX_1,VX_2,VX_3,VX_4,VX_5⟩ := VX.below hbu
     go_simp
     exact hK.out _ _ ⟨vu0,vu1,vu2,vu3,vu4,vu5,vu6,vu7,vu8,(.agg #[.bool px,.slice ax nx cx,.slice bx mx dx]),vu10,vu11,vu12,by simp only [Act.put,xL4,xL5,xL6],hbu,fun h => fu0 (mark_of (by decide) h),fun h => fu1 (mark_of (by decide) h),fun h => fu2 (mark_of (by decide) h),fun h => fu3 (mark_of (by decide) h),fun h => fu4 (mark_of (by decide) h),fun h => fu5 (mark_of (by decide) h),fun h => fu6 (mark_of (by decide) h),fun h => fu7 (mark_of (by decide) h),fun h => fu8 (mark_of (by decide) h),fun _ => rfl,fun h => fu10 (mark_of (by decide) h),fun h => fu11 (mark_of (by decide) h),fun h => fu12 (mark_of (by decide) h)⟩
    ·have eu5 := fu5 (dep_of 5 hru rfl (by kernel_rfl))
     have eu8 := fu8 (dep_of 8 hru rfl (by kernel_rfl))
     have eu9 := fu9 (dep_of 9 hru rfl (by kernel_rfl))
     replace eu5 := eu5.symm
     subst eu5
     replace eu8 := eu8.symm
     subst eu8
     replace eu9 := eu9.symm
     subst eu9
     refine wpOp_shut (by rfl) (fun K hK => ?_)
     simp only [Act.put,xL4,xL5,xL6]
     have hx := hx.below hbu
     have ht := ht.below hbu
     have Hi1 := Hi1.below hbu
     go_simp
     refine (qmul_at _ _ (q (k * 2 + 1)) r (L + X + 1) _ (Hi1.at _ (by omega)) (hx.le (by omega)) (by omega) (by omega) ht).mono ?_
     rintro eu wx ⟨r3,rfl,h10,bu⟩
     go_wp2_with fail
     have hbu2 := hbu.trans (bu.mono hbu.size)
     exact hK.out _ _ ⟨vu0,vu1,vu2,vu3,vu4,(.func (.func 23) #[] #[]),vu6,vu7,(.agg #[.bool p11,.slice ao11 m11 d11,.slice bo11 k11 e11]),(.agg #[.bool px,.slice ax nx cx,.slice bx mx dx]),_,vu11,vu12,by simp only [Act.put,xL4,xL5,xL6],hbu2,fun h => fu0 (mark_of (by decide) h),fun h => fu1 (mark_of (by decide) h),fun h => fu2 (mark_of (by decide) h),fun h => fu3 (mark_of (by decide) h),fun h => fu4 (mark_of (by decide) h),fun _ => rfl,fun h => fu6 (mark_of (by decide) h),fun h => fu7 (mark_of (by decide) h),fun _ => rfl,fun _ => rfl,fun _ => h10,fun h => (fu11 (mark_of (by decide) h)).below bu,fun h => (fu12 (mark_of (by decide) h)).below bu⟩
    ·have eu1 := fu1 (dep_of 1 hru rfl (by kernel_rfl))
     have eu4 := fu4 (dep_of 4 hru rfl (by kernel_rfl))
     replace eu1 := eu1.symm
     subst eu1
     replace eu4 := eu4.symm
     subst eu4
     have h10 := fu10 (dep_of 10 hru rfl (by kernel_rfl))
     refine wpOp_shut (by rfl) (fun K hK => ?_)
     simp only [Act.put,xL4,xL5,xL6]
     have ht := ht.below hbu
     have Hi0 := Hi0.below hbu
     go_simp
     refine (qadd_at _ _ (q (k * 2)) (q (k * 2 + 1) * r) (L + X + 1) _ (Hi0.at _ (by omega)) (h10.at _ (Nat.le_trans (qsz_mul _ _ s1 s2) (by omega))) (by omega) (by omega) ht).mono ?_
     rintro eu wx ⟨r3,rfl,h11,bu⟩
     go_wp2_with fail
     have hbu2 := hbu.trans (bu.mono hbu.size)
     exact hK.out _ _ ⟨vu0,(.func (.func 65) #[] #[]),vu2,vu3,(.agg #[.bool p10,.slice ao10 m10 d10,.slice bo10 k10 e10]),vu5,vu6,vu7,vu8,vu9,vu10,_,vu12,by simp only [Act.put,xL4,xL5,xL6],hbu2,fun h => fu0 (mark_of (by decide) h),fun _ => rfl,fun h => fu2 (mark_of (by decide) h),fun h => fu3 (mark_of (by decide) h),fun _ => rfl,fun h => fu5 (mark_of (by decide) h),fun h => fu6 (mark_of (by decide) h),fun h => fu7 (mark_of (by decide) h),fun h => fu8 (mark_of (by decide) h),fun h => fu9 (mark_of (by decide) h),fun h => (fu10 (mark_of (by decide) h)).below bu,fun _ => h11,fun h => (fu12 (mark_of (by decide) h)).below bu⟩
    ·have h11 := fu11 (dep_of 11 hru rfl (by kernel_rfl))
     obtain ⟨pB,aB,nB,cB,bB,mB,dB,rfl⟩ := h11.open
     refine wpOp_shut (by rfl) (fun K hK => ?_)
     simp only [Act.put,xL4,xL5,xL6]
     go_simp
     obtain ⟨wx,hWx,hSx,bu,VXu⟩ := V3.lay wn 28 (.bool pB) (.slice aB nB cB) (.slice bB mB dB)
     rw [← hWx]
     have hbu2 := hbu.trans (bu.mono hbu.size)
     exact hK.out _ _ ⟨vu0,vu1,vu2,vu3,vu4,vu5,vu6,vu7,vu8,vu9,vu10,(.agg #[.bool pB,.slice aB nB cB,.slice bB mB dB]),_,by simp only [Act.put,xL4,xL5,xL6],hbu2,fun h => fu0 (mark_of (by decide) h),fun h => fu1 (mark_of (by decide) h),fun h => fu2 (mark_of (by decide) h),fun h => fu3 (mark_of (by decide) h),fun h => fu4 (mark_of (by decide) h),fun h => fu5 (mark_of (by decide) h),fun h => fu6 (mark_of (by decide) h),fun h => fu7 (mark_of (by decide) h),fun h => fu8 (mark_of (by decide) h),fun h => fu9 (mark_of (by decide) h),fun h => (fu10 (mark_of (by decide) h)).below bu,fun h => (fu11 (mark_of (by decide) h)).below bu,fun _ => ⟨_,pB,aB,nB,cB,bB,mB,dB,rfl,hbu.size,VXu,h11.below bu⟩⟩
   rintro au Wu1 ⟨vu0,vu1,vu2,vu3,vu4,vu5,vu6,vu7,vu8,vu9,vu10,vu11,vu12,rfl,hbu,fu0,fu1,fu2,fu3,fu4,fu5,fu6,fu7,fu8,fu9,fu10,fu11,fu12⟩
   have eu0 := (fu0 rfl).symm
   subst eu0
   have eu1 := (fu1 rfl).symm
   subst eu1
   have eu2 := (fu2 rfl).symm
   subst eu2
   have eu3 := (fu3 rfl).symm
   subst eu3
   have eu4 := (fu4 rfl).symm
   subst eu4
   have eu5 := (fu5 rfl).symm
   subst eu5
   have eu6 := (fu6 rfl).symm
   subst eu6
   have eu7 := (fu7 rfl).symm
   subst eu7
   have eu8 := (fu8 rfl).symm
   subst eu8
   have eu9 := (fu9 rfl).symm
   subst eu9
   have h10 := fu10 rfl
   have h11 := fu11 rfl
   obtain ⟨RB12,p3,a3,n3,c3,bo3,m3,d3,rfl,hRB12,VB12,hbq⟩ := fu12 rfl
   clear fu0 fu1 fu2 fu3 fu4 fu5 fu6 fu7 fu8 fu9 fu10 fu11 fu12
   have hlVX : Bx < W5.heap.size := VX.lt
   have hlVA : Ba < W5.heap.size := VA.lt
   have hlVM : Bm < W5.heap.size := VM.lt
   have hlVR : Br < W5.heap.size := VR.lt
   have hlVH : Bh < W5.heap.size := VH.lt
   have hlXC0 : b < W5.heap.size := XC0.lt
   have hlXC1 : b < W5.heap.size := XC1.lt
   replace hv := hv.below hbu
   replace hx := hx.below hbu
   replace ht := ht.below hbu
   replace O := O.below hbu
   replace rk := rk.below hbu
   replace Hi0 := Hi0.below hbu
   replace Hi1 := Hi1.below hbu
   replace VX := VX.below hbu
   replace VA := VA.below hbu
   replace VM := VM.below hbu
   replace VR := VR.below hbu
   replace VH := VH.below hbu
   replace XC0 := XC0.below hbu
   replace XC1 := XC1.below hbu
   replace BB := BB.trans (hbu.mono BB.size)
   clear hbu
   simp only [Act.put,xL4,xL5,xL6]
   refine xR [13] (h := ?_)
   refine AllReadyH.cons (by rfl) (fun K hK => ?_) AllReadyH.nil
   rw [← HHQ.out] at hbq
   obtain ⟨us,el',o1,o2,o3,o4⟩ := O
   have HO3 : Hid (∀ i',i' < pre.length → ∀ j,j < 3 → us[i' * 3 + j]? = some (el' i' j)) := o3
   have HO4 : Hid (∀ i',i' < pre.length → RepQ Wu1 (.agg #[el' i' 0,el' i' 1,el' i' 2]) (preQ q n r pre i')) := o4
   have hPO : Hid (∀ g0,Value.ownBlock (.slice ho pre.length hc) = some g0 → PureB IsNum Wu1 g0) := o2
   clear o2 o3 o4
   have hWb9 : WL.heap.size ≤ Wu1.heap.size := Nat.le_trans rk.base rk.low.size
   refine step_append_pure (Q' := IsNum) (by rfl) _ _ _ (by rfl) WL.heap.size 28 (.agg #[.bool false,.slice none 0 0,.slice none 0 0]) 3 56 Tryz.underlying22 info_wrat (by rfl) (by omega) (.slice ho pre.length hc) (by rfl) pre.length us o1 hPO.out ⟨RB12,0,none⟩ 1 (by rfl) [.bool p3,.slice a3 n3 c3,.slice bo3 m3 d3] rfl (news_v3 VB12) (by simp [Value.oneCell']) (by simp [num_slice,num_bool]) (by simp [Value.cells,num_slice,num_bool]) (by omega) (by omega) hWb9 ?_
   intro g5 cap5 w5 ho5 hg5 hat5 hp5 hk5
   have VH5 : V1 w5 Bh (.slice ho pre.length hc) := VH.low ((Below.refl _ _).grown hg5 hWb9 (fun k e => (o1.lt k e).1)) (by have := hB.out; omega)
   have FIN := HInv.app (x := ⟨k,hkK⟩) hB hL VX VA VM VR VH hv hx ht BB rk o1 HO3.out HO4.out hbq ho5 hg5 hp5 hk5
   clear VX VA VM VR VH hv hx ht BB rk o1 HO3 HO4 hPO hbq ho5 hg5 hp5 hk5 hat5 VB12
   refine hK.out _ _ trivial (fun _ => ?_)
   clear hK K
   simp only [Act.put,xL4,xL5,xL6]
   refine xR [14] (h := ?_)
   refine AllReadyH.cons (by rfl) (fun K hK => ?_) AllReadyH.nil
   obtain ⟨vh1,vh2⟩ := VH5
   go_simp
   refine hK.out _ _ trivial (fun _ => ?_)
   clear hK K
   simp only [Act.put,xL4,xL5,xL6]
   refine wpAnyH_done (by kernel_rfl) ?_ _
   exact FIN
  ·have ecv : chunkV b off n k = .slice (some ⟨b,o,none⟩) 1 1 := by unfold chunkV; rw [show min 2 (n - k * 2) = 1 by omega,hoo]
   obtain ⟨b7,off7,cc7,p10,ao10,m10,d10,bo10,k10,e10,hvv0,hcc0,XC0,Hi0⟩ := hv.at (k * 2) hkn
   cases hvv0
   rw [← hoo] at XC0
   have s0 := sq.out (k * 2) hkn
   have HHQ : Hid (halfQ q n r k = q (k * 2)) := by show halfQ q n r k = _; unfold halfQ; rw [if_neg (by omega),Nat.mul_comm 2 k]
   have HOO : Hid (o = off + k * 2 * 3) := hoo
   clear hoo hkn0
   dsimp only
   rw [ecv]
   clear ecv
   gi_wp2_with fail
   refine region_until_in (by rintro ⟨_,_,h⟩; exact h) (by kernel_rfl) 5 #[true,true,true,true,true,false,false] (fun aF lsd a' w' => ∃ vu0 vu1 vu2 vu3 vu4 : Value,a' = ((((aF.put (some 31) vu0).put (some 32) vu1).put (some 33) vu2).put (some 34) vu3).put (some 35) vu4 ∧ Below W5.heap.size W5 w' ∧ (lsd.getD 0 false = true → vu0 = .slice ho pre.length hc) ∧ (lsd.getD 1 false = true → vu1 = .slice (some ⟨b,o,none⟩) 1 1) ∧ (lsd.getD 2 false = true → vu2 = .pointer (some ⟨b,o,none⟩)) ∧ (lsd.getD 3 false = true → vu3 = .agg #[.bool p10,.slice ao10 m10 d10,.slice bo10 k10 e10]) ∧ (lsd.getD 4 false = true → BuiltQ W5.heap.size w' vu4 (q (k * 2)))) (by kernel_rfl) (by decide) (by kernel_rfl) (by rfl) (by kernel_rfl) ?_ ?_ ?_
   ·exact ⟨_,_,_,_,_,by simp only [Act.put,xL4,xL5,xL6]; rfl,(Below.refl _ _).drew,fun h => absurd h (fun h => mark_none h),fun h => absurd h (fun h => mark_none h),fun h => absurd h (fun h => mark_none h),fun h => absurd h (fun h => mark_none h),fun h => absurd h (fun h => mark_none h)⟩
   ·rintro lsd au wn iu hszu ⟨vu0,vu1,vu2,vu3,vu4,rfl,hbu,fu0,fu1,fu2,fu3,fu4⟩ himu hru
    rcases (show iu = 0 ∨ iu = 1 ∨ iu = 2 ∨ iu = 3 ∨ iu = 4 by omega) with rfl | rfl | rfl | rfl | rfl
    ·refine wpOp_shut (by rfl) (fun K hK => ?_)
     simp only [Act.put,xL4,xL5,xL6]
     obtain ⟨VH_0,VH_1⟩ := VH.below hbu
     go_simp
     exact hK.out _ _ ⟨(.slice ho pre.length hc),vu1,vu2,vu3,vu4,by simp only [Act.put,xL4,xL5,xL6],hbu,fun _ => rfl,fun h => fu1 (mark_of (by decide) h),fun h => fu2 (mark_of (by decide) h),fun h => fu3 (mark_of (by decide) h),fun h => fu4 (mark_of (by decide) h)⟩
    ·refine wpOp_shut (by rfl) (fun K hK => ?_)
     simp only [Act.put,xL4,xL5,xL6]
     go_simp
     exact hK.out _ _ ⟨vu0,(.slice (some ⟨b,o,none⟩) 1 1),vu2,vu3,vu4,by simp only [Act.put,xL4,xL5,xL6],hbu,fun h => fu0 (mark_of (by decide) h),fun _ => rfl,fun h => fu2 (mark_of (by decide) h),fun h => fu3 (mark_of (by decide) h),fun h => fu4 (mark_of (by decide) h)⟩
    ·have eu1 := fu1 (dep_of 1 hru rfl (by kernel_rfl))
     replace eu1 := eu1.symm
     subst eu1
     refine wpOp_shut (by rfl) (fun K hK => ?_)
     simp only [Act.put,xL4,xL5,xL6]
     go_simp
     exact hK.out _ _ ⟨vu0,(.slice (some ⟨b,o,none⟩) 1 1),(.pointer (some ⟨b,o,none⟩)),vu3,vu4,by simp only [Act.put,xL4,xL5,xL6],hbu,fun h => fu0 (mark_of (by decide) h),fun _ => rfl,fun _ => rfl,fun h => fu3 (mark_of (by decide) h),fun h => fu4 (mark_of (by decide) h)⟩
    ·have eu2 := fu2 (dep_of 2 hru rfl (by kernel_rfl))
     replace eu2 := eu2.symm
     subst eu2
     refine wpOp_shut (by rfl) (fun K hK => ?_)
     simp only [Act.put,xL4,xL5,xL6]
     obtain ⟨XC0_0,XC0_1,XC0_2⟩ := XC0.below hbu
     go_simp
     exact hK.out _ _ ⟨vu0,vu1,(.pointer (some ⟨b,o,none⟩)),(.agg #[.bool p10,.slice ao10 m10 d10,.slice bo10 k10 e10]),vu4,by simp only [Act.put,xL4,xL5,xL6],hbu,fun h => fu0 (mark_of (by decide) h),fun h => fu1 (mark_of (by decide) h),fun _ => rfl,fun _ => rfl,fun h => fu4 (mark_of (by decide) h)⟩
    ·have eu3 := fu3 (dep_of 3 hru rfl (by kernel_rfl))
     replace eu3 := eu3.symm
     subst eu3
     refine wpOp_shut (by rfl) (fun K hK => ?_)
     simp only [Act.put,xL4,xL5,xL6]
     go_simp
     obtain ⟨wx,hWx,hSx,bu,VXu⟩ := V3.lay wn 28 (.bool p10) (.slice ao10 m10 d10) (.slice bo10 k10 e10)
     rw [← hWx]
     have hbu2 := hbu.trans (bu.mono hbu.size)
     exact hK.out _ _ ⟨vu0,vu1,vu2,(.agg #[.bool p10,.slice ao10 m10 d10,.slice bo10 k10 e10]),_,by simp only [Act.put,xL4,xL5,xL6],hbu2,fun h => fu0 (mark_of (by decide) h),fun h => fu1 (mark_of (by decide) h),fun h => fu2 (mark_of (by decide) h),fun _ => rfl,fun _ => ⟨_,_,_,_,_,_,_,_,rfl,hbu.size,VXu,(Hi0.below hbu).below bu⟩⟩
   rintro au Wu1 ⟨vu0,vu1,vu2,vu3,vu4,rfl,hbu,fu0,fu1,fu2,fu3,fu4⟩
   have eu0 := (fu0 rfl).symm
   subst eu0
   have eu1 := (fu1 rfl).symm
   subst eu1
   have eu2 := (fu2 rfl).symm
   subst eu2
   have eu3 := (fu3 rfl).symm
   subst eu3
   obtain ⟨RB4,p3,a3,n3,c3,bo3,m3,d3,rfl,hRB4,VB4,hbq⟩ := fu4 rfl
   clear fu0 fu1 fu2 fu3 fu4
   have hlVX : Bx < W5.heap.size := VX.lt
   have hlVA : Ba < W5.heap.size := VA.lt
   have hlVM : Bm < W5.heap.size := VM.lt
   have hlVR : Br < W5.heap.size := VR.lt
   have hlVH : Bh < W5.heap.size := VH.lt
   have hlXC0 : b < W5.heap.size := XC0.lt
   replace hv := hv.below hbu
   replace hx := hx.below hbu
   replace ht := ht.below hbu
   replace O := O.below hbu
   replace rk := rk.below hbu
   replace Hi0 := Hi0.below hbu
   replace VX := VX.below hbu
   replace VA := VA.below hbu
   replace VM := VM.below hbu
   replace VR := VR.below hbu
   replace VH := VH.below hbu
   replace XC0 := XC0.below hbu
   replace BB := BB.trans (hbu.mono BB.size)
   clear hbu
   simp only [Act.put,xL4,xL5,xL6]
   refine xR [5] (h := ?_)
   refine AllReadyH.cons (by rfl) (fun K hK => ?_) AllReadyH.nil
   rw [← HHQ.out] at hbq
   obtain ⟨us,el',o1,o2,o3,o4⟩ := O
   have HO3 : Hid (∀ i',i' < pre.length → ∀ j,j < 3 → us[i' * 3 + j]? = some (el' i' j)) := o3
   have HO4 : Hid (∀ i',i' < pre.length → RepQ Wu1 (.agg #[el' i' 0,el' i' 1,el' i' 2]) (preQ q n r pre i')) := o4
   have hPO : Hid (∀ g0,Value.ownBlock (.slice ho pre.length hc) = some g0 → PureB IsNum Wu1 g0) := o2
   clear o2 o3 o4
   have hWb9 : WL.heap.size ≤ Wu1.heap.size := Nat.le_trans rk.base rk.low.size
   refine step_append_pure (Q' := IsNum) (by rfl) _ _ _ (by rfl) WL.heap.size 28 (.agg #[.bool false,.slice none 0 0,.slice none 0 0]) 3 56 Tryz.underlying22 info_wrat (by rfl) (by omega) (.slice ho pre.length hc) (by rfl) pre.length us o1 hPO.out ⟨RB4,0,none⟩ 1 (by rfl) [.bool p3,.slice a3 n3 c3,.slice bo3 m3 d3] rfl (news_v3 VB4) (by simp [Value.oneCell']) (by simp [num_slice,num_bool]) (by simp [Value.cells,num_slice,num_bool]) (by omega) (by omega) hWb9 ?_
   intro g5 cap5 w5 ho5 hg5 hat5 hp5 hk5
   have VH5 : V1 w5 Bh (.slice ho pre.length hc) := VH.low ((Below.refl _ _).grown hg5 hWb9 (fun k e => (o1.lt k e).1)) (by have := hB.out; omega)
   have FIN := HInv.app (x := ⟨k,hkK⟩) hB hL VX VA VM VR VH hv hx ht BB rk o1 HO3.out HO4.out hbq ho5 hg5 hp5 hk5
   clear VX VA VM VR VH hv hx ht BB rk o1 HO3 HO4 hPO hbq ho5 hg5 hp5 hk5 hat5 VB4
   refine hK.out _ _ trivial (fun _ => ?_)
   clear hK K
   simp only [Act.put,xL4,xL5,xL6]
   refine xR [6] (h := ?_)
   refine AllReadyH.cons (by rfl) (fun K hK => ?_) AllReadyH.nil
   obtain ⟨vh1,vh2⟩ := VH5
   go_simp
   refine hK.out _ _ trivial (fun _ => ?_)
   clear hK K
   simp only [Act.put,xL4,xL5,xL6]
   refine wpAnyH_done (by kernel_rfl) ?_ _
   exact FIN
 case done =>
  clear VX VA VM VR VH hv hx ht BB
  rintro D ys W5 hD rfl ⟨VX,VA,VM,VR,⟨ho,hc,VH,O⟩,hv,hx,ht,BB,hO⟩ hKD
  clear hv
  rw [fins_len kn (Nat.le_refl _)] at VH O
  replace O := O.congr (q' := halfQ q n r) (fun i hi => preQ_all i hi)
  replace hMk : Marks w.heap.size W5 ({ target := .collected D,args := #[] } :: ds) := ⟨D,rfl,Nat.le_trans (by have := hB.out; omega) hD,hKD,hMk.lt D hD,hMk.others hO⟩
  clear hKD hO
  have szH := halfQ_sz sq.out sx.out
  rw [← hkn0] at szH
  obtain ⟨VH1,VH2⟩ := id VH
  by_cases h1 : kn = 1
  ·subst h1
   obtain ⟨b9,off9,cc9,p9,ao9,m9,d9,bo9,k9,e9,hvv9,hcc9,XC9,Hi9⟩ := O.row.at 0 (by omega)
   cases hvv9
   simp only [Nat.zero_mul,Nat.add_zero] at XC9
   obtain ⟨x9a,x9b,x9c⟩ := id XC9
   obtain ⟨r1,r2,r3,r4,r5,r6⟩ := id VR
   have hn2 : evN q r n = halfQ q n r 0 := by rw [← evN_half q n r,← hkn0,evN_one]
   clear hkn0
   have BBn := below_store3 (R := Br) BB (by have := HBS.out; omega) (.bool p9) (.slice ao9 m9 d9) (.slice bo9 k9 e9)
   have Hi9n := Hi9.keep (VR.keepJ (.bool p9) (.slice ao9 m9 d9) (.slice bo9 k9 e9))
   have VRn := VR.same (.bool p9) (.slice ao9 m9 d9) (.slice bo9 k9 e9)
   gi_wp2_with fail
   refine leaves_marks (B := w.heap.size) _ _ (hMk.others (((KeepsOthers.setCell _ _ _).trans (KeepsOthers.setCell _ _ _)).trans (KeepsOthers.setCell _ _ _))) BBn.size ?_
   intro W' hb hcl
   obtain ⟨q1,q2,q3,_,_,_⟩ := VRn
   replace q1 := hcl _ _ q1
   replace q2 := hcl _ _ q2
   replace q3 := hcl _ _ q3
   refine ⟨.agg #[.bool p9,.slice ao9 m9 d9,.slice bo9 k9 e9],by simp [results,go_sem,q1,q2,q3],_,rfl,?_,BBn.trans hb⟩
   rw [← hev.out,hn2]
   exact Hi9n.keep (fun b o v _ h => hcl _ _ h)
  ·have hK2 : 2 ≤ kn := by omega
   have hKn : kn < n := by omega
   have hev2 : evN (halfQ q n r) (r * r) kn = ev := by rw [hkn0,evN_half]; exact hev.out
   obtain ⟨j',rfl⟩ : ∃ j',j = j' + 1 := by
    cases j with
    | zero => have := hnj.out; simp at this; omega
    | succ j' => exact ⟨j',rfl⟩
   have hKj : kn ≤ 2 ^ j' := by have := hnj.out; rw [Nat.pow_succ] at this; omega
   have s2 := sx.out
   have hS2 : vsz j' (2 * L + X + 2) (2 * X + 1) ≤ 40000 := hS.out
   have hLX : (2 * L + X + 2) + (2 * X + 1) ≤ 40000 := Nat.le_trans (vsz_le _ _ _) hS2
   have HK : Hid (kn = (n + 1) / 2) := hkn0
   have HS2 : Hid (vsz j' (2 * L + X + 2) (2 * X + 1) ≤ 40000) := hS2
   have HEV : Hid (evN (halfQ q n r) (r * r) kn = ev) := hev2
   have h1i : ¬ (kn : Int) = 1 := by omega
   have e1_ : ((kn : Int) == 1) = false := by simp; omega
   clear hkn0 hS2 hev2 hev hS hnj
   gi_wp2_with fail
   (try rw [e1_])
   refine wpIn_wide.2 ?_
   refine wp_region_until 5 #[true,true,true,true,true,false,false] (fun aF lsd a' w' => ∃ vu0 vu1 vu2 vu3 vu4 : Value,a' = ((((aF.put (some 43) vu0).put (some 44) vu1).put (some 45) vu2).put (some 46) vu3).put (some 47) vu4 ∧ Below W5.heap.size W5 w' ∧ (lsd.getD 0 false = true → vu0 = .slice ho kn hc) ∧ (lsd.getD 1 false = true → vu1 = .func (.func 23) #[] #[]) ∧ (lsd.getD 2 false = true → vu2 = .agg #[.bool px,.slice ax nx cx,.slice bx mx dx]) ∧ (lsd.getD 3 false = true → vu3 = .agg #[.bool px,.slice ax nx cx,.slice bx mx dx]) ∧ (lsd.getD 4 false = true → RepQ w' vu4 (r * r))) (by kernel_rfl) (by decide) (by kernel_rfl) (by rfl) (by kernel_rfl) ?_ ?_ ?_
   ·exact ⟨_,_,_,_,_,by simp only [Act.put,xL4,xL5,xL6]; rfl,(Below.refl _ _).drew,fun h => absurd h (fun h => mark_none h),fun h => absurd h (fun h => mark_none h),fun h => absurd h (fun h => mark_none h),fun h => absurd h (fun h => mark_none h),fun h => absurd h (fun h => mark_none h)⟩
   ·rintro lsd au wn iu hszu ⟨vu0,vu1,vu2,vu3,vu4,rfl,hbu,fu0,fu1,fu2,fu3,fu4⟩ himu hru
    rcases (show iu = 0 ∨ iu = 1 ∨ iu = 2 ∨ iu = 3 ∨ iu = 4 by omega) with rfl | rfl | rfl | rfl | rfl
    ·refine wpOp_shut (by rfl) (fun K hK => ?_)
     simp only [Act.put,xL4,xL5,xL6]
     obtain ⟨VH_0,VH_1⟩ := VH.below hbu
     go_simp
     exact hK.out _ _ ⟨(.slice ho kn hc),vu1,vu2,vu3,vu4,by simp only [Act.put,xL4,xL5,xL6],hbu,fun _ => rfl,fun h => fu1 (mark_of (by decide) h),fun h => fu2 (mark_of (by decide) h),fun h => fu3 (mark_of (by decide) h),fun h => fu4 (mark_of (by decide) h)⟩
    ·refine wpOp_shut (by rfl) (fun K hK => ?_)
     simp only [Act.put,xL4,xL5,xL6]
     obtain ⟨VM_0,VM_1⟩ := VM.below hbu
     go_simp
     exact hK.out _ _ ⟨vu0,(.func (.func 23) #[] #[]),vu2,vu3,vu4,by simp only [Act.put,xL4,xL5,xL6],hbu,fun h => fu0 (mark_of (by decide) h),fun _ => rfl,fun h => fu2 (mark_of (by decide) h),fun h => fu3 (mark_of (by decide) h),fun h => fu4 (mark_of (by decide) h)⟩
    ·refine wpOp_shut (by rfl) (fun K hK => ?_)
     simp only [Act.put,xL4,xL5,xL6]
     obtain ⟨VX_0,VX_1,VX_2,VX_3,VX_4,VX_5⟩ := VX.below hbu
     go_simp
     exact hK.out _ _ ⟨vu0,vu1,(.agg #[.bool px,.slice ax nx cx,.slice bx mx dx]),vu3,vu4,by simp only [Act.put,xL4,xL5,xL6],hbu,fun h => fu0 (mark_of (by decide) h),fun h => fu1 (mark_of (by decide) h),fun _ => rfl,fun h => fu3 (mark_of (by decide) h),fun h => fu4 (mark_of (by decide) h)⟩
    ·refine wpOp_shut (by rfl) (fun K hK => ?_)
     simp only [Act.put,xL4,xL5,xL6]
     obtain ⟨VX_0,VX_1,VX_2,VX_3,VX_4,VX_5⟩ := VX.below hbu
     go_simp
     exact hK.out _ _ ⟨vu0,vu1,vu2,(.agg #[.bool px,.slice ax nx cx,.slice bx mx dx]),vu4,by simp only [Act.put,xL4,xL5,xL6],hbu,fun h => fu0 (mark_of (by decide) h),fun h => fu1 (mark_of (by decide) h),fun h => fu2 (mark_of (by decide) h),fun _ => rfl,fun h => fu4 (mark_of (by decide) h)⟩
    ·have eu1 := fu1 (dep_of 1 hru rfl (by kernel_rfl))
     have eu2 := fu2 (dep_of 2 hru rfl (by kernel_rfl))
     have eu3 := fu3 (dep_of 3 hru rfl (by kernel_rfl))
     replace eu1 := eu1.symm
     subst eu1
     replace eu2 := eu2.symm
     subst eu2
     replace eu3 := eu3.symm
     subst eu3
     refine wpOp_shut (by rfl) (fun K hK => ?_)
     simp only [Act.put,xL4,xL5,xL6]
     have hx := hx.below hbu
     have ht := ht.below hbu
     go_simp
     refine (qmul_at _ _ r r (X + 1) _ (hx.le (by omega)) (hx.le (by omega)) (by omega) (by omega) ht).mono ?_
     rintro eu wx ⟨r3,rfl,h4,bu⟩
     go_wp2_with fail
     have hbu2 := hbu.trans (bu.mono hbu.size)
     exact hK.out _ _ ⟨vu0,(.func (.func 23) #[] #[]),(.agg #[.bool px,.slice ax nx cx,.slice bx mx dx]),(.agg #[.bool px,.slice ax nx cx,.slice bx mx dx]),_,by simp only [Act.put,xL4,xL5,xL6],hbu2,fun h => fu0 (mark_of (by decide) h),fun _ => rfl,fun _ => rfl,fun _ => rfl,fun _ => h4⟩
   rintro au Wu1 ⟨vu0,vu1,vu2,vu3,vu4,rfl,hbu,fu0,fu1,fu2,fu3,fu4⟩
   have eu0 := (fu0 rfl).symm
   subst eu0
   have eu1 := (fu1 rfl).symm
   subst eu1
   have eu2 := (fu2 rfl).symm
   subst eu2
   have eu3 := (fu3 rfl).symm
   subst eu3
   have h4 := fu4 rfl
   clear fu0 fu1 fu2 fu3 fu4
   have hlVX : Bx < W5.heap.size := VX.lt
   have hlVA : Ba < W5.heap.size := VA.lt
   have hlVM : Bm < W5.heap.size := VM.lt
   have hlVR : Br < W5.heap.size := VR.lt
   have hlVH : Bh < W5.heap.size := VH.lt
   replace hx := hx.below hbu
   replace ht := ht.below hbu
   replace O := O.below hbu
   replace hMk := hMk.below hbu
   replace VX := VX.below hbu
   replace VA := VA.below hbu
   replace VM := VM.below hbu
   replace VR := VR.below hbu
   replace VH := VH.below hbu
   replace BB := BB.trans (hbu.mono BB.size)
   clear hbu
   simp only [Act.put,xL4,xL5,xL6]
   refine xR [5] (h := ?_)
   refine AllReadyH.cons (by rfl) (fun K hK => ?_) AllReadyH.nil
   go_simp
   refine hK.out _ _ trivial (fun _ => ?_)
   clear hK K
   simp only [Act.put,xL4,xL5,xL6]
   refine xR [6] (h := ?_)
   refine AllReadyH.cons (by rfl) (fun K hK => ?_) AllReadyH.nil
   obtain ⟨p9,ao9,m9,d9,bo9,k9,e9,rfl⟩ := h4.open
   skip
   have hb_ := hB.out
   have hbs_ := HBS.out
   have hl_ := hL.out
   have hKp := VX.keepJ (.bool p9) (.slice ao9 m9 d9) (.slice bo9 k9 e9)
   have VXn := VX.same (.bool p9) (.slice ao9 m9 d9) (.slice bo9 k9 e9)
   have VAn := VA.other3 (R := Bx) (by omega) (.bool p9) (.slice ao9 m9 d9) (.slice bo9 k9 e9)
   have VMn := VM.other3 (R := Bx) (by omega) (.bool p9) (.slice ao9 m9 d9) (.slice bo9 k9 e9)
   have VRn := VR.other3 (R := Bx) (by omega) (.bool p9) (.slice ao9 m9 d9) (.slice bo9 k9 e9)
   have On := (O.other (grown_set3 Wu1 Bx (.bool p9) (.slice ao9 m9 d9) (.slice bo9 k9 e9)) hKp (fun g hg => by cases hg; omega)).row
   have hxn := (h4.keep hKp).at (2 * X + 1) (Nat.le_trans (qsz_mul _ _ s2 s2) (by omega))
   have htn := ht.keep hKp
   have BBn := below_store3 (R := Bx) BB (by omega) (.bool p9) (.slice ao9 m9 d9) (.slice bo9 k9 e9)
   have hMkn := hMk.others (((KeepsOthers.setCell Wu1 ⟨Bx,0,none⟩ (.bool p9)).trans (KeepsOthers.setCell _ ⟨Bx,1,none⟩ (.slice ao9 m9 d9))).trans (KeepsOthers.setCell _ ⟨Bx,2,none⟩ (.slice bo9 k9 e9)))
   clear hb_ hbs_ hl_
   obtain ⟨x1,x2,x3,x4,x5,x6⟩ := VX
   go_simp
   clear x1 x2 x3 x4 x5 x6
   refine hK.out _ _ trivial (fun _ => ?_)
   clear hK K
   simp only [Act.put,xL4,xL5,xL6]
   refine wpAnyH_done (by kernel_rfl) ?_ _
   exact ⟨⟨.slice ho kn hc,kn,2 * L + X + 2,2 * X + 1,j',halfQ q n r,r * r,p9,ao9,m9,d9,bo9,k9,e9,_,_,_,_,_,_,_,_,_,_,_,_,_,_,_,_,_,_,_,_,_,_,_,_,_,_,_,_,_,_,_,_,_,_,_,_,_,_,_,_,rfl,hMkn,VXn,VAn,VMn,VRn,On,hxn,htn,BBn,szH,(Nat.le_trans (qsz_mul _ _ s2 s2) (by omega) : qsz (r * r) ≤ 2 * X + 1),by omega,hKj,by omega,HS2.out,HEV.out⟩,by show kn < n; exact hKn⟩

end Go.Proofs.YtieeneaebjihlaaGreatDoor

namespace Go.Proofs.YtieeneaebjihlaaGreatDoor
open Go.RowKit
set_option linter.unusedVariables false
set_option linter.unusedSimpArgs false

theorem evN_trim (q : Nat → Rat) (x : Rat) : ∀ n,evN q x (trimN q n) = evN q x n
 | 0 => rfl
 | n + 1 => by
  by_cases h : q n = 0
  ·rw [show trimN q (n + 1) = trimN q n by simp [trimN,h],evN_trim q x n]
   show _ = evN q x n + q n * x ^ n
   rw [h,Rat.zero_mul,Rat.add_zero]
  ·rw [show trimN q (n + 1) = n + 1 by simp [trimN,h]]


set_option maxRecDepth 20000 in
set_option maxHeartbeats 4000000 in
theorem peval_raw (v x : Value) (n L X j : Nat) (q : Nat → Rat) (r : Rat) (w : World) (hv : QRow w v n q L) (hx : RatAt w x r X) (ht : Tab w) (hL : 1 ≤ L) (hX : 1 ≤ X) (hnj : n ≤ 2 ^ j) (hn1 : n ≤ 1000) (hS : vsz j L X ≤ 40000) :
  Calls Tryz.prog 56 #[v,x] w fun e w' => ∃ y,e = .returned y ∧ RepQ w' y (evN q r n) ∧ Below w.heap.size w w' := by
 have sq : ∀ i,i < n → qsz (q i) ≤ L := fun i hi => hv.sz hL i hi
 have sx := hx.qsz hX
 obtain ⟨px,ax,nx,cx,bx,mx,dx,rfl⟩ := hx.open
 have hL1 : L ≤ 40000 := Nat.le_trans (Nat.le_trans (Nat.le_add_right L X) (vsz_le j L X)) hS
 have BB : Below w.heap.size w w := Below.refl _ _
 obtain ⟨Wb0,hW0,hS0,hL0,VX⟩ := V3.lay w 28 (.bool px) (.slice ax nx cx) (.slice bx mx dx)
 replace hv := hv.below hL0
 replace hx := hx.below hL0
 replace ht := ht.below hL0
 replace BB := BB.trans (hL0.mono BB.size)
 clear hL0
 obtain ⟨Wb1,hW1,hS1,hL1,VR⟩ := V3.lay Wb0 28 (.bool false) (.slice none 0 0) (.slice none 0 0)
 rw [hS0] at VR hS1
 replace hv := hv.below hL1
 replace hx := hx.below hL1
 replace ht := ht.below hL1
 replace VX := VX.below hL1
 replace BB := BB.trans (hL1.mono BB.size)
 clear hL1
 go_enter Tryz.func56,Tryz.ntmps56
 go_wp2_with fail
 rw [← hW0]
 rw [← hW1]
 clear hW0 hW1 hS0 hS1
 refine (pclean_at _ n q L _ hv ht (by omega) hL (by omega)).mono ?_
 rintro e w1 ⟨rr,rfl,FN,b1⟩
 replace hv := hv.below b1
 replace hx := hx.below b1
 replace ht := ht.below b1
 replace VX := VX.below b1
 replace VR := VR.below b1
 replace BB := BB.trans (b1.mono BB.size)
 clear b1
 clear hv
 have FR := FN.1
 clear FN
 have hle := trimN_le q n
 have HT : Hid (evN q r (trimN q n) = evN q r n) := evN_trim q r n
 obtain ⟨m,hm⟩ : ∃ m,m = trimN q n := ⟨_,rfl⟩
 rw [← hm] at FR hle HT
 clear hm
 obtain ⟨av,cv,rfl⟩ := FR.open
 by_cases h0 : m = 0
 ·subst h0
  go_wp2_with fail
  refine (qzero_at _).mono ?_
  rintro e w2 ⟨rs,rfl,hr,b2⟩
  replace hx := hx.below b2
  replace ht := ht.below b2
  replace FR := FR.below b2
  replace VX := VX.below b2
  replace VR := VR.below b2
  replace BB := BB.trans (b2.mono BB.size)
  clear b2
  obtain ⟨p3,a3,n3,c3,bo3,m3,d3,rfl⟩ := hr.open
  clear FR hx ht
  have hKp := VR.keepJ (.bool p3) (.slice a3 n3 c3) (.slice bo3 m3 d3)
  have hr_n := hr.keep hKp
  have BB_n := below_store3 (R := w.heap.size + 1) BB (by omega) (.bool p3) (.slice a3 n3 c3) (.slice bo3 m3 d3)
  clear hKp
  obtain ⟨q1,q2,q3,q4,q5,q6⟩ := id VR
  go_wp2
  (try simp only [Exit.inBlock,Exit.then])
  refine bodyPost_ret (v := .agg #[.bool p3,.slice a3 n3 c3,.slice bo3 m3 d3]) (by simp [results,go_sem,q1,q2,q3]) rfl ?_
  exact ⟨_,rfl,by rw [← HT.out]; exact hr_n,BB_n⟩
 ·have h0i : ¬ (m : Int) = 0 := by omega
  obtain ⟨VX_0,VX_1,VX_2,VX_3,VX_4,VX_5⟩ := id VX
  go_wp2_with fail
  clear VX_0 VX_1 VX_2 VX_3 VX_4 VX_5
  refine (pvalue_at _ _ m L X j q r _ FR hx (fun i hi => sq i (by omega)) sx ht (by omega) (by omega) (by omega) hS).mono ?_
  rintro e w2 ⟨rs,rfl,hr,b2⟩
  replace hx := hx.below b2
  replace ht := ht.below b2
  replace FR := FR.below b2
  replace VX := VX.below b2
  replace VR := VR.below b2
  replace BB := BB.trans (b2.mono BB.size)
  clear b2
  obtain ⟨p3,a3,n3,c3,bo3,m3,d3,rfl⟩ := hr.open
  clear FR hx ht
  have hKp := VR.keepJ (.bool p3) (.slice a3 n3 c3) (.slice bo3 m3 d3)
  have hr_n := hr.keep hKp
  have BB_n := below_store3 (R := w.heap.size + 1) BB (by omega) (.bool p3) (.slice a3 n3 c3) (.slice bo3 m3 d3)
  clear hKp
  obtain ⟨q1,q2,q3,q4,q5,q6⟩ := id VR
  go_wp2
  (try simp only [Exit.inBlock,Exit.then])
  refine bodyPost_ret (v := .agg #[.bool p3,.slice a3 n3 c3,.slice bo3 m3 d3]) (by simp [results,go_sem,q1,q2,q3]) rfl ?_
  exact ⟨_,rfl,by rw [← HT.out]; exact hr_n,BB_n⟩


theorem peval_at (v x : Value) (n L X j : Nat) (q : Nat → Rat) (r : Rat) (w : World) (hv : FRow w v n q) (hx : RepQ w x r) (sq : ∀ i,i < n → qsz (q i) ≤ L) (sx : qsz r ≤ X) (ht : Tab w) (hL : 1 ≤ L) (hnj : n ≤ 2 ^ j) (hn1 : n ≤ 1000) (hS : vsz j L X ≤ 40000) :
  Calls Tryz.prog 56 #[v,x] w fun e w' => ∃ y,e = .returned y ∧ RepQ w' y (evN q r n) ∧ Below w.heap.size w w' :=
 peval_raw v x n L X j q r w (hv.q L sq) (hx.at X sx) ht hL (Nat.le_trans (qsz_pos r) sx) hnj hn1 hS

theorem grown_set4 (w : World) (R : Nat) (x y z u : Value) : w.grownBy ((((w.setCell ⟨R,0,none⟩ x).setCell ⟨R,1,none⟩ y).setCell ⟨R,2,none⟩ z).setCell ⟨R,3,none⟩ u) (some R) :=
 ⟨rfl,rfl,rfl,by simp,fun k _ hk => by rw [Below.heap_setCell _ _ _ _ (fun e => hk (by rw [e])),Below.heap_setCell _ _ _ _ (fun e => hk (by rw [e])),Below.heap_setCell _ _ _ _ (fun e => hk (by rw [e])),Below.heap_setCell _ _ _ _ (fun e => hk (by rw [e]))]⟩


set_option maxRecDepth 20000 in
set_option maxHeartbeats 4000000 in
theorem plink_some (v x : Value) (n L X : Nat) (q : Nat → Rat) (r : Rat) (w : World) (hv : FRow w v n q) (hx : RepQ w x r) (sq : ∀ i,i < n → qsz (q i) ≤ L) (sx : qsz r ≤ X) (ht : Tab w) (hL : 1 ≤ L) (hn1 : n ≤ 1000) (hS : L + X ≤ 40000) (h0 : 0 < trimN q n) :
  Calls Tryz.prog 51 #[v,x] w fun e w' => ∃ y p3 a3 n3 c3 bo3 m3 d3,e = .returned (.agg #[y,.bool p3,.slice a3 n3 c3,.slice bo3 m3 d3]) ∧ FNew w.heap.size w' y (trimN q n) (fun i => q i * (q (trimN q n - 1))⁻¹) ∧ RepQ w' (.agg #[.bool p3,.slice a3 n3 c3,.slice bo3 m3 d3]) (q (trimN q n - 1) * r) ∧ Below w.heap.size w w' := by
 obtain ⟨px,ax,nx,cx,bx,mx,dx,rfl⟩ := hx.open
 obtain ⟨ao,c,rfl⟩ := hv.open
 have BB : Below w.heap.size w w := Below.refl _ _
 obtain ⟨Wb0,hW0,hS0,hL0,VX⟩ := V3.lay w 28 (.bool px) (.slice ax nx cx) (.slice bx mx dx)
 replace hv := hv.below hL0
 replace hx := hx.below hL0
 replace ht := ht.below hL0
 replace BB := BB.trans (hL0.mono BB.size)
 clear hL0
 obtain ⟨Wb1,hW1,hS1,hL1,VL⟩ := V4.lay Wb0 60 (.slice none 0 0) (.bool false) (.slice none 0 0) (.slice none 0 0)
 rw [hS0] at VL hS1
 replace hv := hv.below hL1
 replace hx := hx.below hL1
 replace ht := ht.below hL1
 replace VX := VX.below hL1
 replace BB := BB.trans (hL1.mono BB.size)
 clear hL1
 go_enter Tryz.func51,Tryz.ntmps51
 go_wp2_with fail
 rw [← hW0]
 rw [← hW1]
 clear hW0 hW1 hS0 hS1
 refine (ptrim_at _ n q L _ (hv.q L sq) hL (by omega)).mono ?_
 rintro e w1 ⟨ao2,c2,hvv,rfl,b1⟩
 replace hv := hv.below b1
 replace hx := hx.below b1
 replace ht := ht.below b1
 replace VX := VX.below b1
 replace VL := VL.below b1
 replace BB := BB.trans (b1.mono BB.size)
 clear b1
 cases hvv
 have hle := trimN_le q n
 obtain ⟨ao3,c3,hv3,FP⟩ := FRow.pre hv (trimN q n) hle
 cases hv3
 have htop := trimN_idem q n
 clear hv
 obtain ⟨m,hm⟩ : ∃ m,m = trimN q n := ⟨_,rfl⟩
 rw [← hm] at FP hle h0 htop ⊢
 have HM : Hid (m = trimN q n) := hm
 clear hm
 have h0i : ¬ (m : Int) = 0 := by omega
 have e1_ : ((m : Int) == 0) = false := by simp; omega
 go_wp2_with fail
 (try rw [e1_])
 refine wp_region_until 6 #[true,true,true,true,true,true,false,false] (fun aF lsd a' w' => ∃ vu0 vu1 vu2 vu3 vu4 vu5 : Value,a' = (((((aF.put (some 11) vu0).put (some 12) vu1).put (some 13) vu2).put (some 14) vu3).put (some 15) vu4).put (some 16) vu5 ∧ Below w1.heap.size w1 w' ∧ (lsd.getD 0 false = true → vu0 = .slice ao m m) ∧ (lsd.getD 1 false = true → FNew w1.heap.size w' vu1 m (fun i => q i * (q (m - 1))⁻¹)) ∧ (lsd.getD 2 false = true → vu2 = .slice ao m m) ∧ (lsd.getD 3 false = true → RatAt w' vu3 (q (m - 1)) L) ∧ (lsd.getD 4 false = true → vu4 = .agg #[.bool px,.slice ax nx cx,.slice bx mx dx]) ∧ (lsd.getD 5 false = true → RepQ w' vu5 (q (m - 1) * r))) (by kernel_rfl) (by decide) (by kernel_rfl) (by rfl) (by kernel_rfl) ?_ ?_ ?_
 ·exact ⟨_,_,_,_,_,_,by simp only [Act.put,xL4,xL5,xL6]; rfl,(Below.refl _ _).drew,fun h => absurd h (fun h => mark_none h),fun h => absurd h (fun h => mark_none h),fun h => absurd h (fun h => mark_none h),fun h => absurd h (fun h => mark_none h),fun h => absurd h (fun h => mark_none h),fun h => absurd h (fun h => mark_none h)⟩
 ·rintro lsd au wn iu hszu ⟨vu0,vu1,vu2,vu3,vu4,vu5,rfl,hbu,fu0,fu1,fu2,fu3,fu4,fu5⟩ himu hru
  rcases (show iu = 0 ∨ iu = 1 ∨ iu = 2 ∨ iu = 3 ∨ iu = 4 ∨ iu = 5 by omega) with rfl | rfl | rfl | rfl | rfl | rfl
  ·refine wpOp_shut (by rfl) (fun K hK => ?_)
   simp only [Act.put,xL4,xL5,xL6]
   go_simp
   exact hK.out _ _ ⟨(.slice ao m m),vu1,vu2,vu3,vu4,vu5,by simp only [Act.put,xL4,xL5,xL6],hbu,fun _ => rfl,fun h => fu1 (mark_of (by decide) h),fun h => fu2 (mark_of (by decide) h),fun h => fu3 (mark_of (by decide) h),fun h => fu4 (mark_of (by decide) h),fun h => fu5 (mark_of (by decide) h)⟩
  ·have eu0 := fu0 (dep_of 0 hru rfl (by kernel_rfl))
   replace eu0 := eu0.symm
   subst eu0
   refine wpOp_shut (by rfl) (fun K hK => ?_)
   simp only [Act.put,xL4,xL5,xL6]
   have ht := ht.below hbu
   have FP := FP.below hbu
   go_simp
   refine (pmonic_at _ m q L _ (FP.q L (fun i hi => sq i (by omega))) ht (by omega) hL (by omega)).mono ?_
   rintro eu wx ⟨x1,rfl,FM,bu⟩
   rw [htop] at FM
   replace FM := FM.le hbu.size
   go_wp2_with fail
   have hbu2 := hbu.trans (bu.mono hbu.size)
   exact hK.out _ _ ⟨(.slice ao m m),_,vu2,vu3,vu4,vu5,by simp only [Act.put,xL4,xL5,xL6],hbu2,fun _ => rfl,fun _ => FM,fun h => fu2 (mark_of (by decide) h),fun h => (fu3 (mark_of (by decide) h)).below bu,fun h => fu4 (mark_of (by decide) h),fun h => (fu5 (mark_of (by decide) h)).below bu⟩
  ·refine wpOp_shut (by rfl) (fun K hK => ?_)
   simp only [Act.put,xL4,xL5,xL6]
   go_simp
   exact hK.out _ _ ⟨vu0,vu1,(.slice ao m m),vu3,vu4,vu5,by simp only [Act.put,xL4,xL5,xL6],hbu,fun h => fu0 (mark_of (by decide) h),fun h => fu1 (mark_of (by decide) h),fun _ => rfl,fun h => fu3 (mark_of (by decide) h),fun h => fu4 (mark_of (by decide) h),fun h => fu5 (mark_of (by decide) h)⟩
  ·have eu2 := fu2 (dep_of 2 hru rfl (by kernel_rfl))
   replace eu2 := eu2.symm
   subst eu2
   have FM := fu1 (dep_of 1 hru rfl (by kernel_rfl))
   refine wpOp_shut (by rfl) (fun K hK => ?_)
   simp only [Act.put,xL4,xL5,xL6]
   have FP := FP.below hbu
   go_simp
   refine (ptop_at _ m q L _ (FP.q L (fun i hi => sq i (by omega))) (by omega) (by omega)).mono ?_
   rintro eu wx ⟨x3,rfl,h3,bu⟩
   go_wp2_with fail
   have hbu2 := hbu.trans (bu.mono hbu.size)
   exact hK.out _ _ ⟨vu0,vu1,(.slice ao m m),_,vu4,vu5,by simp only [Act.put,xL4,xL5,xL6],hbu2,fun h => fu0 (mark_of (by decide) h),fun h => (fu1 (mark_of (by decide) h)).below bu,fun _ => rfl,fun _ => h3,fun h => fu4 (mark_of (by decide) h),fun h => (fu5 (mark_of (by decide) h)).below bu⟩
  ·refine wpOp_shut (by rfl) (fun K hK => ?_)
   simp only [Act.put,xL4,xL5,xL6]
   obtain ⟨VX_0,VX_1,VX_2,VX_3,VX_4,VX_5⟩ := VX.below hbu
   go_simp
   exact hK.out _ _ ⟨vu0,vu1,vu2,vu3,(.agg #[.bool px,.slice ax nx cx,.slice bx mx dx]),vu5,by simp only [Act.put,xL4,xL5,xL6],hbu,fun h => fu0 (mark_of (by decide) h),fun h => fu1 (mark_of (by decide) h),fun h => fu2 (mark_of (by decide) h),fun h => fu3 (mark_of (by decide) h),fun _ => rfl,fun h => fu5 (mark_of (by decide) h)⟩
  ·have eu4 := fu4 (dep_of 4 hru rfl (by kernel_rfl))
   replace eu4 := eu4.symm
   subst eu4
   have h3 := fu3 (dep_of 3 hru rfl (by kernel_rfl))
   refine wpOp_shut (by rfl) (fun K hK => ?_)
   simp only [Act.put,xL4,xL5,xL6]
   have hx := hx.below hbu
   have ht := ht.below hbu
   go_simp
   refine (qmul_at _ _ (q (m - 1)) r (L + X) _ (h3.le (by omega)) (hx.at _ (by omega)) (by omega) (by omega) ht).mono ?_
   rintro eu wx ⟨x5,rfl,h5,bu⟩
   go_wp2_with fail
   have hbu2 := hbu.trans (bu.mono hbu.size)
   exact hK.out _ _ ⟨vu0,vu1,vu2,vu3,(.agg #[.bool px,.slice ax nx cx,.slice bx mx dx]),_,by simp only [Act.put,xL4,xL5,xL6],hbu2,fun h => fu0 (mark_of (by decide) h),fun h => (fu1 (mark_of (by decide) h)).below bu,fun h => fu2 (mark_of (by decide) h),fun h => (fu3 (mark_of (by decide) h)).below bu,fun _ => rfl,fun _ => h5⟩
 rintro au Wu1 ⟨vu0,vu1,vu2,vu3,vu4,vu5,rfl,hbu,fu0,fu1,fu2,fu3,fu4,fu5⟩
 have eu0 := (fu0 rfl).symm
 subst eu0
 have FM := fu1 rfl
 have eu2 := (fu2 rfl).symm
 subst eu2
 have h3 := fu3 rfl
 have eu4 := (fu4 rfl).symm
 subst eu4
 have h5 := fu5 rfl
 clear fu0 fu1 fu2 fu3 fu4 fu5
 have hlVX : w.heap.size < w1.heap.size := VX.lt
 have hlVL : w.heap.size + 1 < w1.heap.size := VL.lt
 replace hx := hx.below hbu
 replace ht := ht.below hbu
 replace FP := FP.below hbu
 replace VX := VX.below hbu
 replace VL := VL.below hbu
 replace BB := BB.trans (hbu.mono BB.size)
 clear hbu
 simp only [Act.put,xL4,xL5,xL6]
 refine xR [6] (h := ?_)
 refine AllReadyH.cons (by rfl) (fun K hK => ?_) AllReadyH.nil
 obtain ⟨am,cm,rfl⟩ := FM.1.open
 obtain ⟨p3,a3,n3,c3,bo3,m3,d3,rfl⟩ := h5.open
 go_simp
 refine hK.out _ _ trivial (fun _ => ?_)
 clear hK K
 simp only [Act.put,xL4,xL5,xL6]
 refine xR [7] (h := ?_)
 refine AllReadyH.cons (by rfl) (fun K hK => ?_) AllReadyH.nil
 have hKp := VL.keepJ (.slice am m cm) (.bool p3) (.slice a3 n3 c3) (.slice bo3 m3 d3)
 have hsz := VL.lt
 have FMn := (FM.other (grown_set4 Wu1 (w.heap.size + 1) (.slice am m cm) (.bool p3) (.slice a3 n3 c3) (.slice bo3 m3 d3)) hKp (fun g hg => by cases hg; omega)).le (by omega : w.heap.size ≤ _)
 have h5n := h5.keep hKp
 have BBn := below_store4 (R := w.heap.size + 1) BB (by omega) (.slice am m cm) (.bool p3) (.slice a3 n3 c3) (.slice bo3 m3 d3)
 obtain ⟨⟨y1,y2,y3,_,_,_⟩,y4,_⟩ := VL.same (.slice am m cm) (.bool p3) (.slice a3 n3 c3) (.slice bo3 m3 d3)
 obtain ⟨⟨x1,x2,x3,x4,x5,x6⟩,x7,x8⟩ := VL
 go_simp
 clear x1 x2 x3 x4 x5 x6 x7 x8
 refine hK.out _ _ trivial (fun _ => ?_)
 clear hK K
 simp only [Act.put,xL4,xL5,xL6]
 refine wpAnyH_done (by kernel_rfl) ?_ _
 go_wp2
 (try simp only [Exit.inBlock,Exit.then])
 refine bodyPost_ret (v := .agg #[.slice am m cm,.bool p3,.slice a3 n3 c3,.slice bo3 m3 d3]) (by simp [results,go_sem,y1,y2,y3,y4]) rfl ?_
 exact ⟨_,p3,a3,n3,c3,bo3,m3,d3,rfl,by rw [← HM.out]; exact FMn,by rw [← HM.out]; exact h5n,BBn⟩


set_option maxRecDepth 20000 in
set_option maxHeartbeats 4000000 in
theorem plink_none (v : Value) (n L : Nat) (q : Nat → Rat) (px : Bool) (ax : Option Addr) (nx cx : Nat) (bx : Option Addr) (mx dx : Nat) (w : World) (hv : FRow w v n q) (sq : ∀ i,i < n → qsz (q i) ≤ L) (hL : 1 ≤ L) (hS : L ≤ 40000) (h0 : trimN q n = 0) :
  Calls Tryz.prog 51 #[v,.agg #[.bool px,.slice ax nx cx,.slice bx mx dx]] w fun e w' => e = .returned (.agg #[.slice none 0 0,.bool false,.slice none 0 0,.slice none 0 0]) ∧ Below w.heap.size w w' := by
 obtain ⟨ao,c,rfl⟩ := hv.open
 have BB : Below w.heap.size w w := Below.refl _ _
 obtain ⟨Wb0,hW0,hS0,hL0,VX⟩ := V3.lay w 28 (.bool px) (.slice ax nx cx) (.slice bx mx dx)
 replace hv := hv.below hL0
 replace BB := BB.trans (hL0.mono BB.size)
 clear hL0
 obtain ⟨Wb1,hW1,hS1,hL1,VL⟩ := V4.lay Wb0 60 (.slice none 0 0) (.bool false) (.slice none 0 0) (.slice none 0 0)
 rw [hS0] at VL hS1
 replace hv := hv.below hL1
 replace VX := VX.below hL1
 replace BB := BB.trans (hL1.mono BB.size)
 clear hL1
 go_enter Tryz.func51,Tryz.ntmps51
 go_wp2_with fail
 rw [← hW0]
 rw [← hW1]
 clear hW0 hW1 hS0 hS1
 refine (ptrim_at _ n q L _ (hv.q L sq) hL (by omega)).mono ?_
 rintro e w1 ⟨ao2,c2,hvv,rfl,b1⟩
 replace hv := hv.below b1
 replace VX := VX.below b1
 replace VL := VL.below b1
 replace BB := BB.trans (b1.mono BB.size)
 clear b1
 cases hvv
 rw [h0]
 have BBn := below_store4 (R := w.heap.size + 1) BB (by omega) (.slice none 0 0) (.bool false) (.slice none 0 0) (.slice none 0 0)
 obtain ⟨⟨y1,y2,y3,_,_,_⟩,y4,_⟩ := VL.same (.slice none 0 0) (.bool false) (.slice none 0 0) (.slice none 0 0)
 obtain ⟨⟨x1,x2,x3,x4,x5,x6⟩,x7,x8⟩ := VL
 go_wp2
 (try simp only [Exit.inBlock,Exit.then])
 refine bodyPost_ret (v := .agg #[.slice none 0 0,.bool false,.slice none 0 0,.slice none 0 0]) (by simp [results,go_sem,y1,y2,y3,y4]) rfl ?_
 exact ⟨rfl,BBn⟩

theorem FRow.grown {w w' : World} {v : Value} {n : Nat} {q : Nat → Rat} {row : Option Nat} (h : FRow w v n q) (hg : w.grownBy w' row) (hk : KeepQ IsNum w w') (hne : ∀ b off c,v = .slice (some ⟨b,off,none⟩) n c → 0 < n → some b ≠ row) : FRow w' v n q := by
  obtain ⟨el,⟨a,c,h1,h2,h3,h4⟩,h5⟩ := h
  refine ⟨el,⟨a,c,h1,h2,h3,fun hn => ?_⟩,fun i hi => (h5 i hi).keep hk⟩
  obtain ⟨b,off,e,hc⟩ := h4 hn
  refine ⟨b,off,e,fun i hi j hj => ?_⟩
  have hlt := World.block_lt_of_cell? _ _ (hc i hi j hj)
  rw [World.cell?_of_block (w := w) (hg.block b hlt (hne b off c (by rw [h1,e]) hn))]; exact hc i hi j hj
/-- A row of numbers in none of three blocks. -/
def FAp (R4 R5 : Nat) (o : Option Nat) (w : World) (v : Value) (n : Nat) (q : Nat → Rat) : Prop :=
  FRow w v n q ∧ ∀ b off c,v = .slice (some ⟨b,off,none⟩) n c → 0 < n → b ≠ R4 ∧ b ≠ R5 ∧ some b ≠ o ∧ b < w.heap.size
theorem FAp.below {R4 R5 : Nat} {o : Option Nat} {w w' : World} {v : Value} {n : Nat} {q : Nat → Rat} (h : FAp R4 R5 o w v n q) (hb : Below w.heap.size w w') : FAp R4 R5 o w' v n q :=
  ⟨h.1.below hb,fun b off c e hn => let ⟨a1,a2,a3,a4⟩ := h.2 b off c e hn; ⟨a1,a2,a3,Nat.lt_of_lt_of_le a4 hb.size⟩⟩
theorem FAp.store {R4 R5 R : Nat} {o : Option Nat} {w w' : World} {v : Value} {n : Nat} {q : Nat → Rat} (h : FAp R4 R5 o w v n q) (hR : R = R4 ∨ R = R5) (hg : w.grownBy w' (some R)) (hk : KeepQ IsNum w w') : FAp R4 R5 o w' v n q :=
  ⟨h.1.grown hg hk (fun b off c e hn hb => by obtain ⟨a1,a2,_,_⟩ := h.2 b off c e hn; injection hb with hb; rcases hR with rfl | rfl <;> omega),
   fun b off c e hn => let ⟨a1,a2,a3,a4⟩ := h.2 b off c e hn; ⟨a1,a2,a3,Nat.lt_of_lt_of_le a4 hg.size⟩⟩
theorem FAp.grow {R4 R5 : Nat} {o o' : Option Nat} {w w' : World} {v : Value} {n : Nat} {q : Nat → Rat} (h : FAp R4 R5 o w v n q) (hg : w.grownBy w' o) (hk : KeepQ IsNum w w') (ho : o' = o ∨ o' = some w.heap.size) : FAp R4 R5 o' w' v n q :=
  ⟨h.1.grown hg hk (fun b off c e hn => (h.2 b off c e hn).2.2.1),
   fun b off c e hn => by
    obtain ⟨a1,a2,a3,a4⟩ := h.2 b off c e hn
    refine ⟨a1,a2,?_,Nat.lt_of_lt_of_le a4 hg.size⟩
    rcases ho with rfl | rfl
    · exact a3
    · intro hb; injection hb with hb; omega⟩
theorem FNew.fap {B R4 R5 : Nat} {o : Option Nat} {w : World} {v : Value} {n : Nat} {q : Nat → Rat} (h : FNew B w v n q) (h4 : R4 < B) (h5 : R5 < B) (ho : ∀ g,o = some g → g < B) : FAp R4 R5 o w v n q :=
  ⟨h.1,fun b off c e hn => by
    have hb := h.2 b off c e hn
    refine ⟨by omega,by omega,fun hh => ?_,h.1.ffar.2 b off c e hn⟩
    have := ho b hh.symm; omega⟩
theorem FNew.far {B R4 R5 : Nat} {w : World} {v : Value} {n : Nat} {q : Nat → Rat} (h : FRow w v n q) (h4 : w.heap.size ≤ R4) (h5 : w.heap.size ≤ R5) : FAp R4 R5 none w v n q :=
  ⟨h,fun b off c e hn => by have := h.ffar.2 b off c e hn; exact ⟨by omega,by omega,by simp,this⟩⟩
theorem FAp.congr {R4 R5 : Nat} {o : Option Nat} {w : World} {v : Value} {n : Nat} {q q' : Nat → Rat} (h : FAp R4 R5 o w v n q) (e : ∀ i,i < n → q i = q' i) : FAp R4 R5 o w v n q' := by
  obtain ⟨⟨el,h1,h2⟩,h3⟩ := h
  exact ⟨⟨el,h1,fun i hi => by rw [← e i hi]; exact h2 i hi⟩,h3⟩
theorem FNew.congr {B : Nat} {w : World} {v : Value} {n : Nat} {q q' : Nat → Rat} (h : FNew B w v n q) (e : ∀ i,i < n → q i = q' i) : FNew B w v n q' := by
  obtain ⟨⟨el,h1,h2⟩,h3⟩ := h
  exact ⟨⟨el,h1,fun i hi => by rw [← e i hi]; exact h2 i hi⟩,h3⟩

/-- What one link's cells hold. -/
def LinkAt (R4 R5 : Nat) (o : Option Nat) (w : World) (y : Value) (p : Bool) (a : Option Addr) (n c : Nat) (b : Option Addr) (m d : Nat) (N : Nat) (q : Nat → Rat) (r : Rat) : Prop :=
  FAp R4 R5 o w y N q ∧ RepQ w (.agg #[.bool p,.slice a n c,.slice b m d]) r
/-- A chain of t links in a row of the call's own. -/
def COwn (R4 R5 B : Nat) (w : World) (v : Value) (t : Nat) (N : Nat → Nat) (Q : Nat → Nat → Rat) (R : Nat → Rat) : Prop :=
  ∃ us,w.ownsRow B 60 4 v t us ∧ (∀ g,v.ownBlock = some g → PureB IsNum w g ∧ g ≠ R4 ∧ g ≠ R5) ∧
    ∀ i,i < t → ∃ y p a n c b m d,us[i * 4]? = some y ∧ us[i * 4 + 1]? = some (.bool p) ∧ us[i * 4 + 2]? = some (.slice a n c) ∧ us[i * 4 + 3]? = some (.slice b m d) ∧ LinkAt R4 R5 v.ownBlock w y p a n c b m d (N i) (Q i) (R i)
theorem COwn.nil (R4 R5 B : Nat) (w : World) (N : Nat → Nat) (Q : Nat → Nat → Rat) (R : Nat → Rat) : COwn R4 R5 B w (.slice none 0 0) 0 N Q R :=
  ⟨[],World.ownsRow_nil _ _ _ _,(fun g h => by cases h),(fun i hi => by omega)⟩
theorem COwn.below {R4 R5 B : Nat} {w w' : World} {v : Value} {t : Nat} {N : Nat → Nat} {Q : Nat → Nat → Rat} {R : Nat → Rat} (h : COwn R4 R5 B w v t N Q R) (hb : Below w.heap.size w w') : COwn R4 R5 B w' v t N Q R := by
  obtain ⟨us,o,h1,h2⟩ := h
  refine ⟨us,owns_later o hb,fun g hg => ⟨(h1 g hg).1.below hb (o.lt g hg).2,(h1 g hg).2⟩,fun i hi => ?_⟩
  obtain ⟨y,p,a,n,c,b,m,d,e1,e2,e3,e4,f,r⟩ := h2 i hi
  exact ⟨y,p,a,n,c,b,m,d,e1,e2,e3,e4,f.below hb,r.below hb⟩
theorem COwn.store {R4 R5 B X : Nat} {w w' : World} {v : Value} {t : Nat} {N : Nat → Nat} {Q : Nat → Nat → Rat} {R : Nat → Rat} (h : COwn R4 R5 B w v t N Q R) (hX : X = R4 ∨ X = R5) (hg : w.grownBy w' (some X)) (hk : KeepQ IsNum w w') : COwn R4 R5 B w' v t N Q R := by
  obtain ⟨us,o,h1,h2⟩ := h
  have hne : ∀ g,v.ownBlock = some g → some g ≠ some X := fun g hgg e => by
    injection e with e
    obtain ⟨_,a1,a2⟩ := h1 g hgg
    rcases hX with rfl | rfl <;> omega
  refine ⟨us,o.kept hg ?_,fun g hgg => ⟨fun x u hu => (h1 g hgg).1 x u ?_,(h1 g hgg).2⟩,fun i hi => ?_⟩
  · cases hb : v.ownBlock with
    | none => exact .inl rfl
    | some g => exact .inr (hne g hb)
  · rw [← World.cell?_of_block (w := w) (hg.block g (o.lt g hgg).2 (hne g hgg))]; exact hu
  · obtain ⟨y,p,a,n,c,b,m,d,e1,e2,e3,e4,f,r⟩ := h2 i hi
    exact ⟨y,p,a,n,c,b,m,d,e1,e2,e3,e4,f.store hX hg hk,r.keep hk⟩
theorem COwn.more {R4 R5 B : Nat} {w w' : World} {v : Value} {t g' cap' : Nat} {N : Nat → Nat} {Q : Nat → Nat → Rat} {R : Nat → Rat} {us : List Value} {y : Value} {p : Bool} {a b : Option Addr} {n c m d : Nat}
    (o : w.ownsRow B 60 4 v t us) (h1 : ∀ g,v.ownBlock = some g → PureB IsNum w g ∧ g ≠ R4 ∧ g ≠ R5)
    (h2 : ∀ i,i < t → ∃ y p a n c b m d,us[i * 4]? = some y ∧ us[i * 4 + 1]? = some (.bool p) ∧ us[i * 4 + 2]? = some (.slice a n c) ∧ us[i * 4 + 3]? = some (.slice b m d) ∧ LinkAt R4 R5 v.ownBlock w y p a n c b m d (N i) (Q i) (R i))
    (hl : LinkAt R4 R5 v.ownBlock w y p a n c b m d (N t) (Q t) (R t)) (h4 : R4 < w.heap.size) (h5 : R5 < w.heap.size)
    (o' : w'.ownsRow B 60 4 (.slice (some ⟨g',0,none⟩) (t + 1) cap') (t + 1) (us ++ [y,.bool p,.slice a n c,.slice b m d])) (hg : w.grownBy w' v.ownBlock) (hat : v.ownBlock = some g' ∨ g' = w.heap.size) (hp : PureB IsNum w' g') (hk : KeepQ IsNum w w') :
    COwn R4 R5 B w' (.slice (some ⟨g',0,none⟩) (t + 1) cap') (t + 1) N Q R := by
  have hul : us.length = t * 4 := o.1
  have hob : (Value.slice (some ⟨g',0,none⟩) (t + 1) cap').ownBlock = some g' := rfl
  have ho' : some g' = v.ownBlock ∨ some g' = some w.heap.size := by
    rcases hat with h | h
    · exact .inl h.symm
    · exact .inr (by rw [h])
  refine ⟨_,o',fun g hgg => ?_,fun i hi => ?_⟩
  · rw [hob] at hgg; injection hgg with hgg; subst hgg
    refine ⟨hp,?_⟩
    rcases hat with h | h
    · exact (h1 _ h).2
    · omega
  · rw [hob]
    by_cases hlt : i < t
    · obtain ⟨y',p',a',n',c',b',m',d',e1,e2,e3,e4,f,r⟩ := h2 i hlt
      exact ⟨y',p',a',n',c',b',m',d',by rw [List.getElem?_append_left (by omega)]; exact e1,by rw [List.getElem?_append_left (by omega)]; exact e2,by rw [List.getElem?_append_left (by omega)]; exact e3,by rw [List.getElem?_append_left (by omega)]; exact e4,f.grow hg hk ho',r.keep hk⟩
    · obtain rfl : i = t := by omega
      exact ⟨y,p,a,n,c,b,m,d,by rw [List.getElem?_append_right (by omega),show i * 4 - us.length = 0 by omega]; rfl,by rw [List.getElem?_append_right (by omega),show i * 4 + 1 - us.length = 1 by omega]; rfl,by rw [List.getElem?_append_right (by omega),show i * 4 + 2 - us.length = 2 by omega]; rfl,by rw [List.getElem?_append_right (by omega),show i * 4 + 3 - us.length = 3 by omega]; rfl,hl.1.grow hg hk ho',hl.2.keep hk⟩
theorem LinkAt.below {R4 R5 : Nat} {o : Option Nat} {w w' : World} {y : Value} {p : Bool} {a b : Option Addr} {n c m d N : Nat} {q : Nat → Rat} {r : Rat} (h : LinkAt R4 R5 o w y p a n c b m d N q r) (hb : Below w.heap.size w w') : LinkAt R4 R5 o w' y p a n c b m d N q r := ⟨h.1.below hb,h.2.below hb⟩
theorem LinkAt.store {R4 R5 X : Nat} {o : Option Nat} {w w' : World} {y : Value} {p : Bool} {a b : Option Addr} {n c m d N : Nat} {q : Nat → Rat} {r : Rat} (h : LinkAt R4 R5 o w y p a n c b m d N q r) (hX : X = R4 ∨ X = R5) (hg : w.grownBy w' (some X)) (hk : KeepQ IsNum w w') : LinkAt R4 R5 o w' y p a n c b m d N q r := ⟨h.1.store hX hg hk,h.2.keep hk⟩
theorem LinkAt.grow {R4 R5 : Nat} {o o' : Option Nat} {w w' : World} {y : Value} {p : Bool} {a b : Option Addr} {n c m d N : Nat} {q : Nat → Rat} {r : Rat} (h : LinkAt R4 R5 o w y p a n c b m d N q r) (hg : w.grownBy w' o) (hk : KeepQ IsNum w w') (ho : o' = o ∨ o' = some w.heap.size) : LinkAt R4 R5 o' w' y p a n c b m d N q r := ⟨h.1.grow hg hk ho,h.2.keep hk⟩
theorem info_link : (Tryz.prog.info? 60).map (fun i => (i.zero,i.size,i.bytes)) = some (some (.agg #[.slice none 0 0,.bool false,.slice none 0 0,.slice none 0 0]),4,80) := by kernel_rfl

/-- A chain of T links. -/
def CRow (w : World) (v : Value) (T : Nat) (N : Nat → Nat) (Q : Nat → Nat → Rat) (R : Nat → Rat) : Prop :=
  ∃ g cap,v = .slice (some ⟨g,0,none⟩) T cap ∧ T ≤ cap ∧ cap ≤ 9223372036854775807 ∧ ∀ i,i < T → ∃ y p a n c b m d,w.cell? ⟨g,i * 4,none⟩ = some y ∧ w.cell? ⟨g,i * 4 + 1,none⟩ = some (.bool p) ∧ w.cell? ⟨g,i * 4 + 2,none⟩ = some (.slice a n c) ∧ w.cell? ⟨g,i * 4 + 3,none⟩ = some (.slice b m d) ∧ FRow w y (N i) (Q i) ∧ RepQ w (.agg #[.bool p,.slice a n c,.slice b m d]) (R i)
theorem CRow.below {w w' : World} {v : Value} {T : Nat} {N : Nat → Nat} {Q : Nat → Nat → Rat} {R : Nat → Rat} (h : CRow w v T N Q R) (hb : Below w.heap.size w w') : CRow w' v T N Q R := by
  obtain ⟨g,cap,e,h1,h2,h3⟩ := h
  refine ⟨g,cap,e,h1,h2,fun i hi => ?_⟩
  obtain ⟨y,p,a,n,c,b,m,d,e1,e2,e3,e4,f,r⟩ := h3 i hi
  have hl : g < w.heap.size := World.block_lt_of_cell? _ _ e1
  exact ⟨y,p,a,n,c,b,m,d,(hb.cell hl).trans e1,(hb.cell hl).trans e2,(hb.cell hl).trans e3,(hb.cell hl).trans e4,f.below hb,r.below hb⟩
theorem COwn.row {R4 R5 B : Nat} {w : World} {v : Value} {t : Nat} {N : Nat → Nat} {Q : Nat → Nat → Rat} {R : Nat → Rat} (h : COwn R4 R5 B w v t N Q R) (ht : 0 < t) : CRow w v t N Q R := by
  obtain ⟨us,o,h1,h2⟩ := h
  have o2 := o
  rcases o.2 with ⟨e0,e1⟩ | ⟨g,cap,cur,rfl,hb,hg,hnc,hcm,rest⟩
  · omega
  · refine ⟨g,cap,rfl,hnc,by unfold maxLen at hcm; omega,fun i hi => ?_⟩
    obtain ⟨y,p,a,n,c,b,m,d,e1,e2,e3,e4,f,r⟩ := h2 i hi
    exact ⟨y,p,a,n,c,b,m,d,owns_cell o2 e1,owns_cell o2 e2,owns_cell o2 e3,owns_cell o2 e4,f.1,r⟩

end Go.Proofs.YtieeneaebjihlaaGreatDoor
