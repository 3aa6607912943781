/-
  Texts of mine, joined: what lies beneath the statement.
-/
import Derived.Test.YtjmagcgobhaenaaGreatDoorJc66f179fb5
import Derived.Test.YtjmagcgobhaenaaGreatDoorJ0f23b9dd11
import Derived.Test.YtjmagcgobhaenaaGreatDoorJbec879a498
import Derived.Test.YtjmagcgobhaenaaGreatDoorJc35467fed7
import Derived.Test.YtjmagcgobhaenaaGreatDoorJ9f76112506
namespace Go.Proofs.YtjmagcgobhaenaaGreatDoor
open Go.RowKit
set_option linter.unusedVariables false
set_option linter.unusedSimpArgs false
def adds (l : List Sp) (f : Nat) : List Rat := (l.filter (fun s => decide (s.feat = f))).map Sp.add
def sumL : List Rat → Rat
 | [] => 0
 | x :: l => x + sumL l
def valS (l : List Sp) (f : Nat) : Rat := sumL (adds l f)
theorem sumL_app : ∀ l l',sumL (l ++ l') = sumL l + sumL l'
 | [],l' => by show sumL l' = 0 + sumL l'; rw [Rat.zero_add]
 | x :: l,l' => by show x + sumL (l ++ l') = x + sumL l + sumL l'; rw [sumL_app l l',Rat.add_assoc]
theorem sumq_list (l : List Rat) : ∀ k,k ≤ l.length → sumq (fun i => l.getD i 0) k = sumL (l.take k)
 | 0,_ => by simp [sumq,sumL]
 | k + 1,h => by
  show sumq _ k + l.getD k 0 = _
  rw [sumq_list l k (by omega),List.take_succ_eq_append_getElem (by omega),sumL_app]
  show _ = _ + (l[k] + 0)
  rw [Rat.add_zero,List.getD_eq_getElem?_getD,List.getElem?_eq_getElem (by omega)]
  rfl
theorem sumq_all (l : List Rat) : sumq (fun i => l.getD i 0) l.length = sumL l := by rw [sumq_list l l.length (Nat.le_refl _),List.take_length]
theorem adds_app (l l' : List Sp) (f : Nat) : adds (l ++ l') f = adds l f ++ adds l' f := by simp [adds]
theorem adds_here (s : Sp) : adds [s] s.feat = [s.add] := by simp [adds]
theorem adds_other (s : Sp) {f : Nat} (h : f ≠ s.feat) : adds [s] f = [] := by simp [adds]; omega
theorem adds_len (l : List Sp) (f : Nat) : (adds l f).length ≤ l.length := by simp [adds]; exact List.length_filter_le _ _
theorem adds_mem {l : List Sp} {f : Nat} {x : Rat} (h : x ∈ adds l f) : ∃ s ∈ l,s.add = x := by
 simp only [adds,List.mem_map,List.mem_filter] at h
 obtain ⟨s,⟨h1,_⟩,h2⟩ := h
 exact ⟨s,h1,h2⟩
def FArr (w : World) (g n : Nat) (q : Nat → Rat) : Prop := ∃ el,Arr3 w g n el ∧ ∀ j,j < n → RepQ w (elv el j) (q j)
theorem VArr.farr {w : World} {g n : Nat} {q : Nat → Rat} (h : VArr w g n n q) : FArr w g n q := h
theorem FArr.below {w w' : World} {g n : Nat} {q : Nat → Rat} (h : FArr w g n q) (hb : Below w.heap.size w w') : FArr w' g n q := VArr.below h hb
theorem FArr.row {w : World} {g n : Nat} {q : Nat → Rat} (h : FArr w g n q) (hn : n ≤ 100000) : FRow w (.slice (some ⟨g,0,none⟩) n n) n q := VArr.row h hn
theorem FArr.congr {w : World} {g n : Nat} {q q' : Nat → Rat} (h : FArr w g n q) (e : ∀ i,i < n → q i = q' i) : FArr w g n q' := let ⟨el,a,b⟩ := h; ⟨el,a,fun j hj => e j hj ▸ b j hj⟩
theorem FArr.put {w : World} {g n i : Nat} {q : Nat → Rat} (h : FArr w g n q) (hi : i < n) {p : Bool} {a b : Option Addr} {n1 c m d : Nat} {x : Rat} (hr : RepQ w (.agg #[.bool p,.slice a n1 c,.slice b m d]) x) : ∃ u0 u1 u2,w.cell? ⟨g,i * 3,none⟩ = some u0 ∧ w.cell? ⟨g,i * 3 + 1,none⟩ = some u1 ∧ w.cell? ⟨g,i * 3 + 2,none⟩ = some u2 ∧ w.frozen? ⟨g,i * 3,none⟩ = false ∧ w.frozen? ⟨g,i * 3 + 1,none⟩ = false ∧ w.frozen? ⟨g,i * 3 + 2,none⟩ = false ∧
  FArr (((w.setCell ⟨g,i * 3,none⟩ (.bool p)).setCell ⟨g,i * 3 + 1,none⟩ (.slice a n1 c)).setCell ⟨g,i * 3 + 2,none⟩ (.slice b m d)) g n (fun j => if j = i then x else q j) ∧
  KeepQ IsNum w (((w.setCell ⟨g,i * 3,none⟩ (.bool p)).setCell ⟨g,i * 3 + 1,none⟩ (.slice a n1 c)).setCell ⟨g,i * 3 + 2,none⟩ (.slice b m d)) := by
 obtain ⟨el,A,R⟩ := h
 obtain ⟨A2,K2⟩ := A.set i hi (.bool p) (.slice a n1 c) (.slice b m d) (num_bool _) (num_slice _ _ _) (num_slice _ _ _)
 refine ⟨_,_,_,A.1 i hi 0 (by omega),A.1 i hi 1 (by omega),A.1 i hi 2 (by omega),A.2.1 i hi 0 (by omega),A.2.1 i hi 1 (by omega),A.2.1 i hi 2 (by omega),⟨_,A2,fun j hj => ?_⟩,K2⟩
 by_cases e : j = i
 ·subst e
  have := hr.keep K2
  show RepQ _ _ (if j = j then x else q j)
  rw [if_pos rfl]
  simpa [elv,upd3] using this
 ·have := (R j hj).keep K2
  show RepQ _ _ (if j = i then x else q j)
  rw [if_neg e]
  simp only [elv,upd3_other el i j _ _ _ e] at *
  exact this
theorem grown_put3 (w : World) (R i : Nat) (x y z : Value) : w.grownBy (((w.setCell ⟨R,i * 3,none⟩ x).setCell ⟨R,i * 3 + 1,none⟩ y).setCell ⟨R,i * 3 + 2,none⟩ z) (some R) :=
 ⟨rfl,rfl,rfl,by simp,fun k _ hk => by rw [Below.heap_setCell _ _ _ _ (fun e => hk (by rw [e])),Below.heap_setCell _ _ _ _ (fun e => hk (by rw [e])),Below.heap_setCell _ _ _ _ (fun e => hk (by rw [e]))]⟩
theorem keepN_set {w : World} {a : Addr} {old : Value} (h : w.cell? a = some old) (hn : ¬ IsNum old) (x : Value) : KeepQ IsNum w (w.setCell a x) := by
 intro b o v hv hc
 rw [World.cell?_setCell_other _ _ _ _ (fun e => by rw [← e,h] at hc; cases hc; exact hn hv)]
 exact hc
def AdI (B : Nat) (w : World) (g n : Nat) (l : List Sp) : Prop := ∃ us : Nat → Value,(∀ j,j < n → w.cell? ⟨g,j,none⟩ = some (us j) ∧ w.frozen? ⟨g,j,none⟩ = false) ∧ (∀ j,j < n → FOwn B w (us j) (adds l j).length (fun i => (adds l j).getD i 0)) ∧ (∀ i j,i < n → j < n → i ≠ j → Aside (us i) (us j)) ∧ ∀ j,j < n → ∀ b,(us j).ownBlock = some b → b ≠ g
theorem AdI.below {B : Nat} {w w' : World} {g n : Nat} {l : List Sp} (h : AdI B w g n l) (hb : Below w.heap.size w w') : AdI B w' g n l := by
 obtain ⟨us,h1,h2,h3,h4⟩ := h
 refine ⟨us,fun j hj => ⟨?_,?_⟩,fun j hj => (h2 j hj).below hb,h3,h4⟩
 ·exact (hb.cell (p := ⟨g,j,none⟩) (World.block_lt_of_cell? _ _ (h1 j hj).1)).trans (h1 j hj).1
 ·exact (hb.frozen (p := ⟨g,j,none⟩) (World.block_lt_of_cell? _ _ (h1 j hj).1)).trans (h1 j hj).2
theorem FOwn.slice {B : Nat} {w : World} {v : Value} {n : Nat} {q : Nat → Rat} (h : FOwn B w v n q) : ∃ a c,v = .slice a n c ∧ n ≤ c := by
 obtain ⟨us,el,h1,_⟩ := h
 rcases h1.2 with ⟨rfl,rfl⟩ | ⟨g,c,_,rfl,_,_,h,_⟩
 ·exact ⟨none,0,rfl,by omega⟩
 ·exact ⟨_,c,rfl,h⟩
theorem AdI.far {B : Nat} {w w' : World} {g n G : Nat} {l : List Sp} (h : AdI B w g n l) (hg : w.grownBy w' (some G)) (hk : KeepQ IsNum w w') (hG : G < B) (hgG : g ≠ G) : AdI B w' g n l := by
 obtain ⟨us,h1,h2,h3,h4⟩ := h
 refine ⟨us,fun j hj => ?_,fun j hj => (h2 j hj).far hg hk (fun b hb => by have := (h2 j hj).both b hb; omega),h3,h4⟩
 have hlt := World.block_lt_of_cell? _ _ (h1 j hj).1
 have hb := hg.block g hlt (fun e => hgG (by injection e))
 exact ⟨(World.cell?_of_block (a := ⟨g,j,none⟩) hb).trans (h1 j hj).1,(World.frozen?_of_block (a := ⟨g,j,none⟩) hb).trans (h1 j hj).2⟩
theorem AdI.made {B : Nat} {w : World} {g n : Nat} (h : ∀ j,j < n → w.cell? ⟨g,j,none⟩ = some (.slice none 0 0) ∧ w.frozen? ⟨g,j,none⟩ = false) : AdI B w g n [] :=
 ⟨fun _ => .slice none 0 0,h,fun j hj => FOwn.nil _ _ _,fun i j _ _ _ => aside_nil _,fun j _ b hb => by simp [Value.ownBlock] at hb⟩
theorem AdI.at {B : Nat} {w : World} {g n : Nat} {l : List Sp} (h : AdI B w g n l) {j : Nat} (hj : j < n) : ∃ v,w.cell? ⟨g,j,none⟩ = some v ∧ w.frozen? ⟨g,j,none⟩ = false ∧ FOwn B w v (adds l j).length (fun i => (adds l j).getD i 0) := by
 obtain ⟨us,h1,h2,h3,h4⟩ := h
 exact ⟨us j,(h1 j hj).1,(h1 j hj).2,h2 j hj⟩
theorem AdI.more {B : Nat} {w w5 : World} {g n : Nat} {l : List Sp} {s : Sp} {v : Value} {g5 c5 : Nat} (h : AdI B w g n l) (hj : s.feat < n) (hv : w.cell? ⟨g,s.feat,none⟩ = some v) (hg : w.grownBy w5 v.ownBlock) (hk : KeepQ IsNum w w5) (hat : v.ownBlock = some g5 ∨ g5 = w.heap.size)
  (ho : FOwn B w5 (.slice (some ⟨g5,0,none⟩) ((adds l s.feat).length + 1) c5) ((adds l s.feat).length + 1) (fun i => (adds l s.feat ++ [s.add]).getD i 0)) :
  w5.cell? ⟨g,s.feat,none⟩ = some v ∧ w5.frozen? ⟨g,s.feat,none⟩ = false ∧ AdI B (w5.setCell ⟨g,s.feat,none⟩ (.slice (some ⟨g5,0,none⟩) ((adds l s.feat).length + 1) c5)) g n (l ++ [s]) := by
 obtain ⟨us,h1,h2,h3,h4⟩ := h
 have ev : us s.feat = v := by have := (h1 _ hj).1; rw [hv] at this; injection this with this; exact this.symm
 have hlt := World.block_lt_of_cell? _ _ hv
 have hb5 := hg.block g hlt (fun e => h4 _ hj g (by rw [ev]; exact e.symm) rfl)
 have c5' : ∀ j,j < n → w5.cell? ⟨g,j,none⟩ = some (us j) ∧ w5.frozen? ⟨g,j,none⟩ = false := fun j hjn => ⟨(World.cell?_of_block (a := ⟨g,j,none⟩) hb5).trans (h1 j hjn).1,(World.frozen?_of_block (a := ⟨g,j,none⟩) hb5).trans (h1 j hjn).2⟩
 have hg5 : g5 ≠ g := by
  rcases hat with e | e
  ·exact h4 _ hj g5 (by rw [ev]; exact e)
  ·have hlt2 : g < w.heap.size := hlt
   omega
 have hform : ∃ a m c,v = .slice a m c := by
  obtain ⟨a,c,e,_⟩ := (h2 _ hj).slice
  rw [ev] at e
  exact ⟨a,_,c,e⟩
 have kst : KeepQ IsNum w5 (w5.setCell ⟨g,s.feat,none⟩ (.slice (some ⟨g5,0,none⟩) ((adds l s.feat).length + 1) c5)) := by
  obtain ⟨a,m,c,e⟩ := hform
  exact keepN_set ((c5' _ hj).1.trans (by rw [ev])) (by rw [e]; exact num_slice _ _ _) _
 have gst := grown_at w5 ⟨g,s.feat,none⟩ (.slice (some ⟨g5,0,none⟩) ((adds l s.feat).length + 1) c5)
 refine ⟨by rw [← ev]; exact (c5' _ hj).1,(c5' _ hj).2,fun j => if j = s.feat then .slice (some ⟨g5,0,none⟩) ((adds l s.feat).length + 1) c5 else us j,fun j hjn => ?_,fun j hjn => ?_,fun i j hi hjn hne => ?_,fun j hjn b hb => ?_⟩
 ·dsimp only
  by_cases e : j = s.feat
  ·rw [if_pos e,e]
   exact ⟨World.cell?_setCell_same _ _ _ (c5' _ hj).1,by simp [(c5' _ hj).2]⟩
  ·rw [if_neg e]
   exact ⟨cell_set_by (c5' j hjn).1 e,by simp [(c5' j hjn).2]⟩
 ·dsimp only
  by_cases e : j = s.feat
  ·rw [if_pos e,e,adds_app,adds_here,List.length_append]
   exact ho.far gst kst (fun b hb => by cases hb; exact hg5)
  ·rw [if_neg e,adds_app,adds_other s e,List.append_nil]
   have h5 := (h2 j hjn).stay hg hk (by rw [← ev]; exact h3 j _ hjn hj e)
   exact h5.far gst kst (fun b hb => h4 j hjn b hb)
 ·dsimp only
  by_cases e : i = s.feat
  ·have e2 : j ≠ s.feat := fun h => hne (by rw [e,h])
   rw [if_pos e,if_neg e2]
   exact (aside_new (h2 j hjn) (by rw [← ev]; exact h3 j _ hjn hj e2) hat).symm
  ·rw [if_neg e]
   by_cases e2 : j = s.feat
   ·rw [if_pos e2]
    exact aside_new (h2 i hi) (by rw [← ev]; exact h3 i _ hi hj e) hat
   ·rw [if_neg e2]
    exact h3 i j hi hjn hne
 ·dsimp only at hb
  by_cases e : j = s.feat
  ·rw [if_pos e] at hb
   cases hb
   exact hg5
  ·rw [if_neg e] at hb
   exact h4 j hjn b hb
structure V6 (w : World) (R : Nat) (x0 x1 x2 x3 x4 x5 : Value) : Prop where
 c0 : w.cell? ⟨R,0,none⟩ = some x0
 c1 : w.cell? ⟨R,1,none⟩ = some x1
 c2 : w.cell? ⟨R,2,none⟩ = some x2
 c3 : w.cell? ⟨R,3,none⟩ = some x3
 c4 : w.cell? ⟨R,4,none⟩ = some x4
 c5 : w.cell? ⟨R,5,none⟩ = some x5
theorem V6.lt {w : World} {R : Nat} {x0 x1 x2 x3 x4 x5 : Value} (h : V6 w R x0 x1 x2 x3 x4 x5) : R < w.heap.size := World.block_lt_of_cell? _ _ h.c0
theorem V6.block {w w' : World} {R : Nat} {x0 x1 x2 x3 x4 x5 : Value} (h : V6 w R x0 x1 x2 x3 x4 x5) (hb : w'.heap[R]? = w.heap[R]?) : V6 w' R x0 x1 x2 x3 x4 x5 :=
 ⟨(World.cell?_of_block hb).trans h.c0,(World.cell?_of_block hb).trans h.c1,(World.cell?_of_block hb).trans h.c2,(World.cell?_of_block hb).trans h.c3,(World.cell?_of_block hb).trans h.c4,(World.cell?_of_block hb).trans h.c5⟩
theorem V6.below {w w' : World} {R : Nat} {x0 x1 x2 x3 x4 x5 : Value} (h : V6 w R x0 x1 x2 x3 x4 x5) (hb : Below w.heap.size w w') : V6 w' R x0 x1 x2 x3 x4 x5 := h.block (hb.block R h.lt)
theorem V6.lay (w : World) (t : TypeId) (x0 x1 x2 x3 x4 x5 : Value) : ∃ W,W = w.alloc (.cells #[x0,x1,x2,x3,x4,x5] t) ∧ W.heap.size = w.heap.size + 1 ∧ Below w.heap.size w W ∧ V6 W w.heap.size x0 x1 x2 x3 x4 x5 ∧ (∀ j,W.frozen? ⟨w.heap.size,j,none⟩ = false) := by
 have hb := heap_alloc_new w (.cells #[x0,x1,x2,x3,x4,x5] t)
 refine ⟨_,rfl,by simp,(Below.refl _ _).alloc (Nat.le_refl _) _,?_,?_⟩
 ·constructor <;> (rw [cell_of_row _ _ _ _ _ _ hb]; rfl)
 ·intro j
  simp only [World.frozen?]
  rw [hb]
  simp
theorem info_rats : (Tryz.prog.info? 43).map (fun i => (i.zero,i.size,i.bytes)) = some (some (.slice none 0 0),1,24) := by kernel_rfl
theorem made_nil (n i : Nat) (h : i < n) : (madeCells (Value.slice none 0 0).cells (n * 1)).toList[i]? = some (.slice none 0 0) := by
 simp [madeCells,Value.cells,h,Nat.mod_one]
set_option maxRecDepth 100000 in
set_option maxHeartbeats 4000000 in
theorem zeros_at (n : Nat) (w : World) (hn : n ≤ 1000) :
  Calls Tryz.prog 77 #[.int .i64 (n : Int)] w fun e w' => ∃ g,e = .returned (.slice (some ⟨g,0,none⟩) n n) ∧ w.heap.size ≤ g ∧ g < w'.heap.size ∧ FArr w' g n (fun _ => 0) ∧ Below w.heap.size w w' := by
 obtain ⟨i0,hi,hz0,hz1,hz2⟩ := info_parts info_wrat
 go_enter Tryz.func77,Tryz.ntmps77
 go_wp2_with (at_make; refine wpList_make_full _ rfl _ _ 43 rfl _ 34 i0 (.agg #[.bool false,.slice none 0 0,.slice none 0 0]) 3 Tryz.underlying43 hi hz0 hz1 _ _ _ _ n rfl rfl (by omega) (by omega) (by rw [hz2]; omega) (by unfold maxLen; omega) (Nat.le_refl _) ?_; intro w2 hown hgrow)
 have BB := below_grown hgrow
 have VA0 : VArr w2 w.heap.size n 0 (fun _ => 0) := by
  obtain ⟨el,A,_⟩ := GArr.made hown 10
  exact ⟨el,A,fun j hj => by omega⟩
 have hG : w.heap.size < w2.heap.size := (owns_cap hown).2.2
 clear hown hgrow hi hz0 hz1 hz2
 go_loopw [8] (fun vi wr => ∃ i : Nat,i ≤ n ∧ vi = .int .i64 (i : Int) ∧ VArr wr w.heap.size n i (fun _ => 0) ∧ w.heap.size < wr.heap.size ∧ Below w.heap.size w wr) (fun vi _ => n - (intOf vi).toNat)
 case atStart => exact ⟨0,by omega,rfl,VA0,hG,BB⟩
 case round =>
  clear VA0 BB hG
  obtain ⟨i,hi,rfl,VA,hG,BB⟩ := hrel
  by_cases hlt : i < n
  ·have g1 : (i : Int) < (n : Int) := by omega
   have g0 : (0 : Int) ≤ (i : Int) := by omega
   go_wp2_with fail
   refine (qzero_at _).mono ?_
   rintro e w3 ⟨u,rfl,hq,b9⟩
   replace VA := VA.below b9
   replace BB := BB.trans (b9.mono BB.size)
   have hG3 : w.heap.size < w3.heap.size := Nat.lt_of_lt_of_le hG b9.size
   obtain ⟨p5,a5,n5,c5,b5,m5,d5,rfl⟩ := hq.open
   obtain ⟨u0,u1,u2,x0,x1,x2,y0,y1,y2,VA2⟩ := VA.put hlt hq
   have BB2 : Below w.heap.size w (((w3.setCell ⟨w.heap.size,i * 3,none⟩ (.bool p5)).setCell ⟨w.heap.size,i * 3 + 1,none⟩ (.slice a5 n5 c5)).setCell ⟨w.heap.size,i * 3 + 2,none⟩ (.slice b5 m5 d5)) := ((BB.setCell (Nat.le_refl _) _).setCell (Nat.le_refl _) _).setCell (Nat.le_refl _) _
   have hG4 : w.heap.size < (((w3.setCell ⟨w.heap.size,i * 3,none⟩ (.bool p5)).setCell ⟨w.heap.size,i * 3 + 1,none⟩ (.slice a5 n5 c5)).setCell ⟨w.heap.size,i * 3 + 2,none⟩ (.slice b5 m5 d5)).heap.size := by simpa using hG3
   clear b9 VA BB hG
   go_wp2
   go_roundw
   case rel => exact ⟨i + 1,by omega,by go_num,VA2,hG4,BB2⟩
   case measure => simp [intOf]; omega
  ·obtain rfl : i = n := by omega
   have g1 : ¬ (i : Int) < (i : Int) := by omega
   go_wp2
   go_ret
   exact ⟨_,rfl,Nat.le_refl _,hG,VA.farr,BB⟩
theorem rat_num {p : Bool} {a b : Option Addr} {n c m d : Nat} : ∀ u ∈ [Value.bool p,.slice a n c,.slice b m d],¬ IsNum u := by
 intro u hu
 simp only [List.mem_cons,List.not_mem_nil,or_false] at hu
 rcases hu with rfl | rfl | rfl
 ·exact num_bool _
 ·exact num_slice _ _ _
 ·exact num_slice _ _ _
set_option maxRecDepth 100000 in
set_option maxHeartbeats 16000000 in
theorem added_at (v : Value) (l : List Sp) (n : Nat) (w : World) (hS : SRow12 w v l) (hf : ∀ s ∈ l,s.feat < n) (hn : n ≤ 1000) (hll : l.length ≤ 100000) :
  Calls Tryz.prog 78 #[v,.int .i64 (n : Int)] w fun e w' => ∃ g,e = .returned (.slice (some ⟨g,0,none⟩) n n) ∧ w.heap.size ≤ g ∧ g < w'.heap.size ∧ AdI w.heap.size w' g n l ∧ Below w.heap.size w w' := by
 obtain ⟨as_,cs_,rfl,hlc,hl63⟩ := GRow.open hS
 obtain ⟨i0,hi,hz0,hz1,hz2⟩ := info_parts info_rats
 have HS0 : Hid (SRow12 w (.slice as_ l.length cs_) l) := hS
 have HFL : Hid (∀ s ∈ l,s.feat < n) := hf
 clear hS hf
 go_enter Tryz.func78,Tryz.ntmps78
 go_wp2_with (at_make; refine wpList_make_full _ rfl _ _ 104 rfl _ 43 i0 (.slice none 0 0) 1 Tryz.underlying104 hi hz0 hz1 _ _ _ _ n rfl rfl (by omega) (by omega) (by rw [hz2]; omega) (by unfold maxLen; omega) (Nat.le_refl _) ?_; intro w2 hown hgrow)
 have BB := below_grown hgrow
 have AD0 : AdI w.heap.size w2 w.heap.size n (l.take 0) := AdI.made (fun j hj => ⟨owns_cell hown (made_nil n j hj),hown.frozenAt _⟩)
 have hG : w.heap.size < w2.heap.size := (owns_cap hown).2.2
 clear hown hgrow hi hz0 hz1 hz2
 obtain ⟨m,hm⟩ : ∃ m,l.length = m := ⟨_,rfl⟩
 have HML : Hid (l.length = m) := hm
 rw [hm] at hlc hll ⊢
 clear hm
 go_loopw [12] (fun vi wr => ∃ i : Nat,i ≤ m ∧ vi = .int .i64 (i : Int) ∧ AdI w.heap.size wr w.heap.size n (l.take i) ∧ w.heap.size < wr.heap.size ∧ Below w.heap.size w wr) (fun vi _ => m - (intOf vi).toNat)
 case atStart => exact ⟨0,by omega,rfl,AD0,hG,BB⟩
 case round =>
  clear AD0 BB hG
  obtain ⟨i,hi,rfl,AD,hG,BB⟩ := hrel
  by_cases hlt : i < m
  ·have g1 : (i : Int) < (m : Int) := by omega
   have g0 : (0 : Int) ≤ (i : Int) := by omega
   obtain ⟨s,hs⟩ : ∃ s,l[i]? = some s := ⟨_,List.getElem?_eq_getElem (by have := HML.out; omega)⟩
   have hsf : s.feat < n := HFL.out s (List.mem_of_getElem? hs)
   have HTK : Hid (l.take (i + 1) = l.take i ++ [s]) := by
    show l.take (i + 1) = _
    rw [List.take_add_one,hs]
    rfl
   have hal : (adds (l.take i) s.feat).length ≤ 1000000 := Nat.le_trans (adds_len _ _) (Nat.le_trans (List.length_take_le _ _) (by omega))
   obtain ⟨bs,os,cc,p1,a1,n1,c1,b1,m1,d1,hvv,hcc,X0,X1,X2,X3,X4,X5,rs⟩ := (HS0.out.below BB).at hs
   rw [HML.out] at hvv
   cases hvv
   clear hs hcc
   obtain ⟨vf,hvf,_,FO⟩ := AD.at hsf
   have HAB : Hid (∀ g,vf.ownBlock = some g → g < wr.heap.size) := fun g hg => (FO.both g hg).2
   obtain ⟨af,cf,rfl,hcf⟩ := FO.slice
   have XF : Cel10 wr w.heap.size s.feat _ := ⟨hvf⟩
   clear FO hvf
   obtain ⟨W3,hW3,hS3,hL3,VS,FS⟩ := V6.lay wr 79 (.int .i64 (s.tree : Int)) (.int .i64 (s.node : Int)) (.int .i64 (s.feat : Int)) (.bool p1) (.slice a1 n1 c1) (.slice b1 m1 d1)
   replace AD := AD.below hL3
   replace XF := XF.below hL3
   replace rs := rs.below hL3
   replace BB := BB.trans (hL3.mono BB.size)
   have hRw : w.heap.size < wr.heap.size := hG
   clear hL3 hG
   obtain ⟨v0,v1,v2,v3,v4,v5⟩ := id VS
   rw [hW3] at v0 v1 v2 v3 v4 v5
   go_wp2
   clear v0 v1 v2 v3 v4 v5 X0 X1 X2 X3 X4 X5 FS
   rw [← hW3]
   generalize wr.heap.size = R3 at *
   clear hW3 hS3
   have HLT : Hid ((adds (l.take i) s.feat).length = (adds (l.take i) s.feat).length) := rfl
   obtain ⟨len,hlen⟩ : ∃ len,(adds (l.take i) s.feat).length = len := ⟨_,rfl⟩
   have HLN : Hid ((adds (l.take i) s.feat).length = len) := hlen
   rw [hlen] at hal XF HAB hcf
   clear hlen HLT
   have e0 : (0 : Int) ≤ (s.feat : Int) := by omega
   have e1 : (s.feat : Int) < (n : Int) := by omega
   have hDr : Below W3.heap.size W3 W3.drew := (Below.refl _ _).drew
   replace AD := AD.below hDr
   replace XF := XF.below hDr
   replace VS := VS.below hDr
   replace rs := rs.below hDr
   replace BB := BB.trans (hDr.mono BB.size)
   clear hDr
   refine wp_region_held_drew (S := (fun w' => w'.cell? ⟨R3,2,none⟩ = some (.int .i64 (s.feat : Int)) ∧ w'.cell? ⟨R3,3,none⟩ = some (.bool p1) ∧ w'.cell? ⟨R3,3 + 1,none⟩ = some (.slice a1 n1 c1) ∧ w'.cell? ⟨R3,3 + 2,none⟩ = some (.slice b1 m1 d1))) (by kernel_rfl) ?_ (fun hHeld => ?_)
   ·exact ⟨VS.c2,VS.c3,VS.c4,VS.c5⟩
   generalize W3.drew = W41 at *
   refine xT 0 (v := ?_) (hy := Or.inl ⟨by rfl,?_⟩) (h := ?_)
   rotate_left
   ·(intro w hSw; (try dsimp only at hSw); go_simp; (try with_reducible rfl))
   (try simp only [Act.put,xL4,xL5,xL6])
   refine xT 1 (v := ?_) (hy := Or.inl ⟨by rfl,?_⟩) (h := ?_)
   rotate_left
   ·(intro w hSw; (try dsimp only at hSw); go_simp; (try with_reducible rfl))
   (try simp only [Act.put,xL4,xL5,xL6])
   refine xT 2 (v := ?_) (hy := Or.inl ⟨by rfl,?_⟩) (h := ?_)
   rotate_left
   ·(intro w hSw; (try dsimp only at hSw); go_simp; (try with_reducible rfl))
   (try simp only [Act.put,xL4,xL5,xL6])
   refine xT 3 (v := ?_) (hy := Or.inl ⟨by rfl,?_⟩) (h := ?_)
   rotate_left
   ·(intro w hSw; (try dsimp only at hSw); go_simp; (try with_reducible rfl))
   (try simp only [Act.put,xL4,xL5,xL6])
   refine xT 4 (v := ?_) (hy := Or.inl ⟨by rfl,?_⟩) (h := ?_)
   rotate_left
   ·(intro w hSw; (try dsimp only at hSw); go_simp; (try with_reducible rfl))
   (try simp only [Act.put,xL4,xL5,xL6])
   refine xT 5 (v := ?_) (hy := Or.inl ⟨by rfl,?_⟩) (h := ?_)
   rotate_left
   ·(intro w hSw; (try dsimp only at hSw); go_simp; (try with_reducible rfl))
   (try simp only [Act.put,xL4,xL5,xL6])
   refine xT 6 (v := ?_) (hy := Or.inl ⟨by rfl,?_⟩) (h := ?_)
   rotate_left
   ·(intro w hSw; (try dsimp only at hSw); go_simp; (try with_reducible rfl))
   (try simp only [Act.put,xL4,xL5,xL6])
   refine xT 8 (v := ?_) (hy := Or.inl ⟨by rfl,?_⟩) (h := ?_)
   rotate_left
   ·(intro w hSw; (try dsimp only at hSw); go_simp; (try with_reducible rfl))
   (try simp only [Act.put,xL4,xL5,xL6])
   refine xT 9 (v := ?_) (hy := Or.inl ⟨by rfl,?_⟩) (h := ?_)
   rotate_left
   ·(intro w hSw; (try dsimp only at hSw); go_simp; (try with_reducible rfl))
   (try simp only [Act.put,xL4,xL5,xL6])
   refine xR [7,10] (h := ?_)
   refine xC (h := fun K hK => ?_) (hs := ?_)
   ·
    have XL := XF.cell
    go_simp
    clear XL
    refine hK.out _ _ ?_ (fun hH1 => ?_)
    ·exact ⟨VS.c2,VS.c3,VS.c4,VS.c5⟩
    clear hK K hHeld
    (try simp only [Act.put,xL4,xL5,xL6])
    refine xR [10] (h := ?_)
    refine xN (h := fun K hK => ?_)
    go_simp
    have hL7 : Below W41.heap.size W41 (W41.alloc (.cells #[.bool p1,.slice a1 n1 c1,.slice b1 m1 d1] 34)) := (Below.refl _ _).alloc (Nat.le_refl _) _
    have hnb : ∀ (j : Nat) u,[Value.bool p1,.slice a1 n1 c1,.slice b1 m1 d1][j]? = some u → (W41.alloc (.cells #[.bool p1,.slice a1 n1 c1,.slice b1 m1 d1] 34)).cell? ((⟨W41.heap.size,0,none⟩ : Addr).add j) = some u := news_block (heap_alloc_new _ _)
    replace AD := AD.below hL7
    replace XF := XF.below hL7
    replace VS := VS.below hL7
    replace rs := rs.below hL7
    replace BB := BB.trans (hL7.mono BB.size)
    clear hL7
    generalize W41.alloc (.cells #[.bool p1,.slice a1 n1 c1,.slice b1 m1 d1] 34) = W7 at *
    generalize W41.heap.size = R7 at *
    refine hK.out _ _ ?_ (fun hH2 => ?_)
    ·exact ⟨VS.c2,VS.c3,VS.c4,VS.c5⟩
    clear hK K hH1
    (try simp only [Act.put,xL4,xL5,xL6])
    refine xR [11] (h := ?_)
    refine xN (h := fun K hK => ?_)
    obtain ⟨vg,hvg,hvz,FO⟩ := AD.at hsf
    obtain rfl : vg = .slice af len cf := by have h9 := XF.cell; rw [hvg] at h9; injection h9
    rw [HLN.out] at FO
    obtain ⟨us,el,o1,o2,o3,o4⟩ := FO
    have hsz := BB.size
    have hul : us.length = len * 3 := o1.1
    refine step_append_pure (Q' := IsNum) (by rfl) _ _ _ (by rfl) w.heap.size 34 (.agg #[.bool false,.slice none 0 0,.slice none 0 0]) 3 56 Tryz.underlying43 info_wrat (by rfl) (by omega) (.slice af len cf) (by rfl) len us o1 o2 ⟨R7,0,none⟩ 1 (by rfl) [.bool p1,.slice a1 n1 c1,.slice b1 m1 d1] rfl hnb (by simp [Value.oneCell']) rat_num rat_num (by omega) (by omega) hsz ?_
    intro gN cN w5 ho5 hg5 hat5 hp5 hk5
    have BB5 : Below w.heap.size w w5 := below_grownB BB hg5 hsz (fun g hg => (World.ownsRow.lt o1 g hg).1)
    have HO5 : Hid (FOwn w.heap.size w5 (.slice (some ⟨gN,0,none⟩) (len + 1) cN) (len + 1) (fun i_1 => (adds (l.take i) s.feat ++ [s.add]).getD i_1 0)) := by
     have h9 := HLN.out
     refine FOwn.more ho5 hp5 hul o3 (fun j hj => ?_) ?_ hk5
     ·have := o4 j hj
      simp only [List.getD_eq_getElem?_getD] at this ⊢
      rw [List.getElem?_append_left (by omega)]
      exact this
     ·simp only [List.getD_eq_getElem?_getD]
      rw [List.getElem?_append_right (by omega),h9,Nat.sub_self]
      exact rs
    have HM5 : Hid (w5.cell? ⟨w.heap.size,s.feat,none⟩ = some (.slice af len cf) ∧ w5.frozen? ⟨w.heap.size,s.feat,none⟩ = false ∧ AdI w.heap.size (w5.setCell ⟨w.heap.size,s.feat,none⟩ (.slice (some ⟨gN,0,none⟩) (len + 1) cN)) w.heap.size n (l.take i ++ [s])) := by
     have h9 := HLN.out
     have h8 := AD.more (g5 := gN) (c5 := cN) hsf hvg hg5 hk5 hat5 (by rw [h9]; exact HO5.out)
     rw [h9] at h8
     exact h8
    have VS5 := VS.block (hg5.block R3 VS.lt (fun e => by have := HAB.out R3 e.symm; omega))
    have hG5 : w.heap.size < w5.heap.size := Nat.lt_of_lt_of_le XF.lt hg5.size
    clear AD XF VS rs BB o1 o2 o3 o4 hul hvg hvz hsz ho5 hg5 hat5 hp5 hk5 hnb HO5
    have VS := VS5
    have BB := BB5
    have hG3 := hG5
    clear VS5 BB5 hG5
    refine hK.out _ _ ?_ (fun hH3 => ?_)
    ·exact ⟨VS.c2,VS.c3,VS.c4,VS.c5⟩
    clear hK K hH2
    (try simp only [Act.put,xL4,xL5,xL6])
    refine xT 12 (v := ?_) (hy := Or.inl ⟨by rfl,?_⟩) (h := ?_)
    rotate_left
    ·(intro w hSw; (try dsimp only at hSw); go_simp; (try with_reducible rfl))
    (try simp only [Act.put,xL4,xL5,xL6])
    refine xR [13] (h := ?_)
    refine xN (h := fun K hK => ?_)
    obtain ⟨x5,y5,AD⟩ := HM5.out
    have BB6 := BB.setCell (p := ⟨w.heap.size,s.feat,none⟩) (Nat.le_refl _) (.slice (some ⟨gN,0,none⟩) (len + 1) cN)
    have VS6 := VS.block (w' := w5.setCell ⟨w.heap.size,s.feat,none⟩ (.slice (some ⟨gN,0,none⟩) (len + 1) cN)) (Below.heap_setCell _ _ _ _ (by show R3 ≠ w.heap.size; omega))
    have hG6 : w.heap.size < (w5.setCell ⟨w.heap.size,s.feat,none⟩ (.slice (some ⟨gN,0,none⟩) (len + 1) cN)).heap.size := by simpa using hG3
    go_simp
    clear x5 y5 BB VS hG3 HM5
    generalize w5.setCell ⟨w.heap.size,s.feat,none⟩ (.slice (some ⟨gN,0,none⟩) (len + 1) cN) = W9 at *
    have VS := VS6
    have BB := BB6
    have hG3 := hG6
    clear VS6 BB6 hG6
    refine hK.out _ _ ?_ (fun hH4 => ?_)
    ·exact ⟨VS.c2,VS.c3,VS.c4,VS.c5⟩
    clear hK K hH3
    (try simp only [Act.put,xL4,xL5,xL6])
    refine wpAnyH_done (by kernel_rfl) ?_ _
    clear hH4
    go_wp2
    go_roundw
    case rel => exact ⟨i + 1,by omega,by go_num,by rw [HTK.out]; exact AD,hG3,BB⟩
    case measure => simp [intOf]; omega
   refine xC (h := fun K hK => ?_) (hs := ?_)
   ·
    go_simp
    have hL7 : Below W41.heap.size W41 (W41.alloc (.cells #[.bool p1,.slice a1 n1 c1,.slice b1 m1 d1] 34)) := (Below.refl _ _).alloc (Nat.le_refl _) _
    have hnb : ∀ (j : Nat) u,[Value.bool p1,.slice a1 n1 c1,.slice b1 m1 d1][j]? = some u → (W41.alloc (.cells #[.bool p1,.slice a1 n1 c1,.slice b1 m1 d1] 34)).cell? ((⟨W41.heap.size,0,none⟩ : Addr).add j) = some u := news_block (heap_alloc_new _ _)
    replace AD := AD.below hL7
    replace XF := XF.below hL7
    replace VS := VS.below hL7
    replace rs := rs.below hL7
    replace BB := BB.trans (hL7.mono BB.size)
    clear hL7
    generalize W41.alloc (.cells #[.bool p1,.slice a1 n1 c1,.slice b1 m1 d1] 34) = W7 at *
    generalize W41.heap.size = R7 at *
    refine hK.out _ _ ?_ (fun hH1 => ?_)
    ·exact ⟨VS.c2,VS.c3,VS.c4,VS.c5⟩
    clear hK K hHeld
    (try simp only [Act.put,xL4,xL5,xL6])
    refine xR [7] (h := ?_)
    refine xN (h := fun K hK => ?_)
    have XL := XF.cell
    go_simp
    clear XL
    refine hK.out _ _ ?_ (fun hH2 => ?_)
    ·exact ⟨VS.c2,VS.c3,VS.c4,VS.c5⟩
    clear hK K hH1
    (try simp only [Act.put,xL4,xL5,xL6])
    refine xR [11] (h := ?_)
    refine xN (h := fun K hK => ?_)
    obtain ⟨vg,hvg,hvz,FO⟩ := AD.at hsf
    obtain rfl : vg = .slice af len cf := by have h9 := XF.cell; rw [hvg] at h9; injection h9
    rw [HLN.out] at FO
    obtain ⟨us,el,o1,o2,o3,o4⟩ := FO
    have hsz := BB.size
    have hul : us.length = len * 3 := o1.1
    refine step_append_pure (Q' := IsNum) (by rfl) _ _ _ (by rfl) w.heap.size 34 (.agg #[.bool false,.slice none 0 0,.slice none 0 0]) 3 56 Tryz.underlying43 info_wrat (by rfl) (by omega) (.slice af len cf) (by rfl) len us o1 o2 ⟨R7,0,none⟩ 1 (by rfl) [.bool p1,.slice a1 n1 c1,.slice b1 m1 d1] rfl hnb (by simp [Value.oneCell']) rat_num rat_num (by omega) (by omega) hsz ?_
    intro gN cN w5 ho5 hg5 hat5 hp5 hk5
    have BB5 : Below w.heap.size w w5 := below_grownB BB hg5 hsz (fun g hg => (World.ownsRow.lt o1 g hg).1)
    have HO5 : Hid (FOwn w.heap.size w5 (.slice (some ⟨gN,0,none⟩) (len + 1) cN) (len + 1) (fun i_1 => (adds (l.take i) s.feat ++ [s.add]).getD i_1 0)) := by
     have h9 := HLN.out
     refine FOwn.more ho5 hp5 hul o3 (fun j hj => ?_) ?_ hk5
     ·have := o4 j hj
      simp only [List.getD_eq_getElem?_getD] at this ⊢
      rw [List.getElem?_append_left (by omega)]
      exact this
     ·simp only [List.getD_eq_getElem?_getD]
      rw [List.getElem?_append_right (by omega),h9,Nat.sub_self]
      exact rs
    have HM5 : Hid (w5.cell? ⟨w.heap.size,s.feat,none⟩ = some (.slice af len cf) ∧ w5.frozen? ⟨w.heap.size,s.feat,none⟩ = false ∧ AdI w.heap.size (w5.setCell ⟨w.heap.size,s.feat,none⟩ (.slice (some ⟨gN,0,none⟩) (len + 1) cN)) w.heap.size n (l.take i ++ [s])) := by
     have h9 := HLN.out
     have h8 := AD.more (g5 := gN) (c5 := cN) hsf hvg hg5 hk5 hat5 (by rw [h9]; exact HO5.out)
     rw [h9] at h8
     exact h8
    have VS5 := VS.block (hg5.block R3 VS.lt (fun e => by have := HAB.out R3 e.symm; omega))
    have hG5 : w.heap.size < w5.heap.size := Nat.lt_of_lt_of_le XF.lt hg5.size
    clear AD XF VS rs BB o1 o2 o3 o4 hul hvg hvz hsz ho5 hg5 hat5 hp5 hk5 hnb HO5
    have VS := VS5
    have BB := BB5
    have hG3 := hG5
    clear VS5 BB5 hG5
    refine hK.out _ _ ?_ (fun hH3 => ?_)
    ·exact ⟨VS.c2,VS.c3,VS.c4,VS.c5⟩
    clear hK K hH2
    (try simp only [Act.put,xL4,xL5,xL6])
    refine xT 12 (v := ?_) (hy := Or.inl ⟨by rfl,?_⟩) (h := ?_)
    rotate_left
    ·(intro w hSw; (try dsimp only at hSw); go_simp; (try with_reducible rfl))
    (try simp only [Act.put,xL4,xL5,xL6])
    refine xR [13] (h := ?_)
    refine xN (h := fun K hK => ?_)
    obtain ⟨x5,y5,AD⟩ := HM5.out
    have BB6 := BB.setCell (p := ⟨w.heap.size,s.feat,none⟩) (Nat.le_refl _) (.slice (some ⟨gN,0,none⟩) (len + 1) cN)
    have VS6 := VS.block (w' := w5.setCell ⟨w.heap.size,s.feat,none⟩ (.slice (some ⟨gN,0,none⟩) (len + 1) cN)) (Below.heap_setCell _ _ _ _ (by show R3 ≠ w.heap.size; omega))
    have hG6 : w.heap.size < (w5.setCell ⟨w.heap.size,s.feat,none⟩ (.slice (some ⟨gN,0,none⟩) (len + 1) cN)).heap.size := by simpa using hG3
    go_simp
    clear x5 y5 BB VS hG3 HM5
    generalize w5.setCell ⟨w.heap.size,s.feat,none⟩ (.slice (some ⟨gN,0,none⟩) (len + 1) cN) = W9 at *
    have VS := VS6
    have BB := BB6
    have hG3 := hG6
    clear VS6 BB6 hG6
    refine hK.out _ _ ?_ (fun hH4 => ?_)
    ·exact ⟨VS.c2,VS.c3,VS.c4,VS.c5⟩
    clear hK K hH3
    (try simp only [Act.put,xL4,xL5,xL6])
    refine wpAnyH_done (by kernel_rfl) ?_ _
    clear hH4
    go_wp2
    go_roundw
    case rel => exact ⟨i + 1,by omega,by go_num,by rw [HTK.out]; exact AD,hG3,BB⟩
    case measure => simp [intOf]; omega
   exact AllReadyH.nil
  ·obtain rfl : i = m := by omega
   have g1 : ¬ (i : Int) < (i : Int) := by omega
   go_wp2
   go_ret
   refine ⟨_,rfl,Nat.le_refl _,hG,?_,BB⟩
   have h9 := HML.out
   rw [← h9,List.take_length] at AD
   exact AD
theorem spA_feat {T : Nat → Nat → Nd} {N : Nat → Nat} {r : Nat → Cl} {nr k : Nat} (hm : ∀ i,i < k → MayT (nr : Int) (T i) (N i)) : ∀ i,i ≤ k → ∀ s ∈ spA T N r i,s.feat < nr
 | 0,_,s,hs => by cases hs
 | i + 1,h,s,hs => by
  rcases List.mem_append.1 (show s ∈ spA T N r i ++ spT T N r i from hs) with hs | hs
  ·exact spA_feat hm i (by omega) s hs
  ·unfold spT spL at hs
   obtain ⟨j,hj,rfl⟩ := List.mem_map.1 hs
   have hm' := hm i (by omega)
   rw [List.mem_range] at hj
   have hjl : j < (way (T i) (N i) r 0).length := by omega
   have h1 := hm'.way_in r hm'.pos j _ (List.getElem?_eq_getElem hjl) (by omega)
   have h2 := hm'.feat _ h1.1 h1.2
   show ((T i) ((way (T i) (N i) r 0).getD j 0)).feat.toNat < nr
   rw [List.getD_eq_getElem?_getD,List.getElem?_eq_getElem hjl]
   show ((T i) (way (T i) (N i) r 0)[j]).feat.toNat < nr
   omega
set_option maxRecDepth 100000 in
set_option maxHeartbeats 4000000 in
theorem svalues_no (F : Int) (vm vr : Value) (k nr : Nat) (N : Nat → Nat) (T : Nat → Nat → Nd) (r : Nat → Cl) (L C : Nat) (w : World) (hM : MRow w vm k N T L) (hR : CRow w vr nr r L) (hT : Tab w) (hL : 1 ≤ L) (hC : 2 * L + 2 ≤ C) (hCn : 255 * C ≤ 10000) (hw : whyI F k N T nr ≠ 0) :
  Calls Tryz.prog 37 #[.agg #[.int .i64 F,vm],vr] w fun e w' => e = .returned (.tuple #[.slice none 0 0,.int .i64 (whyI F k N T nr)]) ∧ Below w.heap.size w w' := by
 obtain ⟨ao,c,rfl,hnc,hc63⟩ := hM.open
 obtain ⟨ar,cr,rfl,hrc,hr63⟩ := hR.open
 obtain ⟨W0,hW0,hS0,hL0,VM⟩ := V2.lay w 24 (.int .i64 F) (.slice ao k c)
 have BB : Below w.heap.size w W0 := hL0
 clear hL0
 have HM0 : Hid (MRow w (.slice ao k c) k N T L) := hM
 have HR0 : Hid (CRow w (.slice ar nr cr) nr r L) := hR
 have HT0 : Hid (Tab w) := hT
 clear hM hR hT
 go_enter Tryz.func37,Tryz.ntmps37
 obtain ⟨VM_0,VM_1,VM_2,VM_3⟩ := id VM
 rw [hW0] at VM_0 VM_1 VM_2 VM_3
 go_wp2_with fail
 clear VM_0 VM_1 VM_2 VM_3
 rw [← hW0]
 clear hW0 hS0
 refine (ssteps_no F _ _ k nr N T r L C _ (HM0.out.below BB) (HR0.out.below BB) (HT0.out.below BB) hL hC hCn hw).mono ?_
 rintro e w1 ⟨rfl,b1⟩
 replace BB := BB.trans (b1.mono BB.size)
 clear b1
 obtain ⟨e1,he1⟩ : ∃ e1,whyI F k N T nr = e1 := ⟨_,rfl⟩
 have HE : Hid (whyI F k N T nr = e1) := he1
 rw [he1] at hw
 rw [he1]
 clear he1
 have g2 : (e1 != 0) = true := by simpa using hw
 have g3 : decide (e1 = 0) = false := decide_eq_false hw
 go_wp2
 go_ret2
 exact ⟨by rw [HE.out]; rfl,BB⟩
set_option maxRecDepth 100000 in
set_option maxHeartbeats 16000000 in
theorem svalues_yes (vm vr : Value) (k nr : Nat) (N : Nat → Nat) (T : Nat → Nat → Nd) (r : Nat → Cl) (L C : Nat) (w : World) (hM : MRow w vm k N T L) (hR : CRow w vr nr r L) (hT : Tab w) (hL : 1 ≤ L) (hC : 2 * L + 2 ≤ C) (hCn : 255 * C ≤ 10000) (hw : whyI (nr : Int) k N T nr = 0) (hB : mayB (nr : Int) k N T = true) (hk : k ≤ 6) (M : Nat) (hM1 : 1 ≤ M) (hMS : ∀ s ∈ spA T N r k,qsz s.add ≤ M) (hMM : (spA T N r k).length * (M + 1) + M ≤ 100000) :
  Calls Tryz.prog 37 #[.agg #[.int .i64 (nr : Int),vm],vr] w fun e w' => ∃ u,e = .returned (.tuple #[u,.int .i64 0]) ∧ FRow w' u nr (valS (spA T N r k)) ∧ Below w.heap.size w w' := by
 obtain ⟨ao,c,rfl,hnc,hc63⟩ := hM.open
 obtain ⟨ar,cr,rfl,hrc,hr63⟩ := hR.open
 obtain ⟨W0,hW0,hS0,hL0,VM⟩ := V2.lay w 24 (.int .i64 (nr : Int)) (.slice ao k c)
 have BB : Below w.heap.size w W0 := hL0
 clear hL0
 have HM0 : Hid (MRow w (.slice ao k c) k N T L) := hM
 have HR0 : Hid (CRow w (.slice ar nr cr) nr r L) := hR
 have HT0 : Hid (Tab w) := hT
 clear hM hR hT
 go_enter Tryz.func37,Tryz.ntmps37
 obtain ⟨VM_0,VM_1,VM_2,VM_3⟩ := id VM
 rw [hW0] at VM_0 VM_1 VM_2 VM_3
 go_wp2_with fail
 clear VM_0 VM_1 VM_2 VM_3
 rw [← hW0]
 clear hW0 hS0
 have HMY : Hid (∀ i,i < k → MayT (nr : Int) (T i) (N i)) := (mayB_may hB).2.2.2
 have hn64 : nr ≤ 64 := by have := (mayB_may hB).2.1; omega
 refine (ssteps_yes (nr : Int) _ _ k nr N T r L C _ (HM0.out.below BB) (HR0.out.below BB) (HT0.out.below BB) hL hC hCn hw hB).mono ?_
 rintro e w1 ⟨vs,rfl,OS,b1⟩
 replace VM := VM.below b1
 replace BB := BB.trans (b1.mono BB.size)
 have SR := OS.row
 clear b1 OS hw hB
 have HFS : Hid (∀ s ∈ spA T N r k,s.feat < nr) := spA_feat HMY.out k (Nat.le_refl _)
 have HLS : Hid ((spA T N r k).length ≤ 100000) := by
  have := spA_len HMY.out (r := r) k (Nat.le_refl _)
  show _ ≤ _
  omega
 have HMS : Hid (∀ s ∈ spA T N r k,qsz s.add ≤ M) := hMS
 have HMM : Hid ((spA T N r k).length * (M + 1) + M ≤ 100000) := hMM
 clear hMS hMM
 obtain ⟨l,hl⟩ : ∃ l,spA T N r k = l := ⟨_,rfl⟩
 have HSL : Hid (spA T N r k = l) := hl
 rw [hl] at SR HFS HLS HMS HMM
 clear hl
 obtain ⟨as_,cs_,rfl,hlc,hl63⟩ := GRow.open SR
 obtain ⟨VM_0,VM_1,VM_2,VM_3⟩ := id VM
 go_wp2_with fail
 clear VM_0 VM_1 VM_2 VM_3
 refine (zeros_at nr _ (by omega)).mono ?_
 rintro e w2 ⟨G,rfl,hG0,hG1,FA,b2⟩
 have hGB : w.heap.size ≤ G := Nat.le_trans BB.size hG0
 replace VM := VM.below b2
 replace SR := SR.below b2
 replace BB := BB.trans (b2.mono BB.size)
 clear b2 hG0
 obtain ⟨VM_0,VM_1,VM_2,VM_3⟩ := id VM
 go_wp2_with fail
 clear VM_0 VM_1 VM_2 VM_3
 refine (added_at _ l nr _ SR HFS.out (by omega) HLS.out).mono ?_
 rintro e w3 ⟨g,rfl,hg0,hg1,AD,b3⟩
 replace FA := FA.below b3
 replace BB := BB.trans (b3.mono BB.size)
 have hgG : g ≠ G := by omega
 clear b3 VM SR
 replace FA := FA.congr (q' := (fun j => if j < 0 then valS l j else 0)) (fun j _ => by rw [if_neg (by omega)])
 obtain ⟨B3,hB3⟩ : ∃ B3,w2.heap.size = B3 := ⟨_,rfl⟩
 rw [hB3] at AD hG1 hg0
 clear hB3
 go_wp2
 go_loopw [28] (fun vi wr => ∃ i : Nat,i ≤ nr ∧ vi = .int .i64 (i : Int) ∧ FArr wr G nr (fun j => if j < i then valS l j else 0) ∧ AdI B3 wr g nr l ∧ Below w.heap.size w wr) (fun vi _ => nr - (intOf vi).toNat)
 case atStart => exact ⟨0,by omega,rfl,FA,AD,BB⟩
 case round =>
  clear FA AD BB
  obtain ⟨i,hi,rfl,FA,AD,BB⟩ := hrel
  by_cases hlt : i < nr
  ·have g1 : (i : Int) < (nr : Int) := by omega
   have g0 : (0 : Int) ≤ (i : Int) := by omega
   obtain ⟨vf,hvf,_,FO⟩ := AD.at hlt
   obtain ⟨af,cf,rfl,hcf⟩ := FO.slice
   have HVI : Hid (valS l i = sumL (adds l i)) := rfl
   have HSM : Hid (sumq (fun j => (adds l i).getD j 0) (adds l i).length = sumL (adds l i)) := sumq_all _
   have HQ : Hid (∀ j,j < (adds l i).length → qsz ((adds l i).getD j 0) ≤ M) := fun j hj => by
    obtain ⟨s,hs,e9⟩ := adds_mem (List.getElem_mem hj)
    rw [List.getD_eq_getElem?_getD,List.getElem?_eq_getElem hj]
    show qsz (adds l i)[j] ≤ M
    rw [← e9]
    exact HMS.out s hs
   have HAL : Hid ((adds l i).length ≤ l.length) := adds_len _ _
   have HZL : Hid ((adds l i).length = 0 → adds l i = []) := fun h => List.length_eq_zero_iff.1 h
   have FR := FO.row
   clear FO
   obtain ⟨len,hlen⟩ : ∃ len,(adds l i).length = len := ⟨_,rfl⟩
   rw [hlen] at HSM HQ HAL HZL FR hvf hcf
   clear hlen
   by_cases hz : len = 0
   ·subst hz
    have g2 : ¬ (0 : Int) < ((0 : Nat) : Int) := by omega
    have g3 : decide ((0 : Int) < ((0 : Nat) : Int)) = false := by decide
    replace FA := FA.congr (q' := (fun j => if j < i + 1 then valS l j else 0)) (fun j _ => by
     by_cases e : j = i
     ·rw [if_neg (by omega),if_pos (by omega),e,HVI.out,HZL.out rfl]; rfl
     ·by_cases e2 : j < i
      ·rw [if_pos e2,if_pos (by omega)]
      ·rw [if_neg e2,if_neg (by omega)])
    clear HVI HSM HQ HAL HZL FR
    go_wp2
    go_roundw
    case rel => exact ⟨i + 1,by omega,by go_num,FA,AD,BB⟩
    case measure => simp [intOf]; omega
   ·have g2 : (0 : Int) < (len : Int) := by omega
    have ht := HT0.out.below BB
    have hq := FR.q M HQ.out
    have h5 : len * (M + 1) + 1 ≤ l.length * (M + 1) + M := Nat.add_le_add (Nat.mul_le_mul_right _ HAL.out) hM1
    have h6 := HMM.out
    go_wp2_with fail
    refine (qsum_any M (l.length * (M + 1) + M) hM1 (by omega) HMM.out len _ _ _ hq ht h5).mono ?_
    rintro e w7 ⟨x7,rfl,h7,b7⟩
    rw [HSM.out,← HVI.out] at h7
    replace FA := FA.below b7
    replace AD := AD.below b7
    replace BB := BB.trans (b7.mono BB.size)
    obtain ⟨p7,a7,n7,c7,y7,m7,d7,rfl⟩ := h7.open
    clear b7 hq ht FR h5 h6 hvf HVI HSM HQ HAL HZL
    obtain ⟨u0,u1,u2,x0,x1,x2,y0,y1,y2,FA2,KQ⟩ := FA.put hlt h7
    replace FA2 := FA2.congr (q' := (fun j => if j < i + 1 then valS l j else 0)) (fun j _ => by
     by_cases e : j = i
     ·rw [if_pos e,if_pos (by omega),e]
     ·rw [if_neg e]
      by_cases e2 : j < i
      ·rw [if_pos e2,if_pos (by omega)]
      ·rw [if_neg e2,if_neg (by omega)])
    have BB2 : Below w.heap.size w (((w7.setCell ⟨G,i * 3,none⟩ (.bool p7)).setCell ⟨G,i * 3 + 1,none⟩ (.slice a7 n7 c7)).setCell ⟨G,i * 3 + 2,none⟩ (.slice y7 m7 d7)) := ((BB.setCell hGB _).setCell hGB _).setCell hGB _
    have AD2 := AD.far (grown_put3 w7 G i (.bool p7) (.slice a7 n7 c7) (.slice y7 m7 d7)) KQ hG1 hgG
    clear h7 KQ FA AD
    go_wp2
    go_roundw
    case rel => exact ⟨i + 1,by omega,by go_num,FA2,AD2,BB2⟩
    case measure => simp [intOf]; omega
  ·obtain rfl : i = nr := by omega
   have g1 : ¬ (i : Int) < (i : Int) := by omega
   have HR9 := (FA.congr (q' := valS l) (fun j hj => by rw [if_pos hj])).row (by omega)
   go_wp2
   go_ret2
   exact ⟨_,rfl,by rw [HSL.out]; exact HR9,BB⟩

theorem one_cell12 {w : World} {p : Bool} {a b : Option Addr} {n c m d : Nat} {q : Rat} {L : Nat} (h : RatAt w (.agg #[.bool p,.slice a n c,.slice b m d]) q L) (ms : Bool) (ty : TypeId) : CRow (w.alloc (.cells #[.bool ms,.bool p,.slice a n c,.slice b m d] ty)) (.slice (some ⟨w.heap.size,0,none⟩) 1 1) 1 (fun _ => ⟨ms,q⟩) L :=
 ⟨_,one_row #[.bool ms,.bool p,.slice a n c,.slice b m d] ty rfl,fun i hi => ⟨rfl,p,a,n,c,b,m,d,rfl,rfl,rfl,h.below ((Below.refl _ _).alloc (Nat.le_refl _) _)⟩⟩
def row12 (_ : Nat) : Cl := ⟨false,1⟩
theorem ex12_val : valS (spA (fun _ => ex11) (fun _ => 3) row12 1) 0 = ((1 : Int) : Rat) / ((4 : Int) : Rat) := by decide +kernel
theorem ex12_sz : ∀ s ∈ spA (fun _ => ex11) (fun _ => 3) row12 1,qsz s.add ≤ 4 := by decide +kernel
theorem ex12_len : (spA (fun _ => ex11) (fun _ => 3) row12 1).length * (4 + 1) + 4 ≤ 100000 := by decide +kernel
theorem ex12_q : qsz (((1 : Int) : Rat) / ((4 : Int) : Rat)) ≤ 2 := by decide +kernel
theorem ex12_at (vm vr : Value) (w : World) (hM : MRow w vm 1 (fun _ => 3) (fun _ => ex11) 4) (hR : CRow w vr 1 row12 4) (hT : Tab w) :
  Calls Tryz.prog 37 #[.agg #[.int .i64 1,vm],vr] w fun e w' => ∃ u,e = .returned (.tuple #[u,.int .i64 0]) ∧ FRow w' u 1 (valS (spA (fun _ => ex11) (fun _ => 3) row12 1)) ∧ Below w.heap.size w w' :=
 svalues_yes vm vr 1 1 (fun _ => 3) (fun _ => ex11) row12 4 10 w hM hR hT (by omega) (by omega) (by omega) (whyI_yes ex11_may rfl) ex11_may (by omega) 4 (by omega) ex12_sz ex12_len
set_option maxRecDepth 100000 in
set_option maxHeartbeats 8000000 in
theorem awake12_at (w : World) (ht : Tab w) :
  Calls Tryz.prog 35 #[] w fun e w' => e = .returned (.bool true) ∧ Below w.heap.size w w' := by
 have BB : Below w.heap.size w w := Below.refl _ _
 go_enter Tryz.func35,Tryz.ntmps35
 go_wp2_with fail
 refine (qof_at 4 _ (by omega) (by omega)).mono ?_
 rintro e w1 ⟨v1,rfl,h1,b1⟩
 replace ht := ht.below b1
 replace BB := BB.trans (b1.mono BB.size)
 clear b1
 obtain ⟨p1,a1,n1,c1,y1,m1,d1,rfl⟩ := h1.open
 go_wp2_with fail
 refine (qone_at _).mono ?_
 rintro e w2 ⟨v2,rfl,h2,b2⟩
 replace ht := ht.below b2
 replace h1 := h1.below b2
 replace BB := BB.trans (b2.mono BB.size)
 clear b2
 obtain ⟨p2,a2,n2,c2,y2,m2,d2,rfl⟩ := h2.open
 go_wp2_with fail
 refine (qone_at _).mono ?_
 rintro e w3 ⟨v3,rfl,h3,b3⟩
 replace ht := ht.below b3
 replace h1 := h1.below b3
 replace h2 := h2.below b3
 replace BB := BB.trans (b3.mono BB.size)
 clear b3
 obtain ⟨p3,a3,n3,c3,y3,m3,d3,rfl⟩ := h3.open
 go_wp2_with fail
 refine (qof_at 3 _ (by omega) (by omega)).mono ?_
 rintro e w4 ⟨v4,rfl,h4,b4⟩
 replace ht := ht.below b4
 replace h1 := h1.below b4
 replace h2 := h2.below b4
 replace h3 := h3.below b4
 replace BB := BB.trans (b4.mono BB.size)
 clear b4
 obtain ⟨p4,a4,n4,c4,y4,m4,d4,rfl⟩ := h4.open
 obtain ⟨Wb,hWb,hLb,hSb,MR⟩ := ex11_lay w4 h1 h2 h3 h4
 replace ht := ht.below hLb
 replace BB := BB.trans (hLb.mono BB.size)
 obtain ⟨Wc,hWc,hSc,hLc,VM⟩ := V2.lay Wb 24 (.int .i64 1) (.slice (some ⟨w4.heap.size + 1,0,none⟩) 1 1)
 replace ht := ht.below hLc
 replace MR := MR.below hLc
 replace BB := BB.trans (hLc.mono BB.size)
 obtain ⟨VM_0,VM_1,VM_2,VM_3⟩ := id VM
 rw [hWc,hWb] at VM_0 VM_1 VM_2 VM_3
 rw [hSb] at hSc
 go_wp2_with fail
 rw [← hWb,← hWc]
 rw [hSb] at VM
 clear VM_0 VM_1 VM_2 VM_3 hWb hWc hLb hLc h1 h2 h3 h4 hSb hSc
 generalize w4.heap.size = R0 at *
 have hDr : Below Wc.heap.size Wc Wc.drew := (Below.refl _ _).drew
 replace ht := ht.below hDr
 replace MR := MR.below hDr
 replace VM := VM.below hDr
 replace BB := BB.trans (hDr.mono BB.size)
 clear hDr
 refine wp_region_held_drew (S := (fun w' => w'.cell? ⟨(R0 + 2),0,none⟩ = some (.int .i64 1) ∧ w'.cell? ⟨(R0 + 2),1,none⟩ = some (.slice (some ⟨R0 + 1,0,none⟩) 1 1))) (by kernel_rfl) ?_ (fun hHeld => ?_)
 ·exact ⟨VM.1,VM.2.1⟩
 generalize Wc.drew = W1 at *
 refine xT 0 (v := ?_) (hy := Or.inl ⟨by rfl,?_⟩) (h := ?_)
 rotate_left
 ·(intro w hSw; (try dsimp only at hSw); go_simp; (try with_reducible rfl))
 (try simp only [Act.put,xL4,xL5,xL6])
 refine xR [1] (h := ?_)
 refine xN (h := fun K hK => ?_)
 go_simp
 refine (qone_at _).mono ?_
 rintro e w5 ⟨v5,rfl,h5,b5⟩
 obtain ⟨p5,a5,n5,c5,y5,m5,d5,rfl⟩ := h5.open
 go_wp2_with fail
 replace ht := ht.below b5
 replace MR := MR.below b5
 replace VM := VM.below b5
 replace BB := BB.trans (b5.mono BB.size)
 clear b5
 refine hK.out _ _ ?_ (fun hH1 => ?_)
 ·exact ⟨VM.1,VM.2.1⟩
 clear hK K hHeld
 (try simp only [Act.put,xL4,xL5,xL6])
 refine xT 2 (v := ?_) (hy := Or.inl ⟨by rfl,?_⟩) (h := ?_)
 rotate_left
 ·(intro w hSw; (try dsimp only at hSw); go_simp; (try with_reducible rfl))
 (try simp only [Act.put,xL4,xL5,xL6])
 refine xR [3] (h := ?_)
 refine xN (h := fun K hK => ?_)
 go_simp
 have CR := one_cell12 (h5.at 4 (by decide +kernel)) false 71
 have hL7 : Below w5.heap.size w5 (w5.alloc (.cells #[.bool false,.bool p5,.slice a5 n5 c5,.slice y5 m5 d5] 71)) := (Below.refl _ _).alloc (Nat.le_refl _) _
 replace ht := ht.below hL7
 replace MR := MR.below hL7
 replace VM := VM.below hL7
 replace BB := BB.trans (hL7.mono BB.size)
 clear hL7 h5
 generalize w5.alloc (.cells #[.bool false,.bool p5,.slice a5 n5 c5,.slice y5 m5 d5] 71) = W7 at *
 generalize w5.heap.size = R7 at *
 refine hK.out _ _ ?_ (fun hH2 => ?_)
 ·exact ⟨VM.1,VM.2.1⟩
 clear hK K hH1
 (try simp only [Act.put,xL4,xL5,xL6])
 refine xR [4] (h := ?_)
 refine xN (h := fun K hK => ?_)
 go_simp
 refine (ex12_at _ _ _ MR CR ht).mono ?_
 rintro e w6 ⟨v6,rfl,FL,b6⟩
 skip
 go_wp2_with fail
 replace ht := ht.below b6
 replace MR := MR.below b6
 replace CR := CR.below b6
 replace VM := VM.below b6
 replace BB := BB.trans (b6.mono BB.size)
 clear b6
 refine hK.out _ _ ?_ (fun hH3 => ?_)
 ·exact ⟨VM.1,VM.2.1⟩
 clear hK K hH2
 (try simp only [Act.put,xL4,xL5,xL6])
 refine xT 5 (v := ?_) (hy := Or.inl ⟨by rfl,?_⟩) (h := ?_)
 rotate_left
 ·(intro w hSw; (try dsimp only at hSw); go_simp; (try with_reducible rfl))
 (try simp only [Act.put,xL4,xL5,xL6])
 refine xT 6 (v := ?_) (hy := Or.inl ⟨by rfl,?_⟩) (h := ?_)
 rotate_left
 ·(intro w hSw; (try dsimp only at hSw); go_simp; (try with_reducible rfl))
 (try simp only [Act.put,xL4,xL5,xL6])
 refine xT 7 (v := ?_) (hy := Or.inl ⟨by rfl,?_⟩) (h := ?_)
 rotate_left
 ·(intro w hSw; (try dsimp only at hSw); go_simp; (try with_reducible rfl))
 (try simp only [Act.put,xL4,xL5,xL6])
 refine xT 8 (v := ?_) (hy := Or.inl ⟨by rfl,?_⟩) (h := ?_)
 rotate_left
 ·(intro w hSw; (try dsimp only at hSw); go_simp; (try with_reducible rfl))
 (try simp only [Act.put,xL4,xL5,xL6])
 refine xT 9 (v := ?_) (hy := Or.inl ⟨by rfl,?_⟩) (h := ?_)
 rotate_left
 ·(intro w hSw; (try dsimp only at hSw); go_simp; (try with_reducible rfl))
 (try simp only [Act.put,xL4,xL5,xL6])
 refine wpAnyH_done (by kernel_rfl) ?_ _
 clear hH3
 clear MR CR VM
 obtain ⟨bl,ol,cl,p6,a6,n6,c6,y6,m6,d6,hvl,hlc,E6,r6⟩ := FL.at 0 (by omega)
 cases hvl
 rw [Nat.zero_mul,Nat.add_zero] at E6
 rw [ex12_val] at r6
 clear FL
 go_wp2
 have hDr : Below w6.heap.size w6 w6.drew := (Below.refl _ _).drew
 replace ht := ht.below hDr
 replace r6 := r6.below hDr
 replace E6 := E6.below hDr
 replace BB := BB.trans (hDr.mono BB.size)
 clear hDr
 refine wp_region_held_drew (S := (fun w' => w'.cell? ⟨bl,ol,none⟩ = some (.bool p6) ∧ w'.cell? ⟨bl,ol + 1,none⟩ = some (.slice a6 n6 c6) ∧ w'.cell? ⟨bl,ol + 2,none⟩ = some (.slice y6 m6 d6))) (by kernel_rfl) ?_ (fun hHeld => ?_)
 ·exact ⟨E6.1,E6.2.1,E6.2.2⟩
 generalize w6.drew = W2 at *
 refine xT 0 (v := ?_) (hy := Or.inl ⟨by rfl,?_⟩) (h := ?_)
 rotate_left
 ·(intro w hSw; (try dsimp only at hSw); go_simp; (try with_reducible rfl))
 (try simp only [Act.put,xL4,xL5,xL6])
 refine xT 1 (v := ?_) (hy := Or.inl ⟨by rfl,?_⟩) (h := ?_)
 rotate_left
 ·(intro w hSw; (try dsimp only at hSw); go_simp; (try with_reducible rfl))
 (try simp only [Act.put,xL4,xL5,xL6])
 refine xT 2 (v := ?_) (hy := Or.inl ⟨by rfl,?_⟩) (h := ?_)
 rotate_left
 ·(intro w hSw; (try dsimp only at hSw); go_simp; (try with_reducible rfl))
 (try simp only [Act.put,xL4,xL5,xL6])
 refine xT 3 (v := ?_) (hy := Or.inl ⟨by rfl,?_⟩) (h := ?_)
 rotate_left
 ·(intro w hSw; (try dsimp only at hSw); go_simp; (try with_reducible rfl))
 (try simp only [Act.put,xL4,xL5,xL6])
 refine xT 4 (v := ?_) (hy := Or.inl ⟨by rfl,?_⟩) (h := ?_)
 rotate_left
 ·(intro w hSw; (try dsimp only at hSw); go_simp; (try with_reducible rfl))
 (try simp only [Act.put,xL4,xL5,xL6])
 refine xT 5 (v := ?_) (hy := Or.inl ⟨by rfl,?_⟩) (h := ?_)
 rotate_left
 ·(intro w hSw; (try dsimp only at hSw); go_simp; (try with_reducible rfl))
 (try simp only [Act.put,xL4,xL5,xL6])
 refine xT 6 (v := ?_) (hy := Or.inl ⟨by rfl,?_⟩) (h := ?_)
 rotate_left
 ·(intro w hSw; (try dsimp only at hSw); go_simp; (try with_reducible rfl))
 (try simp only [Act.put,xL4,xL5,xL6])
 refine xT 7 (v := ?_) (hy := Or.inl ⟨by rfl,?_⟩) (h := ?_)
 rotate_left
 ·(intro w hSw; (try dsimp only at hSw); go_simp; (try with_reducible rfl))
 (try simp only [Act.put,xL4,xL5,xL6])
 refine xT 8 (v := ?_) (hy := Or.inl ⟨by rfl,?_⟩) (h := ?_)
 rotate_left
 ·(intro w hSw; (try dsimp only at hSw); go_simp; (try with_reducible rfl))
 (try simp only [Act.put,xL4,xL5,xL6])
 refine xT 9 (v := ?_) (hy := Or.inl ⟨by rfl,?_⟩) (h := ?_)
 rotate_left
 ·(intro w hSw; (try dsimp only at hSw); go_simp; (try with_reducible rfl))
 (try simp only [Act.put,xL4,xL5,xL6])
 refine xT 10 (v := ?_) (hy := Or.inl ⟨by rfl,?_⟩) (h := ?_)
 rotate_left
 ·(intro w hSw; (try dsimp only at hSw); go_simp; (try with_reducible rfl))
 (try simp only [Act.put,xL4,xL5,xL6])
 refine xR [11] (h := ?_)
 refine xN (h := fun K hK => ?_)
 go_simp
 refine (qfrac_at 1 4 _ (by omega) (by omega) (by omega) (by omega) ht).mono ?_
 rintro e w7 ⟨v8,rfl,h8,b7⟩
 obtain ⟨p8,a8,n8,c8,y8,m8,d8,rfl⟩ := h8.open
 go_wp2_with fail
 replace ht := ht.below b7
 replace r6 := r6.below b7
 replace E6 := E6.below b7
 replace BB := BB.trans (b7.mono BB.size)
 clear b7
 refine hK.out _ _ ?_ (fun hH1 => ?_)
 ·exact ⟨E6.1,E6.2.1,E6.2.2⟩
 clear hK K hHeld
 (try simp only [Act.put,xL4,xL5,xL6])
 refine xR [12] (h := ?_)
 refine xN (h := fun K hK => ?_)
 go_simp
 refine (qsame_at _ _ _ _ 2 _ (r6.at 2 ex12_q) (h8.at 2 ex12_q) (by omega) (by omega)).mono ?_
 rintro e w8 ⟨rfl,b8⟩
 rw [decide_eq_true rfl]
 go_wp2_with fail
 replace ht := ht.below b8
 replace r6 := r6.below b8
 replace h8 := h8.below b8
 replace E6 := E6.below b8
 replace BB := BB.trans (b8.mono BB.size)
 clear b8
 refine hK.out _ _ ?_ (fun hH2 => ?_)
 ·exact ⟨E6.1,E6.2.1,E6.2.2⟩
 clear hK K hH1
 (try simp only [Act.put,xL4,xL5,xL6])
 refine xT 13 (v := ?_) (hy := Or.inl ⟨by rfl,?_⟩) (h := ?_)
 rotate_left
 ·(intro w hSw; (try dsimp only at hSw); go_simp; (try with_reducible rfl))
 (try simp only [Act.put,xL4,xL5,xL6])
 refine xT 14 (v := ?_) (hy := Or.inl ⟨by rfl,?_⟩) (h := ?_)
 rotate_left
 ·(intro w hSw; (try dsimp only at hSw); go_simp; (try with_reducible rfl))
 (try simp only [Act.put,xL4,xL5,xL6])
 refine wpAnyH_done (by kernel_rfl) ?_ _
 clear hH2
 go_wp2
 go_ret
 exact ⟨rfl,BB⟩

theorem run_copy1 {P : Program} (w : World) (dT sT ty elem : TypeId) (g o dLen dCap : Nat) (a : Addr) (sLen sCap : Nat) (cur : Array Value) (t : TypeId) (cs : List Value)
  (hu : P.underlying dT = some (.slice elem)) (hs : (P.info? elem).map (·.size) = some 1)
  (hg : w.heap[g]? = some (.cells cur t (0,0))) (hn : cs.length = Nat.min sLen dLen * 1)
  (hsrc : ∀ j v,cs[j]? = some v → w.cell? (a.add j) = some v) (hfit : o + cs.length ≤ cur.size) (h1 : ∀ v ∈ cs,v.oneCell' = true) :
  (Builtin.copy_ #[dT,sT] ty #[.slice (some ⟨g,o,none⟩) dLen dCap,.slice (some a) sLen sCap]).run P w =
   .ok (goInt (Nat.min sLen dLen)) (w.setRow g (cur.toList.take o ++ cs ++ cur.toList.drop (o + cs.length)).toArray) := by
 have hl := run_loadCells_list (P := P) w a cs hsrc
 have hst := run_storeCells_at P g o t cs 0 cur w hg (by simpa using hfit) h1
 cases hq : P.info? elem with
 | none => simp [hq] at hs
 | some i =>
  have hi : i.size = 1 := by simpa [hq] using hs
  simp [Builtin.copy_,run_underlying hu,Builtin.lenOf,Builtin.firstCells,sizeOf,typeInfo,hq,hi,← hn,hl,hst]
theorem run_copy1_none {P : Program} (w : World) (dT sT ty elem : TypeId) (d a : Option Addr) (dLen dCap sLen sCap : Nat) (hu : P.underlying dT = some (.slice elem)) (hs : (P.info? elem).map (·.size) = some 1) (hn : Nat.min sLen dLen = 0) :
  (Builtin.copy_ #[dT,sT] ty #[.slice d dLen dCap,.slice a sLen sCap]).run P w = .ok (goInt 0) w := by
 cases hq : P.info? elem with
 | none => simp [hq] at hs
 | some i =>
  have hl : ∀ (x : Addr),(loadCells x 0).run P w = .ok #[] w := fun x => by simpa using run_loadCells_list (P := P) w x [] (by simp)
  cases d <;> cases a <;> simp [Builtin.copy_,run_underlying hu,Builtin.lenOf,Builtin.firstCells,sizeOf,typeInfo,hq,hn,storeCells,hl]
theorem step_copy1 {P : Program} {ops : Array Oper} {o : Oper} {a : Act} {w : World} {K : Act → World → Prop} {Q : Exit → Act → World → Prop} {E : Prop} (hgd : o.guard = none) (d s : Operand) (dT sT : TypeId)
  (ho : o.op = .call { callee := .builtin .copy,args := #[d,s],argTypes := #[dT,sT] }) (elem : TypeId) (hu : P.underlying dT = some (.slice elem)) (hsz : (P.info? elem).map (·.size) = some 1)
  (dp sp : Option Addr) (dLen dCap sLen sCap : Nat) (hd : a.eval d = .slice dp dLen dCap) (hs : a.eval s = .slice sp sLen sCap)
  (g off : Nat) (cur : Array Value) (t : TypeId) (hg : w.heap[g]? = some (.cells cur t (0,0))) (cs : List Value) (hn : cs.length = Nat.min sLen dLen * 1)
  (hpos : 0 < cs.length → dp = some ⟨g,off,none⟩ ∧ ∃ ad,sp = some ad ∧ ∀ j v,cs[j]? = some v → w.cell? (ad.add j) = some v)
  (hfit : off + cs.length ≤ cur.size) (h1 : ∀ v ∈ cs,v.oneCell' = true)
  (h : K (a.put o.dst (goInt (Nat.min sLen dLen))) (w.setRow g (spl10 cur.toList off cs).toArray)) :
  if Region.wanted o (yielded ops a.tmps) = true then Oper.wp P o a w K Q else E := by
 have hw : Region.wanted o (yielded ops a.tmps) = true := by simp [Region.wanted,hgd]
 rw [if_pos hw]
 by_cases h0 : cs.length = 0
 ·obtain rfl : cs = [] := List.eq_nil_of_length_eq_zero h0
  have hm : Nat.min sLen dLen = 0 := by simp at hn; omega
  have hrun := run_copy1_none (P := P) w dT sT o.type elem dp sp dLen dCap sLen sCap hu hsz hm
  have e9 : w.setRow g (spl10 cur.toList off []).toArray = w := by
   have : spl10 cur.toList off [] = cur.toList := by simp [spl10]
   rw [this]
   simpa using setRow_self w g cur t (0,0) hg
  rw [e9,hm] at h
  unfold Oper.wp
  simp [execOp,ho,resolve,invoke,builtin,hd,hs,hrun,Result.andThen]
  exact h
 ·obtain ⟨rfl,ad,rfl,hsrc⟩ := hpos (by omega)
  have hrun := run_copy1 (P := P) w dT sT o.type elem g off dLen dCap ad sLen sCap cur t cs hu hsz hg hn hsrc hfit h1
  have hrun2 : (Builtin.copy_ #[dT,sT] o.type #[.slice (some ⟨g,off,none⟩) dLen dCap,.slice (some ad) sLen sCap]).run P w = .ok (goInt (Nat.min sLen dLen)) (w.setRow g (spl10 cur.toList off cs).toArray) := hrun
  unfold Oper.wp
  simp [execOp,ho,resolve,invoke,builtin,hd,hs,hrun2,Result.andThen]
  exact h
def Ahead (q : Nat → Rat) (x y : Nat) : Prop := absQ (q y) < absQ (q x) ∨ (absQ (q x) = absQ (q y) ∧ x < y)
def cntN (q : Nat → Rat) : Nat → Nat
 | 0 => 0
 | i + 1 => cntN q i + (if q i = 0 then 0 else 1)
theorem cntN_le (q : Nat → Rat) : ∀ i,cntN q i ≤ i
 | 0 => Nat.le_refl _
 | i + 1 => by
  have := cntN_le q i
  show cntN q i + (if q i = 0 then 0 else 1) ≤ _
  split <;> omega
structure OrdI (q : Nat → Rat) (i : Nat) (l : List Nat) : Prop where
 mem : ∀ x ∈ l,x < i ∧ q x ≠ 0
 len : l.length = cntN q i
 ord : l.Pairwise (Ahead q)
theorem OrdI.start (q : Nat → Rat) : OrdI q 0 [] := ⟨fun x hx => (by cases hx),rfl,List.Pairwise.nil⟩
theorem OrdI.skip {q : Nat → Rat} {i : Nat} {l : List Nat} (h : OrdI q i l) (h0 : q i = 0) : OrdI q (i + 1) l := ⟨fun x hx => ⟨by have := (h.mem x hx).1; omega,(h.mem x hx).2⟩,by rw [h.len]; show _ = cntN q i + (if q i = 0 then 0 else 1); rw [if_pos h0,Nat.add_zero],h.ord⟩
structure PlO (q : Nat → Rat) (l : List Nat) (f p : Nat) : Prop where
 le : p ≤ l.length
 front : ∀ j x,j < p → l[j]? = some x → ¬ absQ (q x) < absQ (q f)
 back : ∀ j x,p ≤ j → l[j]? = some x → absQ (q x) < absQ (q f)
theorem OrdI.lay {q : Nat → Rat} {i : Nat} {l : List Nat} {p : Nat} (h : OrdI q i l) (h0 : q i ≠ 0) (hp : PlO q l i p) : OrdI q (i + 1) (l.take p ++ i :: l.drop p) := by
 have e : l = l.take p ++ l.drop p := (List.take_append_drop p l).symm
 have ho := h.ord
 rw [e,List.pairwise_append] at ho
 obtain ⟨o1,o2,o3⟩ := ho
 have hf : ∀ x ∈ l.take p,¬ absQ (q x) < absQ (q i) := fun x hx => by
  obtain ⟨j,hj⟩ := List.getElem?_of_mem hx
  have hjl := (List.getElem?_eq_some_iff.1 hj).1
  rw [List.length_take] at hjl
  rw [List.getElem?_take_of_lt (by omega)] at hj
  exact hp.front j x (by omega) hj
 have hb : ∀ x ∈ l.drop p,absQ (q x) < absQ (q i) := fun x hx => by
  obtain ⟨j,hj⟩ := List.getElem?_of_mem hx
  rw [List.getElem?_drop] at hj
  exact hp.back (p + j) x (by omega) hj
 refine ⟨fun x hx => ?_,?_,?_⟩
 ·rcases List.mem_append.1 hx with hx | hx
  ·have := h.mem x (List.mem_of_mem_take hx)
   exact ⟨by omega,this.2⟩
  ·rcases List.mem_cons.1 hx with rfl | hx
   ·exact ⟨by omega,h0⟩
   ·have := h.mem x (List.mem_of_mem_drop hx)
    exact ⟨by omega,this.2⟩
 ·show _ = cntN q i + (if q i = 0 then 0 else 1)
  rw [if_neg h0,← h.len]
  have := hp.le
  simp only [List.length_append,List.length_cons,List.length_take,List.length_drop]
  omega
 ·rw [List.pairwise_append,List.pairwise_cons]
  refine ⟨o1,⟨fun b hb' => .inl (hb b hb'),o2⟩,fun a ha b hb' => ?_⟩
  rcases List.mem_cons.1 hb' with rfl | hb'
  ·have h1 := hf a ha
   have h2 := (h.mem a (List.mem_of_mem_take ha)).1
   by_cases e9 : absQ (q b) < absQ (q a)
   ·exact .inl e9
   ·exact .inr ⟨by grind,h2⟩
  ·exact o3 a ha b hb'
theorem OrdI.mono {q : Nat → Rat} {i : Nat} {l : List Nat} (h : OrdI q i l) (f : Nat) {a b x y : Nat} (hab : a ≤ b) (hx : l[a]? = some x) (hy : l[b]? = some y) (hl : absQ (q x) < absQ (q f)) : absQ (q y) < absQ (q f) := by
 by_cases e : a = b
 ·subst e
  rw [hx] at hy
  cases hy
  exact hl
 ·have hbl := (List.getElem?_eq_some_iff.1 hy).1
  have h1 := List.pairwise_iff_getElem.1 h.ord a b (by omega) hbl (by omega)
  have e1 : l[a] = x := by have := (List.getElem?_eq_some_iff.1 hx).2; exact this
  have e2 : l[b] = y := by have := (List.getElem?_eq_some_iff.1 hy).2; exact this
  rw [e1,e2] at h1
  rcases h1 with h1 | h1
  ·grind
  ·rw [← h1.1]; exact hl
theorem VArr.at12 {w : World} {g k i : Nat} {q : Nat → Rat} (h : VArr w g k i q) {j : Nat} (hj : j < i) (hk : j < k) : ∃ p a n c b m d,w.cell? ⟨g,j * 3,none⟩ = some (.bool p) ∧ w.cell? ⟨g,j * 3 + 1,none⟩ = some (.slice a n c) ∧ w.cell? ⟨g,j * 3 + 2,none⟩ = some (.slice b m d) ∧ RepQ w (.agg #[.bool p,.slice a n c,.slice b m d]) (q j) := by
 obtain ⟨el,A,R⟩ := h
 have hr := R j hj
 obtain ⟨p,ao,m,d,bo,k',e,he⟩ := hr.open
 have h0 := A.1 j hk 0 (by omega)
 have h1 := A.1 j hk 1 (by omega)
 have h2 := A.1 j hk 2 (by omega)
 unfold elv at he hr
 simp only [Value.agg.injEq,Array.mk.injEq,List.cons.injEq,and_true] at he
 obtain ⟨e0,e1,e2⟩ := he
 rw [e0] at h0; rw [e1] at h1; rw [e2] at h2; rw [e0,e1,e2] at hr
 exact ⟨p,ao,m,d,bo,k',e,h0,h1,h2,hr⟩
structure Fst (n : Nat) (p : Nat → Bool) (s : Nat) : Prop where
 le : s ≤ n
 no : ∀ i,i < s → p i = false
 yes : ∀ i,s ≤ i → i < n → p i = true
set_option maxRecDepth 100000 in
set_option maxHeartbeats 4000000 in
theorem search12_at (K : FuncId) (caps : Array Value) (n : Nat) (p : Nat → Bool) (w : World) (hn : n ≤ 1000000) (hm : ∀ i j,i ≤ j → j < n → p i = true → p j = true) (hE : ∀ (args : Array Value) (w : World),Sem.run Tryz.prog (callFunc K args) w = .ok (.enter K args) w) (H : Hid (∀ i : Nat,i < n → ∀ w1,Below w.heap.size w w1 → Calls Tryz.prog K (#[.int .i64 (i : Int)] ++ caps) w1 fun e w2 => e = .returned (.bool (p i)) ∧ Below w1.heap.size w1 w2)) :
  Calls Tryz.prog 124 #[.int .i64 (n : Int),.func (.func K) #[] caps] w fun e w' => ∃ s : Nat,e = .returned (.int .i64 (s : Int)) ∧ Fst n p s ∧ Below w.heap.size w w' := by
 have HMO : Hid (∀ i j,i ≤ j → j < n → p i = true → p j = true) := hm
 clear hm
 have BB : Below w.heap.size w w := Below.refl _ _
 go_enter Tryz.func124,Tryz.ntmps124
 go_wp2
 go_loopw [5,6] (fun vi vj wr => ∃ i j : Nat,i ≤ j ∧ j ≤ n ∧ vi = .int .i64 (i : Int) ∧ vj = .int .i64 (j : Int) ∧ Hid (∀ k,k < i → p k = false) ∧ Hid (∀ k,j ≤ k → k < n → p k = true) ∧ Below w.heap.size w wr) (fun vi vj _ => (intOf vj - intOf vi).toNat)
 case atStart => exact ⟨0,n,by omega,by omega,rfl,rfl,(fun k hk => by omega),(fun k h1 h2 => by omega),BB⟩
 case round =>
  clear BB
  obtain ⟨i,j,hij,hjn,rfl,rfl,HL1,HR1,BB⟩ := hrel
  by_cases hlt : i < j
  ·have g1 : (i : Int) < (j : Int) := by omega
   obtain ⟨h,hh⟩ : ∃ h,h = (i + j) / 2 := ⟨_,rfl⟩
   have h1 : i ≤ h := by omega
   have h2 : h < j := by omega
   have h3 : h < n := by omega
   have f0 : IntKind.i64.wrap ((i : Int) + (j : Int)) = (i : Int) + (j : Int) := by rw [IntKind.wrap_i64]; omega
   have f1 : IntKind.u64.wrap ((i : Int) + (j : Int)) = (i : Int) + (j : Int) := by rw [IntKind.wrap_u64]; omega
   have f2 : ((i : Int) + (j : Int)) / 2 = (h : Int) := by omega
   have f2b : ((i : Int) + (j : Int)) >>> 1 = (h : Int) := by rw [Int.shiftRight_eq_div_pow]; omega
   have f3 : IntKind.u64.wrap (h : Int) = (h : Int) := by rw [IntKind.wrap_u64]; omega
   have f4 : IntKind.i64.wrap (h : Int) = (h : Int) := by rw [IntKind.wrap_i64]; omega
   have f7 : IntKind.i64.wrap ((h : Int) + 1) = (h : Int) + 1 := by rw [IntKind.wrap_i64]; omega
   clear hh
   go_wp2_with fail
   refine (H.out h h3 _ BB).mono ?_
   rintro e w2 ⟨rfl,b2⟩
   replace BB := BB.trans (b2.mono BB.size)
   clear b2
   have HPH : Hid (p h = p h) := rfl
   obtain ⟨pb,hpb⟩ : ∃ pb,p h = pb := ⟨_,rfl⟩
   have HPB : Hid (p h = pb) := hpb
   rw [hpb]
   clear hpb HPH
   cases pb
   ·have HL2 : Hid (∀ k,k < h + 1 → p k = false) := fun k hk => by
     cases e9 : p k with
     | false => rfl
     | true =>
      have := HMO.out k h (by omega) h3 e9
      rw [HPB.out] at this
      cases this
    go_wp2
    go_roundw
    case rel => exact ⟨h + 1,j,by omega,hjn,by go_num,rfl,HL2,HR1,BB⟩
    case measure => (simp [intOf] <;> omega)
   ·have HR2 : Hid (∀ k,h ≤ k → k < n → p k = true) := fun k hk hk2 => HMO.out h k hk hk2 HPB.out
    go_wp2
    go_roundw
    case rel => exact ⟨i,h,h1,by omega,rfl,rfl,HL1,HR2,BB⟩
    case measure => (simp [intOf] <;> omega)
  ·obtain rfl : i = j := by omega
   have g1 : ¬ (i : Int) < (i : Int) := by omega
   have HF : Fst n p i := ⟨hjn,HL1.out,HR1.out⟩
   go_wp2
   go_ret
   exact ⟨i,rfl,HF,BB⟩
set_option maxRecDepth 100000 in
set_option maxHeartbeats 4000000 in
theorem clos12_at (i x f k n g gl cl RA RL RF M : Nat) (q : Nat → Rat) (w : World) (VA : VArr w g n (f + 1) (fun j => absQ (q j))) (hz : ∀ j,j < f + 1 → qsz (absQ (q j)) ≤ M) (hM1 : 1 ≤ M) (hM2 : M ≤ 100000) (hi : i < k) (hx : x < f) (hf : f < n) (cA : w.cell? ⟨RA,0,none⟩ = some (.slice (some ⟨g,0,none⟩) n n)) (cL : w.cell? ⟨RL,0,none⟩ = some (.slice (some ⟨gl,0,none⟩) k cl)) (cF : w.cell? ⟨RF,0,none⟩ = some (.int .i64 (f : Int))) (cI : w.cell? ⟨gl,i,none⟩ = some (.int .i64 (x : Int))) :
  Calls Tryz.prog 125 #[.int .i64 (i : Int),.pointer (some ⟨RA,0,none⟩),.pointer (some ⟨RL,0,none⟩),.pointer (some ⟨RF,0,none⟩)] w fun e w' => e = .returned (.bool (decide (absQ (q x) < absQ (q f)))) ∧ Below w.heap.size w w' := by
 have g0 : (0 : Int) ≤ (i : Int) := by omega
 have g1 : (i : Int) < (k : Int) := by omega
 have e0 : (0 : Int) ≤ (x : Int) := by omega
 have e1 : (x : Int) < (n : Int) := by omega
 have e2 : (0 : Int) ≤ (f : Int) := by omega
 have e3 : (f : Int) < (n : Int) := by omega
 obtain ⟨p1,a1,n1,c1,b1,m1,d1,X0,X1,X2,r1⟩ := VA.at12 (j := x) (by omega) (by omega)
 obtain ⟨p2,a2,n2,c2,b2,m2,d2,Y0,Y1,Y2,r2⟩ := VA.at12 (j := f) (by omega) (by omega)
 have CA : Cel10 w RA 0 _ := ⟨cA⟩
 have CL : Cel10 w RL 0 _ := ⟨cL⟩
 have CF : Cel10 w RF 0 _ := ⟨cF⟩
 have CI : Cel10 w gl i _ := ⟨cI⟩
 have KX0 : Cel10 w g (x * 3) _ := ⟨X0⟩
 have KX1 : Cel10 w g (x * 3 + 1) _ := ⟨X1⟩
 have KX2 : Cel10 w g (x * 3 + 2) _ := ⟨X2⟩
 have KY0 : Cel10 w g (f * 3) _ := ⟨Y0⟩
 have KY1 : Cel10 w g (f * 3 + 1) _ := ⟨Y1⟩
 have KY2 : Cel10 w g (f * 3 + 2) _ := ⟨Y2⟩
 clear X0 X1 X2 Y0 Y1 Y2 cA cL cF cI
 have BB : Below w.heap.size w w := Below.refl _ _
 go_enter Tryz.func125,Tryz.ntmps125
 go_wp2
 have hDr : Below w.heap.size w w.drew := (Below.refl _ _).drew
 replace r1 := r1.below hDr
 replace r2 := r2.below hDr
 replace CA := CA.below hDr
 replace CL := CL.below hDr
 replace CF := CF.below hDr
 replace CI := CI.below hDr
 replace KX0 := KX0.below hDr
 replace KX1 := KX1.below hDr
 replace KX2 := KX2.below hDr
 replace KY0 := KY0.below hDr
 replace KY1 := KY1.below hDr
 replace KY2 := KY2.below hDr
 replace BB := BB.trans (hDr.mono BB.size)
 clear hDr
 refine wp_region_held_drew (S := (fun w' => w'.cell? ⟨RA,0,none⟩ = some (.slice (some ⟨g,0,none⟩) n n) ∧ w'.cell? ⟨RL,0,none⟩ = some (.slice (some ⟨gl,0,none⟩) k cl) ∧ w'.cell? ⟨RF,0,none⟩ = some (.int .i64 (f : Int)) ∧ w'.cell? ⟨gl,i,none⟩ = some (.int .i64 (x : Int)) ∧ w'.cell? ⟨g,x * 3,none⟩ = some (.bool p1) ∧ w'.cell? ⟨g,x * 3 + 1,none⟩ = some (.slice a1 n1 c1) ∧ w'.cell? ⟨g,x * 3 + 2,none⟩ = some (.slice b1 m1 d1) ∧ w'.cell? ⟨g,f * 3,none⟩ = some (.bool p2) ∧ w'.cell? ⟨g,f * 3 + 1,none⟩ = some (.slice a2 n2 c2) ∧ w'.cell? ⟨g,f * 3 + 2,none⟩ = some (.slice b2 m2 d2))) (by kernel_rfl) ?_ (fun hHeld => ?_)
 ·exact ⟨CA.cell,CL.cell,CF.cell,CI.cell,KX0.cell,KX1.cell,KX2.cell,KY0.cell,KY1.cell,KY2.cell⟩
 generalize w.drew = W1 at *
 refine xT 0 (v := ?_) (hy := Or.inl ⟨by rfl,?_⟩) (h := ?_)
 rotate_left
 ·(intro w hSw; (try dsimp only at hSw); go_simp; (try with_reducible rfl))
 (try simp only [Act.put,xL4,xL5,xL6])
 refine xT 1 (v := ?_) (hy := Or.inl ⟨by rfl,?_⟩) (h := ?_)
 rotate_left
 ·(intro w hSw; (try dsimp only at hSw); go_simp; (try with_reducible rfl))
 (try simp only [Act.put,xL4,xL5,xL6])
 refine xT 2 (v := ?_) (hy := Or.inl ⟨by rfl,?_⟩) (h := ?_)
 rotate_left
 ·(intro w hSw; (try dsimp only at hSw); go_simp; (try with_reducible rfl))
 (try simp only [Act.put,xL4,xL5,xL6])
 refine xT 3 (v := ?_) (hy := Or.inl ⟨by rfl,?_⟩) (h := ?_)
 rotate_left
 ·(intro w hSw; (try dsimp only at hSw); go_simp; (try with_reducible rfl))
 (try simp only [Act.put,xL4,xL5,xL6])
 refine xT 4 (v := ?_) (hy := Or.inl ⟨by rfl,?_⟩) (h := ?_)
 rotate_left
 ·(intro w hSw; (try dsimp only at hSw); go_simp; (try with_reducible rfl))
 (try simp only [Act.put,xL4,xL5,xL6])
 refine xT 5 (v := ?_) (hy := Or.inl ⟨by rfl,?_⟩) (h := ?_)
 rotate_left
 ·(intro w hSw; (try dsimp only at hSw); go_simp; (try with_reducible rfl))
 (try simp only [Act.put,xL4,xL5,xL6])
 refine xT 6 (v := ?_) (hy := Or.inl ⟨by rfl,?_⟩) (h := ?_)
 rotate_left
 ·(intro w hSw; (try dsimp only at hSw); go_simp; (try with_reducible rfl))
 (try simp only [Act.put,xL4,xL5,xL6])
 refine xT 7 (v := ?_) (hy := Or.inl ⟨by rfl,?_⟩) (h := ?_)
 rotate_left
 ·(intro w hSw; (try dsimp only at hSw); go_simp; (try with_reducible rfl))
 (try simp only [Act.put,xL4,xL5,xL6])
 refine xT 8 (v := ?_) (hy := Or.inl ⟨by rfl,?_⟩) (h := ?_)
 rotate_left
 ·(intro w hSw; (try dsimp only at hSw); go_simp; (try with_reducible rfl))
 (try simp only [Act.put,xL4,xL5,xL6])
 refine xT 9 (v := ?_) (hy := Or.inl ⟨by rfl,?_⟩) (h := ?_)
 rotate_left
 ·(intro w hSw; (try dsimp only at hSw); go_simp; (try with_reducible rfl))
 (try simp only [Act.put,xL4,xL5,xL6])
 refine xT 10 (v := ?_) (hy := Or.inl ⟨by rfl,?_⟩) (h := ?_)
 rotate_left
 ·(intro w hSw; (try dsimp only at hSw); go_simp; (try with_reducible rfl))
 (try simp only [Act.put,xL4,xL5,xL6])
 refine xR [11] (h := ?_)
 refine xN (h := fun K hK => ?_)
 go_simp
 refine (qcmp_at _ _ (absQ (q x)) (absQ (q f)) M _ (r1.at _ (hz x (by omega))) (r2.at _ (hz f (by omega))) hM1 hM2).mono ?_
 rintro e w1 ⟨rfl,b1⟩
 have HC : Hid (decide (cmpQ (absQ (q x)) (absQ (q f)) < 0) = decide (absQ (q x) < absQ (q f))) := cmpQ_lt10 _ _
 obtain ⟨cq,hcq⟩ : ∃ cq,cmpQ (absQ (q x)) (absQ (q f)) = cq := ⟨_,rfl⟩
 rw [hcq] at HC ⊢
 clear hcq
 go_wp2_with fail
 replace r1 := r1.below b1
 replace r2 := r2.below b1
 replace CA := CA.below b1
 replace CL := CL.below b1
 replace CF := CF.below b1
 replace CI := CI.below b1
 replace KX0 := KX0.below b1
 replace KX1 := KX1.below b1
 replace KX2 := KX2.below b1
 replace KY0 := KY0.below b1
 replace KY1 := KY1.below b1
 replace KY2 := KY2.below b1
 replace BB := BB.trans (b1.mono BB.size)
 clear b1
 refine hK.out _ _ ?_ (fun hH1 => ?_)
 ·exact ⟨CA.cell,CL.cell,CF.cell,CI.cell,KX0.cell,KX1.cell,KX2.cell,KY0.cell,KY1.cell,KY2.cell⟩
 clear hK K hHeld
 (try simp only [Act.put,xL4,xL5,xL6])
 refine xT 12 (v := ?_) (hy := Or.inl ⟨by rfl,?_⟩) (h := ?_)
 rotate_left
 ·(intro w hSw; (try dsimp only at hSw); go_simp; (try with_reducible rfl))
 (try simp only [Act.put,xL4,xL5,xL6])
 refine xT 13 (v := ?_) (hy := Or.inl ⟨by rfl,?_⟩) (h := ?_)
 rotate_left
 ·(intro w hSw; (try dsimp only at hSw); go_simp; (try with_reducible rfl))
 (try simp only [Act.put,xL4,xL5,xL6])
 refine wpAnyH_done (by kernel_rfl) ?_ _
 clear hH1
 go_wp2
 go_ret
 exact ⟨by rw [← HC.out]; rfl,BB⟩
end Go.Proofs.YtjmagcgobhaenaaGreatDoor

namespace Go.Proofs.YtjmagcgobhaenaaGreatDoor
set_option linter.unusedVariables false
set_option linter.unusedSimpArgs false
theorem MayT.way_half {F : Int} {t : Nat → Nd} {n : Nat} (h : MayT F t n) (r : Nat → Cl) {x : Nat} (hx : x < n) : 2 * (way t n r x).length ≤ (pre t n x).length + 1 := by
 refine h.by_way r (P := fun x => 2 * (way t n r x).length ≤ (pre t n x).length + 1) (fun x hx hl => ?_) (fun x hx hl ih => ?_) hx
 ·rw [way_leaf hl,pre_leaf hl]
  simp
 ·rw [h.way_split r hx hl,h.pre_split hx hl]
  simp only [List.length_cons,List.length_append]
  have p1 := pre_pos t n (kl t x)
  have p2 := pre_pos t n (kr t x)
  have : Go.Proofs.YtjmagcgobhaenaaGreatDoor.nxt (t x) r = kl t x ∨ Go.Proofs.YtjmagcgobhaenaaGreatDoor.nxt (t x) r = kr t x := by
   unfold Go.Proofs.YtjmagcgobhaenaaGreatDoor.nxt kl kr
   by_cases g : goL (t x) (r (t x).feat.toNat) = true
   ·rw [if_pos g]; exact .inl rfl
   ·rw [if_neg g]; exact .inr rfl
  rcases this with e | e <;> rw [e] at ih ⊢ <;> omega
theorem spA_few {T : Nat → Nat → Nd} {N : Nat → Nat} {r : Nat → Cl} {F : Int} {k : Nat} (hm : ∀ i,i < k → MayT F (T i) (N i)) (hN : ∀ i,N i ≤ 15) : ∀ i,i ≤ k → (spA T N r i).length ≤ i * 7
 | 0,_ => by simp [spA]
 | i + 1,h => by
  have h1 := spA_few (r := r) hm hN i (by omega)
  have h2 := (hm i (by omega)).way_half r (x := 0) (hm i (by omega)).pos
  have h3 := (hm i (by omega)).pre_few (x := 0) (hm i (by omega)).pos
  have h4 := hN i
  show (spA T N r i ++ spT T N r i).length ≤ _
  rw [List.length_append]
  unfold spT
  rw [spL_len]
  omega
theorem meanN_few {F : Int} {t : Nat → Nd} {n : Nat} (hm : MayT F t n) (hz : ∀ i,i < n → qsz (t i).val ≤ 4 ∧ qsz (t i).cov ≤ 4) (hn : n ≤ 15) {x : Nat} (hx : x < n) : qsz (meanN t n x) ≤ 75 := by
 have h1 := say_few15 hm hz hn (fun _ => ⟨true,0⟩) 0 hx
 rw [hm.say_none _ hx] at h1
 exact h1
theorem spA_sz {T : Nat → Nat → Nd} {N : Nat → Nat} {r : Nat → Cl} {nr k : Nat} (hm : ∀ i,i < k → MayT (nr : Int) (T i) (N i)) (hz : ∀ i,i < k → ∀ j,j < N i → qsz (T i j).val ≤ 4 ∧ qsz (T i j).cov ≤ 4) (hN : ∀ i,N i ≤ 15) : ∀ i,i ≤ k → ∀ s ∈ spA T N r i,qsz s.add ≤ 151
 | 0,_,s,hs => by cases hs
 | i + 1,h,s,hs => by
  rcases List.mem_append.1 (show s ∈ spA T N r i ++ spT T N r i from hs) with hs | hs
  ·exact spA_sz hm hz hN i (by omega) s hs
  ·unfold spT spL at hs
   obtain ⟨j,hj,rfl⟩ := List.mem_map.1 hs
   have hm' := hm i (by omega)
   rw [List.mem_range] at hj
   have hs := hm'.way_small r hm'.pos
   have hn0 : 0 < N i := hm'.pos
   have key : ∀ q,(way (T i) (N i) r 0).getD q 0 < N i := fun q => by
    rw [List.getD_eq_getElem?_getD]
    cases e : (way (T i) (N i) r 0)[q]? with
    | none => exact hn0
    | some y => exact hs y (List.mem_of_getElem? e)
   exact qsz_sub _ _ (meanN_few hm' (hz i (by omega)) (hN i) (key _)) (meanN_few hm' (hz i (by omega)) (hN i) (key _))
theorem sumL_sz {M : Nat} (l : List Rat) (h : ∀ x ∈ l,qsz x ≤ M) : qsz (sumL l) ≤ l.length * (M + 1) + 1 := by
 rw [← sumq_all]
 refine qsz_sumq _ M l.length (fun i hi => ?_)
 rw [List.getD_eq_getElem?_getD,List.getElem?_eq_getElem hi]
 exact h _ (List.getElem_mem hi)
theorem valS_sz {l : List Sp} {M n : Nat} (h : ∀ s ∈ l,qsz s.add ≤ M) (hn : l.length ≤ n) (f : Nat) : qsz (valS l f) ≤ n * (M + 1) + 1 := by
 refine Nat.le_trans (sumL_sz (adds l f) (fun x hx => ?_)) (Nat.add_le_add_right (Nat.mul_le_mul_right _ (Nat.le_trans (adds_len l f) hn)) 1)
 obtain ⟨s,hs,e⟩ := adds_mem hx
 rw [← e]
 exact h s hs
end Go.Proofs.YtjmagcgobhaenaaGreatDoor
