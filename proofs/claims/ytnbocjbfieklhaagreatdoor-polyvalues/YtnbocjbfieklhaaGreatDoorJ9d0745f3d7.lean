/-
  Texts of mine, joined: what lies beneath the statement.
-/
import Derived.Test.YtnbocjbfieklhaaGreatDoorJ1a324685d2
import Derived.Test.YtnbocjbfieklhaaGreatDoorJ17c88206c7
import Derived.Test.YtnbocjbfieklhaaGreatDoorJ804b67139d
namespace Go.Proofs.YtnbocjbfieklhaaGreatDoor
open Go.RowKit
set_option linter.unusedVariables false
def IsNB (v : Value) : Prop := IsNum v ∨ ∃ b,v = .bool b
theorem nb_slice (a : Option Addr) (n c : Nat) : ¬ IsNB (.slice a n c) := by
 rintro (h | ⟨b,h⟩)
 ·exact num_slice _ _ _ h
 ·cases h
structure KeepF (w w' : World) : Prop where
 num : KeepQ IsNum w w'
 row : ∀ b o v,w.cell? ⟨b,o,none⟩ = some (.bool v) → ∀ o' u,w.cell? ⟨b,o',none⟩ = some u → w'.cell? ⟨b,o',none⟩ = some u
theorem KeepF.refl (w : World) : KeepF w w := ⟨KeepQ.refl _ _,fun _ _ _ _ _ _ h => h⟩
theorem KeepF.trans {a b c : World} (h : KeepF a b) (k : KeepF b c) : KeepF a c :=
 ⟨h.num.trans k.num,fun x o v hv o' u hu => k.row x o v (h.row x o v hv o _ hv) o' u (h.row x o v hv o' u hu)⟩
theorem KeepF.of_below {w w' : World} (hb : Below w.heap.size w w') : KeepF w w' :=
 ⟨KeepQ.below hb,fun b o v _ o' u hu => (hb.cell (World.block_lt_of_cell? w _ hu)).trans hu⟩
theorem KeepF.below {a w w' : World} (h : KeepF a w) (hb : Below w.heap.size w w') : KeepF a w' := h.trans (KeepF.of_below hb)
theorem KeepF.grown {w w' : World} {row : Option Nat} (hg : w.grownBy w' row) (hp : ∀ g,row = some g → PureB IsNB w g) (hk : KeepQ IsNB w w') : KeepF w w' := by
 refine ⟨fun b o v h => hk b o v (.inl h),fun b o v hv o' u hu => ?_⟩
 have hne : some b ≠ row := fun e => hp b e.symm o _ hv (.inr ⟨v,rfl⟩)
 exact (World.cell?_of_block (w := w) (hg.block b (World.block_lt_of_cell? w _ hv) hne)).trans hu
theorem KeepF.set {w : World} {R : Nat} (hp : PureB IsNB w R) (x : Value) : KeepF w (w.setCell ⟨R,0,none⟩ x) := by
 refine ⟨fun b o v h hv => ?_,fun b o v hv o' u hu => ?_⟩
 ·exact set_cell_block hv (fun e => by subst e; exact hp o v hv (.inl h))
 ·exact set_cell_block hu (fun e => by subst e; exact hp o _ hv (.inr ⟨v,rfl⟩))
theorem KeepF.kept {w w' : World} {row : Option Nat} (hg : w.grownBy w' row) (hr : ∀ r,row = some r → ∃ o : Obj,w.heap[r]? = some o ∧ o.isCells = false) : KeepF w w' :=
 ⟨keepQ_kept hg hr,fun b o v _ o' u hu => cell_kept hu hg hr⟩
theorem FRow.keepF {w w' : World} {v : Value} {n : Nat} {q : Nat → Rat} (h : FRow w v n q) (hk : KeepF w w') : FRow w' v n q := by
 obtain ⟨el,⟨ao,c,h1,h2,h3,h4⟩,h5⟩ := h
 refine ⟨el,⟨ao,c,h1,h2,h3,fun hn => ?_⟩,fun i hi => (h5 i hi).keep hk.num⟩
 obtain ⟨b,off,e,hc⟩ := h4 hn
 refine ⟨b,off,e,fun i hi j hj => ?_⟩
 obtain ⟨p,ao',m,d,bo,k,e',he⟩ := (h5 i hi).open
 simp only [Value.agg.injEq,Array.mk.injEq,List.cons.injEq,and_true] at he
 have c0 := hc i hi 0 (by omega)
 rw [he.1] at c0
 exact hk.row b _ p c0 _ _ (hc i hi j hj)
structure Pur (w : World) (g : Nat) : Prop where
 pure : PureB IsNB w g
 lt : g < w.heap.size
theorem Pur.below {w w' : World} {g : Nat} (h : Pur w g) (hb : Below w.heap.size w w') : Pur w' g := ⟨h.pure.below hb h.lt,Nat.lt_of_lt_of_le h.lt hb.size⟩
theorem Pur.block {w w' : World} {g : Nat} (h : Pur w g) (hb : w'.heap[g]? = w.heap[g]?) (hs : w.heap.size ≤ w'.heap.size) : Pur w' g :=
 ⟨fun o v hv => h.pure o v ((World.cell?_of_block (w := w) (a := ⟨g,o,none⟩) hb).symm.trans hv),Nat.lt_of_lt_of_le h.lt hs⟩
theorem Pur.new (w : World) (t : TypeId) (a : Option Addr) (n c : Nat) : Pur (w.alloc (.cells #[.slice a n c] t)) w.heap.size := by
 refine ⟨pure_of_cells (heap_alloc_new w _) (fun u hu => ?_),by simp⟩
 simp at hu
 subst hu
 exact nb_slice _ _ _
theorem Pur.set {w : World} {g : Nat} {old : Value} (h : Pur w g) (hold : w.cell? ⟨g,0,none⟩ = some old) (a : Option Addr) (n c : Nat) : Pur (w.setCell ⟨g,0,none⟩ (.slice a n c)) g := by
 refine ⟨fun o v hv hn => ?_,by rw [World.size_setCell]; exact h.lt⟩
 by_cases e : o = 0
 ·subst e
  rw [World.cell?_setCell_same _ _ _ hold] at hv
  cases hv
  exact nb_slice _ _ _ hn
 ·rw [World.cell?_setCell_other _ _ _ _ (by intro h; simp only [Addr.mk.injEq] at h; omega)] at hv
  exact h.pure o v hv hn
def PEl (w : World) (v : Value) (D S : Nat) (E : Rat → Rat) : Prop := ∃ m R,FRow w v m R ∧ m ≤ D ∧ (∀ i,i < m → qsz (R i) ≤ S) ∧ (0 < m → R (m - 1) ≠ 0) ∧ ∀ z,evN R z m = E z
theorem PEl.keepF {w w' : World} {v : Value} {D S : Nat} {E : Rat → Rat} (h : PEl w v D S E) (hk : KeepF w w') : PEl w' v D S E := let ⟨m,R,h1,h2⟩ := h; ⟨m,R,h1.keepF hk,h2⟩
theorem PEl.below {w w' : World} {v : Value} {D S : Nat} {E : Rat → Rat} (h : PEl w v D S E) (hb : Below w.heap.size w w') : PEl w' v D S E := h.keepF (KeepF.of_below hb)
def POwn (B : Nat) (w : World) (v : Value) (n : Nat) (D S : Nat → Nat) (E : Nat → Rat → Rat) : Prop :=
 ∃ (us : List Value) (el : Nat → Value),w.ownsRow B 22 1 v n us ∧ (∀ g,v.ownBlock = some g → PureB IsNB w g) ∧ (∀ i,i < n → us[i]? = some (el i)) ∧ ∀ i,i < n → PEl w (el i) (D i) (S i) (E i)
theorem POwn.nil (B : Nat) (w : World) (D S : Nat → Nat) (E : Nat → Rat → Rat) : POwn B w (.slice none 0 0) 0 D S E :=
 ⟨[],fun _ => .bool false,World.ownsRow_nil _ _ _ _,fun g h => (by cases h),fun i hi => (by omega),fun i hi => (by omega)⟩
theorem POwn.below {B : Nat} {w w' : World} {v : Value} {n : Nat} {D S : Nat → Nat} {E : Nat → Rat → Rat} (h : POwn B w v n D S E) (hb : Below w.heap.size w w') : POwn B w' v n D S E := by
 obtain ⟨us,el,h1,h2,h3,h4⟩ := h
 exact ⟨us,el,owns_later h1 hb,fun g hg => (h2 g hg).below hb (h1.lt g hg).2,h3,fun i hi => (h4 i hi).below hb⟩
theorem POwn.far {B : Nat} {w w' : World} {v : Value} {n : Nat} {D S : Nat → Nat} {E : Nat → Rat → Rat} {row : Option Nat} (h : POwn B w v n D S E) (hg : w.grownBy w' row) (hne : ∀ g,v.ownBlock = some g → some g ≠ row) (hk : KeepF w w') : POwn B w' v n D S E := by
 obtain ⟨us,el,h1,h2,h3,h4⟩ := h
 refine ⟨us,el,h1.kept hg ?_,fun g hgg o u hu => h2 g hgg o u ?_,h3,fun i hi => (h4 i hi).keepF hk⟩
 ·cases hb : v.ownBlock with
  | none => exact .inl rfl
  | some g => exact .inr (hne g hb)
 ·rw [← World.cell?_of_block (w := w) (hg.block g (h1.lt g hgg).2 (hne g hgg))]; exact hu
theorem POwn.kept {B : Nat} {w w' : World} {v : Value} {n : Nat} {D S : Nat → Nat} {E : Nat → Rat → Rat} {row : Option Nat} (h : POwn B w v n D S E) (hg : w.grownBy w' row) (hr : ∀ r,row = some r → ∃ o : Obj,w.heap[r]? = some o ∧ o.isCells = false) : POwn B w' v n D S E := by
 refine h.far hg (fun g hgo e => ?_) (KeepF.kept hg hr)
 obtain ⟨us,el,h1,_⟩ := h
 obtain ⟨o,ho,hc⟩ := ownBlock_cells h1 hgo
 obtain ⟨o',ho',hc'⟩ := hr g e.symm
 rw [ho'] at ho
 cases ho
 rw [hc] at hc'
 cases hc'
theorem POwn.congr {B : Nat} {w : World} {v : Value} {n : Nat} {D S D' S' : Nat → Nat} {E E' : Nat → Rat → Rat} (h : POwn B w v n D S E) (hd : ∀ i,i < n → D i = D' i) (hs : ∀ i,i < n → S i = S' i) (he : ∀ i,i < n → E i = E' i) : POwn B w v n D' S' E' := by
 obtain ⟨us,el,h1,h2,h3,h4⟩ := h
 exact ⟨us,el,h1,h2,h3,fun i hi => hd i hi ▸ hs i hi ▸ he i hi ▸ h4 i hi⟩
theorem POwn.more {B : Nat} {w w' : World} {n g' cap' : Nat} {D S : Nat → Nat} {E : Nat → Rat → Rat} {us : List Value} {el : Nat → Value} {x : Value} (h1 : w'.ownsRow B 22 1 (.slice (some ⟨g',0,none⟩) (n + 1) cap') (n + 1) (us ++ [x]))
  (hp : PureB IsNB w' g') (hl : us.length = n) (h3 : ∀ i,i < n → us[i]? = some (el i)) (h4 : ∀ i,i < n → PEl w (el i) (D i) (S i) (E i)) (hx : PEl w x (D n) (S n) (E n)) (hk : KeepF w w') :
  POwn B w' (.slice (some ⟨g',0,none⟩) (n + 1) cap') (n + 1) D S E := by
 refine ⟨_,fun i => if i < n then el i else x,h1,fun g hg => by simp only [Value.ownBlock,Option.some.injEq] at hg; subst hg; exact hp,fun i hi => ?_,fun i hi => ?_⟩
 ·by_cases hin : i < n
  ·show _ = some (if i < n then el i else x)
   rw [if_pos hin,List.getElem?_append_left (by omega)]; exact h3 i hin
  ·obtain rfl : i = n := by omega
   show _ = some (if i < i then el i else x)
   rw [if_neg hin,List.getElem?_append_right (by omega),hl,Nat.sub_self]; rfl
 ·by_cases hin : i < n
  ·simp only [if_pos hin]; exact (h4 i hin).keepF hk
  ·obtain rfl : i = n := by omega
   simp only [if_neg hin]; exact hx.keepF hk
theorem POwn.both {B : Nat} {w : World} {v : Value} {n : Nat} {D S : Nat → Nat} {E : Nat → Rat → Rat} (h : POwn B w v n D S E) (g : Nat) (hg : v.ownBlock = some g) : B ≤ g ∧ g < w.heap.size := by
 obtain ⟨us,el,h1,_⟩ := h; exact h1.lt g hg
theorem POwn.at {B : Nat} {w : World} {v : Value} {n : Nat} {D S : Nat → Nat} {E : Nat → Rat → Rat} (h : POwn B w v n D S E) (hn : 0 < n) : ∃ g cap,∃ el : Nat → Value,v = .slice (some ⟨g,0,none⟩) n cap ∧ n ≤ cap ∧ cap ≤ 9223372036854775807 ∧ (∀ i,i < n → w.cell? ⟨g,0 + i,none⟩ = some (el i)) ∧ ∀ i,i < n → PEl w (el i) (D i) (S i) (E i) := by
 obtain ⟨us,el,h1,h2,h3,h4⟩ := h
 rcases h1.2 with ⟨rfl,rfl⟩ | ⟨g,cap,cur,rfl,hb,hg,hnc,hcm,rest⟩
 ·omega
 ·exact ⟨g,cap,el,rfl,hnc,by unfold maxLen at hcm; omega,fun i hi => by rw [Nat.zero_add]; exact owns_cell h1 (h3 i hi),h4⟩
def BuiltP (B : Nat) (w : World) (v : Value) (l : Nat) (R : Nat → Rat) : Prop := ∃ g y,v = .slice (some ⟨g,0,none⟩) 1 1 ∧ B ≤ g ∧ V1 w g y ∧ FRow w y l R
theorem BuiltP.below {B : Nat} {w w' : World} {v : Value} {l : Nat} {R : Nat → Rat} (h : BuiltP B w v l R) (hb : Below w.heap.size w w') : BuiltP B w' v l R := let ⟨g,y,e,hB,hv,hq⟩ := h; ⟨g,y,e,hB,hv.below hb,hq.below hb⟩
def Cells1 (w : World) (b off n : Nat) (el : Nat → Value) : Prop := ∀ i,i < n → w.cell? ⟨b,off + i,none⟩ = some (el i)
theorem Cells1.below {w w' : World} {b off n : Nat} {el : Nat → Value} (h : Cells1 w b off n el) (hb : Below w.heap.size w w') : Cells1 w' b off n el := fun i hi => (hb.cell (World.block_lt_of_cell? w _ (h i hi))).trans (h i hi)
def halfD (D : Nat → Nat) (n dx i : Nat) : Nat := if 2 * i + 1 < n then max (D (2 * i)) (D (2 * i + 1) + dx) else D (2 * i)
def halfS (D S : Nat → Nat) (n sx i : Nat) : Nat := if 2 * i + 1 < n then S (2 * i) + (D (2 * i + 1) * (S (2 * i + 1) + sx + 1) + 1) + 1 else S (2 * i)
def halfE (E : Nat → Rat → Rat) (n : Nat) (ex : Rat → Rat) (i : Nat) (z : Rat) : Rat := halfQ (fun i => E i z) n (ex z) i
def preA {α : Type} (f : Nat → α) {K : Nat} (pre : List (Fin K)) (i : Nat) : α := f ((pre.map (·.1)).getD i 0)
theorem preA_more {α : Type} {f : Nat → α} {K : Nat} {pre : List (Fin K)} {x : Fin K} (i : Nat) (hi : i < pre.length) : preA f pre i = preA f (pre ++ [x]) i := by
 unfold preA
 rw [List.map_append,getD_app_l _ _ _ _ (by simpa using hi)]
theorem preA_last {α : Type} {f : Nat → α} {K : Nat} {pre : List (Fin K)} {x : Fin K} : preA f (pre ++ [x]) pre.length = f x.1 := by
 unfold preA
 congr 1
 simp [List.getD_eq_getElem?_getD]
theorem preA_all {α : Type} {f : Nat → α} {K : Nat} (i : Nat) (hi : i < K) : preA f (fins K K) i = f i := by
 unfold preA
 rw [fins_at K (Nat.le_refl _) i hi]
structure PInv (w WL : World) (Bx Ba Bm Bh : Nat) (fa fm xv : Value) (b off n : Nat) (el : Nat → Value) (D S : Nat → Nat) (E : Nat → Rat → Rat) (dx sx : Nat) (ex : Rat → Rat) (K : Nat) (pre : List (Fin K)) (W : World) : Prop where
 vx : V1 W Bx xv
 va : V1 W Ba fa
 vm : V1 W Bm fm
 px : Pur W Bx
 ph : Pur W Bh
 vh : ∃ ho hc,V1 W Bh (.slice ho pre.length hc) ∧ POwn WL.heap.size W (.slice ho pre.length hc) pre.length (preA (halfD D n dx) pre) (preA (halfS D S n sx) pre) (preA (halfE E n ex) pre)
 row : Cells1 W b off n el
 keep : KeepF WL W
 tab : Tab W
 below : Below w.heap.size w W
 others : KeepsOthers WL W
theorem Pur.kept {w w' : World} {g : Nat} {x : Value} {row : Option Nat} (h : Pur w g) (hc : w.cell? ⟨g,0,none⟩ = some x) (hg : w.grownBy w' row) (hr : ∀ r,row = some r → ∃ o : Obj,w.heap[r]? = some o ∧ o.isCells = false) : Pur w' g := by
 obtain ⟨o,ho,hc2⟩ := cells_of_cell hc
 exact h.block (grownBy_keeps_cells hg hr ho hc2) hg.size
theorem PInv.own {w WL : World} {Bx Ba Bm Bh : Nat} {fa fm xv : Value} {b off n : Nat} {el : Nat → Value} {D S : Nat → Nat} {E : Nat → Rat → Rat} {dx sx : Nat} {ex : Rat → Rat} {K : Nat} (hw : w.heap.size ≤ WL.heap.size) : OwnFrom WL.heap.size (PInv w WL Bx Ba Bm Bh fa fm xv b off n el D S E dx sx ex K) := by
 intro pre W W' row h hg hr2
 have hr : ∀ r,row = some r → ∃ o : Obj,W.heap[r]? = some o ∧ o.isCells = false := fun r e => (hr2 r e).2
 obtain ⟨h1,h2,h3,hp1,hp2,⟨ho,hc,h5,h6⟩,h7,h8,h9,h10,h11⟩ := h
 exact ⟨h1.kept hg hr,h2.kept hg hr,h3.kept hg hr,hp1.kept h1.1 hg hr,hp2.kept h5.1 hg hr,⟨ho,hc,h5.kept hg hr,h6.kept hg hr⟩,fun i hi => cell_kept (h7 i hi) hg hr,h8.trans (KeepF.kept hg hr),h9.keep (keepQ_kept hg hr),
  h10.grown hg (by have := h10.size; omega) (fun k e => by have := (hr2 k e).1; omega),
  ⟨Nat.le_trans h11.size hg.size,fun k o hk hc => (hg.block k (Array.getElem?_eq_some_iff.1 (h11.same k o hk hc)).1 (fun e => by have := (hr2 k e.symm).1; have := (Array.getElem?_eq_some_iff.1 hk).1; omega)).trans (h11.same k o hk hc)⟩⟩
theorem Pur.low {B : Nat} {w w' : World} {g : Nat} (h : Pur w g) (hb : Below B w w') (hlt : g < B) : Pur w' g := h.block (hb.block g hlt) hb.size
theorem PInv.app {w WL W5 W W6 : World} {Bx Ba Bm Bh Bs Bn b off n : Nat} {fa fm xv : Value} {el : Nat → Value} {D S : Nat → Nat} {E : Nat → Rat → Rat} {dx sx : Nat} {ex : Rat → Rat} {K : Nat} {pre : List (Fin K)} {x : Fin K} {ho : Option Addr} {hc g5 cap5 : Nat} {us : List Value} {el' : Nat → Value} {y : Value}
  (hB : Hid (Bx ≠ Bh ∧ Ba ≠ Bh ∧ Bm ≠ Bh ∧ b ≠ Bh ∧ Bh < WL.heap.size ∧ Bs ≠ Bh ∧ Bn ≠ Bh ∧ Bs < WL.heap.size ∧ Bn < WL.heap.size ∧ w.heap.size ≤ Bh))
  (hL : Hid (Bx < WL.heap.size ∧ Ba < WL.heap.size ∧ Bm < WL.heap.size ∧ b < WL.heap.size))
  (VX : V1 W Bx xv) (VA : V1 W Ba fa) (VM : V1 W Bm fm) (PX : Pur W Bx) (PH : Pur W Bh) (VH : V1 W Bh (.slice ho pre.length hc))
  (hv : Cells1 W b off n el) (hk : KeepF WL W) (ht : Tab W) (BB : Below w.heap.size w W) (rk : RK WL.heap.size WL W5 W)
  (o1 : W.ownsRow WL.heap.size 22 1 (.slice ho pre.length hc) pre.length us) (o2 : ∀ g,Value.ownBlock (.slice ho pre.length hc) = some g → PureB IsNB W g) (o3 : ∀ i,i < pre.length → us[i]? = some (el' i)) (o4 : ∀ i,i < pre.length → PEl W (el' i) (preA (halfD D n dx) pre i) (preA (halfS D S n sx) pre i) (preA (halfE E n ex) pre i))
  (hbq : PEl W y (halfD D n dx x.1) (halfS D S n sx x.1) (halfE E n ex x.1))
  (ho5 : W6.ownsRow WL.heap.size 22 1 (.slice (some ⟨g5,0,none⟩) (pre.length + 1) cap5) (pre.length + 1) (us ++ [y])) (hg5 : W.grownBy W6 (Value.ownBlock (.slice ho pre.length hc))) (hp5 : PureB IsNB W6 g5) (hk5 : KeepQ IsNB W W6) :
  KeepsFrom WL.heap.size W5 (W6.setCell ⟨Bh,0,none⟩ (.slice (some ⟨g5,0,none⟩) (pre.length + 1) cap5)) ∧ Keep2 Bs Bn W5 (W6.setCell ⟨Bh,0,none⟩ (.slice (some ⟨g5,0,none⟩) (pre.length + 1) cap5)) ∧
   PInv w WL Bx Ba Bm Bh fa fm xv b off n el D S E dx sx ex K (pre ++ [x]) (W6.setCell ⟨Bh,0,none⟩ (.slice (some ⟨g5,0,none⟩) (pre.length + 1) cap5)) := by
 have hsz : WL.heap.size ≤ W.heap.size := Nat.le_trans rk.base rk.low.size
 have low : Below WL.heap.size W W6 := (Below.refl _ _).grown hg5 hsz (fun k e => (o1.lt k e).1)
 have rk6 := rk.grown hg5 (fun g e => ⟨(o1.lt g e).1,ownBlock_cells o1 e⟩)
 have kf : KeepF W W6 := KeepF.grown hg5 o2 hk5
 have O : POwn WL.heap.size W6 (.slice (some ⟨g5,0,none⟩) (pre.length + 1) cap5) (pre.length + 1) (preA (halfD D n dx) (pre ++ [x])) (preA (halfS D S n sx) (pre ++ [x])) (preA (halfE E n ex) (pre ++ [x])) :=
  POwn.more ho5 hp5 (by have := o1.1; omega) o3 (fun i hi => by rw [← preA_more (x := x) i hi,← preA_more (x := x) i hi,← preA_more (x := x) i hi]; exact o4 i hi) (by rw [preA_last,preA_last,preA_last]; exact hbq) kf
 obtain ⟨l1,l2,l3,l4⟩ := hL
 obtain ⟨b1,b2,b3,b5,b6,b7,b8,b9,b10,b11⟩ := hB
 have hlow := Keep2.of_below rk6.low b9 b10
 have PH6 := PH.low low b6
 have kf2 : KeepF W6 (W6.setCell ⟨Bh,0,none⟩ (.slice (some ⟨g5,0,none⟩) (pre.length + 1) cap5)) := KeepF.set PH6.pure _
 refine ⟨(rk6.round.trans (KeepsOthers.setCell _ _ _)).from _,⟨?_,?_⟩,?_⟩
 ·exact (World.cell?_of_block (a := ⟨Bs,0,none⟩) (Below.heap_setCell _ _ _ _ b7)).trans hlow.1
 ·exact (World.cell?_of_block (a := ⟨Bn,0,none⟩) (Below.heap_setCell _ _ _ _ b8)).trans hlow.2
 ·refine ⟨(VX.low low l1).other1 b1 _,(VA.low low l2).other1 b2 _,(VM.low low l3).other1 b3 _,(PX.low low l1).block (Below.heap_setCell _ _ _ _ b1) (by rw [World.size_setCell]; exact Nat.le_refl _),PH6.set (VH.low low b6).1 _ _ _,⟨some ⟨g5,0,none⟩,cap5,?_,?_⟩,fun i hi => ?_,(hk.trans kf).trans kf2,(ht.keep kf.num).keep kf2.num,(BB.trans (low.mono (by omega))).setCell b11 _,rk6.all.trans (KeepsOthers.setCell _ _ _)⟩
  ·rw [List.length_append]; exact (VH.low low b6).same _
  ·rw [List.length_append]
   refine O.far (grown_set1 _ _ _) (fun g hg e => ?_) kf2
   have := (O.both g hg).1
   cases e
   omega
  ·exact set_cell_block ((low.cell (p := ⟨b,off + i,none⟩) l4).trans (hv i hi)) b5
end Go.Proofs.YtnbocjbfieklhaaGreatDoor
