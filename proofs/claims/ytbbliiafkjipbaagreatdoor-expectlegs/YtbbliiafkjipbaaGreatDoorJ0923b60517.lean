/-
  Texts of mine.
-/
import Derived.Test.YtbbliiafkjipbaaGreatDoorJbea81810e9
import Derived.Test.YtbbliiafkjipbaaGreatDoorJd893f24bc5
import Derived.Test.YtbbliiafkjipbaaGreatDoorJb21aacc9a4
import Derived.Laws.CopyOwn
namespace Go.Proofs.YtbbliiafkjipbaaGreatDoor
open Go.RowKit
set_option linter.unusedVariables false
theorem info_wrat : (Tryz.prog.info? 42).map (fun i => (i.zero,i.size,i.bytes)) = some (some (.agg #[.bool false,.slice none 0 0,.slice none 0 0]),3,56) := by kernel_rfl
def QOwn (B : Nat) (w : World) (v : Value) (n : Nat) (q : Nat → Rat) (L : Nat) : Prop :=
 ∃ (us : List Value) (el : Nat → Nat → Value),w.ownsRow B 42 3 v n us ∧ (∀ g,v.ownBlock = some g → PureB IsNum w g) ∧ (∀ i,i < n → ∀ j,j < 3 → us[i * 3 + j]? = some (el i j)) ∧ ∀ i,i < n → RatAt w (.agg #[el i 0,el i 1,el i 2]) (q i) L
theorem QOwn.row {B : Nat} {w : World} {v : Value} {n : Nat} {q : Nat → Rat} {L : Nat} (h : QOwn B w v n q L) : QRow w v n q L := by
 obtain ⟨us,el,h1,_,h3,h4⟩ := h
 exact ⟨el,RowAt.of_owns h1 h3,h4⟩
theorem QOwn.nil (B : Nat) (w : World) (q : Nat → Rat) (L : Nat) : QOwn B w (.slice none 0 0) 0 q L :=
 ⟨[],fun _ _ => .bool false,World.ownsRow_nil _ _ _ _,fun g h => (by cases h),fun i hi => (by omega),fun i hi => (by omega)⟩
theorem QOwn.below {B : Nat} {w w' : World} {v : Value} {n : Nat} {q : Nat → Rat} {L : Nat} (h : QOwn B w v n q L) (hb : Below w.heap.size w w') : QOwn B w' v n q L := by
 obtain ⟨us,el,h1,h2,h3,h4⟩ := h
 exact ⟨us,el,owns_later h1 hb,fun g hg => (h2 g hg).below hb (h1.lt g hg).2,h3,fun i hi => (h4 i hi).below hb⟩
theorem QOwn.other {B : Nat} {w w' : World} {v : Value} {n : Nat} {q : Nat → Rat} {L : Nat} {row : Option Nat} (h : QOwn B w v n q L) (hg : w.grownBy w' row) (hk : KeepQ IsNum w w') (hne : ∀ g,row = some g → g < B) : QOwn B w' v n q L := by
 obtain ⟨us,el,h1,h2,h3,h4⟩ := h
 have hv : ∀ g,v.ownBlock = some g → some g ≠ row := fun g hg e => by have := (h1.lt g hg).1; have := hne g e.symm; omega
 refine ⟨us,el,h1.kept hg ?_,fun g hgg o u hu => h2 g hgg o u ?_,h3,fun i hi => (h4 i hi).keep hk⟩
 ·cases hb : v.ownBlock with
  | none => exact .inl rfl
  | some g => exact .inr (hv g hb)
 ·rw [← World.cell?_of_block (w := w) (hg.block g (h1.lt g hgg).2 (hv g hgg))]; exact hu
theorem QOwn.more {B : Nat} {w w' : World} {n g' cap' : Nat} {q : Nat → Rat} {L : Nat} {us : List Value} {el : Nat → Nat → Value} {x0 x1 x2 : Value} (h1 : w'.ownsRow B 42 3 (.slice (some ⟨g',0,none⟩) (n + 1) cap') (n + 1) (us ++ [x0,x1,x2]))
  (hp : PureB IsNum w' g') (hl : us.length = n * 3) (h3 : ∀ i,i < n → ∀ j,j < 3 → us[i * 3 + j]? = some (el i j)) (h4 : ∀ i,i < n → RatAt w (.agg #[el i 0,el i 1,el i 2]) (q i) L) (hx : RatAt w (.agg #[x0,x1,x2]) (q n) L) (hk : KeepQ IsNum w w') :
  QOwn B w' (.slice (some ⟨g',0,none⟩) (n + 1) cap') (n + 1) q L := by
 refine ⟨_,fun i j => if i < n then el i j else if j = 0 then x0 else if j = 1 then x1 else x2,h1,fun g hg => by simp only [Value.ownBlock,Option.some.injEq] at hg; subst hg; exact hp,fun i hi j hj => ?_,fun i hi => ?_⟩
 ·by_cases hin : i < n
  ·show _ = some (if i < n then el i j else if j = 0 then x0 else if j = 1 then x1 else x2)
   rw [if_pos hin,List.getElem?_append_left (by omega)]; exact h3 i hin j hj
  ·obtain rfl : i = n := by omega
   show _ = some (if i < i then el i j else if j = 0 then x0 else if j = 1 then x1 else x2)
   rw [if_neg hin,List.getElem?_append_right (by omega),hl,Nat.add_sub_cancel_left]
   rcases (show j = 0 ∨ j = 1 ∨ j = 2 by omega) with rfl | rfl | rfl <;> rfl
 ·by_cases hin : i < n
  ·simp only [if_pos hin]; exact (h4 i hin).keep hk
  ·obtain rfl : i = n := by omega
   simp only [if_neg hin]; exact hx.keep hk
theorem V3.grown {w w' : World} {R : Nat} {x y z : Value} {row : Option Nat} (h : V3 w R x y z) (hg : w.grownBy w' row) (hne : some R ≠ row) : V3 w' R x y z := by
 have hb := hg.block R h.lt hne
 obtain ⟨h1,h2,h3,h4,h5,h6⟩ := h
 exact ⟨(World.cell?_of_block (w := w) hb).trans h1,(World.cell?_of_block (w := w) hb).trans h2,(World.cell?_of_block (w := w) hb).trans h3,(World.frozen?_of_block (w := w) hb).trans h4,(World.frozen?_of_block (w := w) hb).trans h5,(World.frozen?_of_block (w := w) hb).trans h6⟩
def E3 (w : World) (b o : Nat) (x y z : Value) : Prop := w.cell? ⟨b,o,none⟩ = some x ∧ w.cell? ⟨b,o + 1,none⟩ = some y ∧ w.cell? ⟨b,o + 2,none⟩ = some z
theorem E3.lt {w : World} {b o : Nat} {x y z : Value} (h : E3 w b o x y z) : b < w.heap.size := World.block_lt_of_cell? _ _ h.1
theorem E3.below {w w' : World} {b o : Nat} {x y z : Value} (h : E3 w b o x y z) (hb : Below w.heap.size w w') : E3 w' b o x y z := ⟨(hb.cell h.lt).trans h.1,(hb.cell h.lt).trans h.2.1,(hb.cell h.lt).trans h.2.2⟩
theorem E3.other3 {w : World} {R b o : Nat} {x y z : Value} (h : E3 w b o x y z) (hne : b ≠ R) (x' y' z' : Value) : E3 (((w.setCell ⟨R,0,none⟩ x').setCell ⟨R,1,none⟩ y').setCell ⟨R,2,none⟩ z') b o x y z :=
 ⟨set_cell_block (set_cell_block (set_cell_block h.1 hne) hne) hne,set_cell_block (set_cell_block (set_cell_block h.2.1 hne) hne) hne,set_cell_block (set_cell_block (set_cell_block h.2.2 hne) hne) hne⟩

def V1 (w : World) (R : Nat) (x : Value) : Prop := w.cell? ⟨R,0,none⟩ = some x ∧ w.frozen? ⟨R,0,none⟩ = false
theorem V1.lt {w : World} {R : Nat} {x : Value} (h : V1 w R x) : R < w.heap.size := World.block_lt_of_cell? _ _ h.1
theorem V1.below {w w' : World} {R : Nat} {x : Value} (h : V1 w R x) (hb : Below w.heap.size w w') : V1 w' R x := ⟨(hb.cell h.lt).trans h.1,(hb.frozen h.lt).trans h.2⟩
theorem V1.lay (w : World) (t : TypeId) (x : Value) : ∃ W,W = w.alloc (.cells #[x] t) ∧ W.heap.size = w.heap.size + 1 ∧ Below w.heap.size w W ∧ V1 W w.heap.size x := by
 refine ⟨_,rfl,by simp,(Below.refl _ _).alloc (Nat.le_refl _) _,?_⟩
 have hb := heap_alloc_new w (.cells #[x] t)
 refine ⟨?_,?_⟩
 ·rw [cell_of_row _ _ _ _ _ _ hb]; rfl
 ·simp only [World.frozen?]; rw [hb]; simp
theorem V1.same {w : World} {R : Nat} {x : Value} (h : V1 w R x) (x' : Value) : V1 (w.setCell ⟨R,0,none⟩ x') R x' := ⟨World.cell?_setCell_same _ _ _ h.1,by simp [h.2]⟩
theorem V1.keep {w : World} {R : Nat} {x : Value} (h : V1 w R x) (hx : ¬ IsNum x) (x' : Value) : KeepQ IsNum w (w.setCell ⟨R,0,none⟩ x') := keep_set h.1 hx x'
theorem V1.keepJ {w : World} {R : Nat} {ao : Option Addr} {n c : Nat} (h : V1 w R (.slice ao n c)) (x' : Value) : KeepQ IsNum w (w.setCell ⟨R,0,none⟩ x') := h.keep (num_slice _ _ _) x'
theorem V1.other2 {w : World} {R R' : Nat} {x : Value} (h : V1 w R' x) (hne : R' ≠ R) (x' y' : Value) : V1 ((w.setCell ⟨R,0,none⟩ x').setCell ⟨R,1,none⟩ y') R' x := ⟨set_cell_block (set_cell_block h.1 hne) hne,by simp [h.2]⟩
theorem V1.other3 {w : World} {R R' : Nat} {x : Value} (h : V1 w R' x) (hne : R' ≠ R) (x' y' z' : Value) : V1 (((w.setCell ⟨R,0,none⟩ x').setCell ⟨R,1,none⟩ y').setCell ⟨R,2,none⟩ z') R' x := ⟨set_cell_block (set_cell_block (set_cell_block h.1 hne) hne) hne,by simp [h.2]⟩

def V4 (w : World) (R : Nat) (x y z u : Value) : Prop := V3 w R x y z ∧ w.cell? ⟨R,3,none⟩ = some u ∧ w.frozen? ⟨R,3,none⟩ = false
theorem V4.lt {w : World} {R : Nat} {x y z u : Value} (h : V4 w R x y z u) : R < w.heap.size := h.1.lt
theorem V4.below {w w' : World} {R : Nat} {x y z u : Value} (h : V4 w R x y z u) (hb : Below w.heap.size w w') : V4 w' R x y z u :=
 ⟨h.1.below hb,(hb.cell (p := ⟨R,3,none⟩) h.lt).trans h.2.1,(hb.frozen (p := ⟨R,3,none⟩) h.lt).trans h.2.2⟩
theorem V4.lay (w : World) (t : TypeId) (x y z u : Value) : ∃ W,W = w.alloc (.cells #[x,y,z,u] t) ∧ W.heap.size = w.heap.size + 1 ∧ Below w.heap.size w W ∧ V4 W w.heap.size x y z u := by
 refine ⟨_,rfl,by simp,(Below.refl _ _).alloc (Nat.le_refl _) _,?_⟩
 have hb := heap_alloc_new w (.cells #[x,y,z,u] t)
 refine ⟨⟨?_,?_,?_,?_,?_,?_⟩,?_,?_⟩
 ·rw [cell_of_row _ _ _ _ _ _ hb]; rfl
 ·rw [cell_of_row _ _ _ _ _ _ hb]; rfl
 ·rw [cell_of_row _ _ _ _ _ _ hb]; rfl
 ·simp only [World.frozen?]; rw [hb]; simp
 ·simp only [World.frozen?]; rw [hb]; simp
 ·simp only [World.frozen?]; rw [hb]; simp
 ·rw [cell_of_row _ _ _ _ _ _ hb]; rfl
 ·simp only [World.frozen?]; rw [hb]; simp
theorem cell3_past {w : World} {R : Nat} {u : Value} (h : w.cell? ⟨R,3,none⟩ = some u) (x y z : Value) : (((w.setCell ⟨R,0,none⟩ x).setCell ⟨R,1,none⟩ y).setCell ⟨R,2,none⟩ z).cell? ⟨R,3,none⟩ = some u := by
 rw [World.cell?_setCell_other _ _ _ _ (fun e => by injection e; omega),World.cell?_setCell_other _ _ _ _ (fun e => by injection e; omega),World.cell?_setCell_other _ _ _ _ (fun e => by injection e; omega)]; exact h
theorem V4.keep {w : World} {R : Nat} {x y z u : Value} (h : V4 w R x y z u) (hx : ¬ IsNum x) (hy : ¬ IsNum y) (hz : ¬ IsNum z) (hu : ¬ IsNum u) (x' y' z' u' : Value) : KeepQ IsNum w ((((w.setCell ⟨R,0,none⟩ x').setCell ⟨R,1,none⟩ y').setCell ⟨R,2,none⟩ z').setCell ⟨R,3,none⟩ u') :=
 (h.1.keep hx hy hz x' y' z').trans (keep_set (cell3_past h.2.1 x' y' z') hu u')
theorem V4.keepJ {w : World} {R : Nat} {p : Bool} {ao bo co : Option Addr} {n c m d k e : Nat} (h : V4 w R (.slice co k e) (.bool p) (.slice ao n c) (.slice bo m d)) (x' y' z' u' : Value) : KeepQ IsNum w ((((w.setCell ⟨R,0,none⟩ x').setCell ⟨R,1,none⟩ y').setCell ⟨R,2,none⟩ z').setCell ⟨R,3,none⟩ u') :=
 h.keep (num_slice _ _ _) (num_bool _) (num_slice _ _ _) (num_slice _ _ _) x' y' z' u'
theorem V4.same {w : World} {R : Nat} {x y z u : Value} (h : V4 w R x y z u) (x' y' z' u' : Value) : V4 ((((w.setCell ⟨R,0,none⟩ x').setCell ⟨R,1,none⟩ y').setCell ⟨R,2,none⟩ z').setCell ⟨R,3,none⟩ u') R x' y' z' u' := by
 obtain ⟨h1,h2,h3,h4,h5,h6⟩ := h.1.same x' y' z'
 refine ⟨⟨?_,?_,?_,by simp [h4],by simp [h5],by simp [h6]⟩,World.cell?_setCell_same _ _ _ (cell3_past h.2.1 x' y' z'),by simp [h.2.2]⟩
 ·rw [World.cell?_setCell_other _ _ _ _ (fun e => by injection e; omega)]; exact h1
 ·rw [World.cell?_setCell_other _ _ _ _ (fun e => by injection e; omega)]; exact h2
 ·rw [World.cell?_setCell_other _ _ _ _ (fun e => by injection e; omega)]; exact h3
theorem below_store4 {B R : Nat} {w w' : World} (h : Below B w w') (hR : B ≤ R) (x y z u : Value) : Below B w ((((w'.setCell ⟨R,0,none⟩ x).setCell ⟨R,1,none⟩ y).setCell ⟨R,2,none⟩ z).setCell ⟨R,3,none⟩ u) := (((h.setCell hR _).setCell hR _).setCell hR _).setCell hR _

def FRow (w : World) (v : Value) (n : Nat) (q : Nat → Rat) : Prop := ∃ el,RowAt 3 w v n el ∧ ∀ i,i < n → RepQ w (.agg #[el i 0,el i 1,el i 2]) (q i)
theorem FRow.below {w w' : World} {v : Value} {n : Nat} {q : Nat → Rat} (h : FRow w v n q) (hb : Below w.heap.size w w') : FRow w' v n q := by
 obtain ⟨el,h1,h2⟩ := h
 exact ⟨el,h1.below hb,fun i hi => (h2 i hi).below hb⟩
theorem FRow.at {w : World} {v : Value} {n : Nat} {q : Nat → Rat} (h : FRow w v n q) (i : Nat) (hi : i < n) :
  ∃ b off c p ao m d bo k e,v = .slice (some ⟨b,off,none⟩) n c ∧ n ≤ c ∧ E3 w b (off + i * 3) (.bool p) (.slice ao m d) (.slice bo k e) ∧ RepQ w (.agg #[.bool p,.slice ao m d,.slice bo k e]) (q i) := by
 obtain ⟨el,⟨a,c,h1,h2,h3,h4⟩,h5⟩ := h
 obtain ⟨b,off,rfl,hc⟩ := h4 (by omega)
 have hq := h5 i hi
 obtain ⟨p,ao,m,d,bo,k,e,he⟩ := hq.open
 rw [he] at hq
 simp only [Value.agg.injEq,Array.mk.injEq,List.cons.injEq,and_true] at he
 have c0 := hc i hi 0 (by omega)
 have c1 := hc i hi 1 (by omega)
 have c2 := hc i hi 2 (by omega)
 rw [he.1] at c0
 rw [he.2.1] at c1
 rw [he.2.2] at c2
 exact ⟨b,off,c,p,ao,m,d,bo,k,e,h1,h2,⟨c0,c1,c2⟩,hq⟩
theorem FRow.open {w : World} {v : Value} {n : Nat} {q : Nat → Rat} (h : FRow w v n q) : ∃ a c,v = .slice a n c := by
 obtain ⟨el,⟨a,c,h1,_⟩,_⟩ := h; exact ⟨a,c,h1⟩
def FOwn (B : Nat) (w : World) (v : Value) (n : Nat) (q : Nat → Rat) : Prop :=
 ∃ (us : List Value) (el : Nat → Nat → Value),w.ownsRow B 42 3 v n us ∧ (∀ g,v.ownBlock = some g → PureB IsNum w g) ∧ (∀ i,i < n → ∀ j,j < 3 → us[i * 3 + j]? = some (el i j)) ∧ ∀ i,i < n → RepQ w (.agg #[el i 0,el i 1,el i 2]) (q i)
theorem FOwn.row {B : Nat} {w : World} {v : Value} {n : Nat} {q : Nat → Rat} (h : FOwn B w v n q) : FRow w v n q := by
 obtain ⟨us,el,h1,_,h3,h4⟩ := h
 exact ⟨el,RowAt.of_owns h1 h3,h4⟩
theorem FOwn.nil (B : Nat) (w : World) (q : Nat → Rat) : FOwn B w (.slice none 0 0) 0 q :=
 ⟨[],fun _ _ => .bool false,World.ownsRow_nil _ _ _ _,fun g h => (by cases h),fun i hi => (by omega),fun i hi => (by omega)⟩
theorem FOwn.below {B : Nat} {w w' : World} {v : Value} {n : Nat} {q : Nat → Rat} (h : FOwn B w v n q) (hb : Below w.heap.size w w') : FOwn B w' v n q := by
 obtain ⟨us,el,h1,h2,h3,h4⟩ := h
 exact ⟨us,el,owns_later h1 hb,fun g hg => (h2 g hg).below hb (h1.lt g hg).2,h3,fun i hi => (h4 i hi).below hb⟩
theorem FOwn.other {B : Nat} {w w' : World} {v : Value} {n : Nat} {q : Nat → Rat} {row : Option Nat} (h : FOwn B w v n q) (hg : w.grownBy w' row) (hk : KeepQ IsNum w w') (hne : ∀ g,row = some g → g < B) : FOwn B w' v n q := by
 obtain ⟨us,el,h1,h2,h3,h4⟩ := h
 have hv : ∀ g,v.ownBlock = some g → some g ≠ row := fun g hg e => by have := (h1.lt g hg).1; have := hne g e.symm; omega
 refine ⟨us,el,h1.kept hg ?_,fun g hgg o u hu => h2 g hgg o u ?_,h3,fun i hi => (h4 i hi).keep hk⟩
 ·cases hb : v.ownBlock with
  | none => exact .inl rfl
  | some g => exact .inr (hv g hb)
 ·rw [← World.cell?_of_block (w := w) (hg.block g (h1.lt g hgg).2 (hv g hgg))]; exact hu
theorem FOwn.more {B : Nat} {w w' : World} {n g' cap' : Nat} {q : Nat → Rat} {us : List Value} {el : Nat → Nat → Value} {x0 x1 x2 : Value} (h1 : w'.ownsRow B 42 3 (.slice (some ⟨g',0,none⟩) (n + 1) cap') (n + 1) (us ++ [x0,x1,x2]))
  (hp : PureB IsNum w' g') (hl : us.length = n * 3) (h3 : ∀ i,i < n → ∀ j,j < 3 → us[i * 3 + j]? = some (el i j)) (h4 : ∀ i,i < n → RepQ w (.agg #[el i 0,el i 1,el i 2]) (q i)) (hx : RepQ w (.agg #[x0,x1,x2]) (q n)) (hk : KeepQ IsNum w w') :
  FOwn B w' (.slice (some ⟨g',0,none⟩) (n + 1) cap') (n + 1) q := by
 refine ⟨_,fun i j => if i < n then el i j else if j = 0 then x0 else if j = 1 then x1 else x2,h1,fun g hg => by simp only [Value.ownBlock,Option.some.injEq] at hg; subst hg; exact hp,fun i hi j hj => ?_,fun i hi => ?_⟩
 ·by_cases hin : i < n
  ·show _ = some (if i < n then el i j else if j = 0 then x0 else if j = 1 then x1 else x2)
   rw [if_pos hin,List.getElem?_append_left (by omega)]; exact h3 i hin j hj
  ·obtain rfl : i = n := by omega
   show _ = some (if i < i then el i j else if j = 0 then x0 else if j = 1 then x1 else x2)
   rw [if_neg hin,List.getElem?_append_right (by omega),hl,Nat.add_sub_cancel_left]
   rcases (show j = 0 ∨ j = 1 ∨ j = 2 by omega) with rfl | rfl | rfl <;> rfl
 ·by_cases hin : i < n
  ·simp only [if_pos hin]; exact (h4 i hin).keep hk
  ·obtain rfl : i = n := by omega
   simp only [if_neg hin]; exact hx.keep hk
def BuiltQ (B : Nat) (w : World) (v : Value) (q : Rat) : Prop := ∃ R p ao n c bo m d,v = .slice (some ⟨R,0,none⟩) 1 1 ∧ B ≤ R ∧ V3 w R (.bool p) (.slice ao n c) (.slice bo m d) ∧ RepQ w (.agg #[.bool p,.slice ao n c,.slice bo m d]) q
theorem BuiltQ.below {B : Nat} {w w' : World} {v : Value} {q : Rat} (h : BuiltQ B w v q) (hb : Below w.heap.size w w') : BuiltQ B w' v q := let ⟨R,p,ao,n,c,bo,m,d,e2,hB,hv,hq⟩ := h; ⟨R,p,ao,n,c,bo,m,d,e2,hB,hv.below hb,hq.below hb⟩
def FFar (B : Nat) (w : World) (v : Value) (n : Nat) (q : Nat → Rat) : Prop := FRow w v n q ∧ ∀ b off c,v = .slice (some ⟨b,off,none⟩) n c → 0 < n → b < B
theorem FFar.below {B : Nat} {w w' : World} {v : Value} {n : Nat} {q : Nat → Rat} (h : FFar B w v n q) (hb : Below w.heap.size w w') : FFar B w' v n q := ⟨h.1.below hb,h.2⟩
theorem FFar.other {B : Nat} {w w' : World} {v : Value} {n : Nat} {q : Nat → Rat} {row : Option Nat} (h : FFar B w v n q) (hg : w.grownBy w' row) (hk : KeepQ IsNum w w') (hne : ∀ g,row = some g → B ≤ g) : FFar B w' v n q := by
 obtain ⟨⟨el,⟨a,c,h1,h2,h3,h4⟩,h5⟩,h6⟩ := h
 refine ⟨⟨el,⟨a,c,h1,h2,h3,fun hn => ?_⟩,fun i hi => (h5 i hi).keep hk⟩,h6⟩
 obtain ⟨b,off,e,hc⟩ := h4 hn
 have hlt := h6 b off c (by rw [h1,e]) hn
 exact ⟨b,off,e,fun i hi j hj => (World.cell?_of_block (w := w) (hg.block b (World.block_lt_of_cell? _ _ (hc i hi j hj)) (fun e' => by have := hne b e'.symm; omega))).trans (hc i hi j hj)⟩
theorem FOwn.both {B : Nat} {w : World} {v : Value} {n : Nat} {q : Nat → Rat} (h : FOwn B w v n q) (g : Nat) (hg : v.ownBlock = some g) : B ≤ g ∧ g < w.heap.size := by
 obtain ⟨us,el,h1,_⟩ := h
 exact h1.lt g hg
theorem FOwn.far {B : Nat} {w w' : World} {v : Value} {n : Nat} {q : Nat → Rat} {R : Nat} (h : FOwn B w v n q) (hg : w.grownBy w' (some R)) (hk : KeepQ IsNum w w') (hne : ∀ g,v.ownBlock = some g → g ≠ R) : FOwn B w' v n q := by
 obtain ⟨us,el,h1,h2,h3,h4⟩ := h
 have hv : ∀ g,v.ownBlock = some g → some g ≠ some R := fun g hg e => hne g hg (by injection e)
 refine ⟨us,el,h1.kept hg ?_,fun g hgg o u hu => h2 g hgg o u ?_,h3,fun i hi => (h4 i hi).keep hk⟩
 ·cases hb : v.ownBlock with
  | none => exact .inl rfl
  | some g => exact .inr (hv g hb)
 ·rw [← World.cell?_of_block (w := w) (hg.block g (h1.lt g hgg).2 (hv g hgg))]; exact hu
end Go.Proofs.YtbbliiafkjipbaaGreatDoor

namespace Go.Proofs.YtbbliiafkjipbaaGreatDoor
open Go.RowKit
set_option linter.unusedVariables false
set_option linter.unusedSimpArgs false
def Arr3 (w : World) (g n : Nat) (el : Nat → Nat → Value) : Prop := (∀ i,i < n → ∀ j,j < 3 → w.cell? ⟨g,i * 3 + j,none⟩ = some (el i j)) ∧ (∀ i,i < n → ∀ j,j < 3 → w.frozen? ⟨g,i * 3 + j,none⟩ = false) ∧ ∀ i,i < n → ∀ j,j < 3 → ¬ IsNum (el i j)
def upd3 (el : Nat → Nat → Value) (k : Nat) (x y z : Value) : Nat → Nat → Value := fun i j => if i = k then (if j = 0 then x else if j = 1 then y else z) else el i j
theorem upd3_other (el : Nat → Nat → Value) (k i : Nat) (x y z : Value) (h : i ≠ k) : upd3 el k x y z i = el i := by funext j; simp [upd3,h]
theorem Arr3.lt {w : World} {g n : Nat} {el : Nat → Nat → Value} (h : Arr3 w g n el) (hn : 0 < n) : g < w.heap.size := World.block_lt_of_cell? _ _ (h.1 0 hn 0 (by omega))
theorem Arr3.below {w w' : World} {g n : Nat} {el : Nat → Nat → Value} (h : Arr3 w g n el) (hb : Below w.heap.size w w') : Arr3 w' g n el :=
 ⟨fun i hi j hj => (hb.cell (World.block_lt_of_cell? _ _ (h.1 i hi j hj))).trans (h.1 i hi j hj),fun i hi j hj => (hb.frozen (World.block_lt_of_cell? _ _ (h.1 i hi j hj))).trans (h.2.1 i hi j hj),h.2.2⟩
theorem Arr3.set {w : World} {g n : Nat} {el : Nat → Nat → Value} (h : Arr3 w g n el) (k : Nat) (hk : k < n) (x y z : Value) (hx : ¬ IsNum x) (hy : ¬ IsNum y) (hz : ¬ IsNum z) :
  Arr3 (((w.setCell ⟨g,k * 3,none⟩ x).setCell ⟨g,k * 3 + 1,none⟩ y).setCell ⟨g,k * 3 + 2,none⟩ z) g n (upd3 el k x y z) ∧ KeepQ IsNum w (((w.setCell ⟨g,k * 3,none⟩ x).setCell ⟨g,k * 3 + 1,none⟩ y).setCell ⟨g,k * 3 + 2,none⟩ z) := by
 have c0 : w.cell? ⟨g,k * 3,none⟩ = some (el k 0) := h.1 k hk 0 (by omega)
 have c1 : (w.setCell ⟨g,k * 3,none⟩ x).cell? ⟨g,k * 3 + 1,none⟩ = some (el k 1) := by
  rw [World.cell?_setCell_other _ _ _ _ (fun e => by injection e; omega)]; exact h.1 k hk 1 (by omega)
 have c2 : ((w.setCell ⟨g,k * 3,none⟩ x).setCell ⟨g,k * 3 + 1,none⟩ y).cell? ⟨g,k * 3 + 2,none⟩ = some (el k 2) := by
  rw [World.cell?_setCell_other _ _ _ _ (fun e => by injection e; omega),World.cell?_setCell_other _ _ _ _ (fun e => by injection e; omega)]; exact h.1 k hk 2 (by omega)
 refine ⟨⟨fun i hi j hj => ?_,fun i hi j hj => ?_,fun i hi j hj => ?_⟩,?_⟩
 ·by_cases e : i = k
  ·subst e
   rcases (show j = 0 ∨ j = 1 ∨ j = 2 by omega) with rfl | rfl | rfl
   ·rw [World.cell?_setCell_other _ _ _ _ (fun e => by injection e; omega),World.cell?_setCell_other _ _ _ _ (fun e => by injection e; omega)]
    simp only [upd3,if_pos]; exact World.cell?_setCell_same _ _ _ c0
   ·rw [World.cell?_setCell_other _ _ _ _ (fun e => by injection e; omega)]
    simp only [upd3,if_pos]; exact World.cell?_setCell_same _ _ _ c1
   ·simp only [upd3,if_pos]; exact World.cell?_setCell_same _ _ _ c2
  ·rw [upd3_other _ _ _ _ _ _ e,World.cell?_setCell_other _ _ _ _ (fun e => by injection e; omega),World.cell?_setCell_other _ _ _ _ (fun e => by injection e; omega),World.cell?_setCell_other _ _ _ _ (fun e => by injection e; omega)]
   exact h.1 i hi j hj
 ·simp [h.2.1 i hi j hj]
 ·by_cases e : i = k
  ·subst e
   rcases (show j = 0 ∨ j = 1 ∨ j = 2 by omega) with rfl | rfl | rfl
   ·simpa [upd3] using hx
   ·simpa [upd3] using hy
   ·simpa [upd3] using hz
  ·rw [upd3_other _ _ _ _ _ _ e]; exact h.2.2 i hi j hj
 ·exact ((keep_set c0 (h.2.2 k hk 0 (by omega)) x).trans (keep_set c1 (h.2.2 k hk 1 (by omega)) y)).trans (keep_set c2 (h.2.2 k hk 2 (by omega)) z)
abbrev elv (el : Nat → Nat → Value) (i : Nat) : Value := .agg #[el i 0,el i 1,el i 2]
theorem Arr3.row {w : World} {g n : Nat} {el : Nat → Nat → Value} (h : Arr3 w g n el) (m c : Nat) (hm : m ≤ n) (hc : m ≤ c) (hc2 : c ≤ 9223372036854775807) : RowAt 3 w (.slice (some ⟨g,0,none⟩) m c) m el :=
 ⟨_,_,rfl,hc,hc2,fun _ => ⟨g,0,rfl,fun i hi j hj => by rw [Nat.zero_add]; exact h.1 i (by omega) j hj⟩⟩
theorem arr3_made {w : World} {B g n cap : Nat} {e : TypeId} (h : w.ownsRow B e 3 (.slice (some ⟨g,0,none⟩) n cap) n (madeCells (Value.agg #[.bool false,.slice none 0 0,.slice none 0 0]).cells (n * 3)).toList) : Arr3 w g n (fun _ j => if j = 0 then .bool false else .slice none 0 0) := by
 have hz : ∀ i,i < n → ∀ j,j < 3 → (madeCells (Value.agg #[.bool false,.slice none 0 0,.slice none 0 0]).cells (n * 3)).toList[i * 3 + j]? = some (if j = 0 then (.bool false : Value) else .slice none 0 0) := by
  intro i hi j hj
  have hlt : i * 3 + j < n * 3 := by omega
  have hmod : (i * 3 + j) % 3 = j := by omega
  have hcs : (Value.agg #[.bool false,.slice none 0 0,.slice none 0 0]).cells = #[.bool false,.slice none 0 0,.slice none 0 0] := rfl
  rw [hcs]
  simp only [madeCells,Array.toList_map,List.getElem?_map,Array.toList_range,List.getElem?_range hlt,Option.map_some]
  rw [show (#[(.bool false : Value),.slice none 0 0,.slice none 0 0]).size = 3 from rfl,hmod]
  rcases (show j = 0 ∨ j = 1 ∨ j = 2 by omega) with rfl | rfl | rfl <;> rfl
 refine ⟨fun i hi j hj => owns_cell h (hz i hi j hj),fun i hi j hj => h.frozenAt _,fun i hi j hj => ?_⟩
 by_cases e : j = 0
 ·simp only [e,if_pos]; exact num_bool _
 ·simp only [e,if_neg,not_false_eq_true]; exact num_slice _ _ _
theorem QRow.pre {w : World} {v : Value} {n : Nat} {q : Nat → Rat} {L : Nat} (h : QRow w v n q L) (m : Nat) (hm : m ≤ n) : ∃ ao c,v = .slice ao n c ∧ QRow w (.slice ao m m) m q L := by
 obtain ⟨el,⟨ao,c,h1,h2,h3,h4⟩,h5⟩ := h
 exact ⟨ao,c,h1,el,⟨ao,m,rfl,Nat.le_refl _,by omega,fun h0 => let ⟨b,off,e,hc⟩ := h4 (by omega); ⟨b,off,e,fun i hi => hc i (by omega)⟩⟩,fun i hi => h5 i (by omega)⟩
theorem FRow.pre {w : World} {v : Value} {n : Nat} {q : Nat → Rat} (h : FRow w v n q) (m : Nat) (hm : m ≤ n) : ∃ ao c,v = .slice ao n c ∧ FRow w (.slice ao m m) m q := by
 obtain ⟨el,⟨ao,c,h1,h2,h3,h4⟩,h5⟩ := h
 exact ⟨ao,c,h1,el,⟨ao,m,rfl,Nat.le_refl _,by omega,fun h0 => let ⟨b,off,e,hc⟩ := h4 (by omega); ⟨b,off,e,fun i hi => hc i (by omega)⟩⟩,fun i hi => h5 i (by omega)⟩
theorem FRow.q {w : World} {v : Value} {n : Nat} {q : Nat → Rat} (h : FRow w v n q) (L : Nat) (hL : ∀ i,i < n → qsz (q i) ≤ L) : QRow w v n q L := by
 obtain ⟨el,h1,h2⟩ := h
 exact ⟨el,h1,fun i hi => (h2 i hi).at L (hL i hi)⟩
theorem QRow.at {w : World} {v : Value} {n : Nat} {q : Nat → Rat} {L : Nat} (h : QRow w v n q L) (i : Nat) (hi : i < n) :
  ∃ b off c p ao m d bo k e,v = .slice (some ⟨b,off,none⟩) n c ∧ n ≤ c ∧ E3 w b (off + i * 3) (.bool p) (.slice ao m d) (.slice bo k e) ∧ RatAt w (.agg #[.bool p,.slice ao m d,.slice bo k e]) (q i) L := by
 obtain ⟨el,⟨a,c,h1,h2,h3,h4⟩,h5⟩ := h
 obtain ⟨b,off,rfl,hc⟩ := h4 (by omega)
 have hq := h5 i hi
 obtain ⟨p,ao,m,d,bo,k,e,he⟩ := hq.open
 rw [he] at hq
 simp only [Value.agg.injEq,Array.mk.injEq,List.cons.injEq,and_true] at he
 have c0 := hc i hi 0 (by omega)
 have c1 := hc i hi 1 (by omega)
 have c2 := hc i hi 2 (by omega)
 rw [he.1] at c0
 rw [he.2.1] at c1
 rw [he.2.2] at c2
 exact ⟨b,off,c,p,ao,m,d,bo,k,e,h1,h2,⟨c0,c1,c2⟩,hq⟩
theorem QRow.open {w : World} {v : Value} {n : Nat} {q : Nat → Rat} {L : Nat} (h : QRow w v n q L) : ∃ a c,v = .slice a n c ∧ n ≤ c ∧ c ≤ 9223372036854775807 ∧ (0 < n → ∃ b off,a = some ⟨b,off,none⟩) := by
 obtain ⟨el,⟨a,c,h1,h2,h3,h4⟩,_⟩ := h; exact ⟨a,c,h1,h2,h3,fun h0 => let ⟨b,off,e,_⟩ := h4 h0; ⟨b,off,e⟩⟩
def FNew (B : Nat) (w : World) (v : Value) (n : Nat) (q : Nat → Rat) : Prop := FRow w v n q ∧ ∀ b off c,v = .slice (some ⟨b,off,none⟩) n c → 0 < n → B ≤ b
theorem FNew.below {B : Nat} {w w' : World} {v : Value} {n : Nat} {q : Nat → Rat} (h : FNew B w v n q) (hb : Below w.heap.size w w') : FNew B w' v n q := ⟨h.1.below hb,h.2⟩
theorem FNew.le {B B' : Nat} {w : World} {v : Value} {n : Nat} {q : Nat → Rat} (h : FNew B w v n q) (hb : B' ≤ B) : FNew B' w v n q := ⟨h.1,fun b off c e hn => Nat.le_trans hb (h.2 b off c e hn)⟩
theorem FNew.other {B : Nat} {w w' : World} {v : Value} {n : Nat} {q : Nat → Rat} {row : Option Nat} (h : FNew B w v n q) (hg : w.grownBy w' row) (hk : KeepQ IsNum w w') (hne : ∀ g,row = some g → g < B) : FNew B w' v n q := by
 obtain ⟨⟨el,⟨a,c,h1,h2,h3,h4⟩,h5⟩,h6⟩ := h
 refine ⟨⟨el,⟨a,c,h1,h2,h3,fun hn => ?_⟩,fun i hi => (h5 i hi).keep hk⟩,h6⟩
 obtain ⟨b,off,e,hc⟩ := h4 hn
 have hlt := h6 b off c (by rw [h1,e]) hn
 exact ⟨b,off,e,fun i hi j hj => (World.cell?_of_block (w := w) (hg.block b (World.block_lt_of_cell? _ _ (hc i hi j hj)) (fun e' => by have := hne b e'.symm; omega))).trans (hc i hi j hj)⟩
theorem FNew.nil (B : Nat) (w : World) (q : Nat → Rat) : FNew B w (.slice none 0 0) 0 q := ⟨⟨fun _ _ => .bool false,RowAt.nil _ _ _,fun i hi => by omega⟩,fun b off c e _ => by cases e⟩

def spl10 (l : List Value) (o : Nat) (cs : List Value) : List Value := l.take o ++ cs ++ l.drop (o + cs.length)
theorem spl10_len {l cs : List Value} {o : Nat} (h : o + cs.length ≤ l.length) : (spl10 l o cs).length = l.length := by
 unfold spl10; simp; omega
theorem spl10_at {l cs : List Value} {o j : Nat} (h : o + cs.length ≤ l.length) : (spl10 l o cs)[j]? = if j < o then l[j]? else if j < o + cs.length then cs[j - o]? else l[j]? := by
 unfold spl10
 by_cases h1 : j < o
 ·rw [if_pos h1,List.append_assoc,List.getElem?_append_left (by simp; omega),List.getElem?_take_of_lt h1]
 ·rw [if_neg h1]
  by_cases h2 : j < o + cs.length
  ·rw [if_pos h2,List.append_assoc,List.getElem?_append_right (by simp; omega),List.getElem?_append_left (by simp; omega)]
   congr 1
   simp; omega
  ·rw [if_neg h2,List.getElem?_append_right (by simp; omega),List.getElem?_drop]
   congr 1
   simp; omega
theorem spl10_mem {l cs : List Value} {o : Nat} {u : Value} (h : u ∈ spl10 l o cs) : u ∈ l ∨ u ∈ cs := by
 unfold spl10 at h
 simp only [List.mem_append] at h
 rcases h with (h | h) | h
 ·exact .inl (List.mem_of_mem_take h)
 ·exact .inr h
 ·exact .inl (List.mem_of_mem_drop h)
theorem pure_splice {w : World} {g o : Nat} {e : TypeId} {cur : Array Value} {cs : List Value} {Q : Value → Prop} (hg : w.heap[g]? = some (.cells cur e (0,0))) (hp : PureB Q w g) (hc : ∀ u ∈ cs,¬ Q u) : PureB Q (w.setRow g (spl10 cur.toList o cs).toArray) g ∧ KeepQ Q w (w.setRow g (spl10 cur.toList o cs).toArray) := by
 have hcur := pure_cells hg hp
 refine ⟨pure_of_cells (setRow_heap w g cur _ e _ hg) fun u hu => ?_,fun b o' v hv hcv => ?_⟩
 ·rcases spl10_mem (by simpa using hu) with h | h
  ·exact hcur u h
  ·exact hc u h
 ·by_cases eb : b = g
  ·subst eb; exact absurd hv (hp o' v hcv)
  ·exact (World.cell?_of_block (w := w) (setRow_other w g b _ eb)).trans hcv
theorem wpList_store_in {P : Program} {ops : Array Oper} {rest : List Oper} {o : Oper} {a : Act} {Q : Exit → Act → World → Prop} {w : World} (hgd : o.guard = none) (t : TypeId) (x y : Operand) (ho : o.op = .store t x y) (i0 : TypeInfo) (hi : P.info? t = some i0) (g off : Nat) (hx : a.eval x = .pointer (some ⟨g,off,none⟩)) (vs : Array Value) (hy : a.eval y = .agg vs)
  (cur : Array Value) (t' : TypeId) (hg : w.heap[g]? = some (.cells cur t' (0,0))) (hl : off + vs.size ≤ cur.size) (hs : i0.size = vs.size) (h1 : ∀ v ∈ vs.toList,v.oneCell' = true)
  (h : wpList P ops Q rest (a.put o.dst undef) (w.setRow g (spl10 cur.toList off vs.toList).toArray)) :
  wpList P ops Q (o :: rest) a w := by
 refine wpList_plain hgd fun K hK => ?_
 have hst := run_storeCells_at (P := P) g off t' vs.toList 0 cur w hg (by simpa using hl) h1
 rw [Nat.add_zero] at hst
 have hst2 : (storeCells ⟨g,off,none⟩ vs.toList).run P w = .ok () (w.setRow g (spl10 cur.toList off vs.toList).toArray) := hst
 unfold Oper.wp execOp
 simp [ho,hx,hy,Instr.storeAt,Instr.sureAddr,storeVar,sizeOf,typeInfo,hi,hs,hst2,Result.andThen,Value.cells]
 exact hK _ _ h

theorem run_copyK {P : Program} (k : Nat) (w : World) (dT sT ty elem : TypeId) (g o dLen dCap : Nat) (a : Addr) (sLen sCap : Nat) (cur : Array Value) (t : TypeId) (cs : List Value)
  (hu : P.underlying dT = some (.slice elem)) (hs : (P.info? elem).map (·.size) = some k)
  (hg : w.heap[g]? = some (.cells cur t (0,0))) (hn : cs.length = Nat.min sLen dLen * k)
  (hsrc : ∀ j v,cs[j]? = some v → w.cell? (a.add j) = some v) (hfit : o + cs.length ≤ cur.size) (h1 : ∀ v ∈ cs,v.oneCell' = true) :
  (Builtin.copy_ #[dT,sT] ty #[.slice (some ⟨g,o,none⟩) dLen dCap,.slice (some a) sLen sCap]).run P w =
   .ok (goInt (Nat.min sLen dLen)) (w.setRow g (cur.toList.take o ++ cs ++ cur.toList.drop (o + cs.length)).toArray) := by
 have hl := run_loadCells_list (P := P) w a cs hsrc
 have hst := run_storeCells_at P g o t cs 0 cur w hg (by simpa using hfit) h1
 cases hq : P.info? elem with
 | none => simp [hq] at hs
 | some i =>
  have hi : i.size = k := by simpa [hq] using hs
  simp [Builtin.copy_,run_underlying hu,Builtin.lenOf,Builtin.firstCells,sizeOf,typeInfo,hq,hi,← hn,hl,hst]
theorem run_copyK_none {P : Program} (k : Nat) (w : World) (dT sT ty elem : TypeId) (d a : Option Addr) (dLen dCap sLen sCap : Nat) (hu : P.underlying dT = some (.slice elem)) (hs : (P.info? elem).map (·.size) = some k) (hn : Nat.min sLen dLen = 0) :
  (Builtin.copy_ #[dT,sT] ty #[.slice d dLen dCap,.slice a sLen sCap]).run P w = .ok (goInt 0) w := by
 cases hq : P.info? elem with
 | none => simp [hq] at hs
 | some i =>
  have hl : ∀ (x : Addr),(loadCells x 0).run P w = .ok #[] w := fun x => by simpa using run_loadCells_list (P := P) w x [] (by simp)
  cases d <;> cases a <;> simp [Builtin.copy_,run_underlying hu,Builtin.lenOf,Builtin.firstCells,sizeOf,typeInfo,hq,hn,storeCells,hl]
theorem step_copyK {P : Program} (k : Nat) (hk0 : 0 < k) {ops : Array Oper} {o : Oper} {a : Act} {w : World} {K : Act → World → Prop} {Q : Exit → Act → World → Prop} {E : Prop} (hgd : o.guard = none) (d s : Operand) (dT sT : TypeId)
  (ho : o.op = .call { callee := .builtin .copy,args := #[d,s],argTypes := #[dT,sT] }) (elem : TypeId) (hu : P.underlying dT = some (.slice elem)) (hsz : (P.info? elem).map (·.size) = some k)
  (dp sp : Option Addr) (dLen dCap sLen sCap : Nat) (hd : a.eval d = .slice dp dLen dCap) (hs : a.eval s = .slice sp sLen sCap)
  (g off : Nat) (cur : Array Value) (t : TypeId) (hg : w.heap[g]? = some (.cells cur t (0,0))) (cs : List Value) (hn : cs.length = Nat.min sLen dLen * k)
  (hpos : 0 < cs.length → dp = some ⟨g,off,none⟩ ∧ ∃ ad,sp = some ad ∧ ∀ j v,cs[j]? = some v → w.cell? (ad.add j) = some v)
  (hfit : off + cs.length ≤ cur.size) (h1 : ∀ v ∈ cs,v.oneCell' = true)
  (h : K (a.put o.dst (goInt (Nat.min sLen dLen))) (w.setRow g (spl10 cur.toList off cs).toArray)) :
  if Region.wanted o (yielded ops a.tmps) = true then Oper.wp P o a w K Q else E := by
 have hw : Region.wanted o (yielded ops a.tmps) = true := by simp [Region.wanted,hgd]
 rw [if_pos hw]
 by_cases h0 : cs.length = 0
 ·obtain rfl : cs = [] := List.eq_nil_of_length_eq_zero h0
  have hm : Nat.min sLen dLen = 0 := by
   rcases Nat.mul_eq_zero.1 (hn.symm.trans h0) with h | h
   ·exact h
   ·omega
  have hrun := run_copyK_none (P := P) k w dT sT o.type elem dp sp dLen dCap sLen sCap hu hsz hm
  have e9 : w.setRow g (spl10 cur.toList off []).toArray = w := by
   have : spl10 cur.toList off [] = cur.toList := by simp [spl10]
   rw [this]
   simpa using setRow_self w g cur t (0,0) hg
  rw [e9,hm] at h
  unfold Oper.wp
  simp [execOp,ho,resolve,invoke,builtin,hd,hs,hrun,Result.andThen]
  exact h
 ·obtain ⟨rfl,ad,rfl,hsrc⟩ := hpos (by omega)
  have hrun := run_copyK (P := P) k w dT sT o.type elem g off dLen dCap ad sLen sCap cur t cs hu hsz hg hn hsrc hfit h1
  have hrun2 : (Builtin.copy_ #[dT,sT] o.type #[.slice (some ⟨g,off,none⟩) dLen dCap,.slice (some ad) sLen sCap]).run P w = .ok (goInt (Nat.min sLen dLen)) (w.setRow g (spl10 cur.toList off cs).toArray) := hrun
  unfold Oper.wp
  simp [execOp,ho,resolve,invoke,builtin,hd,hs,hrun2,Result.andThen]
  exact h
theorem wpList_copyK {P : Program} (k : Nat) (hk0 : 0 < k) {ops : Array Oper} {rest : List Oper} {o : Oper} {a : Act} {w : World} {Q : Exit → Act → World → Prop} (hgd : o.guard = none) (d s : Operand) (dT sT : TypeId)
  (ho : o.op = .call { callee := .builtin .copy,args := #[d,s],argTypes := #[dT,sT] }) (elem : TypeId) (hu : P.underlying dT = some (.slice elem)) (hsz : (P.info? elem).map (·.size) = some k)
  (dp sp : Option Addr) (dLen dCap sLen sCap : Nat) (hd : a.eval d = .slice dp dLen dCap) (hs : a.eval s = .slice sp sLen sCap)
  (g off : Nat) (cur : Array Value) (t : TypeId) (hg : w.heap[g]? = some (.cells cur t (0,0))) (cs : List Value) (hn : cs.length = Nat.min sLen dLen * k)
  (hpos : 0 < cs.length → dp = some ⟨g,off,none⟩ ∧ ∃ ad,sp = some ad ∧ ∀ j v,cs[j]? = some v → w.cell? (ad.add j) = some v)
  (hfit : off + cs.length ≤ cur.size) (h1 : ∀ v ∈ cs,v.oneCell' = true)
  (h : wpList P ops Q rest (a.put o.dst (goInt (Nat.min sLen dLen))) (w.setRow g (spl10 cur.toList off cs).toArray)) :
  wpList P ops Q (o :: rest) a w := by
 refine wpList_plain hgd fun K hK => ?_
 by_cases h0 : cs.length = 0
 ·obtain rfl : cs = [] := List.eq_nil_of_length_eq_zero h0
  have hm : Nat.min sLen dLen = 0 := by
   rcases Nat.mul_eq_zero.1 (hn.symm.trans h0) with h | h
   ·exact h
   ·omega
  have hrun := run_copyK_none (P := P) k w dT sT o.type elem dp sp dLen dCap sLen sCap hu hsz hm
  have e9 : w.setRow g (spl10 cur.toList off []).toArray = w := by
   have : spl10 cur.toList off [] = cur.toList := by simp [spl10]
   rw [this]
   simpa using setRow_self w g cur t (0,0) hg
  rw [e9,hm] at h
  unfold Oper.wp
  simp [execOp,ho,resolve,invoke,builtin,hd,hs,hrun,Result.andThen]
  exact hK _ _ h
 ·obtain ⟨rfl,ad,rfl,hsrc⟩ := hpos (by omega)
  have hrun := run_copyK (P := P) k w dT sT o.type elem g off dLen dCap ad sLen sCap cur t cs hu hsz hg hn hsrc hfit h1
  have hrun2 : (Builtin.copy_ #[dT,sT] o.type #[.slice (some ⟨g,off,none⟩) dLen dCap,.slice (some ad) sLen sCap]).run P w = .ok (goInt (Nat.min sLen dLen)) (w.setRow g (spl10 cur.toList off cs).toArray) := hrun
  unfold Oper.wp
  simp [execOp,ho,resolve,invoke,builtin,hd,hs,hrun2,Result.andThen]
  exact hK _ _ h
end Go.Proofs.YtbbliiafkjipbaaGreatDoor
