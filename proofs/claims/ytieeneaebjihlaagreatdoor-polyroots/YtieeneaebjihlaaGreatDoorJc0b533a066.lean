/-
  Texts of mine, joined: what lies beneath the statement.
-/
import Derived.Test.YtieeneaebjihlaaGreatDoorJ6e678e005c
import Derived.Test.YtieeneaebjihlaaGreatDoorJc5af075678
import Derived.Test.YtieeneaebjihlaaGreatDoorJ4e8cf3c041
import Derived.Test.YtieeneaebjihlaaGreatDoorJ0bdc9dde62
namespace Go.Proofs.YtieeneaebjihlaaGreatDoor
open Go.RowKit
set_option linter.unusedVariables false

theorem info_wrat : (Tryz.prog.info? 28).map (fun i => (i.zero,i.size,i.bytes)) = some (some (.agg #[.bool false,.slice none 0 0,.slice none 0 0]),3,56) := by kernel_rfl
/-- A row of the call's own of rational numbers, each of at most L limbs above and below. -/
def QOwn (B : Nat) (w : World) (v : Value) (n : Nat) (q : Nat → Rat) (L : Nat) : Prop :=
 ∃ (us : List Value) (el : Nat → Nat → Value),w.ownsRow B 28 3 v n us ∧ (∀ g,v.ownBlock = some g → PureB IsNum w g) ∧ (∀ i,i < n → ∀ j,j < 3 → us[i * 3 + j]? = some (el i j)) ∧ ∀ i,i < n → RatAt w (.agg #[el i 0,el i 1,el i 2]) (q i) L
theorem QOwn.row {B : Nat} {w : World} {v : Value} {n : Nat} {q : Nat → Rat} {L : Nat} (h : QOwn B w v n q L) : QRow w v n q L := by
 obtain ⟨us,el,h1,_,h3,h4⟩ := h
 exact ⟨el,RowAt.of_owns h1 h3,h4⟩
theorem QOwn.nil (B : Nat) (w : World) (q : Nat → Rat) (L : Nat) : QOwn B w (.slice none 0 0) 0 q L :=
 ⟨[],fun _ _ => .bool false,World.ownsRow_nil _ _ _ _,fun g h => (by cases h),fun i hi => (by omega),fun i hi => (by omega)⟩
theorem QOwn.below {B : Nat} {w w' : World} {v : Value} {n : Nat} {q : Nat → Rat} {L : Nat} (h : QOwn B w v n q L) (hb : Below w.heap.size w w') : QOwn B w' v n q L := by
 obtain ⟨us,el,h1,h2,h3,h4⟩ := h
 exact ⟨us,el,owns_later h1 hb,fun g hg => (h2 g hg).below hb (h1.lt g hg).2,h3,fun i hi => (h4 i hi).below hb⟩
/-- Something else was set. -/
theorem QOwn.other {B : Nat} {w w' : World} {v : Value} {n : Nat} {q : Nat → Rat} {L : Nat} {row : Option Nat} (h : QOwn B w v n q L) (hg : w.grownBy w' row) (hk : KeepQ IsNum w w') (hne : ∀ g,row = some g → g < B) : QOwn B w' v n q L := by
 obtain ⟨us,el,h1,h2,h3,h4⟩ := h
 have hv : ∀ g,v.ownBlock = some g → some g ≠ row := fun g hg e => by have := (h1.lt g hg).1; have := hne g e.symm; omega
 refine ⟨us,el,h1.kept hg ?_,fun g hgg o u hu => h2 g hgg o u ?_,h3,fun i hi => (h4 i hi).keep hk⟩
 ·cases hb : v.ownBlock with
  | none => exact .inl rfl
  | some g => exact .inr (hv g hb)
 ·rw [← World.cell?_of_block (w := w) (hg.block g (h1.lt g hgg).2 (hv g hgg))]; exact hu
theorem QOwn.more {B : Nat} {w w' : World} {n g' cap' : Nat} {q : Nat → Rat} {L : Nat} {us : List Value} {el : Nat → Nat → Value} {x0 x1 x2 : Value} (h1 : w'.ownsRow B 28 3 (.slice (some ⟨g',0,none⟩) (n + 1) cap') (n + 1) (us ++ [x0,x1,x2]))
  (hp : PureB IsNum w' g') (hl : us.length = n * 3) (h3 : ∀ i,i < n → ∀ j,j < 3 → us[i * 3 + j]? = some (el i j)) (h4 : ∀ i,i < n → RatAt w (.agg #[el i 0,el i 1,el i 2]) (q i) L) (hx : RatAt w (.agg #[x0,x1,x2]) (q n) L) (hk : KeepQ IsNum w w') :
  QOwn B w' (.slice (some ⟨g',0,none⟩) (n + 1) cap') (n + 1) q L := by
 refine ⟨_,fun i j => if i < n then el i j else if j = 0 then x0 else if j = 1 then x1 else x2,h1,fun g hg => by simp only [Value.ownBlock,Option.some.injEq] at hg; subst hg; exact hp,fun i hi j hj => ?_,fun i hi => ?_⟩
 ·by_cases hin : i < n
  ·show _ = some (if i < n then el i j else if j = 0 then x0 else if j = 1 then x1 else x2)
   rw [if_pos hin,List.getElem?_append_left (by omega)]; exact h3 i hin j hj
  ·obtain rfl : i = n := by omega
   show _ = some (if i < i then el i j else if j = 0 then x0 else if j = 1 then x1 else x2)
   rw [if_neg hin,List.getElem?_append_right (by omega),hl,Nat.add_sub_cancel_left]
   rcases (show j = 0 ∨ j = 1 ∨ j = 2 by omega) with rfl | rfl | rfl <;> rfl
 ·by_cases hin : i < n
  ·simp only [if_pos hin]; exact (h4 i hin).keep hk
  ·obtain rfl : i = n := by omega
   simp only [if_neg hin]; exact hx.keep hk
theorem grown_set3 (w : World) (R : Nat) (x y z : Value) : w.grownBy (((w.setCell ⟨R,0,none⟩ x).setCell ⟨R,1,none⟩ y).setCell ⟨R,2,none⟩ z) (some R) :=
 ⟨rfl,rfl,rfl,by simp,fun k _ hk => by rw [Below.heap_setCell _ _ _ _ (fun e => hk (by rw [e])),Below.heap_setCell _ _ _ _ (fun e => hk (by rw [e])),Below.heap_setCell _ _ _ _ (fun e => hk (by rw [e]))]⟩
theorem V3.grown {w w' : World} {R : Nat} {x y z : Value} {row : Option Nat} (h : V3 w R x y z) (hg : w.grownBy w' row) (hne : some R ≠ row) : V3 w' R x y z := by
 have hb := hg.block R h.lt hne
 obtain ⟨h1,h2,h3,h4,h5,h6⟩ := h
 exact ⟨(World.cell?_of_block (w := w) hb).trans h1,(World.cell?_of_block (w := w) hb).trans h2,(World.cell?_of_block (w := w) hb).trans h3,(World.frozen?_of_block (w := w) hb).trans h4,(World.frozen?_of_block (w := w) hb).trans h5,(World.frozen?_of_block (w := w) hb).trans h6⟩
/-- Three cells of a row. -/
def E3 (w : World) (b o : Nat) (x y z : Value) : Prop := w.cell? ⟨b,o,none⟩ = some x ∧ w.cell? ⟨b,o + 1,none⟩ = some y ∧ w.cell? ⟨b,o + 2,none⟩ = some z
theorem E3.lt {w : World} {b o : Nat} {x y z : Value} (h : E3 w b o x y z) : b < w.heap.size := World.block_lt_of_cell? _ _ h.1
theorem E3.below {w w' : World} {b o : Nat} {x y z : Value} (h : E3 w b o x y z) (hb : Below w.heap.size w w') : E3 w' b o x y z := ⟨(hb.cell h.lt).trans h.1,(hb.cell h.lt).trans h.2.1,(hb.cell h.lt).trans h.2.2⟩
theorem E3.other3 {w : World} {R b o : Nat} {x y z : Value} (h : E3 w b o x y z) (hne : b ≠ R) (x' y' z' : Value) : E3 (((w.setCell ⟨R,0,none⟩ x').setCell ⟨R,1,none⟩ y').setCell ⟨R,2,none⟩ z') b o x y z :=
 ⟨set_cell_block (set_cell_block (set_cell_block h.1 hne) hne) hne,set_cell_block (set_cell_block (set_cell_block h.2.1 hne) hne) hne,set_cell_block (set_cell_block (set_cell_block h.2.2 hne) hne) hne⟩

/-- A slice of n rational numbers, each in its form. -/
def FRow (w : World) (v : Value) (n : Nat) (q : Nat → Rat) : Prop := ∃ el,RowAt 3 w v n el ∧ ∀ i,i < n → RepQ w (.agg #[el i 0,el i 1,el i 2]) (q i)
theorem FRow.below {w w' : World} {v : Value} {n : Nat} {q : Nat → Rat} (h : FRow w v n q) (hb : Below w.heap.size w w') : FRow w' v n q := by
 obtain ⟨el,h1,h2⟩ := h
 exact ⟨el,h1.below hb,fun i hi => (h2 i hi).below hb⟩
/-- The i-th of them. -/
theorem FRow.at {w : World} {v : Value} {n : Nat} {q : Nat → Rat} (h : FRow w v n q) (i : Nat) (hi : i < n) :
  ∃ b off c p ao m d bo k e,v = .slice (some ⟨b,off,none⟩) n c ∧ n ≤ c ∧ E3 w b (off + i * 3) (.bool p) (.slice ao m d) (.slice bo k e) ∧ RepQ w (.agg #[.bool p,.slice ao m d,.slice bo k e]) (q i) := by
 obtain ⟨el,⟨a,c,h1,h2,h3,h4⟩,h5⟩ := h
 obtain ⟨b,off,rfl,hc⟩ := h4 (by omega)
 have hq := h5 i hi
 obtain ⟨p,ao,m,d,bo,k,e,he⟩ := hq.open
 rw [he] at hq
 simp only [Value.agg.injEq,Array.mk.injEq,List.cons.injEq,and_true] at he
 have c0 := hc i hi 0 (by omega)
 have c1 := hc i hi 1 (by omega)
 have c2 := hc i hi 2 (by omega)
 rw [he.1] at c0
 rw [he.2.1] at c1
 rw [he.2.2] at c2
 exact ⟨b,off,c,p,ao,m,d,bo,k,e,h1,h2,⟨c0,c1,c2⟩,hq⟩
theorem FRow.open {w : World} {v : Value} {n : Nat} {q : Nat → Rat} (h : FRow w v n q) : ∃ a c,v = .slice a n c := by
 obtain ⟨el,⟨a,c,h1,_⟩,_⟩ := h; exact ⟨a,c,h1⟩
/-- A row of the call's own of rational numbers, each in its form. -/
def FOwn (B : Nat) (w : World) (v : Value) (n : Nat) (q : Nat → Rat) : Prop :=
 ∃ (us : List Value) (el : Nat → Nat → Value),w.ownsRow B 28 3 v n us ∧ (∀ g,v.ownBlock = some g → PureB IsNum w g) ∧ (∀ i,i < n → ∀ j,j < 3 → us[i * 3 + j]? = some (el i j)) ∧ ∀ i,i < n → RepQ w (.agg #[el i 0,el i 1,el i 2]) (q i)
theorem FOwn.row {B : Nat} {w : World} {v : Value} {n : Nat} {q : Nat → Rat} (h : FOwn B w v n q) : FRow w v n q := by
 obtain ⟨us,el,h1,_,h3,h4⟩ := h
 exact ⟨el,RowAt.of_owns h1 h3,h4⟩
theorem FOwn.nil (B : Nat) (w : World) (q : Nat → Rat) : FOwn B w (.slice none 0 0) 0 q :=
 ⟨[],fun _ _ => .bool false,World.ownsRow_nil _ _ _ _,fun g h => (by cases h),fun i hi => (by omega),fun i hi => (by omega)⟩
theorem FOwn.below {B : Nat} {w w' : World} {v : Value} {n : Nat} {q : Nat → Rat} (h : FOwn B w v n q) (hb : Below w.heap.size w w') : FOwn B w' v n q := by
 obtain ⟨us,el,h1,h2,h3,h4⟩ := h
 exact ⟨us,el,owns_later h1 hb,fun g hg => (h2 g hg).below hb (h1.lt g hg).2,h3,fun i hi => (h4 i hi).below hb⟩
/-- Something else was set. -/
theorem FOwn.other {B : Nat} {w w' : World} {v : Value} {n : Nat} {q : Nat → Rat} {row : Option Nat} (h : FOwn B w v n q) (hg : w.grownBy w' row) (hk : KeepQ IsNum w w') (hne : ∀ g,row = some g → g < B) : FOwn B w' v n q := by
 obtain ⟨us,el,h1,h2,h3,h4⟩ := h
 have hv : ∀ g,v.ownBlock = some g → some g ≠ row := fun g hg e => by have := (h1.lt g hg).1; have := hne g e.symm; omega
 refine ⟨us,el,h1.kept hg ?_,fun g hgg o u hu => h2 g hgg o u ?_,h3,fun i hi => (h4 i hi).keep hk⟩
 ·cases hb : v.ownBlock with
  | none => exact .inl rfl
  | some g => exact .inr (hv g hb)
 ·rw [← World.cell?_of_block (w := w) (hg.block g (h1.lt g hgg).2 (hv g hgg))]; exact hu
theorem FOwn.more {B : Nat} {w w' : World} {n g' cap' : Nat} {q : Nat → Rat} {us : List Value} {el : Nat → Nat → Value} {x0 x1 x2 : Value} (h1 : w'.ownsRow B 28 3 (.slice (some ⟨g',0,none⟩) (n + 1) cap') (n + 1) (us ++ [x0,x1,x2]))
  (hp : PureB IsNum w' g') (hl : us.length = n * 3) (h3 : ∀ i,i < n → ∀ j,j < 3 → us[i * 3 + j]? = some (el i j)) (h4 : ∀ i,i < n → RepQ w (.agg #[el i 0,el i 1,el i 2]) (q i)) (hx : RepQ w (.agg #[x0,x1,x2]) (q n)) (hk : KeepQ IsNum w w') :
  FOwn B w' (.slice (some ⟨g',0,none⟩) (n + 1) cap') (n + 1) q := by
 refine ⟨_,fun i j => if i < n then el i j else if j = 0 then x0 else if j = 1 then x1 else x2,h1,fun g hg => by simp only [Value.ownBlock,Option.some.injEq] at hg; subst hg; exact hp,fun i hi j hj => ?_,fun i hi => ?_⟩
 ·by_cases hin : i < n
  ·show _ = some (if i < n then el i j else if j = 0 then x0 else if j = 1 then x1 else x2)
   rw [if_pos hin,List.getElem?_append_left (by omega)]; exact h3 i hin j hj
  ·obtain rfl : i = n := by omega
   show _ = some (if i < i then el i j else if j = 0 then x0 else if j = 1 then x1 else x2)
   rw [if_neg hin,List.getElem?_append_right (by omega),hl,Nat.add_sub_cancel_left]
   rcases (show j = 0 ∨ j = 1 ∨ j = 2 by omega) with rfl | rfl | rfl <;> rfl
 ·by_cases hin : i < n
  ·simp only [if_pos hin]; exact (h4 i hin).keep hk
  ·obtain rfl : i = n := by omega
   simp only [if_neg hin]; exact hx.keep hk
/-- A slice of one new number. -/
def BuiltQ (B : Nat) (w : World) (v : Value) (q : Rat) : Prop := ∃ R p ao n c bo m d,v = .slice (some ⟨R,0,none⟩) 1 1 ∧ B ≤ R ∧ V3 w R (.bool p) (.slice ao n c) (.slice bo m d) ∧ RepQ w (.agg #[.bool p,.slice ao n c,.slice bo m d]) q
theorem BuiltQ.below {B : Nat} {w w' : World} {v : Value} {q : Rat} (h : BuiltQ B w v q) (hb : Below w.heap.size w w') : BuiltQ B w' v q := let ⟨R,p,ao,n,c,bo,m,d,e2,hB,hv,hq⟩ := h; ⟨R,p,ao,n,c,bo,m,d,e2,hB,hv.below hb,hq.below hb⟩
/-- A row that lies below B. -/
def FFar (B : Nat) (w : World) (v : Value) (n : Nat) (q : Nat → Rat) : Prop := FRow w v n q ∧ ∀ b off c,v = .slice (some ⟨b,off,none⟩) n c → 0 < n → b < B
theorem FRow.ffar {w : World} {v : Value} {n : Nat} {q : Nat → Rat} (h : FRow w v n q) : FFar w.heap.size w v n q := by
 refine ⟨h,fun b off c e hn => ?_⟩
 obtain ⟨el,⟨a,c',h1,h2,h3,h4⟩,_⟩ := h
 obtain ⟨b',off',e2,hc⟩ := h4 hn
 rw [h1,e2] at e
 simp only [Value.slice.injEq,Option.some.injEq,Addr.mk.injEq] at e
 obtain ⟨⟨rfl,_⟩,_⟩ := e
 exact World.block_lt_of_cell? _ _ (hc 0 hn 0 (by omega))
theorem FFar.below {B : Nat} {w w' : World} {v : Value} {n : Nat} {q : Nat → Rat} (h : FFar B w v n q) (hb : Below w.heap.size w w') : FFar B w' v n q := ⟨h.1.below hb,h.2⟩
theorem FFar.other {B : Nat} {w w' : World} {v : Value} {n : Nat} {q : Nat → Rat} {row : Option Nat} (h : FFar B w v n q) (hg : w.grownBy w' row) (hk : KeepQ IsNum w w') (hne : ∀ g,row = some g → B ≤ g) : FFar B w' v n q := by
 obtain ⟨⟨el,⟨a,c,h1,h2,h3,h4⟩,h5⟩,h6⟩ := h
 refine ⟨⟨el,⟨a,c,h1,h2,h3,fun hn => ?_⟩,fun i hi => (h5 i hi).keep hk⟩,h6⟩
 obtain ⟨b,off,e,hc⟩ := h4 hn
 have hlt := h6 b off c (by rw [h1,e]) hn
 exact ⟨b,off,e,fun i hi j hj => (World.cell?_of_block (w := w) (hg.block b (World.block_lt_of_cell? _ _ (hc i hi j hj)) (fun e' => by have := hne b e'.symm; omega))).trans (hc i hi j hj)⟩
/-- Where it lies. -/
theorem FOwn.ltH {B : Nat} {w : World} {v : Value} {n : Nat} {q : Nat → Rat} (h : FOwn B w v n q) : Hid (∀ g,v.ownBlock = some g → g < w.heap.size) := by
 obtain ⟨us,el,h1,_⟩ := h
 exact fun g hg => (h1.lt g hg).2
theorem FOwn.both {B : Nat} {w : World} {v : Value} {n : Nat} {q : Nat → Rat} (h : FOwn B w v n q) (g : Nat) (hg : v.ownBlock = some g) : B ≤ g ∧ g < w.heap.size := by
 obtain ⟨us,el,h1,_⟩ := h
 exact h1.lt g hg
theorem FOwn.far {B : Nat} {w w' : World} {v : Value} {n : Nat} {q : Nat → Rat} {R : Nat} (h : FOwn B w v n q) (hg : w.grownBy w' (some R)) (hk : KeepQ IsNum w w') (hne : ∀ g,v.ownBlock = some g → g ≠ R) : FOwn B w' v n q := by
 obtain ⟨us,el,h1,h2,h3,h4⟩ := h
 have hv : ∀ g,v.ownBlock = some g → some g ≠ some R := fun g hg e => hne g hg (by injection e)
 refine ⟨us,el,h1.kept hg ?_,fun g hgg o u hu => h2 g hgg o u ?_,h3,fun i hi => (h4 i hi).keep hk⟩
 ·cases hb : v.ownBlock with
  | none => exact .inl rfl
  | some g => exact .inr (hv g hb)
 ·rw [← World.cell?_of_block (w := w) (hg.block g (h1.lt g hgg).2 (hv g hgg))]; exact hu

end Go.Proofs.YtieeneaebjihlaaGreatDoor

namespace Go.Proofs.YtieeneaebjihlaaGreatDoor
open Go.RowKit
set_option linter.unusedVariables false
set_option linter.unusedSimpArgs false

/-- An array of n structs of three cells in block g, which may be written; no number lies in it. -/
def Arr3 (w : World) (g n : Nat) (el : Nat → Nat → Value) : Prop := (∀ i,i < n → ∀ j,j < 3 → w.cell? ⟨g,i * 3 + j,none⟩ = some (el i j)) ∧ (∀ i,i < n → ∀ j,j < 3 → w.frozen? ⟨g,i * 3 + j,none⟩ = false) ∧ ∀ i,i < n → ∀ j,j < 3 → ¬ IsNum (el i j)
/-- The i-th set. -/
def upd3 (el : Nat → Nat → Value) (k : Nat) (x y z : Value) : Nat → Nat → Value := fun i j => if i = k then (if j = 0 then x else if j = 1 then y else z) else el i j
theorem upd3_other (el : Nat → Nat → Value) (k i : Nat) (x y z : Value) (h : i ≠ k) : upd3 el k x y z i = el i := by funext j; simp [upd3,h]
theorem Arr3.lt {w : World} {g n : Nat} {el : Nat → Nat → Value} (h : Arr3 w g n el) (hn : 0 < n) : g < w.heap.size := World.block_lt_of_cell? _ _ (h.1 0 hn 0 (by omega))
theorem Arr3.below {w w' : World} {g n : Nat} {el : Nat → Nat → Value} (h : Arr3 w g n el) (hb : Below w.heap.size w w') : Arr3 w' g n el :=
 ⟨fun i hi j hj => (hb.cell (World.block_lt_of_cell? _ _ (h.1 i hi j hj))).trans (h.1 i hi j hj),fun i hi j hj => (hb.frozen (World.block_lt_of_cell? _ _ (h.1 i hi j hj))).trans (h.2.1 i hi j hj),h.2.2⟩
theorem Arr3.set {w : World} {g n : Nat} {el : Nat → Nat → Value} (h : Arr3 w g n el) (k : Nat) (hk : k < n) (x y z : Value) (hx : ¬ IsNum x) (hy : ¬ IsNum y) (hz : ¬ IsNum z) :
  Arr3 (((w.setCell ⟨g,k * 3,none⟩ x).setCell ⟨g,k * 3 + 1,none⟩ y).setCell ⟨g,k * 3 + 2,none⟩ z) g n (upd3 el k x y z) ∧ KeepQ IsNum w (((w.setCell ⟨g,k * 3,none⟩ x).setCell ⟨g,k * 3 + 1,none⟩ y).setCell ⟨g,k * 3 + 2,none⟩ z) := by
 have c0 : w.cell? ⟨g,k * 3,none⟩ = some (el k 0) := h.1 k hk 0 (by omega)
 have c1 : (w.setCell ⟨g,k * 3,none⟩ x).cell? ⟨g,k * 3 + 1,none⟩ = some (el k 1) := by
  rw [World.cell?_setCell_other _ _ _ _ (fun e => by injection e; omega)]; exact h.1 k hk 1 (by omega)
 have c2 : ((w.setCell ⟨g,k * 3,none⟩ x).setCell ⟨g,k * 3 + 1,none⟩ y).cell? ⟨g,k * 3 + 2,none⟩ = some (el k 2) := by
  rw [World.cell?_setCell_other _ _ _ _ (fun e => by injection e; omega),World.cell?_setCell_other _ _ _ _ (fun e => by injection e; omega)]; exact h.1 k hk 2 (by omega)
 refine ⟨⟨fun i hi j hj => ?_,fun i hi j hj => ?_,fun i hi j hj => ?_⟩,?_⟩
 ·by_cases e : i = k
  ·subst e
   rcases (show j = 0 ∨ j = 1 ∨ j = 2 by omega) with rfl | rfl | rfl
   ·rw [World.cell?_setCell_other _ _ _ _ (fun e => by injection e; omega),World.cell?_setCell_other _ _ _ _ (fun e => by injection e; omega)]
    simp only [upd3,if_pos]; exact World.cell?_setCell_same _ _ _ c0
   ·rw [World.cell?_setCell_other _ _ _ _ (fun e => by injection e; omega)]
    simp only [upd3,if_pos]; exact World.cell?_setCell_same _ _ _ c1
   ·simp only [upd3,if_pos]; exact World.cell?_setCell_same _ _ _ c2
  ·rw [upd3_other _ _ _ _ _ _ e,World.cell?_setCell_other _ _ _ _ (fun e => by injection e; omega),World.cell?_setCell_other _ _ _ _ (fun e => by injection e; omega),World.cell?_setCell_other _ _ _ _ (fun e => by injection e; omega)]
   exact h.1 i hi j hj
 ·simp [h.2.1 i hi j hj]
 ·by_cases e : i = k
  ·subst e
   rcases (show j = 0 ∨ j = 1 ∨ j = 2 by omega) with rfl | rfl | rfl
   ·simpa [upd3] using hx
   ·simpa [upd3] using hy
   ·simpa [upd3] using hz
  ·rw [upd3_other _ _ _ _ _ _ e]; exact h.2.2 i hi j hj
 ·exact ((keep_set c0 (h.2.2 k hk 0 (by omega)) x).trans (keep_set c1 (h.2.2 k hk 1 (by omega)) y)).trans (keep_set c2 (h.2.2 k hk 2 (by omega)) z)
/-- The i-th value. -/
abbrev elv (el : Nat → Nat → Value) (i : Nat) : Value := .agg #[el i 0,el i 1,el i 2]
theorem Arr3.row {w : World} {g n : Nat} {el : Nat → Nat → Value} (h : Arr3 w g n el) (m c : Nat) (hm : m ≤ n) (hc : m ≤ c) (hc2 : c ≤ 9223372036854775807) : RowAt 3 w (.slice (some ⟨g,0,none⟩) m c) m el :=
 ⟨_,_,rfl,hc,hc2,fun _ => ⟨g,0,rfl,fun i hi j hj => by rw [Nat.zero_add]; exact h.1 i (by omega) j hj⟩⟩
/-- Behind 'make'. -/
theorem arr3_made {w : World} {B g n cap : Nat} {e : TypeId} (h : w.ownsRow B e 3 (.slice (some ⟨g,0,none⟩) n cap) n (madeCells (Value.agg #[.bool false,.slice none 0 0,.slice none 0 0]).cells (n * 3)).toList) : Arr3 w g n (fun _ j => if j = 0 then .bool false else .slice none 0 0) := by
 have hz : ∀ i,i < n → ∀ j,j < 3 → (madeCells (Value.agg #[.bool false,.slice none 0 0,.slice none 0 0]).cells (n * 3)).toList[i * 3 + j]? = some (if j = 0 then (.bool false : Value) else .slice none 0 0) := by
  intro i hi j hj
  have hlt : i * 3 + j < n * 3 := by omega
  have hmod : (i * 3 + j) % 3 = j := by omega
  have hcs : (Value.agg #[.bool false,.slice none 0 0,.slice none 0 0]).cells = #[.bool false,.slice none 0 0,.slice none 0 0] := rfl
  rw [hcs]
  simp only [madeCells,Array.toList_map,List.getElem?_map,Array.toList_range,List.getElem?_range hlt,Option.map_some]
  rw [show (#[(.bool false : Value),.slice none 0 0,.slice none 0 0]).size = 3 from rfl,hmod]
  rcases (show j = 0 ∨ j = 1 ∨ j = 2 by omega) with rfl | rfl | rfl <;> rfl
 refine ⟨fun i hi j hj => owns_cell h (hz i hi j hj),fun i hi j hj => h.frozenAt _,fun i hi j hj => ?_⟩
 by_cases e : j = 0
 ·simp only [e,if_pos]; exact num_bool _
 ·simp only [e,if_neg,not_false_eq_true]; exact num_slice _ _ _
/-- How many are left without zeros from above. -/
def trimN (q : Nat → Rat) : Nat → Nat
 | 0 => 0
 | n + 1 => if q n = 0 then trimN q n else n + 1
theorem trimN_le (q : Nat → Rat) : ∀ n,trimN q n ≤ n
 | 0 => Nat.le_refl _
 | n + 1 => by
  have := trimN_le q n
  unfold trimN; split <;> omega
theorem QRow.pre {w : World} {v : Value} {n : Nat} {q : Nat → Rat} {L : Nat} (h : QRow w v n q L) (m : Nat) (hm : m ≤ n) : ∃ ao c,v = .slice ao n c ∧ QRow w (.slice ao m m) m q L := by
 obtain ⟨el,⟨ao,c,h1,h2,h3,h4⟩,h5⟩ := h
 exact ⟨ao,c,h1,el,⟨ao,m,rfl,Nat.le_refl _,by omega,fun h0 => let ⟨b,off,e,hc⟩ := h4 (by omega); ⟨b,off,e,fun i hi => hc i (by omega)⟩⟩,fun i hi => h5 i (by omega)⟩
theorem FRow.pre {w : World} {v : Value} {n : Nat} {q : Nat → Rat} (h : FRow w v n q) (m : Nat) (hm : m ≤ n) : ∃ ao c,v = .slice ao n c ∧ FRow w (.slice ao m m) m q := by
 obtain ⟨el,⟨ao,c,h1,h2,h3,h4⟩,h5⟩ := h
 exact ⟨ao,c,h1,el,⟨ao,m,rfl,Nat.le_refl _,by omega,fun h0 => let ⟨b,off,e,hc⟩ := h4 (by omega); ⟨b,off,e,fun i hi => hc i (by omega)⟩⟩,fun i hi => h5 i (by omega)⟩
theorem FRow.q {w : World} {v : Value} {n : Nat} {q : Nat → Rat} (h : FRow w v n q) (L : Nat) (hL : ∀ i,i < n → qsz (q i) ≤ L) : QRow w v n q L := by
 obtain ⟨el,h1,h2⟩ := h
 exact ⟨el,h1,fun i hi => (h2 i hi).at L (hL i hi)⟩
/-- The i-th of them. -/
theorem QRow.at {w : World} {v : Value} {n : Nat} {q : Nat → Rat} {L : Nat} (h : QRow w v n q L) (i : Nat) (hi : i < n) :
  ∃ b off c p ao m d bo k e,v = .slice (some ⟨b,off,none⟩) n c ∧ n ≤ c ∧ E3 w b (off + i * 3) (.bool p) (.slice ao m d) (.slice bo k e) ∧ RatAt w (.agg #[.bool p,.slice ao m d,.slice bo k e]) (q i) L := by
 obtain ⟨el,⟨a,c,h1,h2,h3,h4⟩,h5⟩ := h
 obtain ⟨b,off,rfl,hc⟩ := h4 (by omega)
 have hq := h5 i hi
 obtain ⟨p,ao,m,d,bo,k,e,he⟩ := hq.open
 rw [he] at hq
 simp only [Value.agg.injEq,Array.mk.injEq,List.cons.injEq,and_true] at he
 have c0 := hc i hi 0 (by omega)
 have c1 := hc i hi 1 (by omega)
 have c2 := hc i hi 2 (by omega)
 rw [he.1] at c0
 rw [he.2.1] at c1
 rw [he.2.2] at c2
 exact ⟨b,off,c,p,ao,m,d,bo,k,e,h1,h2,⟨c0,c1,c2⟩,hq⟩
theorem QRow.open {w : World} {v : Value} {n : Nat} {q : Nat → Rat} {L : Nat} (h : QRow w v n q L) : ∃ a c,v = .slice a n c ∧ n ≤ c ∧ c ≤ 9223372036854775807 ∧ (0 < n → ∃ b off,a = some ⟨b,off,none⟩) := by
 obtain ⟨el,⟨a,c,h1,h2,h3,h4⟩,_⟩ := h; exact ⟨a,c,h1,h2,h3,fun h0 => let ⟨b,off,e,_⟩ := h4 h0; ⟨b,off,e⟩⟩
/-- A row that lies from B on. -/
def FNew (B : Nat) (w : World) (v : Value) (n : Nat) (q : Nat → Rat) : Prop := FRow w v n q ∧ ∀ b off c,v = .slice (some ⟨b,off,none⟩) n c → 0 < n → B ≤ b
theorem FNew.below {B : Nat} {w w' : World} {v : Value} {n : Nat} {q : Nat → Rat} (h : FNew B w v n q) (hb : Below w.heap.size w w') : FNew B w' v n q := ⟨h.1.below hb,h.2⟩
theorem FNew.le {B B' : Nat} {w : World} {v : Value} {n : Nat} {q : Nat → Rat} (h : FNew B w v n q) (hb : B' ≤ B) : FNew B' w v n q := ⟨h.1,fun b off c e hn => Nat.le_trans hb (h.2 b off c e hn)⟩
theorem FNew.other {B : Nat} {w w' : World} {v : Value} {n : Nat} {q : Nat → Rat} {row : Option Nat} (h : FNew B w v n q) (hg : w.grownBy w' row) (hk : KeepQ IsNum w w') (hne : ∀ g,row = some g → g < B) : FNew B w' v n q := by
 obtain ⟨⟨el,⟨a,c,h1,h2,h3,h4⟩,h5⟩,h6⟩ := h
 refine ⟨⟨el,⟨a,c,h1,h2,h3,fun hn => ?_⟩,fun i hi => (h5 i hi).keep hk⟩,h6⟩
 obtain ⟨b,off,e,hc⟩ := h4 hn
 have hlt := h6 b off c (by rw [h1,e]) hn
 exact ⟨b,off,e,fun i hi j hj => (World.cell?_of_block (w := w) (hg.block b (World.block_lt_of_cell? _ _ (hc i hi j hj)) (fun e' => by have := hne b e'.symm; omega))).trans (hc i hi j hj)⟩
theorem FNew.nil (B : Nat) (w : World) (q : Nat → Rat) : FNew B w (.slice none 0 0) 0 q := ⟨⟨fun _ _ => .bool false,RowAt.nil _ _ _,fun i hi => by omega⟩,fun b off c e _ => by cases e⟩
theorem enters_own {P : Program} {f : FuncId} {fn : Func} {c : Code} (hf : P.funcs[f]? = some fn) (hname : (fn.name == "runtime.NumGoroutine") = false) (hb : fn.body = some c) (args : Array Value) (w : World) : Sem.run P (callFunc f args) w = .ok (.enter f args) w := by
 have h1 : fn.name ≠ "runtime.NumGoroutine" := by simpa using hname
 simp [callFunc,hf,h1,hb,mark]
theorem cmpQ_nil (q : Rat) : (cmpQ q 0 == 0) = decide (q = 0) := cmpQ_zero q 0


set_option maxRecDepth 20000 in
set_option maxHeartbeats 2000000 in
theorem ptrim_at (v : Value) (n : Nat) (q : Nat → Rat) (L : Nat) (w : World) (hv : QRow w v n q L) (hL : 1 ≤ L) (hM : L ≤ 100000) :
  Calls Tryz.prog 39 #[v] w fun e w' => ∃ ao c,v = .slice ao n c ∧ e = .returned (.slice ao (trimN q n) (trimN q n)) ∧ Below w.heap.size w w' := by
 obtain ⟨ao,c,rfl,hnc,hc63,hsome⟩ := hv.open
 have BB : Below w.heap.size w w := Below.refl _ _
 go_enter Tryz.func39,Tryz.ntmps39
 go_wp2
 go_loopw [3] (fun vn wr => ∃ m : Nat,m ≤ n ∧ vn = .int .i64 (m : Int) ∧ Hid (trimN q m = trimN q n) ∧ QRow wr (.slice ao n c) n q L ∧ Below w.heap.size w wr) (fun vn _ => (intOf vn).toNat)
 case atStart => exact ⟨n,Nat.le_refl _,rfl,rfl,hv,BB⟩
 case round =>
  clear hv BB
  obtain ⟨m,hmn,rfl,HT,hv,BB⟩ := hrel
  cases m with
  | zero =>
   have HT0 : Hid (0 = trimN q n) := HT
   clear HT
   go_wp2
   go_ret
   exact ⟨_,_,rfl,by rw [← HT0.out]; rfl,BB⟩
  | succ m =>
   obtain ⟨b,off,cc,p1,ao1,m1,d1,bo1,k1,e1,hvv,hcc2,XC,Hi⟩ := hv.at m (by omega)
   cases hvv
   have c1 : (0 : Int) < ((m + 1 : Nat) : Int) := by omega
   have c2 : ((m + 1 : Nat) : Int) - 1 = (m : Int) := by omega
   have c3 : (m : Int) < (n : Int) := by omega
   have c4 : (0 : Int) ≤ (m : Int) := by omega
   obtain ⟨M1,hM1⟩ : ∃ M1 : Int,M1 = ((m + 1 : Nat) : Int) := ⟨_,rfl⟩
   rw [← hM1] at c1 c2 ⊢
   have HM1 : Hid (M1 = ((m + 1 : Nat) : Int)) := hM1
   have c5 : M1 ≤ 9223372036854775807 := by omega
   clear hM1
   obtain ⟨XC_0,XC_1,XC_2⟩ := id XC
   go_wp2_with fail
   clear XC_0 XC_1 XC_2
   refine (qsign_at _ (q m) L _ Hi hL hM).mono ?_
   rintro e w1 ⟨rfl,b1⟩
   replace hv := hv.below b1
   replace Hi := Hi.below b1
   replace XC := XC.below b1
   replace BB := BB.trans (b1.mono BB.size)
   clear b1
   have HS : Hid (trimN q (m + 1) = if q m = 0 then trimN q m else m + 1) := rfl
   have HZ := cmpQ_nil (q m)
   generalize cmpQ (q m) 0 = cs at *
   by_cases hq : q m = 0
   ·rw [decide_eq_true hq] at HZ
    rw [if_pos hq] at HS
    have hcs : cs = 0 := by simpa using HZ
    subst hcs
    clear HZ
    go_wp2
    go_roundw
    case rel => exact ⟨m,by omega,by first | rfl | go_num | (rw [c2]),HS.out.symm.trans HT.out,hv,BB⟩
    case measure => have := HM1.out; simp [intOf]; omega
   ·rw [decide_eq_false hq] at HZ
    rw [if_neg hq] at HS
    have HT2 : Hid (m + 1 = trimN q n) := HS.out.symm.trans HT.out
    clear HS HT
    have hM2 := HM1.out
    subst hM2
    go_wp2
    go_ret
    exact ⟨_,_,rfl,by rw [← HT2.out]; rfl,BB⟩


set_option maxRecDepth 20000 in
set_option maxHeartbeats 4000000 in
theorem pmade_at (n : Nat) (K : FuncId) (caps : Array Value) (c : Nat → Rat) (L : Nat) (w : World) (hn : n ≤ 100000) (hc : ∀ i,i < n → qsz (c i) ≤ L) (hL : 1 ≤ L) (hM : L ≤ 100000) (ht : Tab w) (hE : ∀ (args : Array Value) (w : World),Sem.run Tryz.prog (callFunc K args) w = .ok (.enter K args) w) (H : Hid (∀ i : Nat,i < n → ∀ w1,Below w.heap.size w w1 → Calls Tryz.prog K (#[.int .i64 (i : Int)] ++ caps) w1 fun e w2 => ∃ r,e = .returned r ∧ RepQ w2 r (c i) ∧ Below w1.heap.size w1 w2)) :
  Calls Tryz.prog 21 #[.int .i64 (n : Int),.func (.func K) #[] caps] w fun e w' => ∃ v,e = .returned v ∧ FNew w.heap.size w' v (trimN c n) c ∧ Below w.heap.size w w' := by
 obtain ⟨i0,hi,hz0,hz1,hz2⟩ := info_parts info_wrat
 have BB : Below w.heap.size w w := Below.refl _ _
 have n0 : (0 : Int) ≤ (n : Int) := by omega
 go_enter Tryz.func21,Tryz.ntmps21
 go_wp2_with (at_make; refine wpList_make_full _ rfl _ _ 22 rfl _ 28 i0 (.agg #[.bool false,.slice none 0 0,.slice none 0 0]) 3 Tryz.underlying22 hi hz0 hz1 _ _ _ _ n rfl rfl rfl rfl (by rw [hz2]; omega) (by unfold maxLen; omega) (Nat.le_refl _) ?_; intro w1 hown hgrow)
 have A := arr3_made hown
 have b1 : Below w.heap.size w w1 := (Below.refl _ _).grown hgrow (Nat.le_refl _) (fun k e => by cases e)
 replace BB := BB.trans (b1.mono BB.size)
 replace ht := ht.below b1
 clear hown hgrow b1
 go_loopw [6,11] (fun _ vi wr => ∃ (i : Nat) (el : Nat → Nat → Value),i ≤ n ∧ vi = .int .i64 (i : Int) ∧ Arr3 wr w.heap.size n el ∧ Hid (∀ k,k < i → RepQ wr (elv el k) (c k)) ∧ Tab wr ∧ Below w.heap.size w wr) (fun _ vi _ => (n - (intOf vi).toNat))
 case atStart => exact ⟨0,_,by omega,rfl,A,fun k hk => absurd hk (by omega),ht,BB⟩
 case round =>
  clear A ht BB
  obtain ⟨i,el,hin,rfl,A,HR,ht,BB⟩ := hrel
  by_cases hlt : i < n
  ·have c1 : (i : Int) < (n : Int) := by omega
   have c2 : (0 : Int) ≤ (i : Int) := by omega
   go_wp2_with fail
   refine (H.out i hlt _ BB).mono ?_
   rintro e w2 ⟨r,rfl,hr,b2⟩
   replace A := A.below b2
   replace ht := ht.below b2
   replace BB := BB.trans (b2.mono BB.size)
   have HR2 : Hid (∀ k,k < i → RepQ w2 (elv el k) (c k)) := fun k hk => (HR.out k hk).below b2
   clear HR b2
   obtain ⟨p3,a3,n3,c3,bo3,m3,d3,rfl⟩ := hr.open
   obtain ⟨A2,K2⟩ := A.set i hlt (.bool p3) (.slice a3 n3 c3) (.slice bo3 m3 d3) (num_bool _) (num_slice _ _ _) (num_slice _ _ _)
   have hr2 := hr.keep K2
   have ht2 := ht.keep K2
   have HR3 : Hid (∀ k,k < i → RepQ (((w2.setCell ⟨w.heap.size,i * 3,none⟩ (.bool p3)).setCell ⟨w.heap.size,i * 3 + 1,none⟩ (.slice a3 n3 c3)).setCell ⟨w.heap.size,i * 3 + 2,none⟩ (.slice bo3 m3 d3)) (elv el k) (c k)) := fun k hk => (HR2.out k hk).keep K2
   have BB2 : Below w.heap.size w (((w2.setCell ⟨w.heap.size,i * 3,none⟩ (.bool p3)).setCell ⟨w.heap.size,i * 3 + 1,none⟩ (.slice a3 n3 c3)).setCell ⟨w.heap.size,i * 3 + 2,none⟩ (.slice bo3 m3 d3)) := ((BB.setCell (Nat.le_refl _) _).setCell (Nat.le_refl _) _).setCell (Nat.le_refl _) _
   have x0 := A.1 i hlt 0 (by omega)
   have x1 := A.1 i hlt 1 (by omega)
   have x2 := A.1 i hlt 2 (by omega)
   have y0 := A.2.1 i hlt 0 (by omega)
   have y1 := A.2.1 i hlt 1 (by omega)
   have y2 := A.2.1 i hlt 2 (by omega)
   simp only [Nat.add_zero] at x0 y0
   go_wp2
   clear x0 x1 x2 y0 y1 y2 A HR2 BB ht hr K2
   generalize ((w2.setCell ⟨w.heap.size,i * 3,none⟩ (.bool p3)).setCell ⟨w.heap.size,i * 3 + 1,none⟩ (.slice a3 n3 c3)).setCell ⟨w.heap.size,i * 3 + 2,none⟩ (.slice bo3 m3 d3) = w3 at *
   have HR4 : Hid (∀ k,k < i + 1 → RepQ w3 (elv (upd3 el i (.bool p3) (.slice a3 n3 c3) (.slice bo3 m3 d3)) k) (c k)) := fun k hk => by
    by_cases e : k = i
    ·subst e; simp only [elv,upd3,if_pos]; exact hr2
    ·simp only [elv]; rw [upd3_other _ _ _ _ _ _ e]; exact HR3.out k (by omega)
   go_roundw
   case rel => exact ⟨i + 1,_,by omega,by go_num,A2,HR4,ht2,BB2⟩
   case measure => simp [intOf]; omega
  ·obtain rfl : i = n := by omega
   have c1 : ¬ (i : Int) < (i : Int) := by omega
   have FR : FRow wr (.slice (some ⟨w.heap.size,0,none⟩) i i) i c := ⟨el,A.row i i (Nat.le_refl _) (Nat.le_refl _) (by omega),HR.out⟩
   clear A HR
   go_wp2_with fail
   refine (ptrim_at _ i c L _ (FR.q L hc) hL hM).mono ?_
   rintro e w1 ⟨ao,cc,hvv,rfl,b1⟩
   replace ht := ht.below b1
   replace FR := FR.below b1
   replace BB := BB.trans (b1.mono BB.size)
   clear b1
   cases hvv
   obtain ⟨_,_,hvv,FR2⟩ := FR.pre (trimN c i) (trimN_le c i)
   cases hvv
   go_wp2
   go_ret
   exact ⟨_,rfl,⟨FR2,fun b off c e hn => by cases e; exact Nat.le_refl _⟩,BB⟩

end Go.Proofs.YtieeneaebjihlaaGreatDoor

namespace Go.Proofs.YtieeneaebjihlaaGreatDoor
open Go.RowKit
set_option linter.unusedVariables false

/-- A variable of one cell that may be written, and what it holds. -/
def V1 (w : World) (R : Nat) (x : Value) : Prop := w.cell? ⟨R,0,none⟩ = some x ∧ w.frozen? ⟨R,0,none⟩ = false
theorem V1.lt {w : World} {R : Nat} {x : Value} (h : V1 w R x) : R < w.heap.size := World.block_lt_of_cell? _ _ h.1
theorem V1.below {w w' : World} {R : Nat} {x : Value} (h : V1 w R x) (hb : Below w.heap.size w w') : V1 w' R x := ⟨(hb.cell h.lt).trans h.1,(hb.frozen h.lt).trans h.2⟩
theorem V1.lay (w : World) (t : TypeId) (x : Value) : ∃ W,W = w.alloc (.cells #[x] t) ∧ W.heap.size = w.heap.size + 1 ∧ Below w.heap.size w W ∧ V1 W w.heap.size x := by
 refine ⟨_,rfl,by simp,(Below.refl _ _).alloc (Nat.le_refl _) _,?_⟩
 have hb := heap_alloc_new w (.cells #[x] t)
 refine ⟨?_,?_⟩
 ·rw [cell_of_row _ _ _ _ _ _ hb]; rfl
 ·simp only [World.frozen?]; rw [hb]; simp
theorem V1.same {w : World} {R : Nat} {x : Value} (h : V1 w R x) (x' : Value) : V1 (w.setCell ⟨R,0,none⟩ x') R x' := ⟨World.cell?_setCell_same _ _ _ h.1,by simp [h.2]⟩
theorem V1.keep {w : World} {R : Nat} {x : Value} (h : V1 w R x) (hx : ¬ IsNum x) (x' : Value) : KeepQ IsNum w (w.setCell ⟨R,0,none⟩ x') := keep_set h.1 hx x'
theorem V1.keepJ {w : World} {R : Nat} {ao : Option Addr} {n c : Nat} (h : V1 w R (.slice ao n c)) (x' : Value) : KeepQ IsNum w (w.setCell ⟨R,0,none⟩ x') := h.keep (num_slice _ _ _) x'
theorem V1.other1 {w : World} {R R' : Nat} {x : Value} (h : V1 w R' x) (hne : R' ≠ R) (x' : Value) : V1 (w.setCell ⟨R,0,none⟩ x') R' x := ⟨set_cell_block h.1 hne,by simp [h.2]⟩
theorem V2.other1 {w : World} {R R' : Nat} {x y : Value} (h : V2 w R' x y) (hne : R' ≠ R) (x' : Value) : V2 (w.setCell ⟨R,0,none⟩ x') R' x y := by
 obtain ⟨h1,h2,h3,h4⟩ := h
 exact ⟨set_cell_block h1 hne,set_cell_block h2 hne,by simp [h3],by simp [h4]⟩
theorem V3.other1 {w : World} {R R' : Nat} {x y z : Value} (h : V3 w R' x y z) (hne : R' ≠ R) (x' : Value) : V3 (w.setCell ⟨R,0,none⟩ x') R' x y z := by
 obtain ⟨h1,h2,h3,h4,h5,h6⟩ := h
 exact ⟨set_cell_block h1 hne,set_cell_block h2 hne,set_cell_block h3 hne,by simp [h4],by simp [h5],by simp [h6]⟩
theorem V1.other2 {w : World} {R R' : Nat} {x : Value} (h : V1 w R' x) (hne : R' ≠ R) (x' y' : Value) : V1 ((w.setCell ⟨R,0,none⟩ x').setCell ⟨R,1,none⟩ y') R' x := ⟨set_cell_block (set_cell_block h.1 hne) hne,by simp [h.2]⟩
theorem V1.other3 {w : World} {R R' : Nat} {x : Value} (h : V1 w R' x) (hne : R' ≠ R) (x' y' z' : Value) : V1 (((w.setCell ⟨R,0,none⟩ x').setCell ⟨R,1,none⟩ y').setCell ⟨R,2,none⟩ z') R' x := ⟨set_cell_block (set_cell_block (set_cell_block h.1 hne) hne) hne,by simp [h.2]⟩
theorem E3.other1 {w : World} {R b o : Nat} {x y z : Value} (h : E3 w b o x y z) (hne : b ≠ R) (x' : Value) : E3 (w.setCell ⟨R,0,none⟩ x') b o x y z := ⟨set_cell_block h.1 hne,set_cell_block h.2.1 hne,set_cell_block h.2.2 hne⟩
theorem below_store1 {B R : Nat} {w w' : World} (h : Below B w w') (hR : B ≤ R) (x : Value) : Below B w (w'.setCell ⟨R,0,none⟩ x) := h.setCell hR _
theorem grown_set1 (w : World) (R : Nat) (x : Value) : w.grownBy (w.setCell ⟨R,0,none⟩ x) (some R) :=
 ⟨rfl,rfl,rfl,by simp,fun k _ hk => by rw [Below.heap_setCell _ _ _ _ (fun e => hk (by rw [e]))]⟩

end Go.Proofs.YtieeneaebjihlaaGreatDoor

namespace Go.Proofs.YtieeneaebjihlaaGreatDoor
open Go.RowKit
set_option linter.unusedVariables false
set_option linter.unusedSimpArgs false

/-- The coefficient of a power, also of one above the degree. -/
def co (n : Nat) (q : Nat → Rat) (i : Nat) : Rat := if i < n then q i else 0
theorem co_lt {n : Nat} {q : Nat → Rat} {i : Nat} (h : i < n) : co n q i = q i := if_pos h
theorem co_ge {n : Nat} {q : Nat → Rat} {i : Nat} (h : ¬ i < n) : co n q i = 0 := if_neg h
theorem trimN_top (q : Nat → Rat) : ∀ n,0 < trimN q n → q (trimN q n - 1) ≠ 0
 | 0,h => absurd h (by show ¬ 0 < 0; omega)
 | n + 1,h => by
  unfold trimN at h ⊢
  split
  ·rename_i e; rw [if_pos e] at h; exact trimN_top q n h
  ·rename_i e; exact e
theorem trimN_zero (q : Nat → Rat) : ∀ n i,trimN q n ≤ i → i < n → q i = 0
 | 0,i,_,h => by omega
 | n + 1,i,h1,h2 => by
  unfold trimN at h1
  split at h1
  ·rename_i e
   by_cases g : i = n
   ·subst g; exact e
   ·exact trimN_zero q n i h1 (by omega)
  ·omega
theorem trimN_idem (q : Nat → Rat) (n : Nat) : trimN q (trimN q n) = trimN q n := by
 cases h : trimN q n with
 | zero => rfl
 | succ m =>
  have := trimN_top q n (by omega)
  rw [h,Nat.add_sub_cancel] at this
  unfold trimN; rw [if_neg this]
theorem co_trim (q : Nat → Rat) (n i : Nat) : co (trimN q n) q i = co n q i := by
 have hle := trimN_le q n
 unfold co
 by_cases h1 : i < trimN q n
 ·rw [if_pos h1,if_pos (by omega)]
 ·rw [if_neg h1]
  by_cases h2 : i < n
  ·rw [if_pos h2,trimN_zero q n i (by omega) h2]
  ·rw [if_neg h2]
theorem qsz_nil : qsz (0 : Rat) ≤ 1 := qsz_int 0 (by decide) (by omega)
theorem co_sz {n : Nat} {q : Nat → Rat} {L : Nat} (h : ∀ i,i < n → qsz (q i) ≤ L) (hL : 1 ≤ L) (i : Nat) : qsz (co n q i) ≤ L := by
 unfold co; split
 ·exact h i (by assumption)
 ·exact Nat.le_trans qsz_nil hL


set_option maxRecDepth 20000 in
set_option maxHeartbeats 1000000 in
theorem pclean1_at (i n : Nat) (q : Nat → Rat) (L R : Nat) (v : Value) (w : World) (VP : V1 w R v) (hv : QRow w v n q L) (ht : Tab w) (hi : i < n) (hn : n ≤ 100000) (hL : 1 ≤ L) (hM : L ≤ 100000) :
  Calls Tryz.prog 46 #[.int .i64 (i : Int),.pointer (some ⟨R,0,none⟩)] w fun e w' => ∃ r,e = .returned r ∧ RepQ w' r (q i) ∧ Below w.heap.size w w' := by
 obtain ⟨b,off,cc,p1,ao1,m1,d1,bo1,k1,e1,hvv,hcc,XC,Hi⟩ := (hv).at i hi
 cases hvv
 have c1 : (i : Int) < (n : Int) := by omega
 have c2 : (0 : Int) ≤ (i : Int) := by omega
 obtain ⟨z0,_⟩ := id VP
 obtain ⟨x0,x1,x2⟩ := id XC
 have u0 := z0
 have u1 := x0
 have u2 := x1
 have u3 := x2
 have BB : Below w.heap.size w w := Below.refl _ _
 obtain ⟨Wb0,hW0,hS0,hL0,VR⟩ := V3.lay w 28 (.bool false) (.slice none 0 0) (.slice none 0 0)
 replace z0 := ((V1.below ⟨z0,by assumption⟩ hL0).1)
 obtain ⟨x0,x1,x2⟩ := XC.below hL0
 replace BB := BB.trans (hL0.mono BB.size)
 rw [hW0] at z0 x0 x1 x2
 clear u0 u1 u2 u3 hL0
 go_enter Tryz.func46,Tryz.ntmps46
 go_wp2_with fail
 rw [← hW0]
 clear hW0 hS0 z0 x0 x1 x2
 refine (qclean_at _ (q i) L _ (Hi.below BB) hL hM (ht.below BB)).mono ?_
 rintro e w1 ⟨r,rfl,hr,b1⟩
 replace VR := VR.below b1
 replace BB := BB.trans (b1.mono BB.size)
 clear b1
 obtain ⟨p3,a3,n3,c3,bo3,m3,d3,rfl⟩ := hr.open
 have hKp := VR.keepJ (.bool p3) (.slice a3 n3 c3) (.slice bo3 m3 d3)
 have hr_n := hr.keep hKp
 have BB_n := below_store3 (R := w.heap.size) BB (by omega) (.bool p3) (.slice a3 n3 c3) (.slice bo3 m3 d3)
 clear hKp
 obtain ⟨q1,q2,q3,q4,q5,q6⟩ := id VR
 go_wp2
 (try simp only [Exit.inBlock,Exit.then])
 refine bodyPost_ret (v := .agg #[.bool p3,.slice a3 n3 c3,.slice bo3 m3 d3]) (by simp [results,go_sem,q1,q2,q3]) rfl ?_
 exact ⟨_,rfl,hr_n,BB_n⟩


set_option maxRecDepth 20000 in
set_option maxHeartbeats 2000000 in
theorem pclean_at (v : Value) (n : Nat) (q : Nat → Rat) (L : Nat) (w : World) (hv : QRow w v n q L) (ht : Tab w) (hn : n ≤ 100000) (hL : 1 ≤ L) (hM : L ≤ 100000) :
  Calls Tryz.prog 26 #[v] w fun e w' => ∃ r,e = .returned r ∧ FNew w.heap.size w' r (trimN q n) q ∧ Below w.heap.size w w' := by
 obtain ⟨ao,c,rfl,hnc,hc63,hsome⟩ := hv.open
 have hsz : ∀ i,i < trimN q n → qsz (q i) ≤ L := fun i hi => hv.sz hL i (by have := trimN_le q n; omega)
 have htl := trimN_le q n
 have HTI : Hid (trimN q (trimN q n) = trimN q n) := trimN_idem q n
 have BB : Below w.heap.size w w := Below.refl _ _
 obtain ⟨Wb0,hW0,hS0,hL0,VP⟩ := V1.lay w 22 (.slice ao n c)
 replace BB := BB.trans (hL0.mono BB.size)
 clear hL0
 go_enter Tryz.func26,Tryz.ntmps26
 go_wp2_with fail
 rw [← hW0]
 clear hW0 hS0
 refine (ptrim_at _ n q L _ (hv.below BB) hL hM).mono ?_
 rintro e w1 ⟨ao2,c2,hvv,rfl,b1⟩
 replace VP := VP.below b1
 replace BB := BB.trans (b1.mono BB.size)
 clear b1
 cases hvv
 obtain ⟨_,_,hvv,hv2⟩ := hv.pre (trimN q n) htl
 cases hvv
 obtain ⟨m,hm⟩ : ∃ m,m = trimN q n := ⟨_,rfl⟩
 have HM : Hid (m = trimN q n) := hm
 rw [← hm] at hv2 hsz htl HTI
 rw [← hm]
 clear hm
 have hKp := VP.keepJ (.slice ao m m)
 have VP_n := VP.same (.slice ao m m)
 have BB_n := below_store1 (R := w.heap.size) BB (by omega) (.slice ao m m)
 clear hKp
 obtain ⟨VP_0,VP_1⟩ := id VP
 go_wp2_with fail
 clear VP_0 VP_1
 clear BB VP
 generalize w1.setCell ⟨w.heap.size,0,none⟩ (.slice ao m m) = W1 at *
 have BB := BB_n
 have VP := VP_n
 clear BB_n VP_n
 have HH : Hid (∀ i : Nat,i < m → ∀ w1,Below W1.heap.size W1 w1 → Calls Tryz.prog 46 (#[.int .i64 (i : Int)] ++ #[.pointer (some ⟨w.heap.size,0,none⟩)]) w1 fun e w2 => ∃ r,e = .returned r ∧ RepQ w2 r (q i) ∧ Below w1.heap.size w1 w2) := fun i hi w1 hb => pclean1_at i m q L _ _ w1 (VP.below hb) ((hv2.below BB).below hb) ((ht.below BB).below hb) hi (by omega) hL hM
 have hWs : Hid (w.heap.size ≤ W1.heap.size) := BB.size
 refine (pmade_at m 46 #[.pointer (some ⟨w.heap.size,0,none⟩)] q L _ (by omega) hsz hL hM (ht.below BB) (enters_own Tryz.func46 (by kernel_rfl) rfl) HH).mono ?_
 rintro e w2 ⟨r,rfl,FR,b2⟩
 replace VP := VP.below b2
 replace BB := BB.trans (b2.mono BB.size)
 clear b2
 rw [HTI.out] at FR
 rw [HM.out] at FR
 go_wp2
 go_ret
 exact ⟨_,rfl,FR.le hWs.out,BB⟩


set_option maxRecDepth 20000 in
set_option maxHeartbeats 1000000 in
theorem pdegree_at (v : Value) (n : Nat) (q : Nat → Rat) (L : Nat) (w : World) (hv : QRow w v n q L) (hn : n ≤ 100000) (hL : 1 ≤ L) (hM : L ≤ 100000) :
  Calls Tryz.prog 31 #[v] w fun e w' => e = .returned (.int .i64 ((trimN q n : Int) - 1)) ∧ Below w.heap.size w w' := by
 obtain ⟨ao,c,rfl,hnc,hc63,hsome⟩ := hv.open
 have htl := trimN_le q n
 have BB : Below w.heap.size w w := Below.refl _ _
 go_enter Tryz.func31,Tryz.ntmps31
 go_wp2_with fail
 refine (ptrim_at _ n q L _ (hv.below BB) hL hM).mono ?_
 rintro e w1 ⟨ao2,c2,hvv,rfl,b1⟩
 replace BB := BB.trans (b1.mono BB.size)
 clear b1
 cases hvv
 obtain ⟨m,hm⟩ : ∃ m,m = trimN q n := ⟨_,rfl⟩
 have HM : Hid (m = trimN q n) := hm
 rw [← hm]
 rw [← hm] at htl
 clear hm
 go_wp2
 go_ret
 exact ⟨by rw [← HM.out]; rfl,BB⟩


set_option maxRecDepth 20000 in
set_option maxHeartbeats 2000000 in
theorem pscale1_at (i n : Nat) (q : Nat → Rat) (s : Rat) (L RA RB : Nat) (u : Value) (p2 : Bool) (ao2 : Option Addr) (n2 c2_ : Nat) (bo2 : Option Addr) (m2 d2 : Nat) (w : World) (VP : V1 w RA u) (VB : V3 w RB (.bool p2) (.slice ao2 n2 c2_) (.slice bo2 m2 d2)) (hu : QRow w u n q L) (hb : RatAt w (.agg #[.bool p2,.slice ao2 n2 c2_,.slice bo2 m2 d2]) s L) (ht : Tab w) (hi : i < n) (hn : n ≤ 100000) (hL : 1 ≤ L) (hM : L ≤ 100000) :
  Calls Tryz.prog 22 #[.int .i64 (i : Int),.pointer (some ⟨RA,0,none⟩),.pointer (some ⟨RB,0,none⟩)] w fun e w' => ∃ x,e = .returned x ∧ RepQ w' x (q i * s) ∧ Below w.heap.size w w' := by
 obtain ⟨b,off,cc,p1,ao1,m1,d1,bo1,k1,e1,hvv,hcc,XC,Hi⟩ := (hu).at i hi
 cases hvv
 have c1 : (i : Int) < (n : Int) := by omega
 have c2 : (0 : Int) ≤ (i : Int) := by omega
 have hRA := VP.lt
 have hRB := VB.lt
 have hRX := XC.lt
 have BB : Below w.heap.size w w := Below.refl _ _
 obtain ⟨Wb0,hW0,hS0,hL0,VR⟩ := V3.lay w 28 (.bool false) (.slice none 0 0) (.slice none 0 0)
 replace VP := VP.below hL0
 replace VB := VB.below hL0
 replace XC := XC.below hL0
 replace BB := BB.trans (hL0.mono BB.size)
 clear hL0
 go_enter Tryz.func22,Tryz.ntmps22
 go_wp2
 rw [← hW0]
 clear hW0 hS0
 refine wp_region_until 6 #[true,true,true,true,true,true,false] (fun aF lsd a' w' => ∃ vu0 vu1 vu2 vu3 vu4 vu5 : Value,a' = (((((aF.put (some 5) vu0).put (some 6) vu1).put (some 7) vu2).put (some 8) vu3).put (some 9) vu4).put (some 10) vu5 ∧ Below Wb0.heap.size Wb0 w' ∧ (lsd.getD 0 false = true → vu0 = .slice (some ⟨b,off,none⟩) n cc) ∧ (lsd.getD 1 false = true → vu1 = .int .i64 (i : Int)) ∧ (lsd.getD 2 false = true → vu2 = .pointer (some ⟨b,off + i * 3,none⟩)) ∧ (lsd.getD 3 false = true → vu3 = .agg #[.bool p1,.slice ao1 m1 d1,.slice bo1 k1 e1]) ∧ (lsd.getD 4 false = true → vu4 = .agg #[.bool p2,.slice ao2 n2 c2_,.slice bo2 m2 d2]) ∧ (lsd.getD 5 false = true → RepQ w' vu5 (q i * s))) (by kernel_rfl) (by decide) (by kernel_rfl) (by rfl) (by kernel_rfl) ?_ ?_ ?_
 ·exact ⟨_,_,_,_,_,_,by simp only [Act.put,xL4,xL5,xL6]; rfl,(Below.refl _ _).drew,fun h => absurd h (fun h => mark_none h),fun h => absurd h (fun h => mark_none h),fun h => absurd h (fun h => mark_none h),fun h => absurd h (fun h => mark_none h),fun h => absurd h (fun h => mark_none h),fun h => absurd h (fun h => mark_none h)⟩
 ·rintro lsd au wn iu hszu ⟨vu0,vu1,vu2,vu3,vu4,vu5,rfl,hbu,fu0,fu1,fu2,fu3,fu4,fu5⟩ himu hru
  rcases (show iu = 0 ∨ iu = 1 ∨ iu = 2 ∨ iu = 3 ∨ iu = 4 ∨ iu = 5 by omega) with rfl | rfl | rfl | rfl | rfl | rfl
  ·refine wpOp_shut (by rfl) (fun K hK => ?_)
   simp only [Act.put,xL4,xL5,xL6]
   obtain ⟨VP_0,VP_1⟩ := VP.below hbu
   go_simp
   exact hK.out _ _ ⟨(.slice (some ⟨b,off,none⟩) n cc),vu1,vu2,vu3,vu4,vu5,by simp only [Act.put,xL4,xL5,xL6],hbu,fun _ => rfl,fun h => fu1 (mark_of (by decide) h),fun h => fu2 (mark_of (by decide) h),fun h => fu3 (mark_of (by decide) h),fun h => fu4 (mark_of (by decide) h),fun h => fu5 (mark_of (by decide) h)⟩
  ·refine wpOp_shut (by rfl) (fun K hK => ?_)
   simp only [Act.put,xL4,xL5,xL6]
   go_simp
   exact hK.out _ _ ⟨vu0,(.int .i64 (i : Int)),vu2,vu3,vu4,vu5,by simp only [Act.put,xL4,xL5,xL6],hbu,fun h => fu0 (mark_of (by decide) h),fun _ => rfl,fun h => fu2 (mark_of (by decide) h),fun h => fu3 (mark_of (by decide) h),fun h => fu4 (mark_of (by decide) h),fun h => fu5 (mark_of (by decide) h)⟩
  ·have eu0 := fu0 (dep_of 0 hru rfl (by kernel_rfl))
   have eu1 := fu1 (dep_of 1 hru rfl (by kernel_rfl))
   replace eu0 := eu0.symm
   subst eu0
   replace eu1 := eu1.symm
   subst eu1
   refine wpOp_shut (by rfl) (fun K hK => ?_)
   simp only [Act.put,xL4,xL5,xL6]
   go_simp
   exact hK.out _ _ ⟨(.slice (some ⟨b,off,none⟩) n cc),(.int .i64 (i : Int)),(.pointer (some ⟨b,off + i * 3,none⟩)),vu3,vu4,vu5,by simp only [Act.put,xL4,xL5,xL6],hbu,fun _ => rfl,fun _ => rfl,fun _ => rfl,fun h => fu3 (mark_of (by decide) h),fun h => fu4 (mark_of (by decide) h),fun h => fu5 (mark_of (by decide) h)⟩
  ·have eu2 := fu2 (dep_of 2 hru rfl (by kernel_rfl))
   replace eu2 := eu2.symm
   subst eu2
   refine wpOp_shut (by rfl) (fun K hK => ?_)
   simp only [Act.put,xL4,xL5,xL6]
   obtain ⟨XC_0,XC_1,XC_2⟩ := XC.below hbu
   go_simp
   exact hK.out _ _ ⟨vu0,vu1,(.pointer (some ⟨b,off + i * 3,none⟩)),(.agg #[.bool p1,.slice ao1 m1 d1,.slice bo1 k1 e1]),vu4,vu5,by simp only [Act.put,xL4,xL5,xL6],hbu,fun h => fu0 (mark_of (by decide) h),fun h => fu1 (mark_of (by decide) h),fun _ => rfl,fun _ => rfl,fun h => fu4 (mark_of (by decide) h),fun h => fu5 (mark_of (by decide) h)⟩
  ·refine wpOp_shut (by rfl) (fun K hK => ?_)
   simp only [Act.put,xL4,xL5,xL6]
   obtain ⟨VB_0,VB_1,VB_2,VB_3,VB_4,VB_5⟩ := VB.below hbu
   go_simp
   exact hK.out _ _ ⟨vu0,vu1,vu2,vu3,(.agg #[.bool p2,.slice ao2 n2 c2_,.slice bo2 m2 d2]),vu5,by simp only [Act.put,xL4,xL5,xL6],hbu,fun h => fu0 (mark_of (by decide) h),fun h => fu1 (mark_of (by decide) h),fun h => fu2 (mark_of (by decide) h),fun h => fu3 (mark_of (by decide) h),fun _ => rfl,fun h => fu5 (mark_of (by decide) h)⟩
  ·have eu3 := fu3 (dep_of 3 hru rfl (by kernel_rfl))
   have eu4 := fu4 (dep_of 4 hru rfl (by kernel_rfl))
   replace eu3 := eu3.symm
   subst eu3
   replace eu4 := eu4.symm
   subst eu4
   refine wpOp_shut (by rfl) (fun K hK => ?_)
   simp only [Act.put,xL4,xL5,xL6]
   go_simp
   refine (qmul_at _ _ (q i) s L _ ((Hi.below BB).below hbu) ((hb.below BB).below hbu) hL hM ((ht.below BB).below hbu)).mono ?_
   rintro eu wx ⟨r3,rfl,hr,bu⟩
   go_wp2_with fail
   have hbu2 := hbu.trans (bu.mono hbu.size)
   exact hK.out _ _ ⟨vu0,vu1,vu2,(.agg #[.bool p1,.slice ao1 m1 d1,.slice bo1 k1 e1]),(.agg #[.bool p2,.slice ao2 n2 c2_,.slice bo2 m2 d2]),_,by simp only [Act.put,xL4,xL5,xL6],hbu2,fun h => fu0 (mark_of (by decide) h),fun h => fu1 (mark_of (by decide) h),fun h => fu2 (mark_of (by decide) h),fun _ => rfl,fun _ => rfl,fun _ => hr⟩
 rintro au Wu1 ⟨vu0,vu1,vu2,vu3,vu4,vu5,rfl,hbu,fu0,fu1,fu2,fu3,fu4,fu5⟩
 have eu0 := (fu0 rfl).symm
 subst eu0
 have eu1 := (fu1 rfl).symm
 subst eu1
 have eu2 := (fu2 rfl).symm
 subst eu2
 have eu3 := (fu3 rfl).symm
 subst eu3
 have eu4 := (fu4 rfl).symm
 subst eu4
 have hr := fu5 rfl
 clear fu0 fu1 fu2 fu3 fu4 fu5
 have hlVP : RA < Wb0.heap.size := VP.lt
 have hlVB : RB < Wb0.heap.size := VB.lt
 have hlXC : b < Wb0.heap.size := XC.lt
 have hlVR : w.heap.size < Wb0.heap.size := VR.lt
 replace VP := VP.below hbu
 replace VB := VB.below hbu
 replace XC := XC.below hbu
 replace VR := VR.below hbu
 replace BB := BB.trans (hbu.mono BB.size)
 clear hbu
 obtain ⟨p3,a3,n3,c3,bo3,m3,d3,rfl⟩ := hr.open
 simp only [Act.put,xL4,xL5,xL6]
 refine xR [6] (h := ?_)
 refine AllReadyH.cons (by rfl) (fun K hK => ?_) AllReadyH.nil
 have hKp := VR.keepJ (.bool p3) (.slice a3 n3 c3) (.slice bo3 m3 d3)
 have VP_n := VP.other3 (R := w.heap.size) (by omega) (.bool p3) (.slice a3 n3 c3) (.slice bo3 m3 d3)
 have VB_n := VB.other3 (R := w.heap.size) (by omega) (.bool p3) (.slice a3 n3 c3) (.slice bo3 m3 d3)
 have XC_n := XC.other3 (R := w.heap.size) (by omega) (.bool p3) (.slice a3 n3 c3) (.slice bo3 m3 d3)
 have VR_n := VR.same (.bool p3) (.slice a3 n3 c3) (.slice bo3 m3 d3)
 have hr_n := hr.keep hKp
 have BB_n := below_store3 (R := w.heap.size) BB (by omega) (.bool p3) (.slice a3 n3 c3) (.slice bo3 m3 d3)
 clear hKp
 obtain ⟨VR_0,VR_1,VR_2,VR_3,VR_4,VR_5⟩ := id VR
 go_simp
 clear VR_0 VR_1 VR_2 VR_3 VR_4 VR_5
 clear BB hr VP VB XC VR
 generalize ((Wu1.setCell ⟨w.heap.size,0,none⟩ (.bool p3)).setCell ⟨w.heap.size,1,none⟩ (.slice a3 n3 c3)).setCell ⟨w.heap.size,2,none⟩ (.slice bo3 m3 d3) = W2 at *
 have BB := BB_n
 have hr := hr_n
 have VP := VP_n
 have VB := VB_n
 have XC := XC_n
 have VR := VR_n
 clear BB_n hr_n VP_n VB_n XC_n VR_n
 refine hK.out _ _ trivial (fun _ => ?_)
 clear hK K
 simp only [Act.put,xL4,xL5,xL6]
 refine wpAnyH_done (by kernel_rfl) ?_ _
 obtain ⟨q1,q2,q3,q4,q5,q6⟩ := id VR
 go_wp2
 (try simp only [Exit.inBlock,Exit.then])
 refine bodyPost_ret (v := .agg #[.bool p3,.slice a3 n3 c3,.slice bo3 m3 d3]) (by simp [results,go_sem,q1,q2,q3]) rfl ?_
 exact ⟨_,rfl,hr,BB⟩


set_option maxRecDepth 20000 in
set_option maxHeartbeats 2000000 in
theorem pscale_at (u v : Value) (n : Nat) (q : Nat → Rat) (s : Rat) (L : Nat) (w : World) (hu : QRow w u n q L) (hb : RatAt w v s L) (ht : Tab w) (hn : n ≤ 100000) (hL : 1 ≤ L) (hM : L ≤ 40000) :
  Calls Tryz.prog 9 #[u,v] w fun e w' => ∃ x,e = .returned x ∧ FNew w.heap.size w' x (trimN (fun i => q i * s) n) (fun i => q i * s) ∧ Below w.heap.size w w' := by
 obtain ⟨ao,c,rfl,hnc,hc63,hsome⟩ := hu.open
 obtain ⟨p2,ao2,n2,c2_,bo2,m2,d2,rfl⟩ := hb.open
 have hsz : ∀ i,i < n → qsz (q i * s) ≤ L + L := fun i hi => qsz_mul _ _ (hu.sz hL i hi) (hb.qsz hL)
 have BB : Below w.heap.size w w := Below.refl _ _
 obtain ⟨Wb0,hW0,hS0,hL0,VP⟩ := V1.lay w 22 (.slice ao n c)
 replace BB := BB.trans (hL0.mono BB.size)
 clear hL0
 obtain ⟨Wb1,hW1,hS1,hL1,VB⟩ := V3.lay Wb0 28 (.bool p2) (.slice ao2 n2 c2_) (.slice bo2 m2 d2)
 rw [hS0] at VB hS1
 replace VP := VP.below hL1
 replace BB := BB.trans (hL1.mono BB.size)
 clear hL1
 go_enter Tryz.func9,Tryz.ntmps9
 go_wp2_with fail
 rw [← hW0]
 rw [← hW1]
 clear hW0 hW1 hS0 hS1
 have HH : Hid (∀ i : Nat,i < n → ∀ w1,Below Wb1.heap.size Wb1 w1 → Calls Tryz.prog 22 (#[.int .i64 (i : Int)] ++ #[.pointer (some ⟨w.heap.size,0,none⟩),.pointer (some ⟨w.heap.size + 1,0,none⟩)]) w1 fun e w2 => ∃ x,e = .returned x ∧ RepQ w2 x (q i * s) ∧ Below w1.heap.size w1 w2) := fun i hi w1 hb1 => pscale1_at i n q s L _ _ _ _ _ _ _ _ _ _ w1 (VP.below hb1) (VB.below hb1) ((hu.below BB).below hb1) ((hb.below BB).below hb1) ((ht.below BB).below hb1) hi hn hL (by omega)
 have hWs : Hid (w.heap.size ≤ Wb1.heap.size) := BB.size
 refine (pmade_at n 22 #[.pointer (some ⟨w.heap.size,0,none⟩),.pointer (some ⟨w.heap.size + 1,0,none⟩)] (fun i => q i * s) (L + L) _ hn hsz (by omega) (by omega) (ht.below BB) (enters_own Tryz.func22 (by kernel_rfl) rfl) HH).mono ?_
 rintro e w1 ⟨x,rfl,FR,b1⟩
 replace VP := VP.below b1
 replace VB := VB.below b1
 replace BB := BB.trans (b1.mono BB.size)
 clear b1
 go_wp2
 go_ret
 exact ⟨_,rfl,FR.le hWs.out,BB⟩


set_option maxRecDepth 20000 in
set_option maxHeartbeats 1000000 in
theorem ptop_at (v : Value) (n : Nat) (q : Nat → Rat) (L : Nat) (w : World) (hv : QRow w v n q L) (h0 : 0 < n) (hn : n ≤ 100000) :
  Calls Tryz.prog 69 #[v] w fun e w' => ∃ r,e = .returned r ∧ RatAt w' r (q (n - 1)) L ∧ Below w.heap.size w w' := by
 obtain ⟨b,off,cc,p1,ao1,m1,d1,bo1,k1,e1,hvv,hcc,XC,Hi⟩ := (hv).at (n - 1) (by omega)
 cases hvv
 have c1 : (n : Int) - 1 = ((n - 1 : Nat) : Int) := by omega
 obtain ⟨k,hk⟩ : ∃ k,k = n - 1 := ⟨_,rfl⟩
 rw [← hk] at c1 XC Hi ⊢
 have c2 : (0 : Int) ≤ (k : Int) := by omega
 have c3 : (k : Int) < (n : Int) := by omega
 clear hk
 have BB : Below w.heap.size w w := Below.refl _ _
 obtain ⟨Wb0,hW0,hS0,hL0,VR⟩ := V3.lay w 28 (.bool p1) (.slice ao1 m1 d1) (.slice bo1 k1 e1)
 obtain ⟨Wz,hWz,hSz,hLz,VZ⟩ := V3.lay w 28 (.bool false) (.slice none 0 0) (.slice none 0 0)
 obtain ⟨x0,x1,x2⟩ := XC.below hLz
 replace BB := BB.trans (hL0.mono BB.size)
 have Hi2 := Hi.below hL0
 rw [hWz] at x0 x1 x2
 obtain ⟨q1,q2,q3,q4,q5,q6⟩ := id VR
 go_enter Tryz.func69,Tryz.ntmps69
 go_wp2
 rw [← hW0]
 (try simp only [Exit.inBlock,Exit.then])
 refine bodyPost_ret (v := .agg #[.bool p1,.slice ao1 m1 d1,.slice bo1 k1 e1]) (by simp [results,go_sem,q1,q2,q3]) rfl ?_
 exact ⟨_,rfl,Hi2,BB⟩

/-- The coefficient of a power in a product. -/
def conv (n : Nat) (q : Nat → Rat) (m : Nat) (r : Nat → Rat) (p : Nat) : Rat := sumq (fun i => co n q i * co m r (p - i)) (p + 1)
theorem sumq_zero (f : Nat → Rat) : ∀ n,(∀ i,i < n → f i = 0) → sumq f n = 0
 | 0,_ => rfl
 | n + 1,h => by show sumq f n + f n = 0; rw [sumq_zero f n fun i hi => h i (by omega),h n (by omega),Rat.add_zero]
theorem sumq_congr (f g : Nat → Rat) : ∀ n,(∀ i,i < n → f i = g i) → sumq f n = sumq g n
 | 0,_ => rfl
 | n + 1,h => by show sumq f n + f n = sumq g n + g n; rw [sumq_congr f g n fun i hi => h i (by omega),h n (by omega)]
/-- Only those with both factors count. -/
theorem conv_mid (n : Nat) (q : Nat → Rat) (m : Nat) (r : Nat → Rat) (p lo k : Nat) (hlo : lo = p + 1 - m) (hk : lo + k = min p (n - 1) + 1) (hn : 0 < n) (hm : 0 < m) (hp : p + 1 < n + m) :
  sumq (fun t => q (lo + t) * r (p - (lo + t))) k = conv n q m r p := by
 unfold conv
 have e : p + 1 = lo + (k + (p + 1 - lo - k)) := by omega
 rw [e,sumq_cut,sumq_cut,sumq_zero (fun i => co n q i * co m r (p - i)) lo (fun i hi => by rw [co_ge (n := m) (by omega),Rat.mul_zero]),Rat.zero_add,
  sumq_zero (fun i => co n q (lo + (k + i)) * co m r (p - (lo + (k + i)))) _ (fun i hi => by rw [co_ge (n := n) (by omega),Rat.zero_mul]),Rat.add_zero]
 refine sumq_congr _ _ _ fun i hi => ?_
 rw [co_lt (by omega),co_lt (by omega)]
theorem conv_sz {n : Nat} {q : Nat → Rat} {m : Nat} {r : Nat → Rat} {L : Nat} (hq : ∀ i,i < n → qsz (q i) ≤ L) (hr : ∀ i,i < m → qsz (r i) ≤ L) (hL : 1 ≤ L) (p : Nat) : qsz (conv n q m r p) ≤ (p + 1) * (L + L + 1) + 1 :=
 qsz_sumq _ (L + L) (p + 1) fun i _ => qsz_mul _ _ (co_sz hq hL i) (co_sz hr hL (p - i))


set_option maxRecDepth 20000 in
set_option maxHeartbeats 4000000 in
theorem pcol_at (u v : Value) (n m p : Nat) (q r : Nat → Rat) (L : Nat) (w : World) (hu : QRow w u n q L) (hv : QRow w v m r L) (ht : Tab w) (hn0 : 0 < n) (hm0 : 0 < m) (hn : n ≤ 100) (hm : m ≤ 100) (hp : p + 1 < n + m) (hL : 1 ≤ L) (hM : n * (L + L + 1) + 1 ≤ 100000) :
  Calls Tryz.prog 28 #[u,v,.int .i64 (p : Int)] w fun e w' => ∃ x,e = .returned x ∧ RepQ w' x (conv n q m r p) ∧ Below w.heap.size w w' := by
 have hL1 : L + L + 1 ≤ 100000 := by have := Nat.le_mul_of_pos_left (L + L + 1) hn0; omega
 have HM2 : Hid (n * (L + L + 1) + 1 ≤ 100000) := hM
 have HM3 : Hid (L + L + 1 ≤ n * (L + L + 1)) := Nat.le_mul_of_pos_left (L + L + 1) hn0
 clear hM
 obtain ⟨ao,c,rfl,hnc,hc63,hsome⟩ := hu.open
 obtain ⟨ao2,c2,rfl,hnc2,hc632,hsome2⟩ := hv.open
 obtain ⟨lo,hlo⟩ : ∃ lo,lo = p + 1 - m := ⟨_,rfl⟩
 obtain ⟨K,hK⟩ : ∃ K,lo + K = min p (n - 1) + 1 := ⟨min p (n - 1) + 1 - lo,by omega⟩
 have HC : Hid (sumq (fun t => q (lo + t) * r (p - (lo + t))) K = conv n q m r p) := conv_mid n q m r p lo K hlo hK (by omega) (by omega) hp
 have c1 : max (0 : Int) ((p : Int) - (m : Int) + 1) = (lo : Int) := by omega
 have c2_ : min (p : Int) ((n : Int) - 1) = ((lo + K : Nat) : Int) - 1 := by omega
 have hKn : K ≤ n := by omega
 have hlK : lo + K ≤ n := by omega
 have hlp : lo + K ≤ p + 1 := by omega
 have hlm : p < lo + m := by omega
 clear hlo hK
 obtain ⟨top,htop⟩ : ∃ top : Int,top = ((lo + K : Nat) : Int) - 1 := ⟨_,rfl⟩
 rw [← htop] at c2_
 have HTP : Hid (top = ((lo + K : Nat) : Int) - 1) := htop
 clear htop
 have BB : Below w.heap.size w w := Below.refl _ _
 obtain ⟨Wb0,hW0,hS0,hL0,VR⟩ := V3.lay w 28 (.bool false) (.slice none 0 0) (.slice none 0 0)
 replace BB := BB.trans (hL0.mono BB.size)
 clear hL0
 go_enter Tryz.func28,Tryz.ntmps28
 go_wp2
 rw [← hW0]
 clear hW0 hS0
 have hBw : Hid (w.heap.size ≤ Wb0.heap.size) := BB.size
 have hVR0 : Hid (w.heap.size < Wb0.heap.size) := VR.lt
 go_loopw [7,8] (fun vp vi wr => ∃ t : Nat,t ≤ K ∧ vi = .int .i64 ((lo + t : Nat) : Int) ∧ FOwn Wb0.heap.size wr vp t (fun t => q (lo + t) * r (p - (lo + t))) ∧ V3 wr w.heap.size (.bool false) (.slice none 0 0) (.slice none 0 0) ∧ Wb0.heap.size ≤ wr.heap.size ∧ Below w.heap.size w wr) (fun _ vi _ => (lo + K - (intOf vi).toNat))
 case atStart => exact ⟨0,by omega,by rfl,FOwn.nil _ _ _,VR,Nat.le_refl _,BB⟩
 case round =>
  clear VR BB
  obtain ⟨t,htK,rfl,O,VR,hWb,BB⟩ := hrel
  by_cases hlt : t < K
  ·obtain ⟨i,hi⟩ : ∃ i,i = lo + t := ⟨_,rfl⟩
   have HI : Hid (i = lo + t) := hi
   obtain ⟨j,hj⟩ : ∃ j,j = p - i := ⟨_,rfl⟩
   have HJ : Hid (j = p - i) := hj
   have HX : Hid (q (lo + t) * r (p - (lo + t)) = q i * r j) := by show _ = _; rw [hj,hi]
   have dd1 : (i : Int) ≤ top := by have := HTP.out; omega
   have d2 : (p : Int) - (i : Int) = (j : Int) := by omega
   have d3 : (0 : Int) ≤ (i : Int) := by omega
   have d4 : (i : Int) < (n : Int) := by omega
   have d5 : (0 : Int) ≤ (j : Int) := by omega
   have d6 : (j : Int) < (m : Int) := by omega
   have hin : i < n := by omega
   have hjm : j < m := by omega
   have d7 : IntKind.i64.wrap (j : Int) = (j : Int) := by rw [IntKind.wrap_i64]; omega
   rw [← hi]
   clear hi hj
   obtain ⟨am,cm,hu7⟩ := O.row.open
   subst hu7
   obtain ⟨b,off,cc,p1,ao1,m1,d1,bo1,k1,e1,hvv,hcc,XC,Hi⟩ := (hu).at i hin
   cases hvv
   obtain ⟨bv,offv,ccv,p1v,ao1v,m1v,d1v,bo1v,k1v,e1v,hvvv,hccv,XCv,Hiv⟩ := (hv).at j hjm
   cases hvvv
   have XC := XC.below BB
   have XCv_ := XCv.below BB
   have Hi := Hi.below BB
   have Hiv := Hiv.below BB
   go_wp2
   (try simp only [dd1,decide_true])
   have hOlt := O.ltH
   have hObt : Hid (∀ g0,Value.ownBlock (.slice am t cm) = some g0 → Wb0.heap.size ≤ g0) := fun g0 hg0 => (O.both g0 hg0).1
   refine wp_region_until 13 #[true,true,true,true,true,true,true,true,true,true,true,true,true,false,false] (fun aF lsd a' w' => ∃ vu0 vu1 vu2 vu3 vu4 vu5 vu6 vu7 vu8 vu9 vu10 vu11 vu12 : Value,a' = ((((((((((((aF.put (some 24) vu0).put (some 25) vu1).put (some 26) vu2).put (some 27) vu3).put (some 28) vu4).put (some 29) vu5).put (some 30) vu6).put (some 31) vu7).put (some 32) vu8).put (some 33) vu9).put (some 34) vu10).put (some 35) vu11).put (some 36) vu12 ∧ Below wr.heap.size wr w' ∧ (lsd.getD 0 false = true → vu0 = .slice am t cm) ∧ (lsd.getD 1 false = true → vu1 = .slice (some ⟨b,off,none⟩) n c) ∧ (lsd.getD 2 false = true → vu2 = .int .i64 (i : Int)) ∧ (lsd.getD 3 false = true → vu3 = .pointer (some ⟨b,off + i * 3,none⟩)) ∧ (lsd.getD 4 false = true → vu4 = .agg #[.bool p1,.slice ao1 m1 d1,.slice bo1 k1 e1]) ∧ (lsd.getD 5 false = true → vu5 = .slice (some ⟨bv,offv,none⟩) m c2) ∧ (lsd.getD 6 false = true → vu6 = .int .i64 (p : Int)) ∧ (lsd.getD 7 false = true → vu7 = .int .i64 (i : Int)) ∧ (lsd.getD 8 false = true → vu8 = .int .i64 (j : Int)) ∧ (lsd.getD 9 false = true → vu9 = .pointer (some ⟨bv,offv + j * 3,none⟩)) ∧ (lsd.getD 10 false = true → vu10 = .agg #[.bool p1v,.slice ao1v m1v d1v,.slice bo1v k1v e1v]) ∧ (lsd.getD 11 false = true → RepQ w' vu11 (q i * r j)) ∧ (lsd.getD 12 false = true → BuiltQ wr.heap.size w' vu12 (q i * r j))) (by kernel_rfl) (by decide) (by kernel_rfl) (by rfl) (by kernel_rfl) ?_ ?_ ?_
   ·exact ⟨_,_,_,_,_,_,_,_,_,_,_,_,_,by simp only [Act.put,xL4,xL5,xL6]; rfl,(Below.refl _ _).drew,fun h => absurd h (fun h => mark_none h),fun h => absurd h (fun h => mark_none h),fun h => absurd h (fun h => mark_none h),fun h => absurd h (fun h => mark_none h),fun h => absurd h (fun h => mark_none h),fun h => absurd h (fun h => mark_none h),fun h => absurd h (fun h => mark_none h),fun h => absurd h (fun h => mark_none h),fun h => absurd h (fun h => mark_none h),fun h => absurd h (fun h => mark_none h),fun h => absurd h (fun h => mark_none h),fun h => absurd h (fun h => mark_none h),fun h => absurd h (fun h => mark_none h)⟩
   ·rintro lsd au wn iu hszu ⟨vu0,vu1,vu2,vu3,vu4,vu5,vu6,vu7,vu8,vu9,vu10,vu11,vu12,rfl,hbu,fu0,fu1,fu2,fu3,fu4,fu5,fu6,fu7,fu8,fu9,fu10,fu11,fu12⟩ himu hru
    rcases (show iu = 0 ∨ iu = 1 ∨ iu = 2 ∨ iu = 3 ∨ iu = 4 ∨ iu = 5 ∨ iu = 6 ∨ iu = 7 ∨ iu = 8 ∨ iu = 9 ∨ iu = 10 ∨ iu = 11 ∨ iu = 12 by omega) with rfl | rfl | rfl | rfl | rfl | rfl | rfl | rfl | rfl | rfl | rfl | rfl | rfl
    ·refine wpOp_shut (by rfl) (fun K hK => ?_)
     simp only [Act.put,xL4,xL5,xL6]
     go_simp
     exact hK.out _ _ ⟨(.slice am t cm),vu1,vu2,vu3,vu4,vu5,vu6,vu7,vu8,vu9,vu10,vu11,vu12,by simp only [Act.put,xL4,xL5,xL6],hbu,fun _ => rfl,fun h => fu1 (mark_of (by decide) h),fun h => fu2 (mark_of (by decide) h),fun h => fu3 (mark_of (by decide) h),fun h => fu4 (mark_of (by decide) h),fun h => fu5 (mark_of (by decide) h),fun h => fu6 (mark_of (by decide) h),fun h => fu7 (mark_of (by decide) h),fun h => fu8 (mark_of (by decide) h),fun h => fu9 (mark_of (by decide) h),fun h => fu10 (mark_of (by decide) h),fun h => fu11 (mark_of (by decide) h),fun h => fu12 (mark_of (by decide) h)⟩
    ·refine wpOp_shut (by rfl) (fun K hK => ?_)
     simp only [Act.put,xL4,xL5,xL6]
     go_simp
     exact hK.out _ _ ⟨vu0,(.slice (some ⟨b,off,none⟩) n c),vu2,vu3,vu4,vu5,vu6,vu7,vu8,vu9,vu10,vu11,vu12,by simp only [Act.put,xL4,xL5,xL6],hbu,fun h => fu0 (mark_of (by decide) h),fun _ => rfl,fun h => fu2 (mark_of (by decide) h),fun h => fu3 (mark_of (by decide) h),fun h => fu4 (mark_of (by decide) h),fun h => fu5 (mark_of (by decide) h),fun h => fu6 (mark_of (by decide) h),fun h => fu7 (mark_of (by decide) h),fun h => fu8 (mark_of (by decide) h),fun h => fu9 (mark_of (by decide) h),fun h => fu10 (mark_of (by decide) h),fun h => fu11 (mark_of (by decide) h),fun h => fu12 (mark_of (by decide) h)⟩
    ·refine wpOp_shut (by rfl) (fun K hK => ?_)
     simp only [Act.put,xL4,xL5,xL6]
     go_simp
     exact hK.out _ _ ⟨vu0,vu1,(.int .i64 (i : Int)),vu3,vu4,vu5,vu6,vu7,vu8,vu9,vu10,vu11,vu12,by simp only [Act.put,xL4,xL5,xL6],hbu,fun h => fu0 (mark_of (by decide) h),fun h => fu1 (mark_of (by decide) h),fun _ => rfl,fun h => fu3 (mark_of (by decide) h),fun h => fu4 (mark_of (by decide) h),fun h => fu5 (mark_of (by decide) h),fun h => fu6 (mark_of (by decide) h),fun h => fu7 (mark_of (by decide) h),fun h => fu8 (mark_of (by decide) h),fun h => fu9 (mark_of (by decide) h),fun h => fu10 (mark_of (by decide) h),fun h => fu11 (mark_of (by decide) h),fun h => fu12 (mark_of (by decide) h)⟩
    ·have eu1 := fu1 (dep_of 1 hru rfl (by kernel_rfl))
     have eu2 := fu2 (dep_of 2 hru rfl (by kernel_rfl))
     replace eu1 := eu1.symm
     subst eu1
     replace eu2 := eu2.symm
     subst eu2
     refine wpOp_shut (by rfl) (fun K hK => ?_)
     simp only [Act.put,xL4,xL5,xL6]
     go_simp
     exact hK.out _ _ ⟨vu0,(.slice (some ⟨b,off,none⟩) n c),(.int .i64 (i : Int)),(.pointer (some ⟨b,off + i * 3,none⟩)),vu4,vu5,vu6,vu7,vu8,vu9,vu10,vu11,vu12,by simp only [Act.put,xL4,xL5,xL6],hbu,fun h => fu0 (mark_of (by decide) h),fun _ => rfl,fun _ => rfl,fun _ => rfl,fun h => fu4 (mark_of (by decide) h),fun h => fu5 (mark_of (by decide) h),fun h => fu6 (mark_of (by decide) h),fun h => fu7 (mark_of (by decide) h),fun h => fu8 (mark_of (by decide) h),fun h => fu9 (mark_of (by decide) h),fun h => fu10 (mark_of (by decide) h),fun h => fu11 (mark_of (by decide) h),fun h => fu12 (mark_of (by decide) h)⟩
    ·have eu3 := fu3 (dep_of 3 hru rfl (by kernel_rfl))
     replace eu3 := eu3.symm
     subst eu3
     refine wpOp_shut (by rfl) (fun K hK => ?_)
     simp only [Act.put,xL4,xL5,xL6]
     obtain ⟨XC_0,XC_1,XC_2⟩ := XC.below hbu
     go_simp
     exact hK.out _ _ ⟨vu0,vu1,vu2,(.pointer (some ⟨b,off + i * 3,none⟩)),(.agg #[.bool p1,.slice ao1 m1 d1,.slice bo1 k1 e1]),vu5,vu6,vu7,vu8,vu9,vu10,vu11,vu12,by simp only [Act.put,xL4,xL5,xL6],hbu,fun h => fu0 (mark_of (by decide) h),fun h => fu1 (mark_of (by decide) h),fun h => fu2 (mark_of (by decide) h),fun _ => rfl,fun _ => rfl,fun h => fu5 (mark_of (by decide) h),fun h => fu6 (mark_of (by decide) h),fun h => fu7 (mark_of (by decide) h),fun h => fu8 (mark_of (by decide) h),fun h => fu9 (mark_of (by decide) h),fun h => fu10 (mark_of (by decide) h),fun h => fu11 (mark_of (by decide) h),fun h => fu12 (mark_of (by decide) h)⟩
    ·refine wpOp_shut (by rfl) (fun K hK => ?_)
     simp only [Act.put,xL4,xL5,xL6]
     go_simp
     exact hK.out _ _ ⟨vu0,vu1,vu2,vu3,vu4,(.slice (some ⟨bv,offv,none⟩) m c2),vu6,vu7,vu8,vu9,vu10,vu11,vu12,by simp only [Act.put,xL4,xL5,xL6],hbu,fun h => fu0 (mark_of (by decide) h),fun h => fu1 (mark_of (by decide) h),fun h => fu2 (mark_of (by decide) h),fun h => fu3 (mark_of (by decide) h),fun h => fu4 (mark_of (by decide) h),fun _ => rfl,fun h => fu6 (mark_of (by decide) h),fun h => fu7 (mark_of (by decide) h),fun h => fu8 (mark_of (by decide) h),fun h => fu9 (mark_of (by decide) h),fun h => fu10 (mark_of (by decide) h),fun h => fu11 (mark_of (by decide) h),fun h => fu12 (mark_of (by decide) h)⟩
    ·refine wpOp_shut (by rfl) (fun K hK => ?_)
     simp only [Act.put,xL4,xL5,xL6]
     go_simp
     exact hK.out _ _ ⟨vu0,vu1,vu2,vu3,vu4,vu5,(.int .i64 (p : Int)),vu7,vu8,vu9,vu10,vu11,vu12,by simp only [Act.put,xL4,xL5,xL6],hbu,fun h => fu0 (mark_of (by decide) h),fun h => fu1 (mark_of (by decide) h),fun h => fu2 (mark_of (by decide) h),fun h => fu3 (mark_of (by decide) h),fun h => fu4 (mark_of (by decide) h),fun h => fu5 (mark_of (by decide) h),fun _ => rfl,fun h => fu7 (mark_of (by decide) h),fun h => fu8 (mark_of (by decide) h),fun h => fu9 (mark_of (by decide) h),fun h => fu10 (mark_of (by decide) h),fun h => fu11 (mark_of (by decide) h),fun h => fu12 (mark_of (by decide) h)⟩
    ·refine wpOp_shut (by rfl) (fun K hK => ?_)
     simp only [Act.put,xL4,xL5,xL6]
     go_simp
     exact hK.out _ _ ⟨vu0,vu1,vu2,vu3,vu4,vu5,vu6,(.int .i64 (i : Int)),vu8,vu9,vu10,vu11,vu12,by simp only [Act.put,xL4,xL5,xL6],hbu,fun h => fu0 (mark_of (by decide) h),fun h => fu1 (mark_of (by decide) h),fun h => fu2 (mark_of (by decide) h),fun h => fu3 (mark_of (by decide) h),fun h => fu4 (mark_of (by decide) h),fun h => fu5 (mark_of (by decide) h),fun h => fu6 (mark_of (by decide) h),fun _ => rfl,fun h => fu8 (mark_of (by decide) h),fun h => fu9 (mark_of (by decide) h),fun h => fu10 (mark_of (by decide) h),fun h => fu11 (mark_of (by decide) h),fun h => fu12 (mark_of (by decide) h)⟩
    ·have eu6 := fu6 (dep_of 6 hru rfl (by kernel_rfl))
     have eu7 := fu7 (dep_of 7 hru rfl (by kernel_rfl))
     replace eu6 := eu6.symm
     subst eu6
     replace eu7 := eu7.symm
     subst eu7
     refine wpOp_shut (by rfl) (fun K hK => ?_)
     simp only [Act.put,xL4,xL5,xL6]
     go_simp
     exact hK.out _ _ ⟨vu0,vu1,vu2,vu3,vu4,vu5,(.int .i64 (p : Int)),(.int .i64 (i : Int)),(.int .i64 (j : Int)),vu9,vu10,vu11,vu12,by simp only [Act.put,xL4,xL5,xL6],hbu,fun h => fu0 (mark_of (by decide) h),fun h => fu1 (mark_of (by decide) h),fun h => fu2 (mark_of (by decide) h),fun h => fu3 (mark_of (by decide) h),fun h => fu4 (mark_of (by decide) h),fun h => fu5 (mark_of (by decide) h),fun _ => rfl,fun _ => rfl,fun _ => rfl,fun h => fu9 (mark_of (by decide) h),fun h => fu10 (mark_of (by decide) h),fun h => fu11 (mark_of (by decide) h),fun h => fu12 (mark_of (by decide) h)⟩
    ·have eu5 := fu5 (dep_of 5 hru rfl (by kernel_rfl))
     have eu8 := fu8 (dep_of 8 hru rfl (by kernel_rfl))
     replace eu5 := eu5.symm
     subst eu5
     replace eu8 := eu8.symm
     subst eu8
     refine wpOp_shut (by rfl) (fun K hK => ?_)
     simp only [Act.put,xL4,xL5,xL6]
     go_simp
     exact hK.out _ _ ⟨vu0,vu1,vu2,vu3,vu4,(.slice (some ⟨bv,offv,none⟩) m c2),vu6,vu7,(.int .i64 (j : Int)),(.pointer (some ⟨bv,offv + j * 3,none⟩)),vu10,vu11,vu12,by simp only [Act.put,xL4,xL5,xL6],hbu,fun h => fu0 (mark_of (by decide) h),fun h => fu1 (mark_of (by decide) h),fun h => fu2 (mark_of (by decide) h),fun h => fu3 (mark_of (by decide) h),fun h => fu4 (mark_of (by decide) h),fun _ => rfl,fun h => fu6 (mark_of (by decide) h),fun h => fu7 (mark_of (by decide) h),fun _ => rfl,fun _ => rfl,fun h => fu10 (mark_of (by decide) h),fun h => fu11 (mark_of (by decide) h),fun h => fu12 (mark_of (by decide) h)⟩
    ·have eu9 := fu9 (dep_of 9 hru rfl (by kernel_rfl))
     replace eu9 := eu9.symm
     subst eu9
     refine wpOp_shut (by rfl) (fun K hK => ?_)
     simp only [Act.put,xL4,xL5,xL6]
     obtain ⟨XCv__0,XCv__1,XCv__2⟩ := XCv_.below hbu
     go_simp
     exact hK.out _ _ ⟨vu0,vu1,vu2,vu3,vu4,vu5,vu6,vu7,vu8,(.pointer (some ⟨bv,offv + j * 3,none⟩)),(.agg #[.bool p1v,.slice ao1v m1v d1v,.slice bo1v k1v e1v]),vu11,vu12,by simp only [Act.put,xL4,xL5,xL6],hbu,fun h => fu0 (mark_of (by decide) h),fun h => fu1 (mark_of (by decide) h),fun h => fu2 (mark_of (by decide) h),fun h => fu3 (mark_of (by decide) h),fun h => fu4 (mark_of (by decide) h),fun h => fu5 (mark_of (by decide) h),fun h => fu6 (mark_of (by decide) h),fun h => fu7 (mark_of (by decide) h),fun h => fu8 (mark_of (by decide) h),fun _ => rfl,fun _ => rfl,fun h => fu11 (mark_of (by decide) h),fun h => fu12 (mark_of (by decide) h)⟩
    ·have eu4 := fu4 (dep_of 4 hru rfl (by kernel_rfl))
     have eu10 := fu10 (dep_of 10 hru rfl (by kernel_rfl))
     replace eu4 := eu4.symm
     subst eu4
     replace eu10 := eu10.symm
     subst eu10
     refine wpOp_shut (by rfl) (fun K hK => ?_)
     simp only [Act.put,xL4,xL5,xL6]
     have Hi := Hi.below hbu
     have Hiv := Hiv.below hbu
     go_simp
     refine (qmul_at _ _ (q i) (r j) L _ Hi Hiv hL (by omega) ((ht.below BB).below hbu)).mono ?_
     rintro eu wx ⟨r3,rfl,hr,bu⟩
     go_wp2_with fail
     have hbu2 := hbu.trans (bu.mono hbu.size)
     exact hK.out _ _ ⟨vu0,vu1,vu2,vu3,(.agg #[.bool p1,.slice ao1 m1 d1,.slice bo1 k1 e1]),vu5,vu6,vu7,vu8,vu9,(.agg #[.bool p1v,.slice ao1v m1v d1v,.slice bo1v k1v e1v]),_,vu12,by simp only [Act.put,xL4,xL5,xL6],hbu2,fun h => fu0 (mark_of (by decide) h),fun h => fu1 (mark_of (by decide) h),fun h => fu2 (mark_of (by decide) h),fun h => fu3 (mark_of (by decide) h),fun _ => rfl,fun h => fu5 (mark_of (by decide) h),fun h => fu6 (mark_of (by decide) h),fun h => fu7 (mark_of (by decide) h),fun h => fu8 (mark_of (by decide) h),fun h => fu9 (mark_of (by decide) h),fun _ => rfl,fun _ => hr,fun h => (fu12 (mark_of (by decide) h)).below bu⟩
    ·have hr := fu11 (dep_of 11 hru rfl (by kernel_rfl))
     obtain ⟨pB,aB,nB,cB,bB,mB,dB,rfl⟩ := hr.open
     refine wpOp_shut (by rfl) (fun K hK => ?_)
     simp only [Act.put,xL4,xL5,xL6]
     go_simp
     obtain ⟨wx,hWx,hSx,bu,VXu⟩ := V3.lay wn 28 (.bool pB) (.slice aB nB cB) (.slice bB mB dB)
     rw [← hWx]
     have hbu2 := hbu.trans (bu.mono hbu.size)
     exact hK.out _ _ ⟨vu0,vu1,vu2,vu3,vu4,vu5,vu6,vu7,vu8,vu9,vu10,(.agg #[.bool pB,.slice aB nB cB,.slice bB mB dB]),_,by simp only [Act.put,xL4,xL5,xL6],hbu2,fun h => fu0 (mark_of (by decide) h),fun h => fu1 (mark_of (by decide) h),fun h => fu2 (mark_of (by decide) h),fun h => fu3 (mark_of (by decide) h),fun h => fu4 (mark_of (by decide) h),fun h => fu5 (mark_of (by decide) h),fun h => fu6 (mark_of (by decide) h),fun h => fu7 (mark_of (by decide) h),fun h => fu8 (mark_of (by decide) h),fun h => fu9 (mark_of (by decide) h),fun h => fu10 (mark_of (by decide) h),fun h => (fu11 (mark_of (by decide) h)).below bu,fun _ => ⟨_,pB,aB,nB,cB,bB,mB,dB,rfl,hbu.size,VXu,hr.below bu⟩⟩
   rintro au Wu1 ⟨vu0,vu1,vu2,vu3,vu4,vu5,vu6,vu7,vu8,vu9,vu10,vu11,vu12,rfl,hbu,fu0,fu1,fu2,fu3,fu4,fu5,fu6,fu7,fu8,fu9,fu10,fu11,fu12⟩
   have eu0 := (fu0 rfl).symm
   subst eu0
   have eu1 := (fu1 rfl).symm
   subst eu1
   have eu2 := (fu2 rfl).symm
   subst eu2
   have eu3 := (fu3 rfl).symm
   subst eu3
   have eu4 := (fu4 rfl).symm
   subst eu4
   have eu5 := (fu5 rfl).symm
   subst eu5
   have eu6 := (fu6 rfl).symm
   subst eu6
   have eu7 := (fu7 rfl).symm
   subst eu7
   have eu8 := (fu8 rfl).symm
   subst eu8
   have eu9 := (fu9 rfl).symm
   subst eu9
   have eu10 := (fu10 rfl).symm
   subst eu10
   have hr := fu11 rfl
   obtain ⟨RB12,p3,a3,n3,c3,bo3,m3,d3,rfl,hRB12,VB12,hbq⟩ := fu12 rfl
   clear fu0 fu1 fu2 fu3 fu4 fu5 fu6 fu7 fu8 fu9 fu10 fu11 fu12
   have hlVR : w.heap.size < wr.heap.size := VR.lt
   have hlXC : b < wr.heap.size := XC.lt
   have hlXCv_ : bv < wr.heap.size := XCv_.lt
   replace O := O.below hbu
   replace Hi := Hi.below hbu
   replace Hiv := Hiv.below hbu
   replace VR := VR.below hbu
   replace XC := XC.below hbu
   replace XCv_ := XCv_.below hbu
   replace BB := BB.trans (hbu.mono BB.size)
   clear hbu
   simp only [Act.put,xL4,xL5,xL6]
   refine xR [13] (h := ?_)
   refine AllReadyH.cons (by rfl) (fun K hK => ?_) AllReadyH.nil
   rw [← HX.out] at hbq
   obtain ⟨us,el',o1,o2,o3,o4⟩ := O
   have hul : us.length = t * 3 := o1.1
   have HO3 : Hid (∀ i',i' < t → ∀ j,j < 3 → us[i' * 3 + j]? = some (el' i' j)) := o3
   have HO4 : Hid (∀ i',i' < t → RepQ Wu1 (.agg #[el' i' 0,el' i' 1,el' i' 2]) ((fun t => q (lo + t) * r (p - (lo + t))) i')) := o4
   have hPO : Hid (∀ g0,Value.ownBlock (.slice am t cm) = some g0 → PureB IsNum Wu1 g0) := o2
   clear o2 o3 o4
   have hWb9 : Wb0.heap.size ≤ Wu1.heap.size := by have := VB12.lt; omega
   refine step_append_pure (Q' := IsNum) (by rfl) _ _ _ (by rfl) (Wb0.heap.size) 28 (.agg #[.bool false,.slice none 0 0,.slice none 0 0]) 3 56 Tryz.underlying22 info_wrat (by rfl) (by omega) (.slice am t cm) (by rfl) t us o1 hPO.out ⟨RB12,0,none⟩ 1 (by rfl) [.bool p3,.slice a3 n3 c3,.slice bo3 m3 d3] rfl (news_v3 VB12) (by simp [Value.oneCell']) (by simp [num_slice,num_bool]) (by simp [Value.cells,num_slice,num_bool]) (by omega) (by omega) hWb9 ?_
   intro g5 cap5 w5 ho5 hg5 hat5 hp5 hk5
   have O : FOwn (Wb0.heap.size) w5 (.slice (some ⟨g5,0,none⟩) (t + 1) cap5) (t + 1) (fun t => q (lo + t) * r (p - (lo + t))) := FOwn.more ho5 hp5 hul HO3.out HO4.out hbq hk5
   have hWb2 : Wb0.heap.size ≤ w5.heap.size := Nat.le_trans hWb9 hg5.size
   replace BB : Below w.heap.size w w5 := below_grownB BB hg5 (by have := BB.size; omega) (fun g0 hg0 => by have := hObt.out g0 hg0; have := hBw.out; omega)
   replace VR := VR.grown hg5 (fun e => by have := hObt.out _ e.symm; have := hVR0.out; omega)
   clear XC
   clear XCv_
   clear Hi
   clear Hiv
   clear hr
   clear hbq
   clear o1 hPO HO3 HO4 hul ho5 hg5 hat5 hp5 hk5 VB12 hWb9
   refine hK.out _ _ trivial (fun _ => ?_)
   clear hK K
   simp only [Act.put,xL4,xL5,xL6]
   refine xR [14] (h := ?_)
   refine AllReadyH.cons (by rfl) (fun K hK => ?_) AllReadyH.nil
   go_simp
   refine hK.out _ _ trivial (fun _ => ?_)
   clear hK K
   simp only [Act.put,xL4,xL5,xL6]
   refine wpAnyH_done (by kernel_rfl) ?_ _
   go_wp2
   go_roundw
   case rel => exact ⟨t + 1,by omega,by have := HI.out; first | go_num | (congr 1; omega),O,VR,hWb2,BB⟩
   case measure => have := HI.out; simp [intOf]; omega
  ·obtain rfl : t = K := by omega
   have dd1 : ¬ ((lo + t : Nat) : Int) ≤ top := by have := HTP.out; omega
   have FR := O.row
   clear O
   obtain ⟨am,cm,hu7⟩ := FR.open
   subst hu7
   have hsz : ∀ x,x < t → qsz (q (lo + x) * r (p - (lo + x))) ≤ L + L := fun x hx => qsz_mul _ _ (hu.sz hL _ (by omega)) (hv.sz hL _ (by omega))
   have hmul : t * (L + L + 1) + 1 ≤ n * (L + L + 1) + 1 := Nat.succ_le_succ (Nat.mul_le_mul_right _ (by omega))
   go_wp2_with fail
   refine (qsum_any (L + L) (n * (L + L + 1) + 1) (by omega) (by have := HM3.out; omega) HM2.out t _ _ _ (FR.q (L + L) hsz) (ht.below BB) hmul).mono ?_
   rintro e w1 ⟨rs,rfl,hr,b1⟩
   replace FR := FR.below b1
   replace VR := VR.below b1
   replace BB := BB.trans (b1.mono BB.size)
   clear b1
   rw [HC.out] at hr
   obtain ⟨p3,a3,n3,c3,bo3,m3,d3,rfl⟩ := hr.open
   clear FR
   have hKp := VR.keepJ (.bool p3) (.slice a3 n3 c3) (.slice bo3 m3 d3)
   have hr_n := hr.keep hKp
   have BB_n := below_store3 (R := w.heap.size) BB (by omega) (.bool p3) (.slice a3 n3 c3) (.slice bo3 m3 d3)
   clear hKp
   obtain ⟨q1,q2,q3,q4,q5,q6⟩ := id VR
   go_wp2
   (try simp only [Exit.inBlock,Exit.then])
   refine bodyPost_ret (v := .agg #[.bool p3,.slice a3 n3 c3,.slice bo3 m3 d3]) (by simp [results,go_sem,q1,q2,q3]) rfl ?_
   exact ⟨_,rfl,hr_n,BB_n⟩

theorem conv_trim (n : Nat) (q : Nat → Rat) (m : Nat) (r : Nat → Rat) (p : Nat) : conv (trimN q n) q (trimN r m) r p = conv n q m r p := by
 unfold conv
 refine sumq_congr _ _ _ fun i hi => ?_
 rw [co_trim,co_trim]
theorem FNew.open {B : Nat} {w : World} {v : Value} {n : Nat} {q : Nat → Rat} (h : FNew B w v n q) : ∃ a c,v = .slice a n c := h.1.open
set_option maxRecDepth 20000 in
set_option maxHeartbeats 2000000 in
theorem pmul1_at (i n m : Nat) (q r : Nat → Rat) (L RA RB : Nat) (u v : Value) (w : World) (VP : V1 w RA u) (VQ_ : V1 w RB v) (hu : QRow w u n q L) (hv : QRow w v m r L) (ht : Tab w) (hn0 : 0 < n) (hm0 : 0 < m) (hn : n ≤ 100) (hm : m ≤ 100) (hi : i + 1 < n + m) (hL : 1 ≤ L) (hM : n * (L + L + 1) + 1 ≤ 100000) :
  Calls Tryz.prog 27 #[.int .i64 (i : Int),.pointer (some ⟨RA,0,none⟩),.pointer (some ⟨RB,0,none⟩)] w fun e w' => ∃ x,e = .returned x ∧ RepQ w' x (conv n q m r i) ∧ Below w.heap.size w w' := by
 obtain ⟨ao,c,rfl,hnc,hc63,hsome⟩ := hu.open
 obtain ⟨ao2,c2,rfl,hnc2,hc632,hsome2⟩ := hv.open
 have BB : Below w.heap.size w w := Below.refl _ _
 obtain ⟨Wb0,hW0,hS0,hL0,VR⟩ := V3.lay w 28 (.bool false) (.slice none 0 0) (.slice none 0 0)
 obtain ⟨x0,_⟩ := VP.below hL0
 obtain ⟨y0,_⟩ := VQ_.below hL0
 replace BB := BB.trans (hL0.mono BB.size)
 rw [hW0] at x0 y0
 clear hL0
 go_enter Tryz.func27,Tryz.ntmps27
 go_wp2_with fail
 rw [← hW0]
 clear hW0 hS0 x0 y0
 refine (pcol_at _ _ n m i q r L _ (hu.below BB) (hv.below BB) (ht.below BB) hn0 hm0 hn hm hi hL hM).mono ?_
 rintro e w1 ⟨r1,rfl,hr,b1⟩
 replace VR := VR.below b1
 replace BB := BB.trans (b1.mono BB.size)
 clear b1
 obtain ⟨p3,a3,n3,c3,bo3,m3,d3,rfl⟩ := hr.open
 have hKp := VR.keepJ (.bool p3) (.slice a3 n3 c3) (.slice bo3 m3 d3)
 have hr_n := hr.keep hKp
 have BB_n := below_store3 (R := w.heap.size) BB (by omega) (.bool p3) (.slice a3 n3 c3) (.slice bo3 m3 d3)
 clear hKp
 obtain ⟨q1,q2,q3,q4,q5,q6⟩ := id VR
 go_wp2
 (try simp only [Exit.inBlock,Exit.then])
 refine bodyPost_ret (v := .agg #[.bool p3,.slice a3 n3 c3,.slice bo3 m3 d3]) (by simp [results,go_sem,q1,q2,q3]) rfl ?_
 exact ⟨_,rfl,hr_n,BB_n⟩


/-- How long a product is. -/
def MulLen (n : Nat) (q : Nat → Rat) (m : Nat) (r : Nat → Rat) : Nat := if trimN q n = 0 ∨ trimN r m = 0 then 0 else trimN (conv n q m r) (trimN q n + trimN r m - 1)


set_option maxRecDepth 20000 in
set_option maxHeartbeats 4000000 in
theorem pmul_at (u v : Value) (n m : Nat) (q r : Nat → Rat) (L : Nat) (w : World) (hu : QRow w u n q L) (hv : QRow w v m r L) (ht : Tab w) (hn : n ≤ 100) (hm : m ≤ 100) (hL : 1 ≤ L) (hM : (n + m) * (L + L + 1) + 1 ≤ 100000) (hM1 : L ≤ 40000) :
  Calls Tryz.prog 12 #[u,v] w fun e w' => ∃ x,e = .returned x ∧ FNew w.heap.size w' x (MulLen n q m r) (conv n q m r) ∧ Below w.heap.size w w' := by
 have HM2 : Hid ((n + m) * (L + L + 1) + 1 ≤ 100000) := hM
 clear hM
 obtain ⟨ao,c,rfl,hnc,hc63,hsome⟩ := hu.open
 obtain ⟨ao2,c2,rfl,hnc2,hc632,hsome2⟩ := hv.open
 have htl := trimN_le q n
 have htl2 := trimN_le r m
 have sq : ∀ i,i < trimN q n → qsz (q i) ≤ L := fun i hi => hu.sz hL i (by omega)
 have sr : ∀ i,i < trimN r m → qsz (r i) ≤ L := fun i hi => hv.sz hL i (by omega)
 have BB : Below w.heap.size w w := Below.refl _ _
 obtain ⟨Wb0,hW0,hS0,hL0,VP⟩ := V1.lay w 22 (.slice ao n c)
 replace BB := BB.trans (hL0.mono BB.size)
 clear hL0
 obtain ⟨Wb1,hW1,hS1,hL1,VQ_⟩ := V1.lay Wb0 22 (.slice ao2 m c2)
 rw [hS0] at VQ_ hS1
 replace VP := VP.below hL1
 replace BB := BB.trans (hL1.mono BB.size)
 clear hL1
 go_enter Tryz.func12,Tryz.ntmps12
 go_wp2
 rw [← hW0]
 rw [← hW1]
 clear hW0 hW1 hS0 hS1
 refine wp_region_until 4 #[true,true,true,true,false,false] (fun aF lsd a' w' => ∃ vu0 vu1 vu2 vu3 : Value,a' = (((aF.put (some 5) vu0).put (some 6) vu1).put (some 7) vu2).put (some 8) vu3 ∧ Below Wb1.heap.size Wb1 w' ∧ (lsd.getD 0 false = true → vu0 = .slice ao n c) ∧ (lsd.getD 1 false = true → FNew Wb1.heap.size w' vu1 (trimN q n) q) ∧ (lsd.getD 2 false = true → vu2 = .slice ao2 m c2) ∧ (lsd.getD 3 false = true → FNew Wb1.heap.size w' vu3 (trimN r m) r)) (by kernel_rfl) (by decide) (by kernel_rfl) (by rfl) (by kernel_rfl) ?_ ?_ ?_
 ·exact ⟨_,_,_,_,by simp only [Act.put,xL4,xL5,xL6]; rfl,(Below.refl _ _).drew,fun h => absurd h (fun h => mark_none h),fun h => absurd h (fun h => mark_none h),fun h => absurd h (fun h => mark_none h),fun h => absurd h (fun h => mark_none h)⟩
 ·rintro lsd au wn iu hszu ⟨vu0,vu1,vu2,vu3,rfl,hbu,fu0,fu1,fu2,fu3⟩ himu hru
  rcases (show iu = 0 ∨ iu = 1 ∨ iu = 2 ∨ iu = 3 by omega) with rfl | rfl | rfl | rfl
  ·refine wpOp_shut (by rfl) (fun K hK => ?_)
   simp only [Act.put,xL4,xL5,xL6]
   obtain ⟨VP_0,VP_1⟩ := VP.below hbu
   go_simp
   exact hK.out _ _ ⟨(.slice ao n c),vu1,vu2,vu3,by simp only [Act.put,xL4,xL5,xL6],hbu,fun _ => rfl,fun h => fu1 (mark_of (by decide) h),fun h => fu2 (mark_of (by decide) h),fun h => fu3 (mark_of (by decide) h)⟩
  ·have eu0 := fu0 (dep_of 0 hru rfl (by kernel_rfl))
   replace eu0 := eu0.symm
   subst eu0
   refine wpOp_shut (by rfl) (fun K hK => ?_)
   simp only [Act.put,xL4,xL5,xL6]
   go_simp
   refine (pclean_at _ n q L _ ((hu.below BB).below hbu) ((ht.below BB).below hbu) (by omega) hL (by omega)).mono ?_
   rintro eu wx ⟨x1,rfl,F1,bu⟩
   replace F1 := F1.le hbu.size
   go_wp2_with fail
   have hbu2 := hbu.trans (bu.mono hbu.size)
   exact hK.out _ _ ⟨(.slice ao n c),_,vu2,vu3,by simp only [Act.put,xL4,xL5,xL6],hbu2,fun _ => rfl,fun _ => F1,fun h => fu2 (mark_of (by decide) h),fun h => (fu3 (mark_of (by decide) h)).below bu⟩
  ·refine wpOp_shut (by rfl) (fun K hK => ?_)
   simp only [Act.put,xL4,xL5,xL6]
   obtain ⟨VQ__0,VQ__1⟩ := VQ_.below hbu
   go_simp
   exact hK.out _ _ ⟨vu0,vu1,(.slice ao2 m c2),vu3,by simp only [Act.put,xL4,xL5,xL6],hbu,fun h => fu0 (mark_of (by decide) h),fun h => fu1 (mark_of (by decide) h),fun _ => rfl,fun h => fu3 (mark_of (by decide) h)⟩
  ·have eu2 := fu2 (dep_of 2 hru rfl (by kernel_rfl))
   replace eu2 := eu2.symm
   subst eu2
   have F1 := fu1 (dep_of 1 hru rfl (by kernel_rfl))
   refine wpOp_shut (by rfl) (fun K hK => ?_)
   simp only [Act.put,xL4,xL5,xL6]
   go_simp
   refine (pclean_at _ m r L _ ((hv.below BB).below hbu) ((ht.below BB).below hbu) (by omega) hL (by omega)).mono ?_
   rintro eu wx ⟨x2,rfl,F2,bu⟩
   replace F2 := F2.le hbu.size
   go_wp2_with fail
   have hbu2 := hbu.trans (bu.mono hbu.size)
   exact hK.out _ _ ⟨vu0,vu1,(.slice ao2 m c2),_,by simp only [Act.put,xL4,xL5,xL6],hbu2,fun h => fu0 (mark_of (by decide) h),fun h => (fu1 (mark_of (by decide) h)).below bu,fun _ => rfl,fun _ => F2⟩
 rintro au Wu1 ⟨vu0,vu1,vu2,vu3,rfl,hbu,fu0,fu1,fu2,fu3⟩
 have eu0 := (fu0 rfl).symm
 subst eu0
 have F1 := fu1 rfl
 have eu2 := (fu2 rfl).symm
 subst eu2
 have F2 := fu3 rfl
 clear fu0 fu1 fu2 fu3
 have hlVP : w.heap.size < Wb1.heap.size := VP.lt
 have hlVQ_ : w.heap.size + 1 < Wb1.heap.size := VQ_.lt
 replace VP := VP.below hbu
 replace VQ_ := VQ_.below hbu
 replace BB := BB.trans (hbu.mono BB.size)
 clear hbu
 obtain ⟨a1,c1,rfl⟩ := F1.open
 obtain ⟨a2,c3,rfl⟩ := F2.open
 simp only [Act.put,xL4,xL5,xL6]
 refine xR [4] (h := ?_)
 refine AllReadyH.cons (by rfl) (fun K hK => ?_) AllReadyH.nil
 have hKp := VP.keepJ (.slice a1 (trimN q n) c1)
 have VQ__n := VQ_.other1 (R := w.heap.size) (by omega) (.slice a1 (trimN q n) c1)
 have VP_n := VP.same (.slice a1 (trimN q n) c1)
 have F1_n := F1.other (grown_set1 Wu1 (w.heap.size) (.slice a1 (trimN q n) c1)) hKp (fun g hg => by cases hg; omega)
 have F2_n := F2.other (grown_set1 Wu1 (w.heap.size) (.slice a1 (trimN q n) c1)) hKp (fun g hg => by cases hg; omega)
 have BB_n := below_store1 (R := w.heap.size) BB (by omega) (.slice a1 (trimN q n) c1)
 clear hKp
 obtain ⟨VP_0,VP_1⟩ := id VP
 go_simp
 clear VP_0 VP_1
 clear BB F1 F2 VP VQ_
 generalize Wu1.setCell ⟨w.heap.size,0,none⟩ (.slice a1 (trimN q n) c1) = W2 at *
 have BB := BB_n
 have F1 := F1_n
 have F2 := F2_n
 have VP := VP_n
 have VQ_ := VQ__n
 clear BB_n F1_n F2_n VP_n VQ__n
 refine hK.out _ _ trivial (fun _ => ?_)
 clear hK K
 simp only [Act.put,xL4,xL5,xL6]
 refine xR [5] (h := ?_)
 refine AllReadyH.cons (by rfl) (fun K hK => ?_) AllReadyH.nil
 have hKp := VQ_.keepJ (.slice a2 (trimN r m) c3)
 have VP_n := VP.other1 (R := w.heap.size + 1) (by omega) (.slice a2 (trimN r m) c3)
 have VQ__n := VQ_.same (.slice a2 (trimN r m) c3)
 have F1_n := F1.other (grown_set1 W2 (w.heap.size + 1) (.slice a2 (trimN r m) c3)) hKp (fun g hg => by cases hg; omega)
 have F2_n := F2.other (grown_set1 W2 (w.heap.size + 1) (.slice a2 (trimN r m) c3)) hKp (fun g hg => by cases hg; omega)
 have BB_n := below_store1 (R := w.heap.size + 1) BB (by omega) (.slice a2 (trimN r m) c3)
 clear hKp
 obtain ⟨VQ__0,VQ__1⟩ := id VQ_
 go_simp
 clear VQ__0 VQ__1
 clear BB F1 F2 VP VQ_
 generalize W2.setCell ⟨w.heap.size + 1,0,none⟩ (.slice a2 (trimN r m) c3) = W3 at *
 have BB := BB_n
 have F1 := F1_n
 have F2 := F2_n
 have VP := VP_n
 have VQ_ := VQ__n
 clear BB_n F1_n F2_n VP_n VQ__n
 refine hK.out _ _ trivial (fun _ => ?_)
 clear hK K
 simp only [Act.put,xL4,xL5,xL6]
 refine wpAnyH_done (by kernel_rfl) ?_ _
 have HC : Hid (∀ p,conv (trimN q n) q (trimN r m) r p = conv n q m r p) := fun p => conv_trim n q m r p
 have HN : Hid (MulLen n q m r = if trimN q n = 0 ∨ trimN r m = 0 then 0 else trimN (conv n q m r) (trimN q n + trimN r m - 1)) := rfl
 generalize trimN q n = n1 at *
 generalize trimN r m = m1 at *
 by_cases hz : n1 = 0 ∨ m1 = 0
 ·have hzz := hz
  by_cases hz0 : n1 = 0
  ·obtain rfl : n1 = 0 := hz0
   obtain ⟨VP_0,VP_1⟩ := id VP
   obtain ⟨VQ__0,VQ__1⟩ := id VQ_
   go_wp2
   clear VP_0 VP_1 VQ__0 VQ__1
   go_ret
   exact ⟨_,rfl,by rw [HN.out,if_pos (by omega)]; exact FNew.nil _ _ _,BB⟩
  ·have j1 : ((n1 : Int) == 0) = false := by simp; omega
   obtain rfl : m1 = 0 := by omega
   obtain ⟨VP_0,VP_1⟩ := id VP
   obtain ⟨VQ__0,VQ__1⟩ := id VQ_
   go_wp2
   clear VP_0 VP_1 VQ__0 VQ__1
   go_ret
   exact ⟨_,rfl,by rw [HN.out,if_pos (by omega)]; exact FNew.nil _ _ _,BB⟩
 ·rw [if_neg hz] at HN
  have hn1 : 0 < n1 := by omega
  have hm1 : 0 < m1 := by omega
  have j1 : ((n1 : Int) == 0) = false := by simp; omega
  have j2 : ((m1 : Int) == 0) = false := by simp; omega
  have j3 : (n1 : Int) + (m1 : Int) - 1 = ((n1 + m1 - 1 : Nat) : Int) := by omega
  clear hz
  obtain ⟨VP_0,VP_1⟩ := id VP
  obtain ⟨VQ__0,VQ__1⟩ := id VQ_
  go_wp2_with fail
  clear VP_0 VP_1 VQ__0 VQ__1
  have hsz : ∀ i,i < n1 + m1 - 1 → qsz (conv n q m r i) ≤ (n + m) * (L + L + 1) + 1 := fun i hi => by
   rw [← HC.out]
   exact Nat.le_trans (conv_sz sq sr hL i) (Nat.succ_le_succ (Nat.mul_le_mul_right _ (by omega)))
  have HH : Hid (∀ i : Nat,i < n1 + m1 - 1 → ∀ w1,Below W3.heap.size W3 w1 → Calls Tryz.prog 27 (#[.int .i64 (i : Int)] ++ #[.pointer (some ⟨w.heap.size,0,none⟩),.pointer (some ⟨w.heap.size + 1,0,none⟩)]) w1 fun e w2 => ∃ x,e = .returned x ∧ RepQ w2 x (conv n q m r i) ∧ Below w1.heap.size w1 w2) := fun i hi w1 hb1 => by
   rw [← HC.out i]
   exact pmul1_at i n1 m1 q r L _ _ _ _ w1 (VP.below hb1) (VQ_.below hb1) ((F1.1.q L sq).below hb1) ((F2.1.q L sr).below hb1) ((ht.below BB).below hb1) hn1 hm1 (by omega) (by omega) (by omega) hL (Nat.le_trans (Nat.succ_le_succ (Nat.mul_le_mul_right _ (by omega))) HM2.out)
  have hWs : Hid (w.heap.size ≤ W3.heap.size) := BB.size
  refine (pmade_at (n1 + m1 - 1) 27 #[.pointer (some ⟨w.heap.size,0,none⟩),.pointer (some ⟨w.heap.size + 1,0,none⟩)] (conv n q m r) ((n + m) * (L + L + 1) + 1) _ (by omega) hsz (by omega) HM2.out (ht.below BB) (enters_own Tryz.func27 (by kernel_rfl) rfl) HH).mono ?_
  rintro e w1 ⟨x,rfl,FR,b1⟩
  replace VP := VP.below b1
  replace VQ_ := VQ_.below b1
  replace BB := BB.trans (b1.mono BB.size)
  clear b1
  rw [← HN.out] at FR
  go_wp2
  go_ret
  exact ⟨_,rfl,FR.le hWs.out,BB⟩


set_option maxRecDepth 20000 in
set_option maxHeartbeats 2000000 in
theorem pderive1_at (i n : Nat) (q : Nat → Rat) (L RA : Nat) (u : Value) (w : World) (VP : V1 w RA u) (hu : QRow w u n q L) (ht : Tab w) (hi : i + 1 < n) (hn : n ≤ 100000) (hL2 : 2 ≤ L) (hM : L ≤ 100000) :
  Calls Tryz.prog 70 #[.int .i64 (i : Int),.pointer (some ⟨RA,0,none⟩)] w fun e w' => ∃ x,e = .returned x ∧ RepQ w' x (q (i + 1) * (((i + 1 : Nat) : Int) : Rat)) ∧ Below w.heap.size w w' := by
 obtain ⟨b,off,cc,p1,ao1,m1,d1,bo1,k1,e1,hvv,hcc,XC,Hi⟩ := (hu).at (i + 1) hi
 cases hvv
 have dd1 : (i : Int) + 1 = ((i + 1 : Nat) : Int) := by omega
 obtain ⟨i1,hi1⟩ : ∃ i1,i1 = i + 1 := ⟨_,rfl⟩
 rw [← hi1] at dd1 XC Hi hi ⊢
 have dd2 : (i1 : Int) < (n : Int) := by omega
 have dd3 : (0 : Int) ≤ (i1 : Int) := by omega
 have dd4 : IntKind.i64.wrap (i1 : Int) = (i1 : Int) := by rw [IntKind.wrap_i64]; omega
 have hRA := VP.lt
 have hRX := XC.lt
 have s1 : qsz ((i1 : Int) : Rat) ≤ L := qsz_int _ (Nat.le_trans ((nl_two _).2 (by omega)) hL2) (by omega)
 clear hi1
 have BB : Below w.heap.size w w := Below.refl _ _
 obtain ⟨Wb0,hW0,hS0,hL0,VR⟩ := V3.lay w 28 (.bool false) (.slice none 0 0) (.slice none 0 0)
 replace VP := VP.below hL0
 replace XC := XC.below hL0
 replace BB := BB.trans (hL0.mono BB.size)
 clear hL0
 go_enter Tryz.func70,Tryz.ntmps70
 go_wp2
 rw [← hW0]
 clear hW0 hS0
 refine wp_region_until 9 #[true,true,true,true,true,true,true,true,true,false] (fun aF lsd a' w' => ∃ vu0 vu1 vu2 vu3 vu4 vu5 vu6 vu7 vu8 : Value,a' = ((((((((aF.put (some 4) vu0).put (some 5) vu1).put (some 6) vu2).put (some 7) vu3).put (some 8) vu4).put (some 9) vu5).put (some 10) vu6).put (some 11) vu7).put (some 12) vu8 ∧ Below Wb0.heap.size Wb0 w' ∧ (lsd.getD 0 false = true → vu0 = .slice (some ⟨b,off,none⟩) n cc) ∧ (lsd.getD 1 false = true → vu1 = .int .i64 (i : Int)) ∧ (lsd.getD 2 false = true → vu2 = .int .i64 (i1 : Int)) ∧ (lsd.getD 3 false = true → vu3 = .pointer (some ⟨b,off + i1 * 3,none⟩)) ∧ (lsd.getD 4 false = true → vu4 = .agg #[.bool p1,.slice ao1 m1 d1,.slice bo1 k1 e1]) ∧ (lsd.getD 5 false = true → vu5 = .int .i64 (i : Int)) ∧ (lsd.getD 6 false = true → vu6 = .int .i64 (i1 : Int)) ∧ (lsd.getD 7 false = true → RepQ w' vu7 ((i1 : Int) : Rat)) ∧ (lsd.getD 8 false = true → RepQ w' vu8 (q i1 * ((i1 : Int) : Rat)))) (by kernel_rfl) (by decide) (by kernel_rfl) (by rfl) (by kernel_rfl) ?_ ?_ ?_
 ·exact ⟨_,_,_,_,_,_,_,_,_,by simp only [Act.put,xL4,xL5,xL6]; rfl,(Below.refl _ _).drew,fun h => absurd h (fun h => mark_none h),fun h => absurd h (fun h => mark_none h),fun h => absurd h (fun h => mark_none h),fun h => absurd h (fun h => mark_none h),fun h => absurd h (fun h => mark_none h),fun h => absurd h (fun h => mark_none h),fun h => absurd h (fun h => mark_none h),fun h => absurd h (fun h => mark_none h),fun h => absurd h (fun h => mark_none h)⟩
 ·rintro lsd au wn iu hszu ⟨vu0,vu1,vu2,vu3,vu4,vu5,vu6,vu7,vu8,rfl,hbu,fu0,fu1,fu2,fu3,fu4,fu5,fu6,fu7,fu8⟩ himu hru
  rcases (show iu = 0 ∨ iu = 1 ∨ iu = 2 ∨ iu = 3 ∨ iu = 4 ∨ iu = 5 ∨ iu = 6 ∨ iu = 7 ∨ iu = 8 by omega) with rfl | rfl | rfl | rfl | rfl | rfl | rfl | rfl | rfl
  ·refine wpOp_shut (by rfl) (fun K hK => ?_)
   simp only [Act.put,xL4,xL5,xL6]
   obtain ⟨VP_0,VP_1⟩ := VP.below hbu
   go_simp
   exact hK.out _ _ ⟨(.slice (some ⟨b,off,none⟩) n cc),vu1,vu2,vu3,vu4,vu5,vu6,vu7,vu8,by simp only [Act.put,xL4,xL5,xL6],hbu,fun _ => rfl,fun h => fu1 (mark_of (by decide) h),fun h => fu2 (mark_of (by decide) h),fun h => fu3 (mark_of (by decide) h),fun h => fu4 (mark_of (by decide) h),fun h => fu5 (mark_of (by decide) h),fun h => fu6 (mark_of (by decide) h),fun h => fu7 (mark_of (by decide) h),fun h => fu8 (mark_of (by decide) h)⟩
  ·refine wpOp_shut (by rfl) (fun K hK => ?_)
   simp only [Act.put,xL4,xL5,xL6]
   go_simp
   exact hK.out _ _ ⟨vu0,(.int .i64 (i : Int)),vu2,vu3,vu4,vu5,vu6,vu7,vu8,by simp only [Act.put,xL4,xL5,xL6],hbu,fun h => fu0 (mark_of (by decide) h),fun _ => rfl,fun h => fu2 (mark_of (by decide) h),fun h => fu3 (mark_of (by decide) h),fun h => fu4 (mark_of (by decide) h),fun h => fu5 (mark_of (by decide) h),fun h => fu6 (mark_of (by decide) h),fun h => fu7 (mark_of (by decide) h),fun h => fu8 (mark_of (by decide) h)⟩
  ·have eu1 := fu1 (dep_of 1 hru rfl (by kernel_rfl))
   replace eu1 := eu1.symm
   subst eu1
   refine wpOp_shut (by rfl) (fun K hK => ?_)
   simp only [Act.put,xL4,xL5,xL6]
   go_simp
   exact hK.out _ _ ⟨vu0,(.int .i64 (i : Int)),(.int .i64 (i1 : Int)),vu3,vu4,vu5,vu6,vu7,vu8,by simp only [Act.put,xL4,xL5,xL6],hbu,fun h => fu0 (mark_of (by decide) h),fun _ => rfl,fun _ => rfl,fun h => fu3 (mark_of (by decide) h),fun h => fu4 (mark_of (by decide) h),fun h => fu5 (mark_of (by decide) h),fun h => fu6 (mark_of (by decide) h),fun h => fu7 (mark_of (by decide) h),fun h => fu8 (mark_of (by decide) h)⟩
  ·have eu0 := fu0 (dep_of 0 hru rfl (by kernel_rfl))
   have eu2 := fu2 (dep_of 2 hru rfl (by kernel_rfl))
   replace eu0 := eu0.symm
   subst eu0
   replace eu2 := eu2.symm
   subst eu2
   refine wpOp_shut (by rfl) (fun K hK => ?_)
   simp only [Act.put,xL4,xL5,xL6]
   go_simp
   exact hK.out _ _ ⟨(.slice (some ⟨b,off,none⟩) n cc),vu1,(.int .i64 (i1 : Int)),(.pointer (some ⟨b,off + i1 * 3,none⟩)),vu4,vu5,vu6,vu7,vu8,by simp only [Act.put,xL4,xL5,xL6],hbu,fun _ => rfl,fun h => fu1 (mark_of (by decide) h),fun _ => rfl,fun _ => rfl,fun h => fu4 (mark_of (by decide) h),fun h => fu5 (mark_of (by decide) h),fun h => fu6 (mark_of (by decide) h),fun h => fu7 (mark_of (by decide) h),fun h => fu8 (mark_of (by decide) h)⟩
  ·have eu3 := fu3 (dep_of 3 hru rfl (by kernel_rfl))
   replace eu3 := eu3.symm
   subst eu3
   refine wpOp_shut (by rfl) (fun K hK => ?_)
   simp only [Act.put,xL4,xL5,xL6]
   obtain ⟨XC_0,XC_1,XC_2⟩ := XC.below hbu
   go_simp
   exact hK.out _ _ ⟨vu0,vu1,vu2,(.pointer (some ⟨b,off + i1 * 3,none⟩)),(.agg #[.bool p1,.slice ao1 m1 d1,.slice bo1 k1 e1]),vu5,vu6,vu7,vu8,by simp only [Act.put,xL4,xL5,xL6],hbu,fun h => fu0 (mark_of (by decide) h),fun h => fu1 (mark_of (by decide) h),fun h => fu2 (mark_of (by decide) h),fun _ => rfl,fun _ => rfl,fun h => fu5 (mark_of (by decide) h),fun h => fu6 (mark_of (by decide) h),fun h => fu7 (mark_of (by decide) h),fun h => fu8 (mark_of (by decide) h)⟩
  ·refine wpOp_shut (by rfl) (fun K hK => ?_)
   simp only [Act.put,xL4,xL5,xL6]
   go_simp
   exact hK.out _ _ ⟨vu0,vu1,vu2,vu3,vu4,(.int .i64 (i : Int)),vu6,vu7,vu8,by simp only [Act.put,xL4,xL5,xL6],hbu,fun h => fu0 (mark_of (by decide) h),fun h => fu1 (mark_of (by decide) h),fun h => fu2 (mark_of (by decide) h),fun h => fu3 (mark_of (by decide) h),fun h => fu4 (mark_of (by decide) h),fun _ => rfl,fun h => fu6 (mark_of (by decide) h),fun h => fu7 (mark_of (by decide) h),fun h => fu8 (mark_of (by decide) h)⟩
  ·have eu5 := fu5 (dep_of 5 hru rfl (by kernel_rfl))
   replace eu5 := eu5.symm
   subst eu5
   refine wpOp_shut (by rfl) (fun K hK => ?_)
   simp only [Act.put,xL4,xL5,xL6]
   go_simp
   exact hK.out _ _ ⟨vu0,vu1,vu2,vu3,vu4,(.int .i64 (i : Int)),(.int .i64 (i1 : Int)),vu7,vu8,by simp only [Act.put,xL4,xL5,xL6],hbu,fun h => fu0 (mark_of (by decide) h),fun h => fu1 (mark_of (by decide) h),fun h => fu2 (mark_of (by decide) h),fun h => fu3 (mark_of (by decide) h),fun h => fu4 (mark_of (by decide) h),fun _ => rfl,fun _ => rfl,fun h => fu7 (mark_of (by decide) h),fun h => fu8 (mark_of (by decide) h)⟩
  ·have eu6 := fu6 (dep_of 6 hru rfl (by kernel_rfl))
   replace eu6 := eu6.symm
   subst eu6
   refine wpOp_shut (by rfl) (fun K hK => ?_)
   simp only [Act.put,xL4,xL5,xL6]
   go_simp
   refine (qof_at (i1 : Int) _ (by omega) (by omega)).mono ?_
   rintro eu wx ⟨r1,rfl,h1,bu⟩
   go_wp2_with fail
   have hbu2 := hbu.trans (bu.mono hbu.size)
   exact hK.out _ _ ⟨vu0,vu1,vu2,vu3,vu4,vu5,(.int .i64 (i1 : Int)),_,vu8,by simp only [Act.put,xL4,xL5,xL6],hbu2,fun h => fu0 (mark_of (by decide) h),fun h => fu1 (mark_of (by decide) h),fun h => fu2 (mark_of (by decide) h),fun h => fu3 (mark_of (by decide) h),fun h => fu4 (mark_of (by decide) h),fun h => fu5 (mark_of (by decide) h),fun _ => rfl,fun _ => h1,fun h => (fu8 (mark_of (by decide) h)).below bu⟩
  ·have eu4 := fu4 (dep_of 4 hru rfl (by kernel_rfl))
   replace eu4 := eu4.symm
   subst eu4
   have h1 := fu7 (dep_of 7 hru rfl (by kernel_rfl))
   refine wpOp_shut (by rfl) (fun K hK => ?_)
   simp only [Act.put,xL4,xL5,xL6]
   go_simp
   refine (qmul_at _ _ (q i1) ((i1 : Int) : Rat) L _ ((Hi.below BB).below hbu) (h1.at _ s1) (by omega) hM ((ht.below BB).below hbu)).mono ?_
   rintro eu wx ⟨r3,rfl,hr,bu⟩
   go_wp2_with fail
   have hbu2 := hbu.trans (bu.mono hbu.size)
   exact hK.out _ _ ⟨vu0,vu1,vu2,vu3,(.agg #[.bool p1,.slice ao1 m1 d1,.slice bo1 k1 e1]),vu5,vu6,vu7,_,by simp only [Act.put,xL4,xL5,xL6],hbu2,fun h => fu0 (mark_of (by decide) h),fun h => fu1 (mark_of (by decide) h),fun h => fu2 (mark_of (by decide) h),fun h => fu3 (mark_of (by decide) h),fun _ => rfl,fun h => fu5 (mark_of (by decide) h),fun h => fu6 (mark_of (by decide) h),fun h => (fu7 (mark_of (by decide) h)).below bu,fun _ => hr⟩
 rintro au Wu1 ⟨vu0,vu1,vu2,vu3,vu4,vu5,vu6,vu7,vu8,rfl,hbu,fu0,fu1,fu2,fu3,fu4,fu5,fu6,fu7,fu8⟩
 have eu0 := (fu0 rfl).symm
 subst eu0
 have eu1 := (fu1 rfl).symm
 subst eu1
 have eu2 := (fu2 rfl).symm
 subst eu2
 have eu3 := (fu3 rfl).symm
 subst eu3
 have eu4 := (fu4 rfl).symm
 subst eu4
 have eu5 := (fu5 rfl).symm
 subst eu5
 have eu6 := (fu6 rfl).symm
 subst eu6
 have h1 := fu7 rfl
 have hr := fu8 rfl
 clear fu0 fu1 fu2 fu3 fu4 fu5 fu6 fu7 fu8
 have hlVP : RA < Wb0.heap.size := VP.lt
 have hlXC : b < Wb0.heap.size := XC.lt
 have hlVR : w.heap.size < Wb0.heap.size := VR.lt
 replace VP := VP.below hbu
 replace XC := XC.below hbu
 replace VR := VR.below hbu
 replace BB := BB.trans (hbu.mono BB.size)
 clear hbu
 obtain ⟨p3,a3,n3,c3,bo3,m3,d3,rfl⟩ := hr.open
 simp only [Act.put,xL4,xL5,xL6]
 refine xR [9] (h := ?_)
 refine AllReadyH.cons (by rfl) (fun K hK => ?_) AllReadyH.nil
 have hKp := VR.keepJ (.bool p3) (.slice a3 n3 c3) (.slice bo3 m3 d3)
 have VP_n := VP.other3 (R := w.heap.size) (by omega) (.bool p3) (.slice a3 n3 c3) (.slice bo3 m3 d3)
 have XC_n := XC.other3 (R := w.heap.size) (by omega) (.bool p3) (.slice a3 n3 c3) (.slice bo3 m3 d3)
 have VR_n := VR.same (.bool p3) (.slice a3 n3 c3) (.slice bo3 m3 d3)
 have h1_n := h1.keep hKp
 have hr_n := hr.keep hKp
 have BB_n := below_store3 (R := w.heap.size) BB (by omega) (.bool p3) (.slice a3 n3 c3) (.slice bo3 m3 d3)
 clear hKp
 obtain ⟨VR_0,VR_1,VR_2,VR_3,VR_4,VR_5⟩ := id VR
 go_simp
 clear VR_0 VR_1 VR_2 VR_3 VR_4 VR_5
 clear BB h1 hr VP XC VR
 generalize ((Wu1.setCell ⟨w.heap.size,0,none⟩ (.bool p3)).setCell ⟨w.heap.size,1,none⟩ (.slice a3 n3 c3)).setCell ⟨w.heap.size,2,none⟩ (.slice bo3 m3 d3) = W2 at *
 have BB := BB_n
 have h1 := h1_n
 have hr := hr_n
 have VP := VP_n
 have XC := XC_n
 have VR := VR_n
 clear BB_n h1_n hr_n VP_n XC_n VR_n
 refine hK.out _ _ trivial (fun _ => ?_)
 clear hK K
 simp only [Act.put,xL4,xL5,xL6]
 refine wpAnyH_done (by kernel_rfl) ?_ _
 obtain ⟨q1,q2,q3,q4,q5,q6⟩ := id VR
 go_wp2
 (try simp only [Exit.inBlock,Exit.then])
 refine bodyPost_ret (v := .agg #[.bool p3,.slice a3 n3 c3,.slice bo3 m3 d3]) (by simp [results,go_sem,q1,q2,q3]) rfl ?_
 exact ⟨_,rfl,hr,BB⟩


set_option maxRecDepth 20000 in
set_option maxHeartbeats 2000000 in
theorem pderive_at (u : Value) (n : Nat) (q : Nat → Rat) (L : Nat) (w : World) (hu : QRow w u n q L) (ht : Tab w) (hn : n ≤ 100000) (hL2 : 2 ≤ L) (hM : L ≤ 40000) :
  Calls Tryz.prog 52 #[u] w fun e w' => ∃ x,e = .returned x ∧ FNew w.heap.size w' x (trimN (fun i => q (i + 1) * (((i + 1 : Nat) : Int) : Rat)) (n - 1)) (fun i => q (i + 1) * (((i + 1 : Nat) : Int) : Rat)) ∧ Below w.heap.size w w' := by
 obtain ⟨ao,c,rfl,hnc,hc63,hsome⟩ := hu.open
 have hsz : ∀ i,i < n - 1 → qsz (q (i + 1) * (((i + 1 : Nat) : Int) : Rat)) ≤ L + L := fun i hi => qsz_mul _ _ (hu.sz (by omega) _ (by omega)) (qsz_int _ (Nat.le_trans ((nl_two _).2 (by omega)) hL2) (by omega))
 have j1 : max (0 : Int) ((n : Int) - 1) = ((n - 1 : Nat) : Int) := by omega
 have BB : Below w.heap.size w w := Below.refl _ _
 obtain ⟨Wb0,hW0,hS0,hL0,VP⟩ := V1.lay w 22 (.slice ao n c)
 replace BB := BB.trans (hL0.mono BB.size)
 clear hL0
 go_enter Tryz.func52,Tryz.ntmps52
 go_wp2_with fail
 rw [← hW0]
 clear hW0 hS0
 have HH : Hid (∀ i : Nat,i < n - 1 → ∀ w1,Below Wb0.heap.size Wb0 w1 → Calls Tryz.prog 70 (#[.int .i64 (i : Int)] ++ #[.pointer (some ⟨w.heap.size,0,none⟩)]) w1 fun e w2 => ∃ x,e = .returned x ∧ RepQ w2 x (q (i + 1) * (((i + 1 : Nat) : Int) : Rat)) ∧ Below w1.heap.size w1 w2) := fun i hi w1 hb1 => pderive1_at i n q L _ _ w1 (VP.below hb1) ((hu.below BB).below hb1) ((ht.below BB).below hb1) (by omega) hn hL2 (by omega)
 have hWs : Hid (w.heap.size ≤ Wb0.heap.size) := BB.size
 refine (pmade_at (n - 1) 70 #[.pointer (some ⟨w.heap.size,0,none⟩)] (fun i => q (i + 1) * (((i + 1 : Nat) : Int) : Rat)) (L + L) _ (by omega) hsz (by omega) (by omega) (ht.below BB) (enters_own Tryz.func70 (by kernel_rfl) rfl) HH).mono ?_
 rintro e w1 ⟨x,rfl,FR,b1⟩
 replace VP := VP.below b1
 replace BB := BB.trans (b1.mono BB.size)
 clear b1
 go_wp2
 go_ret
 exact ⟨_,rfl,FR.le hWs.out,BB⟩


theorem trim_scale (q : Nat → Rat) (m : Nat) (s : Rat) (h0 : 0 < m) (hq : q (m - 1) ≠ 0) (hs : s = (q (m - 1))⁻¹ := by rfl) : trimN (fun i => q i * s) m = m := by
 obtain ⟨k,rfl⟩ : ∃ k,m = k + 1 := ⟨m - 1,by omega⟩
 rw [Nat.add_sub_cancel] at hq hs
 unfold trimN
 rw [if_neg]
 intro e
 rw [hs] at e
 rw [Rat.mul_inv_cancel _ hq] at e
 exact absurd e (by decide)


set_option maxRecDepth 20000 in
set_option maxHeartbeats 2000000 in
theorem pmonic_at (u : Value) (n : Nat) (q : Nat → Rat) (L : Nat) (w : World) (hu : QRow w u n q L) (ht : Tab w) (hn : n ≤ 100000) (hL : 1 ≤ L) (hM : L ≤ 40000) :
  Calls Tryz.prog 68 #[u] w fun e w' => ∃ x,e = .returned x ∧ FNew w.heap.size w' x (trimN q n) (fun i => q i * (q (trimN q n - 1))⁻¹) ∧ Below w.heap.size w w' := by
 obtain ⟨ao,c,rfl,hnc,hc63,hsome⟩ := hu.open
 have htl := trimN_le q n
 have BB : Below w.heap.size w w := Below.refl _ _
 have HTI : Hid (trimN q (trimN q n) = trimN q n) := trimN_idem q n
 have htop := trimN_top q n
 go_enter Tryz.func68,Tryz.ntmps68
 go_wp2_with fail
 refine (ptrim_at _ n q L _ (hu.below BB) hL (by omega)).mono ?_
 rintro e w1 ⟨ao2,c2,hvv,rfl,b1⟩
 replace BB := BB.trans (b1.mono BB.size)
 clear b1
 cases hvv
 obtain ⟨_,_,hvv,hu2⟩ := hu.pre (trimN q n) htl
 cases hvv
 obtain ⟨m,hm⟩ : ∃ m,m = trimN q n := ⟨_,rfl⟩
 have HM : Hid (m = trimN q n) := hm
 rw [← hm] at hu2 htl HTI htop
 rw [← hm]
 clear hm
 by_cases h0 : m = 0
 ·subst h0
  go_wp2
  go_ret
  exact ⟨_,rfl,by rw [← HM.out]; exact FNew.nil _ _ _,BB⟩
 ·have h0b : ((m : Int) == 0) = false := by simp; omega
  have hq := htop (by omega)
  go_wp2_with fail
  refine (ptop_at _ m q L _ (hu2.below BB) (by omega) (by omega)).mono ?_
  rintro e w2 ⟨r1,rfl,h1,b2⟩
  replace BB := BB.trans (b2.mono BB.size)
  clear b2
  go_wp2_with fail
  refine (qinv_at _ (q (m - 1)) L _ h1 hL (by omega) (ht.below BB) hq).mono ?_
  rintro e w3 ⟨r2,rfl,hr,b3⟩
  replace h1 := h1.below b3
  replace BB := BB.trans (b3.mono BB.size)
  clear b3
  obtain ⟨p3,a3,n3,c3,bo3,m3,d3,rfl⟩ := hr.open
  clear h1
  have BB0 := BB
  have BBs := BB
  have hZ1 : w.heap.size ≤ w3.heap.size := BB.size
  obtain ⟨W1,hW1,hS1,hL1,VB⟩ := V3.lay w3 28 (.bool p3) (.slice a3 n3 c3) (.slice bo3 m3 d3)
  replace hr := hr.below hL1
  replace BB := BB.trans (hL1.mono BB.size)
  clear hL1
  go_wp2_with fail
  rw [← hW1]
  generalize w3.heap.size = R1 at *
  clear hW1 hS1
  have hs : qsz (q (m - 1))⁻¹ ≤ L := qsz_inv _ (hu2.sz hL _ (by omega))
  have hWs : Hid (w.heap.size ≤ W1.heap.size) := BB.size
  refine (pscale_at _ _ m q (q (m - 1))⁻¹ L _ (hu2.below BB) (hr.at _ hs) (ht.below BB) (by omega) hL (by omega)).mono ?_
  rintro e w4 ⟨x,rfl,FR,b4⟩
  replace VB := VB.below b4
  replace BB := BB.trans (b4.mono BB.size)
  clear b4
  have HF : Hid (trimN (fun i => q i * (q (m - 1))⁻¹) m = m) := trim_scale q m _ (by omega) hq
  rw [HF.out,HM.out] at FR
  go_wp2
  go_ret
  exact ⟨_,rfl,FR.le hWs.out,BB⟩

end Go.Proofs.YtieeneaebjihlaaGreatDoor

namespace Go.Proofs.YtieeneaebjihlaaGreatDoor
open Go.RowKit
set_option linter.unusedVariables false

/-- A variable of four cells that may be written, and what it holds. -/
def V4 (w : World) (R : Nat) (x y z u : Value) : Prop := V3 w R x y z ∧ w.cell? ⟨R,3,none⟩ = some u ∧ w.frozen? ⟨R,3,none⟩ = false
theorem V4.lt {w : World} {R : Nat} {x y z u : Value} (h : V4 w R x y z u) : R < w.heap.size := h.1.lt
theorem V4.below {w w' : World} {R : Nat} {x y z u : Value} (h : V4 w R x y z u) (hb : Below w.heap.size w w') : V4 w' R x y z u :=
 ⟨h.1.below hb,(hb.cell (p := ⟨R,3,none⟩) h.lt).trans h.2.1,(hb.frozen (p := ⟨R,3,none⟩) h.lt).trans h.2.2⟩
theorem V4.lay (w : World) (t : TypeId) (x y z u : Value) : ∃ W,W = w.alloc (.cells #[x,y,z,u] t) ∧ W.heap.size = w.heap.size + 1 ∧ Below w.heap.size w W ∧ V4 W w.heap.size x y z u := by
 refine ⟨_,rfl,by simp,(Below.refl _ _).alloc (Nat.le_refl _) _,?_⟩
 have hb := heap_alloc_new w (.cells #[x,y,z,u] t)
 refine ⟨⟨?_,?_,?_,?_,?_,?_⟩,?_,?_⟩
 ·rw [cell_of_row _ _ _ _ _ _ hb]; rfl
 ·rw [cell_of_row _ _ _ _ _ _ hb]; rfl
 ·rw [cell_of_row _ _ _ _ _ _ hb]; rfl
 ·simp only [World.frozen?]; rw [hb]; simp
 ·simp only [World.frozen?]; rw [hb]; simp
 ·simp only [World.frozen?]; rw [hb]; simp
 ·rw [cell_of_row _ _ _ _ _ _ hb]; rfl
 ·simp only [World.frozen?]; rw [hb]; simp
theorem cell3_past {w : World} {R : Nat} {u : Value} (h : w.cell? ⟨R,3,none⟩ = some u) (x y z : Value) : (((w.setCell ⟨R,0,none⟩ x).setCell ⟨R,1,none⟩ y).setCell ⟨R,2,none⟩ z).cell? ⟨R,3,none⟩ = some u := by
 rw [World.cell?_setCell_other _ _ _ _ (fun e => by injection e; omega),World.cell?_setCell_other _ _ _ _ (fun e => by injection e; omega),World.cell?_setCell_other _ _ _ _ (fun e => by injection e; omega)]; exact h
theorem V4.keep {w : World} {R : Nat} {x y z u : Value} (h : V4 w R x y z u) (hx : ¬ IsNum x) (hy : ¬ IsNum y) (hz : ¬ IsNum z) (hu : ¬ IsNum u) (x' y' z' u' : Value) : KeepQ IsNum w ((((w.setCell ⟨R,0,none⟩ x').setCell ⟨R,1,none⟩ y').setCell ⟨R,2,none⟩ z').setCell ⟨R,3,none⟩ u') :=
 (h.1.keep hx hy hz x' y' z').trans (keep_set (cell3_past h.2.1 x' y' z') hu u')
/-- A link: a row, and a number's three cells. -/
theorem V4.keepJ {w : World} {R : Nat} {p : Bool} {ao bo co : Option Addr} {n c m d k e : Nat} (h : V4 w R (.slice co k e) (.bool p) (.slice ao n c) (.slice bo m d)) (x' y' z' u' : Value) : KeepQ IsNum w ((((w.setCell ⟨R,0,none⟩ x').setCell ⟨R,1,none⟩ y').setCell ⟨R,2,none⟩ z').setCell ⟨R,3,none⟩ u') :=
 h.keep (num_slice _ _ _) (num_bool _) (num_slice _ _ _) (num_slice _ _ _) x' y' z' u'
theorem V4.same {w : World} {R : Nat} {x y z u : Value} (h : V4 w R x y z u) (x' y' z' u' : Value) : V4 ((((w.setCell ⟨R,0,none⟩ x').setCell ⟨R,1,none⟩ y').setCell ⟨R,2,none⟩ z').setCell ⟨R,3,none⟩ u') R x' y' z' u' := by
 obtain ⟨h1,h2,h3,h4,h5,h6⟩ := h.1.same x' y' z'
 refine ⟨⟨?_,?_,?_,by simp [h4],by simp [h5],by simp [h6]⟩,World.cell?_setCell_same _ _ _ (cell3_past h.2.1 x' y' z'),by simp [h.2.2]⟩
 ·rw [World.cell?_setCell_other _ _ _ _ (fun e => by injection e; omega)]; exact h1
 ·rw [World.cell?_setCell_other _ _ _ _ (fun e => by injection e; omega)]; exact h2
 ·rw [World.cell?_setCell_other _ _ _ _ (fun e => by injection e; omega)]; exact h3
theorem below_store4 {B R : Nat} {w w' : World} (h : Below B w w') (hR : B ≤ R) (x y z u : Value) : Below B w ((((w'.setCell ⟨R,0,none⟩ x).setCell ⟨R,1,none⟩ y).setCell ⟨R,2,none⟩ z).setCell ⟨R,3,none⟩ u) := (((h.setCell hR _).setCell hR _).setCell hR _).setCell hR _

end Go.Proofs.YtieeneaebjihlaaGreatDoor
