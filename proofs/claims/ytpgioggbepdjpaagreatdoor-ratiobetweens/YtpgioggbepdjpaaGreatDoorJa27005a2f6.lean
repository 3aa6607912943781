/-
  Texts of mine, joined: what lies beneath the statement.
-/
import Derived.Test.YtpgioggbepdjpaaGreatDoorJd816751f58
import Derived.Test.YtpgioggbepdjpaaGreatDoorJaaee091545
import Derived.Test.YtpgioggbepdjpaaGreatDoorJaa957d5392
namespace Go.Proofs.YtpgioggbepdjpaaGreatDoor
open Go.RowKit
set_option linter.unusedVariables false
theorem info_wrat : (Tryz.prog.info? 27).map (fun i => (i.zero,i.size,i.bytes)) = some (some (.agg #[.bool false,.slice none 0 0,.slice none 0 0]),3,56) := by kernel_rfl
def QOwn (B : Nat) (w : World) (v : Value) (n : Nat) (q : Nat → Rat) (L : Nat) : Prop :=
 ∃ (us : List Value) (el : Nat → Nat → Value),w.ownsRow B 27 3 v n us ∧ (∀ g,v.ownBlock = some g → PureB IsNum w g) ∧ (∀ i,i < n → ∀ j,j < 3 → us[i * 3 + j]? = some (el i j)) ∧ ∀ i,i < n → RatAt w (.agg #[el i 0,el i 1,el i 2]) (q i) L
theorem QOwn.row {B : Nat} {w : World} {v : Value} {n : Nat} {q : Nat → Rat} {L : Nat} (h : QOwn B w v n q L) : QRow w v n q L := by
 obtain ⟨us,el,h1,_,h3,h4⟩ := h
 exact ⟨el,RowAt.of_owns h1 h3,h4⟩
theorem QOwn.nil (B : Nat) (w : World) (q : Nat → Rat) (L : Nat) : QOwn B w (.slice none 0 0) 0 q L :=
 ⟨[],fun _ _ => .bool false,World.ownsRow_nil _ _ _ _,fun g h => (by cases h),fun i hi => (by omega),fun i hi => (by omega)⟩
theorem QOwn.below {B : Nat} {w w' : World} {v : Value} {n : Nat} {q : Nat → Rat} {L : Nat} (h : QOwn B w v n q L) (hb : Below w.heap.size w w') : QOwn B w' v n q L := by
 obtain ⟨us,el,h1,h2,h3,h4⟩ := h
 exact ⟨us,el,owns_later h1 hb,fun g hg => (h2 g hg).below hb (h1.lt g hg).2,h3,fun i hi => (h4 i hi).below hb⟩
theorem QOwn.other {B : Nat} {w w' : World} {v : Value} {n : Nat} {q : Nat → Rat} {L : Nat} {row : Option Nat} (h : QOwn B w v n q L) (hg : w.grownBy w' row) (hk : KeepQ IsNum w w') (hne : ∀ g,row = some g → g < B) : QOwn B w' v n q L := by
 obtain ⟨us,el,h1,h2,h3,h4⟩ := h
 have hv : ∀ g,v.ownBlock = some g → some g ≠ row := fun g hg e => by have := (h1.lt g hg).1; have := hne g e.symm; omega
 refine ⟨us,el,h1.kept hg ?_,fun g hgg o u hu => h2 g hgg o u ?_,h3,fun i hi => (h4 i hi).keep hk⟩
 ·cases hb : v.ownBlock with
  | none => exact .inl rfl
  | some g => exact .inr (hv g hb)
 ·rw [← World.cell?_of_block (w := w) (hg.block g (h1.lt g hgg).2 (hv g hgg))]; exact hu
theorem QOwn.more {B : Nat} {w w' : World} {n g' cap' : Nat} {q : Nat → Rat} {L : Nat} {us : List Value} {el : Nat → Nat → Value} {x0 x1 x2 : Value} (h1 : w'.ownsRow B 27 3 (.slice (some ⟨g',0,none⟩) (n + 1) cap') (n + 1) (us ++ [x0,x1,x2]))
  (hp : PureB IsNum w' g') (hl : us.length = n * 3) (h3 : ∀ i,i < n → ∀ j,j < 3 → us[i * 3 + j]? = some (el i j)) (h4 : ∀ i,i < n → RatAt w (.agg #[el i 0,el i 1,el i 2]) (q i) L) (hx : RatAt w (.agg #[x0,x1,x2]) (q n) L) (hk : KeepQ IsNum w w') :
  QOwn B w' (.slice (some ⟨g',0,none⟩) (n + 1) cap') (n + 1) q L := by
 refine ⟨_,fun i j => if i < n then el i j else if j = 0 then x0 else if j = 1 then x1 else x2,h1,fun g hg => by simp only [Value.ownBlock,Option.some.injEq] at hg; subst hg; exact hp,fun i hi j hj => ?_,fun i hi => ?_⟩
 ·by_cases hin : i < n
  ·show _ = some (if i < n then el i j else if j = 0 then x0 else if j = 1 then x1 else x2)
   rw [if_pos hin,List.getElem?_append_left (by omega)]; exact h3 i hin j hj
  ·obtain rfl : i = n := by omega
   show _ = some (if i < i then el i j else if j = 0 then x0 else if j = 1 then x1 else x2)
   rw [if_neg hin,List.getElem?_append_right (by omega),hl,Nat.add_sub_cancel_left]
   rcases (show j = 0 ∨ j = 1 ∨ j = 2 by omega) with rfl | rfl | rfl <;> rfl
 ·by_cases hin : i < n
  ·simp only [if_pos hin]; exact (h4 i hin).keep hk
  ·obtain rfl : i = n := by omega
   simp only [if_neg hin]; exact hx.keep hk
theorem grown_set3 (w : World) (R : Nat) (x y z : Value) : w.grownBy (((w.setCell ⟨R,0,none⟩ x).setCell ⟨R,1,none⟩ y).setCell ⟨R,2,none⟩ z) (some R) :=
 ⟨rfl,rfl,rfl,by simp,fun k _ hk => by rw [Below.heap_setCell _ _ _ _ (fun e => hk (by rw [e])),Below.heap_setCell _ _ _ _ (fun e => hk (by rw [e])),Below.heap_setCell _ _ _ _ (fun e => hk (by rw [e]))]⟩
theorem V3.grown {w w' : World} {R : Nat} {x y z : Value} {row : Option Nat} (h : V3 w R x y z) (hg : w.grownBy w' row) (hne : some R ≠ row) : V3 w' R x y z := by
 have hb := hg.block R h.lt hne
 obtain ⟨h1,h2,h3,h4,h5,h6⟩ := h
 exact ⟨(World.cell?_of_block (w := w) hb).trans h1,(World.cell?_of_block (w := w) hb).trans h2,(World.cell?_of_block (w := w) hb).trans h3,(World.frozen?_of_block (w := w) hb).trans h4,(World.frozen?_of_block (w := w) hb).trans h5,(World.frozen?_of_block (w := w) hb).trans h6⟩
def E3 (w : World) (b o : Nat) (x y z : Value) : Prop := w.cell? ⟨b,o,none⟩ = some x ∧ w.cell? ⟨b,o + 1,none⟩ = some y ∧ w.cell? ⟨b,o + 2,none⟩ = some z
theorem E3.lt {w : World} {b o : Nat} {x y z : Value} (h : E3 w b o x y z) : b < w.heap.size := World.block_lt_of_cell? _ _ h.1
theorem E3.below {w w' : World} {b o : Nat} {x y z : Value} (h : E3 w b o x y z) (hb : Below w.heap.size w w') : E3 w' b o x y z := ⟨(hb.cell h.lt).trans h.1,(hb.cell h.lt).trans h.2.1,(hb.cell h.lt).trans h.2.2⟩
theorem E3.other3 {w : World} {R b o : Nat} {x y z : Value} (h : E3 w b o x y z) (hne : b ≠ R) (x' y' z' : Value) : E3 (((w.setCell ⟨R,0,none⟩ x').setCell ⟨R,1,none⟩ y').setCell ⟨R,2,none⟩ z') b o x y z :=
 ⟨set_cell_block (set_cell_block (set_cell_block h.1 hne) hne) hne,set_cell_block (set_cell_block (set_cell_block h.2.1 hne) hne) hne,set_cell_block (set_cell_block (set_cell_block h.2.2 hne) hne) hne⟩

def FRow (w : World) (v : Value) (n : Nat) (q : Nat → Rat) : Prop := ∃ el,RowAt 3 w v n el ∧ ∀ i,i < n → RepQ w (.agg #[el i 0,el i 1,el i 2]) (q i)
theorem FRow.below {w w' : World} {v : Value} {n : Nat} {q : Nat → Rat} (h : FRow w v n q) (hb : Below w.heap.size w w') : FRow w' v n q := by
 obtain ⟨el,h1,h2⟩ := h
 exact ⟨el,h1.below hb,fun i hi => (h2 i hi).below hb⟩
theorem FRow.at {w : World} {v : Value} {n : Nat} {q : Nat → Rat} (h : FRow w v n q) (i : Nat) (hi : i < n) :
  ∃ b off c p ao m d bo k e,v = .slice (some ⟨b,off,none⟩) n c ∧ n ≤ c ∧ E3 w b (off + i * 3) (.bool p) (.slice ao m d) (.slice bo k e) ∧ RepQ w (.agg #[.bool p,.slice ao m d,.slice bo k e]) (q i) := by
 obtain ⟨el,⟨a,c,h1,h2,h3,h4⟩,h5⟩ := h
 obtain ⟨b,off,rfl,hc⟩ := h4 (by omega)
 have hq := h5 i hi
 obtain ⟨p,ao,m,d,bo,k,e,he⟩ := hq.open
 rw [he] at hq
 simp only [Value.agg.injEq,Array.mk.injEq,List.cons.injEq,and_true] at he
 have c0 := hc i hi 0 (by omega)
 have c1 := hc i hi 1 (by omega)
 have c2 := hc i hi 2 (by omega)
 rw [he.1] at c0
 rw [he.2.1] at c1
 rw [he.2.2] at c2
 exact ⟨b,off,c,p,ao,m,d,bo,k,e,h1,h2,⟨c0,c1,c2⟩,hq⟩
theorem FRow.open {w : World} {v : Value} {n : Nat} {q : Nat → Rat} (h : FRow w v n q) : ∃ a c,v = .slice a n c := by
 obtain ⟨el,⟨a,c,h1,_⟩,_⟩ := h; exact ⟨a,c,h1⟩
def FOwn (B : Nat) (w : World) (v : Value) (n : Nat) (q : Nat → Rat) : Prop :=
 ∃ (us : List Value) (el : Nat → Nat → Value),w.ownsRow B 27 3 v n us ∧ (∀ g,v.ownBlock = some g → PureB IsNum w g) ∧ (∀ i,i < n → ∀ j,j < 3 → us[i * 3 + j]? = some (el i j)) ∧ ∀ i,i < n → RepQ w (.agg #[el i 0,el i 1,el i 2]) (q i)
theorem FOwn.row {B : Nat} {w : World} {v : Value} {n : Nat} {q : Nat → Rat} (h : FOwn B w v n q) : FRow w v n q := by
 obtain ⟨us,el,h1,_,h3,h4⟩ := h
 exact ⟨el,RowAt.of_owns h1 h3,h4⟩
theorem FOwn.nil (B : Nat) (w : World) (q : Nat → Rat) : FOwn B w (.slice none 0 0) 0 q :=
 ⟨[],fun _ _ => .bool false,World.ownsRow_nil _ _ _ _,fun g h => (by cases h),fun i hi => (by omega),fun i hi => (by omega)⟩
theorem FOwn.below {B : Nat} {w w' : World} {v : Value} {n : Nat} {q : Nat → Rat} (h : FOwn B w v n q) (hb : Below w.heap.size w w') : FOwn B w' v n q := by
 obtain ⟨us,el,h1,h2,h3,h4⟩ := h
 exact ⟨us,el,owns_later h1 hb,fun g hg => (h2 g hg).below hb (h1.lt g hg).2,h3,fun i hi => (h4 i hi).below hb⟩
theorem FOwn.other {B : Nat} {w w' : World} {v : Value} {n : Nat} {q : Nat → Rat} {row : Option Nat} (h : FOwn B w v n q) (hg : w.grownBy w' row) (hk : KeepQ IsNum w w') (hne : ∀ g,row = some g → g < B) : FOwn B w' v n q := by
 obtain ⟨us,el,h1,h2,h3,h4⟩ := h
 have hv : ∀ g,v.ownBlock = some g → some g ≠ row := fun g hg e => by have := (h1.lt g hg).1; have := hne g e.symm; omega
 refine ⟨us,el,h1.kept hg ?_,fun g hgg o u hu => h2 g hgg o u ?_,h3,fun i hi => (h4 i hi).keep hk⟩
 ·cases hb : v.ownBlock with
  | none => exact .inl rfl
  | some g => exact .inr (hv g hb)
 ·rw [← World.cell?_of_block (w := w) (hg.block g (h1.lt g hgg).2 (hv g hgg))]; exact hu
theorem FOwn.more {B : Nat} {w w' : World} {n g' cap' : Nat} {q : Nat → Rat} {us : List Value} {el : Nat → Nat → Value} {x0 x1 x2 : Value} (h1 : w'.ownsRow B 27 3 (.slice (some ⟨g',0,none⟩) (n + 1) cap') (n + 1) (us ++ [x0,x1,x2]))
  (hp : PureB IsNum w' g') (hl : us.length = n * 3) (h3 : ∀ i,i < n → ∀ j,j < 3 → us[i * 3 + j]? = some (el i j)) (h4 : ∀ i,i < n → RepQ w (.agg #[el i 0,el i 1,el i 2]) (q i)) (hx : RepQ w (.agg #[x0,x1,x2]) (q n)) (hk : KeepQ IsNum w w') :
  FOwn B w' (.slice (some ⟨g',0,none⟩) (n + 1) cap') (n + 1) q := by
 refine ⟨_,fun i j => if i < n then el i j else if j = 0 then x0 else if j = 1 then x1 else x2,h1,fun g hg => by simp only [Value.ownBlock,Option.some.injEq] at hg; subst hg; exact hp,fun i hi j hj => ?_,fun i hi => ?_⟩
 ·by_cases hin : i < n
  ·show _ = some (if i < n then el i j else if j = 0 then x0 else if j = 1 then x1 else x2)
   rw [if_pos hin,List.getElem?_append_left (by omega)]; exact h3 i hin j hj
  ·obtain rfl : i = n := by omega
   show _ = some (if i < i then el i j else if j = 0 then x0 else if j = 1 then x1 else x2)
   rw [if_neg hin,List.getElem?_append_right (by omega),hl,Nat.add_sub_cancel_left]
   rcases (show j = 0 ∨ j = 1 ∨ j = 2 by omega) with rfl | rfl | rfl <;> rfl
 ·by_cases hin : i < n
  ·simp only [if_pos hin]; exact (h4 i hin).keep hk
  ·obtain rfl : i = n := by omega
   simp only [if_neg hin]; exact hx.keep hk
theorem FOwn.otherL {B : Nat} {w w' : World} {v : Value} {n : Nat} {q : Nat → Rat} {row : Option Nat} (h : FOwn B w v n q) (hg : w.grownBy w' row) (hk : KeepQ IsLimb w w') (hne : ∀ g,row = some g → g < B) : FOwn B w' v n q := by
 obtain ⟨us,el,h1,h2,h3,h4⟩ := h
 have hv : ∀ g,v.ownBlock = some g → some g ≠ row := fun g hg e => by have := (h1.lt g hg).1; have := hne g e.symm; omega
 refine ⟨us,el,h1.kept hg ?_,fun g hgg o u hu => h2 g hgg o u ?_,h3,fun i hi => (h4 i hi).keepL hk⟩
 ·cases hb : v.ownBlock with
  | none => exact .inl rfl
  | some g => exact .inr (hv g hb)
 ·rw [← World.cell?_of_block (w := w) (hg.block g (h1.lt g hgg).2 (hv g hgg))]; exact hu
def BuiltQ (B : Nat) (w : World) (v : Value) (q : Rat) : Prop := ∃ R p ao n c bo m d,v = .slice (some ⟨R,0,none⟩) 1 1 ∧ B ≤ R ∧ V3 w R (.bool p) (.slice ao n c) (.slice bo m d) ∧ RepQ w (.agg #[.bool p,.slice ao n c,.slice bo m d]) q
theorem BuiltQ.below {B : Nat} {w w' : World} {v : Value} {q : Rat} (h : BuiltQ B w v q) (hb : Below w.heap.size w w') : BuiltQ B w' v q := let ⟨R,p,ao,n,c,bo,m,d,e2,hB,hv,hq⟩ := h; ⟨R,p,ao,n,c,bo,m,d,e2,hB,hv.below hb,hq.below hb⟩
def FFar (B : Nat) (w : World) (v : Value) (n : Nat) (q : Nat → Rat) : Prop := FRow w v n q ∧ ∀ b off c,v = .slice (some ⟨b,off,none⟩) n c → 0 < n → b < B
theorem FRow.ffar {w : World} {v : Value} {n : Nat} {q : Nat → Rat} (h : FRow w v n q) : FFar w.heap.size w v n q := by
 refine ⟨h,fun b off c e hn => ?_⟩
 obtain ⟨el,⟨a,c',h1,h2,h3,h4⟩,_⟩ := h
 obtain ⟨b',off',e2,hc⟩ := h4 hn
 rw [h1,e2] at e
 simp only [Value.slice.injEq,Option.some.injEq,Addr.mk.injEq] at e
 obtain ⟨⟨rfl,_⟩,_⟩ := e
 exact World.block_lt_of_cell? _ _ (hc 0 hn 0 (by omega))
theorem FFar.below {B : Nat} {w w' : World} {v : Value} {n : Nat} {q : Nat → Rat} (h : FFar B w v n q) (hb : Below w.heap.size w w') : FFar B w' v n q := ⟨h.1.below hb,h.2⟩
theorem FFar.other {B : Nat} {w w' : World} {v : Value} {n : Nat} {q : Nat → Rat} {row : Option Nat} (h : FFar B w v n q) (hg : w.grownBy w' row) (hk : KeepQ IsNum w w') (hne : ∀ g,row = some g → B ≤ g) : FFar B w' v n q := by
 obtain ⟨⟨el,⟨a,c,h1,h2,h3,h4⟩,h5⟩,h6⟩ := h
 refine ⟨⟨el,⟨a,c,h1,h2,h3,fun hn => ?_⟩,fun i hi => (h5 i hi).keep hk⟩,h6⟩
 obtain ⟨b,off,e,hc⟩ := h4 hn
 have hlt := h6 b off c (by rw [h1,e]) hn
 exact ⟨b,off,e,fun i hi j hj => (World.cell?_of_block (w := w) (hg.block b (World.block_lt_of_cell? _ _ (hc i hi j hj)) (fun e' => by have := hne b e'.symm; omega))).trans (hc i hi j hj)⟩
theorem FOwn.both {B : Nat} {w : World} {v : Value} {n : Nat} {q : Nat → Rat} (h : FOwn B w v n q) (g : Nat) (hg : v.ownBlock = some g) : B ≤ g ∧ g < w.heap.size := by
 obtain ⟨us,el,h1,_⟩ := h
 exact h1.lt g hg
theorem FOwn.far {B : Nat} {w w' : World} {v : Value} {n : Nat} {q : Nat → Rat} {R : Nat} (h : FOwn B w v n q) (hg : w.grownBy w' (some R)) (hk : KeepQ IsNum w w') (hne : ∀ g,v.ownBlock = some g → g ≠ R) : FOwn B w' v n q := by
 obtain ⟨us,el,h1,h2,h3,h4⟩ := h
 have hv : ∀ g,v.ownBlock = some g → some g ≠ some R := fun g hg e => hne g hg (by injection e)
 refine ⟨us,el,h1.kept hg ?_,fun g hgg o u hu => h2 g hgg o u ?_,h3,fun i hi => (h4 i hi).keep hk⟩
 ·cases hb : v.ownBlock with
  | none => exact .inl rfl
  | some g => exact .inr (hv g hb)
 ·rw [← World.cell?_of_block (w := w) (hg.block g (h1.lt g hgg).2 (hv g hgg))]; exact hu
end Go.Proofs.YtpgioggbepdjpaaGreatDoor
