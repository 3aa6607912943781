/-
  Texts of mine.
-/
import Derived.Test.YthkamfddbiheoaaGreatDoorJ8f906ac881
import Derived.Test.YthkamfddbiheoaaGreatDoorJafb2309149
namespace Go.Proofs.YthkamfddbiheoaaGreatDoor
open Go.RowKit
set_option linter.unusedVariables false

/-- A row of the call's own of rational numbers, each of at most L limbs above and below. -/
def QOwn (B : Nat) (w : World) (v : Value) (n : Nat) (q : Nat → Rat) (L : Nat) : Prop :=
 ∃ (us : List Value) (el : Nat → Nat → Value), w.ownsRow B 44 3 v n us ∧ (∀ g, v.ownBlock = some g → PureB IsNum w g) ∧ (∀ i, i < n → ∀ j, j < 3 → us[i * 3 + j]? = some (el i j)) ∧ ∀ i, i < n → RatAt w (.agg #[el i 0, el i 1, el i 2]) (q i) L
theorem QOwn.row {B : Nat} {w : World} {v : Value} {n : Nat} {q : Nat → Rat} {L : Nat} (h : QOwn B w v n q L) : QRow w v n q L := by
 obtain ⟨us, el, h1, _, h3, h4⟩ := h
 exact ⟨el, RowAt.of_owns h1 h3, h4⟩
theorem QOwn.nil (B : Nat) (w : World) (q : Nat → Rat) (L : Nat) : QOwn B w (.slice none 0 0) 0 q L :=
 ⟨[], fun _ _ => .bool false, World.ownsRow_nil _ _ _ _, fun g h => (by cases h), fun i hi => (by omega), fun i hi => (by omega)⟩
theorem QOwn.below {B : Nat} {w w' : World} {v : Value} {n : Nat} {q : Nat → Rat} {L : Nat} (h : QOwn B w v n q L) (hb : Below w.heap.size w w') : QOwn B w' v n q L := by
 obtain ⟨us, el, h1, h2, h3, h4⟩ := h
 exact ⟨us, el, owns_later h1 hb, fun g hg => (h2 g hg).below hb (h1.lt g hg).2, h3, fun i hi => (h4 i hi).below hb⟩
/-- Something else was set. -/
theorem QOwn.other {B : Nat} {w w' : World} {v : Value} {n : Nat} {q : Nat → Rat} {L : Nat} {row : Option Nat} (h : QOwn B w v n q L) (hg : w.grownBy w' row) (hk : KeepQ IsNum w w') (hne : ∀ g, row = some g → g < B) : QOwn B w' v n q L := by
 obtain ⟨us, el, h1, h2, h3, h4⟩ := h
 have hv : ∀ g, v.ownBlock = some g → some g ≠ row := fun g hg e => by have := (h1.lt g hg).1; have := hne g e.symm; omega
 refine ⟨us, el, h1.kept hg ?_, fun g hgg o u hu => h2 g hgg o u ?_, h3, fun i hi => (h4 i hi).keep hk⟩
 ·cases hb : v.ownBlock with
  | none => exact .inl rfl
  | some g => exact .inr (hv g hb)
 ·rw [← World.cell?_of_block (w := w) (hg.block g (h1.lt g hgg).2 (hv g hgg))]; exact hu
theorem QOwn.more {B : Nat} {w w' : World} {n g' cap' : Nat} {q : Nat → Rat} {L : Nat} {us : List Value} {el : Nat → Nat → Value} {x0 x1 x2 : Value} (h1 : w'.ownsRow B 44 3 (.slice (some ⟨g', 0, none⟩) (n + 1) cap') (n + 1) (us ++ [x0, x1, x2]))
  (hp : PureB IsNum w' g') (hl : us.length = n * 3) (h3 : ∀ i, i < n → ∀ j, j < 3 → us[i * 3 + j]? = some (el i j)) (h4 : ∀ i, i < n → RatAt w (.agg #[el i 0, el i 1, el i 2]) (q i) L) (hx : RatAt w (.agg #[x0, x1, x2]) (q n) L) (hk : KeepQ IsNum w w') :
  QOwn B w' (.slice (some ⟨g', 0, none⟩) (n + 1) cap') (n + 1) q L := by
 refine ⟨_, fun i j => if i < n then el i j else if j = 0 then x0 else if j = 1 then x1 else x2, h1, fun g hg => by simp only [Value.ownBlock, Option.some.injEq] at hg; subst hg; exact hp, fun i hi j hj => ?_, fun i hi => ?_⟩
 ·by_cases hin : i < n
  ·show _ = some (if i < n then el i j else if j = 0 then x0 else if j = 1 then x1 else x2)
   rw [if_pos hin, List.getElem?_append_left (by omega)]; exact h3 i hin j hj
  ·obtain rfl : i = n := by omega
   show _ = some (if i < i then el i j else if j = 0 then x0 else if j = 1 then x1 else x2)
   rw [if_neg hin, List.getElem?_append_right (by omega), hl, Nat.add_sub_cancel_left]
   rcases (show j = 0 ∨ j = 1 ∨ j = 2 by omega) with rfl | rfl | rfl <;> rfl
 ·by_cases hin : i < n
  ·simp only [if_pos hin]; exact (h4 i hin).keep hk
  ·obtain rfl : i = n := by omega
   simp only [if_neg hin]; exact hx.keep hk
theorem V3.grown {w w' : World} {R : Nat} {x y z : Value} {row : Option Nat} (h : V3 w R x y z) (hg : w.grownBy w' row) (hne : some R ≠ row) : V3 w' R x y z := by
 have hb := hg.block R h.lt hne
 obtain ⟨h1, h2, h3, h4, h5, h6⟩ := h
 exact ⟨(World.cell?_of_block (w := w) hb).trans h1, (World.cell?_of_block (w := w) hb).trans h2, (World.cell?_of_block (w := w) hb).trans h3, (World.frozen?_of_block (w := w) hb).trans h4, (World.frozen?_of_block (w := w) hb).trans h5, (World.frozen?_of_block (w := w) hb).trans h6⟩
/-- Three cells of a row. -/
def E3 (w : World) (b o : Nat) (x y z : Value) : Prop := w.cell? ⟨b, o, none⟩ = some x ∧ w.cell? ⟨b, o + 1, none⟩ = some y ∧ w.cell? ⟨b, o + 2, none⟩ = some z
theorem E3.lt {w : World} {b o : Nat} {x y z : Value} (h : E3 w b o x y z) : b < w.heap.size := World.block_lt_of_cell? _ _ h.1
theorem E3.below {w w' : World} {b o : Nat} {x y z : Value} (h : E3 w b o x y z) (hb : Below w.heap.size w w') : E3 w' b o x y z := ⟨(hb.cell h.lt).trans h.1, (hb.cell h.lt).trans h.2.1, (hb.cell h.lt).trans h.2.2⟩
theorem E3.other3 {w : World} {R b o : Nat} {x y z : Value} (h : E3 w b o x y z) (hne : b ≠ R) (x' y' z' : Value) : E3 (((w.setCell ⟨R, 0, none⟩ x').setCell ⟨R, 1, none⟩ y').setCell ⟨R, 2, none⟩ z') b o x y z :=
 ⟨set_cell_block (set_cell_block (set_cell_block h.1 hne) hne) hne, set_cell_block (set_cell_block (set_cell_block h.2.1 hne) hne) hne, set_cell_block (set_cell_block (set_cell_block h.2.2 hne) hne) hne⟩

/-- A variable of one cell that may be written, and what it holds. -/
def V1 (w : World) (R : Nat) (x : Value) : Prop := w.cell? ⟨R, 0, none⟩ = some x ∧ w.frozen? ⟨R, 0, none⟩ = false
theorem V1.lt {w : World} {R : Nat} {x : Value} (h : V1 w R x) : R < w.heap.size := World.block_lt_of_cell? _ _ h.1
theorem V1.below {w w' : World} {R : Nat} {x : Value} (h : V1 w R x) (hb : Below w.heap.size w w') : V1 w' R x := ⟨(hb.cell h.lt).trans h.1, (hb.frozen h.lt).trans h.2⟩
theorem V1.lay (w : World) (t : TypeId) (x : Value) : ∃ W, W = w.alloc (.cells #[x] t) ∧ W.heap.size = w.heap.size + 1 ∧ Below w.heap.size w W ∧ V1 W w.heap.size x := by
 refine ⟨_, rfl, by simp, (Below.refl _ _).alloc (Nat.le_refl _) _, ?_⟩
 have hb := heap_alloc_new w (.cells #[x] t)
 refine ⟨?_, ?_⟩
 ·rw [cell_of_row _ _ _ _ _ _ hb]; rfl
 ·simp only [World.frozen?]; rw [hb]; simp
theorem V1.same {w : World} {R : Nat} {x : Value} (h : V1 w R x) (x' : Value) : V1 (w.setCell ⟨R, 0, none⟩ x') R x' := ⟨World.cell?_setCell_same _ _ _ h.1, by simp [h.2]⟩
theorem V1.keep {w : World} {R : Nat} {x : Value} (h : V1 w R x) (hx : ¬ IsNum x) (x' : Value) : KeepQ IsNum w (w.setCell ⟨R, 0, none⟩ x') := keep_set h.1 hx x'
theorem V1.keepJ {w : World} {R : Nat} {ao : Option Addr} {n c : Nat} (h : V1 w R (.slice ao n c)) (x' : Value) : KeepQ IsNum w (w.setCell ⟨R, 0, none⟩ x') := h.keep (num_slice _ _ _) x'
theorem V1.other2 {w : World} {R R' : Nat} {x : Value} (h : V1 w R' x) (hne : R' ≠ R) (x' y' : Value) : V1 ((w.setCell ⟨R, 0, none⟩ x').setCell ⟨R, 1, none⟩ y') R' x := ⟨set_cell_block (set_cell_block h.1 hne) hne, by simp [h.2]⟩
theorem V1.other3 {w : World} {R R' : Nat} {x : Value} (h : V1 w R' x) (hne : R' ≠ R) (x' y' z' : Value) : V1 (((w.setCell ⟨R, 0, none⟩ x').setCell ⟨R, 1, none⟩ y').setCell ⟨R, 2, none⟩ z') R' x := ⟨set_cell_block (set_cell_block (set_cell_block h.1 hne) hne) hne, by simp [h.2]⟩

/-- A variable of four cells that may be written, and what it holds. -/
def V4 (w : World) (R : Nat) (x y z u : Value) : Prop := V3 w R x y z ∧ w.cell? ⟨R, 3, none⟩ = some u ∧ w.frozen? ⟨R, 3, none⟩ = false
theorem V4.lt {w : World} {R : Nat} {x y z u : Value} (h : V4 w R x y z u) : R < w.heap.size := h.1.lt
theorem V4.below {w w' : World} {R : Nat} {x y z u : Value} (h : V4 w R x y z u) (hb : Below w.heap.size w w') : V4 w' R x y z u :=
 ⟨h.1.below hb, (hb.cell (p := ⟨R, 3, none⟩) h.lt).trans h.2.1, (hb.frozen (p := ⟨R, 3, none⟩) h.lt).trans h.2.2⟩
theorem V4.lay (w : World) (t : TypeId) (x y z u : Value) : ∃ W, W = w.alloc (.cells #[x, y, z, u] t) ∧ W.heap.size = w.heap.size + 1 ∧ Below w.heap.size w W ∧ V4 W w.heap.size x y z u := by
 refine ⟨_, rfl, by simp, (Below.refl _ _).alloc (Nat.le_refl _) _, ?_⟩
 have hb := heap_alloc_new w (.cells #[x, y, z, u] t)
 refine ⟨⟨?_, ?_, ?_, ?_, ?_, ?_⟩, ?_, ?_⟩
 ·rw [cell_of_row _ _ _ _ _ _ hb]; rfl
 ·rw [cell_of_row _ _ _ _ _ _ hb]; rfl
 ·rw [cell_of_row _ _ _ _ _ _ hb]; rfl
 ·simp only [World.frozen?]; rw [hb]; simp
 ·simp only [World.frozen?]; rw [hb]; simp
 ·simp only [World.frozen?]; rw [hb]; simp
 ·rw [cell_of_row _ _ _ _ _ _ hb]; rfl
 ·simp only [World.frozen?]; rw [hb]; simp
theorem cell3_past {w : World} {R : Nat} {u : Value} (h : w.cell? ⟨R, 3, none⟩ = some u) (x y z : Value) : (((w.setCell ⟨R, 0, none⟩ x).setCell ⟨R, 1, none⟩ y).setCell ⟨R, 2, none⟩ z).cell? ⟨R, 3, none⟩ = some u := by
 rw [World.cell?_setCell_other _ _ _ _ (fun e => by injection e; omega), World.cell?_setCell_other _ _ _ _ (fun e => by injection e; omega), World.cell?_setCell_other _ _ _ _ (fun e => by injection e; omega)]; exact h
theorem V4.keep {w : World} {R : Nat} {x y z u : Value} (h : V4 w R x y z u) (hx : ¬ IsNum x) (hy : ¬ IsNum y) (hz : ¬ IsNum z) (hu : ¬ IsNum u) (x' y' z' u' : Value) : KeepQ IsNum w ((((w.setCell ⟨R, 0, none⟩ x').setCell ⟨R, 1, none⟩ y').setCell ⟨R, 2, none⟩ z').setCell ⟨R, 3, none⟩ u') :=
 (h.1.keep hx hy hz x' y' z').trans (keep_set (cell3_past h.2.1 x' y' z') hu u')
/-- A link: a row, and a number's three cells. -/
theorem V4.keepJ {w : World} {R : Nat} {p : Bool} {ao bo co : Option Addr} {n c m d k e : Nat} (h : V4 w R (.slice co k e) (.bool p) (.slice ao n c) (.slice bo m d)) (x' y' z' u' : Value) : KeepQ IsNum w ((((w.setCell ⟨R, 0, none⟩ x').setCell ⟨R, 1, none⟩ y').setCell ⟨R, 2, none⟩ z').setCell ⟨R, 3, none⟩ u') :=
 h.keep (num_slice _ _ _) (num_bool _) (num_slice _ _ _) (num_slice _ _ _) x' y' z' u'
theorem V4.same {w : World} {R : Nat} {x y z u : Value} (h : V4 w R x y z u) (x' y' z' u' : Value) : V4 ((((w.setCell ⟨R, 0, none⟩ x').setCell ⟨R, 1, none⟩ y').setCell ⟨R, 2, none⟩ z').setCell ⟨R, 3, none⟩ u') R x' y' z' u' := by
 obtain ⟨h1, h2, h3, h4, h5, h6⟩ := h.1.same x' y' z'
 refine ⟨⟨?_, ?_, ?_, by simp [h4], by simp [h5], by simp [h6]⟩, World.cell?_setCell_same _ _ _ (cell3_past h.2.1 x' y' z'), by simp [h.2.2]⟩
 ·rw [World.cell?_setCell_other _ _ _ _ (fun e => by injection e; omega)]; exact h1
 ·rw [World.cell?_setCell_other _ _ _ _ (fun e => by injection e; omega)]; exact h2
 ·rw [World.cell?_setCell_other _ _ _ _ (fun e => by injection e; omega)]; exact h3
theorem below_store4 {B R : Nat} {w w' : World} (h : Below B w w') (hR : B ≤ R) (x y z u : Value) : Below B w ((((w'.setCell ⟨R, 0, none⟩ x).setCell ⟨R, 1, none⟩ y).setCell ⟨R, 2, none⟩ z).setCell ⟨R, 3, none⟩ u) := (((h.setCell hR _).setCell hR _).setCell hR _).setCell hR _

end Go.Proofs.YthkamfddbiheoaaGreatDoor
