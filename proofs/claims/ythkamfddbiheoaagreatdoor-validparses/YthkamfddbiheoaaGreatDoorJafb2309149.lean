/-
  Texts of mine.
-/
import Derived.Test.YthkamfddbiheoaaGreatDoorJ029dc25d2b
import Derived.Test.YthkamfddbiheoaaGreatDoorJ839713949f
import Derived.Deep.SlicePairs
namespace Go.Proofs.YthkamfddbiheoaaGreatDoor
open Go.ChangeShapes Go.WideShapes Go.ChangeAt Go.RowKit
set_option linter.unusedVariables false

/-- A list of whole numbers as it comes in; z i is the i-th cut to K limbs. -/
def RawRow (w : World) (v : Value) (n : Nat) (z : Nat → Int) (K : Nat) : Prop :=
 ∃ el, RowAt 2 w v n el ∧ ∀ i, i < n → ∃ p ao m c f, el i 0 = .bool p ∧ el i 1 = .slice ao m c ∧ Raw w (.slice ao m c) m f ∧ z i = zof p (num f (min m K))
theorem RawRow.below {w w' : World} {v : Value} {n : Nat} {z : Nat → Int} {K : Nat} (h : RawRow w v n z K) (hb : Below w.heap.size w w') : RawRow w' v n z K := by
 obtain ⟨el, h1, h2⟩ := h
 exact ⟨el, h1.below hb, fun i hi => let ⟨p, ao, m, c, f, a, b, r, e⟩ := h2 i hi; ⟨p, ao, m, c, f, a, b, r.below hb, e⟩⟩
/-- The i-th of them. -/
theorem RawRow.at {w : World} {v : Value} {n : Nat} {z : Nat → Int} {K : Nat} (h : RawRow w v n z K) (i : Nat) (hi : i < n) :
  ∃ b off c p ao m d f, v = .slice (some ⟨b, off, none⟩) n c ∧ n ≤ c ∧ w.cell? ⟨b, off + i * 2, none⟩ = some (.bool p) ∧ w.cell? ⟨b, off + i * 2 + 1, none⟩ = some (.slice ao m d) ∧ Raw w (.slice ao m d) m f ∧ z i = zof p (num f (min m K)) := by
 obtain ⟨el, ⟨a, c, h1, h2, h3, h4⟩, h5⟩ := h
 obtain ⟨b, off, rfl, hc⟩ := h4 (by omega)
 obtain ⟨p, ao, m, d, f, e0, e1, r, e⟩ := h5 i hi
 have c0 := hc i hi 0 (by omega)
 have c1 := hc i hi 1 (by omega)
 rw [e0] at c0
 rw [e1] at c1
 exact ⟨b, off, c, p, ao, m, d, f, h1, h2, c0, c1, r, e⟩
/-- A row of the call's own of whole numbers, each of at most L limbs. -/
def IOwn (B : Nat) (w : World) (v : Value) (n : Nat) (z : Nat → Int) (L : Nat) : Prop :=
 ∃ (us : List Value) (el : Nat → Nat → Value), w.ownsRow B 42 2 v n us ∧ (∀ g, v.ownBlock = some g → PureB IsNum w g) ∧ (∀ i, i < n → ∀ j, j < 2 → us[i * 2 + j]? = some (el i j)) ∧ ∀ i, i < n → IntAt w (.agg #[el i 0, el i 1]) (z i) L
theorem IOwn.row {B : Nat} {w : World} {v : Value} {n : Nat} {z : Nat → Int} {L : Nat} (h : IOwn B w v n z L) : IRow w v n z L := by
 obtain ⟨us, el, h1, _, h3, h4⟩ := h
 exact ⟨el, RowAt.of_owns h1 h3, h4⟩
theorem IOwn.nil (B : Nat) (w : World) (z : Nat → Int) (L : Nat) : IOwn B w (.slice none 0 0) 0 z L :=
 ⟨[], fun _ _ => .bool false, World.ownsRow_nil _ _ _ _, fun g h => (by cases h), fun i hi => (by omega), fun i hi => (by omega)⟩
theorem IOwn.below {B : Nat} {w w' : World} {v : Value} {n : Nat} {z : Nat → Int} {L : Nat} (h : IOwn B w v n z L) (hb : Below w.heap.size w w') : IOwn B w' v n z L := by
 obtain ⟨us, el, h1, h2, h3, h4⟩ := h
 exact ⟨us, el, owns_later h1 hb, fun g hg => (h2 g hg).below hb (h1.lt g hg).2, h3, fun i hi => (h4 i hi).below hb⟩
/-- Something else was set. -/
theorem IOwn.other {B : Nat} {w w' : World} {v : Value} {n : Nat} {z : Nat → Int} {L : Nat} {row : Option Nat} (h : IOwn B w v n z L) (hg : w.grownBy w' row) (hk : KeepQ IsNum w w') (hne : ∀ g, row = some g → g < B) : IOwn B w' v n z L := by
 obtain ⟨us, el, h1, h2, h3, h4⟩ := h
 have hv : ∀ g, v.ownBlock = some g → some g ≠ row := fun g hg e => by have := (h1.lt g hg).1; have := hne g e.symm; omega
 refine ⟨us, el, h1.kept hg ?_, fun g hgg o u hu => h2 g hgg o u ?_, h3, fun i hi => (h4 i hi).keep hk⟩
 ·cases hb : v.ownBlock with
  | none => exact .inl rfl
  | some g => exact .inr (hv g hb)
 ·rw [← World.cell?_of_block (w := w) (hg.block g (h1.lt g hgg).2 (hv g hgg))]; exact hu
theorem IOwn.more {B : Nat} {w w' : World} {n g' cap' : Nat} {z : Nat → Int} {L : Nat} {us : List Value} {el : Nat → Nat → Value} {x0 x1 : Value} (h1 : w'.ownsRow B 42 2 (.slice (some ⟨g', 0, none⟩) (n + 1) cap') (n + 1) (us ++ [x0, x1]))
  (hp : PureB IsNum w' g') (hl : us.length = n * 2) (h3 : ∀ i, i < n → ∀ j, j < 2 → us[i * 2 + j]? = some (el i j)) (h4 : ∀ i, i < n → IntAt w (.agg #[el i 0, el i 1]) (z i) L) (hx : IntAt w (.agg #[x0, x1]) (z n) L) (hk : KeepQ IsNum w w') :
  IOwn B w' (.slice (some ⟨g', 0, none⟩) (n + 1) cap') (n + 1) z L := by
 refine ⟨_, fun i j => if i < n then el i j else if j = 0 then x0 else x1, h1, fun g hg => by simp only [Value.ownBlock, Option.some.injEq] at hg; subst hg; exact hp, fun i hi j hj => ?_, fun i hi => ?_⟩
 ·by_cases hin : i < n
  ·show _ = some (if i < n then el i j else if j = 0 then x0 else x1)
   rw [if_pos hin, List.getElem?_append_left (by omega)]; exact h3 i hin j hj
  ·obtain rfl : i = n := by omega
   show _ = some (if i < i then el i j else if j = 0 then x0 else x1)
   rw [if_neg hin, List.getElem?_append_right (by omega), hl, Nat.add_sub_cancel_left]
   rcases (show j = 0 ∨ j = 1 by omega) with rfl | rfl <;> rfl
 ·by_cases hin : i < n
  ·simp only [if_pos hin]; exact (h4 i hin).keep hk
  ·obtain rfl : i = n := by omega
   simp only [if_neg hin]; exact hx.keep hk
theorem V2.grown {w w' : World} {R : Nat} {x y : Value} {row : Option Nat} (h : V2 w R x y) (hg : w.grownBy w' row) (hne : some R ≠ row) : V2 w' R x y := by
 have hb := hg.block R h.lt hne
 exact ⟨(World.cell?_of_block (w := w) hb).trans h.1, (World.cell?_of_block (w := w) hb).trans h.2.1, (World.frozen?_of_block (w := w) hb).trans h.2.2.1, (World.frozen?_of_block (w := w) hb).trans h.2.2.2⟩

end Go.Proofs.YthkamfddbiheoaaGreatDoor
