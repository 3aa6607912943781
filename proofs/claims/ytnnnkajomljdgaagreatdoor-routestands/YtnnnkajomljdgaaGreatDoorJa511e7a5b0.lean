/-
  Texts of mine, joined: what lies beneath the statement.
-/
import Derived.Test.YtnnnkajomljdgaaGreatDoorJ91fde073c1
import Derived.Test.YtnnnkajomljdgaaGreatDoorJa56a89cb74
import Derived.Deep.RegionHeld3
import Derived.Deep.RegionWith
namespace Go.Proofs.YtnnnkajomljdgaaGreatDoor
open Go.RowKit
set_option linter.unusedVariables false

/-- A variable for a struct of two cells that may be written, and what it holds. -/
def V2 (w : World) (R : Nat) (x y : Value) : Prop := w.cell? ⟨R, 0, none⟩ = some x ∧ w.cell? ⟨R, 1, none⟩ = some y ∧ w.frozen? ⟨R, 0, none⟩ = false ∧ w.frozen? ⟨R, 1, none⟩ = false
theorem V2.later {w w' : World} {R : Nat} {x y : Value} (h : V2 w R x y) (hb : Below w.heap.size w w') : V2 w' R x y := keepW hb (Nat.le_refl _) h
theorem V2.same {w : World} {R : Nat} {x y : Value} (h : V2 w R x y) (x' y' : Value) : V2 ((w.setCell ⟨R, 0, none⟩ x').setCell ⟨R, 1, none⟩ y') R x' y' := put2_same h
theorem V2.other {w : World} {R R' : Nat} {x y : Value} (h : V2 w R' x y) (hne : R' ≠ R) (x' y' : Value) : V2 ((w.setCell ⟨R, 0, none⟩ x').setCell ⟨R, 1, none⟩ y') R' x y := put2_other hne h
theorem V2.lay (w : World) (t : TypeId) (x y : Value) : ∃ W, W = w.alloc (.cells #[x, y] t) ∧ W.heap.size = w.heap.size + 1 ∧ Below w.heap.size w W ∧ V2 W w.heap.size x y :=
 ⟨_, rfl, by simp, (Below.refl _ _).alloc (Nat.le_refl _) _, resW w t x y⟩

theorem V2.below {w w' : World} {R : Nat} {x y : Value} (h : V2 w R x y) (hb : Below w.heap.size w w') : V2 w' R x y := h.later hb
theorem V2.lt {w : World} {R : Nat} {x y : Value} (h : V2 w R x y) : R < w.heap.size := World.block_lt_of_cell? _ _ h.1
theorem keep_set {w : World} {a : Addr} {old : Value} (h : w.cell? a = some old) (hn : ¬ IsNum old) (x : Value) : KeepQ IsNum w (w.setCell a x) := by
 intro b o v hv hc
 rw [World.cell?_setCell_other _ _ _ _ (fun e => by rw [← e, h] at hc; cases hc; exact hn hv)]
 exact hc
/-- What stands in a variable of bools, slices and the like. -/
theorem V2.keep {w : World} {R : Nat} {x y : Value} (h : V2 w R x y) (hx : ¬ IsNum x) (hy : ¬ IsNum y) (x' y' : Value) : KeepQ IsNum w ((w.setCell ⟨R, 0, none⟩ x').setCell ⟨R, 1, none⟩ y') := by
 refine (keep_set h.1 hx x').trans (keep_set (old := y) ?_ hy y')
 rw [World.cell?_setCell_other _ _ _ _ (fun e => by injection e; omega)]; exact h.2.1
theorem V2.keepJ {w : World} {R : Nat} {p : Bool} {ao : Option Addr} {n c : Nat} (h : V2 w R (.bool p) (.slice ao n c)) (x' y' : Value) : KeepQ IsNum w ((w.setCell ⟨R, 0, none⟩ x').setCell ⟨R, 1, none⟩ y') :=
 h.keep (num_bool _) (num_slice _ _ _) x' y'
theorem RepI.keep {w w' : World} {v : Value} {z : Int} (h : RepI w v z) (hk : KeepQ IsNum w w') : RepI w' v z := by
 obtain ⟨ao, c, h1, h2⟩ := h
 exact ⟨ao, c, h1, Nums.keep h2 hk⟩
theorem RepJ.keep {w w' : World} {v : Value} {z : Int} (h : RepJ w v z) (hk : KeepQ IsNum w w') : RepJ w' v z := by
 obtain ⟨ao, c, h1, h2⟩ := h
 exact ⟨ao, c, h1, Nums.keep h2 hk⟩
theorem IntAt.keep {w w' : World} {v : Value} {z : Int} {L : Nat} (h : IntAt w v z L) (hk : KeepQ IsNum w w') : IntAt w' v z L := by
 obtain ⟨neg, ao, n, c, f, h1, h2, h3⟩ := h
 exact ⟨neg, ao, n, c, f, h1, Nums.keep h2 hk, h3⟩
theorem Raw.keep {w w' : World} {v : Value} {n : Nat} {f : Nat → Int} (h : Raw w v n f) (hk : KeepQ IsNum w w') : Raw w' v n f := by
 obtain ⟨ao, c, h1, h2, h3, h4, h5, h6⟩ := h
 exact ⟨ao, c, h1, h2, h3, h4, h5, fun hn => let ⟨b, off, e, hc⟩ := h6 hn; ⟨b, off, e, fun i hi => hk _ _ _ ⟨_, _, rfl⟩ (hc i hi)⟩⟩

/-- A variable for a struct of three cells that may be written, and what it holds. -/
def V3 (w : World) (R : Nat) (x y z : Value) : Prop := w.cell? ⟨R, 0, none⟩ = some x ∧ w.cell? ⟨R, 1, none⟩ = some y ∧ w.cell? ⟨R, 2, none⟩ = some z ∧ w.frozen? ⟨R, 0, none⟩ = false ∧ w.frozen? ⟨R, 1, none⟩ = false ∧ w.frozen? ⟨R, 2, none⟩ = false
theorem V3.lt {w : World} {R : Nat} {x y z : Value} (h : V3 w R x y z) : R < w.heap.size := World.block_lt_of_cell? _ _ h.1
theorem V3.below {w w' : World} {R : Nat} {x y z : Value} (h : V3 w R x y z) (hb : Below w.heap.size w w') : V3 w' R x y z := by
 have hl := h.lt
 obtain ⟨h1, h2, h3, h4, h5, h6⟩ := h
 exact ⟨(hb.cell hl).trans h1, (hb.cell hl).trans h2, (hb.cell hl).trans h3, (hb.frozen hl).trans h4, (hb.frozen hl).trans h5, (hb.frozen hl).trans h6⟩
theorem V3.lay (w : World) (t : TypeId) (x y z : Value) : ∃ W, W = w.alloc (.cells #[x, y, z] t) ∧ W.heap.size = w.heap.size + 1 ∧ Below w.heap.size w W ∧ V3 W w.heap.size x y z := by
 refine ⟨_, rfl, by simp, (Below.refl _ _).alloc (Nat.le_refl _) _, ?_⟩
 have hb := heap_alloc_new w (.cells #[x, y, z] t)
 refine ⟨?_, ?_, ?_, ?_, ?_, ?_⟩
 ·rw [cell_of_row _ _ _ _ _ _ hb]; rfl
 ·rw [cell_of_row _ _ _ _ _ _ hb]; rfl
 ·rw [cell_of_row _ _ _ _ _ _ hb]; rfl
 all_goals (simp only [World.frozen?]; rw [hb]; simp)
/-- A variable of two cells, of three cells, set. -/
abbrev World.set2 (w : World) (R : Nat) (x y : Value) : World := (w.setCell ⟨R, 0, none⟩ x).setCell ⟨R, 1, none⟩ y
theorem V3.keep {w : World} {R : Nat} {x y z : Value} (h : V3 w R x y z) (hx : ¬ IsNum x) (hy : ¬ IsNum y) (hz : ¬ IsNum z) (x' y' z' : Value) : KeepQ IsNum w (((w.setCell ⟨R, 0, none⟩ x').setCell ⟨R, 1, none⟩ y').setCell ⟨R, 2, none⟩ z') := by
 refine ((keep_set h.1 hx x').trans (keep_set (old := y) ?_ hy y')).trans (keep_set (old := z) ?_ hz z')
 ·rw [World.cell?_setCell_other _ _ _ _ (fun e => by injection e; omega)]; exact h.2.1
 ·rw [World.cell?_setCell_other _ _ _ _ (fun e => by injection e; omega), World.cell?_setCell_other _ _ _ _ (fun e => by injection e; omega)]; exact h.2.2.1
theorem V3.keepJ {w : World} {R : Nat} {p : Bool} {ao bo : Option Addr} {n c m d : Nat} (h : V3 w R (.bool p) (.slice ao n c) (.slice bo m d)) (x' y' z' : Value) : KeepQ IsNum w (((w.setCell ⟨R, 0, none⟩ x').setCell ⟨R, 1, none⟩ y').setCell ⟨R, 2, none⟩ z') :=
 h.keep (num_bool _) (num_slice _ _ _) (num_slice _ _ _) x' y' z'
theorem set_cell_block {w : World} {a b : Addr} {x u : Value} (h : w.cell? a = some u) (hne : a.block ≠ b.block) : (w.setCell b x).cell? a = some u := by
 rw [World.cell?_setCell_other _ _ _ _ (fun e => hne (by rw [e]))]; exact h
theorem V3.same {w : World} {R : Nat} {x y z : Value} (h : V3 w R x y z) (x' y' z' : Value) : V3 (((w.setCell ⟨R, 0, none⟩ x').setCell ⟨R, 1, none⟩ y').setCell ⟨R, 2, none⟩ z') R x' y' z' := by
 obtain ⟨h1, h2, h3, h4, h5, h6⟩ := h
 refine ⟨?_, ?_, ?_, by simp [h4], by simp [h5], by simp [h6]⟩
 ·rw [World.cell?_setCell_other _ _ _ _ (fun e => by injection e; omega), World.cell?_setCell_other _ _ _ _ (fun e => by injection e; omega)]; exact World.cell?_setCell_same _ _ _ h1
 ·rw [World.cell?_setCell_other _ _ _ _ (fun e => by injection e; omega)]
  exact World.cell?_setCell_same _ _ _ (show (w.setCell ⟨R, 0, none⟩ x').cell? ⟨R, 1, none⟩ = some y by rw [World.cell?_setCell_other _ _ _ _ (fun e => by injection e; omega)]; exact h2)
 ·exact World.cell?_setCell_same _ _ _ (show ((w.setCell ⟨R, 0, none⟩ x').setCell ⟨R, 1, none⟩ y').cell? ⟨R, 2, none⟩ = some z by
   rw [World.cell?_setCell_other _ _ _ _ (fun e => by injection e; omega), World.cell?_setCell_other _ _ _ _ (fun e => by injection e; omega)]; exact h3)
/-- Another variable was set. -/
theorem V3.other2 {w : World} {R R' : Nat} {x y z : Value} (h : V3 w R' x y z) (hne : R' ≠ R) (x' y' : Value) : V3 ((w.setCell ⟨R, 0, none⟩ x').setCell ⟨R, 1, none⟩ y') R' x y z := by
 obtain ⟨h1, h2, h3, h4, h5, h6⟩ := h
 exact ⟨set_cell_block (set_cell_block h1 hne) hne, set_cell_block (set_cell_block h2 hne) hne, set_cell_block (set_cell_block h3 hne) hne, by simp [h4], by simp [h5], by simp [h6]⟩
theorem V3.other3 {w : World} {R R' : Nat} {x y z : Value} (h : V3 w R' x y z) (hne : R' ≠ R) (x' y' z' : Value) : V3 (((w.setCell ⟨R, 0, none⟩ x').setCell ⟨R, 1, none⟩ y').setCell ⟨R, 2, none⟩ z') R' x y z := by
 obtain ⟨h1, h2, h3, h4, h5, h6⟩ := h
 exact ⟨set_cell_block (set_cell_block (set_cell_block h1 hne) hne) hne, set_cell_block (set_cell_block (set_cell_block h2 hne) hne) hne, set_cell_block (set_cell_block (set_cell_block h3 hne) hne) hne, by simp [h4], by simp [h5], by simp [h6]⟩
theorem V2.other3 {w : World} {R R' : Nat} {x y : Value} (h : V2 w R' x y) (hne : R' ≠ R) (x' y' z' : Value) : V2 (((w.setCell ⟨R, 0, none⟩ x').setCell ⟨R, 1, none⟩ y').setCell ⟨R, 2, none⟩ z') R' x y := by
 obtain ⟨h1, h2, h3, h4⟩ := h
 exact ⟨set_cell_block (set_cell_block (set_cell_block h1 hne) hne) hne, set_cell_block (set_cell_block (set_cell_block h2 hne) hne) hne, by simp [h3], by simp [h4]⟩
theorem below_store3 {B R : Nat} {w w' : World} (h : Below B w w') (hR : B ≤ R) (x y z : Value) : Below B w (((w'.setCell ⟨R, 0, none⟩ x).setCell ⟨R, 1, none⟩ y).setCell ⟨R, 2, none⟩ z) := ((h.setCell hR _).setCell hR _).setCell hR _

section
variable {P : Program} {ops : Array Oper} {Q : Exit → Act → World → Prop} {md : Region.Mode}

/-- i waits for j. -/
def waits (ops : Array Oper) : Nat → Nat → Nat → Bool
 | 0, _, _ => false
 | k + 1, i, j => ((ops[i]?).map fun o => o.after.any fun e => Region.binds .any e && (e.on == j || waits ops k e.on j)).getD false
end

/-- A new variable of three cells, of two cells. -/
def New3 (B : Nat) (w : World) (v x y z : Value) : Prop := ∃ R, v = .pointer (some ⟨R, 0, none⟩) ∧ B ≤ R ∧ V3 w R x y z
def New2 (B : Nat) (w : World) (v x y : Value) : Prop := ∃ R, v = .pointer (some ⟨R, 0, none⟩) ∧ B ≤ R ∧ V2 w R x y
theorem New3.below {B : Nat} {w w' : World} {v x y z : Value} (h : New3 B w v x y z) (hb : Below w.heap.size w w') : New3 B w' v x y z := let ⟨R, e, hB, hv⟩ := h; ⟨R, e, hB, hv.below hb⟩
theorem New2.below {B : Nat} {w w' : World} {v x y : Value} (h : New2 B w v x y) (hb : Below w.heap.size w w') : New2 B w' v x y := let ⟨R, e, hB, hv⟩ := h; ⟨R, e, hB, hv.below hb⟩

/-- A slice of n structs of k cells each: the j-th cell of the i-th holds el i j. -/
def RowAt (k : Nat) (w : World) (v : Value) (n : Nat) (el : Nat → Nat → Value) : Prop :=
 ∃ ao c, v = .slice ao n c ∧ n ≤ c ∧ c ≤ 9223372036854775807 ∧ (0 < n → ∃ b off, ao = some ⟨b, off, none⟩ ∧ ∀ i, i < n → ∀ j, j < k → w.cell? ⟨b, off + i * k + j, none⟩ = some (el i j))
theorem RowAt.below {k : Nat} {w w' : World} {v : Value} {n : Nat} {el : Nat → Nat → Value} (h : RowAt k w v n el) (hb : Below w.heap.size w w') : RowAt k w' v n el := by
 obtain ⟨ao, c, h1, h2, h3, h4⟩ := h
 exact ⟨ao, c, h1, h2, h3, fun hn => let ⟨b, off, e, hc⟩ := h4 hn; ⟨b, off, e, fun i hi j hj => (hb.cell (World.block_lt_of_cell? w _ (hc i hi j hj))).trans (hc i hi j hj)⟩⟩
theorem RowAt.nil (k : Nat) (w : World) (el : Nat → Nat → Value) : RowAt k w (.slice none 0 0) 0 el := ⟨none, 0, rfl, by omega, by omega, fun h => absurd h (by omega)⟩
/-- The first ones, and those behind them. -/
theorem RowAt.cut {k : Nat} {w : World} {v : Value} {n : Nat} {el : Nat → Nat → Value} (h : RowAt k w v n el) (m : Nat) (h0 : 0 < m) (hm : m < n) :
  ∃ b off c, v = .slice (some ⟨b, off, none⟩) n c ∧ n ≤ c ∧ c ≤ 9223372036854775807 ∧ RowAt k w (.slice (some ⟨b, off, none⟩) m c) m el ∧ RowAt k w (.slice (some ⟨b, off + m * k, none⟩) (n - m) (c - m)) (n - m) (fun i => el (m + i)) := by
 obtain ⟨ao, c, h1, h2, h3, h4⟩ := h
 obtain ⟨b, off, rfl, hc⟩ := h4 (by omega)
 refine ⟨b, off, c, h1, h2, h3, ⟨_, _, rfl, by omega, h3, fun _ => ⟨b, off, rfl, fun i hi => hc i (by omega)⟩⟩, ⟨_, _, rfl, by omega, by omega, fun _ => ⟨b, _, rfl, fun i hi j hj => ?_⟩⟩⟩
 have := hc (m + i) (by omega) j hj
 rw [Nat.add_mul, ← Nat.add_assoc] at this
 exact this
theorem RowAt.of_owns {k : Nat} {w : World} {B : Nat} {e : TypeId} {v : Value} {n : Nat} {us : List Value} {el : Nat → Nat → Value} (h : w.ownsRow B e k v n us) (hel : ∀ i, i < n → ∀ j, j < k → us[i * k + j]? = some (el i j)) : RowAt k w v n el := by
 rcases h.2 with ⟨rfl, rfl⟩ | ⟨g, cap, cur, rfl, hb, hg, hnc, hcm, rest⟩
 ·exact RowAt.nil _ _ _
 ·refine ⟨_, _, rfl, hnc, by unfold maxLen at hcm; omega, fun _ => ⟨g, 0, rfl, fun i hi j hj => ?_⟩⟩
  rw [Nat.zero_add]
  exact owns_cell h (hel i hi j hj)

end Go.Proofs.YtnnnkajomljdgaaGreatDoor

namespace Go.Proofs.YtnnnkajomljdgaaGreatDoor
open Go.RowKit
set_option linter.unusedVariables false
set_option linter.unusedSimpArgs false

/-- A slice of n whole numbers, each of at most L limbs. -/
def IRow (w : World) (v : Value) (n : Nat) (z : Nat → Int) (L : Nat) : Prop := ∃ el, RowAt 2 w v n el ∧ ∀ i, i < n → IntAt w (.agg #[el i 0, el i 1]) (z i) L
theorem IRow.below {w w' : World} {v : Value} {n : Nat} {z : Nat → Int} {L : Nat} (h : IRow w v n z L) (hb : Below w.heap.size w w') : IRow w' v n z L := by
 obtain ⟨el, h1, h2⟩ := h
 exact ⟨el, h1.below hb, fun i hi => (h2 i hi).below hb⟩
theorem IRow.cut {w : World} {v : Value} {n : Nat} {z : Nat → Int} {L : Nat} (h : IRow w v n z L) (m : Nat) (h0 : 0 < m) (hm : m < n) :
  ∃ b off c, v = .slice (some ⟨b, off, none⟩) n c ∧ n ≤ c ∧ c ≤ 9223372036854775807 ∧ IRow w (.slice (some ⟨b, off, none⟩) m c) m z L ∧ IRow w (.slice (some ⟨b, off + m * 2, none⟩) (n - m) (c - m)) (n - m) (fun i => z (m + i)) L := by
 obtain ⟨el, h1, h2⟩ := h
 obtain ⟨b, off, c, e, hc, hM, p1, p2⟩ := h1.cut m h0 hm
 exact ⟨b, off, c, e, hc, hM, ⟨el, p1, fun i hi => h2 i (by omega)⟩, ⟨_, p2, fun i hi => h2 (m + i) (by omega)⟩⟩
end Go.Proofs.YtnnnkajomljdgaaGreatDoor
