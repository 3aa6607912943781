/-
  Texts of mine.
-/
import Derived.Test.YthkamfddbiheoaaGreatDoorJ8ba87e95f0
import Derived.Test.YthkamfddbiheoaaGreatDoorJf527f16646
import Derived.Deep.RegionHeld3
import Derived.Deep.RegionWith
namespace Go.Proofs.YthkamfddbiheoaaGreatDoor
open Go.RowKit
set_option linter.unusedVariables false

/-- A variable for a struct of two cells that may be written, and what it holds. -/
def V2 (w : World) (R : Nat) (x y : Value) : Prop := w.cell? ⟨R, 0, none⟩ = some x ∧ w.cell? ⟨R, 1, none⟩ = some y ∧ w.frozen? ⟨R, 0, none⟩ = false ∧ w.frozen? ⟨R, 1, none⟩ = false
theorem V2.later {w w' : World} {R : Nat} {x y : Value} (h : V2 w R x y) (hb : Below w.heap.size w w') : V2 w' R x y := keepW hb (Nat.le_refl _) h
theorem V2.same {w : World} {R : Nat} {x y : Value} (h : V2 w R x y) (x' y' : Value) : V2 ((w.setCell ⟨R, 0, none⟩ x').setCell ⟨R, 1, none⟩ y') R x' y' := put2_same h
theorem V2.other {w : World} {R R' : Nat} {x y : Value} (h : V2 w R' x y) (hne : R' ≠ R) (x' y' : Value) : V2 ((w.setCell ⟨R, 0, none⟩ x').setCell ⟨R, 1, none⟩ y') R' x y := put2_other hne h
theorem V2.lay (w : World) (t : TypeId) (x y : Value) : ∃ W, W = w.alloc (.cells #[x, y] t) ∧ W.heap.size = w.heap.size + 1 ∧ Below w.heap.size w W ∧ V2 W w.heap.size x y :=
 ⟨_, rfl, by simp, (Below.refl _ _).alloc (Nat.le_refl _) _, resW w t x y⟩

theorem V2.below {w w' : World} {R : Nat} {x y : Value} (h : V2 w R x y) (hb : Below w.heap.size w w') : V2 w' R x y := h.later hb
theorem V2.lt {w : World} {R : Nat} {x y : Value} (h : V2 w R x y) : R < w.heap.size := World.block_lt_of_cell? _ _ h.1
theorem keep_set {w : World} {a : Addr} {old : Value} (h : w.cell? a = some old) (hn : ¬ IsNum old) (x : Value) : KeepQ IsNum w (w.setCell a x) := by
 intro b o v hv hc
 rw [World.cell?_setCell_other _ _ _ _ (fun e => by rw [← e, h] at hc; cases hc; exact hn hv)]
 exact hc
/-- What stands in a variable of bools, slices and the like. -/
theorem V2.keep {w : World} {R : Nat} {x y : Value} (h : V2 w R x y) (hx : ¬ IsNum x) (hy : ¬ IsNum y) (x' y' : Value) : KeepQ IsNum w ((w.setCell ⟨R, 0, none⟩ x').setCell ⟨R, 1, none⟩ y') := by
 refine (keep_set h.1 hx x').trans (keep_set (old := y) ?_ hy y')
 rw [World.cell?_setCell_other _ _ _ _ (fun e => by injection e; omega)]; exact h.2.1
theorem V2.keepJ {w : World} {R : Nat} {p : Bool} {ao : Option Addr} {n c : Nat} (h : V2 w R (.bool p) (.slice ao n c)) (x' y' : Value) : KeepQ IsNum w ((w.setCell ⟨R, 0, none⟩ x').setCell ⟨R, 1, none⟩ y') :=
 h.keep (num_bool _) (num_slice _ _ _) x' y'
theorem RepI.keep {w w' : World} {v : Value} {z : Int} (h : RepI w v z) (hk : KeepQ IsNum w w') : RepI w' v z := by
 obtain ⟨ao, c, h1, h2⟩ := h
 exact ⟨ao, c, h1, Nums.keep h2 hk⟩
theorem RepJ.keep {w w' : World} {v : Value} {z : Int} (h : RepJ w v z) (hk : KeepQ IsNum w w') : RepJ w' v z := by
 obtain ⟨ao, c, h1, h2⟩ := h
 exact ⟨ao, c, h1, Nums.keep h2 hk⟩
theorem IntAt.keep {w w' : World} {v : Value} {z : Int} {L : Nat} (h : IntAt w v z L) (hk : KeepQ IsNum w w') : IntAt w' v z L := by
 obtain ⟨neg, ao, n, c, f, h1, h2, h3⟩ := h
 exact ⟨neg, ao, n, c, f, h1, Nums.keep h2 hk, h3⟩
theorem Raw.keep {w w' : World} {v : Value} {n : Nat} {f : Nat → Int} (h : Raw w v n f) (hk : KeepQ IsNum w w') : Raw w' v n f := by
 obtain ⟨ao, c, h1, h2, h3, h4, h5, h6⟩ := h
 exact ⟨ao, c, h1, h2, h3, h4, h5, fun hn => let ⟨b, off, e, hc⟩ := h6 hn; ⟨b, off, e, fun i hi => hk _ _ _ ⟨_, _, rfl⟩ (hc i hi)⟩⟩

/-- A variable for a struct of three cells that may be written, and what it holds. -/
def V3 (w : World) (R : Nat) (x y z : Value) : Prop := w.cell? ⟨R, 0, none⟩ = some x ∧ w.cell? ⟨R, 1, none⟩ = some y ∧ w.cell? ⟨R, 2, none⟩ = some z ∧ w.frozen? ⟨R, 0, none⟩ = false ∧ w.frozen? ⟨R, 1, none⟩ = false ∧ w.frozen? ⟨R, 2, none⟩ = false
theorem V3.lt {w : World} {R : Nat} {x y z : Value} (h : V3 w R x y z) : R < w.heap.size := World.block_lt_of_cell? _ _ h.1
theorem V3.below {w w' : World} {R : Nat} {x y z : Value} (h : V3 w R x y z) (hb : Below w.heap.size w w') : V3 w' R x y z := by
 have hl := h.lt
 obtain ⟨h1, h2, h3, h4, h5, h6⟩ := h
 exact ⟨(hb.cell hl).trans h1, (hb.cell hl).trans h2, (hb.cell hl).trans h3, (hb.frozen hl).trans h4, (hb.frozen hl).trans h5, (hb.frozen hl).trans h6⟩
theorem V3.lay (w : World) (t : TypeId) (x y z : Value) : ∃ W, W = w.alloc (.cells #[x, y, z] t) ∧ W.heap.size = w.heap.size + 1 ∧ Below w.heap.size w W ∧ V3 W w.heap.size x y z := by
 refine ⟨_, rfl, by simp, (Below.refl _ _).alloc (Nat.le_refl _) _, ?_⟩
 have hb := heap_alloc_new w (.cells #[x, y, z] t)
 refine ⟨?_, ?_, ?_, ?_, ?_, ?_⟩
 ·rw [cell_of_row _ _ _ _ _ _ hb]; rfl
 ·rw [cell_of_row _ _ _ _ _ _ hb]; rfl
 ·rw [cell_of_row _ _ _ _ _ _ hb]; rfl
 all_goals (simp only [World.frozen?]; rw [hb]; simp)
theorem V3.keep {w : World} {R : Nat} {x y z : Value} (h : V3 w R x y z) (hx : ¬ IsNum x) (hy : ¬ IsNum y) (hz : ¬ IsNum z) (x' y' z' : Value) : KeepQ IsNum w (((w.setCell ⟨R, 0, none⟩ x').setCell ⟨R, 1, none⟩ y').setCell ⟨R, 2, none⟩ z') := by
 refine ((keep_set h.1 hx x').trans (keep_set (old := y) ?_ hy y')).trans (keep_set (old := z) ?_ hz z')
 ·rw [World.cell?_setCell_other _ _ _ _ (fun e => by injection e; omega)]; exact h.2.1
 ·rw [World.cell?_setCell_other _ _ _ _ (fun e => by injection e; omega), World.cell?_setCell_other _ _ _ _ (fun e => by injection e; omega)]; exact h.2.2.1
theorem V3.keepJ {w : World} {R : Nat} {p : Bool} {ao bo : Option Addr} {n c m d : Nat} (h : V3 w R (.bool p) (.slice ao n c) (.slice bo m d)) (x' y' z' : Value) : KeepQ IsNum w (((w.setCell ⟨R, 0, none⟩ x').setCell ⟨R, 1, none⟩ y').setCell ⟨R, 2, none⟩ z') :=
 h.keep (num_bool _) (num_slice _ _ _) (num_slice _ _ _) x' y' z'
theorem set_cell_block {w : World} {a b : Addr} {x u : Value} (h : w.cell? a = some u) (hne : a.block ≠ b.block) : (w.setCell b x).cell? a = some u := by
 rw [World.cell?_setCell_other _ _ _ _ (fun e => hne (by rw [e]))]; exact h
theorem V3.same {w : World} {R : Nat} {x y z : Value} (h : V3 w R x y z) (x' y' z' : Value) : V3 (((w.setCell ⟨R, 0, none⟩ x').setCell ⟨R, 1, none⟩ y').setCell ⟨R, 2, none⟩ z') R x' y' z' := by
 obtain ⟨h1, h2, h3, h4, h5, h6⟩ := h
 refine ⟨?_, ?_, ?_, by simp [h4], by simp [h5], by simp [h6]⟩
 ·rw [World.cell?_setCell_other _ _ _ _ (fun e => by injection e; omega), World.cell?_setCell_other _ _ _ _ (fun e => by injection e; omega)]; exact World.cell?_setCell_same _ _ _ h1
 ·rw [World.cell?_setCell_other _ _ _ _ (fun e => by injection e; omega)]
  exact World.cell?_setCell_same _ _ _ (show (w.setCell ⟨R, 0, none⟩ x').cell? ⟨R, 1, none⟩ = some y by rw [World.cell?_setCell_other _ _ _ _ (fun e => by injection e; omega)]; exact h2)
 ·exact World.cell?_setCell_same _ _ _ (show ((w.setCell ⟨R, 0, none⟩ x').setCell ⟨R, 1, none⟩ y').cell? ⟨R, 2, none⟩ = some z by
   rw [World.cell?_setCell_other _ _ _ _ (fun e => by injection e; omega), World.cell?_setCell_other _ _ _ _ (fun e => by injection e; omega)]; exact h3)
/-- Another variable was set. -/
theorem V3.other2 {w : World} {R R' : Nat} {x y z : Value} (h : V3 w R' x y z) (hne : R' ≠ R) (x' y' : Value) : V3 ((w.setCell ⟨R, 0, none⟩ x').setCell ⟨R, 1, none⟩ y') R' x y z := by
 obtain ⟨h1, h2, h3, h4, h5, h6⟩ := h
 exact ⟨set_cell_block (set_cell_block h1 hne) hne, set_cell_block (set_cell_block h2 hne) hne, set_cell_block (set_cell_block h3 hne) hne, by simp [h4], by simp [h5], by simp [h6]⟩
theorem V3.other3 {w : World} {R R' : Nat} {x y z : Value} (h : V3 w R' x y z) (hne : R' ≠ R) (x' y' z' : Value) : V3 (((w.setCell ⟨R, 0, none⟩ x').setCell ⟨R, 1, none⟩ y').setCell ⟨R, 2, none⟩ z') R' x y z := by
 obtain ⟨h1, h2, h3, h4, h5, h6⟩ := h
 exact ⟨set_cell_block (set_cell_block (set_cell_block h1 hne) hne) hne, set_cell_block (set_cell_block (set_cell_block h2 hne) hne) hne, set_cell_block (set_cell_block (set_cell_block h3 hne) hne) hne, by simp [h4], by simp [h5], by simp [h6]⟩
theorem V2.other3 {w : World} {R R' : Nat} {x y : Value} (h : V2 w R' x y) (hne : R' ≠ R) (x' y' z' : Value) : V2 (((w.setCell ⟨R, 0, none⟩ x').setCell ⟨R, 1, none⟩ y').setCell ⟨R, 2, none⟩ z') R' x y := by
 obtain ⟨h1, h2, h3, h4⟩ := h
 exact ⟨set_cell_block (set_cell_block (set_cell_block h1 hne) hne) hne, set_cell_block (set_cell_block (set_cell_block h2 hne) hne) hne, by simp [h3], by simp [h4]⟩
theorem below_store3 {B R : Nat} {w w' : World} (h : Below B w w') (hR : B ≤ R) (x y z : Value) : Below B w (((w'.setCell ⟨R, 0, none⟩ x).setCell ⟨R, 1, none⟩ y).setCell ⟨R, 2, none⟩ z) := ((h.setCell hR _).setCell hR _).setCell hR _

section
variable {P : Program} {ops : Array Oper} {Q : Exit → Act → World → Prop} {md : Region.Mode}

/-- How many of the first m have not come up. -/
def cntU (l : Array Bool) : Nat → Nat
 | 0 => 0
 | j + 1 => cntU l j + (if l.getD j true = true then 0 else 1)
theorem getD_set_other (l : Array Bool) (d : Bool) {i j : Nat} (h : i ≠ j) : (l.setIfInBounds i true).getD j d = l.getD j d := by
 simp only [Array.getD_eq_getD_getElem?, Array.getElem?_setIfInBounds_ne h]
theorem getD_set_self (l : Array Bool) (d : Bool) {i : Nat} (h : i < l.size) : (l.setIfInBounds i true).getD i d = true := by
 simp [Array.getD_eq_getD_getElem?, h]
theorem cnt_beyond (l : Array Bool) (i : Nat) : ∀ m, m ≤ i → cntU (l.setIfInBounds i true) m = cntU l m
 | 0, _ => rfl
 | m + 1, h => by
  show cntU (l.setIfInBounds i true) m + (if (l.setIfInBounds i true).getD m true = true then 0 else 1) = _
  rw [cnt_beyond l i m (by omega), getD_set_other l true (by omega)]; rfl
theorem cnt_set (l : Array Bool) (i : Nat) (hi : l.getD i true = false) : ∀ m, i < m → cntU (l.setIfInBounds i true) m + 1 = cntU l m
 | 0, h => by omega
 | m + 1, h => by
  have hs : i < l.size := by
   rcases Nat.lt_or_ge i l.size with g | g
   ·exact g
   ·simp [Array.getD_eq_getD_getElem?, g] at hi
  show cntU (l.setIfInBounds i true) m + (if (l.setIfInBounds i true).getD m true = true then 0 else 1) + 1 = cntU l m + (if l.getD m true = true then 0 else 1)
  by_cases e : i = m
  ·subst e
   rw [cnt_beyond l i i (Nat.le_refl _), getD_set_self l true hs, hi]; simp
  ·rw [getD_set_other l true e]
   have := cnt_set l i hi m (by omega)
   omega
theorem cnt_zero (l : Array Bool) : ∀ m, cntU l m = 0 → ∀ j, j < m → l.getD j true = true
 | 0, _, j, hj => by omega
 | m + 1, h, j, hj => by
  have h' : cntU l m + (if l.getD m true = true then 0 else 1) = 0 := h
  by_cases e : j = m
  ·subst e
   by_cases g : l.getD j true = true
   ·exact g
   ·rw [if_neg g] at h'; omega
  ·exact cnt_zero l m (by omega) j (by omega)
theorem cnt_some (l : Array Bool) : ∀ m, 0 < cntU l m → ∃ j, j < m ∧ l.getD j true = false ∧ ∀ k, k < j → l.getD k true = true
 | 0, h => absurd h (by show ¬ 0 < 0; omega)
 | m + 1, h => by
  by_cases g : 0 < cntU l m
  ·obtain ⟨j, h1, h2, h3⟩ := cnt_some l m g
   exact ⟨j, by omega, h2, h3⟩
  ·refine ⟨m, by omega, ?_, cnt_zero l m (by omega)⟩
   have h' : 0 < cntU l m + (if l.getD m true = true then 0 else 1) := h
   by_cases q : l.getD m true = true
   ·rw [if_pos q] at h'; omega
   ·simpa using q
/-- i waits for j. -/
def waits (ops : Array Oper) : Nat → Nat → Nat → Bool
 | 0, _, _ => false
 | k + 1, i, j => ((ops[i]?).map fun o => o.after.any fun e => Region.binds .any e && (e.on == j || waits ops k e.on j)).getD false
/-- What came up had what it waits for. -/
def DownC (ops : Array Oper) (l : Array Bool) : Prop := ∀ (i : Nat) (o : Oper), ops[i]? = some o → l.getD i false = true → ∀ e ∈ o.after, Region.binds .any e = true → l.getD e.on false = true
theorem waits_listed {l : Array Bool} (hd : DownC ops l) : ∀ (k i j : Nat), waits ops k i j = true → (∀ o, ops[i]? = some o → ∀ e ∈ o.after, Region.binds .any e = true → l.getD e.on false = true) → l.getD j false = true
 | 0, _, _, h, _ => by cases h
 | k + 1, i, j, h, hi => by
  unfold waits at h
  cases ho : ops[i]? with
  | none => rw [ho] at h; cases h
  | some o =>
   rw [ho] at h
   simp only [Option.map_some, Option.getD_some] at h
   rw [Array.any_eq_true'] at h
   obtain ⟨e, he, h3⟩ := h
   simp only [Bool.and_eq_true, Bool.or_eq_true, beq_iff_eq] at h3
   have h4 := hi o ho e he h3.1
   rcases h3.2 with g | g
   ·rw [← g]; exact h4
   ·exact waits_listed hd k e.on j g (fun o' ho' e' he' hb' => hd e.on o' ho' h4 e' he' hb')
/-- All edges go to what stands ahead; what stands from m on waits for all of the first m. -/
def shapely (ops : Array Oper) (m : Nat) : Bool :=
 ((List.range ops.size).all fun i => ((ops[i]?).map fun o => (o.after.all fun e => !Region.binds .any e || decide (e.on < i)) && (decide (i < m) || (List.range m).all fun j => waits ops 8 i j)).getD true)
theorem shapely_lt {m i : Nat} {o : Oper} (h : shapely ops m = true) (ho : ops[i]? = some o) (e : Edge) (he : e ∈ o.after) (hb : Region.binds .any e = true) : e.on < i := by
 have hi : i < ops.size := (Array.getElem?_eq_some_iff.1 ho).1
 have h1 := List.all_eq_true.1 h i (List.mem_range.2 hi)
 rw [ho] at h1
 simp only [Option.map_some, Option.getD_some, Bool.and_eq_true] at h1
 have h2 := Array.all_eq_true_iff_forall_mem.1 h1.1 e he
 rw [hb] at h2
 exact of_decide_eq_true (by simpa using h2)
theorem shapely_late {m i : Nat} {o : Oper} (h : shapely ops m = true) (ho : ops[i]? = some o) (hm : m ≤ i) (j : Nat) (hj : j < m) : waits ops 8 i j = true := by
 have hi : i < ops.size := (Array.getElem?_eq_some_iff.1 ho).1
 have h1 := List.all_eq_true.1 h i (List.mem_range.2 hi)
 rw [ho] at h1
 simp only [Option.map_some, Option.getD_some, Bool.and_eq_true, Bool.or_eq_true, decide_eq_true_eq] at h1
 rcases h1.2 with g | g
 ·omega
 ·exact List.all_eq_true.1 g j (List.mem_range.2 hj)
/-- What an operation waits for has come up. -/
theorem dep_of {i : Nat} {o : Oper} {listed : Array Bool} (j : Nat) (h : i ∈ Region.ready .any ops listed) (ho : ops[i]? = some o) (hj : (o.after.any fun e => Region.binds .any e && e.on == j) = true) : listed.getD j false = true := by
 obtain ⟨_, o', ho', hall⟩ := mem_ready.1 h
 rw [ho] at ho'
 cases ho'
 rw [Array.any_eq_true'] at hj
 obtain ⟨e, he, h3⟩ := hj
 simp only [Bool.and_eq_true, beq_iff_eq] at h3
 rw [← h3.2]; exact hall e he h3.1
theorem getD_two {l : Array Bool} {j : Nat} (hj : j < l.size) : l.getD j true = l.getD j false := by simp [Array.getD_eq_getD_getElem?, hj]
theorem wpAny_until {m : Nat} (hsz : m ≤ ops.size) (LM : Array Bool) (Inv : Array Bool → Act → World → Prop) (hsh : shapely ops m = true) (hLs : LM.size = ops.size) (hL : ((List.range ops.size).all fun j => LM.getD j true == decide (j < m)) = true)
  (hstep : ∀ listed a w i, listed.size = ops.size → Inv listed a w → i < m → i ∈ Region.ready .any ops listed → wpOp P ops Q i (fun a' w' => Inv (listed.setIfInBounds i true) a' w') a w)
  (hfin : ∀ a w, Inv LM a w → wpAny P .any ops Q (ops.size - m) LM a w) :
  ∀ (c : Nat) (listed : Array Bool) (a : Act) (w : World), cntU listed m = c → listed.size = ops.size → DownC ops listed → (∀ j, m ≤ j → j < ops.size → listed.getD j true = false) → Inv listed a w → wpAny P .any ops Q (c + (ops.size - m)) listed a w := by
 intro c
 induction c with
 | zero =>
  intro listed a w hc hs hdc hbey hI
  have e : listed = LM := by
   apply Array.ext (by omega)
   intro j h1 h2
   have h3 := List.all_eq_true.1 hL j (List.mem_range.2 (by omega))
   simp only [beq_iff_eq] at h3
   have h4 : listed.getD j true = LM.getD j true := by
    rw [h3]
    by_cases g : j < m
    ·rw [cnt_zero listed m hc j g, decide_eq_true g]
    ·rw [hbey j (by omega) (by omega), decide_eq_false g]
   simpa [Array.getD_eq_getD_getElem?, h1, h2] using h4
  subst e
  rw [Nat.zero_add]; exact hfin a w hI
 | succ c ih =>
  intro listed a w hc hs hdc hbey hI
  rw [Nat.succ_add]
  obtain ⟨j0, g1, g2, g3⟩ := cnt_some listed m (by omega)
  refine ⟨fun h0 => ?_, fun i hi => ?_⟩
  ·have hj0 : j0 < ops.size := by
    rcases Nat.lt_or_ge j0 ops.size with q | q
    ·exact q
    ·simp [Array.getD_eq_getD_getElem?, show listed.size ≤ j0 by omega] at g2
   have : j0 ∈ Region.ready .any ops listed := mem_ready.2 ⟨g2, ops[j0], by simp [hj0], fun e he hb => by
    have hlt := shapely_lt hsh (show ops[j0]? = some ops[j0] by simp [hj0]) e he hb
    have := g3 e.on hlt
    rw [getD_two (by omega)] at this; exact this⟩
   rw [h0] at this; cases this
  ·have him : i < m := by
    rcases Nat.lt_or_ge i m with q | q
    ·exact q
    ·obtain ⟨_, o, ho, hall⟩ := mem_ready.1 hi
     have h5 := waits_listed hdc 8 i j0 (shapely_late hsh ho q j0 g1) (fun o' ho' => by rw [ho] at ho'; cases ho'; exact hall)
     have hj0 : j0 < listed.size := by
      rcases Nat.lt_or_ge j0 listed.size with q | q
      ·exact q
      ·simp [Array.getD_eq_getD_getElem?, q] at g2
     rw [← getD_two hj0, g2] at h5; cases h5
   obtain ⟨hun, oi, hoi, hall⟩ := mem_ready.1 hi
   refine wpOp_mono (fun a' w' h => ?_) (hstep listed a w i hs hI him hi)
   refine ih _ a' w' ?_ (by simp [hs]) (fun k o ho hk e he hb => ?_) (fun j h1 h2 => ?_) h
   ·have := cnt_set listed i hun m him; omega
   ·have hkeep : listed.getD e.on false = true → (listed.setIfInBounds i true).getD e.on false = true := fun q => by
     by_cases g : i = e.on
     ·rw [← g]
      refine getD_set_self listed false ?_
      have := him; have := hsz; omega
     ·rw [getD_set_other listed false g]; exact q
    by_cases g : i = k
    ·subst g
     rw [hoi] at ho; cases ho
     exact hkeep (hall e he hb)
    ·rw [getD_set_other listed false g] at hk
     exact hkeep (hdc k o ho hk e he hb)
   ·rw [getD_set_other listed true (by omega)]; exact hbey j h1 h2
theorem cnt_none (n : Nat) : ∀ m, m ≤ n → cntU (Array.replicate n false) m = m
 | 0, _ => rfl
 | m + 1, h => by
  show cntU (Array.replicate n false) m + (if (Array.replicate n false).getD m true = true then 0 else 1) = m + 1
  rw [cnt_none n m (by omega)]
  have : (Array.replicate n false).getD m true = false := by simp [Array.getD_eq_getD_getElem?, show m < n by omega]
  rw [this]; simp
/-- **A region that draws, by an invariant**: A is the frame at its beginning. -/
theorem wp_region_until {id : Nat} {A : Act} {W : World} (m : Nat) (LM : Array Bool) (Inv : Act → Array Bool → Act → World → Prop) (hm : P.follows .mixedOrders = true) (hsz : m ≤ ops.size) (hsh : shapely ops m = true) (hLs : LM.size = ops.size) (hL : ((List.range ops.size).all fun j => LM.getD j true == decide (j < m)) = true)
  (h0 : Inv A (Array.replicate ops.size false) A W.drew)
  (hstep : ∀ listed a w i, listed.size = ops.size → Inv A listed a w → i < m → i ∈ Region.ready .any ops listed → wpOp P ops Q i (fun a' w' => Inv A (listed.setIfInBounds i true) a' w') a w)
  (hfin : ∀ a w, Inv A LM a w → wpAnyH P .any ops Q (fun _ => True) (ops.size - m) LM a w) : (Code.region id ops true).wp P Q A W := by
 refine wp_region_any hm ?_
 have h := wpAny_until hsz LM (Inv A) hsh hLs hL hstep (fun a w hI => wpAny_of_held _ _ _ _ (hfin a w hI)) m (Array.replicate ops.size false) A W.drew (cnt_none _ m hsz) (by simp) (fun i o _ h => absurd h (fun h => by rcases Nat.lt_or_ge i ops.size with g | g <;> simp [Array.getD_eq_getD_getElem?, g] at h)) (fun j _ h2 => by simp [Array.getD_eq_getD_getElem?, h2]) h0
 rw [show m + (ops.size - m) = ops.size by omega] at h
 exact h
/-- The others' marks. -/
theorem mark_of {l : Array Bool} {i j : Nat} (hne : i ≠ j) (h : (l.setIfInBounds i true).getD j false = true) : l.getD j false = true := by rw [getD_set_other l false hne] at h; exact h
theorem mark_none {n j : Nat} (h : (Array.replicate n false).getD j false = true) : False := by
 rcases Nat.lt_or_ge j n with g | g
 ·simp [Array.getD_eq_getD_getElem?, g] at h
 ·simp [Array.getD_eq_getD_getElem?, g] at h
/-- One operation, the way on shut. -/
theorem wpOp_shut {i : Nat} {o : Oper} {K : Act → World → Prop} {a : Act} {w : World} (ho : ops[i]? = some o)
  (h : ∀ K' : Act → World → Prop, Shut (∀ a w, K a w → K' a w) → if Region.wanted o (yielded ops a.tmps) = true then Oper.wp P o a w K' Q else K' (a.put o.dst undef) w) : wpOp P ops Q i K a w := wpOp_step ho (fun K' hK => h K' hK)
end

/-- A new variable of three cells, of two cells. -/
def New3 (B : Nat) (w : World) (v x y z : Value) : Prop := ∃ R, v = .pointer (some ⟨R, 0, none⟩) ∧ B ≤ R ∧ V3 w R x y z
def New2 (B : Nat) (w : World) (v x y : Value) : Prop := ∃ R, v = .pointer (some ⟨R, 0, none⟩) ∧ B ≤ R ∧ V2 w R x y
theorem New3.below {B : Nat} {w w' : World} {v x y z : Value} (h : New3 B w v x y z) (hb : Below w.heap.size w w') : New3 B w' v x y z := let ⟨R, e, hB, hv⟩ := h; ⟨R, e, hB, hv.below hb⟩
theorem New2.below {B : Nat} {w w' : World} {v x y : Value} (h : New2 B w v x y) (hb : Below w.heap.size w w') : New2 B w' v x y := let ⟨R, e, hB, hv⟩ := h; ⟨R, e, hB, hv.below hb⟩

/-- A slice of n structs of k cells each: the j-th cell of the i-th holds el i j. -/
def RowAt (k : Nat) (w : World) (v : Value) (n : Nat) (el : Nat → Nat → Value) : Prop :=
 ∃ ao c, v = .slice ao n c ∧ n ≤ c ∧ c ≤ 9223372036854775807 ∧ (0 < n → ∃ b off, ao = some ⟨b, off, none⟩ ∧ ∀ i, i < n → ∀ j, j < k → w.cell? ⟨b, off + i * k + j, none⟩ = some (el i j))
theorem RowAt.below {k : Nat} {w w' : World} {v : Value} {n : Nat} {el : Nat → Nat → Value} (h : RowAt k w v n el) (hb : Below w.heap.size w w') : RowAt k w' v n el := by
 obtain ⟨ao, c, h1, h2, h3, h4⟩ := h
 exact ⟨ao, c, h1, h2, h3, fun hn => let ⟨b, off, e, hc⟩ := h4 hn; ⟨b, off, e, fun i hi j hj => (hb.cell (World.block_lt_of_cell? w _ (hc i hi j hj))).trans (hc i hi j hj)⟩⟩
theorem RowAt.nil (k : Nat) (w : World) (el : Nat → Nat → Value) : RowAt k w (.slice none 0 0) 0 el := ⟨none, 0, rfl, by omega, by omega, fun h => absurd h (by omega)⟩
/-- The first ones, and those behind them. -/
theorem RowAt.cut {k : Nat} {w : World} {v : Value} {n : Nat} {el : Nat → Nat → Value} (h : RowAt k w v n el) (m : Nat) (h0 : 0 < m) (hm : m < n) :
  ∃ b off c, v = .slice (some ⟨b, off, none⟩) n c ∧ n ≤ c ∧ c ≤ 9223372036854775807 ∧ RowAt k w (.slice (some ⟨b, off, none⟩) m c) m el ∧ RowAt k w (.slice (some ⟨b, off + m * k, none⟩) (n - m) (c - m)) (n - m) (fun i => el (m + i)) := by
 obtain ⟨ao, c, h1, h2, h3, h4⟩ := h
 obtain ⟨b, off, rfl, hc⟩ := h4 (by omega)
 refine ⟨b, off, c, h1, h2, h3, ⟨_, _, rfl, by omega, h3, fun _ => ⟨b, off, rfl, fun i hi => hc i (by omega)⟩⟩, ⟨_, _, rfl, by omega, by omega, fun _ => ⟨b, _, rfl, fun i hi j hj => ?_⟩⟩⟩
 have := hc (m + i) (by omega) j hj
 rw [Nat.add_mul, ← Nat.add_assoc] at this
 exact this
theorem RowAt.of_owns {k : Nat} {w : World} {B : Nat} {e : TypeId} {v : Value} {n : Nat} {us : List Value} {el : Nat → Nat → Value} (h : w.ownsRow B e k v n us) (hel : ∀ i, i < n → ∀ j, j < k → us[i * k + j]? = some (el i j)) : RowAt k w v n el := by
 rcases h.2 with ⟨rfl, rfl⟩ | ⟨g, cap, cur, rfl, hb, hg, hnc, hcm, rest⟩
 ·exact RowAt.nil _ _ _
 ·refine ⟨_, _, rfl, hnc, by unfold maxLen at hcm; omega, fun _ => ⟨g, 0, rfl, fun i hi j hj => ?_⟩⟩
  rw [Nat.zero_add]
  exact owns_cell h (hel i hi j hj)

end Go.Proofs.YthkamfddbiheoaaGreatDoor

namespace Go.Proofs.YthkamfddbiheoaaGreatDoor
open Go.RowKit
set_option linter.unusedVariables false
set_option linter.unusedSimpArgs false

/-- A slice of n whole numbers, each of at most L limbs. -/
def IRow (w : World) (v : Value) (n : Nat) (z : Nat → Int) (L : Nat) : Prop := ∃ el, RowAt 2 w v n el ∧ ∀ i, i < n → IntAt w (.agg #[el i 0, el i 1]) (z i) L
theorem IRow.below {w w' : World} {v : Value} {n : Nat} {z : Nat → Int} {L : Nat} (h : IRow w v n z L) (hb : Below w.heap.size w w') : IRow w' v n z L := by
 obtain ⟨el, h1, h2⟩ := h
 exact ⟨el, h1.below hb, fun i hi => (h2 i hi).below hb⟩
theorem IRow.cut {w : World} {v : Value} {n : Nat} {z : Nat → Int} {L : Nat} (h : IRow w v n z L) (m : Nat) (h0 : 0 < m) (hm : m < n) :
  ∃ b off c, v = .slice (some ⟨b, off, none⟩) n c ∧ n ≤ c ∧ c ≤ 9223372036854775807 ∧ IRow w (.slice (some ⟨b, off, none⟩) m c) m z L ∧ IRow w (.slice (some ⟨b, off + m * 2, none⟩) (n - m) (c - m)) (n - m) (fun i => z (m + i)) L := by
 obtain ⟨el, h1, h2⟩ := h
 obtain ⟨b, off, c, e, hc, hM, p1, p2⟩ := h1.cut m h0 hm
 exact ⟨b, off, c, e, hc, hM, ⟨el, p1, fun i hi => h2 i (by omega)⟩, ⟨_, p2, fun i hi => h2 (m + i) (by omega)⟩⟩
end Go.Proofs.YthkamfddbiheoaaGreatDoor

namespace Go.Proofs.YthkamfddbiheoaaGreatDoor
open Go.RowKit
set_option linter.unusedVariables false

section
variable {P : Program} {ops : Array Oper} {Q : Exit → Act → World → Prop} {md : Region.Mode}
/-- All edges go to what stands ahead; what stands from m on waits for all of the first m. -/
def shapelyF (ops : Array Oper) (m : Nat) : Bool :=
 ((List.range ops.size).all fun i => ((ops[i]?).map fun o => (o.after.all fun e => !Region.binds .any e || decide (e.on < i)) && (decide (i < m) || (List.range m).all fun j => waits ops 16 i j)).getD true)
theorem shapely_ltF {m i : Nat} {o : Oper} (h : shapelyF ops m = true) (ho : ops[i]? = some o) (e : Edge) (he : e ∈ o.after) (hb : Region.binds .any e = true) : e.on < i := by
 have hi : i < ops.size := (Array.getElem?_eq_some_iff.1 ho).1
 have h1 := List.all_eq_true.1 h i (List.mem_range.2 hi)
 rw [ho] at h1
 simp only [Option.map_some, Option.getD_some, Bool.and_eq_true] at h1
 have h2 := Array.all_eq_true_iff_forall_mem.1 h1.1 e he
 rw [hb] at h2
 exact of_decide_eq_true (by simpa using h2)
theorem shapely_lateF {m i : Nat} {o : Oper} (h : shapelyF ops m = true) (ho : ops[i]? = some o) (hm : m ≤ i) (j : Nat) (hj : j < m) : waits ops 16 i j = true := by
 have hi : i < ops.size := (Array.getElem?_eq_some_iff.1 ho).1
 have h1 := List.all_eq_true.1 h i (List.mem_range.2 hi)
 rw [ho] at h1
 simp only [Option.map_some, Option.getD_some, Bool.and_eq_true, Bool.or_eq_true, decide_eq_true_eq] at h1
 rcases h1.2 with g | g
 ·omega
 ·exact List.all_eq_true.1 g j (List.mem_range.2 hj)
theorem wpAny_untilF {m : Nat} (hsz : m ≤ ops.size) (LM : Array Bool) (Inv : Array Bool → Act → World → Prop) (hsh : shapelyF ops m = true) (hLs : LM.size = ops.size) (hL : ((List.range ops.size).all fun j => LM.getD j true == decide (j < m)) = true)
  (hstep : ∀ listed a w i, listed.size = ops.size → Inv listed a w → i < m → i ∈ Region.ready .any ops listed → wpOp P ops Q i (fun a' w' => Inv (listed.setIfInBounds i true) a' w') a w)
  (hfin : ∀ a w, Inv LM a w → wpAny P .any ops Q (ops.size - m) LM a w) :
  ∀ (c : Nat) (listed : Array Bool) (a : Act) (w : World), cntU listed m = c → listed.size = ops.size → DownC ops listed → (∀ j, m ≤ j → j < ops.size → listed.getD j true = false) → Inv listed a w → wpAny P .any ops Q (c + (ops.size - m)) listed a w := by
 intro c
 induction c with
 | zero =>
  intro listed a w hc hs hdc hbey hI
  have e : listed = LM := by
   apply Array.ext (by omega)
   intro j h1 h2
   have h3 := List.all_eq_true.1 hL j (List.mem_range.2 (by omega))
   simp only [beq_iff_eq] at h3
   have h4 : listed.getD j true = LM.getD j true := by
    rw [h3]
    by_cases g : j < m
    ·rw [cnt_zero listed m hc j g, decide_eq_true g]
    ·rw [hbey j (by omega) (by omega), decide_eq_false g]
   simpa [Array.getD_eq_getD_getElem?, h1, h2] using h4
  subst e
  rw [Nat.zero_add]; exact hfin a w hI
 | succ c ih =>
  intro listed a w hc hs hdc hbey hI
  rw [Nat.succ_add]
  obtain ⟨j0, g1, g2, g3⟩ := cnt_some listed m (by omega)
  refine ⟨fun h0 => ?_, fun i hi => ?_⟩
  ·have hj0 : j0 < ops.size := by
    rcases Nat.lt_or_ge j0 ops.size with q | q
    ·exact q
    ·simp [Array.getD_eq_getD_getElem?, show listed.size ≤ j0 by omega] at g2
   have : j0 ∈ Region.ready .any ops listed := mem_ready.2 ⟨g2, ops[j0], by simp [hj0], fun e he hb => by
    have hlt := shapely_ltF hsh (show ops[j0]? = some ops[j0] by simp [hj0]) e he hb
    have := g3 e.on hlt
    rw [getD_two (by omega)] at this; exact this⟩
   rw [h0] at this; cases this
  ·have him : i < m := by
    rcases Nat.lt_or_ge i m with q | q
    ·exact q
    ·obtain ⟨_, o, ho, hall⟩ := mem_ready.1 hi
     have h5 := waits_listed hdc 16 i j0 (shapely_lateF hsh ho q j0 g1) (fun o' ho' => by rw [ho] at ho'; cases ho'; exact hall)
     have hj0 : j0 < listed.size := by
      rcases Nat.lt_or_ge j0 listed.size with q | q
      ·exact q
      ·simp [Array.getD_eq_getD_getElem?, q] at g2
     rw [← getD_two hj0, g2] at h5; cases h5
   obtain ⟨hun, oi, hoi, hall⟩ := mem_ready.1 hi
   refine wpOp_mono (fun a' w' h => ?_) (hstep listed a w i hs hI him hi)
   refine ih _ a' w' ?_ (by simp [hs]) (fun k o ho hk e he hb => ?_) (fun j h1 h2 => ?_) h
   ·have := cnt_set listed i hun m him; omega
   ·have hkeep : listed.getD e.on false = true → (listed.setIfInBounds i true).getD e.on false = true := fun q => by
     by_cases g : i = e.on
     ·rw [← g]
      refine getD_set_self listed false ?_
      have := him; have := hsz; omega
     ·rw [getD_set_other listed false g]; exact q
    by_cases g : i = k
    ·subst g
     rw [hoi] at ho; cases ho
     exact hkeep (hall e he hb)
    ·rw [getD_set_other listed false g] at hk
     exact hkeep (hdc k o ho hk e he hb)
   ·rw [getD_set_other listed true (by omega)]; exact hbey j h1 h2
/-- **A region that draws, by an invariant**: A is the frame at its beginning. -/
theorem wp_region_untilF {id : Nat} {A : Act} {W : World} (m : Nat) (LM : Array Bool) (Inv : Act → Array Bool → Act → World → Prop) (hm : P.follows .mixedOrders = true) (hsz : m ≤ ops.size) (hsh : shapelyF ops m = true) (hLs : LM.size = ops.size) (hL : ((List.range ops.size).all fun j => LM.getD j true == decide (j < m)) = true)
  (h0 : Inv A (Array.replicate ops.size false) A W.drew)
  (hstep : ∀ listed a w i, listed.size = ops.size → Inv A listed a w → i < m → i ∈ Region.ready .any ops listed → wpOp P ops Q i (fun a' w' => Inv A (listed.setIfInBounds i true) a' w') a w)
  (hfin : ∀ a w, Inv A LM a w → wpAnyH P .any ops Q (fun _ => True) (ops.size - m) LM a w) : (Code.region id ops true).wp P Q A W := by
 refine wp_region_any hm ?_
 have h := wpAny_untilF hsz LM (Inv A) hsh hLs hL hstep (fun a w hI => wpAny_of_held _ _ _ _ (hfin a w hI)) m (Array.replicate ops.size false) A W.drew (cnt_none _ m hsz) (by simp) (fun i o _ h => absurd h (fun h => by rcases Nat.lt_or_ge i ops.size with g | g <;> simp [Array.getD_eq_getD_getElem?, g] at h)) (fun j _ h2 => by simp [Array.getD_eq_getD_getElem?, h2]) h0
 rw [show m + (ops.size - m) = ops.size by omega] at h
 exact h
end

end Go.Proofs.YthkamfddbiheoaaGreatDoor
