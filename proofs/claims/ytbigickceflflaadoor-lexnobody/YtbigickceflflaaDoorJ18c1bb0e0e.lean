/-
  Texts of mine, joined: what lies beneath the statement.
-/
import Derived.WalkKit
import Derived.WalkSpells
import Derived.Test.YtbigickceflflaaDoorJ822f25aebe
namespace Go.Proofs.YtbigickceflflaaDoor
open Go.RowKit

/-- The n cells from off on in block b hold the numbers f 0, f 1, .. of kind k. -/
def Cells (w : World) (k : IntKind) (b off n : Nat) (f : Nat → Int) : Prop := ∀ i, i < n → w.cell? ⟨b, off + i, none⟩ = some (.int k (f i))
/-- None of these cells is frozen. -/
def Soft (w : World) (b off n : Nat) : Prop := ∀ i, i < n → w.frozen? ⟨b, off + i, none⟩ = false

/-- The function f with v at j. -/
def put (f : Nat → Int) (j : Nat) (v : Int) : Nat → Int := fun i => if i = j then v else f i
theorem put_same (f : Nat → Int) (j : Nat) (v : Int) : put f j v j = v := by simp [put]
theorem put_other (f : Nat → Int) (j i : Nat) (v : Int) (h : i ≠ j) : put f j v i = f i := by simp [put, h]

/-- Of what was there only the n cells from off on in block b may have turned. -/
structure Upd (w w' : World) (b off n : Nat) : Prop where
  os : w'.os = w.os
  tape : w'.tape = w.tape
  output : w'.output = w.output
  size : w.heap.size ≤ w'.heap.size
  block : ∀ k, k < w.heap.size → k ≠ b → w'.heap[k]? = w.heap[k]?
  cell : ∀ o, (o < off ∨ off + n ≤ o) → w'.cell? ⟨b, o, none⟩ = w.cell? ⟨b, o, none⟩
  froz : ∀ o, w'.frozen? ⟨b, o, none⟩ = w.frozen? ⟨b, o, none⟩

theorem Upd.refl (w : World) (b off n : Nat) : Upd w w b off n := ⟨rfl, rfl, rfl, Nat.le_refl _, fun _ _ _ => rfl, fun _ _ => rfl, fun _ => rfl⟩
theorem Upd.trans {w w1 w2 : World} {b off n : Nat} (h : Upd w w1 b off n) (g : Upd w1 w2 b off n) : Upd w w2 b off n :=
  ⟨g.os.trans h.os, g.tape.trans h.tape, g.output.trans h.output, Nat.le_trans h.size g.size, fun k hk hb => (g.block k (Nat.lt_of_lt_of_le hk h.size) hb).trans (h.block k hk hb),
   fun o ho => (g.cell o ho).trans (h.cell o ho), fun o => (g.froz o).trans (h.froz o)⟩
theorem Upd.mono {w w' : World} {b off n off' n' : Nat} (h : Upd w w' b off n) (h1 : off' ≤ off) (h2 : off + n ≤ off' + n') : Upd w w' b off' n' :=
  ⟨h.os, h.tape, h.output, h.size, h.block, fun o ho => h.cell o (by omega), h.froz⟩
theorem Upd.set {w : World} {b off n : Nat} (j : Nat) (hj : j < n) (v : Value) : Upd w (w.setCell ⟨b, off + j, none⟩ v) b off n :=
  ⟨rfl, rfl, rfl, by simp, fun k _ hb => Below.heap_setCell _ _ _ _ hb, fun o ho => World.cell?_setCell_other _ _ _ _ (fun e => by injection e; omega), fun o => by simp⟩
theorem Upd.drew {w w' : World} {b off n : Nat} (h : Upd w w' b off n) : Upd w w'.drew b off n := ⟨h.os, h.tape, h.output, h.size, h.block, h.cell, h.froz⟩
theorem Upd.alloc {w w' : World} {b off n : Nat} (h : Upd w w' b off n) (hb : b < w.heap.size) (o : Obj) : Upd w (w'.alloc o) b off n :=
  h.trans ⟨rfl, rfl, rfl, by simp, fun k hk _ => Below.heap_alloc _ _ _ hk, fun p _ => World.cell?_of_block (w := w') (Below.heap_alloc _ _ _ (Nat.lt_of_lt_of_le hb h.size)),
    fun p => World.frozen?_of_block (w := w') (Below.heap_alloc _ _ _ (Nat.lt_of_lt_of_le hb h.size))⟩
theorem Upd.below {w w' : World} {b off n B : Nat} (h : Upd w w' b off n) (hb : B ≤ b) (hB : B ≤ w.heap.size) : Below B w w' :=
  ⟨h.os, h.tape, h.output, h.size, fun k hk => h.block k (by omega) (by omega)⟩
theorem Upd.of_below {w w' : World} {b off n : Nat} (h : Below w.heap.size w w') (hb : b < w.heap.size) : Upd w w' b off n :=
  ⟨h.os, h.tape, h.output, h.size, fun k hk _ => h.block k hk, fun _ _ => h.cell hb, fun _ => h.frozen hb⟩

theorem Cells.below {w w' : World} {k : IntKind} {B b off n : Nat} {f : Nat → Int} (c : Cells w k b off n f) (h : Below B w w') (hb : b < B) : Cells w' k b off n f :=
  fun i hi => (h.cell hb).trans (c i hi)
theorem Soft.below {w w' : World} {B b off n : Nat} (c : Soft w b off n) (h : Below B w w') (hb : b < B) : Soft w' b off n :=
  fun i hi => (h.frozen hb).trans (c i hi)
theorem Cells.lt {w : World} {k : IntKind} {b off n : Nat} {f : Nat → Int} (c : Cells w k b off n f) (hn : 0 < n) : b < w.heap.size :=
  World.block_lt_of_cell? _ _ (c 0 hn)
theorem Cells.upd {w w' : World} {k : IntKind} {b off n b' off' n' : Nat} {f : Nat → Int} (c : Cells w k b off n f) (u : Upd w w' b' off' n') (h : b ≠ b' ∨ off + n ≤ off' ∨ off' + n' ≤ off) : Cells w' k b off n f := by
  intro i hi
  by_cases e : b = b'
  · subst e
    rw [u.cell _ (by omega)]; exact c i hi
  · have hlt := World.block_lt_of_cell? _ _ (c i hi)
    rw [World.cell?_of_block (w := w) (u.block b hlt e)]; exact c i hi
theorem Soft.upd {w w' : World} {b off n b' off' n' : Nat} (c : Soft w b off n) (hlt : b < w.heap.size) (u : Upd w w' b' off' n') : Soft w' b off n := by
  intro i hi
  by_cases e : b = b'
  · subst e; rw [u.froz]; exact c i hi
  · rw [World.frozen?_of_block (w := w) (u.block b hlt e)]; exact c i hi
theorem Cells.set {w : World} {k : IntKind} {b off n : Nat} {f : Nat → Int} (c : Cells w k b off n f) (j : Nat) (hj : j < n) (v : Int) : Cells (w.setCell ⟨b, off + j, none⟩ (.int k v)) k b off n (put f j v) := by
  intro i hi
  by_cases e : i = j
  · subst e; rw [put_same]; exact World.cell?_setCell_same _ _ _ (c i hi)
  · rw [put_other _ _ _ _ e, World.cell?_setCell_other _ _ _ _ (fun h => by injection h; omega)]; exact c i hi
theorem Soft.set {w : World} {b off n : Nat} (c : Soft w b off n) (a : Addr) (v : Value) : Soft (w.setCell a v) b off n := fun i hi => by simp [c i hi]
theorem Cells.congr {w : World} {k : IntKind} {b off n : Nat} {f g : Nat → Int} (c : Cells w k b off n f) (h : ∀ i, i < n → f i = g i) : Cells w k b off n g := fun i hi => by rw [← h i hi]; exact c i hi
theorem Cells.mono {w : World} {k : IntKind} {b off n m : Nat} {f : Nat → Int} (c : Cells w k b off n f) (h : m ≤ n) : Cells w k b off m f := fun i hi => c i (by omega)
theorem Soft.mono {w : World} {b off n m : Nat} (c : Soft w b off n) (h : m ≤ n) : Soft w b off m := fun i hi => c i (by omega)
theorem Cells.from {w : World} {k : IntKind} {b off n : Nat} {f : Nat → Int} (c : Cells w k b off n f) (j m : Nat) (h : j + m ≤ n) : Cells w k b (off + j) m (fun i => f (j + i)) := fun i hi => by
  rw [Nat.add_assoc]; exact c (j + i) (by omega)
theorem Soft.from {w : World} {b off n : Nat} (c : Soft w b off n) (j m : Nat) (h : j + m ≤ n) : Soft w b (off + j) m := fun i hi => by
  rw [Nat.add_assoc]; exact c (j + i) (by omega)

theorem ret_int {k : IntKind} {a b : Int} (h : a = b) : Ending.returned (.int k a) = .returned (.int k b) := by rw [h]
theorem ret_bool {a b : Bool} (h : a = b) : Ending.returned (.bool a) = .returned (.bool b) := by rw [h]
theorem ret_int_bool {k : IntKind} {a b : Int} {c d : Bool} (h : a = b) (g : c = d) : Ending.returned (.tuple #[.int k a, .bool c]) = .returned (.tuple #[.int k b, .bool d]) := by rw [h, g]

/-- No slice here is longer. -/
abbrev LIM : Nat := 1000000000000

/-- The value v is a slice of the n numbers f of kind k. -/
def Nums (k : IntKind) (w : World) (v : Value) (n : Nat) (f : Nat → Int) : Prop :=
  ∃ ao c, v = .slice ao n c ∧ n ≤ c ∧ n ≤ LIM ∧ (0 < n → ∃ b off, ao = some ⟨b, off, none⟩ ∧ Cells w k b off n f)
/-- The same, in a block of the call's own (from B on), which may be written. -/
def Mine (k : IntKind) (B : Nat) (w : World) (v : Value) (n : Nat) (f : Nat → Int) : Prop :=
  ∃ ao c, v = .slice ao n c ∧ n ≤ c ∧ n ≤ LIM ∧ (0 < n → ∃ b off, ao = some ⟨b, off, none⟩ ∧ Cells w k b off n f ∧ Soft w b off n ∧ B ≤ b)

theorem Mine.nums {k : IntKind} {B : Nat} {w : World} {v : Value} {n : Nat} {f : Nat → Int} (h : Mine k B w v n f) : Nums k w v n f := by
  obtain ⟨ao, c, h1, h2, h3, h4⟩ := h
  exact ⟨ao, c, h1, h2, h3, fun hn => let ⟨b, off, e, hc, _⟩ := h4 hn; ⟨b, off, e, hc⟩⟩
theorem Nums.nil (k : IntKind) (w : World) (f : Nat → Int) : Nums k w (.slice none 0 0) 0 f := ⟨none, 0, rfl, Nat.le_refl _, Nat.zero_le _, fun h => absurd h (by omega)⟩
theorem Mine.nil (k : IntKind) (B : Nat) (w : World) (f : Nat → Int) : Mine k B w (.slice none 0 0) 0 f := ⟨none, 0, rfl, Nat.le_refl _, Nat.zero_le _, fun h => absurd h (by omega)⟩
theorem Nums.below {k : IntKind} {w w' : World} {v : Value} {n : Nat} {f : Nat → Int} (h : Nums k w v n f) (hb : Below w.heap.size w w') : Nums k w' v n f := by
  obtain ⟨ao, c, h1, h2, h3, h4⟩ := h
  exact ⟨ao, c, h1, h2, h3, fun hn => let ⟨b, off, e, hc⟩ := h4 hn; ⟨b, off, e, hc.below hb (hc.lt hn)⟩⟩
theorem Mine.below {k : IntKind} {B : Nat} {w w' : World} {v : Value} {n : Nat} {f : Nat → Int} (h : Mine k B w v n f) (hb : Below w.heap.size w w') : Mine k B w' v n f := by
  obtain ⟨ao, c, h1, h2, h3, h4⟩ := h
  exact ⟨ao, c, h1, h2, h3, fun hn => let ⟨b, off, e, hc, hs, hB⟩ := h4 hn; ⟨b, off, e, hc.below hb (hc.lt hn), hs.below hb (hc.lt hn), hB⟩⟩
theorem Mine.le {k : IntKind} {B B' : Nat} {w : World} {v : Value} {n : Nat} {f : Nat → Int} (h : Mine k B w v n f) (hb : B' ≤ B) : Mine k B' w v n f := by
  obtain ⟨ao, c, h1, h2, h3, h4⟩ := h
  exact ⟨ao, c, h1, h2, h3, fun hn => let ⟨b, off, e, hc, hs, hB⟩ := h4 hn; ⟨b, off, e, hc, hs, Nat.le_trans hb hB⟩⟩
theorem Nums.congr {k : IntKind} {w : World} {v : Value} {n : Nat} {f g : Nat → Int} (h : Nums k w v n f) (e : ∀ i, i < n → f i = g i) : Nums k w v n g := by
  obtain ⟨ao, c, h1, h2, h3, h4⟩ := h
  exact ⟨ao, c, h1, h2, h3, fun hn => let ⟨b, off, e', hc⟩ := h4 hn; ⟨b, off, e', hc.congr e⟩⟩
theorem Mine.congr {k : IntKind} {B : Nat} {w : World} {v : Value} {n : Nat} {f g : Nat → Int} (h : Mine k B w v n f) (e : ∀ i, i < n → f i = g i) : Mine k B w v n g := by
  obtain ⟨ao, c, h1, h2, h3, h4⟩ := h
  exact ⟨ao, c, h1, h2, h3, fun hn => let ⟨b, off, e', hc, r⟩ := h4 hn; ⟨b, off, e', hc.congr e, r⟩⟩
theorem Nums.upd {k : IntKind} {w w' : World} {v : Value} {n b off m : Nat} {f : Nat → Int} (h : Nums k w v n f) (u : Upd w w' b off m) (hne : ∀ b' off' c, v = .slice (some ⟨b', off', none⟩) n c → 0 < n → b' ≠ b) : Nums k w' v n f := by
  obtain ⟨ao, c, h1, h2, h3, h4⟩ := h
  refine ⟨ao, c, h1, h2, h3, fun hn => ?_⟩
  obtain ⟨b', off', e, hc⟩ := h4 hn
  exact ⟨b', off', e, hc.upd u (.inl (hne b' off' c (by rw [h1, e]) hn))⟩

/-- Of the blocks below B only the n cells from off on in block b may have turned. -/
structure UpdB (B : Nat) (w w' : World) (b off n : Nat) : Prop where
  os : w'.os = w.os
  tape : w'.tape = w.tape
  output : w'.output = w.output
  size : w.heap.size ≤ w'.heap.size
  block : ∀ k, k < B → k ≠ b → w'.heap[k]? = w.heap[k]?
  cell : ∀ o, (o < off ∨ off + n ≤ o) → w'.cell? ⟨b, o, none⟩ = w.cell? ⟨b, o, none⟩
  froz : ∀ o, w'.frozen? ⟨b, o, none⟩ = w.frozen? ⟨b, o, none⟩

theorem UpdB.refl (B : Nat) (w : World) (b off n : Nat) : UpdB B w w b off n := ⟨rfl, rfl, rfl, Nat.le_refl _, fun _ _ _ => rfl, fun _ _ => rfl, fun _ => rfl⟩
theorem UpdB.trans {B : Nat} {w w1 w2 : World} {b off n : Nat} (h : UpdB B w w1 b off n) (g : UpdB B w1 w2 b off n) : UpdB B w w2 b off n :=
  ⟨g.os.trans h.os, g.tape.trans h.tape, g.output.trans h.output, Nat.le_trans h.size g.size, fun k hk hb => (g.block k hk hb).trans (h.block k hk hb),
   fun o ho => (g.cell o ho).trans (h.cell o ho), fun o => (g.froz o).trans (h.froz o)⟩
theorem UpdB.mono {B B' : Nat} {w w' : World} {b off n : Nat} (h : UpdB B w w' b off n) (hB : B' ≤ B) : UpdB B' w w' b off n :=
  ⟨h.os, h.tape, h.output, h.size, fun k hk hb => h.block k (by omega) hb, h.cell, h.froz⟩
theorem UpdB.wide {B : Nat} {w w' : World} {b off n off' n' : Nat} (h : UpdB B w w' b off n) (h1 : off' ≤ off) (h2 : off + n ≤ off' + n') : UpdB B w w' b off' n' :=
  ⟨h.os, h.tape, h.output, h.size, h.block, fun o ho => h.cell o (by omega), h.froz⟩
theorem UpdB.of_upd {B : Nat} {w w' : World} {b off n : Nat} (h : Upd w w' b off n) (hB : B ≤ w.heap.size) : UpdB B w w' b off n :=
  ⟨h.os, h.tape, h.output, h.size, fun k hk hb => h.block k (by omega) hb, h.cell, h.froz⟩
theorem UpdB.of_below {B : Nat} {w w' : World} {b off n : Nat} (h : Below B w w') (hb : b < B) : UpdB B w w' b off n :=
  ⟨h.os, h.tape, h.output, h.size, fun k hk _ => h.block k hk, fun _ _ => h.cell hb, fun _ => h.frozen hb⟩
theorem UpdB.below {B B' : Nat} {w w' : World} {b off n : Nat} (h : UpdB B w w' b off n) (h1 : B' ≤ b) (h2 : B' ≤ B) : Below B' w w' :=
  ⟨h.os, h.tape, h.output, h.size, fun k hk => h.block k (by omega) (by omega)⟩
theorem Soft.updB {w w' : World} {B b off n off' n' : Nat} (c : Soft w b off n) (u : UpdB B w w' b off' n') : Soft w' b off n := fun i hi => by rw [u.froz]; exact c i hi
theorem Mine.setLow {k : IntKind} {B : Nat} {w : World} {v : Value} {n : Nat} {f : Nat → Int} (h : Mine k B w v n f) {a : Addr} (ha : a.block < B) (u : Value) : Mine k B (w.setCell a u) v n f := by
  obtain ⟨ao, c, h1, h2, h3, h4⟩ := h
  refine ⟨ao, c, h1, h2, h3, fun hn => ?_⟩
  obtain ⟨b, off, e, hc, hs, hB⟩ := h4 hn
  exact ⟨b, off, e, fun i hi => by rw [World.cell?_setCell_other _ _ _ _ (fun e => by rw [e] at ha; simp at ha; omega)]; exact hc i hi, hs.set _ _, hB⟩

/-- Behind 'make': so many zeros, in a block of the call's own. -/
theorem mine_made {k : IntKind} {w w' : World} {e : TypeId} {n cap : Nat} {xs : List Value} (h : w'.ownsRow w.heap.size e 1 (.slice (some ⟨w.heap.size, 0, none⟩) n cap) n xs)
    (f : Nat → Int) (hx : ∀ i, i < n → xs[i]? = some (.int k (f i))) : Cells w' k w.heap.size 0 n f ∧ Soft w' w.heap.size 0 n := by
  refine ⟨fun i hi => ?_, fun i _ => ?_⟩
  · rw [Nat.zero_add, h.cellAt i (by omega)]; exact hx i hi
  · rw [Nat.zero_add]; exact h.frozenAt i
theorem made_zero (k : IntKind) (n i : Nat) (hi : i < n) : (madeCells (Value.int k 0).cells (n * 1)).toList[i]? = some (Value.int k 0) := by
  have : (Value.int k 0).cells = #[Value.int k 0] := rfl
  rw [this, toList_madeCells_one, Nat.mul_one]; simp [hi]
theorem below_grown {w w' : World} (h : w.grownBy w' none) : Below w.heap.size w w' :=
  (Below.refl _ w).grown h (Nat.le_refl _) (by simp)

end Go.Proofs.YtbigickceflflaaDoor
