/-
  Texts of mine.
-/
import Derived.WalkKit
import Derived.WalkSpells
import Derived.Test.YthkamfddbiheoaaGreatDoorJa607d653bf
namespace Go.Proofs.YthkamfddbiheoaaGreatDoor
open Go.RowKit

/-- The n cells from off on in block b hold the numbers f 0, f 1, .. of kind k. -/
def Cells (w : World) (k : IntKind) (b off n : Nat) (f : Nat → Int) : Prop := ∀ i, i < n → w.cell? ⟨b, off + i, none⟩ = some (.int k (f i))
/-- None of these cells is frozen. -/
def Soft (w : World) (b off n : Nat) : Prop := ∀ i, i < n → w.frozen? ⟨b, off + i, none⟩ = false

/-- The function f with v at j. -/
def put (f : Nat → Int) (j : Nat) (v : Int) : Nat → Int := fun i => if i = j then v else f i
theorem put_same (f : Nat → Int) (j : Nat) (v : Int) : put f j v j = v := by simp [put]
theorem put_other (f : Nat → Int) (j i : Nat) (v : Int) (h : i ≠ j) : put f j v i = f i := by simp [put, h]

/-- Of what was there only the n cells from off on in block b may have turned. -/
structure Upd (w w' : World) (b off n : Nat) : Prop where
  os : w'.os = w.os
  tape : w'.tape = w.tape
  output : w'.output = w.output
  size : w.heap.size ≤ w'.heap.size
  block : ∀ k, k < w.heap.size → k ≠ b → w'.heap[k]? = w.heap[k]?
  cell : ∀ o, (o < off ∨ off + n ≤ o) → w'.cell? ⟨b, o, none⟩ = w.cell? ⟨b, o, none⟩
  froz : ∀ o, w'.frozen? ⟨b, o, none⟩ = w.frozen? ⟨b, o, none⟩

theorem Upd.refl (w : World) (b off n : Nat) : Upd w w b off n := ⟨rfl, rfl, rfl, Nat.le_refl _, fun _ _ _ => rfl, fun _ _ => rfl, fun _ => rfl⟩
theorem Upd.trans {w w1 w2 : World} {b off n : Nat} (h : Upd w w1 b off n) (g : Upd w1 w2 b off n) : Upd w w2 b off n :=
  ⟨g.os.trans h.os, g.tape.trans h.tape, g.output.trans h.output, Nat.le_trans h.size g.size, fun k hk hb => (g.block k (Nat.lt_of_lt_of_le hk h.size) hb).trans (h.block k hk hb),
   fun o ho => (g.cell o ho).trans (h.cell o ho), fun o => (g.froz o).trans (h.froz o)⟩
theorem Upd.mono {w w' : World} {b off n off' n' : Nat} (h : Upd w w' b off n) (h1 : off' ≤ off) (h2 : off + n ≤ off' + n') : Upd w w' b off' n' :=
  ⟨h.os, h.tape, h.output, h.size, h.block, fun o ho => h.cell o (by omega), h.froz⟩
theorem Upd.set {w : World} {b off n : Nat} (j : Nat) (hj : j < n) (v : Value) : Upd w (w.setCell ⟨b, off + j, none⟩ v) b off n :=
  ⟨rfl, rfl, rfl, by simp, fun k _ hb => Below.heap_setCell _ _ _ _ hb, fun o ho => World.cell?_setCell_other _ _ _ _ (fun e => by injection e; omega), fun o => by simp⟩
theorem Upd.drew {w w' : World} {b off n : Nat} (h : Upd w w' b off n) : Upd w w'.drew b off n := ⟨h.os, h.tape, h.output, h.size, h.block, h.cell, h.froz⟩
theorem Upd.alloc {w w' : World} {b off n : Nat} (h : Upd w w' b off n) (hb : b < w.heap.size) (o : Obj) : Upd w (w'.alloc o) b off n :=
  h.trans ⟨rfl, rfl, rfl, by simp, fun k hk _ => Below.heap_alloc _ _ _ hk, fun p _ => World.cell?_of_block (w := w') (Below.heap_alloc _ _ _ (Nat.lt_of_lt_of_le hb h.size)),
    fun p => World.frozen?_of_block (w := w') (Below.heap_alloc _ _ _ (Nat.lt_of_lt_of_le hb h.size))⟩
theorem Upd.below {w w' : World} {b off n B : Nat} (h : Upd w w' b off n) (hb : B ≤ b) (hB : B ≤ w.heap.size) : Below B w w' :=
  ⟨h.os, h.tape, h.output, h.size, fun k hk => h.block k (by omega) (by omega)⟩
theorem Upd.of_below {w w' : World} {b off n : Nat} (h : Below w.heap.size w w') (hb : b < w.heap.size) : Upd w w' b off n :=
  ⟨h.os, h.tape, h.output, h.size, fun k hk _ => h.block k hk, fun _ _ => h.cell hb, fun _ => h.frozen hb⟩

theorem Cells.below {w w' : World} {k : IntKind} {B b off n : Nat} {f : Nat → Int} (c : Cells w k b off n f) (h : Below B w w') (hb : b < B) : Cells w' k b off n f :=
  fun i hi => (h.cell hb).trans (c i hi)
theorem Soft.below {w w' : World} {B b off n : Nat} (c : Soft w b off n) (h : Below B w w') (hb : b < B) : Soft w' b off n :=
  fun i hi => (h.frozen hb).trans (c i hi)
theorem Cells.lt {w : World} {k : IntKind} {b off n : Nat} {f : Nat → Int} (c : Cells w k b off n f) (hn : 0 < n) : b < w.heap.size :=
  World.block_lt_of_cell? _ _ (c 0 hn)
theorem Cells.upd {w w' : World} {k : IntKind} {b off n b' off' n' : Nat} {f : Nat → Int} (c : Cells w k b off n f) (u : Upd w w' b' off' n') (h : b ≠ b' ∨ off + n ≤ off' ∨ off' + n' ≤ off) : Cells w' k b off n f := by
  intro i hi
  by_cases e : b = b'
  · subst e
    rw [u.cell _ (by omega)]; exact c i hi
  · have hlt := World.block_lt_of_cell? _ _ (c i hi)
    rw [World.cell?_of_block (w := w) (u.block b hlt e)]; exact c i hi
theorem Soft.upd {w w' : World} {b off n b' off' n' : Nat} (c : Soft w b off n) (hlt : b < w.heap.size) (u : Upd w w' b' off' n') : Soft w' b off n := by
  intro i hi
  by_cases e : b = b'
  · subst e; rw [u.froz]; exact c i hi
  · rw [World.frozen?_of_block (w := w) (u.block b hlt e)]; exact c i hi
theorem Cells.set {w : World} {k : IntKind} {b off n : Nat} {f : Nat → Int} (c : Cells w k b off n f) (j : Nat) (hj : j < n) (v : Int) : Cells (w.setCell ⟨b, off + j, none⟩ (.int k v)) k b off n (put f j v) := by
  intro i hi
  by_cases e : i = j
  · subst e; rw [put_same]; exact World.cell?_setCell_same _ _ _ (c i hi)
  · rw [put_other _ _ _ _ e, World.cell?_setCell_other _ _ _ _ (fun h => by injection h; omega)]; exact c i hi
theorem Soft.set {w : World} {b off n : Nat} (c : Soft w b off n) (a : Addr) (v : Value) : Soft (w.setCell a v) b off n := fun i hi => by simp [c i hi]
theorem Cells.congr {w : World} {k : IntKind} {b off n : Nat} {f g : Nat → Int} (c : Cells w k b off n f) (h : ∀ i, i < n → f i = g i) : Cells w k b off n g := fun i hi => by rw [← h i hi]; exact c i hi
theorem Cells.mono {w : World} {k : IntKind} {b off n m : Nat} {f : Nat → Int} (c : Cells w k b off n f) (h : m ≤ n) : Cells w k b off m f := fun i hi => c i (by omega)
theorem Soft.mono {w : World} {b off n m : Nat} (c : Soft w b off n) (h : m ≤ n) : Soft w b off m := fun i hi => c i (by omega)
theorem Cells.from {w : World} {k : IntKind} {b off n : Nat} {f : Nat → Int} (c : Cells w k b off n f) (j m : Nat) (h : j + m ≤ n) : Cells w k b (off + j) m (fun i => f (j + i)) := fun i hi => by
  rw [Nat.add_assoc]; exact c (j + i) (by omega)
theorem Soft.from {w : World} {b off n : Nat} (c : Soft w b off n) (j m : Nat) (h : j + m ≤ n) : Soft w b (off + j) m := fun i hi => by
  rw [Nat.add_assoc]; exact c (j + i) (by omega)

theorem ret_int {k : IntKind} {a b : Int} (h : a = b) : Ending.returned (.int k a) = .returned (.int k b) := by rw [h]
theorem ret_bool {a b : Bool} (h : a = b) : Ending.returned (.bool a) = .returned (.bool b) := by rw [h]
theorem ret_int_bool {k : IntKind} {a b : Int} {c d : Bool} (h : a = b) (g : c = d) : Ending.returned (.tuple #[.int k a, .bool c]) = .returned (.tuple #[.int k b, .bool d]) := by rw [h, g]

/-- No slice here is longer. -/
abbrev LIM : Nat := 1000000000000

/-- The value v is a slice of the n numbers f of kind k. -/
def Nums (k : IntKind) (w : World) (v : Value) (n : Nat) (f : Nat → Int) : Prop :=
  ∃ ao c, v = .slice ao n c ∧ n ≤ c ∧ n ≤ LIM ∧ (0 < n → ∃ b off, ao = some ⟨b, off, none⟩ ∧ Cells w k b off n f)
/-- The same, in a block of the call's own (from B on), which may be written. -/
def Mine (k : IntKind) (B : Nat) (w : World) (v : Value) (n : Nat) (f : Nat → Int) : Prop :=
  ∃ ao c, v = .slice ao n c ∧ n ≤ c ∧ n ≤ LIM ∧ (0 < n → ∃ b off, ao = some ⟨b, off, none⟩ ∧ Cells w k b off n f ∧ Soft w b off n ∧ B ≤ b)

theorem Mine.nums {k : IntKind} {B : Nat} {w : World} {v : Value} {n : Nat} {f : Nat → Int} (h : Mine k B w v n f) : Nums k w v n f := by
  obtain ⟨ao, c, h1, h2, h3, h4⟩ := h
  exact ⟨ao, c, h1, h2, h3, fun hn => let ⟨b, off, e, hc, _⟩ := h4 hn; ⟨b, off, e, hc⟩⟩
theorem Nums.nil (k : IntKind) (w : World) (f : Nat → Int) : Nums k w (.slice none 0 0) 0 f := ⟨none, 0, rfl, Nat.le_refl _, Nat.zero_le _, fun h => absurd h (by omega)⟩
theorem Mine.nil (k : IntKind) (B : Nat) (w : World) (f : Nat → Int) : Mine k B w (.slice none 0 0) 0 f := ⟨none, 0, rfl, Nat.le_refl _, Nat.zero_le _, fun h => absurd h (by omega)⟩
theorem Nums.below {k : IntKind} {w w' : World} {v : Value} {n : Nat} {f : Nat → Int} (h : Nums k w v n f) (hb : Below w.heap.size w w') : Nums k w' v n f := by
  obtain ⟨ao, c, h1, h2, h3, h4⟩ := h
  exact ⟨ao, c, h1, h2, h3, fun hn => let ⟨b, off, e, hc⟩ := h4 hn; ⟨b, off, e, hc.below hb (hc.lt hn)⟩⟩
theorem Mine.below {k : IntKind} {B : Nat} {w w' : World} {v : Value} {n : Nat} {f : Nat → Int} (h : Mine k B w v n f) (hb : Below w.heap.size w w') : Mine k B w' v n f := by
  obtain ⟨ao, c, h1, h2, h3, h4⟩ := h
  exact ⟨ao, c, h1, h2, h3, fun hn => let ⟨b, off, e, hc, hs, hB⟩ := h4 hn; ⟨b, off, e, hc.below hb (hc.lt hn), hs.below hb (hc.lt hn), hB⟩⟩
theorem Mine.le {k : IntKind} {B B' : Nat} {w : World} {v : Value} {n : Nat} {f : Nat → Int} (h : Mine k B w v n f) (hb : B' ≤ B) : Mine k B' w v n f := by
  obtain ⟨ao, c, h1, h2, h3, h4⟩ := h
  exact ⟨ao, c, h1, h2, h3, fun hn => let ⟨b, off, e, hc, hs, hB⟩ := h4 hn; ⟨b, off, e, hc, hs, Nat.le_trans hb hB⟩⟩
theorem Nums.congr {k : IntKind} {w : World} {v : Value} {n : Nat} {f g : Nat → Int} (h : Nums k w v n f) (e : ∀ i, i < n → f i = g i) : Nums k w v n g := by
  obtain ⟨ao, c, h1, h2, h3, h4⟩ := h
  exact ⟨ao, c, h1, h2, h3, fun hn => let ⟨b, off, e', hc⟩ := h4 hn; ⟨b, off, e', hc.congr e⟩⟩
theorem Mine.congr {k : IntKind} {B : Nat} {w : World} {v : Value} {n : Nat} {f g : Nat → Int} (h : Mine k B w v n f) (e : ∀ i, i < n → f i = g i) : Mine k B w v n g := by
  obtain ⟨ao, c, h1, h2, h3, h4⟩ := h
  exact ⟨ao, c, h1, h2, h3, fun hn => let ⟨b, off, e', hc, r⟩ := h4 hn; ⟨b, off, e', hc.congr e, r⟩⟩
theorem Nums.upd {k : IntKind} {w w' : World} {v : Value} {n b off m : Nat} {f : Nat → Int} (h : Nums k w v n f) (u : Upd w w' b off m) (hne : ∀ b' off' c, v = .slice (some ⟨b', off', none⟩) n c → 0 < n → b' ≠ b) : Nums k w' v n f := by
  obtain ⟨ao, c, h1, h2, h3, h4⟩ := h
  refine ⟨ao, c, h1, h2, h3, fun hn => ?_⟩
  obtain ⟨b', off', e, hc⟩ := h4 hn
  exact ⟨b', off', e, hc.upd u (.inl (hne b' off' c (by rw [h1, e]) hn))⟩

/-- Of the blocks below B only the n cells from off on in block b may have turned. -/
structure UpdB (B : Nat) (w w' : World) (b off n : Nat) : Prop where
  os : w'.os = w.os
  tape : w'.tape = w.tape
  output : w'.output = w.output
  size : w.heap.size ≤ w'.heap.size
  block : ∀ k, k < B → k ≠ b → w'.heap[k]? = w.heap[k]?
  cell : ∀ o, (o < off ∨ off + n ≤ o) → w'.cell? ⟨b, o, none⟩ = w.cell? ⟨b, o, none⟩
  froz : ∀ o, w'.frozen? ⟨b, o, none⟩ = w.frozen? ⟨b, o, none⟩

theorem UpdB.refl (B : Nat) (w : World) (b off n : Nat) : UpdB B w w b off n := ⟨rfl, rfl, rfl, Nat.le_refl _, fun _ _ _ => rfl, fun _ _ => rfl, fun _ => rfl⟩
theorem UpdB.trans {B : Nat} {w w1 w2 : World} {b off n : Nat} (h : UpdB B w w1 b off n) (g : UpdB B w1 w2 b off n) : UpdB B w w2 b off n :=
  ⟨g.os.trans h.os, g.tape.trans h.tape, g.output.trans h.output, Nat.le_trans h.size g.size, fun k hk hb => (g.block k hk hb).trans (h.block k hk hb),
   fun o ho => (g.cell o ho).trans (h.cell o ho), fun o => (g.froz o).trans (h.froz o)⟩
theorem UpdB.mono {B B' : Nat} {w w' : World} {b off n : Nat} (h : UpdB B w w' b off n) (hB : B' ≤ B) : UpdB B' w w' b off n :=
  ⟨h.os, h.tape, h.output, h.size, fun k hk hb => h.block k (by omega) hb, h.cell, h.froz⟩
theorem UpdB.of_below {B : Nat} {w w' : World} {b off n : Nat} (h : Below B w w') (hb : b < B) : UpdB B w w' b off n :=
  ⟨h.os, h.tape, h.output, h.size, fun k hk _ => h.block k hk, fun _ _ => h.cell hb, fun _ => h.frozen hb⟩
theorem UpdB.below {B B' : Nat} {w w' : World} {b off n : Nat} (h : UpdB B w w' b off n) (h1 : B' ≤ b) (h2 : B' ≤ B) : Below B' w w' :=
  ⟨h.os, h.tape, h.output, h.size, fun k hk => h.block k (by omega) (by omega)⟩
/-- Behind 'make': so many zeros, in a block of the call's own. -/
theorem mine_made {k : IntKind} {w w' : World} {e : TypeId} {n cap : Nat} {xs : List Value} (h : w'.ownsRow w.heap.size e 1 (.slice (some ⟨w.heap.size, 0, none⟩) n cap) n xs)
    (f : Nat → Int) (hx : ∀ i, i < n → xs[i]? = some (.int k (f i))) : Cells w' k w.heap.size 0 n f ∧ Soft w' w.heap.size 0 n := by
  refine ⟨fun i hi => ?_, fun i _ => ?_⟩
  · rw [Nat.zero_add, h.cellAt i (by omega)]; exact hx i hi
  · rw [Nat.zero_add]; exact h.frozenAt i
theorem made_zero (k : IntKind) (n i : Nat) (hi : i < n) : (madeCells (Value.int k 0).cells (n * 1)).toList[i]? = some (Value.int k 0) := by
  have : (Value.int k 0).cells = #[Value.int k 0] := rfl
  rw [this, toList_madeCells_one, Nat.mul_one]; simp [hi]
theorem below_grown {w w' : World} (h : w.grownBy w' none) : Below w.heap.size w w' :=
  (Below.refl _ w).grown h (Nat.le_refl _) (by simp)

theorem val_put (B : Nat) (f : Nat → Int) (n j : Nat) (v : Int) (hj : j < n) : val B (put f j v) n = val B f n + (v - f j) * (B : Int) ^ j := by
 induction n with
 | zero => omega
 | succ n ih =>
  simp only [val]
  by_cases e : j = n
  ·subst e
   rw [put_same, val_congr j (fun i hi => put_other f j i v (by omega)), Int.sub_mul]; omega
  ·rw [put_other f j n v (by omega), ih (by omega)]; omega

theorem carry_step (W t h p V : Int) : V + (t % W - h) * p + t / W * (p * W) = V + (t - h) * p := by
 have e := Int.emod_add_mul_ediv t W
 have e2 : t / W * (p * W) = W * (t / W) * p := by rw [Int.mul_comm p W, ← Int.mul_assoc, Int.mul_comm (t / W) W]
 rw [e2, Int.add_assoc, ← Int.add_mul]
 have : t % W - h + W * (t / W) = t - h := by omega
 rw [this]

/-- One digit of a row of a product. -/
theorem mul_step (B : Nat) (h h0 fa : Nat → Int) (N i j : Nat) (c x t : Int) (hj : i + j < N) (ht : t = c + (x * fa j + h (i + j)))
  (hv : val B h N + c * (B : Int) ^ (i + j) = val B h0 N + x * val B fa j * (B : Int) ^ i) :
  val B (put h (i + j) (t % B)) N + t / B * (B : Int) ^ (i + (j + 1)) = val B h0 N + x * val B fa (j + 1) * (B : Int) ^ i := by
 have e1 : (B : Int) ^ (i + (j + 1)) = (B : Int) ^ (i + j) * B := by rw [← Nat.add_assoc, Int.pow_succ]
 rw [val_put B h N (i + j) _ hj, e1, carry_step, ht]
 have e2 : c + (x * fa j + h (i + j)) - h (i + j) = c + x * fa j := by omega
 simp only [val]
 rw [e2, Int.add_mul, ← Int.add_assoc, hv, Int.mul_add, Int.add_mul, Int.add_assoc]
 have e3 : x * fa j * (B : Int) ^ (i + j) = x * (fa j * (B : Int) ^ j) * (B : Int) ^ i := by
  rw [Nat.add_comm i j, Int.pow_add, ← Int.mul_assoc, ← Int.mul_assoc]
 rw [e3]

theorem mul_row_end (B : Nat) (h h0 fa fb : Nat → Int) (N i la : Nat) (c : Int) (hj : i + la < N) (hz : h (i + la) = 0)
  (hv : val B h N + c * (B : Int) ^ (i + la) = val B h0 N + fb i * val B fa la * (B : Int) ^ i) (h0v : val B h0 N = val B fa la * val B fb i) :
  val B (put h (i + la) c) N = val B fa la * val B fb (i + 1) := by
 rw [val_put B h N (i + la) c hj, hz, Int.sub_zero, hv, h0v]
 simp only [val]
 rw [Int.mul_add, Int.mul_comm (fb i) (val B fa la), Int.mul_assoc]

theorem mul_le_mul32 (x y : Int) (h0 : 0 ≤ x) (h1 : x < 4294967296) (h2 : 0 ≤ y) (h3 : y < 4294967296) : 0 ≤ x * y ∧ x * y ≤ 18446744065119617025 := by
 refine ⟨Int.mul_nonneg h0 h2, ?_⟩
 have a := Int.mul_le_mul_of_nonneg_right (show x ≤ 4294967295 by omega) h2
 omega

theorem put_bounds {B : Int} {f : Nat → Int} {n j : Nat} {v : Int} (h : ∀ i, i < n → 0 ≤ f i ∧ f i < B) (h0 : 0 ≤ v) (h1 : v < B) : ∀ i, i < n → 0 ≤ put f j v i ∧ put f j v i < B := by
 intro i hi
 unfold put; split
 ·exact ⟨h0, h1⟩
 ·exact h i hi

/-- What is known: the divisor's two highest limbs h, g and the rest's three highest, T (two of them) and e. -/
structure Kn (h g T e P D R : Int) : Prop where
 h0 : 2147483648 ≤ h
 h1 : h < 4294967296
 g0 : 0 ≤ g
 g1 : g < 4294967296
 T0 : 0 ≤ T
 e0 : 0 ≤ e
 e1 : e < 4294967296
 P0 : 1 ≤ P
 D0 : (h * 4294967296 + g) * P ≤ D
 D1 : D < (h * 4294967296 + g + 1) * P
 R0 : (T * 4294967296 + e) * P ≤ R
 R1 : R < (T * 4294967296 + e + 1) * P
 fit : R < D * 4294967296

theorem mul_mono {a b c : Int} (h : a ≤ b) (hc : 0 ≤ c) : a * c ≤ b * c := Int.mul_le_mul_of_nonneg_right h hc

theorem Kn.Dpos {h g T e P D R : Int} (k : Kn h g T e P D R) : 0 < D := by
 have h1 := k.D0
 have h2 : 1 * 1 ≤ (h * 4294967296 + g) * P := Int.mul_le_mul (by have := k.h0; have := k.g0; omega) k.P0 (by omega) (by have := k.h0; have := k.g0; omega)
 omega

theorem Kn.start {h g T e P D R : Int} (k : Kn h g T e P D R) : R < (T / h + 1) * D := by
 have hp : 0 < h := by have := k.h0; omega
 have e1 := Int.lt_ediv_add_one_mul_self T hp
 have hq : 0 ≤ T / h := Int.ediv_nonneg k.T0 (by omega)
 have a1 : (T * 4294967296 + e + 1) * P ≤ ((T / h + 1) * h * 4294967296) * P := mul_mono (by have := k.e1; omega) (by have := k.P0; omega)
 have a2 : (T / h + 1) * ((h * 4294967296 + g) * P) ≤ (T / h + 1) * D := Int.mul_le_mul_of_nonneg_left k.D0 (by omega)
 have a3 : ((T / h + 1) * h * 4294967296) * P ≤ (T / h + 1) * ((h * 4294967296 + g) * P) := by
  rw [Int.mul_assoc (T / h + 1) h, Int.mul_assoc (T / h + 1)]
  exact Int.mul_le_mul_of_nonneg_left (mul_mono (by have := k.g0; omega) (by have := k.P0; omega)) (by omega)
 have := k.R1
 omega

theorem Kn.big {h g T e P D R q : Int} (k : Kn h g T e P D R) (hq : 4294967296 ≤ q) : R < q * D := by
 have := k.fit
 have a := mul_mono hq (Int.le_of_lt k.Dpos)
 rw [Int.mul_comm D] at this
 omega

theorem Kn.test {h g T e P D R q r : Int} (k : Kn h g T e P D R) (hq : 0 ≤ q) (hr : q * h + r = T) (ht : r * 4294967296 + e < q * g) : R < q * D := by
 have a1 : q * ((h * 4294967296 + g) * P) ≤ q * D := Int.mul_le_mul_of_nonneg_left k.D0 hq
 have a2 : q * ((h * 4294967296 + g) * P) = (q * h * 4294967296 + q * g) * P := by
  rw [← Int.mul_assoc, Int.mul_add, ← Int.mul_assoc]
 have a3 : (T * 4294967296 + e + 1) * P ≤ (q * h * 4294967296 + q * g) * P := mul_mono (by omega) (by have := k.P0; omega)
 have := k.R1
 omega

theorem Kn.done {h g T e P D R q r : Int} (k : Kn h g T e P D R) (hq : 0 ≤ q) (hq1 : q < 4294967296) (hr : q * h + r = T) (ht : q * g ≤ r * 4294967296 + e) : q * D < R + D := by
 have b1 : q * D ≤ q * ((h * 4294967296 + g + 1) * P) := Int.mul_le_mul_of_nonneg_left (Int.le_of_lt k.D1) hq
 have b2 : q * ((h * 4294967296 + g + 1) * P) = (q * h * 4294967296 + q * g) * P + q * P := by
  rw [← Int.mul_assoc, Int.mul_add, Int.mul_add, ← Int.mul_assoc, Int.mul_one, Int.add_mul]
 have b3 : (q * h * 4294967296 + q * g) * P ≤ (T * 4294967296 + e) * P := mul_mono (by omega) (by have := k.P0; omega)
 have b4 : q * P < (h * 4294967296 + g) * P := Int.mul_lt_mul_of_pos_right (by have := k.h0; have := k.g0; omega) (by have := k.P0; omega)
 have := k.R0
 have := k.D0
 omega

/-- The first guess is at most two above what a limb holds. -/
theorem Kn.top {h g T e P D R rn rm : Int} (k : Kn h g T e P D R) (hT : T = rn * 4294967296 + rm) (h0 : 0 ≤ rm) (h1 : rm < 4294967296) : rn ≤ h := by
 by_cases q : rn ≤ h
 ·exact q
 ·exfalso
  have a1 : ((h + 1) * 4294967296 * 4294967296) * P ≤ (T * 4294967296 + e) * P := mul_mono (by have := k.e0; omega) (by have := k.P0; omega)
  have a2 : D * 4294967296 ≤ (h * 4294967296 + g + 1) * P * 4294967296 := mul_mono (Int.le_of_lt k.D1) (by omega)
  have a3 : (h * 4294967296 + g + 1) * P * 4294967296 ≤ ((h + 1) * 4294967296 * 4294967296) * P := by
   rw [Int.mul_assoc, Int.mul_comm P, ← Int.mul_assoc]
   exact mul_mono (by have := k.g1; omega) (by have := k.P0; omega)
  have := k.fit
  have := k.R0
  omega

/-- From rows of limbs. -/
theorem kn_rows (m : Nat) (fb fr : Nat → Int) (hb : ∀ i, i < m + 2 → 0 ≤ fb i ∧ fb i < (W32 : Int)) (hr : ∀ i, i < m + 3 → 0 ≤ fr i ∧ fr i < (W32 : Int)) (htop : 2147483648 ≤ fb (m + 1))
  (hfit : val W32 fr (m + 3) < val W32 fb (m + 2) * 4294967296) :
  Kn (fb (m + 1)) (fb m) (fr (m + 2) * 4294967296 + fr (m + 1)) (fr m) ((W32 : Int) ^ m) (val W32 fb (m + 2)) (val W32 fr (m + 3)) := by
 have c : (W32 : Int) = 4294967296 := rfl
 have hp := powB_pos W32 (by decide) m
 have v1 := val_bounds W32 fb m (fun i hi => hb i (by omega))
 have v2 := val_bounds W32 fr m (fun i hi => hr i (by omega))
 have b0 := hb m (by omega)
 have b1 := hb (m + 1) (by omega)
 have r0 := hr m (by omega)
 have r1 := hr (m + 1) (by omega)
 have r2 := hr (m + 2) (by omega)
 have eD : val W32 fb (m + 2) = val W32 fb m + (fb (m + 1) * 4294967296 + fb m) * (W32 : Int) ^ m := by
  simp only [val]
  rw [Int.pow_succ, Int.mul_comm ((W32 : Int) ^ m), ← Int.mul_assoc, Int.add_mul, c]; omega
 have eR : val W32 fr (m + 3) = val W32 fr m + ((fr (m + 2) * 4294967296 + fr (m + 1)) * 4294967296 + fr m) * (W32 : Int) ^ m := by
  simp only [val]
  have e1 : fr (m + 1) * (W32 : Int) ^ (m + 1) = fr (m + 1) * 4294967296 * (W32 : Int) ^ m := by rw [Int.pow_succ, Int.mul_comm ((W32 : Int) ^ m), ← Int.mul_assoc, c]
  have e2 : fr (m + 2) * (W32 : Int) ^ (m + 2) = fr (m + 2) * 4294967296 * 4294967296 * (W32 : Int) ^ m := by
   rw [Int.pow_succ, Int.pow_succ, Int.mul_comm ((W32 : Int) ^ m), Int.mul_comm _ (W32 : Int), ← Int.mul_assoc, ← Int.mul_assoc, c]
  rw [e1, e2, Int.add_mul, Int.add_mul, Int.add_mul]; omega
 rw [c] at b0 b1 r0 r1 r2
 generalize (W32 : Int) ^ m = P at *
 refine ⟨htop, b1.2, b0.1, b0.2, by omega, r0.1, r0.2, by omega, by omega, ?_, by omega, ?_, hfit⟩
 ·rw [eD, Int.add_mul _ 1, Int.one_mul]; omega
 ·rw [eR, Int.add_mul _ 1, Int.one_mul]; omega

end Go.Proofs.YthkamfddbiheoaaGreatDoor
