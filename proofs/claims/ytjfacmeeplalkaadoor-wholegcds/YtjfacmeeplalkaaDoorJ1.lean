/-
  Texts of mine, joined: what lies beneath the statement.
-/
import Derived.WalkKit
import Derived.WalkSpells
import Derived.Test.YtjfacmeeplalkaaDoorProg
import Derived.WalkLawsBesides
import Derived.BigQuiet
import Derived.Handy
import Derived.Deep.RegionWith
import Derived.Deep.QuietTactic
import Derived.RegionTactic
import Derived.Laws.BytesArg
import Derived.Lib.OthersKept
import Derived.Laws.CopyOwn
import Derived.Lib.Walk
import Derived.Lib.BitFns
import Derived.Laws.ShiftsVarLaws
import Derived.Deep.RegionHeld3
import Derived.Lib.TrailingZeros
/-
  Plain facts about numbers written in digits to a base (no program in sight): what a row of digits is worth, which digits a number has, and how many.
-/
namespace Go.Proofs.YtjfacmeeplalkaaDoor
open Go.RowKit

/-- What the first n digits f are worth to the base B, the lowest first. -/
def val (B : Nat) (f : Nat → Int) : Nat → Int
  | 0 => 0
  | n + 1 => val B f n + f n * (B : Int) ^ n

/-- The digit i of m to the base B. -/
def dg (B m i : Nat) : Int := ((m / B ^ i % B : Nat) : Int)

/-- How many digits are left of the first n without zeros on top. -/
def sz (f : Nat → Int) : Nat → Nat
  | 0 => 0
  | n + 1 => if f n = 0 then sz f n else n + 1

/-- How many digits m has to the base B: by counting up to m (B is at least 2). -/
def nl (B m : Nat) : Nat := sz (dg B m) m

theorem sz_le (f : Nat → Int) (n : Nat) : sz f n ≤ n := by
  induction n with
  | zero => simp [sz]
  | succ n ih => simp only [sz]; split <;> omega

theorem sz_top (f : Nat → Int) (n : Nat) (h : 0 < sz f n) : f (sz f n - 1) ≠ 0 := by
  induction n with
  | zero => simp [sz] at h
  | succ n ih =>
    simp only [sz] at h ⊢
    split
    · rename_i e; rw [if_pos e] at h; exact ih h
    · simpa using ‹_›

theorem sz_above (f : Nat → Int) (n i : Nat) (h : sz f n ≤ i) (hi : i < n) : f i = 0 := by
  induction n with
  | zero => omega
  | succ n ih =>
    simp only [sz] at h
    split at h
    · rename_i e
      by_cases hin : i = n
      · rw [hin]; exact e
      · exact ih h (by omega)
    · omega

theorem sz_congr {f g : Nat → Int} (n : Nat) (h : ∀ i, i < n → f i = g i) : sz f n = sz g n := by
  induction n with
  | zero => rfl
  | succ n ih => simp only [sz]; rw [h n (by omega), ih (fun i hi => h i (by omega))]

/-- The number of digits is told by its two properties. -/
theorem sz_unique (f : Nat → Int) (n k : Nat) (hk : k ≤ n) (htop : 0 < k → f (k - 1) ≠ 0) (hz : ∀ i, k ≤ i → i < n → f i = 0) : sz f n = k := by
  have h1 := sz_le f n
  by_cases h : sz f n < k
  · have := sz_above f n (k - 1) (by omega) (by omega)
    exact absurd this (htop (by omega))
  · by_cases h' : k < sz f n
    · have := sz_top f n (by omega)
      exact absurd (hz (sz f n - 1) (by omega) (by omega)) this
    · omega

theorem sz_stays (f : Nat → Int) (n k : Nat) (hk : k ≤ n) (hz : ∀ i, k ≤ i → i < n → f i = 0) : sz f n = sz f k := by
  refine sz_unique f n (sz f k) (Nat.le_trans (sz_le f k) hk) (fun h => sz_top f k h) (fun i h1 h2 => ?_)
  by_cases h : i < k
  · exact sz_above f k i h1 h
  · exact hz i (by omega) h2

theorem val_congr {B : Nat} {f g : Nat → Int} (n : Nat) (h : ∀ i, i < n → f i = g i) : val B f n = val B g n := by
  induction n with
  | zero => rfl
  | succ n ih => simp only [val]; rw [h n (by omega), ih (fun i hi => h i (by omega))]

theorem val_zero {B : Nat} {f : Nat → Int} (n : Nat) (h : ∀ i, i < n → f i = 0) : val B f n = 0 := by
  induction n with
  | zero => rfl
  | succ n ih => simp only [val]; rw [h n (by omega), ih (fun i hi => h i (by omega))]; simp

theorem val_add (B : Nat) (f : Nat → Int) (n k : Nat) : val B f (n + k) = val B f n + val B (fun i => f (n + i)) k * (B : Int) ^ n := by
  induction k with
  | zero => simp [val]
  | succ k ih =>
    rw [show n + (k + 1) = (n + k) + 1 from rfl]
    simp only [val]
    rw [ih, Int.add_mul, Int.mul_assoc, ← Int.pow_add, Nat.add_comm k n, Int.add_assoc]

theorem val_stays (B : Nat) (f : Nat → Int) (n k : Nat) (hk : k ≤ n) (hz : ∀ i, k ≤ i → i < n → f i = 0) : val B f n = val B f k := by
  obtain ⟨d, rfl⟩ := Nat.exists_eq_add_of_le hk
  rw [val_add, val_zero d (fun i hi => hz _ (by omega) (by omega))]; simp

theorem val_sz (B : Nat) (f : Nat → Int) (n : Nat) : val B f n = val B f (sz f n) :=
  val_stays B f n _ (sz_le f n) (fun i h1 h2 => sz_above f n i h1 h2)

theorem powB_pos (B : Nat) (hB : 0 < B) (n : Nat) : 0 < (B : Int) ^ n := by
  have : 0 < B ^ n := Nat.pow_pos hB
  have e : ((B ^ n : Nat) : Int) = (B : Int) ^ n := by simp
  omega

theorem val_bounds (B : Nat) (f : Nat → Int) (n : Nat) (h : ∀ i, i < n → 0 ≤ f i ∧ f i < B) : 0 ≤ val B f n ∧ val B f n < (B : Int) ^ n := by
  induction n with
  | zero => simp [val]
  | succ n ih =>
    have ⟨h1, h2⟩ := ih (fun i hi => h i (by omega))
    have ⟨h3, h4⟩ := h n (by omega)
    have hp : 0 < (B : Int) ^ n := by
      apply powB_pos
      have := h n (by omega); omega
    simp only [val]
    have e : (B : Int) ^ (n + 1) = B * (B : Int) ^ n := by rw [Int.pow_succ, Int.mul_comm]
    rw [e]
    constructor
    · have := Int.mul_nonneg h3 (Int.le_of_lt hp); omega
    · have h5 : f n * (B : Int) ^ n ≤ ((B : Int) - 1) * (B : Int) ^ n := Int.mul_le_mul_of_nonneg_right (by omega) (Int.le_of_lt hp)
      rw [Int.sub_mul, Int.one_mul] at h5
      omega

/-- Digits are told by what they are worth. -/
theorem val_digit (B : Nat) (f : Nat → Int) (n m : Nat) (h : ∀ i, i < n → 0 ≤ f i ∧ f i < B) (hm : val B f n = (m : Int)) : ∀ i, i < n → f i = dg B m i := by
  intro i hi
  have hB : 0 < B := by have := h i hi; omega
  obtain ⟨d, rfl⟩ := Nat.exists_eq_add_of_le (show i + 1 ≤ n by omega)
  have hlow := val_bounds B f i (fun j hj => h j (by omega))
  rw [val_add] at hm
  simp only [val] at hm
  have hp := powB_pos B hB i
  have e : (B : Int) ^ (i + 1) = (B : Int) * (B : Int) ^ i := by rw [Int.pow_succ, Int.mul_comm]
  rw [e] at hm
  have hd := (h i hi)
  generalize val B (fun j => f (i + 1 + j)) d = t at hm
  have hq : (m : Int) / (B : Int) ^ i = f i + t * B := by
    have : (m : Int) = val B f i + (f i + t * B) * (B : Int) ^ i := by
      rw [← hm, Int.add_mul, Int.mul_assoc]; omega
    rw [this, Int.add_mul_ediv_right _ _ (by omega), Int.ediv_eq_zero_of_lt hlow.1 hlow.2]; omega
  unfold dg
  simp only [Int.natCast_emod, Int.natCast_ediv, Int.natCast_pow]
  rw [hq, Int.add_mul_emod_self_right, Int.emod_eq_of_lt hd.1 hd.2]

theorem dg_bounds (B m i : Nat) (hB : 0 < B) : 0 ≤ dg B m i ∧ dg B m i < B := by
  unfold dg
  have := Nat.mod_lt (m / B ^ i) hB
  omega

theorem val_dg (B m n : Nat) : val B (dg B m) n = ((m % B ^ n : Nat) : Int) := by
  induction n with
  | zero => simp [val, Nat.mod_one]
  | succ n ih =>
    simp only [val]
    rw [ih]
    unfold dg
    have : m % B ^ (n + 1) = m % B ^ n + B ^ n * (m / B ^ n % B) := by rw [Nat.pow_succ, Nat.mod_mul]
    rw [this]
    simp [Int.mul_comm]

theorem lt_pow_self' (B m : Nat) (hB : 2 ≤ B) : m < B ^ m := Nat.lt_pow_self (by omega)

theorem dg_high (B m i : Nat) (h : m < B ^ i) : dg B m i = 0 := by
  unfold dg; rw [Nat.div_eq_of_lt h]; simp

theorem nl_spec (B m n : Nat) (hB : 2 ≤ B) (h : m < B ^ n) : nl B m = sz (dg B m) n := by
  unfold nl
  have hz : ∀ i k, m < B ^ k → k ≤ i → dg B m i = 0 := fun i k hk hi =>
    dg_high B m i (Nat.lt_of_lt_of_le hk (Nat.pow_le_pow_right (by omega) hi))
  by_cases hmn : m ≤ n
  · exact (sz_stays _ n m hmn (fun i h1 _ => hz i m (lt_pow_self' B m hB) h1)).symm
  · exact sz_stays _ m n (by omega) (fun i h1 _ => hz i n h h1)

theorem lt_pow_nl (B m : Nat) (hB : 2 ≤ B) : m < B ^ nl B m := by
  have h := val_dg B m m
  rw [Nat.mod_eq_of_lt (lt_pow_self' B m hB), val_sz] at h
  have hb := val_bounds B (dg B m) (sz (dg B m) m) (fun i _ => dg_bounds B m i (by omega))
  unfold nl
  rw [h] at hb
  have e : ((B ^ sz (dg B m) m : Nat) : Int) = (B : Int) ^ sz (dg B m) m := by simp
  omega

theorem nl_le (B m n : Nat) (hB : 2 ≤ B) (h : m < B ^ n) : nl B m ≤ n := by rw [nl_spec B m n hB h]; exact sz_le _ _

theorem nl_top (B m : Nat) (h : 0 < nl B m) : dg B m (nl B m - 1) ≠ 0 := sz_top _ _ h

theorem pow_le_of_nl (B m : Nat) (h : 0 < nl B m) : B ^ (nl B m - 1) ≤ m := by
  by_cases hlt : m < B ^ (nl B m - 1)
  · exact absurd (dg_high B m _ hlt) (nl_top B m h)
  · omega

theorem nl_zero (B : Nat) : nl B 0 = 0 := by simp [nl, sz]
theorem nl_eq_zero (B m : Nat) (hB : 2 ≤ B) : nl B m = 0 ↔ m = 0 := by
  constructor
  · intro h; have := lt_pow_nl B m hB; rw [h] at this; simp at this; exact this
  · intro h; rw [h]; exact nl_zero B

theorem val_nl (B m : Nat) (hB : 2 ≤ B) : val B (dg B m) (nl B m) = (m : Int) := by
  rw [val_dg, Nat.mod_eq_of_lt (lt_pow_nl B m hB)]

/-- Digits without zeros on top that are worth m: just those of m, just so many. -/
theorem sz_val (B : Nat) (hB : 2 ≤ B) (f : Nat → Int) (n m : Nat) (h : ∀ i, i < n → 0 ≤ f i ∧ f i < B) (hm : val B f n = (m : Int)) : sz f n = nl B m := by
  have hlt : m < B ^ n := by
    have hb := (val_bounds B f n h).2
    rw [hm] at hb
    have e : ((B ^ n : Nat) : Int) = (B : Int) ^ n := by simp
    omega
  rw [nl_spec B m n hB hlt]
  exact sz_congr n (val_digit B f n m h hm)

/-! ### limbs of 32 bits -/
/-- The base of the limbs. -/
abbrev W32 : Nat := 4294967296

theorem and_mask (x : Int) (h0 : 0 ≤ x) (h1 : x < 18446744073709551616) : bits .and .u64 x 4294967295 = x % 4294967296 := by
  rw [u64_and x 4294967295 h0 h1 (by omega) (by omega)]
  have : (4294967295 : Int).toNat = 2 ^ 32 - 1 := by decide
  rw [this, Nat.and_two_pow_sub_one_eq_mod]
  omega

theorem or_join (x y : Int) (h0 : 0 ≤ y) (h1 : y < 4294967296) : bits .or .u64 (IntKind.u64.wrap (x * 4294967296)) y = x % 4294967296 * 4294967296 + y := by
  rw [IntKind.wrap_u64]
  have e : x * 4294967296 % 18446744073709551616 = x % 4294967296 * 4294967296 := by omega
  rw [e, u64_or _ _ (by omega) (by omega) h0 (by omega)]
  have hn := nat_join 32 (x % 4294967296 * 4294967296).toNat y.toNat (by
    have : (x % 4294967296 * 4294967296).toNat = (x % 4294967296).toNat * 2 ^ 32 := by omega
    rw [this]; exact Nat.mul_mod_left _ _) (by omega)
  rw [hn]; omega

theorem or_join' (x y : Int) (g0 : 0 ≤ x) (g1 : x < 4294967296) (h0 : 0 ≤ y) (h1 : y < 4294967296) : bits .or .u64 (x * 4294967296) y = x * 4294967296 + y := by
  have e := or_join x y h0 h1
  have : IntKind.u64.wrap (x * 4294967296) = x * 4294967296 := by rw [IntKind.wrap_u64]; omega
  rw [this] at e; rw [e]; omega

/-- The lowest 32 bits of each limb. -/
def lo (f : Nat → Int) : Nat → Int := fun i => f i % 4294967296
theorem lo_at (f : Nat → Int) (i : Nat) : lo f i = f i % 4294967296 := rfl
theorem lo_bounds (f : Nat → Int) (i : Nat) : 0 ≤ lo f i ∧ lo f i < (W32 : Int) := by unfold lo W32; omega

/-- The number that any limbs are. -/
def num (f : Nat → Int) (n : Nat) : Nat := (val W32 (lo f) n).toNat
theorem num_val (f : Nat → Int) (n : Nat) : val W32 (lo f) n = (num f n : Int) := by
  have := (val_bounds W32 (lo f) n (fun i _ => lo_bounds f i)).1
  unfold num; omega
theorem num_digit (f : Nat → Int) (n i : Nat) (hi : i < n) : f i % 4294967296 = dg W32 (num f n) i :=
  val_digit W32 (lo f) n (num f n) (fun i _ => lo_bounds f i) (num_val f n) i hi
theorem num_sz (f : Nat → Int) (n : Nat) : sz (lo f) n = nl W32 (num f n) :=
  sz_val W32 (by decide) (lo f) n (num f n) (fun i _ => lo_bounds f i) (num_val f n)
theorem num_lt (f : Nat → Int) (n : Nat) : num f n < W32 ^ n := by
  have h := (val_bounds W32 (lo f) n (fun i _ => lo_bounds f i)).2
  rw [num_val] at h
  have e : ((W32 ^ n : Nat) : Int) = (W32 : Int) ^ n := by simp
  omega
/-- Limbs that are below 2^32 are their own lowest bits. -/
theorem num_of (f : Nat → Int) (n m : Nat) (h : ∀ i, i < n → 0 ≤ f i ∧ f i < (W32 : Int)) (hm : val W32 f n = (m : Int)) : num f n = m := by
  have : val W32 (lo f) n = val W32 f n := val_congr n (fun i hi => by unfold lo; have := h i hi; unfold W32 at this; omega)
  unfold num; rw [this, hm]; simp
theorem num_dg (m n : Nat) (h : m < W32 ^ n) : num (dg W32 m) n = m :=
  num_of _ _ _ (fun i _ => dg_bounds W32 m i (by decide)) (by rw [val_dg, Nat.mod_eq_of_lt h])

end Go.Proofs.YtjfacmeeplalkaaDoor

/-
  Plain facts about memory (no program in sight): rows of numbers in a block, what stays of them behind a write, and slices over them.
-/
namespace Go.Proofs.YtjfacmeeplalkaaDoor
open Go.RowKit

/-- The n cells from off on in block b hold the numbers f 0, f 1, .. of kind k. -/
def Cells (w : World) (k : IntKind) (b off n : Nat) (f : Nat → Int) : Prop := ∀ i, i < n → w.cell? ⟨b, off + i, none⟩ = some (.int k (f i))
/-- None of these cells is frozen. -/
def Soft (w : World) (b off n : Nat) : Prop := ∀ i, i < n → w.frozen? ⟨b, off + i, none⟩ = false

/-- The function f with v at j. -/
def put (f : Nat → Int) (j : Nat) (v : Int) : Nat → Int := fun i => if i = j then v else f i
theorem put_same (f : Nat → Int) (j : Nat) (v : Int) : put f j v j = v := by simp [put]
theorem put_other (f : Nat → Int) (j i : Nat) (v : Int) (h : i ≠ j) : put f j v i = f i := by simp [put, h]

/-- Of what was there only the n cells from off on in block b may have turned. -/
structure Upd (w w' : World) (b off n : Nat) : Prop where
  os : w'.os = w.os
  tape : w'.tape = w.tape
  output : w'.output = w.output
  size : w.heap.size ≤ w'.heap.size
  block : ∀ k, k < w.heap.size → k ≠ b → w'.heap[k]? = w.heap[k]?
  cell : ∀ o, (o < off ∨ off + n ≤ o) → w'.cell? ⟨b, o, none⟩ = w.cell? ⟨b, o, none⟩
  froz : ∀ o, w'.frozen? ⟨b, o, none⟩ = w.frozen? ⟨b, o, none⟩

theorem Upd.refl (w : World) (b off n : Nat) : Upd w w b off n := ⟨rfl, rfl, rfl, Nat.le_refl _, fun _ _ _ => rfl, fun _ _ => rfl, fun _ => rfl⟩
theorem Upd.trans {w w1 w2 : World} {b off n : Nat} (h : Upd w w1 b off n) (g : Upd w1 w2 b off n) : Upd w w2 b off n :=
  ⟨g.os.trans h.os, g.tape.trans h.tape, g.output.trans h.output, Nat.le_trans h.size g.size, fun k hk hb => (g.block k (Nat.lt_of_lt_of_le hk h.size) hb).trans (h.block k hk hb),
   fun o ho => (g.cell o ho).trans (h.cell o ho), fun o => (g.froz o).trans (h.froz o)⟩
theorem Upd.mono {w w' : World} {b off n off' n' : Nat} (h : Upd w w' b off n) (h1 : off' ≤ off) (h2 : off + n ≤ off' + n') : Upd w w' b off' n' :=
  ⟨h.os, h.tape, h.output, h.size, h.block, fun o ho => h.cell o (by omega), h.froz⟩
theorem Upd.set {w : World} {b off n : Nat} (j : Nat) (hj : j < n) (v : Value) : Upd w (w.setCell ⟨b, off + j, none⟩ v) b off n :=
  ⟨rfl, rfl, rfl, by simp, fun k _ hb => Below.heap_setCell _ _ _ _ hb, fun o ho => World.cell?_setCell_other _ _ _ _ (fun e => by injection e; omega), fun o => by simp⟩
theorem Upd.drew {w w' : World} {b off n : Nat} (h : Upd w w' b off n) : Upd w w'.drew b off n := ⟨h.os, h.tape, h.output, h.size, h.block, h.cell, h.froz⟩
theorem Upd.alloc {w w' : World} {b off n : Nat} (h : Upd w w' b off n) (hb : b < w.heap.size) (o : Obj) : Upd w (w'.alloc o) b off n :=
  h.trans ⟨rfl, rfl, rfl, by simp, fun k hk _ => Below.heap_alloc _ _ _ hk, fun p _ => World.cell?_of_block (w := w') (Below.heap_alloc _ _ _ (Nat.lt_of_lt_of_le hb h.size)),
    fun p => World.frozen?_of_block (w := w') (Below.heap_alloc _ _ _ (Nat.lt_of_lt_of_le hb h.size))⟩
theorem Upd.below {w w' : World} {b off n B : Nat} (h : Upd w w' b off n) (hb : B ≤ b) (hB : B ≤ w.heap.size) : Below B w w' :=
  ⟨h.os, h.tape, h.output, h.size, fun k hk => h.block k (by omega) (by omega)⟩
theorem Upd.of_below {w w' : World} {b off n : Nat} (h : Below w.heap.size w w') (hb : b < w.heap.size) : Upd w w' b off n :=
  ⟨h.os, h.tape, h.output, h.size, fun k hk _ => h.block k hk, fun _ _ => h.cell hb, fun _ => h.frozen hb⟩

theorem Cells.below {w w' : World} {k : IntKind} {B b off n : Nat} {f : Nat → Int} (c : Cells w k b off n f) (h : Below B w w') (hb : b < B) : Cells w' k b off n f :=
  fun i hi => (h.cell hb).trans (c i hi)
theorem Soft.below {w w' : World} {B b off n : Nat} (c : Soft w b off n) (h : Below B w w') (hb : b < B) : Soft w' b off n :=
  fun i hi => (h.frozen hb).trans (c i hi)
theorem Cells.lt {w : World} {k : IntKind} {b off n : Nat} {f : Nat → Int} (c : Cells w k b off n f) (hn : 0 < n) : b < w.heap.size :=
  World.block_lt_of_cell? _ _ (c 0 hn)
theorem Cells.upd {w w' : World} {k : IntKind} {b off n b' off' n' : Nat} {f : Nat → Int} (c : Cells w k b off n f) (u : Upd w w' b' off' n') (h : b ≠ b' ∨ off + n ≤ off' ∨ off' + n' ≤ off) : Cells w' k b off n f := by
  intro i hi
  by_cases e : b = b'
  · subst e
    rw [u.cell _ (by omega)]; exact c i hi
  · have hlt := World.block_lt_of_cell? _ _ (c i hi)
    rw [World.cell?_of_block (w := w) (u.block b hlt e)]; exact c i hi
theorem Soft.upd {w w' : World} {b off n b' off' n' : Nat} (c : Soft w b off n) (hlt : b < w.heap.size) (u : Upd w w' b' off' n') : Soft w' b off n := by
  intro i hi
  by_cases e : b = b'
  · subst e; rw [u.froz]; exact c i hi
  · rw [World.frozen?_of_block (w := w) (u.block b hlt e)]; exact c i hi
theorem Cells.set {w : World} {k : IntKind} {b off n : Nat} {f : Nat → Int} (c : Cells w k b off n f) (j : Nat) (hj : j < n) (v : Int) : Cells (w.setCell ⟨b, off + j, none⟩ (.int k v)) k b off n (put f j v) := by
  intro i hi
  by_cases e : i = j
  · subst e; rw [put_same]; exact World.cell?_setCell_same _ _ _ (c i hi)
  · rw [put_other _ _ _ _ e, World.cell?_setCell_other _ _ _ _ (fun h => by injection h; omega)]; exact c i hi
theorem Soft.set {w : World} {b off n : Nat} (c : Soft w b off n) (a : Addr) (v : Value) : Soft (w.setCell a v) b off n := fun i hi => by simp [c i hi]
theorem Cells.congr {w : World} {k : IntKind} {b off n : Nat} {f g : Nat → Int} (c : Cells w k b off n f) (h : ∀ i, i < n → f i = g i) : Cells w k b off n g := fun i hi => by rw [← h i hi]; exact c i hi
theorem Cells.mono {w : World} {k : IntKind} {b off n m : Nat} {f : Nat → Int} (c : Cells w k b off n f) (h : m ≤ n) : Cells w k b off m f := fun i hi => c i (by omega)
theorem Soft.mono {w : World} {b off n m : Nat} (c : Soft w b off n) (h : m ≤ n) : Soft w b off m := fun i hi => c i (by omega)
theorem Cells.from {w : World} {k : IntKind} {b off n : Nat} {f : Nat → Int} (c : Cells w k b off n f) (j m : Nat) (h : j + m ≤ n) : Cells w k b (off + j) m (fun i => f (j + i)) := fun i hi => by
  rw [Nat.add_assoc]; exact c (j + i) (by omega)
theorem Soft.from {w : World} {b off n : Nat} (c : Soft w b off n) (j m : Nat) (h : j + m ≤ n) : Soft w b (off + j) m := fun i hi => by
  rw [Nat.add_assoc]; exact c (j + i) (by omega)

theorem ret_int {k : IntKind} {a b : Int} (h : a = b) : Ending.returned (.int k a) = .returned (.int k b) := by rw [h]
theorem ret_bool {a b : Bool} (h : a = b) : Ending.returned (.bool a) = .returned (.bool b) := by rw [h]
theorem ret_int_bool {k : IntKind} {a b : Int} {c d : Bool} (h : a = b) (g : c = d) : Ending.returned (.tuple #[.int k a, .bool c]) = .returned (.tuple #[.int k b, .bool d]) := by rw [h, g]

/-- No slice here is longer. -/
abbrev LIM : Nat := 1000000000000

/-- The value v is a slice of the n numbers f of kind k. -/
def Nums (k : IntKind) (w : World) (v : Value) (n : Nat) (f : Nat → Int) : Prop :=
  ∃ ao c, v = .slice ao n c ∧ n ≤ c ∧ n ≤ LIM ∧ (0 < n → ∃ b off, ao = some ⟨b, off, none⟩ ∧ Cells w k b off n f)
/-- The same, in a block of the call's own (from B on), which may be written. -/
def Mine (k : IntKind) (B : Nat) (w : World) (v : Value) (n : Nat) (f : Nat → Int) : Prop :=
  ∃ ao c, v = .slice ao n c ∧ n ≤ c ∧ n ≤ LIM ∧ (0 < n → ∃ b off, ao = some ⟨b, off, none⟩ ∧ Cells w k b off n f ∧ Soft w b off n ∧ B ≤ b)

theorem Mine.nums {k : IntKind} {B : Nat} {w : World} {v : Value} {n : Nat} {f : Nat → Int} (h : Mine k B w v n f) : Nums k w v n f := by
  obtain ⟨ao, c, h1, h2, h3, h4⟩ := h
  exact ⟨ao, c, h1, h2, h3, fun hn => let ⟨b, off, e, hc, _⟩ := h4 hn; ⟨b, off, e, hc⟩⟩
theorem Nums.nil (k : IntKind) (w : World) (f : Nat → Int) : Nums k w (.slice none 0 0) 0 f := ⟨none, 0, rfl, Nat.le_refl _, Nat.zero_le _, fun h => absurd h (by omega)⟩
theorem Mine.nil (k : IntKind) (B : Nat) (w : World) (f : Nat → Int) : Mine k B w (.slice none 0 0) 0 f := ⟨none, 0, rfl, Nat.le_refl _, Nat.zero_le _, fun h => absurd h (by omega)⟩
theorem Nums.below {k : IntKind} {w w' : World} {v : Value} {n : Nat} {f : Nat → Int} (h : Nums k w v n f) (hb : Below w.heap.size w w') : Nums k w' v n f := by
  obtain ⟨ao, c, h1, h2, h3, h4⟩ := h
  exact ⟨ao, c, h1, h2, h3, fun hn => let ⟨b, off, e, hc⟩ := h4 hn; ⟨b, off, e, hc.below hb (hc.lt hn)⟩⟩
theorem Mine.below {k : IntKind} {B : Nat} {w w' : World} {v : Value} {n : Nat} {f : Nat → Int} (h : Mine k B w v n f) (hb : Below w.heap.size w w') : Mine k B w' v n f := by
  obtain ⟨ao, c, h1, h2, h3, h4⟩ := h
  exact ⟨ao, c, h1, h2, h3, fun hn => let ⟨b, off, e, hc, hs, hB⟩ := h4 hn; ⟨b, off, e, hc.below hb (hc.lt hn), hs.below hb (hc.lt hn), hB⟩⟩
theorem Mine.le {k : IntKind} {B B' : Nat} {w : World} {v : Value} {n : Nat} {f : Nat → Int} (h : Mine k B w v n f) (hb : B' ≤ B) : Mine k B' w v n f := by
  obtain ⟨ao, c, h1, h2, h3, h4⟩ := h
  exact ⟨ao, c, h1, h2, h3, fun hn => let ⟨b, off, e, hc, hs, hB⟩ := h4 hn; ⟨b, off, e, hc, hs, Nat.le_trans hb hB⟩⟩
theorem Nums.congr {k : IntKind} {w : World} {v : Value} {n : Nat} {f g : Nat → Int} (h : Nums k w v n f) (e : ∀ i, i < n → f i = g i) : Nums k w v n g := by
  obtain ⟨ao, c, h1, h2, h3, h4⟩ := h
  exact ⟨ao, c, h1, h2, h3, fun hn => let ⟨b, off, e', hc⟩ := h4 hn; ⟨b, off, e', hc.congr e⟩⟩
theorem Mine.congr {k : IntKind} {B : Nat} {w : World} {v : Value} {n : Nat} {f g : Nat → Int} (h : Mine k B w v n f) (e : ∀ i, i < n → f i = g i) : Mine k B w v n g := by
  obtain ⟨ao, c, h1, h2, h3, h4⟩ := h
  exact ⟨ao, c, h1, h2, h3, fun hn => let ⟨b, off, e', hc, r⟩ := h4 hn; ⟨b, off, e', hc.congr e, r⟩⟩
theorem Nums.upd {k : IntKind} {w w' : World} {v : Value} {n b off m : Nat} {f : Nat → Int} (h : Nums k w v n f) (u : Upd w w' b off m) (hne : ∀ b' off' c, v = .slice (some ⟨b', off', none⟩) n c → 0 < n → b' ≠ b) : Nums k w' v n f := by
  obtain ⟨ao, c, h1, h2, h3, h4⟩ := h
  refine ⟨ao, c, h1, h2, h3, fun hn => ?_⟩
  obtain ⟨b', off', e, hc⟩ := h4 hn
  exact ⟨b', off', e, hc.upd u (.inl (hne b' off' c (by rw [h1, e]) hn))⟩

/-- Of the blocks below B only the n cells from off on in block b may have turned. -/
structure UpdB (B : Nat) (w w' : World) (b off n : Nat) : Prop where
  os : w'.os = w.os
  tape : w'.tape = w.tape
  output : w'.output = w.output
  size : w.heap.size ≤ w'.heap.size
  block : ∀ k, k < B → k ≠ b → w'.heap[k]? = w.heap[k]?
  cell : ∀ o, (o < off ∨ off + n ≤ o) → w'.cell? ⟨b, o, none⟩ = w.cell? ⟨b, o, none⟩
  froz : ∀ o, w'.frozen? ⟨b, o, none⟩ = w.frozen? ⟨b, o, none⟩

theorem UpdB.refl (B : Nat) (w : World) (b off n : Nat) : UpdB B w w b off n := ⟨rfl, rfl, rfl, Nat.le_refl _, fun _ _ _ => rfl, fun _ _ => rfl, fun _ => rfl⟩
theorem UpdB.trans {B : Nat} {w w1 w2 : World} {b off n : Nat} (h : UpdB B w w1 b off n) (g : UpdB B w1 w2 b off n) : UpdB B w w2 b off n :=
  ⟨g.os.trans h.os, g.tape.trans h.tape, g.output.trans h.output, Nat.le_trans h.size g.size, fun k hk hb => (g.block k hk hb).trans (h.block k hk hb),
   fun o ho => (g.cell o ho).trans (h.cell o ho), fun o => (g.froz o).trans (h.froz o)⟩
theorem UpdB.mono {B B' : Nat} {w w' : World} {b off n : Nat} (h : UpdB B w w' b off n) (hB : B' ≤ B) : UpdB B' w w' b off n :=
  ⟨h.os, h.tape, h.output, h.size, fun k hk hb => h.block k (by omega) hb, h.cell, h.froz⟩
theorem UpdB.wide {B : Nat} {w w' : World} {b off n off' n' : Nat} (h : UpdB B w w' b off n) (h1 : off' ≤ off) (h2 : off + n ≤ off' + n') : UpdB B w w' b off' n' :=
  ⟨h.os, h.tape, h.output, h.size, h.block, fun o ho => h.cell o (by omega), h.froz⟩
theorem UpdB.of_upd {B : Nat} {w w' : World} {b off n : Nat} (h : Upd w w' b off n) (hB : B ≤ w.heap.size) : UpdB B w w' b off n :=
  ⟨h.os, h.tape, h.output, h.size, fun k hk hb => h.block k (by omega) hb, h.cell, h.froz⟩
theorem UpdB.of_below {B : Nat} {w w' : World} {b off n : Nat} (h : Below B w w') (hb : b < B) : UpdB B w w' b off n :=
  ⟨h.os, h.tape, h.output, h.size, fun k hk _ => h.block k hk, fun _ _ => h.cell hb, fun _ => h.frozen hb⟩
theorem UpdB.below {B B' : Nat} {w w' : World} {b off n : Nat} (h : UpdB B w w' b off n) (h1 : B' ≤ b) (h2 : B' ≤ B) : Below B' w w' :=
  ⟨h.os, h.tape, h.output, h.size, fun k hk => h.block k (by omega) (by omega)⟩
theorem Soft.updB {w w' : World} {B b off n off' n' : Nat} (c : Soft w b off n) (u : UpdB B w w' b off' n') : Soft w' b off n := fun i hi => by rw [u.froz]; exact c i hi
theorem Mine.setLow {k : IntKind} {B : Nat} {w : World} {v : Value} {n : Nat} {f : Nat → Int} (h : Mine k B w v n f) {a : Addr} (ha : a.block < B) (u : Value) : Mine k B (w.setCell a u) v n f := by
  obtain ⟨ao, c, h1, h2, h3, h4⟩ := h
  refine ⟨ao, c, h1, h2, h3, fun hn => ?_⟩
  obtain ⟨b, off, e, hc, hs, hB⟩ := h4 hn
  exact ⟨b, off, e, fun i hi => by rw [World.cell?_setCell_other _ _ _ _ (fun e => by rw [e] at ha; simp at ha; omega)]; exact hc i hi, hs.set _ _, hB⟩

/-- Behind 'make': so many zeros, in a block of the call's own. -/
theorem mine_made {k : IntKind} {w w' : World} {e : TypeId} {n cap : Nat} {xs : List Value} (h : w'.ownsRow w.heap.size e 1 (.slice (some ⟨w.heap.size, 0, none⟩) n cap) n xs)
    (f : Nat → Int) (hx : ∀ i, i < n → xs[i]? = some (.int k (f i))) : Cells w' k w.heap.size 0 n f ∧ Soft w' w.heap.size 0 n := by
  refine ⟨fun i hi => ?_, fun i _ => ?_⟩
  · rw [Nat.zero_add, h.cellAt i (by omega)]; exact hx i hi
  · rw [Nat.zero_add]; exact h.frozenAt i
theorem made_zero (k : IntKind) (n i : Nat) (hi : i < n) : (madeCells (Value.int k 0).cells (n * 1)).toList[i]? = some (Value.int k 0) := by
  have : (Value.int k 0).cells = #[Value.int k 0] := rfl
  rw [this, toList_madeCells_one, Nat.mul_one]; simp [hi]
theorem below_grown {w w' : World} (h : w.grownBy w' none) : Below w.heap.size w w' :=
  (Below.refl _ w).grown h (Nat.le_refl _) (by simp)

end Go.Proofs.YtjfacmeeplalkaaDoor

/-
  What nat.size, Zero, Even and limb answer, of any limbs.
-/
namespace Go.Proofs.YtjfacmeeplalkaaDoor
open Go.RowKit

/-- Limbs as they come in: each fits 64 bits. -/
def U64 (n : Nat) (f : Nat → Int) : Prop := ∀ i, i < n → 0 ≤ f i ∧ f i < 18446744073709551616

theorem sz_succ_zero (f : Nat → Int) (k : Nat) (h : (f k % 4294967296 == 0) = true) : sz (lo f) (k + 1) = sz (lo f) k := by
  have : lo f k = 0 := by simpa [lo] using h
  simp [sz, this]
theorem sz_succ_not (f : Nat → Int) (k : Nat) (h : (f k % 4294967296 == 0) = false) : sz (lo f) (k + 1) = k + 1 := by
  have : ¬ lo f k = 0 := by simpa [lo] using h
  simp [sz, this]

set_option maxRecDepth 20000 in
set_option maxHeartbeats 400000 in
theorem size_pos (b off n c : Nat) (f : Nat → Int) (w : World) (hn : n ≤ LIM) (hc : Cells w .u64 b off n f) (hf : U64 n f) :
    Calls Tryd.prog 49 #[.slice (some ⟨b, off, none⟩) n c] w fun e w' => e = .returned (.int .i64 (sz (lo f) n)) ∧ w' = w := by
  unfold LIM at hn
  go_enter Tryd.func49, Tryd.ntmps49
  go_wp2
  go_loop [3] (fun v => ∃ k : Nat, k ≤ n ∧ v = .int .i64 k ∧ sz (lo f) n = sz (lo f) k) (fun v => (intOf v).toNat)
  case atStart => exact ⟨n, Nat.le_refl _, rfl, rfl⟩
  case round =>
    obtain ⟨k, hk, rfl, hs⟩ := hrel
    have HS : Hid (sz (lo f) n = sz (lo f) k) := hs
    clear hs
    cases k with
    | zero =>
      go_wp2
      go_ret
      exact ⟨by rw [HS.out]; rfl, rfl⟩
    | succ k =>
      have hcell := hc k (by omega)
      have hb := hf k (by omega)
      have hm := and_mask (f k) hb.1 hb.2
      have h1 : ((k : Int) + 1 - 1) = k := by omega
      go_wp2
      · exact ⟨⟨k, by omega, rfl, by rw [HS.out]; exact sz_succ_zero f k (by assumption)⟩, by simp [intOf]⟩
      · go_ret
        exact ⟨by rw [HS.out, sz_succ_not f k (by assumption)]; rfl, rfl⟩

set_option maxRecDepth 20000 in
set_option maxHeartbeats 400000 in
theorem size_nil (ao : Option Addr) (c : Nat) (w : World) :
    Calls Tryd.prog 49 #[.slice ao 0 c] w fun e w' => e = .returned (.int .i64 0) ∧ w' = w := by
  go_enter Tryd.func49, Tryd.ntmps49
  go_wp2
  go_rounds 1
  go_ret
  exact ⟨rfl, rfl⟩

theorem size_any (v : Value) (n : Nat) (f : Nat → Int) (w : World) (h : Nums .u64 w v n f) (hf : U64 n f) :
    Calls Tryd.prog 49 #[v] w fun e w' => e = .returned (.int .i64 (sz (lo f) n)) ∧ w' = w := by
  obtain ⟨ao, c, rfl, _, hl, h4⟩ := h
  by_cases hn : n = 0
  · subst hn; exact size_nil ao c w
  · obtain ⟨b, off, rfl, hc⟩ := h4 (by omega)
    exact size_pos b off n c f w hl hc hf

set_option maxRecDepth 20000 in
set_option maxHeartbeats 400000 in
theorem zero_any (v : Value) (n : Nat) (f : Nat → Int) (w : World) (h : Nums .u64 w v n f) (hf : U64 n f) :
    Calls Tryd.prog 32 #[v] w fun e w' => e = .returned (.bool (decide (sz (lo f) n = 0))) ∧ w' = w := by
  go_enter Tryd.func32, Tryd.ntmps32
  go_wp2_with (go_at_call 49; refine (size_any _ _ _ _ h hf).mono ?_; rintro e w' ⟨rfl, rfl⟩)
  go_ret
  exact ⟨ret_bool (by rw [Bool.eq_iff_iff]; simp), rfl⟩

/-- A limb as it stands; 0 past the end. -/
def at0 (f : Nat → Int) (n i : Nat) : Int := if i < n then f i else 0

set_option maxRecDepth 20000 in
set_option maxHeartbeats 400000 in
theorem limb_any (v : Value) (n : Nat) (f : Nat → Int) (w : World) (j : Int) (h : Nums .u64 w v n f) (h0 : 0 ≤ j) (h1 : j ≤ LIM) :
    Calls Tryd.prog 64 #[v, .int .i64 j] w fun e w' => e = .returned (.int .u64 (at0 f n j.toNat)) ∧ w' = w := by
  obtain ⟨i, rfl⟩ := Int.eq_ofNat_of_zero_le h0
  rw [Int.toNat_natCast]
  obtain ⟨ao, c, rfl, _, hl, h4⟩ := h
  unfold LIM at hl h1
  by_cases hi : i < n
  · obtain ⟨b, off, rfl, hc⟩ := h4 (by omega)
    have hcell := hc i hi
    go_enter Tryd.func64, Tryd.ntmps64
    go_wp2
    go_ret
    exact ⟨by simp [at0, hi], rfl⟩
  · go_enter Tryd.func64, Tryd.ntmps64
    go_wp2
    go_ret
    exact ⟨by simp [at0, hi], rfl⟩

/-- What To answers: the number, and whether it is small. -/
def toV (f : Nat → Int) (n : Nat) : Int := if sz (lo f) n ≤ 2 then at0 f n 1 % 4294967296 * 4294967296 + at0 f n 0 % 4294967296 else 0

set_option maxRecDepth 20000 in
set_option maxHeartbeats 400000 in
theorem to_any (v : Value) (n : Nat) (f : Nat → Int) (w : World) (h : Nums .u64 w v n f) (hf : U64 n f) :
    Calls Tryd.prog 47 #[v] w fun e w' => e = .returned (.tuple #[.int .u64 (toV f n), .bool (decide (sz (lo f) n ≤ 2))]) ∧ w' = w := by
  have hb : ∀ i, 0 ≤ at0 f n i ∧ at0 f n i < 18446744073709551616 := by
    intro i; unfold at0; split
    · exact hf i (by assumption)
    · omega
  have hm := and_mask (at0 f n 0) (hb 0).1 (hb 0).2
  by_cases hs : sz (lo f) n ≤ 2
  · go_enter Tryd.func47, Tryd.ntmps47
    go_wp2_with (first | (go_at_call 49; refine (size_any _ _ _ _ h hf).mono ?_; rintro e w' ⟨rfl, rfl⟩) | (go_at_call 64; refine (limb_any _ _ _ _ _ h (by omega) (by unfold LIM; omega)).mono ?_; rintro e w' ⟨rfl, rfl⟩; simp only [Int.toNat_zero, Int.toNat_one]))
    go_ret2
    exact ⟨ret_int_bool (by rw [or_join _ _ (by omega) (by omega), toV, if_pos hs]) (by simp [hs]), rfl⟩
  · go_enter Tryd.func47, Tryd.ntmps47
    go_wp2_with (go_at_call 49; refine (size_any _ _ _ _ h hf).mono ?_; rintro e w' ⟨rfl, rfl⟩)
    go_ret2
    exact ⟨ret_int_bool (by rw [toV, if_neg hs]) (by simp [hs]), rfl⟩

end Go.Proofs.YtjfacmeeplalkaaDoor

/-
  What nat.Of makes: the limbs of a small number; what nat.Right and the document's own Right answer of any limbs.
-/
namespace Go.Proofs.YtjfacmeeplalkaaDoor
open Go.RowKit

/-- May limbs be? Each below 2^32, the last not 0. -/
def rightB (f : Nat → Int) (n : Nat) : Bool := decide ((∀ i, i < n → f i ≤ 4294967295) ∧ (0 < n → f (n - 1) ≠ 0))
theorem rightB_mk (f : Nat → Int) (n : Nat) (h : ∀ i, i < n → f i ≤ 4294967295) (h0 : 0 < n) : rightB f n = (f (n - 1) != 0) := by
  rw [Bool.eq_iff_iff]; simp only [rightB, decide_eq_true_eq, bne_iff_ne]
  exact ⟨fun g => g.2 h0, fun g => ⟨h, fun _ => g⟩⟩
theorem rightB_no (f : Nat → Int) (n k : Nat) (hk : k < n) (h : 4294967295 < f k) : rightB f n = false := by
  simp only [rightB, decide_eq_false_iff_not]
  intro g; have := g.1 k hk; omega
theorem rightB_nil (f : Nat → Int) : rightB f 0 = true := by simp [rightB]

theorem two_limbs (m : Nat) (g : Nat → Int) (n : Nat) (hb : ∀ i, i < n → 0 ≤ g i ∧ g i < (W32 : Int)) (hv : val W32 g n = (m : Int)) (ht : 0 < n → g (n - 1) ≠ 0) :
    nl W32 m = n ∧ ∀ i, i < n → g i = dg W32 m i := by
  have h1 := sz_val W32 (by decide) g n m hb hv
  refine ⟨?_, val_digit W32 g n m hb hv⟩
  rw [← h1]; exact sz_unique g n n (Nat.le_refl _) ht (fun i h1 h2 => by omega)

set_option maxRecDepth 20000 in
set_option maxHeartbeats 400000 in
theorem of_any (m : Int) (w : World) (h0 : 0 ≤ m) (h1 : m < 18446744073709551616) :
    Calls Tryd.prog 37 #[.int .u64 m] w fun e w' => ∃ v, e = .returned v ∧ Mine .u64 w.heap.size w' v (nl W32 m.toNat) (dg W32 m.toNat) ∧ Below w.heap.size w w' := by
  have hz : (m == 0) = true ∨ ((m == 0) = false ∧ m ≤ 4294967295) ∨ ((m == 0) = false ∧ ¬ m ≤ 4294967295) := by
    by_cases e : m = 0
    · left; simp [e]
    · right; have : (m == 0) = false := by simp [e]
      by_cases g : m ≤ 4294967295 <;> simp [this, g]
  have hm := and_mask m h0 h1
  rcases hz with hz | ⟨hz, hg⟩ | ⟨hz, hg⟩
  · go_enter Tryd.func37, Tryd.ntmps37
    go_wp2
    go_ret
    have : m.toNat = 0 := by simp at hz; omega
    exact ⟨_, rfl, by rw [this, nl_zero]; exact Mine.nil _ _ _ _, Below.refl _ _⟩
  · go_enter Tryd.func37, Tryd.ntmps37
    go_wp2
    go_ret
    have hne : m ≠ 0 := by simpa using hz
    obtain ⟨e1, e2⟩ := two_limbs m.toNat (fun _ => m) 1 (fun i _ => by unfold W32; omega) (by simp [val]; omega) (fun _ => hne)
    refine ⟨_, rfl, ?_, (Below.refl _ _).alloc (Nat.le_refl _) _⟩
    rw [e1]
    refine ⟨_, _, rfl, Nat.le_refl _, by unfold LIM; omega, fun _ => ⟨_, _, rfl, ?_, ?_, Nat.le_refl _⟩⟩
    · intro i hi
      have : i = 0 := by omega
      subst this
      rw [← e2 0 hi]; simp
    · intro i hi; simp
  · go_enter Tryd.func37, Tryd.ntmps37
    go_wp2
    go_ret
    obtain ⟨e1, e2⟩ := two_limbs m.toNat (fun i => if i = 0 then m % 4294967296 else m / 4294967296) 2 (fun i _ => by unfold W32; split <;> omega) (by simp [val]; omega) (fun _ => by simp; omega)
    refine ⟨_, rfl, ?_, (Below.refl _ _).alloc (Nat.le_refl _) _⟩
    rw [e1]
    refine ⟨_, _, rfl, Nat.le_refl _, by unfold LIM; omega, fun _ => ⟨_, _, rfl, ?_, ?_, Nat.le_refl _⟩⟩
    · intro i hi
      rcases (show i = 0 ∨ i = 1 by omega) with rfl | rfl
      · rw [← e2 0 hi]; simp
      · rw [← e2 1 hi]; simp
    · intro i hi; simp

set_option maxRecDepth 20000 in
set_option maxHeartbeats 400000 in
theorem right_pos (b off n c : Nat) (f : Nat → Int) (w : World) (hn : n ≤ LIM) (h0 : 0 < n) (hc : Cells w .u64 b off n f) :
    Calls Tryd.prog 31 #[.slice (some ⟨b, off, none⟩) n c] w fun e w' => e = .returned (.bool (rightB f n)) ∧ w' = w := by
  unfold LIM at hn
  have hne : ((n : Int) == 0) = false := by simp; omega
  go_enter Tryd.func31, Tryd.ntmps31
  go_wp2
  go_loop [7] (fun v => ∃ k : Nat, k ≤ n ∧ v = .int .i64 k ∧ ∀ i, i < k → f i ≤ 4294967295) (fun v => n - (intOf v).toNat)
  case atStart => exact ⟨0, Nat.zero_le _, rfl, by omega⟩
  case round =>
    obtain ⟨k, hk, rfl, hs⟩ := hrel
    have HS : Hid (∀ i, i < k → f i ≤ 4294967295) := hs
    clear hs
    by_cases hkn : k < n
    · have hcell := hc k hkn
      go_wp2
      · go_ret
        exact ⟨ret_bool (rightB_no f n k hkn (by assumption)).symm, rfl⟩
      · have hle : f k ≤ 4294967295 := by assumption
        go_round
        case rel => exact ⟨k + 1, by omega, by go_num, fun i hi => by by_cases e : i = k; exact e ▸ hle; exact HS.out i (by omega)⟩
        case measure => simp [intOf]; omega
    · have hcell := hc (n - 1) (by omega)
      have e1 : ((n : Int) - 1) = ((n - 1 : Nat) : Int) := by omega
      go_wp2
      go_ret
      exact ⟨ret_bool (rightB_mk f n (fun i hi => HS.out i (by omega)) h0).symm, rfl⟩

set_option maxRecDepth 20000 in
set_option maxHeartbeats 400000 in
theorem right_nil (ao : Option Addr) (c : Nat) (w : World) :
    Calls Tryd.prog 31 #[.slice ao 0 c] w fun e w' => e = .returned (.bool true) ∧ w' = w := by
  go_enter Tryd.func31, Tryd.ntmps31
  go_wp2
  go_rounds 1
  go_ret
  exact ⟨rfl, rfl⟩

theorem right_any (v : Value) (n : Nat) (f : Nat → Int) (w : World) (h : Nums .u64 w v n f) :
    Calls Tryd.prog 31 #[v] w fun e w' => e = .returned (.bool (rightB f n)) ∧ w' = w := by
  obtain ⟨ao, c, rfl, _, hl, h4⟩ := h
  by_cases hn : n = 0
  · subst hn; rw [rightB_nil]; exact right_nil ao c w
  · obtain ⟨b, off, rfl, hc⟩ := h4 (by omega)
    exact right_pos b off n c f w hl (by omega) hc

set_option maxRecDepth 20000 in
set_option maxHeartbeats 400000 in
theorem refRight_pos (b off n c : Nat) (f : Nat → Int) (w : World) (hn : n ≤ LIM) (h0 : 0 < n) (hc : Cells w .u64 b off n f) :
    Calls Tryd.prog 28 #[.slice (some ⟨b, off, none⟩) n c] w fun e w' => e = .returned (.bool (rightB f n)) ∧ w' = w := by
  unfold LIM at hn
  have hne : ((n : Int) == 0) = false := by simp; omega
  go_enter Tryd.func28, Tryd.ntmps28
  go_wp2
  go_loop [3] (fun v => ∃ k : Nat, k ≤ n ∧ v = .int .i64 k ∧ ∀ i, i < k → f i ≤ 4294967295) (fun v => n - (intOf v).toNat)
  case atStart => exact ⟨0, Nat.zero_le _, rfl, by omega⟩
  case round =>
    obtain ⟨k, hk, rfl, hs⟩ := hrel
    have HS : Hid (∀ i, i < k → f i ≤ 4294967295) := hs
    clear hs
    by_cases hkn : k < n
    · have hcell := hc k hkn
      go_wp2
      · go_ret
        exact ⟨ret_bool (rightB_no f n k hkn (by assumption)).symm, rfl⟩
      · have hle : f k ≤ 4294967295 := by assumption
        go_round
        case rel => exact ⟨k + 1, by omega, by go_num, fun i hi => by by_cases e : i = k; exact e ▸ hle; exact HS.out i (by omega)⟩
        case measure => simp [intOf]; omega
    · have hcell := hc (n - 1) (by omega)
      have e1 : ((n : Int) - 1) = ((n - 1 : Nat) : Int) := by omega
      go_wp2
      go_ret
      exact ⟨ret_bool (rightB_mk f n (fun i hi => HS.out i (by omega)) h0).symm, rfl⟩

set_option maxRecDepth 20000 in
set_option maxHeartbeats 400000 in
theorem refRight_nil (ao : Option Addr) (c : Nat) (w : World) :
    Calls Tryd.prog 28 #[.slice ao 0 c] w fun e w' => e = .returned (.bool true) ∧ w' = w := by
  go_enter Tryd.func28, Tryd.ntmps28
  go_wp2
  go_rounds 1
  go_ret
  exact ⟨rfl, rfl⟩

theorem refRight_any (v : Value) (n : Nat) (f : Nat → Int) (w : World) (h : Nums .u64 w v n f) :
    Calls Tryd.prog 28 #[v] w fun e w' => e = .returned (.bool (rightB f n)) ∧ w' = w := by
  obtain ⟨ao, c, rfl, _, hl, h4⟩ := h
  by_cases hn : n = 0
  · subst hn; rw [rightB_nil]; exact refRight_nil ao c w
  · obtain ⟨b, off, rfl, hc⟩ := h4 (by omega)
    exact refRight_pos b off n c f w hl (by omega) hc

end Go.Proofs.YtjfacmeeplalkaaDoor

/-
  What nat.Clean, plain and cut answer: the number that any limbs are, in its one form.
-/
namespace Go.Proofs.YtjfacmeeplalkaaDoor
open Go.RowKit

theorem info_u64 : (Tryd.prog.info? 59).map (fun i => (i.zero, i.size, i.bytes)) = some (some (.int .u64 0), 1, 8) := by kernel_rfl

/-- The first k of them, zeros behind. -/
def upto (g : Nat → Int) (k : Nat) : Nat → Int := fun i => if i < k then g i else 0
theorem upto_put (g : Nat → Int) (k i : Nat) : put (upto g k) k (g k) i = upto g (k + 1) i := by
  unfold put upto
  by_cases h : i = k
  · subst h; simp
  · rw [if_neg h]; by_cases h2 : i < k
    · rw [if_pos h2, if_pos (by omega)]
    · rw [if_neg h2, if_neg (by omega)]
theorem upto_all (g : Nat → Int) (k i : Nat) (h : i < k) : upto g k i = g i := by simp [upto, h]

set_option maxRecDepth 20000 in
set_option maxHeartbeats 400000 in
theorem clean_pos (b off n c : Nat) (f : Nat → Int) (w : World) (hn : n ≤ LIM) (hc : Cells w .u64 b off n f) (hf : U64 n f) (hpos : 0 < sz (lo f) n) :
    Calls Tryd.prog 36 #[.slice (some ⟨b, off, none⟩) n c] w fun e w' => ∃ v, e = .returned v ∧ Mine .u64 w.heap.size w' v (sz (lo f) n) (lo f) ∧ Below w.heap.size w w' := by
  obtain ⟨i0, hi, hz0, hz1, hz2⟩ := info_parts info_u64
  have hle := sz_le (lo f) n
  have hblt := hc.lt (by omega)
  obtain ⟨m, hm⟩ : ∃ m, m = sz (lo f) n := ⟨_, rfl⟩
  rw [← hm] at hle hpos ⊢
  have HM : Hid (m = sz (lo f) n) := hm
  clear hm
  unfold LIM at hn
  have hne : ((m : Int) == 0) = false := by simp; omega
  go_enter Tryd.func36, Tryd.ntmps36
  go_wp2_with (first | (go_at_call 49; refine (size_pos _ _ _ _ _ _ (by unfold LIM; omega) hc hf).mono ?_; rintro e w' ⟨rfl, rfl⟩; rw [← HM.out]) | (at_make; refine wpList_make_full _ rfl _ _ 23 rfl _ 59 i0 (.int .u64 0) 1 Tryd.underlying23 hi hz0 hz1 _ _ _ _ m rfl rfl rfl rfl (by rw [hz2]; omega) (by unfold maxLen; omega) (Nat.le_refl _) ?_; intro w1 hown hgrow))
  have hb1 := below_grown hgrow
  obtain ⟨hc1, hs1⟩ := mine_made (k := .u64) (w := w') hown (fun _ => 0) (fun i hi => made_zero .u64 m i hi)
  clear hown hgrow
  have hbs := hb1.size
  go_loopw [14] (fun v wr => ∃ k : Nat, k ≤ m ∧ v = .int .i64 k ∧ Cells wr .u64 w'.heap.size 0 m (upto (lo f) k) ∧ Soft wr w'.heap.size 0 m ∧ Below w'.heap.size w' wr) (fun v _ => m - (intOf v).toNat)
  case atStart => exact ⟨0, Nat.zero_le _, rfl, hc1.congr (fun i _ => by simp [upto]), hs1, hb1⟩
  case round =>
    obtain ⟨k, hk, rfl, hck, hsk, hbk⟩ := hrel
    by_cases hkm : k < m
    · have hcell : wr.cell? ⟨b, off + k, none⟩ = some (.int .u64 (f k)) := (hbk.cell (by exact hblt)).trans (hc k (by omega))
      have hcell2 := hck k hkm
      have hfr := hsk k hkm
      rw [Nat.zero_add] at hcell2 hfr
      have hfk := hf k (by omega)
      have hmk := and_mask (f k) hfk.1 hfk.2
      go_wp2
      go_roundw
      case rel => exact ⟨k + 1, by omega, by go_num, by have := (hck.set k hkm (lo f k)).congr (fun i _ => upto_put (lo f) k i); rw [Nat.zero_add] at this; exact this, hsk.set _ _, hbk.setCell (by simp) _⟩
      case measure => simp [intOf]; omega
    · go_wp2
      go_ret
      have : k = m := by omega
      subst this
      refine ⟨_, rfl, ⟨_, _, rfl, Nat.le_refl _, by unfold LIM; omega, fun _ => ⟨_, _, rfl, hck.congr (fun i hi => upto_all _ _ _ hi), hsk, Nat.le_refl _⟩⟩, hbk⟩

set_option maxRecDepth 20000 in
set_option maxHeartbeats 400000 in
theorem clean_zero (v : Value) (n : Nat) (f : Nat → Int) (w : World) (h : Nums .u64 w v n f) (hf : U64 n f) (hz : sz (lo f) n = 0) :
    Calls Tryd.prog 36 #[v] w fun e w' => e = .returned (.slice none 0 0) ∧ w' = w := by
  go_enter Tryd.func36, Tryd.ntmps36
  go_wp2_with (go_at_call 49; refine (size_any _ _ _ _ h hf).mono ?_; rintro e w' ⟨rfl, rfl⟩; rw [hz])
  go_ret
  exact ⟨rfl, rfl⟩

theorem clean_any (v : Value) (n : Nat) (f : Nat → Int) (w : World) (h : Nums .u64 w v n f) (hf : U64 n f) :
    Calls Tryd.prog 36 #[v] w fun e w' => ∃ v', e = .returned v' ∧ Mine .u64 w.heap.size w' v' (nl W32 (num f n)) (dg W32 (num f n)) ∧ Below w.heap.size w w' := by
  rw [← num_sz]
  by_cases hz : sz (lo f) n = 0
  · refine (clean_zero v n f w h hf hz).mono fun e w' ⟨he, hw⟩ => ⟨_, he, ?_, by rw [hw]; exact Below.refl _ _⟩
    rw [hz]; exact Mine.nil _ _ _ _
  · obtain ⟨ao, c, rfl, _, hl, h4⟩ := h
    have hle := sz_le (lo f) n
    obtain ⟨b, off, rfl, hc⟩ := h4 (by omega)
    refine (clean_pos b off n c f w hl hc hf (by omega)).mono fun e w' ⟨v', he, hm, hb⟩ => ⟨v', he, ?_, hb⟩
    exact hm.congr (fun i hi => num_digit f n i (by omega))

/-- The value v is the number m, in its one form. -/
def Rep (w : World) (v : Value) (m : Nat) : Prop := Nums .u64 w v (nl W32 m) (dg W32 m)
/-- The same, in memory of the call's own. -/
def RepM (B : Nat) (w : World) (v : Value) (m : Nat) : Prop := Mine .u64 B w v (nl W32 m) (dg W32 m)
theorem RepM.rep {B : Nat} {w : World} {v : Value} {m : Nat} (h : RepM B w v m) : Rep w v m := Mine.nums h
theorem u64_dg (m n : Nat) : U64 n (dg W32 m) := fun i _ => by have := dg_bounds W32 m i (by decide); unfold W32 at this ⊢; omega

/-- Limbs that may be are those of their number. -/
theorem right_form (f : Nat → Int) (n : Nat) (hf : U64 n f) (h : rightB f n = true) : n = nl W32 (num f n) ∧ ∀ i, i < n → f i = dg W32 (num f n) i := by
  simp only [rightB, decide_eq_true_eq] at h
  have hb : ∀ i, i < n → lo f i = f i := fun i hi => by have := h.1 i hi; have := hf i hi; unfold lo; omega
  refine ⟨?_, fun i hi => by rw [← num_digit f n i hi]; exact (hb i hi).symm⟩
  rw [← num_sz]
  refine (sz_unique (lo f) n n (Nat.le_refl _) (fun h0 => ?_) (fun i h1 h2 => by omega)).symm
  rw [hb _ (by omega)]; exact h.2 h0

set_option maxRecDepth 20000 in
set_option maxHeartbeats 400000 in
theorem plain_any (v : Value) (n : Nat) (f : Nat → Int) (w : World) (h : Nums .u64 w v n f) (hf : U64 n f) :
    Calls Tryd.prog 51 #[v] w fun e w' => ∃ v', e = .returned v' ∧ Rep w' v' (num f n) ∧ Below w.heap.size w w' := by
  cases hr : rightB f n with
  | true =>
    go_enter Tryd.func51, Tryd.ntmps51
    go_wp2_with (go_at_call 31; refine (right_any _ _ _ _ h).mono ?_; rintro e w' ⟨rfl, rfl⟩; rw [hr])
    go_ret
    obtain ⟨e1, e2⟩ := right_form f n hf hr
    refine ⟨_, rfl, ?_, Below.refl _ _⟩
    unfold Rep
    rw [← e1]; exact h.congr e2
  | false =>
    go_enter Tryd.func51, Tryd.ntmps51
    go_wp2_with (first | (go_at_call 31; refine (right_any _ _ _ _ h).mono ?_; rintro e w' ⟨rfl, rfl⟩; rw [hr]) | (go_at_call 36; refine (clean_any _ _ _ _ h hf).mono ?_; rintro e w2 ⟨v', rfl, hm, hb⟩))
    go_ret
    exact ⟨_, rfl, hm.nums, hb⟩

set_option maxRecDepth 20000 in
set_option maxHeartbeats 400000 in
/-- nat.cut of limbs below 2^32 in memory of the call's own: the number, in the same memory. -/
theorem cut_mine (B : Nat) (v : Value) (n : Nat) (f : Nat → Int) (w : World) (m : Nat) (h : Mine .u64 B w v n f) (hf : ∀ i, i < n → 0 ≤ f i ∧ f i < (W32 : Int)) (hm : val W32 f n = (m : Int)) :
    Calls Tryd.prog 62 #[v] w fun e w' => ∃ v', e = .returned v' ∧ RepM B w' v' m ∧ w' = w := by
  have hs : sz (lo f) n = nl W32 m := by
    rw [num_sz, num_of f n m hf hm]
  have hfu : U64 n f := fun i hi => by have := hf i hi; unfold W32 at this; omega
  have hle := sz_le (lo f) n
  rw [hs] at hle
  have hN := h.nums
  obtain ⟨ao, c, rfl, hnc, hl, h4⟩ := h
  unfold LIM at hl
  by_cases hz : nl W32 m = 0
  · go_enter Tryd.func62, Tryd.ntmps62
    go_wp2_with (go_at_call 49; refine (size_any _ _ _ _ hN hfu).mono ?_; rintro e w' ⟨rfl, rfl⟩; rw [hs, hz])
    go_ret
    refine ⟨_, rfl, ?_, rfl⟩
    unfold RepM; rw [hz]; exact Mine.nil _ _ _ _
  · obtain ⟨b, off, rfl, hc, hsf, hB⟩ := h4 (by omega)
    have hne : ((nl W32 m : Int) == 0) = false := by simp; omega
    go_enter Tryd.func62, Tryd.ntmps62
    go_wp2_with (go_at_call 49; refine (size_any _ _ _ _ hN hfu).mono ?_; rintro e w' ⟨rfl, rfl⟩; rw [hs])
    go_ret
    refine ⟨_, rfl, ?_, rfl⟩
    exact ⟨_, _, rfl, by omega, by unfold LIM; omega, fun _ => ⟨_, _, rfl, (hc.mono hle).congr (fun i hi => val_digit W32 f n m hf hm i (by omega)), hsf.mono hle, hB⟩⟩

end Go.Proofs.YtjfacmeeplalkaaDoor

/-
  What nat.Cmp answers: how the two numbers stand that any limbs are.
-/
namespace Go.Proofs.YtjfacmeeplalkaaDoor
open Go.RowKit

/-- -1, 0, 1. -/
def cmpI (a b : Int) : Int := if a < b then -1 else if b < a then 1 else 0
theorem cmpI_lt {a b : Int} (h : a < b) : cmpI a b = -1 := by simp [cmpI, h]
theorem cmpI_gt {a b : Int} (h : b < a) : cmpI a b = 1 := by unfold cmpI; rw [if_neg (by omega), if_pos h]
theorem cmpI_eq {a b : Int} (h : a = b) : cmpI a b = 0 := by unfold cmpI; rw [if_neg (by omega), if_neg (by omega)]

set_option maxRecDepth 20000 in
set_option maxHeartbeats 400000 in
theorem isNaN_int (x : Int) (w : World) : Calls Tryd.prog 73 #[.int .i64 x] w fun e w' => e = .returned (.bool false) ∧ w' = w := by
  have h : (x != x) = false := by simp
  go_enter Tryd.func73, Tryd.ntmps73
  go_wp2
  go_ret
  exact ⟨rfl, rfl⟩
set_option maxRecDepth 20000 in
set_option maxHeartbeats 400000 in
theorem isNaN_u64 (x : Int) (w : World) : Calls Tryd.prog 74 #[.int .u64 x] w fun e w' => e = .returned (.bool false) ∧ w' = w := by
  have h : (x != x) = false := by simp
  go_enter Tryd.func74, Tryd.ntmps74
  go_wp2
  go_ret
  exact ⟨rfl, rfl⟩

set_option maxRecDepth 20000 in
set_option maxHeartbeats 400000 in
theorem compare_int (x y : Int) (w : World) : Calls Tryd.prog 55 #[.int .i64 x, .int .i64 y] w fun e w' => e = .returned (.int .i64 (cmpI x y)) ∧ w' = w := by
  go_enter Tryd.func55, Tryd.ntmps55
  go_wp2_with (go_at_call 73; refine (isNaN_int _ _).mono ?_; rintro e w' ⟨rfl, rfl⟩)
  all_goals go_ret
  · exact ⟨ret_int (cmpI_lt (by assumption)).symm, rfl⟩
  · exact ⟨ret_int (cmpI_gt (by assumption)).symm, rfl⟩
  · exact ⟨ret_int (cmpI_eq (by omega)).symm, rfl⟩
set_option maxRecDepth 20000 in
set_option maxHeartbeats 400000 in
theorem compare_u64 (x y : Int) (w : World) : Calls Tryd.prog 56 #[.int .u64 x, .int .u64 y] w fun e w' => e = .returned (.int .i64 (cmpI x y)) ∧ w' = w := by
  go_enter Tryd.func56, Tryd.ntmps56
  go_wp2_with (go_at_call 74; refine (isNaN_u64 _ _).mono ?_; rintro e w' ⟨rfl, rfl⟩)
  all_goals go_ret
  · exact ⟨ret_int (cmpI_lt (by assumption)).symm, rfl⟩
  · exact ⟨ret_int (cmpI_gt (by assumption)).symm, rfl⟩
  · exact ⟨ret_int (cmpI_eq (by omega)).symm, rfl⟩

theorem lt_of_nl (B a b : Nat) (hB : 2 ≤ B) (h : nl B a < nl B b) : a < b := by
  have h1 := lt_pow_nl B a hB
  have h2 := pow_le_of_nl B b (by omega)
  have h3 : B ^ nl B a ≤ B ^ (nl B b - 1) := Nat.pow_le_pow_right (by omega) (by omega)
  omega
theorem cmp_nl (B a b : Nat) (hB : 2 ≤ B) (h : nl B a ≠ nl B b) : cmpI (nl B a) (nl B b) = cmpI a b := by
  by_cases g : nl B a < nl B b
  · rw [cmpI_lt (by omega), cmpI_lt (by have := lt_of_nl B a b hB g; omega)]
  · rw [cmpI_gt (by omega), cmpI_gt (by have := lt_of_nl B b a hB (by omega); omega)]
/-- Where all digits above agree, the digit here decides. -/
theorem div_step (B a k : Nat) : ((a / B ^ k : Nat) : Int) = ((a / B ^ (k + 1) : Nat) : Int) * B + dg B a k := by
  unfold dg
  have : a / B ^ (k + 1) = a / B ^ k / B := by rw [Nat.pow_succ, Nat.div_div_eq_div_mul]
  rw [this]
  have := Nat.div_add_mod (a / B ^ k) B
  have e : (a / B ^ k / B : Nat) * B = B * (a / B ^ k / B) := Nat.mul_comm _ _
  have e2 : ((a / B ^ k / B : Nat) : Int) * (B : Int) = ((a / B ^ k / B * B : Nat) : Int) := by simp
  rw [e2, e]; omega
theorem cmp_digit (B a b k : Nat) (h : a / B ^ (k + 1) = b / B ^ (k + 1)) (hd : dg B a k ≠ dg B b k) : cmpI (dg B a k) (dg B b k) = cmpI a b := by
  have ha := div_step B a k
  have hb := div_step B b k
  rw [h] at ha
  by_cases g : dg B a k < dg B b k
  · have : a / B ^ k < b / B ^ k := by omega
    have : a < b := by
      by_cases e : a < b
      · exact e
      · have := Nat.div_le_div_right (c := B ^ k) (show b ≤ a by omega); omega
    rw [cmpI_lt g, cmpI_lt (by omega)]
  · have : b / B ^ k < a / B ^ k := by omega
    have : b < a := by
      by_cases e : b < a
      · exact e
      · have := Nat.div_le_div_right (c := B ^ k) (show a ≤ b by omega); omega
    rw [cmpI_gt (by omega), cmpI_gt (by omega)]
theorem same_digit (B a b k : Nat) (h : a / B ^ (k + 1) = b / B ^ (k + 1)) (hd : dg B a k = dg B b k) : a / B ^ k = b / B ^ k := by
  have ha := div_step B a k
  have hb := div_step B b k
  rw [h] at ha; omega

set_option maxRecDepth 20000 in
set_option maxHeartbeats 1000000 in
theorem cmp_any (u v : Value) (n m : Nat) (f g : Nat → Int) (w : World) (hu : Nums .u64 w u n f) (hv : Nums .u64 w v m g) (hf : U64 n f) (hg : U64 m g) :
    Calls Tryd.prog 44 #[u, v] w fun e w' => e = .returned (.int .i64 (cmpI (num f n) (num g m))) ∧ Below w.heap.size w w' := by
  obtain ⟨x, hx⟩ : ∃ x, x = num f n := ⟨_, rfl⟩
  obtain ⟨y, hy⟩ : ∃ y, y = num g m := ⟨_, rfl⟩
  have HX : Hid (x = num f n) := hx
  have HY : Hid (y = num g m) := hy
  have hsx : sz (lo f) n = nl W32 x := by rw [hx]; exact num_sz f n
  have hsy : sz (lo g) m = nl W32 y := by rw [hy]; exact num_sz g m
  rw [← hx, ← hy]
  clear hx hy
  have lx := sz_le (lo f) n
  have ly := sz_le (lo g) m
  rw [hsx] at lx
  rw [hsy] at ly
  have Hsx : Hid (sz (lo f) n = nl W32 x) := hsx
  have Hsy : Hid (sz (lo g) m = nl W32 y) := hsy
  clear hsx hsy
  have hN := hu
  have hM := hv
  by_cases hne : nl W32 x = nl W32 y
  · have hb : ((nl W32 x : Int) != (nl W32 y : Int)) = false := by simp [hne]
    obtain ⟨ao, c, rfl, _, hl, h4⟩ := hu
    obtain ⟨bo, d, rfl, _, kl, k4⟩ := hv
    unfold LIM at hl kl
    by_cases h0 : nl W32 x = 0
    · have h00 : nl W32 y = 0 := by omega
      have e : x = y := by rw [(nl_eq_zero W32 x (by decide)).1 h0, (nl_eq_zero W32 y (by decide)).1 h00]
      have E : Hid (x = y) := e
      clear e hb
      go_enter Tryd.func44, Tryd.ntmps44
      go_wp2_with fail
      refine (size_any _ _ _ _ hN hf).mono ?_
      rintro e w' ⟨rfl, rfl⟩
      rw [Hsx.out, h0]
      go_wp2_with fail
      refine (size_any _ _ _ _ hM hg).mono ?_
      rintro e w' ⟨rfl, rfl⟩
      rw [Hsy.out, h00]
      go_wp2
      go_rounds 1
      go_ret
      exact ⟨ret_int (cmpI_eq (by rw [E.out])).symm, Below.refl _ _⟩
    · obtain ⟨b1, o1, rfl, hc⟩ := h4 (by omega)
      obtain ⟨b2, o2, rfl, kc⟩ := k4 (by omega)
      go_enter Tryd.func44, Tryd.ntmps44
      go_wp2_with fail
      refine (size_any _ _ _ _ hN hf).mono ?_
      rintro e w' ⟨rfl, rfl⟩
      rw [Hsx.out]
      go_wp2_with fail
      refine (size_any _ _ _ _ hM hg).mono ?_
      rintro e w' ⟨rfl, rfl⟩
      rw [Hsy.out]
      go_wp2
      go_loopw [7] (fun v wr => ∃ k : Nat, k ≤ nl W32 y ∧ v = .int .i64 ((k : Int) - 1) ∧ x / W32 ^ k = y / W32 ^ k ∧ Below w'.heap.size w' wr) (fun v _ => (intOf v + 1).toNat)
      case atStart => exact ⟨nl W32 y, Nat.le_refl _, rfl, by rw [Nat.div_eq_of_lt (lt_pow_nl W32 y (by decide)), Nat.div_eq_of_lt (hne ▸ lt_pow_nl W32 x (by decide))], Below.refl _ _⟩
      case round =>
        obtain ⟨k, hk, rfl, hdv, hbk⟩ := hrel
        have HD : Hid (x / W32 ^ k = y / W32 ^ k) := hdv
        clear hdv
        cases k with
        | zero =>
          go_wp2
          go_ret
          exact ⟨ret_int (cmpI_eq (by have := HD.out; simp at this; omega)).symm, hbk⟩
        | succ k =>
          have hcell : wr.cell? ⟨b1, o1 + k, none⟩ = some (.int .u64 (f k)) := (hbk.cell (hc.lt (by omega))).trans (hc k (by omega))
          have kcell : wr.cell? ⟨b2, o2 + k, none⟩ = some (.int .u64 (g k)) := (hbk.cell (kc.lt (by omega))).trans (kc k (by omega))
          have hfk := hf k (by omega)
          have hgk := hg k (by omega)
          have dx : f k % 4294967296 = dg W32 x k := by rw [HX.out]; exact num_digit f n k (by omega)
          have dy : g k % 4294967296 = dg W32 y k := by rw [HY.out]; exact num_digit g m k (by omega)
          have hm1 := and_mask (f k) hfk.1 hfk.2
          have hm2 := and_mask (g k) hgk.1 hgk.2
          rw [dx] at hm1
          rw [dy] at hm2
          clear dx dy hfk hgk
          have e1 : (((k + 1 : Nat) : Int) - 1) = (k : Int) := by omega
          rw [e1]
          by_cases hd : dg W32 x k = dg W32 y k
          · have hdb : (dg W32 x k != dg W32 y k) = false := by simp [hd]
            have HDD : Hid (dg W32 x k = dg W32 y k) := hd
            clear hd
            go_wp2
            go_quiet (fail)
            go_wp2
            go_roundw
            case rel => exact ⟨k, by omega, rfl, same_digit _ _ _ _ HD.out HDD.out, below_drewN hbk _⟩
            case measure => simp [intOf]
          · have hdb : (dg W32 x k != dg W32 y k) = true := by simp [hd]
            go_wp2
            go_quiet (fail)
            go_wp2_with (go_at_call 56; refine (compare_u64 _ _ _).mono ?_; rintro e w2 ⟨rfl, rfl⟩)
            go_ret
            exact ⟨ret_int (cmp_digit _ _ _ _ HD.out hd), below_drewN hbk _⟩
  · have hb : ((nl W32 x : Int) != (nl W32 y : Int)) = true := by rw [bne_iff_ne]; omega
    go_enter Tryd.func44, Tryd.ntmps44
    go_wp2_with fail
    refine (size_any _ _ _ _ hN hf).mono ?_
    rintro e w' ⟨rfl, rfl⟩
    rw [Hsx.out]
    go_wp2_with fail
    refine (size_any _ _ _ _ hM hg).mono ?_
    rintro e w' ⟨rfl, rfl⟩
    rw [Hsy.out]
    go_wp2_with (go_at_call 55; refine (compare_int _ _ _).mono ?_; rintro e w' ⟨rfl, rfl⟩)
    go_ret
    exact ⟨ret_int (cmp_nl _ _ _ (by decide) hne), Below.refl _ _⟩

end Go.Proofs.YtjfacmeeplalkaaDoor

/-
  Plain facts for sums and products digit by digit: what one digit's turn does to the worth of a row, and what a carry hands on.
-/
namespace Go.Proofs.YtjfacmeeplalkaaDoor
open Go.RowKit

theorem val_put (B : Nat) (f : Nat → Int) (n j : Nat) (v : Int) (hj : j < n) : val B (put f j v) n = val B f n + (v - f j) * (B : Int) ^ j := by
  induction n with
  | zero => omega
  | succ n ih =>
    simp only [val]
    by_cases e : j = n
    · subst e
      rw [put_same, val_congr j (fun i hi => put_other f j i v (by omega)), Int.sub_mul]; omega
    · rw [put_other f j n v (by omega), ih (by omega)]; omega

theorem carry_step (W t h p V : Int) : V + (t % W - h) * p + t / W * (p * W) = V + (t - h) * p := by
  have e := Int.emod_add_mul_ediv t W
  have e2 : t / W * (p * W) = W * (t / W) * p := by rw [Int.mul_comm p W, ← Int.mul_assoc, Int.mul_comm (t / W) W]
  rw [e2, Int.add_assoc, ← Int.add_mul]
  have : t % W - h + W * (t / W) = t - h := by omega
  rw [this]

/-- One digit of a row of a product. -/
theorem mul_step (B : Nat) (h h0 fa : Nat → Int) (N i j : Nat) (c x t : Int) (hj : i + j < N) (ht : t = c + (x * fa j + h (i + j)))
    (hv : val B h N + c * (B : Int) ^ (i + j) = val B h0 N + x * val B fa j * (B : Int) ^ i) :
    val B (put h (i + j) (t % B)) N + t / B * (B : Int) ^ (i + (j + 1)) = val B h0 N + x * val B fa (j + 1) * (B : Int) ^ i := by
  have e1 : (B : Int) ^ (i + (j + 1)) = (B : Int) ^ (i + j) * B := by rw [← Nat.add_assoc, Int.pow_succ]
  rw [val_put B h N (i + j) _ hj, e1, carry_step, ht]
  have e2 : c + (x * fa j + h (i + j)) - h (i + j) = c + x * fa j := by omega
  simp only [val]
  rw [e2, Int.add_mul, ← Int.add_assoc, hv, Int.mul_add, Int.add_mul, Int.add_assoc]
  have e3 : x * fa j * (B : Int) ^ (i + j) = x * (fa j * (B : Int) ^ j) * (B : Int) ^ i := by
    rw [Nat.add_comm i j, Int.pow_add, ← Int.mul_assoc, ← Int.mul_assoc]
  rw [e3]

theorem mul_row_end (B : Nat) (h h0 fa fb : Nat → Int) (N i la : Nat) (c : Int) (hj : i + la < N) (hz : h (i + la) = 0)
    (hv : val B h N + c * (B : Int) ^ (i + la) = val B h0 N + fb i * val B fa la * (B : Int) ^ i) (h0v : val B h0 N = val B fa la * val B fb i) :
    val B (put h (i + la) c) N = val B fa la * val B fb (i + 1) := by
  rw [val_put B h N (i + la) c hj, hz, Int.sub_zero, hv, h0v]
  simp only [val]
  rw [Int.mul_add, Int.mul_comm (fb i) (val B fa la), Int.mul_assoc]

theorem mul_le_mul32 (x y : Int) (h0 : 0 ≤ x) (h1 : x < 4294967296) (h2 : 0 ≤ y) (h3 : y < 4294967296) : 0 ≤ x * y ∧ x * y ≤ 18446744065119617025 := by
  refine ⟨Int.mul_nonneg h0 h2, ?_⟩
  have a := Int.mul_le_mul_of_nonneg_right (show x ≤ 4294967295 by omega) h2
  omega

theorem put_bounds {B : Int} {f : Nat → Int} {n j : Nat} {v : Int} (h : ∀ i, i < n → 0 ≤ f i ∧ f i < B) (h0 : 0 ≤ v) (h1 : v < B) : ∀ i, i < n → 0 ≤ put f j v i ∧ put f j v i < B := by
  intro i hi
  unfold put; split
  · exact ⟨h0, h1⟩
  · exact h i hi

end Go.Proofs.YtjfacmeeplalkaaDoor

/-
  What nat.multiplyRows leaves, and what nat.product and Mul answer: the product, where the shorter number has fewer than 40 limbs.
-/
namespace Go.Proofs.YtjfacmeeplalkaaDoor
open Go.RowKit

/-- Limbs below 2^32. -/
def U32 (n : Nat) (f : Nat → Int) : Prop := ∀ i, i < n → 0 ≤ f i ∧ f i < (W32 : Int)

set_option maxRecDepth 20000 in
set_option maxHeartbeats 2000000 in
theorem mulRows_any (g off N c ba oa la ca bb ob lb cb : Nat) (fa fb : Nat → Int) (w : World) (hN : la + lb ≤ N) (hNc : N ≤ c) (hl : N ≤ LIM)
    (hout : Cells w .u64 g off N (fun _ => 0)) (hsoft : Soft w g off N) (ha : Cells w .u64 ba oa la fa) (hb : Cells w .u64 bb ob lb fb)
    (hga : ba ≠ g) (hgb : bb ≠ g) (ua : U32 la fa) (ub : U32 lb fb) :
    Calls Tryd.prog 69 #[.slice (some ⟨g, off, none⟩) N c, .slice (some ⟨ba, oa, none⟩) la ca, .slice (some ⟨bb, ob, none⟩) lb cb] w fun e w' =>
      e = .returned (.tuple #[]) ∧ ∃ h, Cells w' .u64 g off N h ∧ U32 N h ∧ val W32 h N = val W32 fa la * val W32 fb lb ∧ Upd w w' g off N := by
  unfold LIM at hl
  go_enter Tryd.func69, Tryd.ntmps69
  go_wp2
  go_loopw [14] (fun v wr => ∃ (i : Nat) (h : Nat → Int), i ≤ lb ∧ v = .int .i64 i ∧ Cells wr .u64 g off N h ∧ U32 N h ∧ (∀ p, i + la ≤ p → h p = 0) ∧ val W32 h N = val W32 fa la * val W32 fb i ∧ Upd w wr g off N) (fun v _ => lb - (intOf v).toNat)
  case atStart => exact ⟨0, fun _ => 0, Nat.zero_le _, rfl, hout, fun _ _ => ⟨Int.le_refl _, (by decide : (0 : Int) < (W32 : Int))⟩, fun _ _ => rfl, by rw [val_zero N (fun _ _ => rfl)]; simp [val], Upd.refl _ _ _ _⟩
  case round =>
    obtain ⟨i, h, hi, rfl, hc, hu, hz, hv, hupd⟩ := hrel
    by_cases hlt : i < lb
    · have hcb : wr.cell? ⟨bb, ob + i, none⟩ = some (.int .u64 (fb i)) := (hb.upd hupd (.inl hgb)) i hlt
      have HV : Hid (val W32 h N = val W32 fa la * val W32 fb i) := hv
      have HZ : Hid (∀ p, i + la ≤ p → h p = 0) := hz
      clear hv hz
      go_wp2
      go_loopw [8, 27] (fun vc vj w2 => ∃ (j : Nat) (h2 : Nat → Int) (cr : Int), j ≤ la ∧ vc = .int .u64 cr ∧ vj = .int .i64 j ∧ 0 ≤ cr ∧ cr < 4294967296 ∧ Cells w2 .u64 g off N h2 ∧ U32 N h2 ∧ (∀ p, i + j ≤ p → h2 p = h p) ∧ val W32 h2 N + cr * (W32 : Int) ^ (i + j) = val W32 h N + fb i * val W32 fa j * (W32 : Int) ^ i ∧ Upd w w2 g off N) (fun _ vj _ => la - (intOf vj).toNat)
      case atStart => exact ⟨0, h, 0, Nat.zero_le _, rfl, rfl, Int.le_refl _, by decide, hc, hu, fun _ _ => rfl, by simp [val], hupd⟩
      case round =>
        obtain ⟨j, h2, cr, hj, rfl, rfl, hcr0, hcr1, hc2, hu2, hs2, hv2, hupd2⟩ := hrel
        have HV2 : Hid (val W32 h2 N + cr * (W32 : Int) ^ (i + j) = val W32 h N + fb i * val W32 fa j * (W32 : Int) ^ i) := hv2
        have HS2 : Hid (∀ p, i + j ≤ p → h2 p = h p) := hs2
        clear hv2 hs2
        by_cases hjl : j < la
        · have hca : wr.cell? ⟨ba, oa + j, none⟩ = some (.int .u64 (fa j)) := (ha.upd hupd2 (.inl hga)) j hjl
          have hcg : wr.cell? ⟨g, off + i + j, none⟩ = some (.int .u64 (h2 (i + j))) := by rw [Nat.add_assoc]; exact hc2 (i + j) (by omega)
          have hfr : wr.frozen? ⟨g, off + i + j, none⟩ = false := by rw [Nat.add_assoc]; exact (hsoft.upd (hout.lt (by omega)) hupd2) (i + j) (by omega)
          have bx := ub i hlt
          have by' := ua j hjl
          have bh := hu2 (i + j) (by omega)
          unfold W32 at bx by' bh
          have hxy := mul_le_mul32 (fb i) (fa j) bx.1 bx.2 by'.1 by'.2
          have hm := and_mask (cr + (fb i * fa j + h2 (i + j))) (by omega) (by omega)
          go_wp2
          go_roundw
          case rel =>
            refine ⟨j + 1, put h2 (i + j) ((cr + (fb i * fa j + h2 (i + j))) % (W32 : Int)), (cr + (fb i * fa j + h2 (i + j))) / (W32 : Int), by omega, rfl, by go_num, by unfold W32; omega, by unfold W32; omega, ?_, ?_, ?_, ?_, ?_⟩
            · have := hc2.set (i + j) (by omega) ((cr + (fb i * fa j + h2 (i + j))) % (W32 : Int)); rw [← Nat.add_assoc] at this; exact this
            · exact put_bounds hu2 (by unfold W32; omega) (by unfold W32; omega)
            · intro p hp; rw [put_other _ _ _ _ (by omega)]; exact HS2.out p (by omega)
            · exact mul_step W32 h2 h fa N i j cr (fb i) _ (by omega) rfl HV2.out
            · have := hupd2.trans (Upd.set (w := wr) (b := g) (off := off) (n := N) (i + j) (by omega) (.int .u64 ((cr + (fb i * fa j + h2 (i + j))) % (W32 : Int)))); rw [← Nat.add_assoc] at this; exact this
          case measure => simp [intOf]; omega
        · have hjla : j = la := by omega
          subst hjla
          have hcg : wr.cell? ⟨g, off + (i + j), none⟩ = some (.int .u64 (h2 (i + j))) := hc2 (i + j) (by omega)
          have hfr : wr.frozen? ⟨g, off + (i + j), none⟩ = false := (hsoft.upd (hout.lt (by omega)) hupd2) (i + j) (by omega)
          go_wp2
          go_roundw
          case rel =>
            refine ⟨i + 1, put h2 (i + j) cr, by omega, by go_num, ?_, ?_, ?_, ?_, ?_⟩
            · exact hc2.set (i + j) (by omega) cr
            · exact put_bounds hu2 hcr0 (by unfold W32; omega)
            · intro p hp; rw [put_other _ _ _ _ (by omega), HS2.out p (by omega)]; exact HZ.out p (by omega)
            · exact mul_row_end W32 h2 h fa fb N i j cr (by omega) (by rw [HS2.out _ (by omega)]; exact HZ.out _ (by omega)) HV2.out HV.out
            · exact hupd2.trans (Upd.set (i + j) (by omega) _)
          case measure => simp [intOf]; omega
    · go_wp2
      have hil : i = lb := by omega
      subst hil
      go_end0
      exact ⟨rfl, h, hc, hu, hv, hupd⟩

/-- The product of two numbers in their forms. The shorter one has fewer than 40 limbs. -/
theorem rep_val {w : World} {v : Value} {m : Nat} (h : Rep w v m) : ∃ ao c, v = .slice ao (nl W32 m) c ∧ nl W32 m ≤ LIM := by
  obtain ⟨ao, c, rfl, _, hl, _⟩ := h
  exact ⟨ao, c, rfl, hl⟩

theorem u32_dg (m n : Nat) : U32 n (dg W32 m) := fun i _ => dg_bounds W32 m i (by decide)

set_option maxRecDepth 20000 in
set_option maxHeartbeats 1000000 in
/-- nat.product where the first is not the shorter one. -/
theorem product_long (u v : Value) (x y : Nat) (w : World) (hu : Rep w u x) (hv : Rep w v y) (hle : nl W32 y ≤ nl W32 x) (h40 : nl W32 y < 40) (hlim : nl W32 x ≤ 1000000) :
    Calls Tryd.prog 53 #[u, v] w fun e w' => ∃ r, e = .returned r ∧ RepM w.heap.size w' r (x * y) ∧ Below w.heap.size w w' := by
  obtain ⟨i0, hi, hz0, hz1, hz2⟩ := info_parts info_u64
  obtain ⟨ao, c, rfl, _, hl, h4⟩ := hu
  obtain ⟨bo, d, rfl, _, kl, k4⟩ := hv
  by_cases h0 : nl W32 y = 0
  · have hy : y = 0 := (nl_eq_zero W32 y (by decide)).1 h0
    subst hy
    rw [nl_zero] at *
    go_enter Tryd.func53, Tryd.ntmps53
    go_wp2
    go_ret
    exact ⟨_, rfl, by unfold RepM; rw [nl_zero]; exact Mine.nil _ _ _ _, Below.refl _ _⟩
  · obtain ⟨b1, o1, rfl, hc⟩ := h4 (by omega)
    obtain ⟨b2, o2, rfl, kc⟩ := k4 (by omega)
    have hb1 := hc.lt (by omega)
    have hb2 := kc.lt (by omega)
    have vx := val_nl W32 x (by decide)
    have vy := val_nl W32 y (by decide)
    clear h4 k4
    generalize nl W32 x = la at *
    generalize nl W32 y = lb at *
    have VX : Hid (val W32 (dg W32 x) la = (x : Int)) := vx
    have VY : Hid (val W32 (dg W32 y) lb = (y : Int)) := vy
    clear vx vy
    have hnl : ¬ la < lb := by omega
    have hne : ((lb : Int) == 0) = false := by simp; omega
    go_enter Tryd.func53, Tryd.ntmps53
    go_wp2_with (at_make; refine wpList_make_full _ rfl _ _ 23 rfl _ 59 i0 (.int .u64 0) 1 Tryd.underlying23 hi hz0 hz1 _ _ _ _ (la + lb) rfl rfl (by omega) (by omega) (by rw [hz2]; omega) (by unfold maxLen; omega) (Nat.le_refl _) ?_; intro w1 hown hgrow)
    have hbl := below_grown hgrow
    obtain ⟨hc1, hs1⟩ := mine_made (k := .u64) (w := w) hown (fun _ => 0) (fun i hi => made_zero .u64 (la + lb) i hi)
    clear hown hgrow
    refine (mulRows_any _ _ _ _ _ _ _ _ _ _ _ _ _ _ _ (Nat.le_refl _) (Nat.le_refl _) (by unfold LIM; omega) hc1 hs1 (hc.below hbl hb1) (kc.below hbl hb2) (by omega) (by omega) (u32_dg x la) (u32_dg y lb)).mono ?_
    rintro e w2 ⟨rfl, h, hch, huh, hvh, hupd⟩
    rw [VX.out, VY.out] at hvh
    have hMine : Mine .u64 w.heap.size w2 (.slice (some ⟨w.heap.size, 0, none⟩) (la + lb) (la + lb)) (la + lb) h := ⟨_, _, rfl, Nat.le_refl _, by unfold LIM; omega, fun _ => ⟨_, _, rfl, hch, hs1.upd (hc1.lt (by omega)) hupd, Nat.le_refl _⟩⟩
    have hbel : Below w.heap.size w w2 := hbl.trans (hupd.below (Nat.le_refl _) hbl.size)
    clear hc1 hs1
    go_wp2_with (go_at_call 62; refine (cut_mine _ _ _ _ _ (x * y) hMine huh (by rw [hvh]; simp)).mono ?_; rintro e w3 ⟨r, rfl, hr, rfl⟩)
    go_ret
    exact ⟨_, rfl, hr, hbel⟩

set_option maxRecDepth 20000 in
set_option maxHeartbeats 1000000 in
/-- nat.product where the first is the shorter one. -/
theorem product_short (u v : Value) (x y : Nat) (w : World) (hu : Rep w u x) (hv : Rep w v y) (hle : nl W32 y < nl W32 x) (h40 : nl W32 y < 40) (hlim : nl W32 x ≤ 1000000) :
    Calls Tryd.prog 53 #[v, u] w fun e w' => ∃ r, e = .returned r ∧ RepM w.heap.size w' r (x * y) ∧ Below w.heap.size w w' := by
  obtain ⟨i0, hi, hz0, hz1, hz2⟩ := info_parts info_u64
  obtain ⟨ao, c, rfl, _, hl, h4⟩ := hu
  obtain ⟨bo, d, rfl, _, kl, k4⟩ := hv
  by_cases h0 : nl W32 y = 0
  · have hy : y = 0 := (nl_eq_zero W32 y (by decide)).1 h0
    subst hy
    rw [nl_zero] at *
    go_enter Tryd.func53, Tryd.ntmps53
    go_wp2
    go_ret
    exact ⟨_, rfl, by unfold RepM; rw [nl_zero]; exact Mine.nil _ _ _ _, Below.refl _ _⟩
  · obtain ⟨b1, o1, rfl, hc⟩ := h4 (by omega)
    obtain ⟨b2, o2, rfl, kc⟩ := k4 (by omega)
    have hb1 := hc.lt (by omega)
    have hb2 := kc.lt (by omega)
    have vx := val_nl W32 x (by decide)
    have vy := val_nl W32 y (by decide)
    clear h4 k4
    generalize nl W32 x = la at *
    generalize nl W32 y = lb at *
    have VX : Hid (val W32 (dg W32 x) la = (x : Int)) := vx
    have VY : Hid (val W32 (dg W32 y) lb = (y : Int)) := vy
    clear vx vy
    have hnl : lb < la := by omega
    have hne : ((lb : Int) == 0) = false := by simp; omega
    go_enter Tryd.func53, Tryd.ntmps53
    go_wp2_with (at_make; refine wpList_make_full _ rfl _ _ 23 rfl _ 59 i0 (.int .u64 0) 1 Tryd.underlying23 hi hz0 hz1 _ _ _ _ (la + lb) rfl rfl (by omega) (by omega) (by rw [hz2]; omega) (by unfold maxLen; omega) (Nat.le_refl _) ?_; intro w1 hown hgrow)
    have hbl := below_grown hgrow
    obtain ⟨hc1, hs1⟩ := mine_made (k := .u64) (w := w) hown (fun _ => 0) (fun i hi => made_zero .u64 (la + lb) i hi)
    clear hown hgrow
    refine (mulRows_any _ _ _ _ _ _ _ _ _ _ _ _ _ _ _ (Nat.le_refl _) (Nat.le_refl _) (by unfold LIM; omega) hc1 hs1 (hc.below hbl hb1) (kc.below hbl hb2) (by omega) (by omega) (u32_dg x la) (u32_dg y lb)).mono ?_
    rintro e w2 ⟨rfl, h, hch, huh, hvh, hupd⟩
    rw [VX.out, VY.out] at hvh
    have hMine : Mine .u64 w.heap.size w2 (.slice (some ⟨w.heap.size, 0, none⟩) (la + lb) (la + lb)) (la + lb) h := ⟨_, _, rfl, Nat.le_refl _, by unfold LIM; omega, fun _ => ⟨_, _, rfl, hch, hs1.upd (hc1.lt (by omega)) hupd, Nat.le_refl _⟩⟩
    have hbel : Below w.heap.size w w2 := hbl.trans (hupd.below (Nat.le_refl _) hbl.size)
    clear hc1 hs1
    go_wp2_with (go_at_call 62; refine (cut_mine _ _ _ _ _ (x * y) hMine huh (by rw [hvh]; simp)).mono ?_; rintro e w3 ⟨r, rfl, hr, rfl⟩)
    go_ret
    exact ⟨_, rfl, hr, hbel⟩

theorem product_any (u v : Value) (x y : Nat) (w : World) (hu : Rep w u x) (hv : Rep w v y) (h40 : nl W32 x < 40 ∨ nl W32 y < 40) (hx : nl W32 x ≤ 1000000) (hy : nl W32 y ≤ 1000000) :
    Calls Tryd.prog 53 #[u, v] w fun e w' => ∃ r, e = .returned r ∧ RepM w.heap.size w' r (x * y) ∧ Below w.heap.size w w' := by
  by_cases h : nl W32 x < nl W32 y
  · rw [Nat.mul_comm]; exact product_short v u y x w hv hu h (by omega) hy
  · exact product_long u v x y w hu hv (by omega) (by omega) hx

set_option maxRecDepth 20000 in
set_option maxHeartbeats 400000 in
theorem mul_any (u v : Value) (n m : Nat) (f g : Nat → Int) (w : World) (hu : Nums .u64 w u n f) (hv : Nums .u64 w v m g) (hf : U64 n f) (hg : U64 m g) (h40 : n < 40 ∨ m < 40) (hn : n ≤ 1000000) (hm : m ≤ 1000000) :
    Calls Tryd.prog 40 #[u, v] w fun e w' => ∃ r, e = .returned r ∧ RepM w.heap.size w' r (num f n * num g m) ∧ Below w.heap.size w w' := by
  have hx := nl_le W32 (num f n) n (by decide) (num_lt f n)
  have hy := nl_le W32 (num g m) m (by decide) (num_lt g m)
  go_enter Tryd.func40, Tryd.ntmps40
  go_wp2_with fail
  refine (plain_any _ _ _ _ hu hf).mono ?_
  rintro e w1 ⟨r1, rfl, hr1, hb1⟩
  go_wp2_with fail
  refine (plain_any _ _ _ _ (hv.below hb1) hg).mono ?_
  rintro e w2 ⟨r2, rfl, hr2, hb2⟩
  go_wp2_with fail
  refine (product_any _ _ _ _ _ (Nums.below hr1 hb2) hr2 (by omega) (by omega) (by omega)).mono ?_
  rintro e w3 ⟨r, rfl, hr, hb3⟩
  go_wp2
  go_ret
  have := hb1.size
  have := hb2.size
  exact ⟨_, rfl, hr.le (by omega), hb1.trans ((hb2.mono (by omega)).trans (hb3.mono (by omega)))⟩

end Go.Proofs.YtjfacmeeplalkaaDoor

/-
  What nat.divideByLimb leaves and answers: the quotient in place, and the rest.
-/
namespace Go.Proofs.YtjfacmeeplalkaaDoor
open Go.RowKit

theorem divLimb_step (B : Nat) (f h : Nat → Int) (n k : Nat) (r d x : Int) (hk : k < n) (hh : h k = f k) (hx : x = r * B + f k)
    (hv : val B f n = val B f (k + 1) + (val B h n - val B f (k + 1)) * d + r * (B : Int) ^ (k + 1)) :
    val B f n = val B f k + (val B (put h k (x / d)) n - val B f k) * d + x % d * (B : Int) ^ k := by
  rw [val_put B h n k _ hk, hh]
  have e1 : (B : Int) ^ (k + 1) = B * (B : Int) ^ k := by rw [Int.pow_succ, Int.mul_comm]
  rw [hv, e1]
  simp only [val]
  have e2 := Int.emod_add_mul_ediv x d
  generalize (B : Int) ^ k = p at *
  generalize val B f k = a
  generalize val B h n = b
  have e3 : r * (B * p) = x * p - f k * p := by rw [hx, Int.add_mul, Int.mul_assoc]; omega
  have e4 : x * p = x % d * p + d * (x / d) * p := by rw [← Int.add_mul, e2]
  have e5 : (b + (x / d - f k) * p - a) * d = b * d + d * (x / d) * p - f k * p * d - a * d := by
    rw [Int.sub_mul, Int.add_mul, Int.sub_mul, Int.sub_mul]
    have : x / d * p * d = d * (x / d) * p := by rw [Int.mul_assoc, Int.mul_comm p d, ← Int.mul_assoc, Int.mul_comm (x / d) d]
    omega
  have e6 : (b - (a + f k * p)) * d = b * d - a * d - f k * p * d := by rw [Int.sub_mul, Int.add_mul]; omega
  rw [e3, e4, e5, e6]; omega

set_option maxRecDepth 20000 in
set_option maxHeartbeats 1000000 in
theorem divLimb_pos (g off n c : Nat) (f : Nat → Int) (d : Int) (w : World) (hl : n ≤ LIM) (hc : Cells w .u64 g off n f) (hs : Soft w g off n) (hf : U32 n f) (h0 : 0 < d) (h1 : d < 4294967296) :
    Calls Tryd.prog 61 #[.slice (some ⟨g, off, none⟩) n c, .int .u64 d] w fun e w' => ∃ (r : Int) (h : Nat → Int), e = .returned (.int .u64 r) ∧ 0 ≤ r ∧ r < d ∧
      Cells w' .u64 g off n h ∧ U32 n h ∧ val W32 f n = val W32 h n * d + r ∧ Upd w w' g off n := by
  unfold LIM at hl
  have hd0 : ¬ d = 0 := by omega
  go_enter Tryd.func61, Tryd.ntmps61
  go_wp2
  go_loopw [5, 6] (fun vr vi wr => ∃ (k : Nat) (r : Int) (h : Nat → Int), k ≤ n ∧ vr = .int .u64 r ∧ vi = .int .i64 ((k : Int) - 1) ∧ 0 ≤ r ∧ r < d ∧ Cells wr .u64 g off n h ∧ U32 n h ∧ (∀ i, i < k → h i = f i) ∧
      val W32 f n = val W32 f k + (val W32 h n - val W32 f k) * d + r * (W32 : Int) ^ k ∧ Upd w wr g off n) (fun _ vi _ => (intOf vi + 1).toNat)
  case atStart => exact ⟨n, 0, f, Nat.le_refl _, rfl, rfl, Int.le_refl _, h0, hc, hf, fun _ _ => rfl, by simp, Upd.refl _ _ _ _⟩
  case round =>
    obtain ⟨k, r, h, hk, rfl, rfl, hr0, hr1, hck, huk, hsame, hv, hupd⟩ := hrel
    have HV : Hid (val W32 f n = val W32 f k + (val W32 h n - val W32 f k) * d + r * (W32 : Int) ^ k) := hv
    have HS : Hid (∀ i, i < k → h i = f i) := hsame
    clear hv hsame
    cases k with
    | zero =>
      go_wp2
      go_ret
      exact ⟨r, h, rfl, hr0, hr1, hck, huk, by have := HV.out; simpa [val] using this, hupd⟩
    | succ k =>
      have hcell := hck k (by omega)
      have hfr := (hs.upd (hc.lt (by omega)) hupd) k (by omega)
      have bf := hf k (by omega)
      have hkf := HS.out k (by omega)
      rw [hkf] at hcell
      unfold W32 at bf
      have e1 : (((k + 1 : Nat) : Int) - 1) = (k : Int) := by omega
      rw [e1]
      have hor := or_join' r (f k) hr0 (by omega) bf.1 bf.2
      have HKF : Hid (h k = f k) := hkf
      clear hkf
      go_wp2
      go_region
      go_wp2
      go_roundw
      case rel =>
        have q0 : 0 ≤ (r * 4294967296 + f k) / d := Int.ediv_nonneg (by omega) (by omega)
        have q1 : (r * 4294967296 + f k) / d < 4294967296 := by
          apply Int.ediv_lt_of_lt_mul h0
          have := Int.mul_le_mul_of_nonneg_right (show r + 1 ≤ d by omega) (show (0 : Int) ≤ 4294967296 by omega)
          rw [Int.mul_comm 4294967296 d]; omega
        refine ⟨k, (r * 4294967296 + f k) % d, put h k ((r * 4294967296 + f k) / d), by omega, rfl, rfl, Int.emod_nonneg _ hd0, Int.emod_lt_of_pos _ h0, hck.set k (by omega) _, put_bounds huk q0 (by unfold W32; omega), ?_, ?_, ?_⟩
        · intro i hi; rw [put_other _ _ _ _ (by omega)]; exact HS.out i (by omega)
        · exact divLimb_step W32 f h n k r d _ (by omega) HKF.out rfl HV.out
        · exact (hupd.trans (Upd.set k (by omega) _)).drew
      case measure => simp [intOf]

set_option maxRecDepth 20000 in
set_option maxHeartbeats 400000 in
theorem divLimb_nil (ao : Option Addr) (c : Nat) (d : Int) (w : World) :
    Calls Tryd.prog 61 #[.slice ao 0 c, .int .u64 d] w fun e w' => e = .returned (.int .u64 0) ∧ w' = w := by
  go_enter Tryd.func61, Tryd.ntmps61
  go_wp2
  go_rounds 1
  go_ret
  exact ⟨rfl, rfl⟩

/-- A row of limbs in memory of the call's own, divided in place: what is left of it is the quotient's limbs (zeros may stand on top), and the rest is answered. -/
theorem divLimb_mine (B : Nat) (v : Value) (n : Nat) (f : Nat → Int) (d : Int) (w : World) (hm : Mine .u64 B w v n f) (hBw : B ≤ w.heap.size) (hf : U32 n f) (h0 : 0 < d) (h1 : d < 4294967296) :
    Calls Tryd.prog 61 #[v, .int .u64 d] w fun e w' => ∃ (r : Int) (h : Nat → Int), e = .returned (.int .u64 r) ∧ 0 ≤ r ∧ r < d ∧
      Mine .u64 B w' v n h ∧ U32 n h ∧ val W32 f n = val W32 h n * d + r ∧ Below B w w' := by
  obtain ⟨ao, c, rfl, hnc, hl, h4⟩ := hm
  by_cases hn : n = 0
  · subst hn
    refine (divLimb_nil ao c d w).mono fun e w' ⟨he, hw⟩ => ?_
    subst hw
    exact ⟨0, f, he, Int.le_refl _, h0, ⟨_, _, rfl, hnc, hl, h4⟩, hf, by simp [val], Below.refl _ _⟩
  · obtain ⟨b, off, rfl, hc, hs, hB⟩ := h4 (by omega)
    refine (divLimb_pos b off n c f d w hl hc hs hf h0 h1).mono fun e w' ⟨r, h, he, hr0, hr1, hch, huh, hvh, hupd⟩ => ?_
    exact ⟨r, h, he, hr0, hr1, ⟨_, _, rfl, hnc, hl, fun _ => ⟨_, _, rfl, hch, hs.upd (hc.lt (by omega)) hupd, hB⟩⟩, huh, hvh, hupd.below hB hBw⟩

end Go.Proofs.YtjfacmeeplalkaaDoor

/-
  What nat.divide answers where no long division is needed: the number is less than the divisor, or both are small, or the divisor has one limb.
-/
namespace Go.Proofs.YtjfacmeeplalkaaDoor
open Go.RowKit

theorem num_nl (m : Nat) : num (dg W32 m) (nl W32 m) = m := num_dg m _ (lt_pow_nl W32 m (by decide))

theorem cmp_rep (u v : Value) (x y : Nat) (w : World) (hu : Rep w u x) (hv : Rep w v y) :
    Calls Tryd.prog 44 #[u, v] w fun e w' => e = .returned (.int .i64 (cmpI x y)) ∧ Below w.heap.size w w' := by
  have h := cmp_any u v _ _ _ _ w hu hv (u64_dg x _) (u64_dg y _)
  rw [num_nl, num_nl] at h; exact h

theorem clean_rep (u : Value) (x : Nat) (w : World) (hu : Rep w u x) :
    Calls Tryd.prog 36 #[u] w fun e w' => ∃ v', e = .returned v' ∧ RepM w.heap.size w' v' x ∧ Below w.heap.size w w' := by
  have h := clean_any u _ _ w hu (u64_dg x _)
  rw [num_nl] at h; exact h

theorem toV_nl (m : Nat) (h : nl W32 m ≤ 2) : toV (dg W32 m) (nl W32 m) = m := by
  have hs : sz (lo (dg W32 m)) (nl W32 m) = nl W32 m := by rw [num_sz, num_nl]
  have hv := val_nl W32 m (by decide)
  have b0 := dg_bounds W32 m 0 (by decide)
  have b1 := dg_bounds W32 m 1 (by decide)
  unfold W32 at b0 b1
  unfold toV at0
  rw [hs, if_pos h]
  rcases (show nl W32 m = 0 ∨ nl W32 m = 1 ∨ nl W32 m = 2 by omega) with e | e | e
  · rw [e] at hv ⊢; simp [val] at hv ⊢; omega
  · rw [e] at hv ⊢; simp [val] at hv ⊢; unfold W32 at *; omega
  · rw [e] at hv ⊢; simp [val] at hv ⊢; unfold W32 at *; omega

theorem to_rep (u : Value) (x : Nat) (w : World) (hu : Rep w u x) (h : nl W32 x ≤ 2) :
    Calls Tryd.prog 47 #[u] w fun e w' => e = .returned (.tuple #[.int .u64 x, .bool true]) ∧ w' = w := by
  have g := to_any u _ _ w hu (u64_dg x _)
  have hs : sz (lo (dg W32 x)) (nl W32 x) = nl W32 x := by rw [num_sz, num_nl]
  rw [toV_nl x h, hs, decide_eq_true h] at g; exact g

set_option maxRecDepth 20000 in
set_option maxHeartbeats 400000 in
theorem divide_less (u v : Value) (x y : Nat) (w : World) (hu : Rep w u x) (hv : Rep w v y) (h : x < y) :
    Calls Tryd.prog 46 #[u, v] w fun e w' => ∃ q r, e = .returned (.tuple #[q, r]) ∧ RepM w.heap.size w' q (x / y) ∧ RepM w.heap.size w' r (x % y) ∧ Below w.heap.size w w' := by
  have hc : cmpI x y = -1 := cmpI_lt (by omega)
  go_enter Tryd.func46, Tryd.ntmps46
  go_wp2_with fail
  refine (cmp_rep _ _ _ _ _ hu hv).mono ?_
  rintro e w1 ⟨rfl, hb1⟩
  rw [hc]
  go_wp2_with fail
  refine (clean_rep _ _ _ (Nums.below hu hb1)).mono ?_
  rintro e w2 ⟨r, rfl, hr, hb2⟩
  go_wp2
  go_ret2
  have := hb1.size
  refine ⟨_, _, rfl, ?_, ?_, hb1.trans (hb2.mono (by omega))⟩
  · rw [Nat.div_eq_of_lt h]; unfold RepM; rw [nl_zero]; exact Mine.nil _ _ _ _
  · rw [Nat.mod_eq_of_lt h]; exact hr.le (by omega)

theorem quo_rem (x y : Nat) (r q : Int) (hy : 0 < y) (h0 : 0 ≤ r) (h1 : r < y) (h : (x : Int) = q * y + r) : q = ((x / y : Nat) : Int) ∧ r = ((x % y : Nat) : Int) := by
  have e1 : (x : Int) / y = q := by
    rw [h, Int.add_comm, Int.add_mul_ediv_right _ _ (by omega), Int.ediv_eq_zero_of_lt h0 h1]; omega
  have e2 : (x : Int) % y = r := by
    rw [h, Int.add_comm, Int.add_mul_emod_self_right, Int.emod_eq_of_lt h0 h1]
  exact ⟨by rw [Int.natCast_ediv, e1], by rw [Int.natCast_emod, e2]⟩

set_option maxRecDepth 20000 in
set_option maxHeartbeats 1000000 in
theorem divide_limb (u v : Value) (x y : Nat) (w : World) (hu : Rep w u x) (hv : Rep w v y) (h : y ≤ x) (h2 : 2 < nl W32 x) (hy1 : nl W32 y = 1) :
    Calls Tryd.prog 46 #[u, v] w fun e w' => ∃ q r, e = .returned (.tuple #[q, r]) ∧ RepM w.heap.size w' q (x / y) ∧ RepM w.heap.size w' r (x % y) ∧ Below w.heap.size w w' := by
  have hc : ¬ cmpI x y < 0 := by unfold cmpI; rw [if_neg (by omega)]; split <;> omega
  have hd := val_nl W32 y (by decide)
  have hdb := dg_bounds W32 y 0 (by decide)
  rw [hy1] at hd
  simp [val] at hd
  have hypos : 0 < y := by
    rcases Nat.eq_zero_or_pos y with e | e
    · subst e; rw [nl_zero] at hy1; omega
    · exact e
  have hu0 := hu
  have hv0 := hv
  obtain ⟨ao, c, rfl, hl⟩ := rep_val hu0
  obtain ⟨bo, d, rfl, _, kl, k4⟩ := hv0
  obtain ⟨b2, o2, rfl, kc⟩ := k4 (by omega)
  have kcell := kc 0 (by omega)
  rw [hd, Nat.add_zero] at kcell
  have hb2 := kc.lt (by omega)
  rw [hd] at hdb
  unfold W32 at hdb
  have HD : Hid (dg W32 y 0 = (y : Int)) := hd
  clear hd hu0 k4 kc
  rw [hy1] at *
  go_enter Tryd.func46, Tryd.ntmps46
  go_wp2_with fail
  refine (cmp_rep _ _ _ _ _ hu hv).mono ?_
  rintro e w1 ⟨rfl, hb1⟩
  have s1 := hb1.size
  go_wp2_with fail
  refine (clean_rep _ _ _ (Nums.below hu hb1)).mono ?_
  rintro e w2 ⟨q, rfl, hq, hbq⟩
  have s2 := hbq.size
  have kcell2 : w2.cell? ⟨b2, o2, none⟩ = some (.int .u64 (y : Int)) := (hbq.cell (by exact Nat.lt_of_lt_of_le hb2 s1)).trans ((hb1.cell (by exact hb2)).trans kcell)
  clear kcell
  go_wp2_with fail
  refine (divLimb_mine _ _ _ _ _ _ hq s2 (u32_dg _ _) (by omega) (by omega)).mono ?_
  rintro e w3 ⟨r, h, rfl, hr0, hr1, hmine, huh, hvh, bel23⟩
  rw [val_nl W32 x (by decide)] at hvh
  obtain ⟨hq1, hr2⟩ := quo_rem x y r _ hypos hr0 hr1 hvh
  have hQ : Hid (val W32 h (nl W32 x) = ((x / y : Nat) : Int)) := hq1
  have hR : Hid (r = ((x % y : Nat) : Int)) := hr2
  have bel3 : Below w.heap.size w w3 := hb1.trans ((hbq.mono (by omega)).trans (bel23.mono (by omega)))
  clear hq1 hr2 hvh kcell2
  go_wp2_with (first | (go_at_call 62; refine (cut_mine _ _ _ _ _ (x / y) hmine huh hQ.out).mono ?_; rintro e w4 ⟨q2, rfl, hq2, rfl⟩) | (go_at_call 37; refine (of_any _ _ hr0 (by omega)).mono ?_; rintro e w5 ⟨r2, rfl, hr2, hb5⟩))
  go_ret2
  have s4 := bel3.size
  rw [show r.toNat = x % y by rw [hR.out]; rfl] at hr2
  exact ⟨_, _, rfl, (hq2.below hb5).le (by omega), hr2.le (by omega), bel3.trans (hb5.mono (by omega))⟩

end Go.Proofs.YtjfacmeeplalkaaDoor

/-
  What nat.DivMod answers, given what nat.divide answers of the two numbers.
-/
namespace Go.Proofs.YtjfacmeeplalkaaDoor
open Go.RowKit

/-- What nat.divide is to answer of x and y. -/
def DivideOk (x y : Nat) : Prop := ∀ (u v : Value) (w : World), Rep w u x → Rep w v y →
    Calls Tryd.prog 46 #[u, v] w fun e w' => ∃ q r, e = .returned (.tuple #[q, r]) ∧ RepM w.heap.size w' q (x / y) ∧ RepM w.heap.size w' r (x % y) ∧ Below w.heap.size w w'

set_option maxRecDepth 20000 in
set_option maxHeartbeats 1000000 in
theorem divMod_of (u v : Value) (n m : Nat) (f g : Nat → Int) (w : World) (hu : Nums .u64 w u n f) (hv : Nums .u64 w v m g) (hf : U64 n f) (hg : U64 m g) (h0 : num g m ≠ 0) (hd : DivideOk (num f n) (num g m)) :
    Calls Tryd.prog 38 #[u, v] w fun e w' => ∃ q r, e = .returned (.tuple #[q, r, .int .i64 0]) ∧ RepM w.heap.size w' q (num f n / num g m) ∧ RepM w.heap.size w' r (num f n % num g m) ∧ Below w.heap.size w w' := by
  have hz : decide (sz (lo g) m = 0) = false := by
    rw [num_sz]; simp only [decide_eq_false_iff_not]; rw [nl_eq_zero W32 _ (by decide)]; exact h0
  go_enter Tryd.func38, Tryd.ntmps38
  go_wp2_with fail
  refine (zero_any _ _ _ _ hv hg).mono ?_
  rintro e w0 ⟨rfl, rfl⟩
  rw [hz]
  go_wp2_with fail
  refine (plain_any _ _ _ _ hu hf).mono ?_
  rintro e w1 ⟨r1, rfl, hr1, hb1⟩
  go_wp2_with fail
  refine (plain_any _ _ _ _ (hv.below hb1) hg).mono ?_
  rintro e w2 ⟨r2, rfl, hr2, hb2⟩
  go_wp2_with fail
  refine (hd _ _ _ (Nums.below hr1 hb2) hr2).mono ?_
  rintro e w3 ⟨q, r, rfl, hq, hr, hb3⟩
  go_wp2
  go_ret3
  have := hb1.size
  have := hb2.size
  exact ⟨_, _, rfl, hq.le (by omega), hr.le (by omega), hb1.trans ((hb2.mono (by omega)).trans (hb3.mono (by omega)))⟩

set_option maxRecDepth 20000 in
set_option maxHeartbeats 400000 in
theorem divMod_zero (u v : Value) (m : Nat) (g : Nat → Int) (w : World) (hv : Nums .u64 w v m g) (hg : U64 m g) (h0 : num g m = 0) :
    Calls Tryd.prog 38 #[u, v] w fun e w' => e = .returned (.tuple #[.slice none 0 0, .slice none 0 0, .int .i64 2]) ∧ w' = w := by
  have hz : decide (sz (lo g) m = 0) = true := by
    rw [num_sz, h0, nl_zero]; rfl
  go_enter Tryd.func38, Tryd.ntmps38
  go_wp2_with fail
  refine (zero_any _ _ _ _ hv hg).mono ?_
  rintro e w0 ⟨rfl, rfl⟩
  rw [hz]
  go_wp2
  go_ret3
  exact ⟨rfl, rfl⟩

end Go.Proofs.YtjfacmeeplalkaaDoor

/-
  What nat.writeChunks leaves: the decimal digits of a number, zeros ahead.
-/
namespace Go.Proofs.YtjfacmeeplalkaaDoor
open Go.RowKit

/-- The decimal digit of 10^p. -/
def dd (x p : Nat) : Int := 48 + ((x / 10 ^ p % 10 : Nat) : Int)
theorem dd_bounds (x p : Nat) : 48 ≤ dd x p ∧ dd x p ≤ 57 := by unfold dd; omega
theorem dd_chunk (x k i : Nat) (hi : i < 9) : 48 + ((x / 10 ^ (9 * k) % 1000000000 / 10 ^ i % 10 : Nat) : Int) = dd x (9 * k + i) := by
  unfold dd
  rw [Nat.pow_add, ← Nat.div_div_eq_div_mul]
  generalize x / 10 ^ (9 * k) = y
  have e : (1000000000 : Nat) = 10 ^ i * (10 * 10 ^ (8 - i)) := by
    have : (1000000000 : Nat) = 10 ^ (i + (1 + (8 - i))) := by rw [show i + (1 + (8 - i)) = 9 by omega]
    rw [this, Nat.pow_add, Nat.pow_add, Nat.pow_one]
  rw [e, Nat.mod_mul_right_div_self, Nat.mod_mul_right_mod]

theorem chunk_next (x k : Nat) : x / 10 ^ (9 * k) / 1000000000 = x / 10 ^ (9 * (k + 1)) := by
  rw [Nat.div_div_eq_div_mul, Nat.mul_add, Nat.pow_add]

set_option maxRecDepth 20000 in
set_option maxHeartbeats 4000000 in
theorem chunks_any (B go oo L c K : Nat) (va : Value) (x : Nat) (h0 : Nat → Int) (w : World) (hL : L = 9 * K) (hlim : L ≤ LIM) (hB : go < B) (hBw : B ≤ w.heap.size)
    (hout : Cells w .u8 go oo L h0) (hsoft : Soft w go oo L) (ha : RepM B w va x) :
    Calls Tryd.prog 80 #[.slice (some ⟨go, oo, none⟩) L c, va] w fun e w' =>
      e = .returned (.tuple #[]) ∧ Cells w' .u8 go oo L (fun i => dd x (L - 1 - i)) ∧ UpdB B w w' go oo L := by
  have HL : Hid (L = 9 * K) := hL
  clear hL
  unfold LIM at hlim
  go_enter Tryd.func80, Tryd.ntmps80
  go_wp2
  go_loopw [1, 4] (fun v ve wr => ∃ (k en : Nat) (h : Nat → Int), en + 9 * k = L ∧ ve = .int .i64 (en : Int) ∧ RepM B wr v (x / 10 ^ (9 * k)) ∧ Cells wr .u8 go oo L h ∧ (∀ i, i < L → en ≤ i → h i = dd x (L - 1 - i)) ∧ UpdB B w wr go oo L) (fun _ ve _ => (intOf ve).toNat)
  case atStart => exact ⟨0, L, h0, by omega, rfl, by simpa using ha, hout, fun i h1 h2 => by omega, UpdB.refl _ _ _ _ _⟩
  case round =>
    obtain ⟨k, en, h, hen, rfl, hrep, hc, hdig, hupd⟩ := hrel
    have HEN : Hid (en + 9 * k = L) := hen
    have henL : en ≤ L := by omega
    have HD : Hid (∀ i, i < L → en ≤ i → h i = dd x (L - 1 - i)) := hdig
    clear hen hdig
    have hsz := hupd.size
    by_cases hpos : 0 < en
    · have h9 : 9 ≤ en := by have := HEN.out; have := HL.out; omega
      go_wp2_with fail
      refine (divLimb_mine _ _ _ _ _ _ hrep (by omega) (u32_dg _ _) (by omega) (by omega)).mono ?_
      rintro e w3 ⟨r, h3, rfl, hr0, hr1, hmine, huh, hvh, hb3⟩
      rw [val_nl W32 _ (by decide)] at hvh
      obtain ⟨hq1, hr2⟩ := quo_rem _ 1000000000 r _ (by omega) hr0 hr1 hvh
      rw [chunk_next] at hq1
      have HQ : Hid (val W32 h3 (nl W32 (x / 10 ^ (9 * k))) = ((x / 10 ^ (9 * (k + 1)) : Nat) : Int)) := hq1
      have HR : Hid (r = ((x / 10 ^ (9 * k) % 1000000000 : Nat) : Int)) := hr2
      clear hq1 hr2 hvh
      have hupd4 : UpdB B w w3 go oo L := hupd.trans (UpdB.of_below hb3 hB)
      have hc3 := hc.below hb3 hB
      clear hc hupd hrep
      go_wp2_with fail
      refine (cut_mine _ _ _ _ _ _ hmine huh HQ.out).mono ?_
      rintro e w4 ⟨v4, rfl, hv4, rfl⟩
      clear hmine huh HQ hb3
      go_wp2
      go_loopw [5, 17] (fun vc vi w2 => ∃ (i : Nat) (h2 : Nat → Int), i ≤ 9 ∧ vc = .int .u64 ((x / 10 ^ (9 * k) % 1000000000 / 10 ^ i : Nat) : Int) ∧ vi = .int .i64 (i : Int) ∧ RepM B w2 v4 (x / 10 ^ (9 * (k + 1))) ∧ Cells w2 .u8 go oo L h2 ∧ (∀ p, p < L → en - i ≤ p → h2 p = dd x (L - 1 - p)) ∧ UpdB B w w2 go oo L) (fun _ vi _ => 9 - (intOf vi).toNat)
      case atStart => exact ⟨0, h, by omega, by rw [HR.out]; simp, rfl, hv4, hc3, fun p h1 h2 => HD.out p h1 (by omega), hupd4⟩
      case round =>
        obtain ⟨i, h2, hi, rfl, rfl, hrep2, hc2, hd2, hupd2⟩ := hrel
        have HD2 : Hid (∀ p, p < L → en - i ≤ p → h2 p = dd x (L - 1 - p)) := hd2
        clear hd2
        by_cases hi9 : i < 9
        · have hch : Hid (48 + ((x / 10 ^ (9 * k) % 1000000000 / 10 ^ i % 10 : Nat) : Int) = dd x (9 * k + i)) := dd_chunk x k i hi9
          have hcn : Hid (x / 10 ^ (9 * k) % 1000000000 / 10 ^ (i + 1) = x / 10 ^ (9 * k) % 1000000000 / 10 ^ i / 10) := by
            show _ = _
            rw [Nat.pow_succ, Nat.div_div_eq_div_mul]
          have hcb : x / 10 ^ (9 * k) % 1000000000 / 10 ^ i ≤ 1000000000 := Nat.le_trans (Nat.div_le_self _ _) (by omega)
          generalize x / 10 ^ (9 * k) % 1000000000 / 10 ^ i = ch at *
          have hcell := hc2 (en - 1 - i) (by omega)
          have hfr := (hsoft.updB hupd2) (en - 1 - i) (by omega)
          have hp : ((en : Int) - 1 - (i : Int)) = ((en - 1 - i : Nat) : Int) := by omega
          go_wp2
          go_roundw
          case rel =>
            refine ⟨i + 1, put h2 (en - 1 - i) (48 + (ch : Int) % 10), by omega, ?_, by go_num, Mine.setLow hrep2 (by exact hB) _, hc2.set (en - 1 - i) (by omega) _, ?_, ?_⟩
            · rw [hcn.out]; simp
            · intro p h1 h3
              by_cases e : p = en - 1 - i
              · rw [e, put_same]
                have e2 := hch.out
                have e3 := HEN.out
                rw [show L - 1 - (en - 1 - i) = 9 * k + i by omega, ← e2]; simp
              · rw [put_other _ _ _ _ e]; exact HD2.out p h1 (by omega)
            · exact hupd2.trans (UpdB.of_upd (Upd.set (en - 1 - i) (by omega) _) (by have := hupd2.size; omega))
          case measure => simp [intOf]; omega
        · go_wp2
          have hi9' : i = 9 := by omega
          subst hi9'
          go_roundw
          case rel =>
            have e3 := HEN.out
            refine ⟨k + 1, en - 9, h2, by omega, by go_num, hrep2, hc2, fun p h1 h3 => HD2.out p h1 (by omega), hupd2⟩
          case measure => simp [intOf]; omega
    · go_wp2
      go_end0
      have : en = 0 := by omega
      subst this
      exact ⟨rfl, hc.congr (fun i hi => HD.out i hi (by omega)), hupd⟩

end Go.Proofs.YtjfacmeeplalkaaDoor

/-
  What nat.Print answers of numbers of up to 29 limbs: their decimal digits.
-/
namespace Go.Proofs.YtjfacmeeplalkaaDoor
open Go.RowKit

/-- How many decimal digits are written. -/
def ndec (x : Nat) : Nat := if nl 10 x = 0 then 1 else nl 10 x
/-- The n decimal digits of x. -/
def decs (x n : Nat) : List Int := (List.range n).map (fun i => dd x (n - 1 - i))
/-- The text of x. -/
def txt (x : Nat) : ByteArray := strOfNums (decs x (ndec x))
theorem decs_length (x n : Nat) : (decs x n).length = n := by simp [decs]
theorem decs_at (x n i : Nat) (h : i < n) : (decs x n).getD i 0 = dd x (n - 1 - i) := by simp [decs, List.getD, h]
theorem dd_dg (x p : Nat) : dd x p = 48 + dg 10 x p := rfl

theorem strip_end (x W a : Nat) (hx : x < 10 ^ W) (ha : a < W) (hz : ∀ i, i < a → dd x (W - 1 - i) = 48) (he : a + 1 = W ∨ dd x (W - 1 - a) ≠ 48) : W - a = ndec x := by
  have hn : nl 10 x = sz (dg 10 x) W := nl_spec 10 x W (by decide) hx
  have hzero : ∀ p, W - a ≤ p → p < W → dg 10 x p = 0 := fun p h1 h2 => by
    have := hz (W - 1 - p) (by omega)
    rw [show W - 1 - (W - 1 - p) = p by omega, dd_dg] at this; omega
  unfold ndec
  by_cases hd : dg 10 x (W - 1 - a) = 0
  · have hw : a + 1 = W := by
      rcases he with h | h
      · exact h
      · rw [dd_dg, hd] at h; exact absurd rfl h
    have e0 : sz (dg 10 x) W = 0 := sz_unique _ W 0 (by omega) (by omega) (fun i _ h2 => by
      by_cases hi : i = 0
      · rw [hi, show (0 : Nat) = W - 1 - a by omega]; exact hd
      · exact hzero i (by omega) h2)
    rw [hn, e0, if_pos rfl]; omega
  · have e0 : sz (dg 10 x) W = W - a := sz_unique _ W (W - a) (by omega) (fun _ => by rw [show W - a - 1 = W - 1 - a by omega]; exact hd) hzero
    rw [hn, e0, if_neg (by omega)]

theorem width_fits : ∀ l, l < 30 → 4294967296 ^ l ≤ 10 ^ ((l + l / 8 + 1) * 9) := by decide +kernel

set_option maxRecDepth 20000 in
set_option maxHeartbeats 400000 in
theorem blockTens_short (n : Nat) (w : World) (h : n ≤ 29) :
    Calls Tryd.prog 66 #[.int .i64 (n : Int)] w fun e w' => e = .returned (.slice none 0 0) ∧ w' = w := by
  go_enter Tryd.func66, Tryd.ntmps66
  go_wp2
  go_ret
  exact ⟨rfl, rfl⟩

set_option maxRecDepth 20000 in
set_option maxHeartbeats 400000 in
theorem writeBlocks_short (go oo L c K : Nat) (va : Value) (x : Nat) (h0 : Nat → Int) (w : World) (hL : L = 9 * K) (hlim : L ≤ LIM) (hgo : go < w.heap.size)
    (hout : Cells w .u8 go oo L h0) (hsoft : Soft w go oo L) (ha : Rep w va x) :
    Calls Tryd.prog 67 #[.slice (some ⟨go, oo, none⟩) L c, va, .slice none 0 0] w fun e w' =>
      e = .returned (.tuple #[]) ∧ Cells w' .u8 go oo L (fun i => dd x (L - 1 - i)) ∧ UpdB w.heap.size w w' go oo L := by
  have HL : Hid (L = 9 * K) := hL
  clear hL
  go_enter Tryd.func67, Tryd.ntmps67
  go_wp2_with fail
  refine (clean_rep _ _ _ ha).mono ?_
  rintro e w1 ⟨v1, rfl, hv1, hb1⟩
  go_wp2_with fail
  refine (chunks_any w.heap.size _ _ _ _ K _ x h0 _ HL.out hlim hgo hb1.size (hout.below hb1 hgo) (hsoft.below hb1 hgo) hv1).mono ?_
  rintro e w2 ⟨rfl, hc2, hu2⟩
  go_wp2
  refine bodyPost_ret (results_none rfl _ _ _) rfl ?_
  exact ⟨rfl, hc2, (UpdB.of_below hb1 hgo).trans hu2⟩

theorem info_u8 : (Tryd.prog.info? 5).map (fun i => (i.zero, i.size, i.bytes)) = some (some (.int .u8 0), 1, 1) := by kernel_rfl

set_option maxRecDepth 20000 in
set_option maxHeartbeats 1000000 in
theorem print_short (v : Value) (n : Nat) (f : Nat → Int) (w : World) (hv : Nums .u64 w v n f) (hf : U64 n f) (h29 : nl W32 (num f n) ≤ 29) :
    Calls Tryd.prog 50 #[v] w fun e w' => e = .returned (.string (txt (num f n))) ∧ Below w.heap.size w w' := by
  obtain ⟨i0, hi, hz0, hz1, hz2⟩ := info_parts info_u8
  have hfit := width_fits (nl W32 (num f n)) (by omega)
  have hxl := lt_pow_nl W32 (num f n) (by decide)
  generalize hx : num f n = x at *
  have hxW : Hid (x < 10 ^ ((nl W32 x + nl W32 x / 8 + 1) * 9)) := by
    show x < _
    have : W32 ^ nl W32 x ≤ 10 ^ ((nl W32 x + nl W32 x / 8 + 1) * 9) := hfit
    omega
  clear hfit hxl
  go_enter Tryd.func50, Tryd.ntmps50
  go_wp2_with fail
  refine (plain_any _ _ _ _ hv hf).mono ?_
  rintro e w1 ⟨v1, rfl, hv1, hb1⟩
  rw [hx] at hv1
  obtain ⟨ao, c, rfl, hl⟩ := rep_val hv1
  generalize hla : nl W32 x = la at *
  go_wp2_with fail
  refine (blockTens_short _ _ h29).mono ?_
  rintro e w2 ⟨rfl, rfl⟩
  obtain ⟨W, hW⟩ : ∃ W, W = (la + la / 8 + 1) * 9 := ⟨_, rfl⟩
  have hWb : 9 ≤ W ∧ W ≤ 1000 := by omega
  have hW9 : Hid (W = 9 * (la + la / 8 + 1)) := by show W = _; omega
  rw [← hW] at hxW
  have HW : Hid (W = (la + la / 8 + 1) * 9) := hW
  clear hW
  go_wp2_with (at_make; refine wpList_make_full _ rfl _ _ 91 rfl _ 5 i0 (.int .u8 0) 1 Tryd.underlying91 hi hz0 hz1 _ _ _ _ W rfl rfl (by have := HW.out; omega) (by have := HW.out; omega) (by rw [hz2]; omega) (by unfold maxLen; omega) (Nat.le_refl _) ?_; intro w3 hown hgrow)
  have hb3 := below_grown hgrow
  obtain ⟨hc3, hs3⟩ := mine_made (k := .u8) (w := w2) hown (fun _ => 0) (fun i hi => made_zero .u8 W i hi)
  clear hown hgrow
  have hlt3 := hc3.lt (by omega)
  refine (writeBlocks_short _ _ _ _ (la + la / 8 + 1) _ x _ _ hW9.out (by unfold LIM; omega) hlt3 hc3 hs3 (Nums.below hv1 hb3)).mono ?_
  rintro e w4 ⟨rfl, hc4, hu4⟩
  have s1 := hb1.size
  have s3 := hb3.size
  have s4 := hu4.size
  have hbel : Below w.heap.size w w4 := hb1.trans ((hb3.mono (by omega)).trans (hu4.below (by omega) (by omega)))
  clear hc3 hs3 hb3 hu4
  go_wp2
  go_loop [6] (fun v => ∃ a : Nat, a < W ∧ v = .int .i64 (a : Int) ∧ ∀ i, i < a → dd x (W - 1 - i) = 48) (fun v => W - (intOf v).toNat)
  case atStart => exact ⟨0, by omega, rfl, fun i hi => by omega⟩
  case round =>
    obtain ⟨a, ha, rfl, hz⟩ := hrel
    have HZ : Hid (∀ i, i < a → dd x (W - 1 - i) = 48) := hz
    clear hz
    have hcell : w4.cell? ⟨w2.heap.size, a, none⟩ = some (.int .u8 (dd x (W - 1 - a))) := by have := hc4 a ha; rw [Nat.zero_add] at this; exact this
    have hconv := run_convert_bytes_arg (P := Tryd.prog) w4 91 5 Tryd.underlying91 Tryd.underlying5 w2.heap.size a (W - a) (W - a) (decs x (W - a)) (decs_length _ _)
      (fun i hi => by rw [decs_at _ _ _ hi]; have := hc4 (a + i) (by omega); rw [Nat.zero_add] at this; rw [show W - a - 1 - i = W - 1 - (a + i) by omega]; exact this) 9 Tryd.underlying9
    by_cases hlast : a + 1 < W
    · have hg : decide ((a : Int) < (W : Int) - 1) = true := by simp; omega
      by_cases h48 : dd x (W - 1 - a) = 48
      · have hbq : (dd x (W - 1 - a) == 48) = true := by simp [h48]
        have H48 : Hid (dd x (W - 1 - a) = 48) := h48
        clear h48
        go_wp2
        go_round
        case rel => exact ⟨a + 1, by omega, by go_num, fun i hi => by by_cases e : i = a; exact e ▸ H48.out; exact HZ.out i (by omega)⟩
        case measure => simp [intOf]; omega
      · have hbq : (dd x (W - 1 - a) == 48) = false := by simp [h48]
        go_wp2
        go_ret
        have hend := strip_end x W a hxW.out ha HZ.out (.inr h48)
        refine ⟨?_, hbel⟩
        show Ending.returned (.string (strOfNums (decs x (W - a)))) = _
        rw [hend]; rfl
    · have hg : decide ((a : Int) < (W : Int) - 1) = false := by simp; omega
      go_wp2
      go_ret
      have hend := strip_end x W a hxW.out ha HZ.out (.inl (by omega))
      refine ⟨?_, hbel⟩
      show Ending.returned (.string (strOfNums (decs x (W - a)))) = _
      rw [hend]; rfl

end Go.Proofs.YtjfacmeeplalkaaDoor

/-
  What nat.timesPlus leaves and answers: a number times a limb, and another one on top, in memory of the call's own.
-/
namespace Go.Proofs.YtjfacmeeplalkaaDoor
open Go.RowKit

/-- A row of so many numbers of kind k, as values. -/
def valsOf (k : IntKind) (f : Nat → Int) (n : Nat) : List Value := (List.range n).map (fun i => Value.int k (f i))
theorem valsOf_length (k : IntKind) (f : Nat → Int) (n : Nat) : (valsOf k f n).length = n := by simp [valsOf]
theorem valsOf_at (k : IntKind) (f : Nat → Int) (n i : Nat) (h : i < n) : (valsOf k f n)[i]? = some (.int k (f i)) := by simp [valsOf, h]
theorem valsOf_set (k : IntKind) (f : Nat → Int) (n j : Nat) (v : Int) : (valsOf k f n).set j (.int k v) = valsOf k (put f j v) n := by
  apply List.ext_getElem?
  intro i
  rw [List.getElem?_set]
  by_cases hi : i < n
  · rw [valsOf_at _ _ _ _ hi, valsOf_at _ _ _ _ hi, valsOf_length]
    by_cases e : j = i
    · subst e; rw [if_pos rfl, if_pos hi, put_same]
    · rw [if_neg e, put_other _ _ _ _ (by omega)]
  · have h1 : (valsOf k f n)[i]? = none := by rw [List.getElem?_eq_none]; rw [valsOf_length]; omega
    have h2 : (valsOf k (put f j v) n)[i]? = none := by rw [List.getElem?_eq_none]; rw [valsOf_length]; omega
    rw [h1, h2, valsOf_length]
    split
    · rw [if_neg (by omega)]
    · rfl
theorem valsOf_snoc (k : IntKind) (f : Nat → Int) (n : Nat) (v : Int) : valsOf k f n ++ [.int k v] = valsOf k (put f n v) (n + 1) := by
  simp only [valsOf, List.range_succ, List.map_append, List.map_cons, List.map_nil, put_same]
  congr 1
  exact List.map_congr_left (fun i hi => by rw [put_other _ _ _ _ (by simp at hi; omega)])
theorem valsOf_congr (k : IntKind) {f g : Nat → Int} {n : Nat} (h : ∀ i, i < n → f i = g i) : valsOf k f n = valsOf k g n :=
  List.map_congr_left (fun i hi => by rw [h i (by simpa using hi)])

theorem grown_refl (w : World) (row : Option Nat) : w.grownBy w row := ⟨rfl, rfl, rfl, Nat.le_refl _, fun _ _ _ => rfl⟩
theorem grown_trans {a b c : World} {row : Option Nat} (h : a.grownBy b row) (g : b.grownBy c row) : a.grownBy c row :=
  ⟨g.os.trans h.os, g.tape.trans h.tape, g.output.trans h.output, Nat.le_trans h.size g.size, fun k hk hr => (g.block k (Nat.lt_of_lt_of_le hk h.size) hr).trans (h.block k hk hr)⟩
theorem grown_alloc {a b : World} {row : Option Nat} (h : a.grownBy b row) (o : Obj) : a.grownBy (b.alloc o) row := grown_trans h (World.grownBy_alloc b o row)

/-- In memory of the call's own (from B on), to be appended to: the number m in its form. -/
def Grows (B : Nat) (w : World) (v : Value) (m : Nat) : Prop := w.ownsRow B 59 1 v (nl W32 m) (valsOf .u64 (dg W32 m) (nl W32 m))

theorem times_step (B : Nat) (h f : Nat → Int) (n j : Nat) (p d q t : Int) (hj : j < n) (hh : h j = f j) (ht : t = p + f j * d)
    (hv : val B h n + p * (B : Int) ^ j = val B f j * d + q + (val B f n - val B f j)) :
    val B (put h j (t % B)) n + t / B * (B : Int) ^ (j + 1) = val B f (j + 1) * d + q + (val B f n - val B f (j + 1)) := by
  have e1 : (B : Int) ^ (j + 1) = (B : Int) ^ j * B := Int.pow_succ _ _
  rw [val_put B h n j _ hj, e1, carry_step, ht, hh]
  simp only [val]
  have e2 : (p + f j * d - f j) * (B : Int) ^ j = p * (B : Int) ^ j + f j * d * (B : Int) ^ j - f j * (B : Int) ^ j := by rw [Int.sub_mul, Int.add_mul]
  have e3 : (val B f j + f j * (B : Int) ^ j) * d = val B f j * d + f j * d * (B : Int) ^ j := by
    rw [Int.add_mul, Int.mul_assoc, Int.mul_comm ((B : Int) ^ j) d, ← Int.mul_assoc]
  rw [e2, e3]; omega

/-- What is left of the row at the loop's end, with nothing carried out. -/
theorem times_end (h : Nat → Int) (m m' n : Nat) (hn : n = nl W32 m) (hu : U32 n h) (hle : m ≤ m') (hv : val W32 h n = (m' : Int)) : nl W32 m' = n ∧ ∀ i, i < n → h i = dg W32 m' i := by
  have h1 := sz_val W32 (by decide) h n m' hu hv
  have h2 := sz_le h n
  refine ⟨?_, val_digit W32 h n m' hu hv⟩
  by_cases g : nl W32 m' < nl W32 m
  · have := lt_of_nl W32 m' m (by decide) g; omega
  · omega
/-- The same, with a limb carried out. -/
theorem times_more (h : Nat → Int) (m' n : Nat) (p : Int) (hu : U32 n h) (hp0 : 0 < p) (hp1 : p < (W32 : Int)) (hv : val W32 h n + p * (W32 : Int) ^ n = (m' : Int)) :
    nl W32 m' = n + 1 ∧ ∀ i, i < n + 1 → put h n p i = dg W32 m' i := by
  refine two_limbs m' (put h n p) (n + 1) ?_ ?_ ?_
  · intro i hi
    by_cases e : i = n
    · rw [e, put_same]; exact ⟨by omega, hp1⟩
    · rw [put_other _ _ _ _ e]; exact hu i (by omega)
  · simp only [val]
    rw [put_same, val_congr n (fun i hi => put_other h n i p (by omega))]; exact hv
  · intro _; rw [show n + 1 - 1 = n by omega, put_same]; omega

end Go.Proofs.YtjfacmeeplalkaaDoor

/-
  What nat.addLimbs, addInto, sum and Add do: sums.
-/
namespace Go.Proofs.YtjfacmeeplalkaaDoor
open Go.RowKit

theorem add_step (B : Nat) (h g : Nat → Int) (N i : Nat) (c t S : Int) (hi : i < N) (ht : t = c + (h i + g i)) (hv : val B h N + c * (B : Int) ^ i = S + val B g i) :
    val B (put h i (t % B)) N + t / B * (B : Int) ^ (i + 1) = S + val B g (i + 1) := by
  have e1 : (B : Int) ^ (i + 1) = (B : Int) ^ i * B := Int.pow_succ _ _
  rw [val_put B h N i _ hi, e1, carry_step, ht]
  simp only [val]
  have e2 : (c + (h i + g i) - h i) * (B : Int) ^ i = c * (B : Int) ^ i + g i * (B : Int) ^ i := by rw [show c + (h i + g i) - h i = c + g i by omega, Int.add_mul]
  rw [e2]; omega
theorem carry_on (B : Nat) (h : Nat → Int) (N i : Nat) (c t S : Int) (hi : i < N) (ht : t = c + h i) (hv : val B h N + c * (B : Int) ^ i = S) :
    val B (put h i (t % B)) N + t / B * (B : Int) ^ (i + 1) = S := by
  have e1 : (B : Int) ^ (i + 1) = (B : Int) ^ i * B := Int.pow_succ _ _
  rw [val_put B h N i _ hi, e1, carry_step, ht, show c + h i - h i = c by omega]; exact hv

set_option maxRecDepth 20000 in
set_option maxHeartbeats 1000000 in
theorem addLimbs_any (g off N c : Nat) (v : Value) (lb : Nat) (f fb : Nat → Int) (w : World) (hl : N ≤ LIM) (hlb : lb ≤ N)
    (hc : Cells w .u64 g off N f) (hs : Soft w g off N) (hf : U32 N f) (hv : Nums .u64 w v lb fb) (hb : U32 lb fb) (hne : 0 < lb → ∀ b o c, v = .slice (some ⟨b, o, none⟩) lb c → b ≠ g) :
    Calls Tryd.prog 81 #[.slice (some ⟨g, off, none⟩) N c, v] w fun e w' => ∃ (cr : Int) (h : Nat → Int), e = .returned (.int .u64 cr) ∧ 0 ≤ cr ∧ cr ≤ 1 ∧ Cells w' .u64 g off N h ∧ U32 N h ∧ (∀ i, lb ≤ i → h i = f i) ∧
      val W32 h N + cr * (W32 : Int) ^ lb = val W32 f N + val W32 fb lb ∧ Upd w w' g off N := by
  obtain ⟨bo, d, rfl, hd, kl, k4⟩ := hv
  unfold LIM at hl
  have K4 := show Hid (0 < lb → ∃ b off, bo = some ⟨b, off, none⟩ ∧ Cells w .u64 b off lb fb) from k4
  have HNE := show Hid (0 < lb → ∀ b o c, Value.slice bo lb d = .slice (some ⟨b, o, none⟩) lb c → b ≠ g) from hne
  clear k4 hne
  go_enter Tryd.func81, Tryd.ntmps81
  go_wp2
  go_loopw [5, 10] (fun vc vi wr => ∃ (i : Nat) (cr : Int) (h : Nat → Int), i ≤ lb ∧ vc = .int .u64 cr ∧ vi = .int .i64 (i : Int) ∧ 0 ≤ cr ∧ cr ≤ 1 ∧ Cells wr .u64 g off N h ∧ U32 N h ∧ (∀ p, i ≤ p → h p = f p) ∧
      val W32 h N + cr * (W32 : Int) ^ i = val W32 f N + val W32 fb i ∧ Upd w wr g off N) (fun _ vi _ => lb - (intOf vi).toNat)
  case atStart => exact ⟨0, 0, f, Nat.zero_le _, rfl, rfl, Int.le_refl _, by decide, hc, hf, fun _ _ => rfl, by simp [val], Upd.refl _ _ _ _⟩
  case round =>
    obtain ⟨i, cr, h, hi, rfl, rfl, hc0, hc1, hch, huh, hsame, hval, hupd⟩ := hrel
    have HV : Hid (val W32 h N + cr * (W32 : Int) ^ i = val W32 f N + val W32 fb i) := hval
    have HS : Hid (∀ p, i ≤ p → h p = f p) := hsame
    clear hval hsame
    by_cases hlt : i < lb
    · obtain ⟨b2, o2, rfl, kc⟩ := K4.out (by omega)
      have hbne := HNE.out (by omega) b2 o2 d rfl
      have hcb : wr.cell? ⟨b2, o2 + i, none⟩ = some (.int .u64 (fb i)) := (kc.upd hupd (.inl hbne)) i hlt
      have hca := hch i (by omega)
      have hfr := (hs.upd (hc.lt (by omega)) hupd) i (by omega)
      have bx := hb i hlt
      have bh := huh i (by omega)
      unfold W32 at bx bh
      have hm := and_mask (cr + (h i + fb i)) (by omega) (by omega)
      go_wp2
      go_roundw
      case rel =>
        refine ⟨i + 1, (cr + (h i + fb i)) / (W32 : Int), put h i ((cr + (h i + fb i)) % (W32 : Int)), by omega, rfl, by go_num, by unfold W32; omega, by unfold W32; omega, hch.set i (by omega) _, put_bounds huh (by unfold W32; omega) (by unfold W32; omega), ?_, ?_, ?_⟩
        · intro p hp; rw [put_other _ _ _ _ (by omega)]; exact HS.out p (by omega)
        · exact add_step W32 h fb N i cr _ _ (by omega) rfl HV.out
        · exact hupd.trans (Upd.set i (by omega) _)
      case measure => simp [intOf]; omega
    · have : i = lb := by omega
      subst this
      go_wp2
      go_ret
      exact ⟨cr, h, rfl, hc0, hc1, hch, huh, HS.out, HV.out, hupd⟩

theorem no_carry (B : Nat) (hB : 0 < B) (h : Nat → Int) (N : Nat) (c S : Int) (hb : ∀ i, i < N → 0 ≤ h i ∧ h i < (B : Int)) (hc0 : 0 < c) (hv : val B h N + c * (B : Int) ^ N = S) (hS : S < (B : Int) ^ N) : False := by
  have h1 := (val_bounds B h N hb).1
  have h2 := powB_pos B hB N
  have h3 := Int.mul_le_mul_of_nonneg_right (show 1 ≤ c by omega) (Int.le_of_lt h2)
  rw [Int.one_mul] at h3
  omega

set_option maxRecDepth 20000 in
set_option maxHeartbeats 1000000 in
theorem addInto_any (g off N c : Nat) (v : Value) (lb : Nat) (f fb : Nat → Int) (w : World) (hl : N ≤ LIM) (hlb : lb ≤ N)
    (hc : Cells w .u64 g off N f) (hs : Soft w g off N) (hf : U32 N f) (hv : Nums .u64 w v lb fb) (hb : U32 lb fb) (hne : 0 < lb → ∀ b o c, v = .slice (some ⟨b, o, none⟩) lb c → b ≠ g)
    (hfit : val W32 f N + val W32 fb lb < (W32 : Int) ^ N) :
    Calls Tryd.prog 68 #[.slice (some ⟨g, off, none⟩) N c, v] w fun e w' => e = .returned (.tuple #[]) ∧ ∃ (h : Nat → Int), Cells w' .u64 g off N h ∧ U32 N h ∧ val W32 h N = val W32 f N + val W32 fb lb ∧ Upd w w' g off N := by
  have hv0 := hv
  obtain ⟨bo, d, rfl, hd, kl, k4⟩ := hv0
  clear k4
  have HF := show Hid (val W32 f N + val W32 fb lb < (W32 : Int) ^ N) from hfit
  clear hfit
  go_enter Tryd.func68, Tryd.ntmps68
  go_wp2_with fail
  refine (addLimbs_any g off N c _ lb f fb _ hl hlb hc hs hf hv hb hne).mono ?_
  rintro e w1 ⟨cr0, h0, rfl, h00, h01, hch0, huh0, _, hval0, hupd0⟩
  have HV0 : Hid (val W32 h0 N + cr0 * (W32 : Int) ^ lb = val W32 f N + val W32 fb lb) := hval0
  clear hval0 hne
  unfold LIM at hl
  go_wp2
  go_loopw [4, 5] (fun vc vi wr => ∃ (i : Nat) (cr : Int) (h : Nat → Int), i ≤ N ∧ vc = .int .u64 cr ∧ vi = .int .i64 (i : Int) ∧ 0 ≤ cr ∧ cr ≤ 1 ∧ Cells wr .u64 g off N h ∧ U32 N h ∧
      val W32 h N + cr * (W32 : Int) ^ i = val W32 f N + val W32 fb lb ∧ Upd w wr g off N) (fun _ vi _ => N - (intOf vi).toNat)
  case atStart => exact ⟨lb, cr0, h0, hlb, rfl, rfl, h00, h01, hch0, huh0, HV0.out, hupd0⟩
  case round =>
    clear hch0 huh0 HV0 hupd0
    obtain ⟨i, cr, h, hi, rfl, rfl, hc0, hc1, hch, huh, hval, hupd⟩ := hrel
    have HV : Hid (val W32 h N + cr * (W32 : Int) ^ i = val W32 f N + val W32 fb lb) := hval
    clear hval
    by_cases hcr : 0 < cr
    · have hiN : i < N := by
        by_cases q : i < N
        · exact q
        · have : i = N := by omega
          subst this
          exact (no_carry W32 (by decide) h i cr _ huh hcr HV.out HF.out).elim
      have hca := hch i hiN
      have hfr := (hs.upd (hc.lt (by omega)) hupd) i hiN
      have bh := huh i hiN
      unfold W32 at bh
      have hm := and_mask (cr + h i) (by omega) (by omega)
      go_wp2
      go_roundw
      case rel =>
        refine ⟨i + 1, (cr + h i) / (W32 : Int), put h i ((cr + h i) % (W32 : Int)), by omega, rfl, by go_num, by unfold W32; omega, by unfold W32; omega, hch.set i hiN _, put_bounds huh (by unfold W32; omega) (by unfold W32; omega), ?_, ?_⟩
        · exact carry_on W32 h N i cr _ _ hiN rfl HV.out
        · exact hupd.trans (Upd.set i hiN _)
      case measure => simp [intOf]; omega
    · have : cr = 0 := by omega
      subst this
      go_wp2
      go_end0
      exact ⟨rfl, h, hch, huh, by have := HV.out; rw [Int.zero_mul] at this; omega, hupd⟩

/-- What the block of a slice that 'make' laid holds. -/
theorem made_block {w w1 : World} {e : TypeId} {k : IntKind} {n : Nat} (h : w1.ownsRow w.heap.size e 1 (.slice (some ⟨w.heap.size, 0, none⟩) n n) n (madeCells (Value.int k 0).cells (n * 1)).toList) :
    w1.heap[w.heap.size]? = some (.cells (valsOf k (fun _ => 0) n).toArray e (0, 0)) := by
  rcases h.2 with ⟨h', _⟩ | ⟨g, cap, cur, h', _, hg, _, _, hs, ht⟩
  · simp at h'
  · simp only [Value.slice.injEq, Option.some.injEq, Addr.mk.injEq, and_true, true_and] at h'
    obtain ⟨rfl, rfl⟩ := h'
    rw [hg]
    have e1 : cur.toList = valsOf k (fun _ => 0) n := by
      have hlen : cur.toList.length = n := by rw [Array.length_toList, hs, Nat.mul_one]
      rw [List.take_of_length_le (by rw [hlen]; omega)] at ht
      rw [ht]
      apply List.ext_getElem?
      intro i
      by_cases hi : i < n
      · rw [made_zero k n i hi, valsOf_at _ _ _ _ hi]
      · rw [List.getElem?_eq_none (by rw [← ht, hlen]; omega), List.getElem?_eq_none (by rw [valsOf_length]; omega)]
    rw [← e1]

theorem val_upto (B : Nat) (g : Nat → Int) (k n : Nat) (h : k ≤ n) : val B (upto g k) n = val B g k := by
  rw [val_stays B (upto g k) n k h (fun i h1 _ => by unfold upto; rw [if_neg (by omega)])]
  exact val_congr k (fun i hi => upto_all g k i hi)

/-- Behind 'copy' of n numbers into a block of zeros. -/
theorem splice_cells {w : World} {g : Nat} {e : TypeId} {k : IntKind} {f : Nat → Int} {n N : Nat} (h : w.heap[g]? = some (.cells (splice (valsOf k (fun _ => 0) N) 0 (valsOf k f n)).toArray e (0, 0))) :
    Cells w k g 0 N (upto f n) ∧ Soft w g 0 N := by
  refine ⟨fun i hi => ?_, fun i _ => ?_⟩
  · rw [Nat.zero_add, cell_of_row w g i _ _ _ h]
    simp only [splice, List.take_zero, List.nil_append, Nat.zero_add, valsOf_length, List.getElem?_toArray]
    by_cases hin : i < n
    · rw [List.getElem?_append_left (by rw [valsOf_length]; exact hin), valsOf_at _ _ _ _ hin, upto_all _ _ _ hin]
    · rw [List.getElem?_append_right (by rw [valsOf_length]; omega), valsOf_length, List.getElem?_drop, show n + (i - n) = i by omega, valsOf_at _ _ _ _ hi]
      unfold upto; rw [if_neg hin]
  · rw [Nat.zero_add]; exact frozen_of_row w g i _ _ h

/-- What is copied lies where the slice says, in every later world. -/
def SrcOk (w : World) (ao : Option Addr) (n : Nat) (f : Nat → Int) : Prop :=
  ∀ w1 : World, Below w.heap.size w w1 → 0 < (valsOf .u64 f n).length → ∃ ad, ao = some ad ∧ ∀ j v, (valsOf .u64 f n)[j]? = some v → w1.cell? (ad.add j) = some v
theorem srcOk {w : World} {ao : Option Addr} {n c : Nat} {f : Nat → Int} (h : Nums .u64 w (.slice ao n c) n f) : SrcOk w ao n f := by
  obtain ⟨ao', c', he, _, _, h4⟩ := h
  simp only [Value.slice.injEq, true_and] at he
  obtain ⟨rfl, rfl⟩ := he
  intro w1 hb1 hp
  rw [valsOf_length] at hp
  obtain ⟨b, off, rfl, hc⟩ := h4 hp
  refine ⟨_, rfl, fun j u hj => ?_⟩
  have hjn : j < n := by
    by_cases g : j < n
    · exact g
    · rw [List.getElem?_eq_none (by rw [valsOf_length]; omega)] at hj; cases hj
  rw [valsOf_at _ _ _ _ hjn] at hj
  have e : (⟨b, off, none⟩ : Addr).add j = ⟨b, off + j, none⟩ := by unfold Addr.add; split <;> simp_all
  rw [e, ← hj]
  exact (hc.below hb1 (hc.lt hp)) j hjn
theorem SrcOk.get {w : World} {ao : Option Addr} {n : Nat} {f : Nat → Int} (h : SrcOk w ao n f) (w1 : World) (hb : Below w.heap.size w w1) (hp : 0 < (valsOf .u64 f n).length) (b : Option Addr) : b = b ∧ ∃ ad, ao = some ad ∧ ∀ j v, (valsOf .u64 f n)[j]? = some v → w1.cell? (ad.add j) = some v := ⟨rfl, h w1 hb hp⟩
theorem vals_one (k : IntKind) (f : Nat → Int) (n : Nat) : ∀ v ∈ valsOf k f n, v.oneCell' = true := by intro u hu; unfold valsOf at hu; simp at hu; obtain ⟨_, _, rfl⟩ := hu; rfl

/-- 'copy' of a slice into a block of zeros that the call has made. -/
theorem copy_run {w w1 : World} {ao : Option Addr} {n c N : Nat} {f : Nat → Int} (ty : TypeId) (hn : n ≤ N) (hsrc : SrcOk w ao n f) (hb : Below w.heap.size w w1)
    (hblk : w1.heap[w.heap.size]? = some (.cells (valsOf .u64 (fun _ => 0) N).toArray 59 (0, 0))) (hinf : (Tryd.prog.info? 59).map (·.size) = some 1) :
    ∃ w2, (Builtin.copy_ #[23, 23] ty #[.slice (some ⟨w.heap.size, 0, none⟩) N N, .slice ao n c]).run Tryd.prog w1 = .ok (goInt n) w2 ∧ Cells w2 .u64 w.heap.size 0 N (upto f n) ∧ Soft w2 w.heap.size 0 N ∧ Below w.heap.size w w2 := by
  by_cases h0 : n = 0
  · subst h0
    refine ⟨w1, run_copy_none (P := Tryd.prog) w1 _ _ ty 59 _ _ _ _ _ _ Tryd.underlying23 hinf (Nat.zero_min _), ?_, ?_, hb⟩
    · intro i hi
      rw [Nat.zero_add, cell_of_row w1 _ i _ _ _ hblk, List.getElem?_toArray, valsOf_at _ _ _ _ hi]; simp [upto]
    · intro i _; rw [Nat.zero_add]; exact frozen_of_row w1 _ i _ _ hblk
  · obtain ⟨ad, rfl, hcs⟩ := hsrc w1 hb (by rw [valsOf_length]; omega)
    have hrun := run_copy_row (P := Tryd.prog) w1 23 23 ty 59 w.heap.size 0 N N ad n c _ 59 (valsOf .u64 f n) Tryd.underlying23 hinf hblk (by rw [valsOf_length]; exact (Nat.min_eq_left hn).symm) hcs (by rw [valsOf_length]; simp [valsOf_length]; omega) (vals_one _ _ _)
    rw [valsOf_length] at hrun
    refine ⟨_, hrun, ?_⟩
    have hblk2 := setRow_heap w1 w.heap.size _ ((valsOf .u64 (fun _ => 0) N).toArray.toList.take 0 ++ valsOf .u64 f n ++ (valsOf .u64 (fun _ => 0) N).toArray.toList.drop (0 + n)).toArray 59 _ hblk
    have hs := splice_cells (w := w1.setRow w.heap.size ((valsOf .u64 (fun _ => 0) N).toArray.toList.take 0 ++ valsOf .u64 f n ++ (valsOf .u64 (fun _ => 0) N).toArray.toList.drop (0 + n)).toArray) (f := f) (n := n) (N := N) (k := .u64) (e := 59) (by rw [hblk2]; simp [splice, valsOf_length])
    exact ⟨hs.1, hs.2, below_setRow hb (Nat.le_refl _) _⟩

set_option maxRecDepth 20000 in
set_option maxHeartbeats 2000000 in
/-- nat.sum where the first is not the shorter one. -/
theorem sum_long (u v : Value) (x y : Nat) (w : World) (hu : Rep w u x) (hv : Rep w v y) (hle : nl W32 y ≤ nl W32 x) (hlim : nl W32 x ≤ 1000000) :
    Calls Tryd.prog 52 #[u, v] w fun e w' => ∃ r, e = .returned r ∧ RepM w.heap.size w' r (x + y) ∧ Below w.heap.size w w' := by
  obtain ⟨i0, hi, hz0, hz1, hz2⟩ := info_parts info_u64
  have hinf : (Tryd.prog.info? 59).map (·.size) = some 1 := by rw [hi]; simp [hz1]
  have HI := show Hid ((Tryd.prog.info? 59).map (·.size) = some 1) from hinf
  clear hinf
  have hv0 := hv
  obtain ⟨ao, c, rfl, hnc, hl, h4⟩ := hu
  obtain ⟨bo, d, rfl, hnd, kl, k4⟩ := hv
  clear k4
  have VX : Hid (val W32 (dg W32 x) (nl W32 x) = (x : Int)) := val_nl W32 x (by decide)
  have VY : Hid (val W32 (dg W32 y) (nl W32 y) = (y : Int)) := val_nl W32 y (by decide)
  have PX : Hid (x < W32 ^ nl W32 x) := lt_pow_nl W32 x (by decide)
  have PY : Hid (y < W32 ^ nl W32 y) := lt_pow_nl W32 y (by decide)
  unfold Rep at hv0
  have UX := u32_dg x (nl W32 x)
  have UY := u32_dg y (nl W32 y)
  generalize nl W32 x = la at *
  generalize nl W32 y = lb at *
  have C2 : SrcOk w ao la (dg W32 x) := srcOk ⟨_, _, rfl, hnc, hl, h4⟩
  clear h4
  have hnl : ¬ la < lb := by omega
  go_enter Tryd.func52, Tryd.ntmps52
  go_wp2_with (at_make; refine wpList_make_full _ rfl _ _ 23 rfl _ 59 i0 (.int .u64 0) 1 Tryd.underlying23 hi hz0 hz1 _ _ _ _ (la + 1) rfl rfl (by omega) (by omega) (by rw [hz2]; omega) (by unfold maxLen; omega) (Nat.le_refl _) ?_; intro w1 hown hgrow)
  obtain ⟨w2, hrun, hc2, hs2, hb2⟩ := copy_run (c := c) 3 (show la ≤ la + 1 by omega) C2 (below_grown hgrow) (made_block hown) HI.out
  rw [hrun]
  clear hown hgrow hrun
  have hU2 : U32 (la + 1) (upto (dg W32 x) la) := fun i _ => by
    unfold upto; split
    · exact UX i (by assumption)
    · exact ⟨Int.le_refl _, by decide⟩
  have hv1 : Hid (val W32 (upto (dg W32 x) la) (la + 1) = (x : Int)) := by show _ = _; rw [val_upto _ _ _ _ (by omega)]; exact VX.out
  have hfit : val W32 (upto (dg W32 x) la) (la + 1) + val W32 (dg W32 y) lb < (W32 : Int) ^ (la + 1) := by
    rw [hv1.out, VY.out]
    have p1 := PX.out
    have p2 : y < W32 ^ la := Nat.lt_of_lt_of_le PY.out (Nat.pow_le_pow_right (by decide) hle)
    have p3 : W32 ^ (la + 1) = W32 ^ la * W32 := Nat.pow_succ _ _
    have p4 : ((W32 ^ (la + 1) : Nat) : Int) = (W32 : Int) ^ (la + 1) := by simp
    rw [← p4, p3]
    have p5 : W32 ^ la * 2 ≤ W32 ^ la * W32 := Nat.mul_le_mul_left _ (by decide)
    omega
  go_wp2_with fail
  refine (addInto_any _ _ _ _ _ lb _ _ _ (by unfold LIM; omega) (by omega) hc2 hs2 hU2 (hv0.below hb2) UY (fun hp b o c' he => ?_) hfit).mono ?_
  · obtain ⟨ao', c'', he', _, _, h4'⟩ := hv0
    obtain ⟨b', o', rfl, hc'⟩ := h4' hp
    have hlt' := hc'.lt hp
    have e3 := he'.symm.trans he
    simp only [Value.slice.injEq, Option.some.injEq, Addr.mk.injEq] at e3
    omega
  rintro e w3 ⟨rfl, h, hch, huh, hvh, hupd⟩
  rw [hv1.out, VY.out] at hvh
  have hMine : Mine .u64 w.heap.size w3 (.slice (some ⟨w.heap.size, 0, none⟩) (la + 1) (la + 1)) (la + 1) h := ⟨_, _, rfl, Nat.le_refl _, by unfold LIM; omega, fun _ => ⟨_, _, rfl, hch, hs2.upd (hc2.lt (by omega)) hupd, Nat.le_refl _⟩⟩
  have hbel : Below w.heap.size w w3 := hb2.trans (hupd.below (Nat.le_refl _) hb2.size)
  go_wp2_with (go_at_call 62; refine (cut_mine _ _ _ _ _ (x + y) hMine huh (by rw [hvh]; simp)).mono ?_; rintro e w4 ⟨r, rfl, hr, rfl⟩)
  go_ret
  exact ⟨_, rfl, hr, hbel⟩

set_option maxRecDepth 20000 in
set_option maxHeartbeats 2000000 in
/-- nat.sum where the first is the shorter one. -/
theorem sum_short (u v : Value) (x y : Nat) (w : World) (hu : Rep w u x) (hv : Rep w v y) (hle : nl W32 y < nl W32 x) (hlim : nl W32 x ≤ 1000000) :
    Calls Tryd.prog 52 #[v, u] w fun e w' => ∃ r, e = .returned r ∧ RepM w.heap.size w' r (x + y) ∧ Below w.heap.size w w' := by
  obtain ⟨i0, hi, hz0, hz1, hz2⟩ := info_parts info_u64
  have hinf : (Tryd.prog.info? 59).map (·.size) = some 1 := by rw [hi]; simp [hz1]
  have HI := show Hid ((Tryd.prog.info? 59).map (·.size) = some 1) from hinf
  clear hinf
  have hv0 := hv
  obtain ⟨ao, c, rfl, hnc, hl, h4⟩ := hu
  obtain ⟨bo, d, rfl, hnd, kl, k4⟩ := hv
  clear k4
  have VX : Hid (val W32 (dg W32 x) (nl W32 x) = (x : Int)) := val_nl W32 x (by decide)
  have VY : Hid (val W32 (dg W32 y) (nl W32 y) = (y : Int)) := val_nl W32 y (by decide)
  have PX : Hid (x < W32 ^ nl W32 x) := lt_pow_nl W32 x (by decide)
  have PY : Hid (y < W32 ^ nl W32 y) := lt_pow_nl W32 y (by decide)
  unfold Rep at hv0
  have UX := u32_dg x (nl W32 x)
  have UY := u32_dg y (nl W32 y)
  generalize nl W32 x = la at *
  generalize nl W32 y = lb at *
  have C2 : SrcOk w ao la (dg W32 x) := srcOk ⟨_, _, rfl, hnc, hl, h4⟩
  clear h4
  have hnl : lb < la := by omega
  go_enter Tryd.func52, Tryd.ntmps52
  go_wp2_with (at_make; refine wpList_make_full _ rfl _ _ 23 rfl _ 59 i0 (.int .u64 0) 1 Tryd.underlying23 hi hz0 hz1 _ _ _ _ (la + 1) rfl rfl (by omega) (by omega) (by rw [hz2]; omega) (by unfold maxLen; omega) (Nat.le_refl _) ?_; intro w1 hown hgrow)
  obtain ⟨w2, hrun, hc2, hs2, hb2⟩ := copy_run (c := c) 3 (show la ≤ la + 1 by omega) C2 (below_grown hgrow) (made_block hown) HI.out
  rw [hrun]
  clear hown hgrow hrun
  have hU2 : U32 (la + 1) (upto (dg W32 x) la) := fun i _ => by
    unfold upto; split
    · exact UX i (by assumption)
    · exact ⟨Int.le_refl _, by decide⟩
  have hv1 : Hid (val W32 (upto (dg W32 x) la) (la + 1) = (x : Int)) := by show _ = _; rw [val_upto _ _ _ _ (by omega)]; exact VX.out
  have hfit : val W32 (upto (dg W32 x) la) (la + 1) + val W32 (dg W32 y) lb < (W32 : Int) ^ (la + 1) := by
    rw [hv1.out, VY.out]
    have p1 := PX.out
    have p2 : y < W32 ^ la := Nat.lt_of_lt_of_le PY.out (Nat.pow_le_pow_right (by decide) (Nat.le_of_lt hle))
    have p3 : W32 ^ (la + 1) = W32 ^ la * W32 := Nat.pow_succ _ _
    have p4 : ((W32 ^ (la + 1) : Nat) : Int) = (W32 : Int) ^ (la + 1) := by simp
    rw [← p4, p3]
    have p5 : W32 ^ la * 2 ≤ W32 ^ la * W32 := Nat.mul_le_mul_left _ (by decide)
    omega
  go_wp2_with fail
  refine (addInto_any _ _ _ _ _ lb _ _ _ (by unfold LIM; omega) (by omega) hc2 hs2 hU2 (hv0.below hb2) UY (fun hp b o c' he => ?_) hfit).mono ?_
  · obtain ⟨ao', c'', he', _, _, h4'⟩ := hv0
    obtain ⟨b', o', rfl, hc'⟩ := h4' hp
    have hlt' := hc'.lt hp
    have e3 := he'.symm.trans he
    simp only [Value.slice.injEq, Option.some.injEq, Addr.mk.injEq] at e3
    omega
  rintro e w3 ⟨rfl, h, hch, huh, hvh, hupd⟩
  rw [hv1.out, VY.out] at hvh
  have hMine : Mine .u64 w.heap.size w3 (.slice (some ⟨w.heap.size, 0, none⟩) (la + 1) (la + 1)) (la + 1) h := ⟨_, _, rfl, Nat.le_refl _, by unfold LIM; omega, fun _ => ⟨_, _, rfl, hch, hs2.upd (hc2.lt (by omega)) hupd, Nat.le_refl _⟩⟩
  have hbel : Below w.heap.size w w3 := hb2.trans (hupd.below (Nat.le_refl _) hb2.size)
  go_wp2_with (go_at_call 62; refine (cut_mine _ _ _ _ _ (x + y) hMine huh (by rw [hvh]; simp)).mono ?_; rintro e w4 ⟨r, rfl, hr, rfl⟩)
  go_ret
  exact ⟨_, rfl, hr, hbel⟩

theorem sum_any (u v : Value) (x y : Nat) (w : World) (hu : Rep w u x) (hv : Rep w v y) (hx : nl W32 x ≤ 1000000) (hy : nl W32 y ≤ 1000000) :
    Calls Tryd.prog 52 #[u, v] w fun e w' => ∃ r, e = .returned r ∧ RepM w.heap.size w' r (x + y) ∧ Below w.heap.size w w' := by
  by_cases h : nl W32 x < nl W32 y
  · rw [Nat.add_comm]; exact sum_short v u y x w hv hu h hy
  · exact sum_long u v x y w hu hv (by omega) hx

set_option maxRecDepth 20000 in
set_option maxHeartbeats 400000 in
theorem add_any (u v : Value) (n m : Nat) (f g : Nat → Int) (w : World) (hu : Nums .u64 w u n f) (hv : Nums .u64 w v m g) (hf : U64 n f) (hg : U64 m g) (hn : n ≤ 1000000) (hm : m ≤ 1000000) :
    Calls Tryd.prog 39 #[u, v] w fun e w' => ∃ r, e = .returned r ∧ RepM w.heap.size w' r (num f n + num g m) ∧ Below w.heap.size w w' := by
  have hx := nl_le W32 (num f n) n (by decide) (num_lt f n)
  have hy := nl_le W32 (num g m) m (by decide) (num_lt g m)
  go_enter Tryd.func39, Tryd.ntmps39
  go_wp2_with fail
  refine (plain_any _ _ _ _ hu hf).mono ?_
  rintro e w1 ⟨r1, rfl, hr1, hb1⟩
  go_wp2_with fail
  refine (plain_any _ _ _ _ (hv.below hb1) hg).mono ?_
  rintro e w2 ⟨r2, rfl, hr2, hb2⟩
  go_wp2_with fail
  refine (sum_any _ _ _ _ _ (Nums.below hr1 hb2) hr2 (by omega) (by omega)).mono ?_
  rintro e w3 ⟨r, rfl, hr, hb3⟩
  go_wp2
  go_ret
  have := hb1.size
  have := hb2.size
  exact ⟨_, rfl, hr.le (by omega), hb1.trans ((hb2.mono (by omega)).trans (hb3.mono (by omega)))⟩

end Go.Proofs.YtjfacmeeplalkaaDoor

/-
  What nat.takeFrom and Sub do: differences.
-/
namespace Go.Proofs.YtjfacmeeplalkaaDoor
open Go.RowKit

theorem take_step (B : Nat) (h g : Nat → Int) (N i : Nat) (c t S : Int) (hi : i < N) (ht : t = h i - g i - c) (hv : val B h N - c * (B : Int) ^ i = S - val B g i) :
    val B (put h i (t % B)) N - (0 - t / B) * (B : Int) ^ (i + 1) = S - val B g (i + 1) := by
  have e1 : (B : Int) ^ (i + 1) = (B : Int) ^ i * B := Int.pow_succ _ _
  rw [val_put B h N i _ hi, e1, Int.zero_sub, Int.neg_mul, Int.sub_neg, carry_step, ht]
  simp only [val]
  have e2 : (h i - g i - c - h i) * (B : Int) ^ i = 0 - (g i * (B : Int) ^ i) - c * (B : Int) ^ i := by rw [show h i - g i - c - h i = 0 - g i - c by omega, Int.sub_mul, Int.sub_mul, Int.zero_mul]
  rw [e2]; omega
theorem take_on (B : Nat) (h : Nat → Int) (N i : Nat) (c t S : Int) (hi : i < N) (ht : t = h i - c) (hv : val B h N - c * (B : Int) ^ i = S) :
    val B (put h i (t % B)) N - (0 - t / B) * (B : Int) ^ (i + 1) = S := by
  have e1 : (B : Int) ^ (i + 1) = (B : Int) ^ i * B := Int.pow_succ _ _
  rw [val_put B h N i _ hi, e1, Int.zero_sub, Int.neg_mul, Int.sub_neg, carry_step, ht]
  rw [show h i - c - h i = 0 - c by omega, Int.sub_mul, Int.zero_mul]; omega

/-- What a difference of limbs is in 64 bits: its lowest 32, and its highest one. -/
theorem wrap_diff (a x b : Int) (ha0 : 0 ≤ a) (ha : a < 4294967296) (hx0 : 0 ≤ x) (hx : x < 4294967296) (hb0 : 0 ≤ b) (hb : b ≤ 1) :
    bits .and .u64 (IntKind.u64.wrap (IntKind.u64.wrap (a - x) - b)) 4294967295 = (a - x - b) % 4294967296 ∧ IntKind.u64.wrap (IntKind.u64.wrap (a - x) - b) / 9223372036854775808 = 0 - (a - x - b) / 4294967296 := by
  have e : IntKind.u64.wrap (IntKind.u64.wrap (a - x) - b) = (a - x - b) % 18446744073709551616 := by
    rw [IntKind.wrap_u64, IntKind.wrap_u64]; omega
  rw [e, and_mask _ (by omega) (by omega)]
  constructor <;> omega
theorem wrap_diff1 (a b : Int) (ha0 : 0 ≤ a) (ha : a < 4294967296) (hb0 : 0 ≤ b) (hb : b ≤ 1) :
    bits .and .u64 (IntKind.u64.wrap (a - b)) 4294967295 = (a - b) % 4294967296 ∧ IntKind.u64.wrap (a - b) / 9223372036854775808 = 0 - (a - b) / 4294967296 := by
  have e : IntKind.u64.wrap (a - b) = (a - b) % 18446744073709551616 := IntKind.wrap_u64 _
  rw [e, and_mask _ (by omega) (by omega)]
  constructor <;> omega

theorem no_borrow (B : Nat) (h : Nat → Int) (N : Nat) (c S : Int) (hb : ∀ i, i < N → 0 ≤ h i ∧ h i < (B : Int)) (hc0 : 1 ≤ c) (hB : 0 < B) (hv : val B h N - c * (B : Int) ^ N = S) (hS : 0 ≤ S) : False := by
  have h1 := (val_bounds B h N hb).2
  have h2 := powB_pos B hB N
  have h3 := Int.mul_le_mul_of_nonneg_right hc0 (Int.le_of_lt h2)
  rw [Int.one_mul] at h3
  omega

set_option maxRecDepth 20000 in
set_option maxHeartbeats 1000000 in
theorem takeFrom_any (g off N c : Nat) (v : Value) (lb : Nat) (f fb : Nat → Int) (w : World) (hl : N ≤ LIM) (hlb : lb ≤ N)
    (hc : Cells w .u64 g off N f) (hs : Soft w g off N) (hf : U32 N f) (hv : Nums .u64 w v lb fb) (hb : U32 lb fb) (hne : 0 < lb → ∀ b o c, v = .slice (some ⟨b, o, none⟩) lb c → b ≠ g)
    (hfit : val W32 fb lb ≤ val W32 f N) :
    Calls Tryd.prog 72 #[.slice (some ⟨g, off, none⟩) N c, v] w fun e w' => e = .returned (.tuple #[]) ∧ ∃ (h : Nat → Int), Cells w' .u64 g off N h ∧ U32 N h ∧ val W32 h N = val W32 f N - val W32 fb lb ∧ Upd w w' g off N := by
  obtain ⟨bo, d, rfl, hd, kl, k4⟩ := hv
  unfold LIM at hl
  have K4 := show Hid (0 < lb → ∃ b off, bo = some ⟨b, off, none⟩ ∧ Cells w .u64 b off lb fb) from k4
  have HNE := show Hid (0 < lb → ∀ b o c, Value.slice bo lb d = .slice (some ⟨b, o, none⟩) lb c → b ≠ g) from hne
  have HF := show Hid (val W32 fb lb ≤ val W32 f N) from hfit
  clear k4 hne hfit
  go_enter Tryd.func72, Tryd.ntmps72
  go_wp2
  go_loopw [4, 12] (fun vc vi wr => ∃ (i : Nat) (cr : Int) (h : Nat → Int), i ≤ lb ∧ vc = .int .u64 cr ∧ vi = .int .i64 (i : Int) ∧ 0 ≤ cr ∧ cr ≤ 1 ∧ Cells wr .u64 g off N h ∧ U32 N h ∧
      val W32 h N - cr * (W32 : Int) ^ i = val W32 f N - val W32 fb i ∧ Upd w wr g off N) (fun _ vi _ => lb - (intOf vi).toNat)
  case atStart => exact ⟨0, 0, f, Nat.zero_le _, rfl, rfl, Int.le_refl _, by decide, hc, hf, by simp [val], Upd.refl _ _ _ _⟩
  case round =>
    obtain ⟨i, cr, h, hi, rfl, rfl, hc0, hc1, hch, huh, hval, hupd⟩ := hrel
    have HV : Hid (val W32 h N - cr * (W32 : Int) ^ i = val W32 f N - val W32 fb i) := hval
    clear hval
    by_cases hlt : i < lb
    · obtain ⟨b2, o2, rfl, kc⟩ := K4.out (by omega)
      have hbne := HNE.out (by omega) b2 o2 d rfl
      have hcb : wr.cell? ⟨b2, o2 + i, none⟩ = some (.int .u64 (fb i)) := (kc.upd hupd (.inl hbne)) i hlt
      have hca := hch i (by omega)
      have hfr := (hs.upd (hc.lt (by omega)) hupd) i (by omega)
      have bx := hb i hlt
      have bh := huh i (by omega)
      unfold W32 at bx bh
      obtain ⟨hm, hq⟩ := wrap_diff (h i) (fb i) cr bh.1 bh.2 bx.1 bx.2 hc0 hc1
      go_wp2
      go_roundw
      case rel =>
        refine ⟨i + 1, 0 - (h i - fb i - cr) / (W32 : Int), put h i ((h i - fb i - cr) % (W32 : Int)), by omega, by simp [W32], by go_num, by unfold W32; omega, by unfold W32; omega, hch.set i (by omega) _, put_bounds huh (by unfold W32; omega) (by unfold W32; omega), ?_, ?_⟩
        · exact take_step W32 h fb N i cr _ _ (by omega) rfl HV.out
        · exact hupd.trans (Upd.set i (by omega) _)
      case measure => simp [intOf]; omega
    · have hib : i = lb := by omega
      subst hib
      go_wp2
      go_loopw [4, 8] (fun vc vj w2 => ∃ (j : Nat) (cr : Int) (h : Nat → Int), j ≤ N ∧ vc = .int .u64 cr ∧ vj = .int .i64 (j : Int) ∧ 0 ≤ cr ∧ cr ≤ 1 ∧ Cells w2 .u64 g off N h ∧ U32 N h ∧
          val W32 h N - cr * (W32 : Int) ^ j = val W32 f N - val W32 fb i ∧ Upd w w2 g off N) (fun _ vj _ => N - (intOf vj).toNat)
      case atStart => exact ⟨i, cr, h, hlb, rfl, rfl, hc0, hc1, hch, huh, HV.out, hupd⟩
      case round =>
        clear hc0 hc1 hch huh HV hupd
        obtain ⟨j, cr, h, hj, rfl, rfl, hc0, hc1, hch, huh, hval, hupd⟩ := hrel
        have HV : Hid (val W32 h N - cr * (W32 : Int) ^ j = val W32 f N - val W32 fb i) := hval
        clear hval
        by_cases hcr : 0 < cr
        · have hjN : j < N := by
            by_cases q : j < N
            · exact q
            · have : j = N := by omega
              subst this
              exact (no_borrow W32 h j cr _ huh (by omega) (by decide) HV.out (by have := HF.out; omega)).elim
          have hca := hch j hjN
          have hfr := (hs.upd (hc.lt (by omega)) hupd) j hjN
          have bh := huh j hjN
          unfold W32 at bh
          obtain ⟨hm, hq⟩ := wrap_diff1 (h j) cr bh.1 bh.2 hc0 hc1
          go_wp2
          go_roundw
          case rel =>
            refine ⟨j + 1, 0 - (h j - cr) / (W32 : Int), put h j ((h j - cr) % (W32 : Int)), by omega, by simp [W32], by go_num, by unfold W32; omega, by unfold W32; omega, hch.set j hjN _, put_bounds huh (by unfold W32; omega) (by unfold W32; omega), ?_, ?_⟩
            · exact take_on W32 h N j cr _ _ hjN rfl HV.out
            · exact hupd.trans (Upd.set j hjN _)
          case measure => simp [intOf]; omega
        · have : cr = 0 := by omega
          subst this
          go_wp2
          go_end0
          exact ⟨rfl, h, hch, huh, by have := HV.out; rw [Int.zero_mul] at this; omega, hupd⟩

set_option maxRecDepth 20000 in
set_option maxHeartbeats 400000 in
theorem takeFrom_nil (ao : Option Addr) (c : Nat) (bo : Option Addr) (d : Nat) (w : World) :
    Calls Tryd.prog 72 #[.slice ao 0 c, .slice bo 0 d] w fun e w' => e = .returned (.tuple #[]) ∧ w' = w := by
  go_enter Tryd.func72, Tryd.ntmps72
  go_wp2
  refine wp_loop_rounds 1 ?_
  rw [rounds_succ]
  go_wp2
  refine wp_loop_rounds 1 ?_
  rw [rounds_succ]
  go_wp2
  go_end0
  exact ⟨rfl, rfl⟩

/-- nat.takeFrom of a number in memory of the call's own, which lies apart from what is taken. -/
theorem takeFrom_mine (B : Nat) (u v : Value) (x y : Nat) (w : World) (hu : RepM B w u x) (hv : Rep w v y) (hle : y ≤ x) (hBw : B ≤ w.heap.size)
    (hap : 0 < nl W32 y → ∀ b o c b' o' c', u = .slice (some ⟨b, o, none⟩) (nl W32 x) c → v = .slice (some ⟨b', o', none⟩) (nl W32 y) c' → b' ≠ b) :
    Calls Tryd.prog 72 #[u, v] w fun e w' => e = .returned (.tuple #[]) ∧ ∃ h : Nat → Int, Mine .u64 B w' u (nl W32 x) h ∧ U32 (nl W32 x) h ∧ val W32 h (nl W32 x) = ((x - y : Nat) : Int) ∧ Below B w w' := by
  have hnl : nl W32 y ≤ nl W32 x := by
    by_cases g : nl W32 x < nl W32 y
    · have := lt_of_nl W32 x y (by decide) g; omega
    · omega
  have vx := val_nl W32 x (by decide)
  have vy := val_nl W32 y (by decide)
  obtain ⟨ao, c, rfl, hnc, hl, h4⟩ := hu
  by_cases h0 : nl W32 x = 0
  · have hx0 := (nl_eq_zero W32 x (by decide)).1 h0
    have hy0 : y = 0 := by omega
    subst hx0 hy0
    obtain ⟨bo, d, rfl, hnd, kl, k4⟩ := hv
    rw [nl_zero] at *
    refine (takeFrom_nil ao c bo d w).mono fun e w' ⟨he, hw⟩ => ?_
    subst hw
    exact ⟨he, fun _ => 0, ⟨_, _, rfl, hnc, hl, fun h => by omega⟩, fun i hi => by omega, by simp [val], Below.refl _ _⟩
  · obtain ⟨b, off, rfl, hc, hs, hB⟩ := h4 (by omega)
    refine (takeFrom_any b off (nl W32 x) c v (nl W32 y) _ _ w hl hnl hc hs (u32_dg _ _) hv (u32_dg _ _) (fun hp b' o' c' he => hap hp b off c b' o' c' rfl he) (by rw [vx, vy]; omega)).mono fun e w' ⟨he, h, hch, huh, hvh, hupd⟩ => ?_
    refine ⟨he, h, ⟨_, _, rfl, hnc, hl, fun _ => ⟨_, _, rfl, hch, hs.upd (hc.lt (by omega)) hupd, hB⟩⟩, huh, ?_, hupd.below hB hBw⟩
    rw [hvh, vx, vy]; omega

set_option maxRecDepth 20000 in
set_option maxHeartbeats 400000 in
/-- nat.plain, and where its answer lies: it is what came in, or it lies in memory of its own. -/
theorem plain_at (v : Value) (n : Nat) (f : Nat → Int) (w : World) (h : Nums .u64 w v n f) (hf : U64 n f) :
    Calls Tryd.prog 51 #[v] w fun e w' => ∃ v', e = .returned v' ∧ Rep w' v' (num f n) ∧ Below w.heap.size w w' ∧ (v' = v ∨ RepM w.heap.size w' v' (num f n)) := by
  cases hr : rightB f n with
  | true =>
    go_enter Tryd.func51, Tryd.ntmps51
    go_wp2_with (go_at_call 31; refine (right_any _ _ _ _ h).mono ?_; rintro e w' ⟨rfl, rfl⟩; rw [hr])
    go_ret
    obtain ⟨e1, e2⟩ := right_form f n hf hr
    have hrep : Rep w' v (num f n) := by unfold Rep; rw [← e1]; exact h.congr e2
    exact ⟨_, rfl, hrep, Below.refl _ _, .inl rfl⟩
  | false =>
    go_enter Tryd.func51, Tryd.ntmps51
    go_wp2_with (first | (go_at_call 31; refine (right_any _ _ _ _ h).mono ?_; rintro e w' ⟨rfl, rfl⟩; rw [hr]) | (go_at_call 36; refine (clean_any _ _ _ _ h hf).mono ?_; rintro e w2 ⟨v', rfl, hm, hb⟩))
    go_ret
    exact ⟨_, rfl, hm.nums, hb, .inr hm⟩

theorem nums_lt {k : IntKind} {w : World} {v : Value} {n : Nat} {f : Nat → Int} (h : Nums k w v n f) (hn : 0 < n) {b o c m : Nat} (he : v = .slice (some ⟨b, o, none⟩) m c) : b < w.heap.size := by
  obtain ⟨ao, c', h1, _, _, h4⟩ := h
  obtain ⟨b', o', rfl, hc⟩ := h4 hn
  rw [h1] at he
  simp only [Value.slice.injEq, Option.some.injEq, Addr.mk.injEq] at he
  have := hc.lt hn
  omega
theorem mine_ge {k : IntKind} {B : Nat} {w : World} {v : Value} {n : Nat} {f : Nat → Int} (h : Mine k B w v n f) (hn : 0 < n) {b o c m : Nat} (he : v = .slice (some ⟨b, o, none⟩) m c) : B ≤ b := by
  obtain ⟨ao, c', h1, _, _, h4⟩ := h
  obtain ⟨b', o', rfl, hc, _, hB⟩ := h4 hn
  rw [h1] at he
  simp only [Value.slice.injEq, Option.some.injEq, Addr.mk.injEq] at he
  omega

set_option maxRecDepth 20000 in
set_option maxHeartbeats 1000000 in
theorem sub_neg (u v : Value) (n m : Nat) (f g : Nat → Int) (w : World) (hu : Nums .u64 w u n f) (hv : Nums .u64 w v m g) (hf : U64 n f) (hg : U64 m g) (h : num f n < num g m) :
    Calls Tryd.prog 54 #[u, v] w fun e w' => e = .returned (.tuple #[.slice none 0 0, .int .i64 3]) ∧ Below w.heap.size w w' := by
  have hc : cmpI (num f n) (num g m) = -1 := cmpI_lt (by omega)
  go_enter Tryd.func54, Tryd.ntmps54
  go_wp2_with (go_at_call 44; refine (cmp_any _ _ _ _ _ _ _ hu hv hf hg).mono ?_; rintro e w1 ⟨rfl, hb1⟩; rw [hc])
  go_ret2
  exact ⟨rfl, hb1⟩

set_option maxRecDepth 20000 in
set_option maxHeartbeats 1000000 in
theorem sub_ok (u v : Value) (n m : Nat) (f g : Nat → Int) (w : World) (hu : Nums .u64 w u n f) (hv : Nums .u64 w v m g) (hf : U64 n f) (hg : U64 m g) (h : num g m ≤ num f n) :
    Calls Tryd.prog 54 #[u, v] w fun e w' => ∃ r, e = .returned (.tuple #[r, .int .i64 0]) ∧ RepM w.heap.size w' r (num f n - num g m) ∧ Below w.heap.size w w' := by
  have hc : ¬ cmpI (num f n) (num g m) < 0 := by unfold cmpI; rw [if_neg (by omega)]; split <;> omega
  go_enter Tryd.func54, Tryd.ntmps54
  go_wp2_with fail
  refine (cmp_any _ _ _ _ _ _ _ hu hv hf hg).mono ?_
  rintro e w1 ⟨rfl, hb1⟩
  go_wp2_with fail
  refine (clean_any _ _ _ _ (hu.below hb1) hf).mono ?_
  rintro e w2 ⟨q, rfl, hq, hb2⟩
  have B2 : Below w.heap.size w w2 := hb1.trans (hb2.mono hb1.size)
  go_wp2_with fail
  refine (plain_at _ _ _ _ (hv.below B2) hg).mono ?_
  rintro e w3 ⟨r, rfl, hr, hb3, hat⟩
  have s1 := hb1.size
  have s2 := hb2.size
  have s3 := hb3.size
  have hq3 := hq.below hb3
  have hap : 0 < nl W32 (num g m) → ∀ b o c b' o' c', q = .slice (some ⟨b, o, none⟩) (nl W32 (num f n)) c → r = .slice (some ⟨b', o', none⟩) (nl W32 (num g m)) c' → b' ≠ b := by
    intro hp b o c b' o' c' hqe hre
    have hnl : nl W32 (num g m) ≤ nl W32 (num f n) := by
      by_cases g' : nl W32 (num f n) < nl W32 (num g m)
      · have := lt_of_nl W32 (num f n) (num g m) (by decide) g'; omega
      · omega
    have h1 := mine_ge hq (by omega) hqe
    have h2 := nums_lt hq.nums (by omega) hqe
    rcases hat with rfl | hat
    · have hm0 : 0 < m := by
        obtain ⟨ao, c0, h1, _⟩ := hv
        rw [h1] at hre
        simp only [Value.slice.injEq] at hre
        omega
      have h3 := nums_lt hv hm0 hre
      omega
    · have h3 := mine_ge hat hp hre
      omega
  go_wp2_with fail
  refine (takeFrom_mine w1.heap.size _ _ (num f n) (num g m) _ hq3 hr h (by omega) hap).mono ?_
  rintro e w4 ⟨rfl, h4, hm4, hu4, hv4, hb4⟩
  have HV4 : Hid (val W32 h4 (nl W32 (num f n)) = ((num f n - num g m : Nat) : Int)) := hv4
  clear hv4
  have B4 : Below w.heap.size w w4 := B2.trans ((hb3.mono (by omega)).trans (hb4.mono (by omega)))
  go_wp2_with (go_at_call 62; refine (cut_mine _ _ _ _ _ _ hm4 hu4 HV4.out).mono ?_; rintro e w5 ⟨r5, rfl, hr5, rfl⟩)
  go_ret2
  exact ⟨_, rfl, hr5.le (by omega), B4⟩

end Go.Proofs.YtjfacmeeplalkaaDoor

/-
  What math/bits.Len32 and LeadingZeros32 answer.
-/
namespace Go.Proofs.YtjfacmeeplalkaaDoor
open Go.RowKit

theorem len8tab_size : (Lib.len8tab.size : Int) = 256 := by
  have : Lib.len8tab.size = 256 := by decide +kernel
  omega
theorem len8_get (y : Int) (h : y.toNat < Lib.len8tab.size) : ((Lib.len8tab[y.toNat]'h).toNat : Int) = Lib.len8 y := by
  unfold Lib.len8
  rw [getElem?_pos Lib.len8tab y.toNat h]; rfl

theorem len_case (x y : Int) (k m : Nat) (h0 : 0 ≤ y) (h1 : y < 256) (hm : y.toNat = m) (hs : Lib.bitLen x.toNat = k + Lib.bitLen m) {h : y.toNat < Lib.len8tab.size} (hk : k ≤ 100 := by omega) :
    wrap64 ((k : Int) + wrap64 (((Lib.len8tab[y.toNat]'h).toNat : Nat) : Int)) = (Lib.bitLen x.toNat : Int) := by
  rw [len8_get, Lib.len8_of y h0 (by omega), hs, hm]
  have l := Lib.bitLen_le8' y h0 (by omega)
  rw [hm] at l
  have e1 : wrap64 ((Lib.bitLen m : Nat) : Int) = (Lib.bitLen m : Int) := IntWalk.wrap64_in _ ⟨by omega, by omega⟩
  rw [e1, IntWalk.wrap64_in _ ⟨by omega, by omega⟩]; omega

set_option maxRecDepth 20000 in
set_option maxHeartbeats 4000000 in
set_option maxRecDepth 100000 in
theorem len32_any (x : Int) (w : World) (h0 : 0 ≤ x) (h1 : x ≤ 4294967295) :
    Calls Tryd.prog 75 #[.int .u32 x] w fun e w' => e = .returned (.int .i64 (Lib.bitLen x.toNat)) ∧ w' = w := by
  have hs := len8tab_size
  go_enter Tryd.func75, Tryd.ntmps75
  go_wp2
  all_goals (go_ret; refine ⟨congrArg Ending.returned (congrArg (Value.int IntKind.i64) ?_), rfl⟩)
  · exact len_case x (x / 65536 / 256) 24 (x.toNat / 16777216) (by omega) (by omega) (by omega) (Lib.bitLen_shift24 x.toNat (by omega) (by omega))
  · exact len_case x (x / 65536) 16 (x.toNat / 65536) (by omega) (by omega) (by omega) (Lib.bitLen_shift16 x.toNat (by omega) (by omega))
  · exact len_case x (x / 256) 8 (x.toNat / 256) (by omega) (by omega) (by omega) (Lib.bitLen_shift8 x.toNat (by omega) (by omega))
  · have := len_case x x 0 x.toNat (by omega) (by omega) rfl (by omega) (h := by omega)
    rw [Int.natCast_zero, Int.zero_add] at this
    exact this

set_option maxRecDepth 20000 in
set_option maxHeartbeats 400000 in
theorem lead32_any (x : Int) (w : World) (h0 : 0 ≤ x) (h1 : x ≤ 4294967295) :
    Calls Tryd.prog 57 #[.int .u32 x] w fun e w' => e = .returned (.int .i64 (32 - (Lib.bitLen x.toNat : Int))) ∧ w' = w := by
  have hb := Lib.bitLen_le x.toNat 32 (by omega) (by omega)
  go_enter Tryd.func57, Tryd.ntmps57
  go_wp2_with (go_at_call 75; refine (len32_any _ _ h0 h1).mono ?_; rintro e w' ⟨rfl, rfl⟩)
  go_ret
  exact ⟨rfl, rfl⟩

/-- A number that is not 0 lies between two powers of two. -/
theorem bitLen_lo : ∀ (f x : Nat), x ≠ 0 → x < 2 ^ f → 2 ^ (Lib.bitLenAux f x - 1) ≤ x ∧ x < 2 ^ Lib.bitLenAux f x ∧ 0 < Lib.bitLenAux f x
  | 0, x, h, hx => by simp at hx; omega
  | f + 1, x, h, hx => by
    unfold Lib.bitLenAux
    rw [if_neg h]
    by_cases h2 : x / 2 = 0
    · rw [h2]
      have e : Lib.bitLenAux f 0 = 0 := by cases f <;> simp [Lib.bitLenAux]
      rw [e]; simp; omega
    · have hx2 : x / 2 < 2 ^ f := by rw [Nat.pow_succ] at hx; omega
      obtain ⟨a, b, c⟩ := bitLen_lo f (x / 2) h2 hx2
      have e : 2 ^ (1 + Lib.bitLenAux f (x / 2) - 1) = 2 ^ (Lib.bitLenAux f (x / 2) - 1) * 2 := by rw [← Nat.pow_succ]; congr 1; omega
      have e2 : 2 ^ (1 + Lib.bitLenAux f (x / 2)) = 2 ^ Lib.bitLenAux f (x / 2) * 2 := by rw [Nat.add_comm, Nat.pow_succ]
      rw [e, e2]; omega
theorem bitLen_pow (x : Nat) (h : x ≠ 0) (hx : x < 18446744073709551616) : 2 ^ (Lib.bitLen x - 1) ≤ x ∧ x < 2 ^ Lib.bitLen x ∧ 0 < Lib.bitLen x := bitLen_lo 64 x h (by omega)

end Go.Proofs.YtjfacmeeplalkaaDoor

/-
  What nat.shiftUp and shiftDown answer: a number times, and divided by, a power of two.
-/
namespace Go.Proofs.YtjfacmeeplalkaaDoor
open Go.RowKit

theorem W32c : ((W32 : Nat) : Int) = 4294967296 := rfl
/-- A limb shifted by fewer than 32 bits joins what was carried into it. -/
theorem or_shift (s : Nat) (hs : s < 32) (c x : Int) (hc0 : 0 ≤ c) (hc1 : c < 2 ^ s) (hx0 : 0 ≤ x) (hx1 : x < 4294967296) :
    bits .or .u64 c (IntKind.u64.wrap (x * 2 ^ s)) = c + x * 2 ^ s ∧ 0 ≤ c + x * 2 ^ s ∧ c + x * 2 ^ s < 4294967296 * 2 ^ s ∧ c + x * 2 ^ s < 18446744073709551616 := by
  obtain ⟨x, rfl⟩ := Int.eq_ofNat_of_zero_le hx0
  have hp : (0 : Int) < 2 ^ s := by
    have : 0 < 2 ^ s := Nat.two_pow_pos s
    have e : ((2 ^ s : Nat) : Int) = (2 : Int) ^ s := by simp
    omega
  have hple : (2 : Int) ^ s ≤ 4294967296 := by
    have : 2 ^ s ≤ 2 ^ 32 := Nat.pow_le_pow_right (by omega) (by omega)
    have e : ((2 ^ s : Nat) : Int) = (2 : Int) ^ s := by simp
    omega
  have h1 : (x : Int) * 2 ^ s ≤ 4294967295 * 2 ^ s := Int.mul_le_mul_of_nonneg_right (by omega) (by omega)
  have h0 : 0 ≤ (x : Int) * 2 ^ s := Int.mul_nonneg hx0 (by omega)
  have h2 : (4294967296 : Int) * 2 ^ s = 4294967295 * 2 ^ s + 2 ^ s := by omega
  have h3 : (4294967296 : Int) * 2 ^ s ≤ 4294967296 * 4294967296 := Int.mul_le_mul_of_nonneg_left hple (by omega)
  refine ⟨?_, by omega, by omega, by omega⟩
  rw [IntWalk.u64_in _ ⟨h0, by omega⟩, u64_or c ((x : Int) * 2 ^ s) hc0 (by omega) h0 (by omega), Nat.or_comm]
  have e : ((x : Int) * 2 ^ s).toNat = x * 2 ^ s := by
    have e1 : (x : Int) * 2 ^ s = ((x * 2 ^ s : Nat) : Int) := by simp
    rw [e1]; rfl
  rw [nat_join s ((x : Int) * 2 ^ s).toNat c.toNat (by rw [e]; exact Nat.mul_mod_left _ _) (by
    have e2 : ((2 ^ s : Nat) : Int) = (2 : Int) ^ s := by simp
    omega)]
  omega

theorem shift_step (B : Nat) (h f : Nat → Int) (N wh i : Nat) (c p t : Int) (hi : wh + i < N) (ht : t - h (wh + i) = c + f i * p) (hv : val B h N + c * (B : Int) ^ (wh + i) = val B f i * p * (B : Int) ^ wh) :
    val B (put h (wh + i) (t % B)) N + t / B * (B : Int) ^ (wh + (i + 1)) = val B f (i + 1) * p * (B : Int) ^ wh := by
  have e1 : (B : Int) ^ (wh + (i + 1)) = (B : Int) ^ (wh + i) * B := by rw [← Nat.add_assoc, Int.pow_succ]
  rw [val_put B h N (wh + i) _ hi, e1, carry_step, ht]
  simp only [val]
  rw [Int.add_mul, ← Int.add_assoc, hv, Int.add_mul, Int.add_mul]
  have e2 : f i * p * (B : Int) ^ (wh + i) = f i * (B : Int) ^ i * p * (B : Int) ^ wh := by
    rw [Nat.add_comm wh i, Int.pow_add, ← Int.mul_assoc, Int.mul_assoc (f i) p, Int.mul_comm p, ← Int.mul_assoc]
  rw [e2]

set_option maxRecDepth 20000 in
set_option maxHeartbeats 2000000 in
theorem shiftUp_pos (v : Value) (x n : Nat) (w : World) (hv : Rep w v x) (hx : x ≠ 0) (hlx : nl W32 x ≤ 1000000) (hn : n ≤ 1048576) :
    Calls Tryd.prog 76 #[v, .int .i64 (n : Int)] w fun e w' => ∃ r, e = .returned r ∧ RepM w.heap.size w' r (x * 2 ^ n) ∧ Below w.heap.size w w' := by
  obtain ⟨i0, hi, hz0, hz1, hz2⟩ := info_parts info_u64
  obtain ⟨ao, c, rfl, hnc, hl, h4⟩ := hv
  have hl0 : 0 < nl W32 x := by
    rcases Nat.eq_zero_or_pos (nl W32 x) with e | e
    · exact absurd ((nl_eq_zero W32 x (by decide)).1 e) hx
    · exact e
  have VX : Hid (val W32 (dg W32 x) (nl W32 x) = (x : Int)) := val_nl W32 x (by decide)
  have UX := u32_dg x (nl W32 x)
  obtain ⟨b, off, rfl, hc⟩ := h4 hl0
  clear h4
  generalize nl W32 x = la at *
  have hblt := hc.lt hl0
  have hne : ((la : Int) == 0) = false := by simp; omega
  obtain ⟨wh, hwh⟩ : ∃ wh, wh = n / 32 := ⟨_, rfl⟩
  obtain ⟨s, hs⟩ : ∃ s, s = n % 32 := ⟨_, rfl⟩
  have hs32 : s < 32 := by omega
  have hwb : wh ≤ 32768 := by omega
  have HN : Hid (n = 32 * wh + s) := by show n = _; omega
  have d1 : ((n : Int) / 32) = (wh : Int) := by omega
  have d2 : ((n : Int) % 32) = (s : Int) := by omega
  clear hwh hs
  go_enter Tryd.func76, Tryd.ntmps76
  go_wp2_with (at_make; refine wpList_make_full _ rfl _ _ 23 rfl _ 59 i0 (.int .u64 0) 1 Tryd.underlying23 hi hz0 hz1 _ _ _ _ (la + wh + 1) rfl rfl (by omega) (by omega) (by rw [hz2]; omega) (by unfold maxLen; omega) (Nat.le_refl _) ?_; intro w1 hown hgrow)
  have hbl := below_grown hgrow
  obtain ⟨hc1, hs1⟩ := mine_made (k := .u64) (w := w) hown (fun _ => 0) (fun i hi => made_zero .u64 (la + wh + 1) i hi)
  clear hown hgrow
  have hsz := hbl.size
  go_loopw [8, 26] (fun vc vi wr => ∃ (i : Nat) (cr : Int) (h : Nat → Int), i ≤ la ∧ vc = .int .u64 cr ∧ vi = .int .i64 (i : Int) ∧ 0 ≤ cr ∧ cr < 2 ^ s ∧ Cells wr .u64 w.heap.size 0 (la + wh + 1) h ∧ U32 (la + wh + 1) h ∧ (∀ p, wh + i ≤ p → h p = 0) ∧
      val W32 h (la + wh + 1) + cr * (W32 : Int) ^ (wh + i) = val W32 (dg W32 x) i * 2 ^ s * (W32 : Int) ^ wh ∧ Soft wr w.heap.size 0 (la + wh + 1) ∧ Below w.heap.size w wr) (fun _ vi _ => la - (intOf vi).toNat)
  case atStart =>
    refine ⟨0, 0, fun _ => 0, Nat.zero_le _, rfl, rfl, Int.le_refl _, ?_, hc1, fun _ _ => ⟨Int.le_refl _, (by decide : (0 : Int) < (W32 : Int))⟩, fun _ _ => rfl, by rw [val_zero _ (fun _ _ => rfl)]; simp [val], hs1, hbl⟩
    have : 0 < 2 ^ s := Nat.two_pow_pos s
    have e : ((2 ^ s : Nat) : Int) = (2 : Int) ^ s := by simp
    omega
  case round =>
    obtain ⟨i, cr, h, hi', rfl, rfl, hc0, hcr, hch, hu, hz, hv, hsf, hbel⟩ := hrel
    have HV : Hid (val W32 h (la + wh + 1) + cr * (W32 : Int) ^ (wh + i) = val W32 (dg W32 x) i * 2 ^ s * (W32 : Int) ^ wh) := hv
    have HZ : Hid (∀ p, wh + i ≤ p → h p = 0) := hz
    clear hv hz
    have hs2 := hbel.size
    by_cases hlt : i < la
    · have hca := (hc.below hbel hblt) i hlt
      have hcg : wr.cell? ⟨w.heap.size, wh + i, none⟩ = some (.int .u64 (h (wh + i))) := by have := hch (wh + i) (by omega); rw [Nat.zero_add] at this; exact this
      have hfr : wr.frozen? ⟨w.heap.size, wh + i, none⟩ = false := by have := hsf (wh + i) (by omega); rw [Nat.zero_add] at this; exact this
      have bx := UX i hlt
      unfold W32 at bx
      obtain ⟨ho, hb0, hb1, hb2⟩ := or_shift s hs32 cr (dg W32 x i) hc0 hcr bx.1 bx.2
      have HB1 : Hid (cr + dg W32 x i * 2 ^ s < 4294967296 * 2 ^ s) := hb1
      have hm := and_mask (cr + dg W32 x i * 2 ^ s) hb0 hb2
      clear hb1
      go_wp2
      go_roundw
      case rel =>
        refine ⟨i + 1, (cr + dg W32 x i * 2 ^ s) / (W32 : Int), put h (wh + i) ((cr + dg W32 x i * 2 ^ s) % (W32 : Int)), by omega, rfl, by go_num, by rw [W32c]; omega, ?_, ?_, ?_, ?_, ?_, hsf.set _ _, hbel.setCell (by simp) _⟩
        · rw [W32c]; have := HB1.out; exact Int.ediv_lt_of_lt_mul (by omega) (by omega)
        · have := hch.set (wh + i) (by omega) ((cr + dg W32 x i * 2 ^ s) % (W32 : Int)); rw [Nat.zero_add] at this; exact this
        · exact put_bounds hu (by rw [W32c]; omega) (by rw [W32c]; omega)
        · intro p hp; rw [put_other _ _ _ _ (by omega)]; exact HZ.out p (by omega)
        · exact shift_step W32 h (dg W32 x) (la + wh + 1) wh i cr (2 ^ s) _ (by omega) (by rw [HZ.out _ (Nat.le_refl _)]; omega) HV.out
      case measure => simp [intOf]; omega
    · have hil : i = la := by omega
      subst hil
      have hcg : wr.cell? ⟨w.heap.size, wh + i, none⟩ = some (.int .u64 (h (wh + i))) := by have := hch (wh + i) (by omega); rw [Nat.zero_add] at this; exact this
      have hfr : wr.frozen? ⟨w.heap.size, wh + i, none⟩ = false := by have := hsf (wh + i) (by omega); rw [Nat.zero_add] at this; exact this
      have hcr32 : cr < 4294967296 := by
        have : 2 ^ s ≤ 2 ^ 32 := Nat.pow_le_pow_right (by omega) (by omega)
        have e : ((2 ^ s : Nat) : Int) = (2 : Int) ^ s := by simp
        omega
      have hFin : Hid (val W32 (put h (wh + i) cr) (i + wh + 1) = ((x * 2 ^ n : Nat) : Int)) := by
        show _ = _
        have h1 := HV.out
        rw [VX.out] at h1
        rw [val_put _ _ _ _ _ (by omega), HZ.out _ (Nat.le_refl _), Int.sub_zero, h1, HN.out, Nat.pow_add, Nat.pow_mul]
        simp only [Int.natCast_mul, Int.natCast_pow]
        have e32 : (((2 : Nat) : Int) ^ 32) = (W32 : Int) := by decide
        rw [e32, Int.mul_comm ((W32 : Int) ^ wh), ← Int.mul_assoc]; rfl
      have hM : Mine .u64 w.heap.size (wr.setCell ⟨w.heap.size, wh + i, none⟩ (.int .u64 cr)) (.slice (some ⟨w.heap.size, 0, none⟩) (i + wh + 1) (i + wh + 1)) (i + wh + 1) (put h (wh + i) cr) := by
        refine ⟨_, _, rfl, Nat.le_refl _, by unfold LIM; omega, fun _ => ⟨_, _, rfl, ?_, hsf.set _ _, Nat.le_refl _⟩⟩
        have := hch.set (wh + i) (by omega) cr; rw [Nat.zero_add] at this; exact this
      go_wp2_with (go_at_call 62; refine (cut_mine _ _ _ _ _ _ hM (put_bounds hu hc0 (by unfold W32; omega)) hFin.out).mono ?_; rintro e w3 ⟨r, rfl, hr, rfl⟩)
      go_ret
      exact ⟨_, rfl, hr, hbel.setCell (by simp) _⟩

set_option maxRecDepth 20000 in
set_option maxHeartbeats 400000 in
theorem shiftUp_zero (ao : Option Addr) (c : Nat) (n : Int) (w : World) :
    Calls Tryd.prog 76 #[.slice ao 0 c, .int .i64 n] w fun e w' => e = .returned (.slice none 0 0) ∧ w' = w := by
  go_enter Tryd.func76, Tryd.ntmps76
  go_wp2
  go_ret
  exact ⟨rfl, rfl⟩

theorem shiftUp_any (v : Value) (x n : Nat) (w : World) (hv : Rep w v x) (hlx : nl W32 x ≤ 1000000) (hn : n ≤ 1048576) :
    Calls Tryd.prog 76 #[v, .int .i64 (n : Int)] w fun e w' => ∃ r, e = .returned r ∧ RepM w.heap.size w' r (x * 2 ^ n) ∧ Below w.heap.size w w' := by
  by_cases hx : x = 0
  · subst hx
    obtain ⟨ao, c, rfl, _, _, _⟩ := hv
    rw [nl_zero]
    refine (shiftUp_zero ao c _ w).mono fun e w' ⟨he, hw⟩ => ⟨_, he, ?_, by rw [hw]; exact Below.refl _ _⟩
    rw [Nat.zero_mul]; unfold RepM; rw [nl_zero]; exact Mine.nil _ _ _ _
  · exact shiftUp_pos v x n w hv hx hlx hn

theorem at0_dg32 (m i n : Nat) (hn : n = nl W32 m) : at0 (dg W32 m) n i = dg W32 m i := by
  unfold at0; split
  · rfl
  · rw [dg_high W32 m i]
    exact Nat.lt_of_lt_of_le (lt_pow_nl W32 m (by decide)) (Nat.pow_le_pow_right (by decide) (by omega))

/-- A limb of a number that is shifted down. -/
theorem down_digit (x wh s i : Nat) (hs : s < 32) : (dg W32 x (wh + i + 1) * 4294967296 + dg W32 x (wh + i)) / 2 ^ s % 4294967296 = dg W32 (x / 2 ^ (32 * wh + s)) i := by
  have e0 : x / 2 ^ (32 * wh + s) / W32 ^ i = x / W32 ^ (wh + i) / 2 ^ s := by
    rw [Nat.div_div_eq_div_mul, Nat.div_div_eq_div_mul]
    congr 1
    rw [Nat.pow_add, Nat.pow_add, Nat.pow_mul]
    have : 2 ^ 32 = W32 := by decide
    rw [this, Nat.mul_assoc, Nat.mul_comm (2 ^ s), ← Nat.mul_assoc]
  have e1 : dg W32 x (wh + i + 1) * 4294967296 + dg W32 x (wh + i) = ((x / W32 ^ (wh + i) % (W32 * W32) : Nat) : Int) := by
    unfold dg
    rw [Nat.pow_succ, ← Nat.div_div_eq_div_mul, Nat.mod_mul]
    simp only [Int.natCast_add, Int.natCast_mul]
    rw [W32c]; omega
  rw [e1]
  unfold dg
  rw [e0]
  generalize x / W32 ^ (wh + i) = y
  have e2 : W32 * W32 = 2 ^ s * 2 ^ (64 - s) := by rw [← Nat.pow_add, show s + (64 - s) = 64 by omega]; decide
  have e3 : y % (W32 * W32) / 2 ^ s = y / 2 ^ s % 2 ^ (64 - s) := by rw [e2, Nat.mod_mul_right_div_self]
  have e4 : ((y % (W32 * W32) : Nat) : Int) / 2 ^ s = ((y % (W32 * W32) / 2 ^ s : Nat) : Int) := by simp
  rw [e4, e3]
  have e5 : y / 2 ^ s % 2 ^ (64 - s) % W32 = y / 2 ^ s % W32 := Nat.mod_mod_of_dvd _ ⟨2 ^ (32 - s), by
    have : W32 = 2 ^ 32 := by decide
    rw [this, ← Nat.pow_add]; congr 1; omega⟩
  rw [← e5]; rfl

set_option maxRecDepth 20000 in
set_option maxHeartbeats 2000000 in
theorem shiftDown_pos (v : Value) (x n : Nat) (w : World) (hv : Rep w v x) (hlx : nl W32 x ≤ 1000000) (hn : n ≤ 9223372036854775807) (hlt : n / 32 < nl W32 x) :
    Calls Tryd.prog 78 #[v, .int .i64 (n : Int)] w fun e w' => ∃ r, e = .returned r ∧ RepM w.heap.size w' r (x / 2 ^ n) ∧ Below w.heap.size w w' := by
  obtain ⟨i0, hi, hz0, hz1, hz2⟩ := info_parts info_u64
  have hN := hv
  obtain ⟨ao, c, rfl, hnc, hl, h4⟩ := hv
  have UX := u32_dg x (nl W32 x)
  have HA : Hid (∀ i, at0 (dg W32 x) (nl W32 x) i = dg W32 x i) := fun i => at0_dg32 x i _ rfl
  have HU : Hid (∀ i, 0 ≤ dg W32 x i ∧ dg W32 x i < 4294967296) := fun i => dg_bounds W32 x i (by decide)
  have HL : Hid (x < W32 ^ nl W32 x) := lt_pow_nl W32 x (by decide)
  obtain ⟨b, off, rfl, hc⟩ := h4 (by omega)
  clear h4
  unfold Rep at hN
  generalize nl W32 x = la at *
  have hblt := hc.lt (by omega)
  obtain ⟨wh, hwh⟩ : ∃ wh, wh = n / 32 := ⟨_, rfl⟩
  obtain ⟨s, hs⟩ : ∃ s, s = n % 32 := ⟨_, rfl⟩
  have hs32 : s < 32 := by omega
  have hwb : wh < la := by omega
  have HN : Hid (n = 32 * wh + s) := by show n = _; omega
  have d1 : ((n : Int) / 32) = (wh : Int) := by omega
  have d2 : ((n : Int) % 32) = (s : Int) := by omega
  have hnw : ¬ (la : Int) ≤ (wh : Int) := by omega
  clear hwh hs hlt
  go_enter Tryd.func78, Tryd.ntmps78
  go_wp2_with (at_make; refine wpList_make_full _ rfl _ _ 23 rfl _ 59 i0 (.int .u64 0) 1 Tryd.underlying23 hi hz0 hz1 _ _ _ _ (la - wh) rfl rfl (by omega) (by omega) (by rw [hz2]; omega) (by unfold maxLen; omega) (Nat.le_refl _) ?_; intro w1 hown hgrow)
  have hbl := below_grown hgrow
  obtain ⟨hc1, hs1⟩ := mine_made (k := .u64) (w := w) hown (fun _ => 0) (fun i hi => made_zero .u64 (la - wh) i hi)
  clear hown hgrow
  have hsz := hbl.size
  go_loopw [24] (fun vi wr => ∃ (i : Nat), i ≤ la - wh ∧ vi = .int .i64 (i : Int) ∧ Cells wr .u64 w.heap.size 0 (la - wh) (upto (dg W32 (x / 2 ^ n)) i) ∧ Soft wr w.heap.size 0 (la - wh) ∧ Below w.heap.size w wr) (fun vi _ => la - wh - (intOf vi).toNat)
  case atStart => exact ⟨0, Nat.zero_le _, rfl, hc1.congr (fun i _ => by simp [upto]), hs1, hbl⟩
  case round =>
    obtain ⟨i, hi', rfl, hch, hsf, hbel⟩ := hrel
    have hs2 := hbel.size
    by_cases hlt : i < la - wh
    · have hca : wr.cell? ⟨b, off + (wh + i), none⟩ = some (.int .u64 (dg W32 x (wh + i))) := (hc.below hbel hblt) (wh + i) (by omega)
      have hcg : wr.cell? ⟨w.heap.size, i, none⟩ = some (.int .u64 (upto (dg W32 (x / 2 ^ n)) i i)) := by have := hch i hlt; rw [Nat.zero_add] at this; exact this
      have hfr : wr.frozen? ⟨w.heap.size, i, none⟩ = false := by have := hsf i hlt; rw [Nat.zero_add] at this; exact this
      have hNr := hN.below hbel
      have hat := HA.out (wh + i + 1)
      have b1 := HU.out (wh + i + 1)
      have b0 := HU.out (wh + i)
      have hdd : Hid ((dg W32 x (wh + i + 1) * 4294967296 + dg W32 x (wh + i)) / 2 ^ s % 4294967296 = dg W32 (x / 2 ^ n) i) := by show _ = _; rw [HN.out]; exact down_digit x wh s i hs32
      generalize dg W32 x (wh + i + 1) = D1 at *
      generalize dg W32 x (wh + i) = D0 at *
      have ho := or_join' D1 D0 b1.1 b1.2 b0.1 b0.2
      have hp1 : (0 : Int) < 2 ^ s := by
        have : 0 < 2 ^ s := Nat.two_pow_pos s
        have e : ((2 ^ s : Nat) : Int) = (2 : Int) ^ s := by simp
        omega
      have hq0 : 0 ≤ (D1 * 4294967296 + D0) / 2 ^ s := Int.ediv_nonneg (by omega) (by omega)
      have hq1 : (D1 * 4294967296 + D0) / 2 ^ s < 18446744073709551616 := Int.lt_of_le_of_lt (Int.ediv_le_self _ (by omega)) (by omega)
      have hm := and_mask ((D1 * 4294967296 + D0) / 2 ^ s) hq0 hq1
      have i1 : (0 : Int) ≤ (wh : Int) + (i : Int) := by omega
      have i2 : (wh : Int) + (i : Int) < (la : Int) := by omega
      have i3 : (i : Int) < (la : Int) - (wh : Int) := by omega
      have hw1 : IntKind.i64.wrap ((wh : Int) + (i : Int)) = (wh : Int) + (i : Int) := by rw [IntKind.wrap_i64]; omega
      have hw2 : IntKind.i64.wrap ((wh : Int) + (i : Int) + 1) = (wh : Int) + (i : Int) + 1 := by rw [IntKind.wrap_i64]; omega
      have hnt : ((wh : Int) + (i : Int)).toNat = wh + i := by omega
      have hw3 : IntKind.u64.wrap (D1 * 4294967296) = D1 * 4294967296 := by rw [IntKind.wrap_u64]; omega
      go_wp2
      go_region_with (first | (go_at_call 64; refine (limb_any _ _ _ _ _ (by exact hNr) (by omega) (by unfold LIM; omega)).mono ?_; rintro e w2 ⟨rfl, rfl⟩; rw [show ((wh : Int) + (i : Int) + 1).toNat = wh + i + 1 by omega, hat]))
      all_goals
        go_wp2
        go_roundw
        case rel =>
          rw [hdd.out]
          refine ⟨i + 1, by omega, by go_num, ?_, hsf.set _ _, (hbel.setCell (by simp) _).drew⟩
          have := (hch.set i hlt (dg W32 (x / 2 ^ n) i)).congr (fun j _ => upto_put (dg W32 (x / 2 ^ n)) i j)
          rw [Nat.zero_add] at this; exact this
        case measure => simp [intOf]; omega
    · have hil : i = la - wh := by omega
      have HV : Hid (val W32 (dg W32 (x / 2 ^ n)) (la - wh) = ((x / 2 ^ n : Nat) : Int)) := by
        show _ = _
        rw [val_dg, Nat.mod_eq_of_lt]
        have h1 := HL.out
        rw [HN.out, Nat.div_lt_iff_lt_mul (Nat.two_pow_pos _)]
        have h2 : W32 ^ la = W32 ^ (la - wh) * 2 ^ (32 * wh) := by
          rw [Nat.pow_mul, show 2 ^ 32 = W32 by decide, ← Nat.pow_add]; congr 1; omega
        have h3 : W32 ^ (la - wh) * 2 ^ (32 * wh) ≤ W32 ^ (la - wh) * 2 ^ (32 * wh + s) := Nat.mul_le_mul_left _ (Nat.pow_le_pow_right (by omega) (by omega))
        omega
      have hM : Mine .u64 w.heap.size wr (.slice (some ⟨w.heap.size, 0, none⟩) (la - wh) (la - wh)) (la - wh) (dg W32 (x / 2 ^ n)) :=
        ⟨_, _, rfl, Nat.le_refl _, by unfold LIM; omega, fun _ => ⟨_, _, rfl, hch.congr (fun j hj => upto_all _ _ _ (by omega)), hsf, Nat.le_refl _⟩⟩
      go_wp2_with (go_at_call 62; refine (cut_mine _ _ _ _ _ _ hM (u32_dg _ _) HV.out).mono ?_; rintro e w3 ⟨r, rfl, hr, rfl⟩)
      go_ret
      exact ⟨_, rfl, hr, hbel⟩

set_option maxRecDepth 20000 in
set_option maxHeartbeats 400000 in
theorem shiftDown_zero (v : Value) (x n : Nat) (w : World) (hv : Rep w v x) (hn : n ≤ 9223372036854775807) (hge : nl W32 x ≤ n / 32) :
    Calls Tryd.prog 78 #[v, .int .i64 (n : Int)] w fun e w' => e = .returned (.slice none 0 0) ∧ w' = w := by
  obtain ⟨ao, c, rfl, _, _, _⟩ := hv
  have h1 : (nl W32 x : Int) ≤ (n : Int) / 32 := by omega
  generalize nl W32 x = la at *
  go_enter Tryd.func78, Tryd.ntmps78
  go_wp2
  go_ret
  exact ⟨rfl, rfl⟩

theorem shiftDown_any (v : Value) (x n : Nat) (w : World) (hv : Rep w v x) (hlx : nl W32 x ≤ 1000000) (hn : n ≤ 9223372036854775807) :
    Calls Tryd.prog 78 #[v, .int .i64 (n : Int)] w fun e w' => ∃ r, e = .returned r ∧ RepM w.heap.size w' r (x / 2 ^ n) ∧ Below w.heap.size w w' := by
  by_cases h : n / 32 < nl W32 x
  · exact shiftDown_pos v x n w hv hlx hn h
  · refine (shiftDown_zero v x n w hv hn (by omega)).mono fun e w' ⟨he, hw⟩ => ⟨_, he, ?_, by rw [hw]; exact Below.refl _ _⟩
    have h0 : x / 2 ^ n = 0 := by
      apply Nat.div_eq_of_lt
      have h1 := lt_pow_nl W32 x (by decide)
      have h2 : W32 ^ nl W32 x ≤ W32 ^ (n / 32) := Nat.pow_le_pow_right (by decide) (by omega)
      have h3 : W32 ^ (n / 32) = 2 ^ (32 * (n / 32)) := by rw [Nat.pow_mul]
      have h4 : 2 ^ (32 * (n / 32)) ≤ 2 ^ n := Nat.pow_le_pow_right (by omega) (by omega)
      omega
    rw [h0]; unfold RepM; rw [nl_zero]; exact Mine.nil _ _ _ _

end Go.Proofs.YtjfacmeeplalkaaDoor

/-
  What math/bits.TrailingZeros64 and nat.smallGcd answer, the table of math/bits lying as it is laid.
-/
namespace Go.Proofs.YtjfacmeeplalkaaDoor
open Go.RowKit
set_option linter.unusedVariables false

/-- math/bits' table lies in its variable. -/
def Tab (w : World) : Prop := ∀ i, i < 64 → w.cell? ⟨0, i, none⟩ = some (.int .u8 ((Lib.deBruijn64tab.getD i 0 : Nat) : Int))
theorem Tab.below {w w' : World} (h : Tab w) (hb : Below w.heap.size w w') : Tab w' := fun i hi => cell_later hb (h i hi)

theorem ctz_spec (x : Nat) (h0 : 0 < x) (h : x < 18446744073709551616) : ∃ m, x = 2 ^ Lib.ctz 64 x * (2 * m + 1) ∧ Lib.ctz 64 x < 64 := by
  have e : Lib.ctz 64 x = Lib.ctzFrom 64 x := by simp [Lib.ctz, show x ≠ 0 by omega]
  rw [e]; exact Lib.ctzFrom_spec 64 x h0 (by omega)

theorem tz_key (x a : Nat) (hx : x < 18446744073709551616) (hx0 : x ≠ 0) (hlow : x &&& (18446744073709551616 - x) = a) :
    IntKind.u64.wrap (bits BinOp.and IntKind.u64 (x : Int) (IntKind.u64.wrap (-(x : Int))) * 285870213051353865) / 288230376151711744 = ((a * 285870213051353865 % 18446744073709551616 / 288230376151711744 : Nat) : Int) := by
  have e1 : IntKind.u64.wrap (-(x : Int)) = ((18446744073709551616 - x : Nat) : Int) := by rw [IntKind.wrap_u64]; omega
  rw [e1, u64_and _ _ (by omega) (by omega) (by omega) (by omega), Int.toNat_natCast, Int.toNat_natCast, hlow, IntKind.wrap_u64]
  omega

set_option maxRecDepth 20000 in
set_option maxHeartbeats 1000000 in
theorem tz_core (x k idx : Nat) (w : World) (hx0 : ((x : Int) == 0) = false)
    (key : IntKind.u64.wrap (bits BinOp.and IntKind.u64 (x : Int) (IntKind.u64.wrap (-(x : Int))) * 285870213051353865) / 288230376151711744 = (idx : Int))
    (hi : idx < 64) (hk : k < 64) (hcell : w.cell? ⟨0, idx, none⟩ = some (.int .u8 (k : Int))) :
    Calls Tryd.prog 65 #[.int .u64 (x : Int)] w fun e w' => e = .returned (.int .i64 (k : Int)) ∧ w' = w := by
  go_enter Tryd.func65, Tryd.ntmps65
  go_wp2_with (simp only [key])
  go_ret
  exact ⟨rfl, rfl⟩

theorem tz_any (x : Nat) (w : World) (h0 : 0 < x) (h1 : x < 18446744073709551616) (ht : Tab w) :
    Calls Tryd.prog 65 #[.int .u64 (x : Int)] w fun e w' => e = .returned (.int .i64 ((Lib.ctz 64 x : Nat) : Int)) ∧ w' = w := by
  obtain ⟨hlow, hk⟩ := Lib.lowest_bit 64 x (by omega) h1
  obtain ⟨hi, htab⟩ := Lib.deBruijn64_at _ hk
  have hcell := ht _ hi
  rw [htab] at hcell
  exact tz_core x _ _ w (by simp; omega) (tz_key x _ h1 (by omega) hlow) hi hk hcell

end Go.Proofs.YtjfacmeeplalkaaDoor

/-
  What nat.smallGcd answers.
-/
namespace Go.Proofs.YtjfacmeeplalkaaDoor
open Go.RowKit
set_option linter.unusedVariables false

theorem two_unique {s t m n : Nat} (h : 2 ^ s * (2 * m + 1) = 2 ^ t * (2 * n + 1)) : s = t := by
  have key : ∀ {s t m n : Nat}, s < t → 2 ^ s * (2 * m + 1) = 2 ^ t * (2 * n + 1) → False := by
    intro s t m n hlt h
    obtain ⟨d, rfl⟩ : ∃ d, t = s + (d + 1) := ⟨t - s - 1, by omega⟩
    rw [Nat.pow_add, Nat.mul_assoc] at h
    have h2 := Nat.eq_of_mul_eq_mul_left (Nat.pow_pos (by decide)) h
    rw [Nat.pow_succ] at h2
    have : 2 ^ d * 2 * (2 * n + 1) = 2 * (2 ^ d * (2 * n + 1)) := by rw [Nat.mul_comm (2 ^ d) 2, Nat.mul_assoc]
    omega
  rcases Nat.lt_trichotomy s t with h1 | h1 | h1
  · exact (key h1 h).elim
  · exact h1
  · exact (key h1 h.symm).elim
theorem odd_coprime (a k : Nat) (ha : a % 2 = 1) : Nat.Coprime (2 ^ k) a := by
  apply Nat.Coprime.pow_left
  have h2 : Nat.gcd 2 a = 1 := by
    rw [Nat.gcd_rec, ha]; rfl
  exact h2
theorem gcd_odd (a b k : Nat) (ha : a % 2 = 1) : Nat.gcd a (2 ^ k * b) = Nat.gcd a b :=
  Nat.Coprime.gcd_mul_left_cancel_right b (odd_coprime a k ha)
theorem or_two (i a b : Nat) : (2 ^ i * a) ||| (2 ^ i * b) = 2 ^ i * (a ||| b) := by
  have h := Nat.shiftLeft_or_distrib (a := a) (b := b) (i := i)
  rw [Nat.shiftLeft_eq, Nat.shiftLeft_eq, Nat.shiftLeft_eq] at h
  rw [Nat.mul_comm, Nat.mul_comm (2 ^ i) b, ← h, Nat.mul_comm]
theorem or_odd (a b : Nat) (ha : a % 2 = 1) : (a ||| b) % 2 = 1 := by
  have h : (a ||| b).testBit 0 = true := by
    rw [Nat.testBit_or, Nat.testBit_zero, ha]; simp
  rw [Nat.testBit_zero] at h; simpa using h
theorem ctz_of (z t q : Nat) (hq : q % 2 = 1) (hz : z = 2 ^ t * q) (h1 : z < 18446744073709551616) : Lib.ctz 64 z = t := by
  have h0 : 0 < z := by
    rw [hz]; exact Nat.mul_pos (Nat.pow_pos (by decide)) (by omega)
  obtain ⟨m, hm, _⟩ := ctz_spec z h0 h1
  have hq2 : q = 2 * (q / 2) + 1 := by omega
  rw [hq2] at hz
  exact two_unique (hm.symm.trans hz)
theorem ctz_part (x : Nat) (h0 : 0 < x) (h1 : x < 18446744073709551616) : (x / 2 ^ Lib.ctz 64 x) % 2 = 1 ∧ x = 2 ^ Lib.ctz 64 x * (x / 2 ^ Lib.ctz 64 x) ∧ Lib.ctz 64 x < 64 := by
  obtain ⟨m, hm, hk⟩ := ctz_spec x h0 h1
  have e : x / 2 ^ Lib.ctz 64 x = 2 * m + 1 := by
    have hp : 0 < 2 ^ Lib.ctz 64 x := Nat.pow_pos (by decide)
    generalize 2 ^ Lib.ctz 64 x = P at *
    rw [hm, Nat.mul_div_cancel_left _ hp]
  rw [e]
  exact ⟨by omega, hm, hk⟩
theorem gcd_twos (x y : Nat) (hx : 0 < x) (hy : 0 < y) (hx1 : x < 18446744073709551616) (hy1 : y < 18446744073709551616) :
    Nat.gcd (x / 2 ^ Lib.ctz 64 x) y * 2 ^ Lib.ctz 64 (x ||| y) = Nat.gcd x y := by
  obtain ⟨ha, hxe, _⟩ := ctz_part x hx hx1
  obtain ⟨hb, hye, _⟩ := ctz_part y hy hy1
  have hor : x ||| y < 18446744073709551616 := Nat.or_lt_two_pow (n := 64) hx1 hy1
  generalize x / 2 ^ Lib.ctz 64 x = a at *
  generalize y / 2 ^ Lib.ctz 64 y = b at *
  generalize Lib.ctz 64 x = i at *
  generalize Lib.ctz 64 y = j at *
  rcases Nat.le_total i j with h | h
  · obtain ⟨d, rfl⟩ := Nat.exists_eq_add_of_le h
    have e1 : y = 2 ^ i * (2 ^ d * b) := by rw [← Nat.mul_assoc, ← Nat.pow_add]; exact hye
    have e2 : x ||| y = 2 ^ i * (a ||| 2 ^ d * b) := by
      have := or_two i a (2 ^ d * b)
      rw [← e1, ← hxe] at this; exact this
    rw [ctz_of (x ||| y) i _ (or_odd a _ ha) e2 hor]
    have e3 : Nat.gcd a y = Nat.gcd a b := by rw [hye]; exact gcd_odd a b _ ha
    have e4 : Nat.gcd x y = 2 ^ i * Nat.gcd a b := by
      rw [hxe, e1, Nat.gcd_mul_left, gcd_odd a b d ha]
    rw [e3, e4, Nat.mul_comm]
  · obtain ⟨d, rfl⟩ := Nat.exists_eq_add_of_le h
    have e1 : x = 2 ^ j * (2 ^ d * a) := by rw [← Nat.mul_assoc, ← Nat.pow_add]; exact hxe
    have e2 : x ||| y = 2 ^ j * (b ||| 2 ^ d * a) := by
      have := or_two j b (2 ^ d * a)
      rw [← e1, ← hye, Nat.or_comm] at this; exact this
    rw [ctz_of (x ||| y) j _ (or_odd b _ hb) e2 hor]
    have e3 : Nat.gcd a y = Nat.gcd a b := by rw [hye]; exact gcd_odd a b _ ha
    have e4 : Nat.gcd x y = 2 ^ j * Nat.gcd a b := by
      rw [hye, e1, Nat.gcd_mul_left, Nat.gcd_comm, gcd_odd b a d hb, Nat.gcd_comm]
    rw [e3, e4, Nat.mul_comm]

set_option maxRecDepth 20000 in
set_option maxHeartbeats 1000000 in
theorem smallGcd_any (x y : Nat) (w : World) (hx : 0 < x) (hx1 : x < 18446744073709551616) (hy1 : y < 18446744073709551616) (ht : Tab w) :
    Calls Tryd.prog 48 #[.int .u64 (x : Int), .int .u64 (y : Int)] w fun e w' => e = .returned (.int .u64 ((Nat.gcd x y : Nat) : Int)) ∧ w' = w := by
  by_cases hy : y = 0
  · subst hy
    go_enter Tryd.func48, Tryd.ntmps48
    go_wp2
    go_ret
    exact ⟨by rw [Nat.gcd_zero_right]; rfl, rfl⟩
  · have hy0 : ((y : Int) == 0) = false := by simp; omega
    have hor : bits .or .u64 (x : Int) (y : Int) = ((x ||| y : Nat) : Int) := u64_or_nat x y hx1 hy1
    have hor0 : 0 < x ||| y := by
      have := Nat.left_le_or (n := x) (m := y); omega
    have hor1 : x ||| y < 18446744073709551616 := Nat.or_lt_two_pow (n := 64) hx1 hy1
    have HK : Hid (Nat.gcd (x / 2 ^ Lib.ctz 64 x) y * 2 ^ Lib.ctz 64 (x ||| y) = Nat.gcd x y) := gcd_twos x y hx (by omega) hx1 hy1
    have HX : Hid ((x / 2 ^ Lib.ctz 64 x) % 2 = 1 ∧ x = 2 ^ Lib.ctz 64 x * (x / 2 ^ Lib.ctz 64 x) ∧ Lib.ctz 64 x < 64) := ctz_part x hx hx1
    have hcx := HX.out.2.2
    have hct := (ctz_part _ hor0 hor1).2.2
    have HG : Hid (Nat.gcd x y ≤ x) := Nat.gcd_le_left y hx
    go_enter Tryd.func48, Tryd.ntmps48
    go_wp2_with fail
    refine (tz_any _ _ hor0 hor1 ht).mono ?_
    rintro e w1 ⟨rfl, hw⟩
    subst hw
    generalize hT : Lib.ctz 64 (x ||| y) = t at *
    go_wp2_with fail
    refine (tz_any _ _ hx hx1 ht).mono ?_
    rintro e w1 ⟨rfl, hw⟩
    subst hw
    generalize Lib.ctz 64 x = i at *
    go_wp2
    obtain ⟨ha, hxe, _⟩ := HX.out
    have hle : x / 2 ^ i ≤ x := Nat.div_le_self _ _
    have hcast : (x : Int) / 2 ^ i = ((x / 2 ^ i : Nat) : Int) := by simp
    have HA : Hid (x / 2 ^ i % 2 = 1) := ha
    clear hxe ha
    generalize x / 2 ^ i = a0 at *
    clear HX hT hor hor0 hor1
    rw [hcast]
    clear hcast
    go_loop [0, 1] (fun va vb => ∃ a b : Nat, va = .int .u64 (a : Int) ∧ vb = .int .u64 (b : Int) ∧ a % 2 = 1 ∧ a < 18446744073709551616 ∧ b < 18446744073709551616 ∧ Nat.gcd a b = Nat.gcd a0 y) (fun va vb => (intOf va).toNat + (intOf vb).toNat)
    case atStart => exact ⟨a0, y, rfl, rfl, HA.out, by omega, hy1, rfl⟩
    case round =>
      obtain ⟨a, b, rfl, rfl, ha, ha1, hb1, hg⟩ := hrel
      have HGE : Hid (Nat.gcd a b = Nat.gcd a0 y) := hg
      have HAO : Hid (a % 2 = 1) := ha
      clear hg ha
      by_cases hb : b = 0
      · subst hb
        have HE : Hid (a * 2 ^ t = Nat.gcd x y) := by
          show _ = _
          have := HGE.out
          rw [Nat.gcd_zero_right] at this
          rw [this]; exact HK.out
        have hw : IntKind.u64.wrap ((a : Int) * 2 ^ t) = ((Nat.gcd x y : Nat) : Int) := by
          have h1 : (a : Int) * 2 ^ t = ((a * 2 ^ t : Nat) : Int) := by simp
          rw [h1, HE.out, IntKind.wrap_u64]
          have := HG.out
          omega
        go_wp2
        go_ret
        exact ⟨rfl, rfl⟩
      · have hb0 : ((b : Int) != 0) = true := by simp; omega
        have hb0' : ((b : Int) == 0) = false := by simp; omega
        have hp := ctz_part b (by omega) hb1
        have hk := hp.2.2
        have HP : Hid ((b / 2 ^ Lib.ctz 64 b) % 2 = 1 ∧ b = 2 ^ Lib.ctz 64 b * (b / 2 ^ Lib.ctz 64 b) ∧ Lib.ctz 64 b < 64) := hp
        have HQ : Hid (Nat.gcd a b = Nat.gcd a (b / 2 ^ Lib.ctz 64 b)) := by
          show _ = _
          have h2 := gcd_odd a (b / 2 ^ Lib.ctz 64 b) (Lib.ctz 64 b) HAO.out
          rw [← hp.2.1] at h2; exact h2
        clear hp
        go_wp2_with fail
        refine (tz_any _ _ (by omega) hb1 ht).mono ?_
        rintro e w2 ⟨rfl, hw⟩
        subst hw
        generalize Lib.ctz 64 b = k at *
        have hdl : b / 2 ^ k ≤ b := Nat.div_le_self _ _
        have hcb : (b : Int) / 2 ^ k = ((b / 2 ^ k : Nat) : Int) := by simp
        have hodd := HP.out.1
        have HO : Hid (b / 2 ^ k % 2 = 1) := hodd
        clear HP hodd
        generalize b / 2 ^ k = c at *
        by_cases hac : a ≤ c
        · have i1 : (a : Int) ≤ (c : Int) := by omega
          have m1 : min (a : Int) (c : Int) = (a : Int) := Int.min_eq_left i1
          have m2 : max (a : Int) (c : Int) = (c : Int) := Int.max_eq_right i1
          have hs : IntKind.u64.wrap ((c : Int) - (a : Int)) = ((c - a : Nat) : Int) := by rw [IntKind.wrap_u64]; omega
          go_wp2
          refine ⟨?_, by have := HAO.out; simp [intOf]; omega⟩
          exact ⟨a, c - a, rfl, rfl, HAO.out, ha1, by omega, by rw [Nat.gcd_sub_self_right hac, ← HQ.out]; exact HGE.out⟩
        · have i1 : (c : Int) ≤ (a : Int) := by omega
          have i2 : ¬ (a : Int) ≤ (c : Int) := by omega
          have m1 : min (a : Int) (c : Int) = (c : Int) := Int.min_eq_right i1
          have m2 : max (a : Int) (c : Int) = (a : Int) := Int.max_eq_left i1
          have hs : IntKind.u64.wrap ((a : Int) - (c : Int)) = ((a - c : Nat) : Int) := by rw [IntKind.wrap_u64]; omega
          go_wp2
          refine ⟨?_, by have := HAO.out; simp [intOf]; omega⟩
          exact ⟨c, a - c, rfl, rfl, HO.out, by omega, by omega, by rw [Nat.gcd_sub_self_right (by omega), Nat.gcd_comm, ← HQ.out]; exact HGE.out⟩

end Go.Proofs.YtjfacmeeplalkaaDoor

/-
  Plain facts (no program in sight): Lehmer's steps with Collins' condition.
-/
namespace Go.Proofs.YtjfacmeeplalkaaDoor

/-- The two numbers A and B behind some divisions: what they have become, and the cofactors. -/
structure Coll (A B a b u1 u2 v1 v2 : Nat) (ev : Bool) : Prop where
  hA : v2 * a + v1 * b = A
  hB : u2 * a + u1 * b = B
  le : b ≤ a
  uv : u2 ≤ v2
  one : 1 ≤ v2
  ord : B ≤ A
  det : if ev then u2 * v1 = u1 * v2 + 1 else u1 * v2 = u2 * v1 + 1
  more : 1 ≤ v1 → u1 ≤ v1 ∧ v1 ≤ v2 ∧ 1 ≤ u2

theorem Coll.start (A B : Nat) (h : B ≤ A) : Coll A B A B 1 0 0 1 false := ⟨by omega, by omega, h, by omega, by omega, h, by simp, by omega⟩

theorem Coll.step {A B a b u1 u2 v1 v2 : Nat} {ev : Bool} (h : Coll A B a b u1 u2 v1 v2 ev) (hb : 0 < b) :
    Coll A B b (a % b) u2 (u1 + a / b * u2) v2 (v1 + a / b * v2) (!ev) := by
  have hq := Nat.div_add_mod a b
  have hr := Nat.mod_lt a hb
  have hq1 : 1 ≤ a / b := (Nat.one_le_div_iff hb).2 h.le
  obtain ⟨hA, hB, hle, huv, h1, hord, hdet, hmore⟩ := h
  generalize a / b = q at *
  generalize a % b = r at *
  have hu1 : u1 ≤ v1 ∨ v1 = 0 := by
    rcases Nat.eq_zero_or_pos v1 with e | e
    · exact .inr e
    · exact .inl (hmore e).1
  have hqv : v2 ≤ q * v2 := Nat.le_mul_of_pos_left _ hq1
  have hquv : q * u2 ≤ q * v2 := Nat.mul_le_mul_left _ huv
  have hone : 1 ≤ u1 + q * u2 := by
    cases ev with
    | true =>
      simp only [if_true] at hdet
      have : 1 ≤ u2 := by
        rcases Nat.eq_zero_or_pos u2 with e | e
        · rw [e, Nat.zero_mul] at hdet; omega
        · exact e
      have := Nat.le_mul_of_pos_left u2 hq1
      omega
    | false =>
      simp only [Bool.false_eq_true, if_false] at hdet
      have : 1 ≤ u1 := by
        rcases Nat.eq_zero_or_pos u1 with e | e
        · rw [e, Nat.zero_mul] at hdet; omega
        · exact e
      omega
  refine ⟨by grind, by grind, by omega, ?_, by omega, hord, ?_, fun _ => ⟨huv, by omega, hone⟩⟩
  · rcases hu1 with h | h
    · omega
    · subst h
      -- at the start: u1 * v2 = 1
      cases ev with
      | true => simp at hdet
      | false =>
        simp only [Bool.false_eq_true, if_false, Nat.mul_zero] at hdet
        have e := Nat.eq_one_of_mul_eq_one_right hdet
        have e2 := Nat.eq_one_of_mul_eq_one_left hdet
        subst e
        subst e2
        have : u2 = 0 ∨ u2 = 1 := by omega
        rcases this with e | e
        · subst e; omega
        · subst e
          exfalso
          omega
  · cases ev with
    | true => simp only [if_true] at hdet; simp; grind
    | false => simp only [Bool.false_eq_true, if_false] at hdet; simp; grind

theorem mul_lt_lt {c d P β : Nat} (hc : 0 < c) (hcd : c ≤ d) (hβ : β < P) : c * β < d * P :=
  Nat.lt_of_lt_of_le (Nat.mul_lt_mul_of_pos_left hβ hc) (Nat.mul_le_mul_right _ hcd)

/-- What the cofactors make of the numbers themselves, of which A and B are the heads. -/
theorem lehmer_pos {A B a b u0 u1 v0 v1 : Nat} (h : Coll A B a b u0 u1 v0 v1 false) (hc1 : v1 ≤ b) (hc2 : v0 + v1 ≤ a - b) (hv0 : 1 ≤ v0)
    (x y P α β : Nat) (hx : x = A * P + α) (hy : y = B * P + β) (hα : α < P) (hβ : β < P) :
    ∃ X Y, u0 * x = v0 * y + X ∧ v1 * y = u1 * x + Y ∧ x = v1 * X + v0 * Y ∧ y = u1 * X + u0 * Y ∧ Y < X ∧ X ≤ y := by
  obtain ⟨hA, hB, hle, huv, h1, hord, hdet, hmore⟩ := h
  obtain ⟨m1, m2, m3⟩ := hmore hv0
  simp only [Bool.false_eq_true, if_false] at hdet
  have ea : u0 * A = v0 * B + a := by grind
  have eb : v1 * B = u1 * A + b := by grind
  have e1 : u0 * x + v0 * β = v0 * y + a * P + u0 * α := by grind
  have e2 : v1 * y + u1 * α = u1 * x + b * P + v1 * β := by grind
  have l1 : v0 * β ≤ a * P := Nat.mul_le_mul (by omega) (Nat.le_of_lt hβ)
  have l2 : u1 * α ≤ b * P := Nat.mul_le_mul (by omega) (Nat.le_of_lt hα)
  have l3 : (v0 + v1) * β < (a - b) * P := mul_lt_lt (by omega) hc2 hβ
  have l4 : (a - b) * P + b * P = a * P := by rw [← Nat.add_mul]; congr 1; omega
  have l5 : (v0 + v1) * β = v0 * β + v1 * β := Nat.add_mul _ _ _
  obtain ⟨X, hX⟩ : ∃ X, X = a * P + u0 * α - v0 * β := ⟨_, rfl⟩
  obtain ⟨Y, hY⟩ : ∃ Y, Y = b * P + v1 * β - u1 * α := ⟨_, rfl⟩
  have f1 : u0 * x = v0 * y + X := by omega
  have f2 : v1 * y = u1 * x + Y := by omega
  have f3 : x = v1 * X + v0 * Y := by grind
  have f4 : y = u1 * X + u0 * Y := by grind
  refine ⟨X, Y, f1, f2, f3, f4, by omega, ?_⟩
  have := Nat.le_mul_of_pos_left X m3
  omega

theorem lehmer_neg {A B a b u0 u1 v0 v1 : Nat} (h : Coll A B a b u0 u1 v0 v1 true) (hc1 : v1 ≤ b) (hc2 : v0 + v1 ≤ a - b) (hv0 : 1 ≤ v0)
    (x y P α β : Nat) (hx : x = A * P + α) (hy : y = B * P + β) (hα : α < P) (hβ : β < P) :
    ∃ X Y, v0 * y = u0 * x + X ∧ u1 * x = v1 * y + Y ∧ x = v1 * X + v0 * Y ∧ y = u1 * X + u0 * Y ∧ Y < X ∧ X ≤ y := by
  obtain ⟨hA, hB, hle, huv, h1, hord, hdet, hmore⟩ := h
  obtain ⟨m1, m2, m3⟩ := hmore hv0
  simp only [if_true] at hdet
  have ea : v0 * B = u0 * A + a := by grind
  have eb : u1 * A = v1 * B + b := by grind
  have e1 : v0 * y + u0 * α = u0 * x + a * P + v0 * β := by grind
  have e2 : u1 * x + v1 * β = v1 * y + b * P + u1 * α := by grind
  have l1 : u0 * α ≤ a * P := Nat.mul_le_mul (by omega) (Nat.le_of_lt hα)
  have l2 : v1 * β ≤ b * P := Nat.mul_le_mul (by omega) (Nat.le_of_lt hβ)
  have l0 : (u0 + u1) * α ≤ (v0 + v1) * α := Nat.mul_le_mul_right _ (by omega)
  have l3 : (v0 + v1) * α < (a - b) * P := mul_lt_lt (by omega) hc2 hα
  have l4 : (a - b) * P + b * P = a * P := by rw [← Nat.add_mul]; congr 1; omega
  have l5 : (u0 + u1) * α = u0 * α + u1 * α := Nat.add_mul _ _ _
  obtain ⟨X, hX⟩ : ∃ X, X = a * P + v0 * β - u0 * α := ⟨_, rfl⟩
  obtain ⟨Y, hY⟩ : ∃ Y, Y = b * P + u1 * α - v1 * β := ⟨_, rfl⟩
  have f1 : v0 * y = u0 * x + X := by omega
  have f2 : u1 * x = v1 * y + Y := by omega
  have f3 : x = v1 * X + v0 * Y := by grind
  have f4 : y = u1 * X + u0 * Y := by grind
  refine ⟨X, Y, f1, f2, f3, f4, by omega, ?_⟩
  have := Nat.le_mul_of_pos_left X m3
  omega

theorem gcd_pos {x y X Y u0 u1 v0 v1 : Nat} (f1 : u0 * x = v0 * y + X) (f2 : v1 * y = u1 * x + Y) (f3 : x = v1 * X + v0 * Y) (f4 : y = u1 * X + u0 * Y) : Nat.gcd X Y = Nat.gcd x y := by
  refine Nat.dvd_antisymm (Nat.dvd_gcd ?_ ?_) (Nat.dvd_gcd ?_ ?_)
  · rw [f3]; exact Nat.dvd_add (Nat.dvd_mul_left_of_dvd (Nat.gcd_dvd_left _ _) _) (Nat.dvd_mul_left_of_dvd (Nat.gcd_dvd_right _ _) _)
  · rw [f4]; exact Nat.dvd_add (Nat.dvd_mul_left_of_dvd (Nat.gcd_dvd_left _ _) _) (Nat.dvd_mul_left_of_dvd (Nat.gcd_dvd_right _ _) _)
  · refine (Nat.dvd_add_right (Nat.dvd_mul_left_of_dvd (Nat.gcd_dvd_right x y) v0)).1 ?_
    rw [← f1]; exact Nat.dvd_mul_left_of_dvd (Nat.gcd_dvd_left _ _) _
  · refine (Nat.dvd_add_right (Nat.dvd_mul_left_of_dvd (Nat.gcd_dvd_left x y) u1)).1 ?_
    rw [← f2]; exact Nat.dvd_mul_left_of_dvd (Nat.gcd_dvd_right _ _) _

theorem gcd_neg {x y X Y u0 u1 v0 v1 : Nat} (f1 : v0 * y = u0 * x + X) (f2 : u1 * x = v1 * y + Y) (f3 : x = v1 * X + v0 * Y) (f4 : y = u1 * X + u0 * Y) : Nat.gcd X Y = Nat.gcd x y := by
  refine Nat.dvd_antisymm (Nat.dvd_gcd ?_ ?_) (Nat.dvd_gcd ?_ ?_)
  · rw [f3]; exact Nat.dvd_add (Nat.dvd_mul_left_of_dvd (Nat.gcd_dvd_left _ _) _) (Nat.dvd_mul_left_of_dvd (Nat.gcd_dvd_right _ _) _)
  · rw [f4]; exact Nat.dvd_add (Nat.dvd_mul_left_of_dvd (Nat.gcd_dvd_left _ _) _) (Nat.dvd_mul_left_of_dvd (Nat.gcd_dvd_right _ _) _)
  · refine (Nat.dvd_add_right (Nat.dvd_mul_left_of_dvd (Nat.gcd_dvd_left x y) u0)).1 ?_
    rw [← f1]; exact Nat.dvd_mul_left_of_dvd (Nat.gcd_dvd_right _ _) _
  · refine (Nat.dvd_add_right (Nat.dvd_mul_left_of_dvd (Nat.gcd_dvd_right x y) v1)).1 ?_
    rw [← f2]; exact Nat.dvd_mul_left_of_dvd (Nat.gcd_dvd_left _ _) _

/-- How great the cofactors are. -/
theorem Coll.small {A B a b u1 u2 v1 v2 : Nat} {ev : Bool} (h : Coll A B a b u1 u2 v1 v2 ev) (hc1 : v2 ≤ b) (hA : A < 18446744073709551616) : v2 < 4294967296 := by
  have h1 : v2 * v2 ≤ v2 * a := Nat.mul_le_mul_left _ (Nat.le_trans hc1 h.le)
  have h2 := h.hA
  have h3 : v2 * v2 < 4294967296 * 4294967296 := by omega
  by_cases g : v2 < 4294967296
  · exact g
  · have := Nat.mul_le_mul (show 4294967296 ≤ v2 by omega) (show 4294967296 ≤ v2 by omega)
    omega
theorem Coll.sum {A B a b u1 u2 v1 v2 : Nat} {ev : Bool} (h : Coll A B a b u1 u2 v1 v2 ev) (hb : 0 < b) : v1 + v2 ≤ A := by
  have h1 : v2 * 1 ≤ v2 * a := Nat.mul_le_mul_left _ (Nat.le_trans hb h.le)
  have h2 : v1 * 1 ≤ v1 * b := Nat.mul_le_mul_left _ hb
  have h3 := h.hA
  omega

end Go.Proofs.YtjfacmeeplalkaaDoor

/-
  What nat.lessTimes answers: a multiple less another one.
-/
namespace Go.Proofs.YtjfacmeeplalkaaDoor
open Go.RowKit

theorem less_step (B : Nat) (h fa fb : Nat → Int) (n i : Nat) (u v U D c t : Int) (hi : i < n) (hz : h i = 0) (ht : t = (U + u * fa i) % B - (D + v * fb i) % B - c)
    (hv : val B h n + (U - D - c) * (B : Int) ^ i = u * val B fa i - v * val B fb i) :
    val B (put h i (t % B)) n + ((U + u * fa i) / B - (D + v * fb i) / B - (0 - t / B)) * (B : Int) ^ (i + 1) = u * val B fa (i + 1) - v * val B fb (i + 1) := by
  have e1 : (B : Int) ^ (i + 1) = (B : Int) ^ i * B := Int.pow_succ _ _
  have d1 := Int.mul_ediv_add_emod (U + u * fa i) B
  have d2 := Int.mul_ediv_add_emod (D + v * fb i) B
  have d3 := Int.mul_ediv_add_emod t B
  rw [val_put B h n i _ hi, hz, e1]
  simp only [val]
  generalize (U + u * fa i) / (B : Int) = qU at *
  generalize (D + v * fb i) / (B : Int) = qD at *
  generalize (U + u * fa i) % (B : Int) = rU at *
  generalize (D + v * fb i) % (B : Int) = rD at *
  generalize t / (B : Int) = qt at *
  generalize t % (B : Int) = rt at *
  generalize (B : Int) ^ i = P at *
  grind

theorem less_end (V K X u v A B x y P : Int) (hP : 0 < P) (hV : 0 ≤ V ∧ V < P) (hX : 0 ≤ X ∧ X < P) (h : V + K * P = u * A - v * B) (hx : u * x = v * y + X) (ha : ∃ p, x = A + p * P) (hb : ∃ q, y = B + q * P) : V = X := by
  obtain ⟨p, hp⟩ := ha
  obtain ⟨q, hq⟩ := hb
  have e : X = V + (K + u * p - v * q) * P := by grind
  generalize K + u * p - v * q = M at e
  by_cases h0 : M = 0
  · rw [h0] at e; omega
  · exfalso
    by_cases h1 : 1 ≤ M
    · have := Int.mul_le_mul_of_nonneg_right h1 (Int.le_of_lt hP); omega
    · have h2 : M ≤ -1 := by omega
      have := Int.mul_le_mul_of_nonneg_right h2 (Int.le_of_lt hP); omega

theorem limb_prod (x y : Int) (h0 : 0 ≤ x) (h1 : x < 4294967296) (h2 : 0 ≤ y) (h3 : y < 4294967296) : 0 ≤ x * y ∧ x * y ≤ 18446744065119617025 := by
  refine ⟨Int.mul_nonneg h0 h2, ?_⟩
  have a1 : x * y ≤ 4294967295 * y := Int.mul_le_mul_of_nonneg_right (by omega) h2
  omega

theorem digits_hi (x n : Nat) : ∃ p : Int, (x : Int) = val W32 (dg W32 x) n + p * (W32 : Int) ^ n := by
  refine ⟨((x / W32 ^ n : Nat) : Int), ?_⟩
  rw [val_dg]
  have h := Nat.div_add_mod x (W32 ^ n)
  have e : ((W32 ^ n : Nat) : Int) = (W32 : Int) ^ n := by simp
  rw [← e, ← Int.natCast_mul, ← Int.natCast_add, Nat.mul_comm]
  omega

set_option maxRecDepth 20000 in
set_option maxHeartbeats 1000000 in
theorem lessTimes_a (u v : Nat) (va vb : Value) (x y X : Nat) (w : World) (ha : Rep w va x) (hb : Rep w vb y) (hu : u < 4294967296) (hv : v < 4294967296) (hx : u * x = v * y + X) (hX : X < W32 ^ (nl W32 x)) (hlx : nl W32 x ≤ 1000000) (hly : nl W32 y ≤ 1000000) (hle : nl W32 x ≤ nl W32 y) :
    Calls Tryd.prog 60 #[.int .u64 (u : Int), va, .int .u64 (v : Int), vb] w fun e w' => ∃ r, e = .returned r ∧ RepM w.heap.size w' r X ∧ Below w.heap.size w w' := by
  obtain ⟨i0, hi, hz0, hz1, hz2⟩ := info_parts info_u64
  obtain ⟨ao, c, rfl, _, hl, h4⟩ := ha
  obtain ⟨bo, d, rfl, _, kl, k4⟩ := hb
  generalize nl W32 x = la at *
  generalize nl W32 y = lb at *
  have hn1 : la ≤ la := by omega
  have hn2 : la ≤ lb := by omega
  have hmi : (la : Int) ≤ (lb : Int) := by omega
  have hmj : ¬ (lb : Int) < (la : Int) := by omega
  have HX : Hid (X < W32 ^ la) := hX
  have HXX : Hid (u * x = v * y + X) := hx
  have hfa : ∀ i, 0 ≤ dg W32 x i ∧ dg W32 x i < 4294967296 := fun i => dg_bounds W32 x i (by decide)
  have hfb : ∀ i, 0 ≤ dg W32 y i ∧ dg W32 y i < 4294967296 := fun i => dg_bounds W32 y i (by decide)
  have HA : Hid (∃ p : Int, (x : Int) = val W32 (dg W32 x) la + p * (W32 : Int) ^ la) := digits_hi x _
  have HB : Hid (∃ p : Int, (y : Int) = val W32 (dg W32 y) la + p * (W32 : Int) ^ la) := digits_hi y _
  generalize dg W32 x = fa at *
  generalize dg W32 y = fb at *
  have H4 := show Hid (0 < la → ∃ b off, ao = some ⟨b, off, none⟩ ∧ Cells w .u64 b off la fa) from h4
  have K4 := show Hid (0 < lb → ∃ b off, bo = some ⟨b, off, none⟩ ∧ Cells w .u64 b off lb fb) from k4
  have hnm : la ≤ maxLen := by unfold maxLen; omega
  have hna : i0.bytes * la ≤ 281474976710656 := by rw [hz2]; omega
  have hnl : la ≤ LIM := by unfold LIM; omega
  clear h4 k4 hX hx
  go_enter Tryd.func60, Tryd.ntmps60
  go_wp2_with (at_make; refine wpList_make_full _ rfl _ _ 23 rfl _ 59 i0 (.int .u64 0) 1 Tryd.underlying23 hi hz0 hz1 _ _ _ _ la rfl rfl rfl rfl hna hnm (Nat.le_refl _) ?_; intro w1 hown hgrow)
  have hb1 := below_grown hgrow
  obtain ⟨hc1, hs1⟩ := mine_made (k := .u64) (w := w) hown (fun _ => 0) (fun i hi => made_zero .u64 la i hi)
  clear hown hgrow hna hnm
  have hsz1 := hb1.size
  go_loopw [10, 11, 12, 23] (fun vU vD vc vi wr => ∃ (i : Nat) (U D cr : Int) (h : Nat → Int), i ≤ la ∧ vU = .int .u64 U ∧ vD = .int .u64 D ∧ vc = .int .u64 cr ∧ vi = .int .i64 (i : Int) ∧ 0 ≤ U ∧ U < 4294967296 ∧ 0 ≤ D ∧ D < 4294967296 ∧ 0 ≤ cr ∧ cr ≤ 1 ∧ Cells wr .u64 w.heap.size 0 la h ∧ U32 la h ∧ (∀ p, i ≤ p → h p = 0) ∧
      val W32 h la + (U - D - cr) * (W32 : Int) ^ i = (u : Int) * val W32 fa i - (v : Int) * val W32 fb i ∧ Soft wr w.heap.size 0 la ∧ Below w.heap.size w wr) (fun _ _ _ vi _ => la - (intOf vi).toNat)
  case atStart => exact ⟨0, 0, 0, 0, fun _ => 0, Nat.zero_le _, rfl, rfl, rfl, rfl, by omega, by omega, by omega, by omega, by omega, by omega, hc1, fun _ _ => ⟨Int.le_refl _, (by decide : (0 : Int) < (W32 : Int))⟩, fun _ _ => rfl, by rw [val_zero la (fun _ _ => rfl)]; simp [val], hs1, hb1⟩
  case round =>
    clear hc1 hs1 hb1
    obtain ⟨i, U, D, cr, h, hiN, rfl, rfl, rfl, rfl, hU0, hU1, hD0, hD1, hc0, hc1, hch, huh, hz, hval, hsr, hbel⟩ := hrel
    have HV : Hid (val W32 h la + (U - D - cr) * (W32 : Int) ^ i = (u : Int) * val W32 fa i - (v : Int) * val W32 fb i) := hval
    have HZ : Hid (∀ p, i ≤ p → h p = 0) := hz
    clear hval hz
    by_cases hlt : i < la
    · obtain ⟨b1, o1, rfl, hca0⟩ := H4.out (by omega)
      obtain ⟨b2, o2, rfl, hcb0⟩ := K4.out (by omega)
      have hca : wr.cell? ⟨b1, o1 + i, none⟩ = some (.int .u64 (fa i)) := (hca0.below hbel (hca0.lt (by omega))) i (by omega)
      have hcb : wr.cell? ⟨b2, o2 + i, none⟩ = some (.int .u64 (fb i)) := (hcb0.below hbel (hcb0.lt (by omega))) i (by omega)
      have hcell : wr.cell? ⟨w.heap.size, i, none⟩ = some (.int .u64 (h i)) := by have := hch i hlt; rw [Nat.zero_add] at this; exact this
      have hfr : wr.frozen? ⟨w.heap.size, i, none⟩ = false := by have := hsr i hlt; rw [Nat.zero_add] at this; exact this
      have q1 := mul_le_mul32 (u : Int) (fa i) (by omega) (by omega) (hfa i).1 (hfa i).2
      have q2 := mul_le_mul32 (v : Int) (fb i) (by omega) (by omega) (hfb i).1 (hfb i).2
      have hst := less_step W32 h fa fb la i (u : Int) (v : Int) U D cr _ hlt (HZ.out i (Nat.le_refl _)) rfl HV.out
      have HST : Hid (val W32 (put h i (((U + (u : Int) * fa i) % W32 - (D + (v : Int) * fb i) % W32 - cr) % W32)) la + ((U + (u : Int) * fa i) / W32 - (D + (v : Int) * fb i) / W32 - (0 - ((U + (u : Int) * fa i) % W32 - (D + (v : Int) * fb i) % W32 - cr) / W32)) * (W32 : Int) ^ (i + 1) = (u : Int) * val W32 fa (i + 1) - (v : Int) * val W32 fb (i + 1)) := hst
      clear hst HV hca0 hcb0
      have hi0 : (0 : Int) ≤ (i : Int) := by omega
      generalize hP1 : (u : Int) * fa i = P1 at *
      generalize hP2 : (v : Int) * fb i = P2 at *
      have m1 := and_mask (U + P1) (by omega) (by omega)
      have m2 := and_mask (D + P2) (by omega) (by omega)
      obtain ⟨hm, hq⟩ := wrap_diff ((U + P1) % 4294967296) ((D + P2) % 4294967296) cr (by omega) (by omega) (by omega) (by omega) hc0 hc1
      have hW : (W32 : Int) = 4294967296 := rfl
      rw [hW] at HST
      clear hW
      go_wp2
      go_roundw
      case rel =>
        refine ⟨i + 1, (U + P1) / 4294967296, (D + P2) / 4294967296, 0 - ((U + P1) % 4294967296 - (D + P2) % 4294967296 - cr) / 4294967296, put h i (((U + P1) % 4294967296 - (D + P2) % 4294967296 - cr) % 4294967296), by omega, rfl, rfl, by simp, by go_num, by omega, by omega, by omega, by omega, by omega, by omega, ?_, put_bounds huh (by omega) (by unfold W32; omega), ?_, HST.out, ?_, ?_⟩
        · have := hch.set i hlt (((U + P1) % 4294967296 - (D + P2) % 4294967296 - cr) % 4294967296); rw [Nat.zero_add] at this; exact this
        · intro p hp; rw [put_other _ _ _ _ (by omega)]; exact HZ.out p (by omega)
        · exact hsr.set _ _
        · exact hbel.setCell (by simp) _
      case measure => simp [intOf]; omega
    · have hiN' : i = la := by omega
      subst hiN'
      have hP := powB_pos W32 (by decide) i
      have hVb := val_bounds W32 h i (fun j hj => huh j hj)
      have hXi : (0 : Int) ≤ (X : Int) ∧ (X : Int) < (W32 : Int) ^ i := by
        have e : ((W32 ^ i : Nat) : Int) = (W32 : Int) ^ i := by simp
        have := HX.out
        omega
      have hxi : (u : Int) * (x : Int) = (v : Int) * (y : Int) + (X : Int) := by
        have := HXX.out
        rw [← Int.natCast_mul, ← Int.natCast_mul, ← Int.natCast_add, this]
      have hfin : val W32 h i = (X : Int) := less_end _ _ _ _ _ _ _ _ _ _ hP hVb hXi HV.out hxi HA.out HB.out
      have hMine : Mine .u64 w.heap.size wr (.slice (some ⟨w.heap.size, 0, none⟩) i i) i h := ⟨_, _, rfl, Nat.le_refl _, hnl, fun _ => ⟨_, _, rfl, hch, hsr, Nat.le_refl _⟩⟩
      have HF : Hid (val W32 h i = (X : Int)) := hfin
      clear hfin hxi hXi hVb hP HV HZ HX HXX HA HB
      go_wp2_with (go_at_call 62; refine (cut_mine _ _ _ _ _ X hMine huh HF.out).mono ?_; rintro e w3 ⟨r, rfl, hr, rfl⟩)
      go_ret
      exact ⟨_, rfl, hr, hbel⟩

set_option maxRecDepth 20000 in
set_option maxHeartbeats 1000000 in
theorem lessTimes_b (u v : Nat) (va vb : Value) (x y X : Nat) (w : World) (ha : Rep w va x) (hb : Rep w vb y) (hu : u < 4294967296) (hv : v < 4294967296) (hx : u * x = v * y + X) (hX : X < W32 ^ (nl W32 y)) (hlx : nl W32 x ≤ 1000000) (hly : nl W32 y ≤ 1000000) (hle : nl W32 y < nl W32 x) :
    Calls Tryd.prog 60 #[.int .u64 (u : Int), va, .int .u64 (v : Int), vb] w fun e w' => ∃ r, e = .returned r ∧ RepM w.heap.size w' r X ∧ Below w.heap.size w w' := by
  obtain ⟨i0, hi, hz0, hz1, hz2⟩ := info_parts info_u64
  obtain ⟨ao, c, rfl, _, hl, h4⟩ := ha
  obtain ⟨bo, d, rfl, _, kl, k4⟩ := hb
  generalize nl W32 x = la at *
  generalize nl W32 y = lb at *
  have hn1 : lb ≤ la := by omega
  have hn2 : lb ≤ lb := by omega
  have hmi : (lb : Int) < (la : Int) := by omega
  have hmj : ¬ (la : Int) ≤ (lb : Int) := by omega
  have HX : Hid (X < W32 ^ lb) := hX
  have HXX : Hid (u * x = v * y + X) := hx
  have hfa : ∀ i, 0 ≤ dg W32 x i ∧ dg W32 x i < 4294967296 := fun i => dg_bounds W32 x i (by decide)
  have hfb : ∀ i, 0 ≤ dg W32 y i ∧ dg W32 y i < 4294967296 := fun i => dg_bounds W32 y i (by decide)
  have HA : Hid (∃ p : Int, (x : Int) = val W32 (dg W32 x) lb + p * (W32 : Int) ^ lb) := digits_hi x _
  have HB : Hid (∃ p : Int, (y : Int) = val W32 (dg W32 y) lb + p * (W32 : Int) ^ lb) := digits_hi y _
  generalize dg W32 x = fa at *
  generalize dg W32 y = fb at *
  have H4 := show Hid (0 < la → ∃ b off, ao = some ⟨b, off, none⟩ ∧ Cells w .u64 b off la fa) from h4
  have K4 := show Hid (0 < lb → ∃ b off, bo = some ⟨b, off, none⟩ ∧ Cells w .u64 b off lb fb) from k4
  have hnm : lb ≤ maxLen := by unfold maxLen; omega
  have hna : i0.bytes * lb ≤ 281474976710656 := by rw [hz2]; omega
  have hnl : lb ≤ LIM := by unfold LIM; omega
  clear h4 k4 hX hx
  go_enter Tryd.func60, Tryd.ntmps60
  go_wp2_with (at_make; refine wpList_make_full _ rfl _ _ 23 rfl _ 59 i0 (.int .u64 0) 1 Tryd.underlying23 hi hz0 hz1 _ _ _ _ lb rfl rfl rfl rfl hna hnm (Nat.le_refl _) ?_; intro w1 hown hgrow)
  have hb1 := below_grown hgrow
  obtain ⟨hc1, hs1⟩ := mine_made (k := .u64) (w := w) hown (fun _ => 0) (fun i hi => made_zero .u64 lb i hi)
  clear hown hgrow hna hnm
  have hsz1 := hb1.size
  go_loopw [10, 11, 12, 23] (fun vU vD vc vi wr => ∃ (i : Nat) (U D cr : Int) (h : Nat → Int), i ≤ lb ∧ vU = .int .u64 U ∧ vD = .int .u64 D ∧ vc = .int .u64 cr ∧ vi = .int .i64 (i : Int) ∧ 0 ≤ U ∧ U < 4294967296 ∧ 0 ≤ D ∧ D < 4294967296 ∧ 0 ≤ cr ∧ cr ≤ 1 ∧ Cells wr .u64 w.heap.size 0 lb h ∧ U32 lb h ∧ (∀ p, i ≤ p → h p = 0) ∧
      val W32 h lb + (U - D - cr) * (W32 : Int) ^ i = (u : Int) * val W32 fa i - (v : Int) * val W32 fb i ∧ Soft wr w.heap.size 0 lb ∧ Below w.heap.size w wr) (fun _ _ _ vi _ => lb - (intOf vi).toNat)
  case atStart => exact ⟨0, 0, 0, 0, fun _ => 0, Nat.zero_le _, rfl, rfl, rfl, rfl, by omega, by omega, by omega, by omega, by omega, by omega, hc1, fun _ _ => ⟨Int.le_refl _, (by decide : (0 : Int) < (W32 : Int))⟩, fun _ _ => rfl, by rw [val_zero lb (fun _ _ => rfl)]; simp [val], hs1, hb1⟩
  case round =>
    clear hc1 hs1 hb1
    obtain ⟨i, U, D, cr, h, hiN, rfl, rfl, rfl, rfl, hU0, hU1, hD0, hD1, hc0, hc1, hch, huh, hz, hval, hsr, hbel⟩ := hrel
    have HV : Hid (val W32 h lb + (U - D - cr) * (W32 : Int) ^ i = (u : Int) * val W32 fa i - (v : Int) * val W32 fb i) := hval
    have HZ : Hid (∀ p, i ≤ p → h p = 0) := hz
    clear hval hz
    by_cases hlt : i < lb
    · obtain ⟨b1, o1, rfl, hca0⟩ := H4.out (by omega)
      obtain ⟨b2, o2, rfl, hcb0⟩ := K4.out (by omega)
      have hca : wr.cell? ⟨b1, o1 + i, none⟩ = some (.int .u64 (fa i)) := (hca0.below hbel (hca0.lt (by omega))) i (by omega)
      have hcb : wr.cell? ⟨b2, o2 + i, none⟩ = some (.int .u64 (fb i)) := (hcb0.below hbel (hcb0.lt (by omega))) i (by omega)
      have hcell : wr.cell? ⟨w.heap.size, i, none⟩ = some (.int .u64 (h i)) := by have := hch i hlt; rw [Nat.zero_add] at this; exact this
      have hfr : wr.frozen? ⟨w.heap.size, i, none⟩ = false := by have := hsr i hlt; rw [Nat.zero_add] at this; exact this
      have q1 := mul_le_mul32 (u : Int) (fa i) (by omega) (by omega) (hfa i).1 (hfa i).2
      have q2 := mul_le_mul32 (v : Int) (fb i) (by omega) (by omega) (hfb i).1 (hfb i).2
      have hst := less_step W32 h fa fb lb i (u : Int) (v : Int) U D cr _ hlt (HZ.out i (Nat.le_refl _)) rfl HV.out
      have HST : Hid (val W32 (put h i (((U + (u : Int) * fa i) % W32 - (D + (v : Int) * fb i) % W32 - cr) % W32)) lb + ((U + (u : Int) * fa i) / W32 - (D + (v : Int) * fb i) / W32 - (0 - ((U + (u : Int) * fa i) % W32 - (D + (v : Int) * fb i) % W32 - cr) / W32)) * (W32 : Int) ^ (i + 1) = (u : Int) * val W32 fa (i + 1) - (v : Int) * val W32 fb (i + 1)) := hst
      clear hst HV hca0 hcb0
      have hi0 : (0 : Int) ≤ (i : Int) := by omega
      generalize hP1 : (u : Int) * fa i = P1 at *
      generalize hP2 : (v : Int) * fb i = P2 at *
      have m1 := and_mask (U + P1) (by omega) (by omega)
      have m2 := and_mask (D + P2) (by omega) (by omega)
      obtain ⟨hm, hq⟩ := wrap_diff ((U + P1) % 4294967296) ((D + P2) % 4294967296) cr (by omega) (by omega) (by omega) (by omega) hc0 hc1
      have hW : (W32 : Int) = 4294967296 := rfl
      rw [hW] at HST
      clear hW
      go_wp2
      go_roundw
      case rel =>
        refine ⟨i + 1, (U + P1) / 4294967296, (D + P2) / 4294967296, 0 - ((U + P1) % 4294967296 - (D + P2) % 4294967296 - cr) / 4294967296, put h i (((U + P1) % 4294967296 - (D + P2) % 4294967296 - cr) % 4294967296), by omega, rfl, rfl, by simp, by go_num, by omega, by omega, by omega, by omega, by omega, by omega, ?_, put_bounds huh (by omega) (by unfold W32; omega), ?_, HST.out, ?_, ?_⟩
        · have := hch.set i hlt (((U + P1) % 4294967296 - (D + P2) % 4294967296 - cr) % 4294967296); rw [Nat.zero_add] at this; exact this
        · intro p hp; rw [put_other _ _ _ _ (by omega)]; exact HZ.out p (by omega)
        · exact hsr.set _ _
        · exact hbel.setCell (by simp) _
      case measure => simp [intOf]; omega
    · have hiN' : i = lb := by omega
      subst hiN'
      have hP := powB_pos W32 (by decide) i
      have hVb := val_bounds W32 h i (fun j hj => huh j hj)
      have hXi : (0 : Int) ≤ (X : Int) ∧ (X : Int) < (W32 : Int) ^ i := by
        have e : ((W32 ^ i : Nat) : Int) = (W32 : Int) ^ i := by simp
        have := HX.out
        omega
      have hxi : (u : Int) * (x : Int) = (v : Int) * (y : Int) + (X : Int) := by
        have := HXX.out
        rw [← Int.natCast_mul, ← Int.natCast_mul, ← Int.natCast_add, this]
      have hfin : val W32 h i = (X : Int) := less_end _ _ _ _ _ _ _ _ _ _ hP hVb hXi HV.out hxi HA.out HB.out
      have hMine : Mine .u64 w.heap.size wr (.slice (some ⟨w.heap.size, 0, none⟩) i i) i h := ⟨_, _, rfl, Nat.le_refl _, hnl, fun _ => ⟨_, _, rfl, hch, hsr, Nat.le_refl _⟩⟩
      have HF : Hid (val W32 h i = (X : Int)) := hfin
      clear hfin hxi hXi hVb hP HV HZ HX HXX HA HB
      go_wp2_with (go_at_call 62; refine (cut_mine _ _ _ _ _ X hMine huh HF.out).mono ?_; rintro e w3 ⟨r, rfl, hr, rfl⟩)
      go_ret
      exact ⟨_, rfl, hr, hbel⟩

theorem lessTimes_any (u v : Nat) (va vb : Value) (x y X : Nat) (w : World) (ha : Rep w va x) (hb : Rep w vb y) (hu : u < 4294967296) (hv : v < 4294967296) (hx : u * x = v * y + X) (hXx : X ≤ x) (hXy : X ≤ y) (hlx : nl W32 x ≤ 1000000) (hly : nl W32 y ≤ 1000000) :
    Calls Tryd.prog 60 #[.int .u64 (u : Int), va, .int .u64 (v : Int), vb] w fun e w' => ∃ r, e = .returned r ∧ RepM w.heap.size w' r X ∧ Below w.heap.size w w' := by
  have h1 := lt_pow_nl W32 x (by decide)
  have h2 := lt_pow_nl W32 y (by decide)
  by_cases h : nl W32 x ≤ nl W32 y
  · exact lessTimes_a u v va vb x y X w ha hb hu hv hx (by omega) hlx hly h
  · exact lessTimes_b u v va vb x y X w ha hb hu hv hx (by omega) hlx hly (by omega)

end Go.Proofs.YtjfacmeeplalkaaDoor

/-
  What nat.sureSteps answers.
-/
namespace Go.Proofs.YtjfacmeeplalkaaDoor
open Go.RowKit

/-- Five cells of a block, none frozen. -/
def St (w : World) (g : Nat) (f : Nat → Value) : Prop := ∀ i, i < 5 → w.cell? ⟨g, i, none⟩ = some (f i) ∧ w.frozen? ⟨g, i, none⟩ = false
theorem St.set {w : World} {g : Nat} {f : Nat → Value} (h : St w g f) (j : Nat) (v : Value) : St (w.setCell ⟨g, j, none⟩ v) g (fun i => if i = j then v else f i) := by
  intro i hi
  obtain ⟨h1, h2⟩ := h i hi
  refine ⟨?_, by simp [h2]⟩
  by_cases e : i = j
  · subst e
    show _ = some (if i = i then v else f i)
    rw [if_pos rfl]; exact World.cell?_setCell_same _ _ _ h1
  · show _ = some (if i = j then v else f i)
    rw [if_neg e, World.cell?_setCell_other _ _ _ _ (fun e' => by injection e'; omega)]; exact h1
theorem St.other {w : World} {g g' : Nat} {f : Nat → Value} (h : St w g f) (j : Nat) (v : Value) (hne : g ≠ g') : St (w.setCell ⟨g', j, none⟩ v) g f := by
  intro i hi
  obtain ⟨h1, h2⟩ := h i hi
  refine ⟨?_, by simp [h2]⟩
  rw [World.cell?_setCell_other _ _ _ _ (fun e' => by injection e'; omega)]; exact h1
theorem St.congr {w : World} {g : Nat} {f f' : Nat → Value} (h : St w g f) (e : ∀ i, i < 5 → f i = f' i) : St w g f' := fun i hi => by rw [← e i hi]; exact h i hi

/-- A step's five fields. -/
def fields (u0 u1 v0 v1 : Nat) (ev : Bool) : Nat → Value := fun i => if i = 0 then .int .u64 (u0 : Int) else if i = 1 then .int .u64 (u1 : Int) else if i = 2 then .int .u64 (v0 : Int) else if i = 3 then .int .u64 (v1 : Int) else .bool ev

/-- What the steps are sure of. -/
def Sure (A B u0 u1 v0 v1 : Nat) (ev : Bool) : Prop := v0 = 0 ∨ (1 ≤ v0 ∧ ∃ a b, Coll A B a b u0 u1 v0 v1 (!ev) ∧ v1 ≤ b ∧ v0 + v1 ≤ a - b)

/-- What sureSteps answers. -/
def SureOut (A B : Nat) (e : Ending) : Prop := ∃ (u0 u1 v0 v1 : Nat) (ev : Bool), e = .returned (.agg #[.int .u64 (u0 : Int), .int .u64 (u1 : Int), .int .u64 (v0 : Int), .int .u64 (v1 : Int), .bool ev]) ∧ Sure A B u0 u1 v0 v1 ev

theorem st_new (w : World) (u0 u1 v0 v1 : Nat) (ev : Bool) (t : TypeId) : St (w.alloc (.cells #[.int .u64 (u0 : Int), .int .u64 (u1 : Int), .int .u64 (v0 : Int), .int .u64 (v1 : Int), .bool ev] t)) w.heap.size (fields u0 u1 v0 v1 ev) := by
  intro i hi
  have : i = 0 ∨ i = 1 ∨ i = 2 ∨ i = 3 ∨ i = 4 := by omega
  rcases this with e | e | e | e | e <;> subst e <;> refine ⟨?_, ?_⟩ <;> simp [fields]

set_option maxRecDepth 20000 in
set_option maxHeartbeats 1000000 in
theorem sureSteps_any (A B : Nat) (w : World) (hA : A < 18446744073709551616) (hBA : B ≤ A) :
    Calls Tryd.prog 58 #[.int .u64 (A : Int), .int .u64 (B : Int)] w fun e w' => SureOut A B e ∧ Below w.heap.size w w' := by
  have hz : St (w.alloc (.cells #[.int .u64 0, .int .u64 0, .int .u64 0, .int .u64 0, .bool false] 82)) w.heap.size (fields 0 0 0 0 false) := st_new w 0 0 0 0 false 82
  have hs : St ((w.alloc (.cells #[.int .u64 0, .int .u64 0, .int .u64 0, .int .u64 0, .bool false] 82)).alloc (.cells #[.int .u64 0, .int .u64 1, .int .u64 0, .int .u64 0, .bool false] 82)) (w.heap.size + 1) (fields 0 1 0 0 false) := by
    have h := st_new (w.alloc (.cells #[.int .u64 0, .int .u64 0, .int .u64 0, .int .u64 0, .bool false] 82)) 0 1 0 0 false 82
    simpa using h
  have hz2 : St ((w.alloc (.cells #[.int .u64 0, .int .u64 0, .int .u64 0, .int .u64 0, .bool false] 82)).alloc (.cells #[.int .u64 0, .int .u64 1, .int .u64 0, .int .u64 0, .bool false] 82)) w.heap.size (fields 0 0 0 0 false) := fun i hi =>
    ⟨((Below.refl (w.heap.size + 1) _).alloc (by simp) _).cell (by simp) |>.trans (hz i hi).1, ((Below.refl (w.heap.size + 1) _).alloc (by simp) _).frozen (by simp) |>.trans (hz i hi).2⟩
  have hb0 : Below w.heap.size w ((w.alloc (.cells #[.int .u64 0, .int .u64 0, .int .u64 0, .int .u64 0, .bool false] 82)).alloc (.cells #[.int .u64 0, .int .u64 1, .int .u64 0, .int .u64 0, .bool false] 82)) := ((Below.refl _ _).alloc (Nat.le_refl _) _).alloc (by simp) _
  go_enter Tryd.func58, Tryd.ntmps58
  go_wp2
  go_loopw [0, 1, 6, 7] (fun va vb vu vv wr => ∃ (a b u0 u1 u2 v0 v1 v2 : Nat) (ev : Bool), va = .int .u64 (a : Int) ∧ vb = .int .u64 (b : Int) ∧ vu = .int .u64 (u2 : Int) ∧ vv = .int .u64 (v2 : Int) ∧ Coll A B a b u1 u2 v1 v2 ev ∧ Sure A B u0 u1 v0 v1 ev ∧ St wr (w.heap.size + 1) (fields u0 u1 v0 v1 ev) ∧ St wr w.heap.size (fields 0 0 0 0 false) ∧ Below w.heap.size w wr) (fun _ vb _ _ _ => (intOf vb).toNat)
  case atStart => exact ⟨A, B, 0, 1, 0, 0, 0, 1, false, rfl, rfl, rfl, rfl, Coll.start A B hBA, .inl rfl, hs, hz2, hb0⟩
  case round =>
    clear hz hs hz2 hb0
    obtain ⟨a, b, u0, u1, u2, v0, v1, v2, ev, rfl, rfl, rfl, rfl, hC, hS, hst, hst0, hbel⟩ := hrel
    have c0 : wr.cell? ⟨w.heap.size + 1, 0, none⟩ = some (.int .u64 (u0 : Int)) := (hst 0 (by omega)).1
    have c1 : wr.cell? ⟨w.heap.size + 1, 1, none⟩ = some (.int .u64 (u1 : Int)) := (hst 1 (by omega)).1
    have c2 : wr.cell? ⟨w.heap.size + 1, 2, none⟩ = some (.int .u64 (v0 : Int)) := (hst 2 (by omega)).1
    have c3 : wr.cell? ⟨w.heap.size + 1, 3, none⟩ = some (.int .u64 (v1 : Int)) := (hst 3 (by omega)).1
    have c4 : wr.cell? ⟨w.heap.size + 1, 4, none⟩ = some (.bool ev) := (hst 4 (by omega)).1
    have f0 : wr.frozen? ⟨w.heap.size + 1, 0, none⟩ = false := (hst 0 (by omega)).2
    have f1 : wr.frozen? ⟨w.heap.size + 1, 1, none⟩ = false := (hst 1 (by omega)).2
    have f2 : wr.frozen? ⟨w.heap.size + 1, 2, none⟩ = false := (hst 2 (by omega)).2
    have f3 : wr.frozen? ⟨w.heap.size + 1, 3, none⟩ = false := (hst 3 (by omega)).2
    have f4 : wr.frozen? ⟨w.heap.size + 1, 4, none⟩ = false := (hst 4 (by omega)).2
    have z0 : wr.cell? ⟨w.heap.size, 0, none⟩ = some (.int .u64 0) := (hst0 0 (by omega)).1
    have z1 : wr.cell? ⟨w.heap.size, 1, none⟩ = some (.int .u64 0) := (hst0 1 (by omega)).1
    have z2 : wr.cell? ⟨w.heap.size, 2, none⟩ = some (.int .u64 0) := (hst0 2 (by omega)).1
    have z3 : wr.cell? ⟨w.heap.size, 3, none⟩ = some (.int .u64 0) := (hst0 3 (by omega)).1
    have z4 : wr.cell? ⟨w.heap.size, 4, none⟩ = some (.bool false) := (hst0 4 (by omega)).1
    have y0 : wr.frozen? ⟨w.heap.size, 0, none⟩ = false := (hst0 0 (by omega)).2
    have y1 : wr.frozen? ⟨w.heap.size, 1, none⟩ = false := (hst0 1 (by omega)).2
    have y2 : wr.frozen? ⟨w.heap.size, 2, none⟩ = false := (hst0 2 (by omega)).2
    have y3 : wr.frozen? ⟨w.heap.size, 3, none⟩ = false := (hst0 3 (by omega)).2
    have y4 : wr.frozen? ⟨w.heap.size, 4, none⟩ = false := (hst0 4 (by omega)).2
    have hle := hC.le
    have h1v := hC.one
    have haA : a ≤ A := by
      have h1 := hC.hA
      have h2 : 1 * a ≤ v2 * a := Nat.mul_le_mul_right _ h1v
      omega
    by_cases hbv : v2 ≤ b
    · have hsum := hC.sum (by omega)
      have j1 : (v2 : Int) ≤ (b : Int) := by omega
      by_cases hab : v1 + v2 ≤ a - b
      · have j2 : (v1 : Int) + (v2 : Int) ≤ (a : Int) - (b : Int) := by omega
        have hN := hC.step (show 0 < b by omega)
        have hNA := hN.hA
        have hNuv := hN.uv
        have hdm := Nat.div_add_mod a b
        have hmod := Nat.mod_lt a (show 0 < b by omega)
        have hqi : (a : Int) / (b : Int) = ((a / b : Nat) : Int) := by simp
        have hv2A : v1 + a / b * v2 ≤ A := by
          have h2 : (v1 + a / b * v2) * 1 ≤ (v1 + a / b * v2) * b := Nat.mul_le_mul_left _ (by omega)
          omega
        have hq1 : a / b ≤ a := Nat.div_le_self _ _
        generalize a / b = q at *
        generalize a % b = r at *
        obtain ⟨QB, hQB⟩ : ∃ QB, QB = b * q := ⟨_, rfl⟩
        obtain ⟨QU, hQU⟩ : ∃ QU, QU = q * u2 := ⟨_, rfl⟩
        obtain ⟨QV, hQV⟩ : ∃ QV, QV = q * v2 := ⟨_, rfl⟩
        have p1 : (q : Int) * (b : Int) = (QB : Int) := by rw [hQB, Nat.mul_comm]; simp
        have p2 : (q : Int) * (u2 : Int) = (QU : Int) := by rw [hQU]; simp
        have p3 : (q : Int) * (v2 : Int) = (QV : Int) := by rw [hQV]; simp
        rw [← hQB] at hdm
        rw [← hQV] at hv2A hNuv hN
        rw [← hQU] at hNuv hN
        have hr : (a : Int) - (QB : Int) = (r : Int) := by omega
        have HN : Hid (Coll A B b r u2 (u1 + QU) v2 (v1 + QV) (!ev)) := hN
        have HS : Hid (Sure A B u1 u2 v1 v2 (!ev)) := by
          rcases Nat.eq_zero_or_pos v1 with e | e
          · exact .inl e
          · exact .inr ⟨e, a, b, by rw [Bool.not_not]; exact hC, hbv, hab⟩
        clear hQB hQU hQV hN hNA hS hC
        go_wp2
        go_roundw
        case rel =>
          refine ⟨b, r, u1, u2, u1 + QU, v1, v2, v1 + QV, !ev, rfl, rfl, by simp, by simp, HN.out, HS.out, ?_, ?_, ?_⟩
          · refine (((((hst.set 0 _).set 1 _).set 2 _).set 3 _).set 4 _).congr (fun i hi => ?_)
            have : i = 0 ∨ i = 1 ∨ i = 2 ∨ i = 3 ∨ i = 4 := by omega
            rcases this with e | e | e | e | e <;> subst e <;> simp [fields]
          · exact ((((hst0.other 0 _ (by omega)).other 1 _ (by omega)).other 2 _ (by omega)).other 3 _ (by omega)).other 4 _ (by omega)
          · exact ((((hbel.setCell (by simp) _).setCell (by simp) _).setCell (by simp) _).setCell (by simp) _).setCell (by simp) _
        case measure => simp [intOf]; omega
      · have j2 : ¬ (v1 : Int) + (v2 : Int) ≤ (a : Int) - (b : Int) := by omega
        have HS : Hid (Sure A B u0 u1 v0 v1 ev) := hS
        clear hS hC
        go_wp2
        (try simp only [Exit.inBlock, Exit.then])
        refine bodyPost_ret (v := .agg #[.int .u64 (u0 : Int), .int .u64 (u1 : Int), .int .u64 (v0 : Int), .int .u64 (v1 : Int), .bool ev]) (by simp [results, go_sem, z0, z1, z2, z3, z4]) rfl ?_
        refine ⟨⟨u0, u1, v0, v1, ev, rfl, HS.out⟩, ?_⟩
        exact ((((hbel.setCell (by simp) _).setCell (by simp) _).setCell (by simp) _).setCell (by simp) _).setCell (by simp) _
    · have j1 : ¬ (v2 : Int) ≤ (b : Int) := by omega
      have HS : Hid (Sure A B u0 u1 v0 v1 ev) := hS
      clear hS hC
      go_wp2
      (try simp only [Exit.inBlock, Exit.then])
      refine bodyPost_ret (v := .agg #[.int .u64 (u0 : Int), .int .u64 (u1 : Int), .int .u64 (v0 : Int), .int .u64 (v1 : Int), .bool ev]) (by simp [results, go_sem, z0, z1, z2, z3, z4]) rfl ?_
      refine ⟨⟨u0, u1, v0, v1, ev, rfl, HS.out⟩, ?_⟩
      exact ((((hbel.setCell (by simp) _).setCell (by simp) _).setCell (by simp) _).setCell (by simp) _).setCell (by simp) _

end Go.Proofs.YtjfacmeeplalkaaDoor

/-
  What nat.head answers: 64 bits of a number.
-/
namespace Go.Proofs.YtjfacmeeplalkaaDoor
open Go.RowKit
set_option linter.unusedVariables false
set_option linter.unusedSimpArgs false

theorem head_alg (H L Q P : Nat) (hP : 0 < P) : (H * (Q * P) + L) / P = H * Q + L / P := by
  rw [← Nat.mul_assoc, Nat.add_comm, Nat.add_mul_div_right _ _ hP, Nat.add_comm]
theorem head_num (y m z : Nat) (hz : z ≤ 31) (hy : y < W32 ^ (m + 3)) :
    y / 2 ^ (32 * (m + 1) - z) = ((y / W32 ^ (m + 2) % W32) * 4294967296 + y / W32 ^ (m + 1) % W32) * 2 ^ z + (y / W32 ^ m % W32) / 2 ^ (32 - z) := by
  have hp : 2 ^ (32 * (m + 1) - z) = W32 ^ m * 2 ^ (32 - z) := by
    have : W32 ^ m = 2 ^ (32 * m) := by rw [Nat.pow_mul]
    rw [this, ← Nat.pow_add]; congr 1; omega
  rw [hp, ← Nat.div_div_eq_div_mul]
  have h1 : y / W32 ^ (m + 1) = y / W32 ^ m / W32 := by rw [Nat.pow_succ, Nat.div_div_eq_div_mul]
  have h2 : y / W32 ^ (m + 2) = y / W32 ^ m / W32 / W32 := by rw [Nat.pow_succ, ← Nat.div_div_eq_div_mul, h1]
  have h3 : y / W32 ^ m < W32 * W32 * W32 := by
    have e : W32 ^ (m + 3) = W32 ^ m * (W32 * W32 * W32) := by rw [Nat.pow_add]; rfl
    rw [e] at hy
    exact Nat.div_lt_of_lt_mul hy
  rw [h1, h2]
  generalize y / W32 ^ m = T at *
  have hT : T = (T / W32 / W32 % W32 * 4294967296 + T / W32 % W32) * W32 + T % W32 := by
    unfold W32 at *; omega
  have hW : W32 = 2 ^ z * 2 ^ (32 - z) := by
    rw [← Nat.pow_add, show z + (32 - z) = 32 by omega]
  have hfin := head_alg (T / W32 / W32 % W32 * 4294967296 + T / W32 % W32) (T % W32) (2 ^ z) (2 ^ (32 - z)) (Nat.pow_pos (by decide))
  rw [← hW, ← hT] at hfin
  exact hfin

theorem or_sum (s a b : Nat) (ha : a % 2 ^ s = 0) (hb : b < 2 ^ s) (ha1 : a < 18446744073709551616) (hb1 : b < 18446744073709551616) : bits .or .u64 (a : Int) (b : Int) = ((a + b : Nat) : Int) := by
  rw [u64_or_nat a b ha1 hb1, nat_join s a b ha hb]

set_option maxRecDepth 20000 in
set_option maxHeartbeats 1000000 in
theorem head_any (v : Value) (y m z : Nat) (w : World) (hv : Rep w v y) (hz : z ≤ 31) (hy : y < W32 ^ (m + 3)) (hm : m ≤ 1000000) (hlt : y / 2 ^ (32 * (m + 1) - z) < 18446744073709551616) :
    Calls Tryd.prog 59 #[v, .int .i64 ((m + 3 : Nat) : Int), .int .i64 (z : Int)] w fun e w' => e = .returned (.int .u64 ((y / 2 ^ (32 * (m + 1) - z) : Nat) : Int)) ∧ Below w.heap.size w w' := by
  have hN := head_num y m z hz hy
  rw [hN] at hlt ⊢
  have k1 : at0 (dg W32 y) (nl W32 y) (m + 2) = ((y / W32 ^ (m + 2) % W32 : Nat) : Int) := at0_dg32 y _ _ rfl
  have k2 : at0 (dg W32 y) (nl W32 y) (m + 1) = ((y / W32 ^ (m + 1) % W32 : Nat) : Int) := at0_dg32 y _ _ rfl
  have k3 : at0 (dg W32 y) (nl W32 y) m = ((y / W32 ^ m % W32 : Nat) : Int) := at0_dg32 y _ _ rfl
  have b2 : y / W32 ^ (m + 2) % W32 < W32 := Nat.mod_lt _ (by decide)
  have b1 : y / W32 ^ (m + 1) % W32 < W32 := Nat.mod_lt _ (by decide)
  have b0 : y / W32 ^ m % W32 < W32 := Nat.mod_lt _ (by decide)
  have HR1 : Hid (∀ W, Below w.heap.size w W → Calls Tryd.prog 64 #[v, .int .i64 ((m : Int) + 2)] W fun e w' => e = .returned (.int .u64 ((y / W32 ^ (m + 2) % W32 : Nat) : Int)) ∧ w' = W) := by
    show ∀ W, _
    intro W hb
    have h := limb_any v _ _ W ((m : Int) + 2) (Nums.below hv hb) (by omega) (by unfold LIM; omega)
    rw [show ((m : Int) + 2).toNat = m + 2 by omega, k1] at h; exact h
  have HR2 : Hid (∀ W, Below w.heap.size w W → Calls Tryd.prog 64 #[v, .int .i64 ((m : Int) + 1)] W fun e w' => e = .returned (.int .u64 ((y / W32 ^ (m + 1) % W32 : Nat) : Int)) ∧ w' = W) := by
    show ∀ W, _
    intro W hb
    have h := limb_any v _ _ W ((m : Int) + 1) (Nums.below hv hb) (by omega) (by unfold LIM; omega)
    rw [show ((m : Int) + 1).toNat = m + 1 by omega, k2] at h; exact h
  have HR3 : Hid (∀ W, Below w.heap.size w W → Calls Tryd.prog 64 #[v, .int .i64 (m : Int)] W fun e w' => e = .returned (.int .u64 ((y / W32 ^ m % W32 : Nat) : Int)) ∧ w' = W) := by
    show ∀ W, _
    intro W hb
    have h := limb_any v _ _ W (m : Int) (Nums.below hv hb) (by omega) (by unfold LIM; omega)
    rw [Int.toNat_natCast, k3] at h; exact h
  clear k1 k2 k3 hN hy
  generalize y / W32 ^ (m + 2) % W32 = A at *
  generalize y / W32 ^ (m + 1) % W32 = B at *
  generalize y / W32 ^ m % W32 = C at *
  unfold W32 at b0 b1 b2
  have e1 : IntKind.u64.wrap ((A : Int) * 4294967296) = (A : Int) * 4294967296 := by rw [IntKind.wrap_u64]; omega
  have e2 : bits .or .u64 ((A : Int) * 4294967296) (B : Int) = ((A * 4294967296 + B : Nat) : Int) := by
    rw [or_join' _ _ (by omega) (by omega) (by omega) (by omega)]; omega
  have hH : A * 4294967296 + B < 18446744073709551616 := by omega
  generalize A * 4294967296 + B = H at *
  have hC : C / 2 ^ (32 - z) < 2 ^ z := by
    apply Nat.div_lt_of_lt_mul
    rw [← Nat.pow_add, show 32 - z + z = 32 by omega]; omega
  obtain ⟨HZ, hHZ⟩ : ∃ HZ, HZ = H * 2 ^ z := ⟨_, rfl⟩
  obtain ⟨CZ, hCZ⟩ : ∃ CZ, CZ = C / 2 ^ (32 - z) := ⟨_, rfl⟩
  rw [← hHZ, ← hCZ] at hlt ⊢
  rw [← hCZ] at hC
  have h1 : (H : Int) * 2 ^ z = (HZ : Int) := by rw [hHZ]; simp
  have hm0 : HZ % 2 ^ z = 0 := by rw [hHZ]; exact Nat.mul_mod_left _ _
  have e3 : IntKind.u64.wrap ((H : Int) * 2 ^ z) = (HZ : Int) := by rw [h1, IntKind.wrap_u64]; omega
  have e4 : (32 : Int) - (z : Int) = ((32 - z : Nat) : Int) := by omega
  have e5 : (C : Int) / 2 ^ (32 - z) = (CZ : Int) := by rw [hCZ]; simp
  have e6 : bits .or .u64 (HZ : Int) (CZ : Int) = ((HZ + CZ : Nat) : Int) := or_sum z _ _ hm0 hC (by omega) (by omega)
  have hzc : 32 - z ≤ 32 := by omega
  clear h1 hm0 hC hHZ hCZ
  generalize 32 - z = zc at *
  have n1 : ((m + 3 : Nat) : Int) - 1 = (m : Int) + 2 := by omega
  have n2 : ((m + 3 : Nat) : Int) - 2 = (m : Int) + 1 := by omega
  have n3 : ((m + 3 : Nat) : Int) - 3 = (m : Int) := by omega
  have g0 : 3 ≤ ((m + 3 : Nat) : Int) ∧ ((m + 3 : Nat) : Int) ≤ 2000000 := by omega
  generalize ((m + 3 : Nat) : Int) = N at *
  have g1 : -1000 ≤ (m : Int) + 2 ∧ (m : Int) + 2 ≤ 2000000 := by omega
  have g2 : -1000 ≤ (m : Int) + 1 ∧ (m : Int) + 1 ≤ 2000000 := by omega
  have g3 : -1000 ≤ (m : Int) ∧ (m : Int) ≤ 2000000 := by omega
  generalize (m : Int) + 2 = I1 at *
  generalize (m : Int) + 1 = I2 at *
  generalize (m : Int) = I3 at *
  have w1 : IntKind.i64.wrap I1 = I1 := by rw [IntKind.wrap_i64]; omega
  have w2 : IntKind.i64.wrap I2 = I2 := by rw [IntKind.wrap_i64]; omega
  have w3 : IntKind.i64.wrap I3 = I3 := by rw [IntKind.wrap_i64]; omega
  have w4 : IntKind.i64.wrap (zc : Int) = (zc : Int) := by rw [IntKind.wrap_i64]; omega
  clear hv hlt hm
  go_enter Tryd.func59, Tryd.ntmps59
  go_wp2
  refine wp_region_held_drew (S := (fun _ => True)) (by kernel_rfl) ?_ (fun hHeld => ?_)
  · exact trivial
  refine wpAnyH_take (i := 0) (v := ?_) (by simp only [List.getElem?_toArray, List.getElem?_cons_succ, List.getElem?_cons_zero]; rfl) (by kernel_rfl) (by kernel_rfl) (by kernel_rfl) (by exact fun _ _ _ h => h) (Or.inl ⟨by rfl, ?_⟩) (by assumption) ?_
  rotate_left
  · (intro w hSw; (try dsimp only at hSw); go_simp; (try with_reducible rfl))
  (try simp only [Act.put, List.setIfInBounds_toArray, List.set_cons_zero, List.set_cons_succ])
  refine wpAnyH_take (i := 1) (v := ?_) (by simp only [List.getElem?_toArray, List.getElem?_cons_succ, List.getElem?_cons_zero]; rfl) (by kernel_rfl) (by kernel_rfl) (by kernel_rfl) (by exact fun _ _ _ h => h) (Or.inl ⟨by rfl, ?_⟩) (by assumption) ?_
  rotate_left
  · (intro w hSw; (try dsimp only at hSw); go_simp; (try with_reducible rfl))
  (try simp only [Act.put, List.setIfInBounds_toArray, List.set_cons_zero, List.set_cons_succ])
  refine wpAnyH_take (i := 2) (v := ?_) (by simp only [List.getElem?_toArray, List.getElem?_cons_succ, List.getElem?_cons_zero]; rfl) (by kernel_rfl) (by kernel_rfl) (by kernel_rfl) (by exact fun _ _ _ h => h) (Or.inl ⟨by rfl, ?_⟩) (by assumption) ?_
  rotate_left
  · (intro w hSw; (try dsimp only at hSw); go_simp; (try with_reducible rfl))
  (try simp only [Act.put, List.setIfInBounds_toArray, List.set_cons_zero, List.set_cons_succ])
  refine wpAnyH_take (i := 5) (v := ?_) (by simp only [List.getElem?_toArray, List.getElem?_cons_succ, List.getElem?_cons_zero]; rfl) (by kernel_rfl) (by kernel_rfl) (by kernel_rfl) (by exact fun _ _ _ h => h) (Or.inl ⟨by rfl, ?_⟩) (by assumption) ?_
  rotate_left
  · (intro w hSw; (try dsimp only at hSw); go_simp; (try with_reducible rfl))
  (try simp only [Act.put, List.setIfInBounds_toArray, List.set_cons_zero, List.set_cons_succ])
  refine wpAnyH_take (i := 6) (v := ?_) (by simp only [List.getElem?_toArray, List.getElem?_cons_succ, List.getElem?_cons_zero]; rfl) (by kernel_rfl) (by kernel_rfl) (by kernel_rfl) (by exact fun _ _ _ h => h) (Or.inl ⟨by rfl, ?_⟩) (by assumption) ?_
  rotate_left
  · (intro w hSw; (try dsimp only at hSw); go_simp; (try with_reducible rfl))
  (try simp only [Act.put, List.setIfInBounds_toArray, List.set_cons_zero, List.set_cons_succ])
  refine wpAnyH_take (i := 7) (v := ?_) (by simp only [List.getElem?_toArray, List.getElem?_cons_succ, List.getElem?_cons_zero]; rfl) (by kernel_rfl) (by kernel_rfl) (by kernel_rfl) (by exact fun _ _ _ h => h) (Or.inl ⟨by rfl, ?_⟩) (by assumption) ?_
  rotate_left
  · (intro w hSw; (try dsimp only at hSw); go_simp; (try with_reducible rfl))
  (try simp only [Act.put, List.setIfInBounds_toArray, List.set_cons_zero, List.set_cons_succ])
  refine wpAnyH_take (i := 10) (v := ?_) (by simp only [List.getElem?_toArray, List.getElem?_cons_succ, List.getElem?_cons_zero]; rfl) (by kernel_rfl) (by kernel_rfl) (by kernel_rfl) (by exact fun _ _ _ h => h) (Or.inl ⟨by rfl, ?_⟩) (by assumption) ?_
  rotate_left
  · (intro w hSw; (try dsimp only at hSw); go_simp; (try with_reducible rfl))
  (try simp only [Act.put, List.setIfInBounds_toArray, List.set_cons_zero, List.set_cons_succ])
  refine wpAnyH_take (i := 12) (v := ?_) (by simp only [List.getElem?_toArray, List.getElem?_cons_succ, List.getElem?_cons_zero]; rfl) (by kernel_rfl) (by kernel_rfl) (by kernel_rfl) (by exact fun _ _ _ h => h) (Or.inl ⟨by rfl, ?_⟩) (by assumption) ?_
  rotate_left
  · (intro w hSw; (try dsimp only at hSw); go_simp; (try with_reducible rfl))
  (try simp only [Act.put, List.setIfInBounds_toArray, List.set_cons_zero, List.set_cons_succ])
  refine wpAnyH_take (i := 13) (v := ?_) (by simp only [List.getElem?_toArray, List.getElem?_cons_succ, List.getElem?_cons_zero]; rfl) (by kernel_rfl) (by kernel_rfl) (by kernel_rfl) (by exact fun _ _ _ h => h) (Or.inl ⟨by rfl, ?_⟩) (by assumption) ?_
  rotate_left
  · (intro w hSw; (try dsimp only at hSw); go_simp; (try with_reducible rfl))
  (try simp only [Act.put, List.setIfInBounds_toArray, List.set_cons_zero, List.set_cons_succ])
  refine wpAnyH_take (i := 14) (v := ?_) (by simp only [List.getElem?_toArray, List.getElem?_cons_succ, List.getElem?_cons_zero]; rfl) (by kernel_rfl) (by kernel_rfl) (by kernel_rfl) (by exact fun _ _ _ h => h) (Or.inl ⟨by rfl, ?_⟩) (by assumption) ?_
  rotate_left
  · (intro w hSw; (try dsimp only at hSw); go_simp; (try with_reducible rfl))
  (try simp only [Act.put, List.setIfInBounds_toArray, List.set_cons_zero, List.set_cons_succ])
  refine wpAnyH_take (i := 16) (v := ?_) (by simp only [List.getElem?_toArray, List.getElem?_cons_succ, List.getElem?_cons_zero]; rfl) (by kernel_rfl) (by kernel_rfl) (by kernel_rfl) (by exact fun _ _ _ h => h) (Or.inl ⟨by rfl, ?_⟩) (by assumption) ?_
  rotate_left
  · (intro w hSw; (try dsimp only at hSw); go_simp; (try with_reducible rfl))
  (try simp only [Act.put, List.setIfInBounds_toArray, List.set_cons_zero, List.set_cons_succ])
  refine wpAnyH_take (i := 17) (v := ?_) (by simp only [List.getElem?_toArray, List.getElem?_cons_succ, List.getElem?_cons_zero]; rfl) (by kernel_rfl) (by kernel_rfl) (by kernel_rfl) (by exact fun _ _ _ h => h) (Or.inl ⟨by rfl, ?_⟩) (by assumption) ?_
  rotate_left
  · (intro w hSw; (try dsimp only at hSw); go_simp; (try with_reducible rfl))
  (try simp only [Act.put, List.setIfInBounds_toArray, List.set_cons_zero, List.set_cons_succ])
  refine wpAnyH_ready (rs := [3]) (by kernel_rfl) (by simp) ?_
  refine AllReadyH.cons (by simp only [List.getElem?_toArray, List.getElem?_cons_succ, List.getElem?_cons_zero]; rfl) (fun K hK => ?_) AllReadyH.nil
  go_simp
  refine (HR1.out _ (Below.refl _ w).drew).mono ?_
  rintro e w1 ⟨rfl, hw1⟩
  subst hw1
  go_wp2_with fail
  refine hK.out _ _ ?_ (fun hHeld0 => ?_)
  · exact trivial
  clear hK K
  (try simp only [Act.put, List.setIfInBounds_toArray, List.set_cons_zero, List.set_cons_succ])
  refine wpAnyH_take (i := 4) (v := ?_) (by simp only [List.getElem?_toArray, List.getElem?_cons_succ, List.getElem?_cons_zero]; rfl) (by kernel_rfl) (by kernel_rfl) (by kernel_rfl) (by exact fun _ _ _ h => h) (Or.inl ⟨by rfl, ?_⟩) (by assumption) ?_
  rotate_left
  · (intro w hSw; (try dsimp only at hSw); go_simp; (try with_reducible rfl))
  (try simp only [Act.put, List.setIfInBounds_toArray, List.set_cons_zero, List.set_cons_succ])
  refine wpAnyH_ready (rs := [8]) (by kernel_rfl) (by simp) ?_
  refine AllReadyH.cons (by simp only [List.getElem?_toArray, List.getElem?_cons_succ, List.getElem?_cons_zero]; rfl) (fun K hK => ?_) AllReadyH.nil
  go_simp
  refine (HR2.out _ (Below.refl _ w).drew).mono ?_
  rintro e w1 ⟨rfl, hw1⟩
  subst hw1
  go_wp2_with fail
  refine hK.out _ _ ?_ (fun hHeld1 => ?_)
  · exact trivial
  clear hK K
  (try simp only [Act.put, List.setIfInBounds_toArray, List.set_cons_zero, List.set_cons_succ])
  refine wpAnyH_take (i := 9) (v := ?_) (by simp only [List.getElem?_toArray, List.getElem?_cons_succ, List.getElem?_cons_zero]; rfl) (by kernel_rfl) (by kernel_rfl) (by kernel_rfl) (by exact fun _ _ _ h => h) (Or.inl ⟨by rfl, ?_⟩) (by assumption) ?_
  rotate_left
  · (intro w hSw; (try dsimp only at hSw); go_simp; (try with_reducible rfl))
  (try simp only [Act.put, List.setIfInBounds_toArray, List.set_cons_zero, List.set_cons_succ])
  refine wpAnyH_take (i := 11) (v := ?_) (by simp only [List.getElem?_toArray, List.getElem?_cons_succ, List.getElem?_cons_zero]; rfl) (by kernel_rfl) (by kernel_rfl) (by kernel_rfl) (by exact fun _ _ _ h => h) (Or.inl ⟨by rfl, ?_⟩) (by assumption) ?_
  rotate_left
  · (intro w hSw; (try dsimp only at hSw); go_simp; (try with_reducible rfl))
  (try simp only [Act.put, List.setIfInBounds_toArray, List.set_cons_zero, List.set_cons_succ])
  refine wpAnyH_ready (rs := [15]) (by kernel_rfl) (by simp) ?_
  refine AllReadyH.cons (by simp only [List.getElem?_toArray, List.getElem?_cons_succ, List.getElem?_cons_zero]; rfl) (fun K hK => ?_) AllReadyH.nil
  go_simp
  refine (HR3.out _ (Below.refl _ w).drew).mono ?_
  rintro e w1 ⟨rfl, hw1⟩
  subst hw1
  go_wp2_with fail
  refine hK.out _ _ ?_ (fun hHeld2 => ?_)
  · exact trivial
  clear hK K
  (try simp only [Act.put, List.setIfInBounds_toArray, List.set_cons_zero, List.set_cons_succ])
  refine wpAnyH_take (i := 18) (v := ?_) (by simp only [List.getElem?_toArray, List.getElem?_cons_succ, List.getElem?_cons_zero]; rfl) (by kernel_rfl) (by kernel_rfl) (by kernel_rfl) (by exact fun _ _ _ h => h) (Or.inl ⟨by rfl, ?_⟩) (by assumption) ?_
  rotate_left
  · (intro w hSw; (try dsimp only at hSw); go_simp; (try with_reducible rfl))
  (try simp only [Act.put, List.setIfInBounds_toArray, List.set_cons_zero, List.set_cons_succ])
  refine wpAnyH_take (i := 19) (v := ?_) (by simp only [List.getElem?_toArray, List.getElem?_cons_succ, List.getElem?_cons_zero]; rfl) (by kernel_rfl) (by kernel_rfl) (by kernel_rfl) (by exact fun _ _ _ h => h) (Or.inl ⟨by rfl, ?_⟩) (by assumption) ?_
  rotate_left
  · (intro w hSw; (try dsimp only at hSw); go_simp; (try with_reducible rfl))
  (try simp only [Act.put, List.setIfInBounds_toArray, List.set_cons_zero, List.set_cons_succ])
  refine wpAnyH_take (i := 20) (v := ?_) (by simp only [List.getElem?_toArray, List.getElem?_cons_succ, List.getElem?_cons_zero]; rfl) (by kernel_rfl) (by kernel_rfl) (by kernel_rfl) (by exact fun _ _ _ h => h) (Or.inl ⟨by rfl, ?_⟩) (by assumption) ?_
  rotate_left
  · (intro w hSw; (try dsimp only at hSw); go_simp; (try with_reducible rfl))
  (try simp only [Act.put, List.setIfInBounds_toArray, List.set_cons_zero, List.set_cons_succ])
  refine wpAnyH_done (by kernel_rfl) ?_ _
  go_wp2
  go_ret
  exact ⟨rfl, (Below.refl _ _).drew⟩

end Go.Proofs.YtjfacmeeplalkaaDoor

/-
  Plain facts on Knuth's division: a limb of a quotient guessed from the highest limbs is right, or 1 too great.
-/
namespace Go.Proofs.YtjfacmeeplalkaaDoor
open Go.RowKit

/-- What is known: the divisor's two highest limbs h, g and the rest's three highest, T (two of them) and e. -/
structure Kn (h g T e P D R : Int) : Prop where
  h0 : 2147483648 ≤ h
  h1 : h < 4294967296
  g0 : 0 ≤ g
  g1 : g < 4294967296
  T0 : 0 ≤ T
  e0 : 0 ≤ e
  e1 : e < 4294967296
  P0 : 1 ≤ P
  D0 : (h * 4294967296 + g) * P ≤ D
  D1 : D < (h * 4294967296 + g + 1) * P
  R0 : (T * 4294967296 + e) * P ≤ R
  R1 : R < (T * 4294967296 + e + 1) * P
  fit : R < D * 4294967296

theorem mul_mono {a b c : Int} (h : a ≤ b) (hc : 0 ≤ c) : a * c ≤ b * c := Int.mul_le_mul_of_nonneg_right h hc

theorem Kn.Dpos {h g T e P D R : Int} (k : Kn h g T e P D R) : 0 < D := by
  have h1 := k.D0
  have h2 : 1 * 1 ≤ (h * 4294967296 + g) * P := Int.mul_le_mul (by have := k.h0; have := k.g0; omega) k.P0 (by omega) (by have := k.h0; have := k.g0; omega)
  omega

theorem Kn.start {h g T e P D R : Int} (k : Kn h g T e P D R) : R < (T / h + 1) * D := by
  have hp : 0 < h := by have := k.h0; omega
  have e1 := Int.lt_ediv_add_one_mul_self T hp
  have hq : 0 ≤ T / h := Int.ediv_nonneg k.T0 (by omega)
  have a1 : (T * 4294967296 + e + 1) * P ≤ ((T / h + 1) * h * 4294967296) * P := mul_mono (by have := k.e1; omega) (by have := k.P0; omega)
  have a2 : (T / h + 1) * ((h * 4294967296 + g) * P) ≤ (T / h + 1) * D := Int.mul_le_mul_of_nonneg_left k.D0 (by omega)
  have a3 : ((T / h + 1) * h * 4294967296) * P ≤ (T / h + 1) * ((h * 4294967296 + g) * P) := by
    rw [Int.mul_assoc (T / h + 1) h, Int.mul_assoc (T / h + 1)]
    exact Int.mul_le_mul_of_nonneg_left (mul_mono (by have := k.g0; omega) (by have := k.P0; omega)) (by omega)
  have := k.R1
  omega

theorem Kn.big {h g T e P D R q : Int} (k : Kn h g T e P D R) (hq : 4294967296 ≤ q) : R < q * D := by
  have := k.fit
  have a := mul_mono hq (Int.le_of_lt k.Dpos)
  rw [Int.mul_comm D] at this
  omega

theorem Kn.test {h g T e P D R q r : Int} (k : Kn h g T e P D R) (hq : 0 ≤ q) (hr : q * h + r = T) (ht : r * 4294967296 + e < q * g) : R < q * D := by
  have a1 : q * ((h * 4294967296 + g) * P) ≤ q * D := Int.mul_le_mul_of_nonneg_left k.D0 hq
  have a2 : q * ((h * 4294967296 + g) * P) = (q * h * 4294967296 + q * g) * P := by
    rw [← Int.mul_assoc, Int.mul_add, ← Int.mul_assoc]
  have a3 : (T * 4294967296 + e + 1) * P ≤ (q * h * 4294967296 + q * g) * P := mul_mono (by omega) (by have := k.P0; omega)
  have := k.R1
  omega

theorem Kn.done {h g T e P D R q r : Int} (k : Kn h g T e P D R) (hq : 0 ≤ q) (hq1 : q < 4294967296) (hr : q * h + r = T) (ht : q * g ≤ r * 4294967296 + e) : q * D < R + D := by
  have b1 : q * D ≤ q * ((h * 4294967296 + g + 1) * P) := Int.mul_le_mul_of_nonneg_left (Int.le_of_lt k.D1) hq
  have b2 : q * ((h * 4294967296 + g + 1) * P) = (q * h * 4294967296 + q * g) * P + q * P := by
    rw [← Int.mul_assoc, Int.mul_add, Int.mul_add, ← Int.mul_assoc, Int.mul_one, Int.add_mul]
  have b3 : (q * h * 4294967296 + q * g) * P ≤ (T * 4294967296 + e) * P := mul_mono (by omega) (by have := k.P0; omega)
  have b4 : q * P < (h * 4294967296 + g) * P := Int.mul_lt_mul_of_pos_right (by have := k.h0; have := k.g0; omega) (by have := k.P0; omega)
  have := k.R0
  have := k.D0
  omega

/-- The first guess is at most two above what a limb holds. -/
theorem Kn.top {h g T e P D R rn rm : Int} (k : Kn h g T e P D R) (hT : T = rn * 4294967296 + rm) (h0 : 0 ≤ rm) (h1 : rm < 4294967296) : rn ≤ h := by
  by_cases q : rn ≤ h
  · exact q
  · exfalso
    have a1 : ((h + 1) * 4294967296 * 4294967296) * P ≤ (T * 4294967296 + e) * P := mul_mono (by have := k.e0; omega) (by have := k.P0; omega)
    have a2 : D * 4294967296 ≤ (h * 4294967296 + g + 1) * P * 4294967296 := mul_mono (Int.le_of_lt k.D1) (by omega)
    have a3 : (h * 4294967296 + g + 1) * P * 4294967296 ≤ ((h + 1) * 4294967296 * 4294967296) * P := by
      rw [Int.mul_assoc, Int.mul_comm P, ← Int.mul_assoc]
      exact mul_mono (by have := k.g1; omega) (by have := k.P0; omega)
    have := k.fit
    have := k.R0
    omega

/-- From rows of limbs. -/
theorem kn_rows (m : Nat) (fb fr : Nat → Int) (hb : ∀ i, i < m + 2 → 0 ≤ fb i ∧ fb i < (W32 : Int)) (hr : ∀ i, i < m + 3 → 0 ≤ fr i ∧ fr i < (W32 : Int)) (htop : 2147483648 ≤ fb (m + 1))
    (hfit : val W32 fr (m + 3) < val W32 fb (m + 2) * 4294967296) :
    Kn (fb (m + 1)) (fb m) (fr (m + 2) * 4294967296 + fr (m + 1)) (fr m) ((W32 : Int) ^ m) (val W32 fb (m + 2)) (val W32 fr (m + 3)) := by
  have c : (W32 : Int) = 4294967296 := rfl
  have hp := powB_pos W32 (by decide) m
  have v1 := val_bounds W32 fb m (fun i hi => hb i (by omega))
  have v2 := val_bounds W32 fr m (fun i hi => hr i (by omega))
  have b0 := hb m (by omega)
  have b1 := hb (m + 1) (by omega)
  have r0 := hr m (by omega)
  have r1 := hr (m + 1) (by omega)
  have r2 := hr (m + 2) (by omega)
  have eD : val W32 fb (m + 2) = val W32 fb m + (fb (m + 1) * 4294967296 + fb m) * (W32 : Int) ^ m := by
    simp only [val]
    rw [Int.pow_succ, Int.mul_comm ((W32 : Int) ^ m), ← Int.mul_assoc, Int.add_mul, c]; omega
  have eR : val W32 fr (m + 3) = val W32 fr m + ((fr (m + 2) * 4294967296 + fr (m + 1)) * 4294967296 + fr m) * (W32 : Int) ^ m := by
    simp only [val]
    have e1 : fr (m + 1) * (W32 : Int) ^ (m + 1) = fr (m + 1) * 4294967296 * (W32 : Int) ^ m := by rw [Int.pow_succ, Int.mul_comm ((W32 : Int) ^ m), ← Int.mul_assoc, c]
    have e2 : fr (m + 2) * (W32 : Int) ^ (m + 2) = fr (m + 2) * 4294967296 * 4294967296 * (W32 : Int) ^ m := by
      rw [Int.pow_succ, Int.pow_succ, Int.mul_comm ((W32 : Int) ^ m), Int.mul_comm _ (W32 : Int), ← Int.mul_assoc, ← Int.mul_assoc, c]
    rw [e1, e2, Int.add_mul, Int.add_mul, Int.add_mul]; omega
  rw [c] at b0 b1 r0 r1 r2
  generalize (W32 : Int) ^ m = P at *
  refine ⟨htop, b1.2, b0.1, b0.2, by omega, r0.1, r0.2, by omega, by omega, ?_, by omega, ?_, hfit⟩
  · rw [eD, Int.add_mul _ 1, Int.one_mul]; omega
  · rw [eR, Int.add_mul _ 1, Int.one_mul]; omega

end Go.Proofs.YtjfacmeeplalkaaDoor
