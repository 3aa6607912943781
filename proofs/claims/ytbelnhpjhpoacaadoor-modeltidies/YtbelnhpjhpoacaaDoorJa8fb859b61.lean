/-
  Texts of mine.
-/
import Derived.Test.YtbelnhpjhpoacaaDoorJ1dcf0a2454
import Derived.Lib.OthersKept
namespace Go.Proofs.YtbelnhpjhpoacaaDoor
open Go.RowKit

/-- A row of so many numbers of kind k, as values. -/
def valsOf (k : IntKind) (f : Nat → Int) (n : Nat) : List Value := (List.range n).map (fun i => Value.int k (f i))
theorem valsOf_length (k : IntKind) (f : Nat → Int) (n : Nat) : (valsOf k f n).length = n := by simp [valsOf]
theorem valsOf_at (k : IntKind) (f : Nat → Int) (n i : Nat) (h : i < n) : (valsOf k f n)[i]? = some (.int k (f i)) := by simp [valsOf, h]
theorem valsOf_set (k : IntKind) (f : Nat → Int) (n j : Nat) (v : Int) : (valsOf k f n).set j (.int k v) = valsOf k (put f j v) n := by
  apply List.ext_getElem?
  intro i
  rw [List.getElem?_set]
  by_cases hi : i < n
  · rw [valsOf_at _ _ _ _ hi, valsOf_at _ _ _ _ hi, valsOf_length]
    by_cases e : j = i
    · subst e; rw [if_pos rfl, if_pos hi, put_same]
    · rw [if_neg e, put_other _ _ _ _ (by omega)]
  · have h1 : (valsOf k f n)[i]? = none := by rw [List.getElem?_eq_none]; rw [valsOf_length]; omega
    have h2 : (valsOf k (put f j v) n)[i]? = none := by rw [List.getElem?_eq_none]; rw [valsOf_length]; omega
    rw [h1, h2, valsOf_length]
    split
    · rw [if_neg (by omega)]
    · rfl
theorem valsOf_snoc (k : IntKind) (f : Nat → Int) (n : Nat) (v : Int) : valsOf k f n ++ [.int k v] = valsOf k (put f n v) (n + 1) := by
  simp only [valsOf, List.range_succ, List.map_append, List.map_cons, List.map_nil, put_same]
  congr 1
  exact List.map_congr_left (fun i hi => by rw [put_other _ _ _ _ (by simp at hi; omega)])
theorem valsOf_congr (k : IntKind) {f g : Nat → Int} {n : Nat} (h : ∀ i, i < n → f i = g i) : valsOf k f n = valsOf k g n :=
  List.map_congr_left (fun i hi => by rw [h i (by simpa using hi)])

theorem grown_refl (w : World) (row : Option Nat) : w.grownBy w row := ⟨rfl, rfl, rfl, Nat.le_refl _, fun _ _ _ => rfl⟩
theorem grown_trans {a b c : World} {row : Option Nat} (h : a.grownBy b row) (g : b.grownBy c row) : a.grownBy c row :=
  ⟨g.os.trans h.os, g.tape.trans h.tape, g.output.trans h.output, Nat.le_trans h.size g.size, fun k hk hr => (g.block k (Nat.lt_of_lt_of_le hk h.size) hr).trans (h.block k hk hr)⟩
theorem grown_alloc {a b : World} {row : Option Nat} (h : a.grownBy b row) (o : Obj) : a.grownBy (b.alloc o) row := grown_trans h (World.grownBy_alloc b o row)

/-- In memory of the call's own (from B on), to be appended to: the number m in its form. -/
def Grows (B : Nat) (w : World) (v : Value) (m : Nat) : Prop := w.ownsRow B 45 1 v (nl W32 m) (valsOf .u64 (dg W32 m) (nl W32 m))

theorem times_step (B : Nat) (h f : Nat → Int) (n j : Nat) (p d q t : Int) (hj : j < n) (hh : h j = f j) (ht : t = p + f j * d)
    (hv : val B h n + p * (B : Int) ^ j = val B f j * d + q + (val B f n - val B f j)) :
    val B (put h j (t % B)) n + t / B * (B : Int) ^ (j + 1) = val B f (j + 1) * d + q + (val B f n - val B f (j + 1)) := by
  have e1 : (B : Int) ^ (j + 1) = (B : Int) ^ j * B := Int.pow_succ _ _
  rw [val_put B h n j _ hj, e1, carry_step, ht, hh]
  simp only [val]
  have e2 : (p + f j * d - f j) * (B : Int) ^ j = p * (B : Int) ^ j + f j * d * (B : Int) ^ j - f j * (B : Int) ^ j := by rw [Int.sub_mul, Int.add_mul]
  have e3 : (val B f j + f j * (B : Int) ^ j) * d = val B f j * d + f j * d * (B : Int) ^ j := by
    rw [Int.add_mul, Int.mul_assoc, Int.mul_comm ((B : Int) ^ j) d, ← Int.mul_assoc]
  rw [e2, e3]; omega

/-- What is left of the row at the loop's end, with nothing carried out. -/
theorem times_end (h : Nat → Int) (m m' n : Nat) (hn : n = nl W32 m) (hu : U32 n h) (hle : m ≤ m') (hv : val W32 h n = (m' : Int)) : nl W32 m' = n ∧ ∀ i, i < n → h i = dg W32 m' i := by
  have h1 := sz_val W32 (by decide) h n m' hu hv
  have h2 := sz_le h n
  refine ⟨?_, val_digit W32 h n m' hu hv⟩
  by_cases g : nl W32 m' < nl W32 m
  · have := lt_of_nl W32 m' m (by decide) g; omega
  · omega
/-- The same, with a limb carried out. -/
theorem times_more (h : Nat → Int) (m' n : Nat) (p : Int) (hu : U32 n h) (hp0 : 0 < p) (hp1 : p < (W32 : Int)) (hv : val W32 h n + p * (W32 : Int) ^ n = (m' : Int)) :
    nl W32 m' = n + 1 ∧ ∀ i, i < n + 1 → put h n p i = dg W32 m' i := by
  refine two_limbs m' (put h n p) (n + 1) ?_ ?_ ?_
  · intro i hi
    by_cases e : i = n
    · rw [e, put_same]; exact ⟨by omega, hp1⟩
    · rw [put_other _ _ _ _ e]; exact hu i (by omega)
  · simp only [val]
    rw [put_same, val_congr n (fun i hi => put_other h n i p (by omega))]; exact hv
  · intro _; rw [show n + 1 - 1 = n by omega, put_same]; omega

end Go.Proofs.YtbelnhpjhpoacaaDoor
