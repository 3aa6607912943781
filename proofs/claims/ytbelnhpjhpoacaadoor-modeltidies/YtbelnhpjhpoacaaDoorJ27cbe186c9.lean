/-
  Texts of mine.
-/
import Derived.Test.YtbelnhpjhpoacaaDoorJcc2a0cb183
import Derived.Test.YtbelnhpjhpoacaaDoorJb0723efed3
import Derived.Deep.RegionHeld3
namespace Go.Proofs.YtbelnhpjhpoacaaDoor
open Go.RowKit

/-- The value v is the number m, by digits to the base 10000. -/
def RepD (w : World) (v : Value) (m : Nat) : Prop := Nums .i64 w v (nl 10000 m) (dg 10000 m)
/-- Digits. -/
def Dig (n : Nat) (f : Nat → Int) : Prop := ∀ i, i < n → 0 ≤ f i ∧ f i < ((10000 : Nat) : Int)
theorem dig_dg (m n : Nat) : Dig n (dg 10000 m) := fun i _ => dg_bounds 10000 m i (by decide)

theorem owns_nums {k : IntKind} {B : Nat} {w : World} {e : TypeId} {v : Value} {n : Nat} {f : Nat → Int} (h : w.ownsRow B e 1 v n (valsOf k f n)) (hl : n ≤ LIM) : Nums k w v n f := by
  rcases h.2 with ⟨rfl, rfl⟩ | ⟨g, cap, cur, rfl, hBg, hcur, hcap, hcm, hcs, htake⟩
  · exact Nums.nil _ _ _
  · refine ⟨_, _, rfl, hcap, hl, fun _ => ⟨_, _, rfl, fun i hi => ?_⟩⟩
    rw [Nat.zero_add, h.cellAt i (by omega), valsOf_at _ _ _ _ hi]

theorem sz_succ_zero' (f : Nat → Int) (k : Nat) (h : (f k == 0) = true) : sz f (k + 1) = sz f k := by
  have : f k = 0 := by simpa using h
  simp [sz, this]
theorem sz_succ_not' (f : Nat → Int) (k : Nat) (h : (f k == 0) = false) : sz f (k + 1) = k + 1 := by
  have : ¬ f k = 0 := by simpa using h
  simp [sz, this]

/-- A slice without an address has no room. -/
def NilC (v : Value) : Prop := ∀ n c, v = .slice none n c → c = 0
/-- The one slice begins where the other does. -/
def SameAt (v v' : Value) : Prop := ∀ a m c, v' = .slice (some a) m c → ∃ m' c', v = .slice (some a) m' c'
theorem nilC_owns {B : Nat} {w : World} {e : TypeId} {v : Value} {n : Nat} {xs : List Value} (h : w.ownsRow B e 1 v n xs) : NilC v := by
  rcases h.2 with ⟨rfl, rfl⟩ | ⟨g, cap, cur, rfl, _⟩
  · intro n c h; cases h; rfl
  · intro n c h; cases h

theorem info_int : (Tryd.prog.info? 3).map (fun i => (i.zero, i.size, i.bytes)) = some (some (.int .i64 0), 1, 8) := by kernel_rfl

theorem small_end (x j : Nat) (h0 : x / 10000 ^ j = 0) (hj : 0 < j → x / 10000 ^ (j - 1) ≠ 0) : nl 10000 x = j := by
  have hlt : x < 10000 ^ j := by
    have := Nat.div_eq_zero_iff.1 h0
    rcases this with h | h
    · have := Nat.pow_pos (n := j) (show 0 < 10000 by omega); omega
    · exact h
  rw [nl_spec 10000 x j (by decide) hlt]
  refine sz_unique _ j j (Nat.le_refl _) (fun hp => ?_) (fun i h1 h2 => by omega)
  have h1 := hj hp
  unfold dg
  have hb : x / 10000 ^ (j - 1) < 10000 := by
    rw [Nat.div_lt_iff_lt_mul (Nat.pow_pos (by omega))]
    have : 10000 * 10000 ^ (j - 1) = 10000 ^ j := by rw [Nat.mul_comm, ← Nat.pow_succ]; congr 1; omega
    rw [this]; exact hlt
  rw [Nat.mod_eq_of_lt hb]; omega

theorem cmpI_swap (a b : Int) : cmpI b a = 0 - cmpI a b := by
  rcases (show a < b ∨ a = b ∨ b < a by omega) with h | h | h
  · rw [cmpI_lt h, cmpI_gt h]; rfl
  · rw [cmpI_eq h, cmpI_eq h.symm]; rfl
  · rw [cmpI_gt h, cmpI_lt h]; rfl

theorem plus_step (B : Nat) (h f g : Nat → Int) (i : Nat) (c t : Int) (ht : t = c + f i + g i) (hv : val B h i + c * (B : Int) ^ i = val B f i + val B g i) :
    val B (put h i (t % B)) (i + 1) + t / B * (B : Int) ^ (i + 1) = val B f (i + 1) + val B g (i + 1) := by
  have e1 : (B : Int) ^ (i + 1) = (B : Int) ^ i * B := Int.pow_succ _ _
  simp only [val]
  rw [put_same, val_congr i (fun j hj => put_other h i j _ (by omega)), e1]
  have e := carry_step (B : Int) t 0 ((B : Int) ^ i) (val B h i)
  rw [Int.sub_zero, Int.sub_zero] at e
  rw [e, ht, Int.add_mul, Int.add_mul]; omega

/-- A row of digits that is worth x + y, as long as the longer one or one more: the digits of x + y. -/
theorem plus_end (x y i : Nat) (h : Nat → Int) (hd : Dig i h) (hv : val 10000 h i = ((x + y : Nat) : Int)) (hi : i = nl 10000 x ∨ i = nl 10000 y ∨ (0 < i ∧ h (i - 1) ≠ 0)) :
    nl 10000 (x + y) = i ∧ ∀ j, j < i → h j = dg 10000 (x + y) j := by
  have h1 := sz_val 10000 (by decide) h i (x + y) hd hv
  have h2 := sz_le h i
  refine ⟨?_, val_digit 10000 h i (x + y) hd hv⟩
  rcases hi with e | e | ⟨e, g⟩
  · by_cases q : nl 10000 (x + y) < nl 10000 x
    · have := lt_of_nl 10000 (x + y) x (by decide) q; omega
    · omega
  · by_cases q : nl 10000 (x + y) < nl 10000 y
    · have := lt_of_nl 10000 (x + y) y (by decide) q; omega
    · omega
  · rw [← h1]; exact sz_unique h i i (Nat.le_refl _) (fun _ => g) (fun j a b => by omega)

theorem at0_dg (m i : Nat) (n : Nat) (hn : n = nl 10000 m) : at0 (dg 10000 m) n i = dg 10000 m i := by
  unfold at0; split
  · rfl
  · rw [dg_high 10000 m i]
    exact Nat.lt_of_lt_of_le (lt_pow_nl 10000 m (by decide)) (Nat.pow_le_pow_right (by decide) (by omega))
theorem val_dg_ge (m i : Nat) (h : nl 10000 m ≤ i) : val 10000 (dg 10000 m) i = (m : Int) := by
  rw [val_dg, Nat.mod_eq_of_lt]
  exact Nat.lt_of_lt_of_le (lt_pow_nl 10000 m (by decide)) (Nat.pow_le_pow_right (by decide) h)

theorem mul_le_dig (x y : Int) (h0 : 0 ≤ x) (h1 : x < 10000) (h2 : 0 ≤ y) (h3 : y < 10000) : 0 ≤ x * y ∧ x * y ≤ 99980001 := by
  refine ⟨Int.mul_nonneg h0 h2, ?_⟩
  have a := Int.mul_le_mul_of_nonneg_right (show x ≤ 9999 by omega) h2
  omega

/-- The number that the limbs from k on are. -/
def hiNum (f : Nat → Int) (n k : Nat) : Nat := num (fun i => f (k + i)) (n - k)
theorem hiNum_all (f : Nat → Int) (n : Nat) : hiNum f n 0 = num f n := by
  unfold hiNum; simp
theorem hiNum_end (f : Nat → Int) (n : Nat) : hiNum f n n = 0 := by
  unfold hiNum num; simp [val]
theorem hiNum_step (f : Nat → Int) (n k : Nat) (h : k < n) : hiNum f n k = hiNum f n (k + 1) * 4294967296 + (f k % 4294967296).toNat := by
  have e1 := num_val (fun i => f (k + i)) (n - k)
  have e2 := num_val (fun i => f (k + 1 + i)) (n - (k + 1))
  unfold hiNum
  rw [show n - k = 1 + (n - (k + 1)) by omega, val_add] at e1
  have e3 : val W32 (fun i => lo (fun i => f (k + i)) (1 + i)) (n - (k + 1)) = val W32 (lo (fun i => f (k + 1 + i))) (n - (k + 1)) := val_congr _ (fun i _ => by simp only [lo]; rw [show k + (1 + i) = k + 1 + i by omega])
  rw [e3, e2] at e1
  simp only [val, lo] at e1
  rw [show 1 + (n - (k + 1)) = n - k by omega] at e1
  simp at e1
  omega
theorem hiNum_lt (f : Nat → Int) (n k : Nat) : hiNum f n k < W32 ^ (n - k) := num_lt _ _
theorem nl_small (x n : Nat) (h : x < W32 ^ n) : nl 10000 x ≤ 3 * n := by
  refine nl_le 10000 x (3 * n) (by decide) (Nat.lt_of_lt_of_le h ?_)
  rw [Nat.pow_mul]
  exact Nat.pow_le_pow_left (by decide) n

theorem below_of_drew {w w' : World} (h : Below w.drew.heap.size w.drew w') : Below w.heap.size w w' := ⟨h.os, h.tape, h.output, h.size, h.block⟩

theorem nl_num (f : Nat → Int) (n : Nat) (hn : n ≤ 1000) : nl 10000 (num f n) ≤ 3000 := Nat.le_trans (nl_small _ _ (num_lt f n)) (by omega)

/-- Is: limbs in their one form are a number just if it is theirs. -/
def isB (f : Nat → Int) (n m : Nat) : Bool := rightB f n && (cmpI (num f n) m == 0)
theorem cmpI_zero (a b : Int) : (cmpI a b == 0) = decide (a = b) := by
  rcases (show a < b ∨ a = b ∨ b < a by omega) with h | h | h
  · rw [cmpI_lt h]; simp; omega
  · rw [cmpI_eq h]; simp [h]
  · rw [cmpI_gt h]; simp; omega

/-- Of a number's digits the first ones are the number divided by a power of ten. -/
theorem dval_div (s : ByteArray) (n k : Nat) (h : ∀ i, i < n → isDig s i) (hk : k ≤ n) : dval s n / 10 ^ k = dval s (n - k) := by
  induction k with
  | zero => simp
  | succ k ih =>
    rw [Nat.pow_succ, ← Nat.div_div_eq_div_mul, ih (by omega)]
    obtain ⟨m, hm⟩ : ∃ m, n - k = m + 1 := ⟨n - k - 1, by omega⟩
    have h2 := h m (by omega)
    rw [hm, show n - (k + 1) = m by omega]
    simp only [dval]
    unfold isDig at h2
    omega

theorem dval_dg (s : ByteArray) (j : Nat) (h : ∀ i, i < s.size → isDig s i) (hj : 4 * j ≤ s.size) : dg 10000 (dval s s.size) j = ((dval s (s.size - 4 * j) % 10000 : Nat) : Int) := by
  unfold dg
  rw [show (10000 : Nat) ^ j = 10 ^ (4 * j) by rw [Nat.pow_mul], dval_div s _ _ h hj]

theorem not_empty (s : ByteArray) (h : 0 < s.size) : s.toList.isEmpty = false := by
  rw [Lib.toList_data]
  have : s.size = s.data.toList.length := by simp
  rw [this] at h
  cases hs : s.data.toList
  · rw [hs] at h; simp at h
  · rfl

/-- Digits from one place to another: what they add to the number. -/
theorem dval_part (s : ByteArray) (a i : Nat) (x : Nat) (h : dval s i = dval s a * 10 ^ (i - a) + x) (hi : a ≤ i) :
    dval s (i + 1) = dval s a * 10 ^ (i + 1 - a) + (10 * x + ((s.data.toList.getD i 0).toNat - 48)) := by
  simp only [dval]
  rw [h, show i + 1 - a = (i - a) + 1 by omega, Nat.pow_succ, Nat.add_mul, Nat.mul_assoc]; omega

end Go.Proofs.YtbelnhpjhpoacaaDoor
