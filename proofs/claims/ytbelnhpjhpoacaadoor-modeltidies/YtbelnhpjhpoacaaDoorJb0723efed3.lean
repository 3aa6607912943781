/-
  Texts of mine.
-/
import Derived.Test.YtbelnhpjhpoacaaDoorJa8fb859b61
import Derived.Lib.Strings
import Derived.WalkSmall
namespace Go.Proofs.YtbelnhpjhpoacaaDoor
open Go.RowKit

/-- Byte i of a text is a digit. -/
abbrev isDig (s : ByteArray) (i : Nat) : Prop := 48 ≤ (s.data.toList.getD i 0).toNat ∧ (s.data.toList.getD i 0).toNat ≤ 57
/-- A text that is not empty and has nothing but digits. -/
def digitsB (s : ByteArray) : Bool := decide (0 < s.size ∧ ∀ i, i < s.size → isDig s i)
theorem byte_at (s : ByteArray) (i : Nat) (h : i < s.size) : (s.data.toList.getD i 0) = s[i] := by
  have h' : i < s.data.toList.length := by simpa using h
  simp [List.getD, List.getElem?_eq_getElem h']; rfl
theorem digitsB_no (s : ByteArray) (i : Nat) (h : i < s.size) (hd : ¬ (48 ≤ (s[i]).toNat ∧ (s[i]).toNat ≤ 57)) : digitsB s = false := by
  simp only [digitsB, decide_eq_false_iff_not]
  rintro ⟨_, g⟩
  have := g i h
  unfold isDig at this
  rw [byte_at s i h] at this
  exact hd this
theorem digitsB_yes (s : ByteArray) (h : ∀ i, i < s.size → isDig s i) : digitsB s = decide (0 < s.size) := by
  rw [Bool.eq_iff_iff]; simp only [digitsB, decide_eq_true_eq]
  exact ⟨fun g => g.1, fun g => ⟨g, h⟩⟩

/-- The number that the first n digits are. -/
def dval (s : ByteArray) : Nat → Nat
  | 0 => 0
  | n + 1 => dval s n * 10 + ((s.data.toList.getD n 0).toNat - 48)
theorem dval_lt (s : ByteArray) (n : Nat) (h : ∀ i, i < n → isDig s i) : dval s n < 10 ^ n := by
  induction n with
  | zero => simp [dval]
  | succ n ih =>
    have h1 := ih (fun i hi => h i (by omega))
    have h2 := h n (by omega)
    simp only [dval]
    rw [Nat.pow_succ]
    unfold isDig at h2
    omega

theorem grows_mine {B : Nat} {w : World} {v : Value} {m : Nat} (h : Grows B w v m) (hl : nl W32 m ≤ LIM) : RepM B w v m := by
  unfold Grows at h
  rcases h.2 with ⟨rfl, h0⟩ | ⟨g, cap, cur, rfl, hBg, hcur, hcap, hcm, hcs, htake⟩
  · unfold RepM; rw [h0]; exact Mine.nil _ _ _ _
  · refine ⟨_, _, rfl, hcap, hl, fun _ => ⟨_, _, rfl, fun i hi => ?_, fun i _ => ?_, hBg⟩⟩
    · rw [Nat.zero_add, h.cellAt i (by omega), valsOf_at _ _ _ _ hi]
    · rw [Nat.zero_add]; exact h.frozenAt i

theorem nl_pow10 (m n : Nat) (h : m < 10 ^ n) : nl W32 m ≤ n :=
  nl_le W32 m n (by decide) (Nat.lt_of_lt_of_le h (Nat.pow_le_pow_left (by decide) n))

/-- The text of 10^20. -/
def s20 : ByteArray := { data := #[49, 48, 48, 48, 48, 48, 48, 48, 48, 48, 48, 48, 48, 48, 48, 48, 48, 48, 48, 48, 48] }
theorem s20_digits : digitsB s20 = true := by decide +kernel
theorem s20_val : dval s20 s20.size = 100000000000000000000 := by decide +kernel
theorem nl_a : nl W32 (4294967296 * 4294967296) = 3 := by rw [nl_spec W32 _ 3 (by decide) (by decide)]; decide +kernel
theorem nl_b : nl W32 100000000000000000000 = 3 := by rw [nl_spec W32 _ 3 (by decide) (by decide)]; decide +kernel
theorem nl_7 : nl W32 7 = 1 := by rw [nl_spec W32 _ 1 (by decide) (by decide)]; decide +kernel
theorem nl_q : nl W32 14285714285714285714 = 2 := by rw [nl_spec W32 _ 2 (by decide) (by decide)]; decide +kernel
theorem nl_2 : nl W32 2 = 1 := by rw [nl_spec W32 _ 1 (by decide) (by decide)]; decide +kernel
theorem nl_u : nl W32 4294967296 = 2 := by rw [nl_spec W32 _ 2 (by decide) (by decide)]; decide +kernel
theorem txt_q : (txt 14285714285714285714).data.toList = [49, 52, 50, 56, 53, 55, 49, 52, 50, 56, 53, 55, 49, 52, 50, 56, 53, 55, 49, 52] := by
  have e : ndec 14285714285714285714 = 20 := by
    unfold ndec; rw [nl_spec 10 _ 20 (by decide) (by decide)]; decide +kernel
  unfold txt; rw [e, strOfNums_data]; decide +kernel
theorem txt_2 : (txt 2).data.toList = [50] := by
  have e : ndec 2 = 1 := by
    unfold ndec; rw [nl_spec 10 _ 1 (by decide) (by decide)]; decide +kernel
  unfold txt; rw [e, strOfNums_data]; decide +kernel
theorem dg_a : dg W32 (4294967296 * 4294967296) 0 = 0 ∧ dg W32 (4294967296 * 4294967296) 1 = 0 ∧ dg W32 (4294967296 * 4294967296) 2 = 1 := by decide +kernel

theorem print_rep (v : Value) (x : Nat) (w : World) (hv : Rep w v x) (h29 : nl W32 x ≤ 29) :
    Calls Tryd.prog 48 #[v] w fun e w' => e = .returned (.string (txt x)) ∧ Below w.heap.size w w' := by
  have h := print_short v _ _ w hv (u64_dg x _) (by rw [num_nl]; exact h29)
  rw [num_nl] at h; exact h

end Go.Proofs.YtbelnhpjhpoacaaDoor
