/-
  Texts of mine.
-/
import Derived.Test.YthkamfddbiheoaaGreatDoorJa3f7135d0b
import Derived.Lib.AtoiAllCases
import Derived.Lib.SlTrimSet
import Derived.Lib.ConvBytes
namespace Go.Proofs.YthkamfddbiheoaaGreatDoor
open Go.RowKit
set_option linter.unusedVariables false
set_option linter.unusedSimpArgs false

def isD (b : UInt8) : Bool := decide (48 ≤ b.toNat ∧ b.toNat ≤ 57)
def stepD (a : Nat) (b : UInt8) : Nat := 10 * a + (b.toNat - 48)
theorem foldD_ge (l : List UInt8) : ∀ a : Nat, a ≤ l.foldl stepD a := by
 induction l with
 | nil => intro a; exact Nat.le_refl _
 | cons b l ih =>
  intro a
  have := ih (stepD a b)
  show a ≤ l.foldl stepD (stepD a b)
  unfold stepD at this ⊢
  omega
theorem pu10 (l : List UInt8) : ∀ a : Nat, (∀ b ∈ l, isD b = true) → a < 18446744073709551616 → Lib.parseUint10 a l = if l.foldl stepD a < 18446744073709551616 then .ok (l.foldl stepD a) else .range := by
 induction l with
 | nil =>
  intro a _ h
  show Lib.NumEnd.ok a = _
  rw [List.foldl_nil, if_pos h]
 | cons b l ih =>
  intro a hd h
  have hb := hd b (by simp)
  unfold isD at hb
  have hb2 := of_decide_eq_true hb
  have hs : stepD a b = a * 10 + (b.toNat - 48) := by unfold stepD; omega
  have hge := foldD_ge l (stepD a b)
  show Lib.parseUint10 a (b :: l) = if l.foldl stepD (stepD a b) < _ then .ok (l.foldl stepD (stepD a b)) else .range
  unfold Lib.parseUint10
  rw [if_pos hb2]
  by_cases h1 : 1844674407370955162 ≤ a
  ·rw [if_pos h1, if_neg (by omega)]
  ·rw [if_neg h1]
   by_cases h2 : 18446744073709551616 ≤ a * 10 + (b.toNat - 48)
   ·rw [if_pos h2, if_neg (by omega)]
   ·rw [if_neg h2, ← hs]
    exact ih _ (fun c hc => hd c (by simp [hc])) (by omega)
theorem cntV_eq (s : ByteArray) : cntV s = s.data.toList.foldl stepD 0 := rfl
/-- What Atoi tells of digits. -/
theorem atoi_digits (s : ByteArray) (h0 : 0 < s.size) (hd : ∀ b ∈ s.data.toList, isD b = true) : Lib.atoiAll s.data.toList = if cntV s < 9223372036854775808 then .ok (cntV s : Int) else .range := by
 rw [cntV_eq]
 have hl : 0 < s.data.toList.length := by simpa using h0
 generalize s.data.toList = l at *
 cases l with
 | nil => simp at hl
 | cons c r =>
  have hc := of_decide_eq_true (hd c (by simp))
  rw [Lib.atoiAll_plain c r (by omega) (by omega)]
  unfold Lib.parseMag
  rw [if_neg (by simp), pu10 _ 0 hd (by omega)]
  by_cases h : (c :: r).foldl stepD 0 < 18446744073709551616
  ·rw [if_pos h]
   unfold Lib.signless
   by_cases h2 : (c :: r).foldl stepD 0 < 9223372036854775808
   ·rw [if_pos h2]
    dsimp only
    rw [if_neg (by omega)]
   ·rw [if_neg h2]
    dsimp only
    rw [if_pos (by omega)]
  ·rw [if_neg h, if_neg (by omega)]
   rfl
def digs : List UInt8 := [48, 49, 50, 51, 52, 53, 54, 55, 56, 57]
theorem digs_has (b : UInt8) : digs.contains b = isD b := by
 have : ∀ n : Fin 256, digs.contains (UInt8.ofNat n.val) = isD (UInt8.ofNat n.val) := by decide +kernel
 have h := this ⟨b.toNat, UInt8.toNat_lt b⟩
 simpa using h
theorem dw_nil {α : Type} (p : α → Bool) : ∀ l : List α, l.dropWhile p = [] ↔ ∀ x ∈ l, p x = true
 | [] => by simp
 | a :: l => by
  by_cases h : p a = true
  ·rw [List.dropWhile_cons_of_pos h, dw_nil p l]
   simp [h]
  ·rw [List.dropWhile_cons_of_neg h]
   simp [h]
/-- Nothing is left of digits alone, and something of all else. -/
theorem trim_digits (l : List UInt8) : Lib.trimS l digs = [] ↔ ∀ b ∈ l, isD b = true := by
 unfold Lib.trimS Lib.trimLeftS Lib.trimRightS
 constructor
 ·intro h b hb
  by_cases hq : isD b = true
  ·exact hq
  ·exfalso
   have h1 : ∀ x ∈ (l.reverse.dropWhile (digs.contains ·)).reverse, digs.contains x = true := by
    intro x hx
    rw [dw_nil] at h
    exact h x hx
   have h2 : l.reverse.dropWhile (digs.contains ·) = [] := by
    cases hw : l.reverse.dropWhile (digs.contains ·) with
    | nil => rfl
    | cons y ys =>
     exfalso
     have hy : ¬ digs.contains y = true := by
      have := List.head?_dropWhile_not (digs.contains ·) l.reverse
      rw [hw] at this
      simpa using this
     exact hy (h1 y (by rw [hw]; simp))
   rw [dw_nil] at h2
   have := h2 b (by simpa using hb)
   rw [digs_has] at this
   exact hq this
 ·intro h
  have h2 : l.reverse.dropWhile (digs.contains ·) = [] := by
   rw [dw_nil]
   intro x hx
   rw [digs_has]
   exact h x (by simpa using hx)
  rw [h2]
  rfl
def allD (s : ByteArray) : Bool := s.data.toList.all isD
theorem isCnt_eq (s : ByteArray) : isCnt s = (allD s && (decide (s.size = 1) || decide (¬ bt s 0 = 48))) := rfl
theorem allD_iff (s : ByteArray) : allD s = true ↔ ∀ b ∈ s.data.toList, isD b = true := by unfold allD; rw [List.all_eq_true]

end Go.Proofs.YthkamfddbiheoaaGreatDoor
