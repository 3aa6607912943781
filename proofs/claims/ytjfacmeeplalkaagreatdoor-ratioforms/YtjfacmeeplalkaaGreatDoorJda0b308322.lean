/-
  Texts of mine, joined: what lies beneath the statement.
-/
import Derived.Test.YtjfacmeeplalkaaGreatDoorJ830739062d
import Derived.Test.YtjfacmeeplalkaaGreatDoorJ15695e1444
/-
 Right of anything of up to 8 limbs above and below, as the program answers it and as the document does: the same.
-/
namespace Go.Proofs.YtjfacmeeplalkaaGreatDoor
open Go.RowKit
set_option linter.unusedVariables false
set_option linter.unusedSimpArgs false

/-- May these limbs be a number? -/
def rqB (p : Bool) (f : Nat → Int) (n : Nat) (g : Nat → Int) (m : Nat) : Bool :=
 (rightB f n && !(p && decide (num f n = 0))) && rightB g m && !decide (num g m = 0) && decide (Nat.gcd (num f n) (num g m) = 1)
theorem num_none (f : Nat → Int) : num f 0 = 0 := by
 unfold num; rfl
theorem right_none {f : Nat → Int} {n : Nat} (hf : U64 n f) (h : rightB f n = true) (h0 : num f n = 0) : n = 0 := by
 have := (right_form f n hf h).1; rw [h0, nl_zero] at this; exact this

set_option maxRecDepth 20000 in
set_option maxHeartbeats 1000000 in
theorem qright_1 (p : Bool) (ao : Option Addr) (n c : Nat) (bo : Option Addr) (m d : Nat) (f g : Nat → Int) (w : World) (h1 : Nums .u64 w (.slice ao n c) n f) (f1 : U64 n f) (k1 : n ≤ 8) (h2 : Nums .u64 w (.slice bo m d) m g) (f2 : U64 m g) (k2 : m ≤ 8) (ht : Tab w) (hA : (rightB f n && !(p && decide (num f n = 0))) = false) :
  Calls Tryz.prog 13 #[.agg #[.bool p, .slice ao n c, .slice bo m d]] w fun e w' => e = .returned (.bool false) ∧ Below w.heap.size w w' := by
 have BB : Below w.heap.size w w := Below.refl _ _
 obtain ⟨Wb0, hW0, hS0, hL0, VA⟩ := V3.lay w 27 (.bool p) (.slice ao n c) (.slice bo m d)
 replace h1 := h1.below hL0
 replace h2 := h2.below hL0
 replace ht := ht.below hL0
 replace BB := BB.trans (hL0.mono BB.size)
 clear hL0
 go_enter Tryz.func13, Tryz.ntmps13
 go_wp2_with fail
 rw [← hW0]
 clear hW0 hS0
 refine (wright_any p ao n c f _ h1 f1).mono ?_
 rintro e w1 ⟨rfl, b1⟩
 replace h1 := h1.below b1
 replace h2 := h2.below b1
 replace ht := ht.below b1
 replace VA := VA.below b1
 replace BB := BB.trans (b1.mono BB.size)
 clear b1
 rw [hA]
 go_wp2
 go_ret
 exact ⟨rfl, BB⟩

set_option maxRecDepth 20000 in
set_option maxHeartbeats 1000000 in
theorem qright_2 (p : Bool) (ao : Option Addr) (n c : Nat) (bo : Option Addr) (m d : Nat) (f g : Nat → Int) (w : World) (h1 : Nums .u64 w (.slice ao n c) n f) (f1 : U64 n f) (k1 : n ≤ 8) (h2 : Nums .u64 w (.slice bo m d) m g) (f2 : U64 m g) (k2 : m ≤ 8) (ht : Tab w) (hA : (rightB f n && !(p && decide (num f n = 0))) = true) (hB : rightB g m = false) :
  Calls Tryz.prog 13 #[.agg #[.bool p, .slice ao n c, .slice bo m d]] w fun e w' => e = .returned (.bool false) ∧ Below w.heap.size w w' := by
 have BB : Below w.heap.size w w := Below.refl _ _
 obtain ⟨Wb0, hW0, hS0, hL0, VA⟩ := V3.lay w 27 (.bool p) (.slice ao n c) (.slice bo m d)
 replace h1 := h1.below hL0
 replace h2 := h2.below hL0
 replace ht := ht.below hL0
 replace BB := BB.trans (hL0.mono BB.size)
 clear hL0
 go_enter Tryz.func13, Tryz.ntmps13
 go_wp2_with fail
 rw [← hW0]
 clear hW0 hS0
 refine (wright_any p ao n c f _ h1 f1).mono ?_
 rintro e w1 ⟨rfl, b1⟩
 replace h1 := h1.below b1
 replace h2 := h2.below b1
 replace ht := ht.below b1
 replace VA := VA.below b1
 replace BB := BB.trans (b1.mono BB.size)
 clear b1
 rw [hA]
 obtain ⟨VA_0, VA_1, VA_2, VA_3, VA_4, VA_5⟩ := id VA
 go_wp2_with fail
 clear VA_0 VA_1 VA_2 VA_3 VA_4 VA_5
 refine (right_any _ _ _ _ h2).mono ?_
 rintro e wx ⟨rfl, hwx⟩
 replace hwx := hwx.symm
 subst hwx
 rw [hB]
 go_wp2
 go_ret
 exact ⟨rfl, BB⟩

set_option maxRecDepth 20000 in
set_option maxHeartbeats 1000000 in
theorem qright_3 (p : Bool) (ao : Option Addr) (n c : Nat) (bo : Option Addr) (m d : Nat) (f g : Nat → Int) (w : World) (h1 : Nums .u64 w (.slice ao n c) n f) (f1 : U64 n f) (k1 : n ≤ 8) (h2 : Nums .u64 w (.slice bo m d) m g) (f2 : U64 m g) (k2 : m ≤ 8) (ht : Tab w) (hA : (rightB f n && !(p && decide (num f n = 0))) = true) (hB : rightB g m = true) (hC : num g m = 0) :
  Calls Tryz.prog 13 #[.agg #[.bool p, .slice ao n c, .slice bo m d]] w fun e w' => e = .returned (.bool false) ∧ Below w.heap.size w w' := by
 have BB : Below w.heap.size w w := Below.refl _ _
 obtain ⟨Wb0, hW0, hS0, hL0, VA⟩ := V3.lay w 27 (.bool p) (.slice ao n c) (.slice bo m d)
 replace h1 := h1.below hL0
 replace h2 := h2.below hL0
 replace ht := ht.below hL0
 replace BB := BB.trans (hL0.mono BB.size)
 clear hL0
 go_enter Tryz.func13, Tryz.ntmps13
 go_wp2_with fail
 rw [← hW0]
 clear hW0 hS0
 refine (wright_any p ao n c f _ h1 f1).mono ?_
 rintro e w1 ⟨rfl, b1⟩
 replace h1 := h1.below b1
 replace h2 := h2.below b1
 replace ht := ht.below b1
 replace VA := VA.below b1
 replace BB := BB.trans (b1.mono BB.size)
 clear b1
 rw [hA]
 obtain ⟨VA_0, VA_1, VA_2, VA_3, VA_4, VA_5⟩ := id VA
 go_wp2_with fail
 clear VA_0 VA_1 VA_2 VA_3 VA_4 VA_5
 refine (right_any _ _ _ _ h2).mono ?_
 rintro e wx ⟨rfl, hwx⟩
 replace hwx := hwx.symm
 subst hwx
 rw [hB]
 obtain ⟨VA_0, VA_1, VA_2, VA_3, VA_4, VA_5⟩ := id VA
 go_wp2_with fail
 clear VA_0 VA_1 VA_2 VA_3 VA_4 VA_5
 refine (nzero_at _ (num g m) 8 _ ⟨_, _, h2, f2, rfl, k2⟩).mono ?_
 rintro e wx ⟨rfl, hwx⟩
 replace hwx := hwx.symm
 subst hwx
 rw [decide_eq_true hC]
 go_wp2
 go_ret
 exact ⟨rfl, BB⟩

set_option maxRecDepth 20000 in
set_option maxHeartbeats 1000000 in
theorem qright_4 (p : Bool) (ao : Option Addr) (n c : Nat) (bo : Option Addr) (m d : Nat) (f g : Nat → Int) (w : World) (h1 : Nums .u64 w (.slice ao n c) n f) (f1 : U64 n f) (k1 : n ≤ 8) (h2 : Nums .u64 w (.slice bo m d) m g) (f2 : U64 m g) (k2 : m ≤ 8) (ht : Tab w) (hA : (rightB f n && !(p && decide (num f n = 0))) = true) (hB : rightB g m = true) (hC : num g m ≠ 0) :
  Calls Tryz.prog 13 #[.agg #[.bool p, .slice ao n c, .slice bo m d]] w fun e w' => e = .returned (.bool (decide (Nat.gcd (num f n) (num g m) = 1))) ∧ Below w.heap.size w w' := by
 have BB : Below w.heap.size w w := Below.refl _ _
 obtain ⟨Wb0, hW0, hS0, hL0, VA⟩ := V3.lay w 27 (.bool p) (.slice ao n c) (.slice bo m d)
 replace h1 := h1.below hL0
 replace h2 := h2.below hL0
 replace ht := ht.below hL0
 replace BB := BB.trans (hL0.mono BB.size)
 clear hL0
 go_enter Tryz.func13, Tryz.ntmps13
 go_wp2_with fail
 rw [← hW0]
 clear hW0 hS0
 refine (wright_any p ao n c f _ h1 f1).mono ?_
 rintro e w1 ⟨rfl, b1⟩
 replace h1 := h1.below b1
 replace h2 := h2.below b1
 replace ht := ht.below b1
 replace VA := VA.below b1
 replace BB := BB.trans (b1.mono BB.size)
 clear b1
 rw [hA]
 obtain ⟨VA_0, VA_1, VA_2, VA_3, VA_4, VA_5⟩ := id VA
 go_wp2_with fail
 clear VA_0 VA_1 VA_2 VA_3 VA_4 VA_5
 refine (right_any _ _ _ _ h2).mono ?_
 rintro e wx ⟨rfl, hwx⟩
 replace hwx := hwx.symm
 subst hwx
 rw [hB]
 obtain ⟨VA_0, VA_1, VA_2, VA_3, VA_4, VA_5⟩ := id VA
 go_wp2_with fail
 clear VA_0 VA_1 VA_2 VA_3 VA_4 VA_5
 refine (nzero_at _ (num g m) 8 _ ⟨_, _, h2, f2, rfl, k2⟩).mono ?_
 rintro e wx ⟨rfl, hwx⟩
 replace hwx := hwx.symm
 subst hwx
 rw [decide_eq_false hC]
 obtain ⟨VA_0, VA_1, VA_2, VA_3, VA_4, VA_5⟩ := id VA
 go_wp2_with fail
 clear VA_0 VA_1 VA_2 VA_3 VA_4 VA_5
 refine (ngcd_at _ _ (num f n) (num g m) 8 8 _ ⟨_, _, h1, f1, rfl, k1⟩ ⟨_, _, h2, f2, rfl, k2⟩ (by omega) (by omega) ht).mono ?_
 rintro e w2 ⟨r, rfl, hr, b2⟩
 replace h1 := h1.below b2
 replace h2 := h2.below b2
 replace ht := ht.below b2
 replace VA := VA.below b2
 replace BB := BB.trans (b2.mono BB.size)
 clear b2
 go_wp2_with fail
 refine (isOne_at _ _ _ _ (hr.at _ (Nat.le_refl _))).mono ?_
 rintro e w3 ⟨rfl, b3⟩
 replace h1 := h1.below b3
 replace h2 := h2.below b3
 replace ht := ht.below b3
 replace hr := hr.below b3
 replace VA := VA.below b3
 replace BB := BB.trans (b3.mono BB.size)
 clear b3
 go_wp2
 go_ret
 exact ⟨rfl, BB⟩

theorem qright_at (p : Bool) (ao : Option Addr) (n c : Nat) (bo : Option Addr) (m d : Nat) (f g : Nat → Int) (w : World) (h1 : Nums .u64 w (.slice ao n c) n f) (f1 : U64 n f) (k1 : n ≤ 8) (h2 : Nums .u64 w (.slice bo m d) m g) (f2 : U64 m g) (k2 : m ≤ 8) (ht : Tab w) : Calls Tryz.prog 13 #[.agg #[.bool p, .slice ao n c, .slice bo m d]] w fun e w' => e = .returned (.bool (rqB p f n g m)) ∧ Below w.heap.size w w' := by
 unfold rqB
 rcases Bool.eq_false_or_eq_true (rightB f n && !(p && decide (num f n = 0))) with hA | hA
 ·rcases Bool.eq_false_or_eq_true (rightB g m) with hB | hB
  ·by_cases hC : num g m = 0
   ·rw [hA, hB, decide_eq_true hC]; exact qright_3 p ao n c bo m d f g w h1 f1 k1 h2 f2 k2 ht hA hB hC
   ·rw [hA, hB, decide_eq_false hC]; exact qright_4 p ao n c bo m d f g w h1 f1 k1 h2 f2 k2 ht hA hB hC
  ·rw [hA, hB]; exact qright_2 p ao n c bo m d f g w h1 f1 k1 h2 f2 k2 ht hA hB
 ·rw [hA]; simpa using qright_1 p ao n c bo m d f g w h1 f1 k1 h2 f2 k2 ht hA

set_option maxRecDepth 20000 in
set_option maxHeartbeats 1000000 in
theorem jright_1 (p : Bool) (ao : Option Addr) (n c : Nat) (bo : Option Addr) (m d : Nat) (f g : Nat → Int) (w : World) (h1 : Nums .u64 w (.slice ao n c) n f) (f1 : U64 n f) (k1 : n ≤ 8) (h2 : Nums .u64 w (.slice bo m d) m g) (f2 : U64 m g) (k2 : m ≤ 8) (hF : rightB f n = false) :
  Calls Tryz.prog 14 #[.agg #[.bool p, .slice ao n c, .slice bo m d]] w fun e w' => e = .returned (.bool false) ∧ Below w.heap.size w w' := by
 have BB : Below w.heap.size w w := Below.refl _ _
 obtain ⟨Wb0, hW0, hS0, hL0, VA⟩ := V3.lay w 27 (.bool p) (.slice ao n c) (.slice bo m d)
 replace h1 := h1.below hL0
 replace h2 := h2.below hL0
 replace BB := BB.trans (hL0.mono BB.size)
 clear hL0
 go_enter Tryz.func14, Tryz.ntmps14
 go_wp2_with fail
 rw [← hW0]
 clear hW0 hS0
 refine (refRight_any _ _ _ _ h1).mono ?_
 rintro e wx ⟨rfl, hwx⟩
 replace hwx := hwx.symm
 subst hwx
 rw [hF]
 go_wp2
 go_ret
 exact ⟨rfl, BB⟩

set_option maxRecDepth 20000 in
set_option maxHeartbeats 1000000 in
theorem jright_2 (p : Bool) (ao : Option Addr) (n c : Nat) (bo : Option Addr) (m d : Nat) (f g : Nat → Int) (w : World) (h1 : Nums .u64 w (.slice ao n c) n f) (f1 : U64 n f) (k1 : n ≤ 8) (h2 : Nums .u64 w (.slice bo m d) m g) (f2 : U64 m g) (k2 : m ≤ 8) (hF : rightB f n = true) (hG : rightB g m = false) :
  Calls Tryz.prog 14 #[.agg #[.bool p, .slice ao n c, .slice bo m d]] w fun e w' => e = .returned (.bool false) ∧ Below w.heap.size w w' := by
 have BB : Below w.heap.size w w := Below.refl _ _
 obtain ⟨Wb0, hW0, hS0, hL0, VA⟩ := V3.lay w 27 (.bool p) (.slice ao n c) (.slice bo m d)
 replace h1 := h1.below hL0
 replace h2 := h2.below hL0
 replace BB := BB.trans (hL0.mono BB.size)
 clear hL0
 go_enter Tryz.func14, Tryz.ntmps14
 go_wp2_with fail
 rw [← hW0]
 clear hW0 hS0
 refine (refRight_any _ _ _ _ h1).mono ?_
 rintro e wx ⟨rfl, hwx⟩
 replace hwx := hwx.symm
 subst hwx
 rw [hF]
 obtain ⟨VA_0, VA_1, VA_2, VA_3, VA_4, VA_5⟩ := id VA
 go_wp2_with fail
 clear VA_0 VA_1 VA_2 VA_3 VA_4 VA_5
 refine (refRight_any _ _ _ _ h2).mono ?_
 rintro e wx ⟨rfl, hwx⟩
 replace hwx := hwx.symm
 subst hwx
 rw [hG]
 go_wp2
 go_ret
 exact ⟨rfl, BB⟩

set_option maxRecDepth 20000 in
set_option maxHeartbeats 1000000 in
theorem jright_3 (p : Bool) (ao : Option Addr) (n c : Nat) (bo : Option Addr) (d : Nat) (f g : Nat → Int) (w : World) (h1 : Nums .u64 w (.slice ao n c) n f) (f1 : U64 n f) (k1 : n ≤ 8) (h2 : Nums .u64 w (.slice bo 0 d) 0 g) (f2 : U64 0 g) (k2 : 0 ≤ 8) (hF : rightB f n = true) (hG : rightB g 0 = true) :
  Calls Tryz.prog 14 #[.agg #[.bool p, .slice ao n c, .slice bo 0 d]] w fun e w' => e = .returned (.bool false) ∧ Below w.heap.size w w' := by
 have BB : Below w.heap.size w w := Below.refl _ _
 obtain ⟨Wb0, hW0, hS0, hL0, VA⟩ := V3.lay w 27 (.bool p) (.slice ao n c) (.slice bo 0 d)
 replace h1 := h1.below hL0
 replace h2 := h2.below hL0
 replace BB := BB.trans (hL0.mono BB.size)
 clear hL0
 go_enter Tryz.func14, Tryz.ntmps14
 go_wp2_with fail
 rw [← hW0]
 clear hW0 hS0
 refine (refRight_any _ _ _ _ h1).mono ?_
 rintro e wx ⟨rfl, hwx⟩
 replace hwx := hwx.symm
 subst hwx
 rw [hF]
 obtain ⟨VA_0, VA_1, VA_2, VA_3, VA_4, VA_5⟩ := id VA
 go_wp2_with fail
 clear VA_0 VA_1 VA_2 VA_3 VA_4 VA_5
 refine (refRight_any _ _ _ _ h2).mono ?_
 rintro e wx ⟨rfl, hwx⟩
 replace hwx := hwx.symm
 subst hwx
 rw [hG]
 obtain ⟨VA_0, VA_1, VA_2, VA_3, VA_4, VA_5⟩ := id VA
 go_wp2
 clear VA_0 VA_1 VA_2 VA_3 VA_4 VA_5
 go_ret
 exact ⟨rfl, BB⟩

set_option maxRecDepth 20000 in
set_option maxHeartbeats 1000000 in
theorem jright_4 (ao : Option Addr) (c : Nat) (bo : Option Addr) (m d : Nat) (f g : Nat → Int) (w : World) (h1 : Nums .u64 w (.slice ao 0 c) 0 f) (f1 : U64 0 f) (k1 : 0 ≤ 8) (h2 : Nums .u64 w (.slice bo m d) m g) (f2 : U64 m g) (k2 : m ≤ 8) (hF : rightB f 0 = true) (hG : rightB g m = true) (hm : m ≠ 0) :
  Calls Tryz.prog 14 #[.agg #[.bool true, .slice ao 0 c, .slice bo m d]] w fun e w' => e = .returned (.bool false) ∧ Below w.heap.size w w' := by
 have hmb : ((m : Int) == 0) = false := by simp; omega
 have BB : Below w.heap.size w w := Below.refl _ _
 obtain ⟨Wb0, hW0, hS0, hL0, VA⟩ := V3.lay w 27 (.bool true) (.slice ao 0 c) (.slice bo m d)
 replace h1 := h1.below hL0
 replace h2 := h2.below hL0
 replace BB := BB.trans (hL0.mono BB.size)
 clear hL0
 go_enter Tryz.func14, Tryz.ntmps14
 go_wp2_with fail
 rw [← hW0]
 clear hW0 hS0
 refine (refRight_any _ _ _ _ h1).mono ?_
 rintro e wx ⟨rfl, hwx⟩
 replace hwx := hwx.symm
 subst hwx
 rw [hF]
 obtain ⟨VA_0, VA_1, VA_2, VA_3, VA_4, VA_5⟩ := id VA
 go_wp2_with fail
 clear VA_0 VA_1 VA_2 VA_3 VA_4 VA_5
 refine (refRight_any _ _ _ _ h2).mono ?_
 rintro e wx ⟨rfl, hwx⟩
 replace hwx := hwx.symm
 subst hwx
 rw [hG]
 obtain ⟨VA_0, VA_1, VA_2, VA_3, VA_4, VA_5⟩ := id VA
 go_wp2
 clear VA_0 VA_1 VA_2 VA_3 VA_4 VA_5
 go_ret
 exact ⟨rfl, BB⟩

set_option maxRecDepth 20000 in
set_option maxHeartbeats 1000000 in
theorem jright_5 (ao : Option Addr) (c : Nat) (bo : Option Addr) (m d : Nat) (f g : Nat → Int) (w : World) (h1 : Nums .u64 w (.slice ao 0 c) 0 f) (f1 : U64 0 f) (k1 : 0 ≤ 8) (h2 : Nums .u64 w (.slice bo m d) m g) (f2 : U64 m g) (k2 : m ≤ 8) (hF : rightB f 0 = true) (hG : rightB g m = true) (hm : m ≠ 0) :
  Calls Tryz.prog 14 #[.agg #[.bool false, .slice ao 0 c, .slice bo m d]] w fun e w' => e = .returned (.bool (decide (Nat.gcd (num f 0) (num g m) = 1))) ∧ Below w.heap.size w w' := by
 have hmb : ((m : Int) == 0) = false := by simp; omega
 have l1 : nl W32 (num f 0) ≤ 8 := NatAt.nl (w := w) (v := .slice ao 0 c) ⟨_, _, h1, f1, rfl, k1⟩
 have l2 : nl W32 (num g m) ≤ 8 := NatAt.nl (w := w) (v := .slice bo m d) ⟨_, _, h2, f2, rfl, k2⟩
 have HQ : Hid ((cmpI ((Nat.gcd (num f 0) (num g m) : Nat) : Int) ((1 : Nat) : Int) == 0) = decide (Nat.gcd (num f 0) (num g m) = 1)) := by
  have := cmpI_zero ((Nat.gcd (num f 0) (num g m) : Nat) : Int) ((1 : Nat) : Int)
  exact this.trans (by rw [Bool.eq_iff_iff]; simp only [decide_eq_true_eq]; omega)
 have BB : Below w.heap.size w w := Below.refl _ _
 obtain ⟨Wb0, hW0, hS0, hL0, VA⟩ := V3.lay w 27 (.bool false) (.slice ao 0 c) (.slice bo m d)
 replace h1 := h1.below hL0
 replace h2 := h2.below hL0
 replace BB := BB.trans (hL0.mono BB.size)
 clear hL0
 go_enter Tryz.func14, Tryz.ntmps14
 go_wp2_with fail
 rw [← hW0]
 clear hW0 hS0
 refine (refRight_any _ _ _ _ h1).mono ?_
 rintro e wx ⟨rfl, hwx⟩
 replace hwx := hwx.symm
 subst hwx
 rw [hF]
 obtain ⟨VA_0, VA_1, VA_2, VA_3, VA_4, VA_5⟩ := id VA
 go_wp2_with fail
 clear VA_0 VA_1 VA_2 VA_3 VA_4 VA_5
 refine (refRight_any _ _ _ _ h2).mono ?_
 rintro e wx ⟨rfl, hwx⟩
 replace hwx := hwx.symm
 subst hwx
 rw [hG]
 obtain ⟨VA_0, VA_1, VA_2, VA_3, VA_4, VA_5⟩ := id VA
 go_wp2
 clear VA_0 VA_1 VA_2 VA_3 VA_4 VA_5
 have hDr : Below Wb0.heap.size Wb0 Wb0.drew := (Below.refl _ _).drew
 replace h1 := h1.below hDr
 replace h2 := h2.below hDr
 replace VA := VA.below hDr
 replace BB := BB.trans (hDr.mono BB.size)
 clear hDr
 refine wp_region_held_drew (S := (fun w' => w'.cell? ⟨w.heap.size, 0, none⟩ = some (.bool false) ∧ w'.cell? ⟨w.heap.size, 1, none⟩ = some (.slice ao 0 c) ∧ w'.cell? ⟨w.heap.size, 2, none⟩ = some (.slice bo m d))) (by kernel_rfl) ?_ (fun hHeld => ?_)
 ·exact ⟨VA.1, VA.2.1, VA.2.2.1⟩
 generalize Wb0.drew = W1 at *
 refine wpAnyH_take (i := 0) (v := ?_) (by simp only [xL1, xL2, xL3]; rfl) (by kernel_rfl) (by kernel_rfl) (by kernel_rfl) (by exact fun _ _ _ h => h) (Or.inl ⟨by rfl, ?_⟩) (by assumption) ?_
 rotate_left
 ·(intro w hSw; (try dsimp only at hSw); go_simp; (try with_reducible rfl))
 (try simp only [Act.put, xL4, xL5, xL6])
 refine wpAnyH_take (i := 1) (v := ?_) (by simp only [xL1, xL2, xL3]; rfl) (by kernel_rfl) (by kernel_rfl) (by kernel_rfl) (by exact fun _ _ _ h => h) (Or.inl ⟨by rfl, ?_⟩) (by assumption) ?_
 rotate_left
 ·(intro w hSw; (try dsimp only at hSw); go_simp; (try with_reducible rfl))
 (try simp only [Act.put, xL4, xL5, xL6])
 refine wpAnyH_take (i := 2) (v := ?_) (by simp only [xL1, xL2, xL3]; rfl) (by kernel_rfl) (by kernel_rfl) (by kernel_rfl) (by exact fun _ _ _ h => h) (Or.inl ⟨by rfl, ?_⟩) (by assumption) ?_
 rotate_left
 ·(intro w hSw; (try dsimp only at hSw); go_simp; (try with_reducible rfl))
 (try simp only [Act.put, xL4, xL5, xL6])
 refine wpAnyH_take (i := 4) (v := ?_) (by simp only [xL1, xL2, xL3]; rfl) (by kernel_rfl) (by kernel_rfl) (by kernel_rfl) (by exact fun _ _ _ h => h) (Or.inl ⟨by rfl, ?_⟩) (by assumption) ?_
 rotate_left
 ·(intro w hSw; (try dsimp only at hSw); go_simp; (try with_reducible rfl))
 (try simp only [Act.put, xL4, xL5, xL6])
 refine wpAnyH_take (i := 5) (v := ?_) (by simp only [xL1, xL2, xL3]; rfl) (by kernel_rfl) (by kernel_rfl) (by kernel_rfl) (by exact fun _ _ _ h => h) (Or.inl ⟨by rfl, ?_⟩) (by assumption) ?_
 rotate_left
 ·(intro w hSw; (try dsimp only at hSw); go_simp; (try with_reducible rfl))
 (try simp only [Act.put, xL4, xL5, xL6])
 refine wpAnyH_ready (rs := [3]) (by kernel_rfl) (by simp) ?_
 refine AllReadyH.cons (by simp only [xL1, xL2, xL3]; rfl) (fun K hK => ?_) AllReadyH.nil
 go_simp
 refine (nfrom_at _ (num f 0) 8 _ ⟨_, _, h1, f1, rfl, k1⟩ (by omega)).mono ?_
 rintro e w1 ⟨e1, rfl, g1, b1⟩
 go_wp2_with fail
 replace h1 := h1.below b1
 replace h2 := h2.below b1
 replace VA := VA.below b1
 replace BB := BB.trans (b1.mono BB.size)
 clear b1
 refine hK.out _ _ ?_ (fun hH1 => ?_)
 ·exact ⟨VA.1, VA.2.1, VA.2.2.1⟩
 clear hK K hHeld
 (try simp only [Act.put, xL4, xL5, xL6])
 refine wpAnyH_ready (rs := [6]) (by kernel_rfl) (by simp) ?_
 refine AllReadyH.cons (by simp only [xL1, xL2, xL3]; rfl) (fun K hK => ?_) AllReadyH.nil
 go_simp
 refine (nfrom_at _ (num g m) 8 _ ⟨_, _, h2, f2, rfl, k2⟩ (by omega)).mono ?_
 rintro e w2 ⟨e2, rfl, g2, b2⟩
 go_wp2_with fail
 replace h1 := h1.below b2
 replace h2 := h2.below b2
 replace g1 := g1.below b2
 replace VA := VA.below b2
 replace BB := BB.trans (b2.mono BB.size)
 clear b2
 refine hK.out _ _ ?_ (fun hH2 => ?_)
 ·exact ⟨VA.1, VA.2.1, VA.2.2.1⟩
 clear hK K hH1
 (try simp only [Act.put, xL4, xL5, xL6])
 refine wpAnyH_ready (rs := [7]) (by kernel_rfl) (by simp) ?_
 refine AllReadyH.cons (by simp only [xL1, xL2, xL3]; rfl) (fun K hK => ?_) AllReadyH.nil
 go_simp
 refine (rgcd_any _ _ _ _ _ g1 g2 (Nat.le_trans (nl10_le _ _ l1) (by omega)) (Nat.le_trans (nl10_le _ _ l2) (by omega))).mono ?_
 rintro e w3 ⟨e3, rfl, g3, b3⟩
 go_wp2_with fail
 replace h1 := h1.below b3
 replace h2 := h2.below b3
 replace g1 := g1.below b3
 replace g2 := g2.below b3
 replace VA := VA.below b3
 replace BB := BB.trans (b3.mono BB.size)
 clear b3
 refine hK.out _ _ ?_ (fun hH3 => ?_)
 ·exact ⟨VA.1, VA.2.1, VA.2.2.1⟩
 clear hK K hH2
 (try simp only [Act.put, xL4, xL5, xL6])
 refine wpAnyH_take (i := 8) (v := ?_) (by simp only [xL1, xL2, xL3]; rfl) (by kernel_rfl) (by kernel_rfl) (by kernel_rfl) (by exact fun _ _ _ h => h) (Or.inl ⟨by rfl, ?_⟩) (by assumption) ?_
 rotate_left
 ·(intro w hSw; (try dsimp only at hSw); go_simp; (try with_reducible rfl))
 (try simp only [Act.put, xL4, xL5, xL6])
 refine wpAnyH_done (by kernel_rfl) ?_ _
 clear hH3
 go_wp2_with fail
 refine (small_any 1 _ (by omega)).mono ?_
 rintro e w4 ⟨e4, rfl, g4, b4⟩
 replace h1 := h1.below b4
 replace h2 := h2.below b4
 replace g1 := g1.below b4
 replace g2 := g2.below b4
 replace g3 := g3.below b4
 replace VA := VA.below b4
 replace BB := BB.trans (b4.mono BB.size)
 clear b4
 go_wp2_with fail
 refine (order_any _ _ _ 1 _ g3 g4).mono ?_
 rintro e w5 ⟨rfl, b5⟩
 replace h1 := h1.below b5
 replace h2 := h2.below b5
 replace g1 := g1.below b5
 replace g2 := g2.below b5
 replace g3 := g3.below b5
 replace g4 := g4.below b5
 replace VA := VA.below b5
 replace BB := BB.trans (b5.mono BB.size)
 clear b5
 generalize cmpI ((Nat.gcd (num f 0) (num g m) : Nat) : Int) ((1 : Nat) : Int) = cc at HQ ⊢
 go_wp2
 go_ret
 exact ⟨by rw [← HQ.out]; rfl, BB⟩

set_option maxRecDepth 20000 in
set_option maxHeartbeats 1000000 in
theorem jright_6 (p : Bool) (ao : Option Addr) (n c : Nat) (bo : Option Addr) (m d : Nat) (f g : Nat → Int) (w : World) (h1 : Nums .u64 w (.slice ao n c) n f) (f1 : U64 n f) (k1 : n ≤ 8) (h2 : Nums .u64 w (.slice bo m d) m g) (f2 : U64 m g) (k2 : m ≤ 8) (hF : rightB f n = true) (hG : rightB g m = true) (hm : m ≠ 0) (hn : n ≠ 0) :
  Calls Tryz.prog 14 #[.agg #[.bool p, .slice ao n c, .slice bo m d]] w fun e w' => e = .returned (.bool (decide (Nat.gcd (num f n) (num g m) = 1))) ∧ Below w.heap.size w w' := by
 have hmb : ((m : Int) == 0) = false := by simp; omega
 have hnb : ((n : Int) == 0) = false := by simp; omega
 have l1 : nl W32 (num f n) ≤ 8 := NatAt.nl (w := w) (v := .slice ao n c) ⟨_, _, h1, f1, rfl, k1⟩
 have l2 : nl W32 (num g m) ≤ 8 := NatAt.nl (w := w) (v := .slice bo m d) ⟨_, _, h2, f2, rfl, k2⟩
 have HQ : Hid ((cmpI ((Nat.gcd (num f n) (num g m) : Nat) : Int) ((1 : Nat) : Int) == 0) = decide (Nat.gcd (num f n) (num g m) = 1)) := by
  have := cmpI_zero ((Nat.gcd (num f n) (num g m) : Nat) : Int) ((1 : Nat) : Int)
  exact this.trans (by rw [Bool.eq_iff_iff]; simp only [decide_eq_true_eq]; omega)
 have BB : Below w.heap.size w w := Below.refl _ _
 obtain ⟨Wb0, hW0, hS0, hL0, VA⟩ := V3.lay w 27 (.bool p) (.slice ao n c) (.slice bo m d)
 replace h1 := h1.below hL0
 replace h2 := h2.below hL0
 replace BB := BB.trans (hL0.mono BB.size)
 clear hL0
 go_enter Tryz.func14, Tryz.ntmps14
 go_wp2_with fail
 rw [← hW0]
 clear hW0 hS0
 refine (refRight_any _ _ _ _ h1).mono ?_
 rintro e wx ⟨rfl, hwx⟩
 replace hwx := hwx.symm
 subst hwx
 rw [hF]
 obtain ⟨VA_0, VA_1, VA_2, VA_3, VA_4, VA_5⟩ := id VA
 go_wp2_with fail
 clear VA_0 VA_1 VA_2 VA_3 VA_4 VA_5
 refine (refRight_any _ _ _ _ h2).mono ?_
 rintro e wx ⟨rfl, hwx⟩
 replace hwx := hwx.symm
 subst hwx
 rw [hG]
 obtain ⟨VA_0, VA_1, VA_2, VA_3, VA_4, VA_5⟩ := id VA
 go_wp2
 clear VA_0 VA_1 VA_2 VA_3 VA_4 VA_5
 have hDr : Below Wb0.heap.size Wb0 Wb0.drew := (Below.refl _ _).drew
 replace h1 := h1.below hDr
 replace h2 := h2.below hDr
 replace VA := VA.below hDr
 replace BB := BB.trans (hDr.mono BB.size)
 clear hDr
 refine wp_region_held_drew (S := (fun w' => w'.cell? ⟨w.heap.size, 0, none⟩ = some (.bool p) ∧ w'.cell? ⟨w.heap.size, 1, none⟩ = some (.slice ao n c) ∧ w'.cell? ⟨w.heap.size, 2, none⟩ = some (.slice bo m d))) (by kernel_rfl) ?_ (fun hHeld => ?_)
 ·exact ⟨VA.1, VA.2.1, VA.2.2.1⟩
 generalize Wb0.drew = W1 at *
 refine wpAnyH_take (i := 0) (v := ?_) (by simp only [xL1, xL2, xL3]; rfl) (by kernel_rfl) (by kernel_rfl) (by kernel_rfl) (by exact fun _ _ _ h => h) (Or.inl ⟨by rfl, ?_⟩) (by assumption) ?_
 rotate_left
 ·(intro w hSw; (try dsimp only at hSw); go_simp; (try with_reducible rfl))
 (try simp only [Act.put, xL4, xL5, xL6])
 refine wpAnyH_take (i := 1) (v := ?_) (by simp only [xL1, xL2, xL3]; rfl) (by kernel_rfl) (by kernel_rfl) (by kernel_rfl) (by exact fun _ _ _ h => h) (Or.inl ⟨by rfl, ?_⟩) (by assumption) ?_
 rotate_left
 ·(intro w hSw; (try dsimp only at hSw); go_simp; (try with_reducible rfl))
 (try simp only [Act.put, xL4, xL5, xL6])
 refine wpAnyH_take (i := 2) (v := ?_) (by simp only [xL1, xL2, xL3]; rfl) (by kernel_rfl) (by kernel_rfl) (by kernel_rfl) (by exact fun _ _ _ h => h) (Or.inl ⟨by rfl, ?_⟩) (by assumption) ?_
 rotate_left
 ·(intro w hSw; (try dsimp only at hSw); go_simp; (try with_reducible rfl))
 (try simp only [Act.put, xL4, xL5, xL6])
 refine wpAnyH_take (i := 4) (v := ?_) (by simp only [xL1, xL2, xL3]; rfl) (by kernel_rfl) (by kernel_rfl) (by kernel_rfl) (by exact fun _ _ _ h => h) (Or.inl ⟨by rfl, ?_⟩) (by assumption) ?_
 rotate_left
 ·(intro w hSw; (try dsimp only at hSw); go_simp; (try with_reducible rfl))
 (try simp only [Act.put, xL4, xL5, xL6])
 refine wpAnyH_take (i := 5) (v := ?_) (by simp only [xL1, xL2, xL3]; rfl) (by kernel_rfl) (by kernel_rfl) (by kernel_rfl) (by exact fun _ _ _ h => h) (Or.inl ⟨by rfl, ?_⟩) (by assumption) ?_
 rotate_left
 ·(intro w hSw; (try dsimp only at hSw); go_simp; (try with_reducible rfl))
 (try simp only [Act.put, xL4, xL5, xL6])
 refine wpAnyH_ready (rs := [3]) (by kernel_rfl) (by simp) ?_
 refine AllReadyH.cons (by simp only [xL1, xL2, xL3]; rfl) (fun K hK => ?_) AllReadyH.nil
 go_simp
 refine (nfrom_at _ (num f n) 8 _ ⟨_, _, h1, f1, rfl, k1⟩ (by omega)).mono ?_
 rintro e w1 ⟨e1, rfl, g1, b1⟩
 go_wp2_with fail
 replace h1 := h1.below b1
 replace h2 := h2.below b1
 replace VA := VA.below b1
 replace BB := BB.trans (b1.mono BB.size)
 clear b1
 refine hK.out _ _ ?_ (fun hH1 => ?_)
 ·exact ⟨VA.1, VA.2.1, VA.2.2.1⟩
 clear hK K hHeld
 (try simp only [Act.put, xL4, xL5, xL6])
 refine wpAnyH_ready (rs := [6]) (by kernel_rfl) (by simp) ?_
 refine AllReadyH.cons (by simp only [xL1, xL2, xL3]; rfl) (fun K hK => ?_) AllReadyH.nil
 go_simp
 refine (nfrom_at _ (num g m) 8 _ ⟨_, _, h2, f2, rfl, k2⟩ (by omega)).mono ?_
 rintro e w2 ⟨e2, rfl, g2, b2⟩
 go_wp2_with fail
 replace h1 := h1.below b2
 replace h2 := h2.below b2
 replace g1 := g1.below b2
 replace VA := VA.below b2
 replace BB := BB.trans (b2.mono BB.size)
 clear b2
 refine hK.out _ _ ?_ (fun hH2 => ?_)
 ·exact ⟨VA.1, VA.2.1, VA.2.2.1⟩
 clear hK K hH1
 (try simp only [Act.put, xL4, xL5, xL6])
 refine wpAnyH_ready (rs := [7]) (by kernel_rfl) (by simp) ?_
 refine AllReadyH.cons (by simp only [xL1, xL2, xL3]; rfl) (fun K hK => ?_) AllReadyH.nil
 go_simp
 refine (rgcd_any _ _ _ _ _ g1 g2 (Nat.le_trans (nl10_le _ _ l1) (by omega)) (Nat.le_trans (nl10_le _ _ l2) (by omega))).mono ?_
 rintro e w3 ⟨e3, rfl, g3, b3⟩
 go_wp2_with fail
 replace h1 := h1.below b3
 replace h2 := h2.below b3
 replace g1 := g1.below b3
 replace g2 := g2.below b3
 replace VA := VA.below b3
 replace BB := BB.trans (b3.mono BB.size)
 clear b3
 refine hK.out _ _ ?_ (fun hH3 => ?_)
 ·exact ⟨VA.1, VA.2.1, VA.2.2.1⟩
 clear hK K hH2
 (try simp only [Act.put, xL4, xL5, xL6])
 refine wpAnyH_take (i := 8) (v := ?_) (by simp only [xL1, xL2, xL3]; rfl) (by kernel_rfl) (by kernel_rfl) (by kernel_rfl) (by exact fun _ _ _ h => h) (Or.inl ⟨by rfl, ?_⟩) (by assumption) ?_
 rotate_left
 ·(intro w hSw; (try dsimp only at hSw); go_simp; (try with_reducible rfl))
 (try simp only [Act.put, xL4, xL5, xL6])
 refine wpAnyH_done (by kernel_rfl) ?_ _
 clear hH3
 go_wp2_with fail
 refine (small_any 1 _ (by omega)).mono ?_
 rintro e w4 ⟨e4, rfl, g4, b4⟩
 replace h1 := h1.below b4
 replace h2 := h2.below b4
 replace g1 := g1.below b4
 replace g2 := g2.below b4
 replace g3 := g3.below b4
 replace VA := VA.below b4
 replace BB := BB.trans (b4.mono BB.size)
 clear b4
 go_wp2_with fail
 refine (order_any _ _ _ 1 _ g3 g4).mono ?_
 rintro e w5 ⟨rfl, b5⟩
 replace h1 := h1.below b5
 replace h2 := h2.below b5
 replace g1 := g1.below b5
 replace g2 := g2.below b5
 replace g3 := g3.below b5
 replace g4 := g4.below b5
 replace VA := VA.below b5
 replace BB := BB.trans (b5.mono BB.size)
 clear b5
 generalize cmpI ((Nat.gcd (num f n) (num g m) : Nat) : Int) ((1 : Nat) : Int) = cc at HQ ⊢
 go_wp2
 go_ret
 exact ⟨by rw [← HQ.out]; rfl, BB⟩

theorem jright_at (p : Bool) (ao : Option Addr) (n c : Nat) (bo : Option Addr) (m d : Nat) (f g : Nat → Int) (w : World) (h1 : Nums .u64 w (.slice ao n c) n f) (f1 : U64 n f) (k1 : n ≤ 8) (h2 : Nums .u64 w (.slice bo m d) m g) (f2 : U64 m g) (k2 : m ≤ 8) : Calls Tryz.prog 14 #[.agg #[.bool p, .slice ao n c, .slice bo m d]] w fun e w' => e = .returned (.bool (rqB p f n g m)) ∧ Below w.heap.size w w' := by
 rcases Bool.eq_false_or_eq_true (rightB f n) with hF | hF
 ·rcases Bool.eq_false_or_eq_true (rightB g m) with hG | hG
  ·by_cases hm : m = 0
   ·subst hm
    have e : rqB p f n g 0 = false := by unfold rqB; rw [num_none g]; simp
    rw [e]; exact jright_3 p ao n c bo d f g w h1 f1 k1 h2 f2 k2 hF hG
   ·have e2 : decide (num g m = 0) = false := decide_eq_false fun e => hm (right_none f2 hG e)
    by_cases hn : n = 0
    ·subst hn
     cases p
     ·have e : rqB false f 0 g m = decide (Nat.gcd (num f 0) (num g m) = 1) := by unfold rqB; rw [hF, hG, e2]; simp
      rw [e]; exact jright_5 ao c bo m d f g w h1 f1 k1 h2 f2 k2 hF hG hm
     ·have e : rqB true f 0 g m = false := by unfold rqB; rw [num_none f]; simp
      rw [e]; exact jright_4 ao c bo m d f g w h1 f1 k1 h2 f2 k2 hF hG hm
    ·have e1 : decide (num f n = 0) = false := decide_eq_false fun e => hn (right_none f1 hF e)
     have e : rqB p f n g m = decide (Nat.gcd (num f n) (num g m) = 1) := by unfold rqB; rw [hF, hG, e1, e2]; simp
     rw [e]; exact jright_6 p ao n c bo m d f g w h1 f1 k1 h2 f2 k2 hF hG hm hn
  ·have e : rqB p f n g m = false := by unfold rqB; rw [hG]; simp
   rw [e]; exact jright_2 p ao n c bo m d f g w h1 f1 k1 h2 f2 k2 hF hG
 ·have e : rqB p f n g m = false := by unfold rqB; rw [hF]; simp
  rw [e]; exact jright_1 p ao n c bo m d f g w h1 f1 k1 h2 f2 k2 hF
end Go.Proofs.YtjfacmeeplalkaaGreatDoor
