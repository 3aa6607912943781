/-
  Texts of mine, joined: what lies beneath the statement.
-/
import Derived.Test.YtcackghehjbeeaaGreatDoorJ5bdcc98136
import Derived.Test.YtcackghehjbeeaaGreatDoorJc30b9867e9
namespace Go.Proofs.YtcackghehjbeeaaGreatDoor
open Go.RowKit
set_option linter.unusedVariables false
set_option linter.unusedSimpArgs false

set_option maxRecDepth 20000 in
set_option maxHeartbeats 1000000 in
theorem qright_k (K : Nat) (hK : K ≤ 900000) (p : Bool) (ao : Option Addr) (n c : Nat) (bo : Option Addr) (m d : Nat) (f g : Nat → Int) (w : World) (h1 : Nums .u64 w (.slice ao n c) n f) (f1 : U64 n f) (k1 : n ≤ K) (h2 : Nums .u64 w (.slice bo m d) m g) (f2 : U64 m g) (k2 : m ≤ K) (ht : Tab w) (hA : (rightB f n && !(p && decide (num f n = 0))) = true) (hB : rightB g m = true) (hC : num g m ≠ 0) :
  Calls Tryz.prog 17 #[.agg #[.bool p, .slice ao n c, .slice bo m d]] w fun e w' => e = .returned (.bool (decide (Nat.gcd (num f n) (num g m) = 1))) ∧ Below w.heap.size w w' := by
 have BB : Below w.heap.size w w := Below.refl _ _
 obtain ⟨Wb0, hW0, hS0, hL0, VA⟩ := V3.lay w 34 (.bool p) (.slice ao n c) (.slice bo m d)
 replace h1 := h1.below hL0
 replace h2 := h2.below hL0
 replace ht := ht.below hL0
 replace BB := BB.trans (hL0.mono BB.size)
 clear hL0
 go_enter Tryz.func17, Tryz.ntmps17
 go_wp2_with fail
 rw [← hW0]
 clear hW0 hS0
 refine (wright_any p ao n c f _ h1 f1).mono ?_
 rintro e w1 ⟨rfl, b1⟩
 replace h1 := h1.below b1
 replace h2 := h2.below b1
 replace ht := ht.below b1
 replace VA := VA.below b1
 replace BB := BB.trans (b1.mono BB.size)
 clear b1
 rw [hA]
 obtain ⟨VA_0, VA_1, VA_2, VA_3, VA_4, VA_5⟩ := id VA
 go_wp2_with fail
 clear VA_0 VA_1 VA_2 VA_3 VA_4 VA_5
 refine (right_any _ _ _ _ h2).mono ?_
 rintro e wx ⟨rfl, hwx⟩
 replace hwx := hwx.symm
 subst hwx
 rw [hB]
 obtain ⟨VA_0, VA_1, VA_2, VA_3, VA_4, VA_5⟩ := id VA
 go_wp2_with fail
 clear VA_0 VA_1 VA_2 VA_3 VA_4 VA_5
 refine (nzero_at _ (num g m) K _ ⟨_, _, h2, f2, rfl, k2⟩).mono ?_
 rintro e wx ⟨rfl, hwx⟩
 replace hwx := hwx.symm
 subst hwx
 rw [decide_eq_false hC]
 obtain ⟨VA_0, VA_1, VA_2, VA_3, VA_4, VA_5⟩ := id VA
 go_wp2_with fail
 clear VA_0 VA_1 VA_2 VA_3 VA_4 VA_5
 refine (ngcd_at _ _ (num f n) (num g m) K K _ ⟨_, _, h1, f1, rfl, k1⟩ ⟨_, _, h2, f2, rfl, k2⟩ (by omega) (by omega) ht).mono ?_
 rintro e w2 ⟨r, rfl, hr, b2⟩
 replace h1 := h1.below b2
 replace h2 := h2.below b2
 replace ht := ht.below b2
 replace VA := VA.below b2
 replace BB := BB.trans (b2.mono BB.size)
 clear b2
 go_wp2_with fail
 refine (isOne_at _ _ _ _ (hr.at _ (Nat.le_refl _))).mono ?_
 rintro e w3 ⟨rfl, b3⟩
 replace h1 := h1.below b3
 replace h2 := h2.below b3
 replace ht := ht.below b3
 replace hr := hr.below b3
 replace VA := VA.below b3
 replace BB := BB.trans (b3.mono BB.size)
 clear b3
 go_wp2
 go_ret
 exact ⟨rfl, BB⟩

theorem qright_rep (v : Value) (q : Rat) (w : World) (hv : RepQ w v q) (hL : qsz q ≤ 900000) (ht : Tab w) :
  Calls Tryz.prog 17 #[v] w fun e w' => e = .returned (.bool true) ∧ Below w.heap.size w w' := by
 obtain ⟨p, ao, n, c, bo, m, d, rfl⟩ := hv.open
 obtain ⟨h1, h2⟩ := hv.parts
 unfold qsz at hL
 obtain ⟨a1, c1, e1, hR⟩ := h1
 simp only [Value.agg.injEq, Array.mk.injEq, List.cons.injEq, Value.bool.injEq, Value.slice.injEq, and_true] at e1
 obtain ⟨rfl, rfl, rfl, rfl⟩ := e1
 obtain ⟨a2, c2, e2, _⟩ := id h2
 simp only [Value.slice.injEq] at e2
 obtain ⟨rfl, rfl, rfl⟩ := e2
 obtain ⟨K, hK⟩ : ∃ K, K = max (nl W32 q.num.natAbs) (nl W32 q.den) := ⟨_, rfl⟩
 rw [← hK] at hL
 have hg : Nat.gcd q.num.natAbs q.den = 1 := q.reduced
 have hA : (!(decide (q.num < 0) && decide (q.num.natAbs = 0))) = true := by
  by_cases h : q.num < 0
  ·rw [decide_eq_true h, decide_eq_false (by omega)]; rfl
  ·rw [decide_eq_false h]; rfl
 have r := qright_k K hL (decide (q.num < 0)) ao (nl W32 q.num.natAbs) c bo (nl W32 q.den) d (dg W32 q.num.natAbs) (dg W32 q.den) w hR (u64_dg _ _) (by omega) h2 (u64_dg _ _) (by omega) ht (by rw [rightB_rep, num_nl, Bool.true_and]; exact hA) (rightB_rep _) (by rw [num_nl]; exact q.den_nz)
 rw [num_nl, num_nl, decide_eq_true hg] at r
 exact r

end Go.Proofs.YtcackghehjbeeaaGreatDoor
