/-
  Texts of mine, joined: what lies beneath the statement.
-/
import Derived.Test.YtnbocjbfieklhaaGreatDoorJ47e6fde251
import Derived.Test.YtnbocjbfieklhaaGreatDoorJ1611d74828
import Derived.Test.YtnbocjbfieklhaaGreatDoorJ7c7ed501e3
import Derived.Test.YtnbocjbfieklhaaGreatDoorJ00b186b0a4
namespace Go.Proofs.YtnbocjbfieklhaaGreatDoor
open Go.RowKit
set_option linter.unusedVariables false
set_option linter.unusedSimpArgs false
theorem frow1_lay (w : World) (t : TypeId) {p1 : Bool} {a1 : Option Addr} {n1 c1 : Nat} {b1 : Option Addr} {m1 d1 : Nat} {x : Rat} (h1 : RepQ w (.agg #[.bool p1,.slice a1 n1 c1,.slice b1 m1 d1]) x) :
  ∃ W,W = w.alloc (.cells #[.bool p1,.slice a1 n1 c1,.slice b1 m1 d1] t) ∧ Below w.heap.size w W ∧ FRow W (.slice (some ⟨w.heap.size,0,none⟩) 1 1) 1 (fun _ => x) := by
 have hb := heap_alloc_new w (.cells #[.bool p1,.slice a1 n1 c1,.slice b1 m1 d1] t)
 have hB : Below w.heap.size w (w.alloc (.cells #[.bool p1,.slice a1 n1 c1,.slice b1 m1 d1] t)) := (Below.refl _ _).alloc (Nat.le_refl _) _
 refine ⟨_,rfl,hB,fun i j => ([[.bool p1,.slice a1 n1 c1,.slice b1 m1 d1]].getD i []).getD j undef,⟨_,_,rfl,by omega,by omega,fun _ => ⟨_,_,rfl,fun i hi j hj => ?_⟩⟩,fun i hi => ?_⟩
 ·rw [cell_of_row _ _ _ _ _ _ hb]
  rcases (by omega : i = 0) with rfl; rcases (by omega : j = 0 ∨ j = 1 ∨ j = 2) with rfl | rfl | rfl <;> rfl
 ·rcases (by omega : i = 0) with rfl
  exact h1.below hB
theorem mul_len_two (n : Nat) (q : Nat → Rat) (m : Nat) (r : Nat → Rat) : MulLen n q m r + 1 ≤ n + m ∨ MulLen n q m r = 0 := by
 have l1 := trimN_le q n
 have l2 := trimN_le r m
 unfold MulLen
 split
 ·exact Or.inr rfl
 ·have := trimN_le (conv n q m r) (trimN q n + trimN r m - 1)
  omega
theorem mul_top (n : Nat) (q : Nat → Rat) (m : Nat) (r : Nat → Rat) : 0 < MulLen n q m r → conv n q m r (MulLen n q m r - 1) ≠ 0 := by
 unfold MulLen
 split
 ·intro h; omega
 ·exact trimN_top _ _
theorem cone_co (x : Rat) (hx : x = 1) (i : Nat) : co 1 (fun _ => x) i = cone i := by
 unfold co cone
 by_cases h : i = 0
 ·rw [if_pos (by omega),if_pos h,hx]
 ·rw [if_neg (by omega),if_neg h]
def PowRow (w : World) (v : Value) (n : Nat) (q : Nat → Rat) (k S : Nat) : Prop := ∃ (l : Nat) (R : Nat → Rat),FRow w v l R ∧ l ≤ 1 + 5 * k ∧ (0 < l → R (l - 1) ≠ 0) ∧ (∀ i,co l R i = cpow (co n q) k i) ∧ ∀ i,i < l → qsz (R i) ≤ S
theorem PowRow.below {w w' : World} {v : Value} {n : Nat} {q : Nat → Rat} {k S : Nat} (h : PowRow w v n q k S) (hb : Below w.heap.size w w') : PowRow w' v n q k S := let ⟨l,R,h1,h2⟩ := h; ⟨l,R,h1.below hb,h2⟩
set_option maxRecDepth 20000 in
set_option maxHeartbeats 4000000 in
theorem ppower0 (v : Value) (n : Nat) (q : Nat → Rat) (w : World) (hv : QRow w v n q 2) (ht : Tab w) (hn : n ≤ 6) :
  Calls Tryz.prog 45 #[v,.int .i64 0] w fun e w' => ∃ x,e = .returned x ∧ PowRow w' x n q 0 1 ∧ Below w.heap.size w w' := by
 have BB : Below w.heap.size w w := Below.refl _ _
 go_enter Tryz.func45,Tryz.ntmps45
 go_wp2_with fail
 refine (qone_at _).mono ?_
 rintro e w1 ⟨x1,rfl,h1,b1⟩
 replace hv := hv.below b1
 replace ht := ht.below b1
 replace BB := BB.trans (b1.mono BB.size)
 clear b1
 obtain ⟨p1,a1,n1,c1,b1,m1,d1,rfl⟩ := h1.open
 obtain ⟨W9,hW9,b9,FA⟩ := frow1_lay w1 35 h1
 replace hv := hv.below b9
 replace ht := ht.below b9
 replace h1 := h1.below b9
 replace BB := BB.trans (b9.mono BB.size)
 go_wp2
 rw [← hW9]
 clear hW9 b9
 generalize w1.heap.size = R9 at *
 go_ret
 exact ⟨_,rfl,⟨1,_,FA,by omega,fun _ => by decide,cone_co 1 rfl,fun i hi => Nat.le_trans (show qsz 1 ≤ 1 by decide +kernel) (by omega)⟩,BB⟩
set_option maxRecDepth 20000 in
set_option maxHeartbeats 4000000 in
theorem ppower1 (v : Value) (n : Nat) (q : Nat → Rat) (w : World) (hv : QRow w v n q 2) (ht : Tab w) (hn : n ≤ 6) :
  Calls Tryz.prog 45 #[v,.int .i64 1] w fun e w' => ∃ x,e = .returned x ∧ PowRow w' x n q 1 43 ∧ Below w.heap.size w w' := by
 have BB : Below w.heap.size w w := Below.refl _ _
 go_enter Tryz.func45,Tryz.ntmps45
 go_wp2_with fail
 refine (ppower0 _ n q _ hv ht hn).mono ?_
 rintro e w1 ⟨x1,rfl,PH,b1⟩
 replace hv := hv.below b1
 replace ht := ht.below b1
 replace BB := BB.trans (b1.mono BB.size)
 clear b1
 obtain ⟨l,R,FH,hl,htop,hco,hsz⟩ := PH
 obtain ⟨ah,ch,rfl⟩ := FH.open
 have HCO : Hid (∀ i,co l R i = cpow (co n q) 0 i) := hco
 have HTOP : Hid (0 < l → R (l - 1) ≠ 0) := htop
 have hSq : ∀ i,i < n → qsz (q i) ≤ 2 := fun i hi => hv.sz (by omega) i hi
 clear hco htop
 go_wp2_with fail
 refine (pmul_at _ _ l l R R 1 _ (FH.q 1 hsz) (FH.q 1 hsz) ht (by omega) (by omega) (by omega) (Nat.le_trans (Nat.succ_le_succ (Nat.mul_le_mul_right _ (show l + l ≤ 2 by omega))) (by omega)) (by omega)).mono ?_
 rintro e w2 ⟨x2,rfl,FO,b2⟩
 replace hv := hv.below b2
 replace ht := ht.below b2
 replace FH := FH.below b2
 replace BB := BB.trans (b2.mono BB.size)
 clear b2
 have FO1 := FO.1
 clear FO
 have lO := mul_len_two l R l R
 have tO := mul_top l R l R
 have sO : ∀ i,qsz (conv l R l R i) ≤ 4 := fun i => Nat.le_trans (conv_sz2 hsz hsz (by omega) (by omega) i) (Nat.le_trans (Nat.succ_le_succ (Nat.mul_le_mul_right _ (show l ≤ 1 by omega))) (by omega))
 have HC2 : Hid (∀ i,co (MulLen l R l R) (conv l R l R) i = cpow (co n q) 0 i) := fun i => by rw [mul_co,conv_cmul,cmul_congr HCO.out HCO.out]; exact cpow_add (co n q) 0 0 i
 generalize MulLen l R l R = lo at *
 generalize conv l R l R = RO at *
 obtain ⟨ao,c_o,rfl⟩ := FO1.open
 go_wp2_with fail
 refine (pmul_at _ _ lo n RO q 4 _ (FO1.q 4 (fun i _ => Nat.le_trans (sO i) (by omega))) (hv.le (by omega)) ht (by omega) (by omega) (by omega) (Nat.le_trans (Nat.succ_le_succ (Nat.mul_le_mul_right _ (show lo + n ≤ 7 by omega))) (by omega)) (by omega)).mono ?_
 rintro e w3 ⟨x3,rfl,FP,b3⟩
 replace hv := hv.below b3
 replace ht := ht.below b3
 replace FH := FH.below b3
 replace FO1 := FO1.below b3
 replace BB := BB.trans (b3.mono BB.size)
 clear b3
 go_wp2
 go_ret
 exact ⟨_,rfl,⟨_,_,FP.1,by have := mul_len_two lo RO n q; omega,mul_top _ _ _ _,fun i => by rw [mul_co,conv_cmul,cmul_congr HC2.out (fun _ => rfl)]; rfl,fun i _ => Nat.le_trans (conv_sz2 (fun i _ => sO i) hSq (by omega) (by omega) i) (Nat.le_trans (Nat.succ_le_succ (Nat.mul_le_mul_right _ hn)) (by omega))⟩,BB⟩
set_option maxRecDepth 20000 in
set_option maxHeartbeats 4000000 in
theorem ppower2 (v : Value) (n : Nat) (q : Nat → Rat) (w : World) (hv : QRow w v n q 2) (ht : Tab w) (hn : n ≤ 6) :
  Calls Tryz.prog 45 #[v,.int .i64 2] w fun e w' => ∃ x,e = .returned x ∧ PowRow w' x n q 2 523 ∧ Below w.heap.size w w' := by
 have BB : Below w.heap.size w w := Below.refl _ _
 go_enter Tryz.func45,Tryz.ntmps45
 go_wp2_with fail
 refine (ppower1 _ n q _ hv ht hn).mono ?_
 rintro e w1 ⟨x1,rfl,PH,b1⟩
 replace hv := hv.below b1
 replace ht := ht.below b1
 replace BB := BB.trans (b1.mono BB.size)
 clear b1
 obtain ⟨l,R,FH,hl,htop,hco,hsz⟩ := PH
 obtain ⟨ah,ch,rfl⟩ := FH.open
 have HCO : Hid (∀ i,co l R i = cpow (co n q) 1 i) := hco
 have HTOP : Hid (0 < l → R (l - 1) ≠ 0) := htop
 have hSq : ∀ i,i < n → qsz (q i) ≤ 2 := fun i hi => hv.sz (by omega) i hi
 clear hco htop
 go_wp2_with fail
 refine (pmul_at _ _ l l R R 43 _ (FH.q 43 hsz) (FH.q 43 hsz) ht (by omega) (by omega) (by omega) (Nat.le_trans (Nat.succ_le_succ (Nat.mul_le_mul_right _ (show l + l ≤ 12 by omega))) (by omega)) (by omega)).mono ?_
 rintro e w2 ⟨x2,rfl,FO,b2⟩
 replace hv := hv.below b2
 replace ht := ht.below b2
 replace FH := FH.below b2
 replace BB := BB.trans (b2.mono BB.size)
 clear b2
 have FO1 := FO.1
 clear FO
 have lO := mul_len_two l R l R
 have tO := mul_top l R l R
 have sO : ∀ i,qsz (conv l R l R i) ≤ 523 := fun i => Nat.le_trans (conv_sz2 hsz hsz (by omega) (by omega) i) (Nat.le_trans (Nat.succ_le_succ (Nat.mul_le_mul_right _ (show l ≤ 6 by omega))) (by omega))
 have HC2 : Hid (∀ i,co (MulLen l R l R) (conv l R l R) i = cpow (co n q) 2 i) := fun i => by rw [mul_co,conv_cmul,cmul_congr HCO.out HCO.out]; exact cpow_add (co n q) 1 1 i
 generalize MulLen l R l R = lo at *
 generalize conv l R l R = RO at *
 obtain ⟨ao,c_o,rfl⟩ := FO1.open
 go_wp2
 go_ret
 exact ⟨_,rfl,⟨_,_,FO1,by omega,tO,HC2.out,fun i _ => Nat.le_trans (sO i) (by omega)⟩,BB⟩
set_option maxRecDepth 20000 in
set_option maxHeartbeats 4000000 in
theorem ppower3 (v : Value) (n : Nat) (q : Nat → Rat) (w : World) (hv : QRow w v n q 2) (ht : Tab w) (hn : n ≤ 6) :
  Calls Tryz.prog 45 #[v,.int .i64 3] w fun e w' => ∃ x,e = .returned x ∧ PowRow w' x n q 3 3157 ∧ Below w.heap.size w w' := by
 have BB : Below w.heap.size w w := Below.refl _ _
 go_enter Tryz.func45,Tryz.ntmps45
 go_wp2_with fail
 refine (ppower1 _ n q _ hv ht hn).mono ?_
 rintro e w1 ⟨x1,rfl,PH,b1⟩
 replace hv := hv.below b1
 replace ht := ht.below b1
 replace BB := BB.trans (b1.mono BB.size)
 clear b1
 obtain ⟨l,R,FH,hl,htop,hco,hsz⟩ := PH
 obtain ⟨ah,ch,rfl⟩ := FH.open
 have HCO : Hid (∀ i,co l R i = cpow (co n q) 1 i) := hco
 have HTOP : Hid (0 < l → R (l - 1) ≠ 0) := htop
 have hSq : ∀ i,i < n → qsz (q i) ≤ 2 := fun i hi => hv.sz (by omega) i hi
 clear hco htop
 go_wp2_with fail
 refine (pmul_at _ _ l l R R 43 _ (FH.q 43 hsz) (FH.q 43 hsz) ht (by omega) (by omega) (by omega) (Nat.le_trans (Nat.succ_le_succ (Nat.mul_le_mul_right _ (show l + l ≤ 12 by omega))) (by omega)) (by omega)).mono ?_
 rintro e w2 ⟨x2,rfl,FO,b2⟩
 replace hv := hv.below b2
 replace ht := ht.below b2
 replace FH := FH.below b2
 replace BB := BB.trans (b2.mono BB.size)
 clear b2
 have FO1 := FO.1
 clear FO
 have lO := mul_len_two l R l R
 have tO := mul_top l R l R
 have sO : ∀ i,qsz (conv l R l R i) ≤ 523 := fun i => Nat.le_trans (conv_sz2 hsz hsz (by omega) (by omega) i) (Nat.le_trans (Nat.succ_le_succ (Nat.mul_le_mul_right _ (show l ≤ 6 by omega))) (by omega))
 have HC2 : Hid (∀ i,co (MulLen l R l R) (conv l R l R) i = cpow (co n q) 2 i) := fun i => by rw [mul_co,conv_cmul,cmul_congr HCO.out HCO.out]; exact cpow_add (co n q) 1 1 i
 generalize MulLen l R l R = lo at *
 generalize conv l R l R = RO at *
 obtain ⟨ao,c_o,rfl⟩ := FO1.open
 go_wp2_with fail
 refine (pmul_at _ _ lo n RO q 523 _ (FO1.q 523 (fun i _ => Nat.le_trans (sO i) (by omega))) (hv.le (by omega)) ht (by omega) (by omega) (by omega) (Nat.le_trans (Nat.succ_le_succ (Nat.mul_le_mul_right _ (show lo + n ≤ 17 by omega))) (by omega)) (by omega)).mono ?_
 rintro e w3 ⟨x3,rfl,FP,b3⟩
 replace hv := hv.below b3
 replace ht := ht.below b3
 replace FH := FH.below b3
 replace FO1 := FO1.below b3
 replace BB := BB.trans (b3.mono BB.size)
 clear b3
 go_wp2
 go_ret
 exact ⟨_,rfl,⟨_,_,FP.1,by have := mul_len_two lo RO n q; omega,mul_top _ _ _ _,fun i => by rw [mul_co,conv_cmul,cmul_congr HC2.out (fun _ => rfl)]; rfl,fun i _ => Nat.le_trans (conv_sz2 (fun i _ => sO i) hSq (by omega) (by omega) i) (Nat.le_trans (Nat.succ_le_succ (Nat.mul_le_mul_right _ hn)) (by omega))⟩,BB⟩
set_option maxRecDepth 20000 in
set_option maxHeartbeats 4000000 in
theorem ppower4 (v : Value) (n : Nat) (q : Nat → Rat) (w : World) (hv : QRow w v n q 2) (ht : Tab w) (hn : n ≤ 6) :
  Calls Tryz.prog 45 #[v,.int .i64 4] w fun e w' => ∃ x,e = .returned x ∧ PowRow w' x n q 4 11518 ∧ Below w.heap.size w w' := by
 have BB : Below w.heap.size w w := Below.refl _ _
 go_enter Tryz.func45,Tryz.ntmps45
 go_wp2_with fail
 refine (ppower2 _ n q _ hv ht hn).mono ?_
 rintro e w1 ⟨x1,rfl,PH,b1⟩
 replace hv := hv.below b1
 replace ht := ht.below b1
 replace BB := BB.trans (b1.mono BB.size)
 clear b1
 obtain ⟨l,R,FH,hl,htop,hco,hsz⟩ := PH
 obtain ⟨ah,ch,rfl⟩ := FH.open
 have HCO : Hid (∀ i,co l R i = cpow (co n q) 2 i) := hco
 have HTOP : Hid (0 < l → R (l - 1) ≠ 0) := htop
 have hSq : ∀ i,i < n → qsz (q i) ≤ 2 := fun i hi => hv.sz (by omega) i hi
 clear hco htop
 go_wp2_with fail
 refine (pmul_at _ _ l l R R 523 _ (FH.q 523 hsz) (FH.q 523 hsz) ht (by omega) (by omega) (by omega) (Nat.le_trans (Nat.succ_le_succ (Nat.mul_le_mul_right _ (show l + l ≤ 22 by omega))) (by omega)) (by omega)).mono ?_
 rintro e w2 ⟨x2,rfl,FO,b2⟩
 replace hv := hv.below b2
 replace ht := ht.below b2
 replace FH := FH.below b2
 replace BB := BB.trans (b2.mono BB.size)
 clear b2
 have FO1 := FO.1
 clear FO
 have lO := mul_len_two l R l R
 have tO := mul_top l R l R
 have sO : ∀ i,qsz (conv l R l R i) ≤ 11518 := fun i => Nat.le_trans (conv_sz2 hsz hsz (by omega) (by omega) i) (Nat.le_trans (Nat.succ_le_succ (Nat.mul_le_mul_right _ (show l ≤ 11 by omega))) (by omega))
 have HC2 : Hid (∀ i,co (MulLen l R l R) (conv l R l R) i = cpow (co n q) 4 i) := fun i => by rw [mul_co,conv_cmul,cmul_congr HCO.out HCO.out]; exact cpow_add (co n q) 2 2 i
 generalize MulLen l R l R = lo at *
 generalize conv l R l R = RO at *
 obtain ⟨ao,c_o,rfl⟩ := FO1.open
 go_wp2
 go_ret
 exact ⟨_,rfl,⟨_,_,FO1,by omega,tO,HC2.out,fun i _ => Nat.le_trans (sO i) (by omega)⟩,BB⟩
set_option maxRecDepth 20000 in
set_option maxHeartbeats 4000000 in
theorem ppow0 (v : Value) (n : Nat) (q : Nat → Rat) (w : World) (hv : QRow w v n q 2) (ht : Tab w) (hn : n ≤ 6) :
  Calls Tryz.prog 14 #[v,.int .i64 0] w fun e w' => ∃ x,e = .returned (.tuple #[x,.int .i64 0]) ∧ PowRow w' x n q 0 1 ∧ Below w.heap.size w w' := by
 have BB : Below w.heap.size w w := Below.refl _ _
 go_enter Tryz.func14,Tryz.ntmps14
 go_wp2_with fail
 refine (ppower0 _ n q _ hv ht hn).mono ?_
 rintro e w1 ⟨x1,rfl,PH,b1⟩
 replace hv := hv.below b1
 replace ht := ht.below b1
 replace BB := BB.trans (b1.mono BB.size)
 clear b1
 go_wp2
 go_ret2
 exact ⟨_,rfl,PH,BB⟩
set_option maxRecDepth 20000 in
set_option maxHeartbeats 4000000 in
theorem ppow1 (v : Value) (n : Nat) (q : Nat → Rat) (w : World) (hv : QRow w v n q 2) (ht : Tab w) (hn : n ≤ 6) :
  Calls Tryz.prog 14 #[v,.int .i64 1] w fun e w' => ∃ x,e = .returned (.tuple #[x,.int .i64 0]) ∧ PowRow w' x n q 1 43 ∧ Below w.heap.size w w' := by
 have BB : Below w.heap.size w w := Below.refl _ _
 go_enter Tryz.func14,Tryz.ntmps14
 go_wp2_with fail
 refine (ppower1 _ n q _ hv ht hn).mono ?_
 rintro e w1 ⟨x1,rfl,PH,b1⟩
 replace hv := hv.below b1
 replace ht := ht.below b1
 replace BB := BB.trans (b1.mono BB.size)
 clear b1
 go_wp2
 go_ret2
 exact ⟨_,rfl,PH,BB⟩
set_option maxRecDepth 20000 in
set_option maxHeartbeats 4000000 in
theorem ppow2 (v : Value) (n : Nat) (q : Nat → Rat) (w : World) (hv : QRow w v n q 2) (ht : Tab w) (hn : n ≤ 6) :
  Calls Tryz.prog 14 #[v,.int .i64 2] w fun e w' => ∃ x,e = .returned (.tuple #[x,.int .i64 0]) ∧ PowRow w' x n q 2 523 ∧ Below w.heap.size w w' := by
 have BB : Below w.heap.size w w := Below.refl _ _
 go_enter Tryz.func14,Tryz.ntmps14
 go_wp2_with fail
 refine (ppower2 _ n q _ hv ht hn).mono ?_
 rintro e w1 ⟨x1,rfl,PH,b1⟩
 replace hv := hv.below b1
 replace ht := ht.below b1
 replace BB := BB.trans (b1.mono BB.size)
 clear b1
 go_wp2
 go_ret2
 exact ⟨_,rfl,PH,BB⟩
set_option maxRecDepth 20000 in
set_option maxHeartbeats 4000000 in
theorem ppow3 (v : Value) (n : Nat) (q : Nat → Rat) (w : World) (hv : QRow w v n q 2) (ht : Tab w) (hn : n ≤ 6) :
  Calls Tryz.prog 14 #[v,.int .i64 3] w fun e w' => ∃ x,e = .returned (.tuple #[x,.int .i64 0]) ∧ PowRow w' x n q 3 3157 ∧ Below w.heap.size w w' := by
 have BB : Below w.heap.size w w := Below.refl _ _
 go_enter Tryz.func14,Tryz.ntmps14
 go_wp2_with fail
 refine (ppower3 _ n q _ hv ht hn).mono ?_
 rintro e w1 ⟨x1,rfl,PH,b1⟩
 replace hv := hv.below b1
 replace ht := ht.below b1
 replace BB := BB.trans (b1.mono BB.size)
 clear b1
 go_wp2
 go_ret2
 exact ⟨_,rfl,PH,BB⟩
set_option maxRecDepth 20000 in
set_option maxHeartbeats 4000000 in
theorem ppow4 (v : Value) (n : Nat) (q : Nat → Rat) (w : World) (hv : QRow w v n q 2) (ht : Tab w) (hn : n ≤ 6) :
  Calls Tryz.prog 14 #[v,.int .i64 4] w fun e w' => ∃ x,e = .returned (.tuple #[x,.int .i64 0]) ∧ PowRow w' x n q 4 11518 ∧ Below w.heap.size w w' := by
 have BB : Below w.heap.size w w := Below.refl _ _
 go_enter Tryz.func14,Tryz.ntmps14
 go_wp2_with fail
 refine (ppower4 _ n q _ hv ht hn).mono ?_
 rintro e w1 ⟨x1,rfl,PH,b1⟩
 replace hv := hv.below b1
 replace ht := ht.below b1
 replace BB := BB.trans (b1.mono BB.size)
 clear b1
 go_wp2
 go_ret2
 exact ⟨_,rfl,PH,BB⟩
set_option maxRecDepth 20000 in
set_option maxHeartbeats 4000000 in
theorem ppow_lo (v : Value) (k : Int) (w : World) (hk : k < 0) :
  Calls Tryz.prog 14 #[v,.int .i64 k] w fun e w' => e = .returned (.tuple #[.slice none 0 0,.int .i64 8]) ∧ Below w.heap.size w w' := by
 have g1 : k < 0 := hk
 have BB : Below w.heap.size w w := Below.refl _ _
 go_enter Tryz.func14,Tryz.ntmps14
 go_wp2
 go_ret2
 exact ⟨rfl,BB⟩
set_option maxRecDepth 20000 in
set_option maxHeartbeats 4000000 in
theorem ppow_hi (v : Value) (k : Int) (w : World) (hk : k > 64) :
  Calls Tryz.prog 14 #[v,.int .i64 k] w fun e w' => e = .returned (.tuple #[.slice none 0 0,.int .i64 8]) ∧ Below w.heap.size w w' := by
 have g1 : ¬ k < 0 := by omega
 have g2 : k > 64 := hk
 have BB : Below w.heap.size w w := Below.refl _ _
 go_enter Tryz.func14,Tryz.ntmps14
 go_wp2
 go_ret2
 exact ⟨rfl,BB⟩

def uz : Nat → Nat
 | 0 => 10607
 | 1 => 4393
 | 2 => 1819
 | 3 => 753
 | 4 => 311
 | 5 => 129
 | 6 => 51
 | _ => 25
def Bd (la lb ha hb : Nat) : Prop := (la ≤ 7 ∧ lb ≤ 7 ∧ ha = 25 ∧ hb = 25) ∨ (lb < la ∧ la ≤ 7 ∧ ha = uz la ∧ hb = uz (la - 1))
theorem Bd_one : ∀ la,la < 8 → ∀ lb,lb < 8 → 0 < lb → 25 ≤ uz lb ∧ 25 + (la - (lb - 1)) * 26 ≤ uz (lb - 1) := by decide
theorem Bd_two : ∀ la,la < 8 → ∀ lb,lb < la → 0 < lb → uz (la - 1) ≤ uz lb ∧ uz la + (la - (lb - 1)) * (uz (la - 1) + 1) ≤ uz (lb - 1) := by decide
theorem uz_le : ∀ x,x < 8 → uz x ≤ 10607 ∧ 25 ≤ uz x ∧ (0 < x → uz x ≤ 4393) := by decide
theorem Bd_next {la lb ha hb : Nat} (h : Bd la lb ha hb) (h0 : 0 < lb) : hb ≤ uz lb ∧ ha + (la - (lb - 1)) * (hb + 1) ≤ uz (lb - 1) ∧ hb ≤ 4393 ∧ 25 ≤ ha ∧ 25 ≤ hb := by
 rcases h with ⟨h1,h2,rfl,rfl⟩ | ⟨h1,h2,rfl,rfl⟩
 ·have := Bd_one la (by omega) lb (by omega) h0
  omega
 ·have a := Bd_two la (by omega) lb h1 h0
  have b := uz_le (la - 1) (by omega)
  have c := uz_le la (by omega)
  exact ⟨a.1,a.2,b.2.2 (by omega),c.2.1,b.2.1⟩
theorem Bd_end {la hb ha : Nat} (h : Bd la 0 ha hb) (hl : la ≤ 7) : ha ≤ uz la := by
 rcases h with ⟨h1,h2,rfl,rfl⟩ | ⟨h1,h2,rfl,rfl⟩
 ·exact (uz_le la (by omega)).2.1
 ·exact Nat.le_refl _
theorem trimN_full (q : Nat → Rat) : ∀ n,(0 < n → q (n - 1) ≠ 0) → trimN q n = n
 | 0,_ => rfl
 | n + 1,h => by
  have := h (by omega)
  simp only [Nat.add_sub_cancel] at this
  show (if q n = 0 then trimN q n else n + 1) = n + 1
  rw [if_neg this]
theorem allS_div {la lb ha hb S : Nat} {a b : Nat → Rat} (fa : IForm la a ha) (fb : IForm lb b hb) (h0 : 0 < lb) (htop : b (lb - 1) ≠ 0) (h1 : 1 ≤ ha) (hS : ha + (la - (lb - 1)) * (hb + 1) ≤ S) : allS la b (lb - 1) S (la - (lb - 1)) a := by
 by_cases h : la - (lb - 1) = 0
 ·rw [h]; intro i hi; exact Nat.le_trans (fa.sz h1 i hi) (by omega)
 ·exact allS_form (fb.less (by omega)) htop _ ha a fa h1 (by omega) hS
theorem form_div {la lb ha hb : Nat} {a b : Nat → Rat} (fa : IForm la a ha) (fb : IForm lb b hb) (h0 : 0 < lb) (htop : b (lb - 1) ≠ 0) : IForm la (divR b (lb - 1) (la - (lb - 1)) a) (ha + (la - (lb - 1)) * (hb + 1)) := by
 by_cases h : la - (lb - 1) = 0
 ·rw [h]; exact fa.le (by omega)
 ·exact IForm.div (fb.less (by omega)) htop _ ha a fa (by omega)
theorem div_co2 (a b : Nat → Rat) (la lb : Nat) (h0 : 0 < lb) (htop : b (lb - 1) ≠ 0) (i : Nat) :
  co la a i = cmul (co (la - (lb - 1)) (divQ b (lb - 1) (la - (lb - 1)) a)) (co lb b) i + co (min la (lb - 1)) (divR b (lb - 1) (la - (lb - 1)) a) i := by
 rw [← conv_cmul]
 by_cases hk : la - (lb - 1) = 0
 ·rw [hk,conv_none,show min la (lb - 1) = la by omega]
  show co la a i = 0 + co la a i
  grind
 ·by_cases hi : i < la
  ·have d := div_all b (lb - 1) htop (la - (lb - 1)) a i (by omega)
   rw [show lb - 1 + 1 = lb by omega] at d
   rw [co_lt hi,d]
   congr 1
   unfold co
   rw [show min la (lb - 1) = lb - 1 by omega]
  ·rw [conv_far _ _ _ _ _ (by omega),co_beyond _ _ _ (by omega),co_beyond _ _ _ (by omega)]
   grind
theorem Dv_div {d a b : Nat → Rat} {la lb : Nat} (h0 : 0 < lb) (htop : b (lb - 1) ≠ 0) (hb : Dv d (co lb b)) : Dv d (co la a) ↔ Dv d (co (min la (lb - 1)) (divR b (lb - 1) (la - (lb - 1)) a)) :=
 Dv.rest (M := la - (lb - 1)) (fun i hi => co_ge (by omega)) (div_co2 a b la lb h0 htop) hb
theorem div_none {a b : Nat → Rat} {la lb : Nat} (h0 : 0 < lb) (htop : b (lb - 1) ≠ 0) (h : Dv (co lb b) (co la a)) : trimN (divR b (lb - 1) (la - (lb - 1)) a) (min la (lb - 1)) = 0 := by
 have hd := (Dv_div (a := a) (la := la) h0 htop (Dv.self _)).1 h
 have hz := Dv.short h0 htop hd (fun i hi => co_ge (by omega))
 rcases Nat.eq_zero_or_pos (trimN (divR b (lb - 1) (la - (lb - 1)) a) (min la (lb - 1))) with e | e
 ·exact e
 ·have ht := trimN_top _ _ e
  have hl := trimN_le (divR b (lb - 1) (la - (lb - 1)) a) (min la (lb - 1))
  have := hz (trimN (divR b (lb - 1) (la - (lb - 1)) a) (min la (lb - 1)) - 1)
  rw [co_lt (by omega)] at this
  exact absurd this ht
theorem Dv_monic {d r : Nat → Rat} {l : Nat} {s : Rat} (hs : s ≠ 0) : Dv d (co l (fun i => r i * s)) ↔ Dv d (co l r) := by
 have e : ∀ i,co l (fun i => r i * s) i = co l r i * s := fun i => by
  by_cases h : i < l
  ·rw [co_lt h,co_lt h]
  ·rw [co_ge h,co_ge h,Rat.zero_mul]
 constructor
 ·intro h
  exact (h.scale s⁻¹).congr (fun i => by rw [e,Rat.mul_assoc,Rat.mul_inv_cancel _ hs,Rat.mul_one])
 ·intro h
  exact (h.scale s).congr (fun i => (e i).symm)
set_option maxRecDepth 20000 in
set_option maxHeartbeats 4000000 in
theorem pdivmod_exact (u v : Value) (n m la lb : Nat) (q1 q2 : Nat → Rat) (L S : Nat) (w : World) (hu : QRow w u n q1 L) (hv : QRow w v m q2 L) (ht : Tab w) (hn : n ≤ 1000) (hm : m ≤ 1000) (hL : 1 ≤ L) (hLM : L ≤ 40000) (hla : trimN q1 n = la) (hlb : trimN q2 m = lb) (hla2 : la ≤ 1000) (hlb2 : lb ≤ 1000) (sb : ∀ i,i < lb → qsz (q2 i) ≤ L) (h0 : 0 < lb) (htop : q2 (lb - 1) ≠ 0) (hLS : L ≤ S) (hS2 : S + L + L + 1 ≤ 90000) (hall : allS la q2 (lb - 1) S (la - (lb - 1)) q1) (hdv : Dv (co lb q2) (co la q1)) :
  Calls Tryz.prog 20 #[u,v] w fun e w' => ∃ x y yc,e = .returned (.tuple #[x,.slice y 0 yc,.int .i64 0]) ∧ Below w.heap.size w w' := by
 have hN := div_none (a := q1) (b := q2) (la := la) h0 htop hdv
 have HN : Hid (trimN (divR q2 (lb - 1) (la - (lb - 1)) q1) (min la (lb - 1)) = 0) := hN
 clear hN
 have BB : Below w.heap.size w w := Below.refl _ _
 go_enter Tryz.func20,Tryz.ntmps20
 go_wp2_with fail
 refine (pclean_at _ n q1 L _ hu ht (by omega) hL (by omega)).mono ?_
 rintro e w1 ⟨x1,rfl,FA,b1⟩
 replace hu := hu.below b1
 replace hv := hv.below b1
 replace ht := ht.below b1
 replace BB := BB.trans (b1.mono BB.size)
 clear b1
 rw [hla] at FA
 go_wp2_with fail
 refine (pclean_at _ m q2 L _ hv ht (by omega) hL (by omega)).mono ?_
 rintro e w2 ⟨x2,rfl,FB,b2⟩
 replace hu := hu.below b2
 replace hv := hv.below b2
 replace ht := ht.below b2
 replace FA := FA.below b2
 replace BB := BB.trans (b2.mono BB.size)
 clear b2
 rw [hlb] at FB
 obtain ⟨aa,ca,rfl⟩ := FA.1.open
 obtain ⟨ab,cb,rfl⟩ := FB.1.open
 have e1 : ((lb : Int) == 0) = false := by simp; omega
 have e2 : ¬ (lb : Int) = 0 := by omega
 go_wp2_with fail
 refine (pdivide_S _ _ la lb q1 q2 L S _ FA.1 FB.1 sb ht (by omega) (by omega) h0 htop hL hLS hS2 hall).mono ?_
 rintro e w3 ⟨x,y,rfl,FQ,FR,b3⟩
 replace hu := hu.below b3
 replace hv := hv.below b3
 replace ht := ht.below b3
 replace FA := FA.below b3
 replace FB := FB.below b3
 replace BB := BB.trans (b3.mono BB.size)
 clear b3
 rw [HN.out] at FR
 obtain ⟨yo,yc,rfl⟩ := FR.1.open
 go_wp2
 go_ret3
 exact ⟨x,yo,yc,rfl,BB⟩
def GcdOut (n m : Nat) (q r : Nat → Rat) (w : World) (e : Ending) (w' : World) : Prop :=
 ∃ x l P,e = .returned x ∧ FRow w' x l P ∧ l ≤ 7 ∧ (0 < l → P (l - 1) = 1) ∧ IForm l P (uz l) ∧ (l = 0 ↔ n = 0 ∧ m = 0) ∧ (∀ d,Dv d (co l P) ↔ (Dv d (co n q) ∧ Dv d (co m r))) ∧ Below w.heap.size w w'
set_option maxRecDepth 20000 in
set_option maxHeartbeats 8000000 in
theorem pgcd_at (u v : Value) (n m : Nat) (q r : Nat → Rat) (w : World) (hu : FRow w u n q) (hv : FRow w v m r) (ht : Tab w) (hn : n ≤ 7) (hm : m ≤ 7) (fu : IForm n q 25) (fv : IForm m r 25) (hqt : 0 < n → q (n - 1) ≠ 0) (hrt : 0 < m → r (m - 1) ≠ 0) :
  Calls Tryz.prog 16 #[u,v] w fun e w' => GcdOut n m q r w e w' := by
 have sU : ∀ i,i < n → qsz (q i) ≤ 25 := fun i hi => fu.sz (by omega) i hi
 have sV : ∀ i,i < m → qsz (r i) ≤ 25 := fun i hi => fv.sz (by omega) i hi
 have tu := trimN_full q n hqt
 have tv := trimN_full r m hrt
 have BB : Below w.heap.size w w := Below.refl _ _
 go_enter Tryz.func16,Tryz.ntmps16
 go_wp2_with fail
 refine (pmonic_at _ n q 25 _ (hu.q 25 sU) ht (by omega) (by omega) (by omega)).mono ?_
 rintro e w1 ⟨xa,rfl,FA,b1⟩
 replace hu := hu.below b1
 replace hv := hv.below b1
 replace ht := ht.below b1
 replace BB := BB.trans (b1.mono BB.size)
 clear b1
 rw [tu] at FA
 go_wp2_with fail
 refine (pmonic_at _ m r 25 _ (hv.q 25 sV) ht (by omega) (by omega) (by omega)).mono ?_
 rintro e w2 ⟨xb,rfl,FB,b2⟩
 replace hu := hu.below b2
 replace hv := hv.below b2
 replace ht := ht.below b2
 replace FA := FA.below b2
 replace BB := BB.trans (b2.mono BB.size)
 clear b2
 rw [tv] at FB
 have FA1 := FA.1
 have FB1 := FB.1
 clear FA FB hu hv tu tv
 have HMA : Hid (0 < n → (fun i => q i * (q (n - 1))⁻¹) (n - 1) = 1) := fun h => Rat.mul_inv_cancel _ (hqt h)
 have HMB : Hid (0 < m → (fun i => r i * (r (m - 1))⁻¹) (m - 1) = 1) := fun h => Rat.mul_inv_cancel _ (hrt h)
 have HFA : Hid (IForm n (fun i => q i * (q (n - 1))⁻¹) 25) := by
  by_cases h : 0 < n
  ·exact fu.monic (by omega) (hqt h)
  ·exact ⟨1,fun _ => 0,by decide,Nat.le_trans nlw_one (by omega),fun i hi => by omega⟩
 have HFB : Hid (IForm m (fun i => r i * (r (m - 1))⁻¹) 25) := by
  by_cases h : 0 < m
  ·exact fv.monic (by omega) (hrt h)
  ·exact ⟨1,fun _ => 0,by decide,Nat.le_trans nlw_one (by omega),fun i hi => by omega⟩
 have HDV : Hid (∀ d,(Dv d (co n (fun i => q i * (q (n - 1))⁻¹)) ∧ Dv d (co m (fun i => r i * (r (m - 1))⁻¹))) ↔ (Dv d (co n q) ∧ Dv d (co m r))) := fun d => by
  refine and_congr ?_ ?_
  ·by_cases h : 0 < n
   ·exact Dv_monic (fun e => hqt h (by have := Rat.mul_inv_cancel _ (hqt h); rw [e,Rat.mul_zero] at this; exact absurd this (by decide)))
   ·rw [show n = 0 by omega]; exact Iff.rfl
  ·by_cases h : 0 < m
   ·exact Dv_monic (fun e => hrt h (by have := Rat.mul_inv_cancel _ (hrt h); rw [e,Rat.mul_zero] at this; exact absurd this (by decide)))
   ·rw [show m = 0 by omega]; exact Iff.rfl
 go_wp2
 go_loopw [0,1] (fun va vb wr => ∃ (la lb ha hb : Nat) (PA PB : Nat → Rat),FRow wr va la PA ∧ FRow wr vb lb PB ∧ Hid (0 < la → PA (la - 1) = 1) ∧ Hid (0 < lb → PB (lb - 1) = 1) ∧ Hid (IForm la PA ha) ∧ Hid (IForm lb PB hb) ∧ Hid (Bd la lb ha hb) ∧ la ≤ 7 ∧ lb ≤ 7 ∧ Hid (∀ d,(Dv d (co la PA) ∧ Dv d (co lb PB)) ↔ (Dv d (co n q) ∧ Dv d (co m r))) ∧ Hid ((la = 0 ∧ lb = 0) ↔ (n = 0 ∧ m = 0)) ∧ Tab wr ∧ Below w.heap.size w wr) (fun _ vb _ => lenV vb)
 case atStart => exact ⟨n,m,25,25,_,_,FA1,FB1,HMA,HMB,HFA,HFB,Or.inl ⟨hn,hm,rfl,rfl⟩,hn,hm,HDV,Iff.rfl,ht,BB⟩
 case round =>
  clear FA1 FB1 HMA HMB HFA HFB HDV ht BB
  obtain ⟨la,lb,ha,hb,PA,PB,FA,FB,HMA,HMB,HFA,HFB,HBD,hla,hlb,HDV,HZ,ht,BB⟩ := hrel
  obtain ⟨aa,ca,rfl⟩ := FA.open
  obtain ⟨ab,cb,rfl⟩ := FB.open
  by_cases h0 : lb = 0
  ·subst h0
   have HF : Hid (GcdOut n m q r w (.returned (.slice aa la ca)) wr) := ⟨_,la,PA,rfl,FA,hla,HMA.out,HFA.out.le (Bd_end HBD.out hla),⟨fun h => (HZ.out.1 ⟨h,rfl⟩),fun h => (HZ.out.2 h).1⟩,fun d => ⟨fun h => (HDV.out d).1 ⟨h,(Dv.zero d).congr (fun i => (co_ge (by omega)).symm)⟩,fun h => ((HDV.out d).2 h).1⟩,BB⟩
   clear FA FB HMA HMB HFA HFB HBD HDV HZ ht BB
   go_wp2
   go_ret
   exact HF.out
  ·have hlt : (lb : Int) > 0 := by omega
   have hl0 : 0 < lb := by omega
   have hltb : decide (0 < lb) = true := decide_eq_true hl0
   have htop : PB (lb - 1) ≠ 0 := by rw [HMB.out hl0]; decide
   obtain ⟨n1,n2,n3,n4,n5⟩ := Bd_next HBD.out hl0
   have hu8 := uz_le (lb - 1) (by omega)
   have HAS : Hid (allS la PB (lb - 1) 20000 (la - (lb - 1)) PA) := allS_div HFA.out HFB.out hl0 htop (by omega) (by omega)
   have HFR : Hid (IForm la (divR PB (lb - 1) (la - (lb - 1)) PA) (uz (lb - 1))) := (form_div HFA.out HFB.out hl0 htop).le n2
   have HDD : Hid (∀ d,Dv d (co lb PB) → (Dv d (co la PA) ↔ Dv d (co (min la (lb - 1)) (divR PB (lb - 1) (la - (lb - 1)) PA)))) := fun d h => Dv_div hl0 htop h
   have HFB2 : Hid (IForm lb PB (uz lb)) := HFB.out.le n1
   have sB : ∀ i,i < lb → qsz (PB i) ≤ 5000 := fun i hi => Nat.le_trans (HFB.out.sz (by omega) i hi) (by omega)
   go_wp2_with fail
   refine (pdivide_S _ _ la lb PA PB 5000 20000 _ FA FB sB ht (by omega) (by omega) hl0 htop (by omega) (by omega) (by omega) HAS.out).mono ?_
   rintro e w1 ⟨x,y,rfl,FQ,FR,b1⟩
   replace FA := FA.below b1
   replace FB := FB.below b1
   replace ht := ht.below b1
   replace BB := BB.trans (b1.mono BB.size)
   clear b1
   clear FQ HAS
   have tR := trimN_le (divR PB (lb - 1) (la - (lb - 1)) PA) (min la (lb - 1))
   have HTI : Hid (trimN (divR PB (lb - 1) (la - (lb - 1)) PA) (trimN (divR PB (lb - 1) (la - (lb - 1)) PA) (min la (lb - 1))) = trimN (divR PB (lb - 1) (la - (lb - 1)) PA) (min la (lb - 1))) := trimN_idem _ _
   have HTP : Hid (0 < trimN (divR PB (lb - 1) (la - (lb - 1)) PA) (min la (lb - 1)) → divR PB (lb - 1) (la - (lb - 1)) PA (trimN (divR PB (lb - 1) (la - (lb - 1)) PA) (min la (lb - 1)) - 1) ≠ 0) := trimN_top _ _
   have HCT : Hid (∀ i,co (trimN (divR PB (lb - 1) (la - (lb - 1)) PA) (min la (lb - 1))) (divR PB (lb - 1) (la - (lb - 1)) PA) i = co (min la (lb - 1)) (divR PB (lb - 1) (la - (lb - 1)) PA) i) := co_trim _ _
   obtain ⟨lm,hlm⟩ : ∃ lm,lm = min la (lb - 1) := ⟨_,rfl⟩
   rw [← hlm] at FR tR HTI HTP HCT HDD
   have hlm2 : lm ≤ la := by omega
   have hlm3 : lm + 1 ≤ lb := by omega
   clear hlm
   generalize divR PB (lb - 1) (la - (lb - 1)) PA = RR at *
   generalize trimN RR lm = lr at *
   have sR : ∀ i,i < lr → qsz (RR i) ≤ 10607 := fun i hi => Nat.le_trans (HFR.out.sz (by omega) i (by omega)) (by omega)
   go_wp2_with fail
   refine (pmonic_at _ lr RR 10607 _ (FR.1.q 10607 sR) ht (by omega) (by omega) (by omega)).mono ?_
   rintro e w2 ⟨y2,rfl,FM,b2⟩
   replace FA := FA.below b2
   replace FB := FB.below b2
   replace ht := ht.below b2
   replace FR := FR.below b2
   replace BB := BB.trans (b2.mono BB.size)
   clear b2
   rw [HTI.out] at FM
   have FM1 := FM.1
   clear FM FR FA
   obtain ⟨am,cm,rfl⟩ := FM1.open
   have HM2 : Hid (0 < lr → (fun i => RR i * (RR (lr - 1))⁻¹) (lr - 1) = 1) := fun h => Rat.mul_inv_cancel _ (HTP.out h)
   have HF2 : Hid (IForm lr (fun i => RR i * (RR (lr - 1))⁻¹) (uz (lb - 1))) := by
    by_cases h : 0 < lr
    ·exact (HFR.out.less (by omega)).monic (by omega) (HTP.out h)
    ·exact ⟨1,fun _ => 0,by decide,Nat.le_trans nlw_one (by omega),fun i hi => by omega⟩
   have HDV2 : Hid (∀ d,(Dv d (co lb PB) ∧ Dv d (co lr (fun i => RR i * (RR (lr - 1))⁻¹))) ↔ (Dv d (co n q) ∧ Dv d (co m r))) := fun d => by
    rw [← HDV.out d]
    have hm : Dv d (co lr (fun i => RR i * (RR (lr - 1))⁻¹)) ↔ Dv d (co lm RR) := by
     by_cases h : 0 < lr
     ·exact (Dv_monic (fun e => HTP.out h (by have := Rat.mul_inv_cancel _ (HTP.out h); rw [e,Rat.mul_zero] at this; exact absurd this (by decide)))).trans ⟨fun h => h.congr HCT.out,fun h => h.congr (fun i => (HCT.out i).symm)⟩
     ·have hr : lr = 0 := by omega
      rw [hr] at HCT ⊢
      exact ⟨fun h => (Dv.zero d).congr (fun i => by rw [← HCT.out i,co_ge (by omega)]),fun h => (Dv.zero d).congr (fun i => (co_ge (by omega)).symm)⟩
    constructor
    ·rintro ⟨h1,h2⟩; exact ⟨(HDD.out d h1).2 (hm.1 h2),h1⟩
    ·rintro ⟨h1,h2⟩; exact ⟨h2,hm.2 ((HDD.out d h2).1 h1)⟩
   have HZ2 : Hid ((lb = 0 ∧ lr = 0) ↔ (n = 0 ∧ m = 0)) := ⟨fun h => by omega,fun h => by have := (HZ.out.2 h).2; omega⟩
   go_wp2
   go_roundw
   case rel => exact ⟨lb,lr,uz lb,uz (lb - 1),PB,_,FB,FM1,HMB,HM2,HFB2,HF2,Or.inr ⟨by omega,hlb,rfl,rfl⟩,hlb,by omega,HDV2,HZ2,ht,BB⟩
   case measure => simp [lenV]; omega

theorem divQ_sz {m below hb : Nat} {b : Nat → Rat} (fb : IForm (below + 1) b hb) (htop : b below ≠ 0) (h1 : 1 ≤ hb) : ∀ (k H : Nat) (R : Nat → Rat),IForm m R H → 1 ≤ H → k + below ≤ m → ∀ i,i < k → qsz (divQ b below k R i) ≤ H + k * (hb + 1) + hb
 | 0,_,_,_,_,_,i,hi => by omega
 | k + 1,H,R,f,hH,hk,i,hi => by
  show qsz (if i = k then R (k + below) / b below else divQ b below k (stepR b below k R) i) ≤ _
  rw [Nat.succ_mul]
  by_cases e : i = k
  ·rw [if_pos e]
   exact Nat.le_trans (qsz_div _ _ (f.sz hH _ (by omega)) (fb.sz h1 below (by omega))) (by omega)
  ·rw [if_neg e]
   exact Nat.le_trans (divQ_sz fb htop h1 k (H + hb + 1) (stepR b below k R) (f.step fb htop (by omega)) (by omega) (by omega) i (by omega)) (by omega)
theorem divQ_sz2 {la lb ha hb : Nat} {a b : Nat → Rat} (fa : IForm la a ha) (fb : IForm lb b hb) (h0 : 0 < lb) (htop : b (lb - 1) ≠ 0) (h1 : 1 ≤ ha) (h2 : 1 ≤ hb) (i : Nat) (hi : i < la - (lb - 1)) : qsz (divQ b (lb - 1) (la - (lb - 1)) a i) ≤ ha + (la - (lb - 1)) * (hb + 1) + hb :=
 divQ_sz (m := la) (fb.less (by omega)) htop h2 _ ha a fa h1 (by omega) i hi
theorem IForm.sub {n m h1 h2 N : Nat} {q r : Nat → Rat} (f : IForm n q h1) (g : IForm m r h2) : IForm N (fun i => co n q i - co m r i) (h1 + h2 + 1) := by
 obtain ⟨D,z,d1,d2,d3⟩ := f
 obtain ⟨E,y,e1,e2,e3⟩ := g
 refine ⟨D * E,fun i => (if i < n then z i else 0) * E - (if i < m then y i else 0) * D,Int.mul_ne_zero d1 e1,nlz_mul d2 e2 (by omega),fun i hi => ?_⟩
 have a1 : co n q i * (D : Rat) = ((if i < n then z i else 0 : Int) : Rat) ∧ nl W32 (if i < n then z i else 0 : Int).natAbs ≤ h1 := by
  by_cases h : i < n
  ·rw [co_lt h,if_pos h]; exact d3 i h
  ·rw [co_ge h,if_neg h]; exact ⟨by rw [Rat.zero_mul]; rfl,Nat.le_trans (by decide) (Nat.zero_le _)⟩
 have a2 : co m r i * (E : Rat) = ((if i < m then y i else 0 : Int) : Rat) ∧ nl W32 (if i < m then y i else 0 : Int).natAbs ≤ h2 := by
  by_cases h : i < m
  ·rw [co_lt h,if_pos h]; exact e3 i h
  ·rw [co_ge h,if_neg h]; exact ⟨by rw [Rat.zero_mul]; rfl,Nat.le_trans (by decide) (Nat.zero_le _)⟩
 refine ⟨?_,?_⟩
 ·rw [Rat.intCast_mul,Rat.intCast_sub,Rat.intCast_mul,Rat.intCast_mul,← a1.1,← a2.1]
  grind
 ·show nl W32 ((if i < n then z i else 0) * E - (if i < m then y i else 0) * D).natAbs ≤ _
  rw [Int.sub_eq_add_neg]
  exact nlz_add (nlz_mul a1.2 e2 (Nat.le_refl _)) (nlz_neg (nlz_mul a2.2 d2 (Nat.le_refl _))) (by omega) (by omega)
theorem IForm.one {h : Nat} (hh : 1 ≤ h) : IForm 1 (fun _ => (1 : Rat)) h := ⟨1,fun _ => 1,by decide,Nat.le_trans nlw_one hh,fun i hi => ⟨by show (1 : Rat) * ((1 : Int) : Rat) = ((1 : Int) : Rat); decide +kernel,Nat.le_trans nlw_one hh⟩⟩
theorem IForm.none {q : Nat → Rat} {h : Nat} (hh : 1 ≤ h) : IForm 0 q h := ⟨1,fun _ => 0,by decide,Nat.le_trans nlw_one hh,fun i hi => by omega⟩
theorem mono_len {l1 l2 : Nat} {P1 P2 : Nat → Rat} (h1 : 0 < l1) (h2 : 0 < l2) (m1 : P1 (l1 - 1) = 1) (m2 : P2 (l2 - 1) = 1) (d : Dv (co l1 P1) (co l2 P2)) : l1 ≤ l2 := by
 rcases Nat.lt_or_ge l2 l1 with h | h
 ·have hz := Dv.short h1 (by rw [m1]; decide) d (fun i hi => co_ge (by omega)) (l2 - 1)
  rw [co_lt (by omega),m2] at hz
  exact absurd hz (by decide)
 ·exact h
theorem mono_eq {l1 l2 : Nat} {P1 P2 : Nat → Rat} (h1 : 0 < l1) (h2 : 0 < l2) (m1 : P1 (l1 - 1) = 1) (m2 : P2 (l2 - 1) = 1) (d : Dv (co l1 P1) (co l2 P2)) (d' : Dv (co l2 P2) (co l1 P1)) (i : Nat) : co l1 P1 i = co l2 P2 i := by
 have a := mono_len h1 h2 m1 m2 d
 have b := mono_len h2 h1 m2 m1 d'
 obtain rfl : l1 = l2 := by omega
 have hd : Dv (co l1 P1) (fun i => co l1 P2 i + co l1 P1 i * (-1)) := d.add ((Dv.self _).scale (-1))
 have hz := Dv.short h1 (by rw [m1]; decide) hd (fun j hj => by
  show co l1 P2 j + co l1 P1 j * (-1) = 0
  by_cases e : j < l1
  ·obtain rfl : j = l1 - 1 := by omega
   rw [co_lt e,co_lt e,m1,m2]; decide +kernel
  ·rw [co_ge e,co_ge e]; decide +kernel) i
 have hz2 : co l1 P2 i + co l1 P1 i * (-1) = 0 := hz
 grind
theorem bez_step {A B X U Y V R S Q T : Nat → Rat} (e1 : ∀ i,R i = cmul A X i + cmul B Y i) (e2 : ∀ i,S i = cmul A U i + cmul B V i) (e3 : ∀ i,R i = cmul Q S i + T i) (i : Nat) :
  T i = cmul A (fun i => X i - cmul Q U i) i + cmul B (fun i => Y i - cmul Q V i) i := by
 have m : ∀ (F G H : Nat → Rat) (i : Nat),cmul F (fun i => G i - cmul Q H i) i = cmul F G i - cmul Q (cmul F H) i := fun F G H i => by
  have h1 : ∀ j,G j - cmul Q H j = G j + cmul Q H j * (-1) := fun j => by grind
  rw [cmul_congr (fun _ => rfl) h1,cmul_add,cmul_scale,← cmul_assoc,cmul_congr (cmul_comm F Q) (fun _ => rfl),cmul_assoc]
  grind
 rw [m,m]
 have h2 : cmul Q S i = cmul Q (cmul A U) i + cmul Q (cmul B V) i := by
  rw [cmul_congr (fun _ => rfl) e2,cmul_add]
 have := e3 i
 have := e1 i
 grind
theorem trim_same {l1 l2 : Nat} {P1 P2 : Nat → Rat} (h1 : 0 < l1 → P1 (l1 - 1) ≠ 0) (h2 : 0 < l2 → P2 (l2 - 1) ≠ 0) (h : ∀ i,co l1 P1 i = co l2 P2 i) : l1 = l2 := by
 rcases Nat.lt_trichotomy l1 l2 with e | e | e
 ·have := h (l2 - 1)
  rw [co_ge (by omega),co_lt (by omega)] at this
  exact absurd this.symm (h2 (by omega))
 ·exact e
 ·have := h (l1 - 1)
  rw [co_lt (by omega),co_ge (by omega)] at this
  exact absurd this (h1 (by omega))
theorem co_all {n : Nat} {F : Nat → Rat} (hz : ∀ i,n ≤ i → F i = 0) (i : Nat) : co (trimN F n) F i = F i := by
 rw [co_trim]
 by_cases h : i < n
 ·rw [co_lt h]
 ·rw [co_ge h,hz i (by omega)]
theorem frow_zero (w : World) (a : Option Addr) (c : Nat) (q : Nat → Rat) (hc : c ≤ 9223372036854775807) : FRow w (.slice a 0 c) 0 q := ⟨fun _ _ => .bool false,⟨a,c,rfl,Nat.zero_le _,hc,fun h => by omega⟩,fun i hi => by omega⟩
theorem empty_lay (w : World) (t : TypeId) : ∃ W,W = w.alloc (.cells #[] t) ∧ Below w.heap.size w W := ⟨_,rfl,(Below.refl _ _).alloc (Nat.le_refl _) _⟩
def lz : Nat → Nat
 | 0 => 289
 | 1 => 119
 | 2 => 49
 | 3 => 19
 | _ => 9
def fz : Nat → Nat
 | 0 => 2
 | 1 => 2
 | t + 2 => fz t + fz (t + 1) + 831
theorem fz_le : ∀ t,t < 6 → fz t ≤ 6000 ∧ 2 ≤ fz t ∧ fz t ≤ fz (t + 1) := by decide
theorem fz_le4 : ∀ t,t < 5 → fz t ≤ 3340 := by decide
theorem lz_le : ∀ x,x < 5 → lz x ≤ 289 ∧ 9 ≤ lz x ∧ (0 < x → lz x ≤ 119) := by decide
theorem lz_one : ∀ la,la < 5 → ∀ lb,lb < 5 → 0 < lb → 9 ≤ lz lb ∧ 9 + (la - (lb - 1)) * 10 ≤ lz (lb - 1) ∧ (la - (lb - 1)) * (9 + (la - (lb - 1)) * 10 + 9) + 1 ≤ 820 := by decide
theorem lz_two : ∀ la,la < 5 → ∀ lb,lb < la → 0 < lb → lz (la - 1) ≤ lz lb ∧ lz la + (la - (lb - 1)) * (lz (la - 1) + 1) ≤ lz (lb - 1) ∧ (la - (lb - 1)) * (lz la + (la - (lb - 1)) * (lz (la - 1) + 1) + lz (la - 1)) + 1 ≤ 820 := by decide
def LSt (t lr ls hr hs lx lu ly lv : Nat) : Prop := (t = 0 ∧ lr ≤ 4 ∧ ls ≤ 4 ∧ hr = 9 ∧ hs = 9 ∧ lx ≤ 1 ∧ lu ≤ 1 ∧ ly ≤ 1 ∧ lv ≤ 1) ∨ (0 < t ∧ t + lr ≤ 5 ∧ ls < lr ∧ hr = lz lr ∧ hs = lz (lr - 1) ∧ lx ≤ 5 - lr ∧ lu ≤ 5 - lr ∧ ly ≤ 5 - lr ∧ lv ≤ 5 - lr)
theorem LSt.all {t lr ls hr hs lx lu ly lv : Nat} (h : LSt t lr ls hr hs lx lu ly lv) : t ≤ 4 ∧ lr ≤ 4 ∧ ls ≤ 4 ∧ 9 ≤ hr ∧ 9 ≤ hs ∧ hs ≤ 289 ∧ hr ≤ 289 ∧ lx ≤ 5 ∧ lu ≤ 5 ∧ ly ≤ 5 ∧ lv ≤ 5 := by
 rcases h with ⟨rfl,h1,h2,rfl,rfl,h3⟩ | ⟨h0,h1,h2,rfl,rfl,h3⟩
 ·omega
 ·have a := lz_le lr (by omega)
  have b := lz_le (lr - 1) (by omega)
  omega
theorem LSt.next {t lr ls hr hs lx lu ly lv : Nat} (h : LSt t lr ls hr hs lx lu ly lv) (h0 : 0 < ls) : t ≤ 3 ∧ hs ≤ lz ls ∧ hr + (lr - (ls - 1)) * (hs + 1) ≤ lz (ls - 1) ∧ (lr - (ls - 1)) * (hr + (lr - (ls - 1)) * (hs + 1) + hs) + 1 ≤ 820 ∧ hs ≤ 119 ∧
  ∀ lt lx' lv',lt < ls → (lx' ≤ max lx (lr - (ls - 1) + lu - 1) ∨ lx' ≤ lx) → (lv' ≤ max ly (lr - (ls - 1) + lv - 1) ∨ lv' ≤ ly) → LSt (t + 1) ls lt (lz ls) (lz (ls - 1)) lu lx' lv lv' := by
 rcases h with ⟨rfl,h1,h2,rfl,rfl,h3⟩ | ⟨h1,h2,h3,rfl,rfl,h4⟩
 ·have a := lz_one lr (by omega) ls (by omega) h0
  exact ⟨by omega,a.1,a.2.1,a.2.2,by omega,fun lt lx' lv' b c d => Or.inr ⟨by omega,by omega,b,rfl,rfl,by omega,by omega,by omega,by omega⟩⟩
 ·have a := lz_two lr (by omega) ls h3 h0
  have b := lz_le (lr - 1) (by omega)
  exact ⟨by omega,a.1,a.2.1,a.2.2,b.2.2 (by omega),fun lt lx' lv' b c d => Or.inr ⟨by omega,by omega,b,rfl,rfl,by omega,by omega,by omega,by omega⟩⟩
set_option maxRecDepth 20000 in
set_option maxHeartbeats 4000000 in
theorem pdivmod_S (u v : Value) (n m la lb : Nat) (q1 q2 : Nat → Rat) (L S : Nat) (w : World) (hu : QRow w u n q1 L) (hv : QRow w v m q2 L) (ht : Tab w) (hn : n ≤ 1000) (hm : m ≤ 1000) (hL : 1 ≤ L) (hLM : L ≤ 40000) (hla : trimN q1 n = la) (hlb : trimN q2 m = lb) (hla2 : la ≤ 1000) (hlb2 : lb ≤ 1000) (sb : ∀ i,i < lb → qsz (q2 i) ≤ L) (h0 : 0 < lb) (htop : q2 (lb - 1) ≠ 0) (hLS : L ≤ S) (hS2 : S + L + L + 1 ≤ 90000) (hall : allS la q2 (lb - 1) S (la - (lb - 1)) q1) :
  Calls Tryz.prog 20 #[u,v] w fun e w' => ∃ x y,e = .returned (.tuple #[x,y,.int .i64 0]) ∧ FRow w' x (trimN (divQ q2 (lb - 1) (la - (lb - 1)) q1) (la - (lb - 1))) (divQ q2 (lb - 1) (la - (lb - 1)) q1) ∧ FRow w' y (trimN (divR q2 (lb - 1) (la - (lb - 1)) q1) (min la (lb - 1))) (divR q2 (lb - 1) (la - (lb - 1)) q1) ∧ Below w.heap.size w w' := by
 have BB : Below w.heap.size w w := Below.refl _ _
 go_enter Tryz.func20,Tryz.ntmps20
 go_wp2_with fail
 refine (pclean_at _ n q1 L _ hu ht (by omega) hL (by omega)).mono ?_
 rintro e w1 ⟨x1,rfl,FA,b1⟩
 replace hu := hu.below b1
 replace hv := hv.below b1
 replace ht := ht.below b1
 replace BB := BB.trans (b1.mono BB.size)
 clear b1
 rw [hla] at FA
 go_wp2_with fail
 refine (pclean_at _ m q2 L _ hv ht (by omega) hL (by omega)).mono ?_
 rintro e w2 ⟨x2,rfl,FB,b2⟩
 replace hu := hu.below b2
 replace hv := hv.below b2
 replace ht := ht.below b2
 replace FA := FA.below b2
 replace BB := BB.trans (b2.mono BB.size)
 clear b2
 rw [hlb] at FB
 obtain ⟨aa,ca,rfl⟩ := FA.1.open
 obtain ⟨ab,cb,rfl⟩ := FB.1.open
 have e1 : ((lb : Int) == 0) = false := by simp; omega
 have e2 : ¬ (lb : Int) = 0 := by omega
 go_wp2_with fail
 refine (pdivide_S _ _ la lb q1 q2 L S _ FA.1 FB.1 sb ht (by omega) (by omega) h0 htop hL hLS hS2 hall).mono ?_
 rintro e w3 ⟨x,y,rfl,FQ,FR,b3⟩
 replace hu := hu.below b3
 replace hv := hv.below b3
 replace ht := ht.below b3
 replace FA := FA.below b3
 replace FB := FB.below b3
 replace BB := BB.trans (b3.mono BB.size)
 clear b3
 go_wp2
 go_ret3
 exact ⟨x,y,rfl,FQ.1,FR.1,BB⟩
end Go.Proofs.YtnbocjbfieklhaaGreatDoor
