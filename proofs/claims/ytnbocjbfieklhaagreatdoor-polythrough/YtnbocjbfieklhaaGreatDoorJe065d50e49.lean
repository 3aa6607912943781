/-
  Texts of mine, joined: what lies beneath the statement.
-/
import Derived.Test.YtnbocjbfieklhaaGreatDoorJ471360b889
import Derived.Test.YtnbocjbfieklhaaGreatDoorJ06af5f0dba
import Derived.Test.YtnbocjbfieklhaaGreatDoorJ3c12b2c2a0
import Derived.Test.YtnbocjbfieklhaaGreatDoorJb016ad185a
import Derived.Test.YtnbocjbfieklhaaGreatDoorJ809e723c8e
namespace Go.Proofs.YtnbocjbfieklhaaGreatDoor
open Go.RowKit
set_option linter.unusedVariables false
set_option linter.unusedSimpArgs false
theorem frow1_lay (w : World) (t : TypeId) {p1 : Bool} {a1 : Option Addr} {n1 c1 : Nat} {b1 : Option Addr} {m1 d1 : Nat} {x : Rat} (h1 : RepQ w (.agg #[.bool p1,.slice a1 n1 c1,.slice b1 m1 d1]) x) :
  ∃ W,W = w.alloc (.cells #[.bool p1,.slice a1 n1 c1,.slice b1 m1 d1] t) ∧ Below w.heap.size w W ∧ FRow W (.slice (some ⟨w.heap.size,0,none⟩) 1 1) 1 (fun _ => x) := by
 have hb := heap_alloc_new w (.cells #[.bool p1,.slice a1 n1 c1,.slice b1 m1 d1] t)
 have hB : Below w.heap.size w (w.alloc (.cells #[.bool p1,.slice a1 n1 c1,.slice b1 m1 d1] t)) := (Below.refl _ _).alloc (Nat.le_refl _) _
 refine ⟨_,rfl,hB,fun i j => ([[.bool p1,.slice a1 n1 c1,.slice b1 m1 d1]].getD i []).getD j undef,⟨_,_,rfl,by omega,by omega,fun _ => ⟨_,_,rfl,fun i hi j hj => ?_⟩⟩,fun i hi => ?_⟩
 ·rw [cell_of_row _ _ _ _ _ _ hb]
  rcases (by omega : i = 0) with rfl; rcases (by omega : j = 0 ∨ j = 1 ∨ j = 2) with rfl | rfl | rfl <;> rfl
 ·rcases (by omega : i = 0) with rfl
  exact h1.below hB
theorem mul_len_two (n : Nat) (q : Nat → Rat) (m : Nat) (r : Nat → Rat) : MulLen n q m r + 1 ≤ n + m ∨ MulLen n q m r = 0 := by
 have l1 := trimN_le q n
 have l2 := trimN_le r m
 unfold MulLen
 split
 ·exact Or.inr rfl
 ·have := trimN_le (conv n q m r) (trimN q n + trimN r m - 1)
  omega
theorem mul_top (n : Nat) (q : Nat → Rat) (m : Nat) (r : Nat → Rat) : 0 < MulLen n q m r → conv n q m r (MulLen n q m r - 1) ≠ 0 := by
 unfold MulLen
 split
 ·intro h; omega
 ·exact trimN_top _ _
theorem cone_co (x : Rat) (hx : x = 1) (i : Nat) : co 1 (fun _ => x) i = cone i := by
 unfold co cone
 by_cases h : i = 0
 ·rw [if_pos (by omega),if_pos h,hx]
 ·rw [if_neg (by omega),if_neg h]
def PowRow (w : World) (v : Value) (n : Nat) (q : Nat → Rat) (k S : Nat) : Prop := ∃ (l : Nat) (R : Nat → Rat),FRow w v l R ∧ l ≤ 1 + 5 * k ∧ (0 < l → R (l - 1) ≠ 0) ∧ (∀ i,co l R i = cpow (co n q) k i) ∧ ∀ i,i < l → qsz (R i) ≤ S
theorem PowRow.below {w w' : World} {v : Value} {n : Nat} {q : Nat → Rat} {k S : Nat} (h : PowRow w v n q k S) (hb : Below w.heap.size w w') : PowRow w' v n q k S := let ⟨l,R,h1,h2⟩ := h; ⟨l,R,h1.below hb,h2⟩
set_option maxRecDepth 20000 in
set_option maxHeartbeats 4000000 in
theorem ppower0 (v : Value) (n : Nat) (q : Nat → Rat) (w : World) (hv : QRow w v n q 2) (ht : Tab w) (hn : n ≤ 6) :
  Calls Tryz.prog 45 #[v,.int .i64 0] w fun e w' => ∃ x,e = .returned x ∧ PowRow w' x n q 0 1 ∧ Below w.heap.size w w' := by
 have BB : Below w.heap.size w w := Below.refl _ _
 go_enter Tryz.func45,Tryz.ntmps45
 go_wp2_with fail
 refine (qone_at _).mono ?_
 rintro e w1 ⟨x1,rfl,h1,b1⟩
 replace hv := hv.below b1
 replace ht := ht.below b1
 replace BB := BB.trans (b1.mono BB.size)
 clear b1
 obtain ⟨p1,a1,n1,c1,b1,m1,d1,rfl⟩ := h1.open
 obtain ⟨W9,hW9,b9,FA⟩ := frow1_lay w1 35 h1
 replace hv := hv.below b9
 replace ht := ht.below b9
 replace h1 := h1.below b9
 replace BB := BB.trans (b9.mono BB.size)
 go_wp2
 rw [← hW9]
 clear hW9 b9
 generalize w1.heap.size = R9 at *
 go_ret
 exact ⟨_,rfl,⟨1,_,FA,by omega,fun _ => by decide,cone_co 1 rfl,fun i hi => Nat.le_trans (show qsz 1 ≤ 1 by decide +kernel) (by omega)⟩,BB⟩
set_option maxRecDepth 20000 in
set_option maxHeartbeats 4000000 in
theorem ppower1 (v : Value) (n : Nat) (q : Nat → Rat) (w : World) (hv : QRow w v n q 2) (ht : Tab w) (hn : n ≤ 6) :
  Calls Tryz.prog 45 #[v,.int .i64 1] w fun e w' => ∃ x,e = .returned x ∧ PowRow w' x n q 1 43 ∧ Below w.heap.size w w' := by
 have BB : Below w.heap.size w w := Below.refl _ _
 go_enter Tryz.func45,Tryz.ntmps45
 go_wp2_with fail
 refine (ppower0 _ n q _ hv ht hn).mono ?_
 rintro e w1 ⟨x1,rfl,PH,b1⟩
 replace hv := hv.below b1
 replace ht := ht.below b1
 replace BB := BB.trans (b1.mono BB.size)
 clear b1
 obtain ⟨l,R,FH,hl,htop,hco,hsz⟩ := PH
 obtain ⟨ah,ch,rfl⟩ := FH.open
 have HCO : Hid (∀ i,co l R i = cpow (co n q) 0 i) := hco
 have HTOP : Hid (0 < l → R (l - 1) ≠ 0) := htop
 have hSq : ∀ i,i < n → qsz (q i) ≤ 2 := fun i hi => hv.sz (by omega) i hi
 clear hco htop
 go_wp2_with fail
 refine (pmul_at _ _ l l R R 1 _ (FH.q 1 hsz) (FH.q 1 hsz) ht (by omega) (by omega) (by omega) (Nat.le_trans (Nat.succ_le_succ (Nat.mul_le_mul_right _ (show l + l ≤ 2 by omega))) (by omega)) (by omega)).mono ?_
 rintro e w2 ⟨x2,rfl,FO,b2⟩
 replace hv := hv.below b2
 replace ht := ht.below b2
 replace FH := FH.below b2
 replace BB := BB.trans (b2.mono BB.size)
 clear b2
 have FO1 := FO.1
 clear FO
 have lO := mul_len_two l R l R
 have tO := mul_top l R l R
 have sO : ∀ i,qsz (conv l R l R i) ≤ 4 := fun i => Nat.le_trans (conv_sz2 hsz hsz (by omega) (by omega) i) (Nat.le_trans (Nat.succ_le_succ (Nat.mul_le_mul_right _ (show l ≤ 1 by omega))) (by omega))
 have HC2 : Hid (∀ i,co (MulLen l R l R) (conv l R l R) i = cpow (co n q) 0 i) := fun i => by rw [mul_co,conv_cmul,cmul_congr HCO.out HCO.out]; exact cpow_add (co n q) 0 0 i
 generalize MulLen l R l R = lo at *
 generalize conv l R l R = RO at *
 obtain ⟨ao,c_o,rfl⟩ := FO1.open
 go_wp2_with fail
 refine (pmul_at _ _ lo n RO q 4 _ (FO1.q 4 (fun i _ => Nat.le_trans (sO i) (by omega))) (hv.le (by omega)) ht (by omega) (by omega) (by omega) (Nat.le_trans (Nat.succ_le_succ (Nat.mul_le_mul_right _ (show lo + n ≤ 7 by omega))) (by omega)) (by omega)).mono ?_
 rintro e w3 ⟨x3,rfl,FP,b3⟩
 replace hv := hv.below b3
 replace ht := ht.below b3
 replace FH := FH.below b3
 replace FO1 := FO1.below b3
 replace BB := BB.trans (b3.mono BB.size)
 clear b3
 go_wp2
 go_ret
 exact ⟨_,rfl,⟨_,_,FP.1,by have := mul_len_two lo RO n q; omega,mul_top _ _ _ _,fun i => by rw [mul_co,conv_cmul,cmul_congr HC2.out (fun _ => rfl)]; rfl,fun i _ => Nat.le_trans (conv_sz2 (fun i _ => sO i) hSq (by omega) (by omega) i) (Nat.le_trans (Nat.succ_le_succ (Nat.mul_le_mul_right _ hn)) (by omega))⟩,BB⟩
set_option maxRecDepth 20000 in
set_option maxHeartbeats 4000000 in
theorem ppower2 (v : Value) (n : Nat) (q : Nat → Rat) (w : World) (hv : QRow w v n q 2) (ht : Tab w) (hn : n ≤ 6) :
  Calls Tryz.prog 45 #[v,.int .i64 2] w fun e w' => ∃ x,e = .returned x ∧ PowRow w' x n q 2 523 ∧ Below w.heap.size w w' := by
 have BB : Below w.heap.size w w := Below.refl _ _
 go_enter Tryz.func45,Tryz.ntmps45
 go_wp2_with fail
 refine (ppower1 _ n q _ hv ht hn).mono ?_
 rintro e w1 ⟨x1,rfl,PH,b1⟩
 replace hv := hv.below b1
 replace ht := ht.below b1
 replace BB := BB.trans (b1.mono BB.size)
 clear b1
 obtain ⟨l,R,FH,hl,htop,hco,hsz⟩ := PH
 obtain ⟨ah,ch,rfl⟩ := FH.open
 have HCO : Hid (∀ i,co l R i = cpow (co n q) 1 i) := hco
 have HTOP : Hid (0 < l → R (l - 1) ≠ 0) := htop
 have hSq : ∀ i,i < n → qsz (q i) ≤ 2 := fun i hi => hv.sz (by omega) i hi
 clear hco htop
 go_wp2_with fail
 refine (pmul_at _ _ l l R R 43 _ (FH.q 43 hsz) (FH.q 43 hsz) ht (by omega) (by omega) (by omega) (Nat.le_trans (Nat.succ_le_succ (Nat.mul_le_mul_right _ (show l + l ≤ 12 by omega))) (by omega)) (by omega)).mono ?_
 rintro e w2 ⟨x2,rfl,FO,b2⟩
 replace hv := hv.below b2
 replace ht := ht.below b2
 replace FH := FH.below b2
 replace BB := BB.trans (b2.mono BB.size)
 clear b2
 have FO1 := FO.1
 clear FO
 have lO := mul_len_two l R l R
 have tO := mul_top l R l R
 have sO : ∀ i,qsz (conv l R l R i) ≤ 523 := fun i => Nat.le_trans (conv_sz2 hsz hsz (by omega) (by omega) i) (Nat.le_trans (Nat.succ_le_succ (Nat.mul_le_mul_right _ (show l ≤ 6 by omega))) (by omega))
 have HC2 : Hid (∀ i,co (MulLen l R l R) (conv l R l R) i = cpow (co n q) 2 i) := fun i => by rw [mul_co,conv_cmul,cmul_congr HCO.out HCO.out]; exact cpow_add (co n q) 1 1 i
 generalize MulLen l R l R = lo at *
 generalize conv l R l R = RO at *
 obtain ⟨ao,c_o,rfl⟩ := FO1.open
 go_wp2
 go_ret
 exact ⟨_,rfl,⟨_,_,FO1,by omega,tO,HC2.out,fun i _ => Nat.le_trans (sO i) (by omega)⟩,BB⟩
set_option maxRecDepth 20000 in
set_option maxHeartbeats 4000000 in
theorem ppower3 (v : Value) (n : Nat) (q : Nat → Rat) (w : World) (hv : QRow w v n q 2) (ht : Tab w) (hn : n ≤ 6) :
  Calls Tryz.prog 45 #[v,.int .i64 3] w fun e w' => ∃ x,e = .returned x ∧ PowRow w' x n q 3 3157 ∧ Below w.heap.size w w' := by
 have BB : Below w.heap.size w w := Below.refl _ _
 go_enter Tryz.func45,Tryz.ntmps45
 go_wp2_with fail
 refine (ppower1 _ n q _ hv ht hn).mono ?_
 rintro e w1 ⟨x1,rfl,PH,b1⟩
 replace hv := hv.below b1
 replace ht := ht.below b1
 replace BB := BB.trans (b1.mono BB.size)
 clear b1
 obtain ⟨l,R,FH,hl,htop,hco,hsz⟩ := PH
 obtain ⟨ah,ch,rfl⟩ := FH.open
 have HCO : Hid (∀ i,co l R i = cpow (co n q) 1 i) := hco
 have HTOP : Hid (0 < l → R (l - 1) ≠ 0) := htop
 have hSq : ∀ i,i < n → qsz (q i) ≤ 2 := fun i hi => hv.sz (by omega) i hi
 clear hco htop
 go_wp2_with fail
 refine (pmul_at _ _ l l R R 43 _ (FH.q 43 hsz) (FH.q 43 hsz) ht (by omega) (by omega) (by omega) (Nat.le_trans (Nat.succ_le_succ (Nat.mul_le_mul_right _ (show l + l ≤ 12 by omega))) (by omega)) (by omega)).mono ?_
 rintro e w2 ⟨x2,rfl,FO,b2⟩
 replace hv := hv.below b2
 replace ht := ht.below b2
 replace FH := FH.below b2
 replace BB := BB.trans (b2.mono BB.size)
 clear b2
 have FO1 := FO.1
 clear FO
 have lO := mul_len_two l R l R
 have tO := mul_top l R l R
 have sO : ∀ i,qsz (conv l R l R i) ≤ 523 := fun i => Nat.le_trans (conv_sz2 hsz hsz (by omega) (by omega) i) (Nat.le_trans (Nat.succ_le_succ (Nat.mul_le_mul_right _ (show l ≤ 6 by omega))) (by omega))
 have HC2 : Hid (∀ i,co (MulLen l R l R) (conv l R l R) i = cpow (co n q) 2 i) := fun i => by rw [mul_co,conv_cmul,cmul_congr HCO.out HCO.out]; exact cpow_add (co n q) 1 1 i
 generalize MulLen l R l R = lo at *
 generalize conv l R l R = RO at *
 obtain ⟨ao,c_o,rfl⟩ := FO1.open
 go_wp2_with fail
 refine (pmul_at _ _ lo n RO q 523 _ (FO1.q 523 (fun i _ => Nat.le_trans (sO i) (by omega))) (hv.le (by omega)) ht (by omega) (by omega) (by omega) (Nat.le_trans (Nat.succ_le_succ (Nat.mul_le_mul_right _ (show lo + n ≤ 17 by omega))) (by omega)) (by omega)).mono ?_
 rintro e w3 ⟨x3,rfl,FP,b3⟩
 replace hv := hv.below b3
 replace ht := ht.below b3
 replace FH := FH.below b3
 replace FO1 := FO1.below b3
 replace BB := BB.trans (b3.mono BB.size)
 clear b3
 go_wp2
 go_ret
 exact ⟨_,rfl,⟨_,_,FP.1,by have := mul_len_two lo RO n q; omega,mul_top _ _ _ _,fun i => by rw [mul_co,conv_cmul,cmul_congr HC2.out (fun _ => rfl)]; rfl,fun i _ => Nat.le_trans (conv_sz2 (fun i _ => sO i) hSq (by omega) (by omega) i) (Nat.le_trans (Nat.succ_le_succ (Nat.mul_le_mul_right _ hn)) (by omega))⟩,BB⟩
set_option maxRecDepth 20000 in
set_option maxHeartbeats 4000000 in
theorem ppower4 (v : Value) (n : Nat) (q : Nat → Rat) (w : World) (hv : QRow w v n q 2) (ht : Tab w) (hn : n ≤ 6) :
  Calls Tryz.prog 45 #[v,.int .i64 4] w fun e w' => ∃ x,e = .returned x ∧ PowRow w' x n q 4 11518 ∧ Below w.heap.size w w' := by
 have BB : Below w.heap.size w w := Below.refl _ _
 go_enter Tryz.func45,Tryz.ntmps45
 go_wp2_with fail
 refine (ppower2 _ n q _ hv ht hn).mono ?_
 rintro e w1 ⟨x1,rfl,PH,b1⟩
 replace hv := hv.below b1
 replace ht := ht.below b1
 replace BB := BB.trans (b1.mono BB.size)
 clear b1
 obtain ⟨l,R,FH,hl,htop,hco,hsz⟩ := PH
 obtain ⟨ah,ch,rfl⟩ := FH.open
 have HCO : Hid (∀ i,co l R i = cpow (co n q) 2 i) := hco
 have HTOP : Hid (0 < l → R (l - 1) ≠ 0) := htop
 have hSq : ∀ i,i < n → qsz (q i) ≤ 2 := fun i hi => hv.sz (by omega) i hi
 clear hco htop
 go_wp2_with fail
 refine (pmul_at _ _ l l R R 523 _ (FH.q 523 hsz) (FH.q 523 hsz) ht (by omega) (by omega) (by omega) (Nat.le_trans (Nat.succ_le_succ (Nat.mul_le_mul_right _ (show l + l ≤ 22 by omega))) (by omega)) (by omega)).mono ?_
 rintro e w2 ⟨x2,rfl,FO,b2⟩
 replace hv := hv.below b2
 replace ht := ht.below b2
 replace FH := FH.below b2
 replace BB := BB.trans (b2.mono BB.size)
 clear b2
 have FO1 := FO.1
 clear FO
 have lO := mul_len_two l R l R
 have tO := mul_top l R l R
 have sO : ∀ i,qsz (conv l R l R i) ≤ 11518 := fun i => Nat.le_trans (conv_sz2 hsz hsz (by omega) (by omega) i) (Nat.le_trans (Nat.succ_le_succ (Nat.mul_le_mul_right _ (show l ≤ 11 by omega))) (by omega))
 have HC2 : Hid (∀ i,co (MulLen l R l R) (conv l R l R) i = cpow (co n q) 4 i) := fun i => by rw [mul_co,conv_cmul,cmul_congr HCO.out HCO.out]; exact cpow_add (co n q) 2 2 i
 generalize MulLen l R l R = lo at *
 generalize conv l R l R = RO at *
 obtain ⟨ao,c_o,rfl⟩ := FO1.open
 go_wp2
 go_ret
 exact ⟨_,rfl,⟨_,_,FO1,by omega,tO,HC2.out,fun i _ => Nat.le_trans (sO i) (by omega)⟩,BB⟩
set_option maxRecDepth 20000 in
set_option maxHeartbeats 4000000 in
theorem ppow0 (v : Value) (n : Nat) (q : Nat → Rat) (w : World) (hv : QRow w v n q 2) (ht : Tab w) (hn : n ≤ 6) :
  Calls Tryz.prog 14 #[v,.int .i64 0] w fun e w' => ∃ x,e = .returned (.tuple #[x,.int .i64 0]) ∧ PowRow w' x n q 0 1 ∧ Below w.heap.size w w' := by
 have BB : Below w.heap.size w w := Below.refl _ _
 go_enter Tryz.func14,Tryz.ntmps14
 go_wp2_with fail
 refine (ppower0 _ n q _ hv ht hn).mono ?_
 rintro e w1 ⟨x1,rfl,PH,b1⟩
 replace hv := hv.below b1
 replace ht := ht.below b1
 replace BB := BB.trans (b1.mono BB.size)
 clear b1
 go_wp2
 go_ret2
 exact ⟨_,rfl,PH,BB⟩
set_option maxRecDepth 20000 in
set_option maxHeartbeats 4000000 in
theorem ppow1 (v : Value) (n : Nat) (q : Nat → Rat) (w : World) (hv : QRow w v n q 2) (ht : Tab w) (hn : n ≤ 6) :
  Calls Tryz.prog 14 #[v,.int .i64 1] w fun e w' => ∃ x,e = .returned (.tuple #[x,.int .i64 0]) ∧ PowRow w' x n q 1 43 ∧ Below w.heap.size w w' := by
 have BB : Below w.heap.size w w := Below.refl _ _
 go_enter Tryz.func14,Tryz.ntmps14
 go_wp2_with fail
 refine (ppower1 _ n q _ hv ht hn).mono ?_
 rintro e w1 ⟨x1,rfl,PH,b1⟩
 replace hv := hv.below b1
 replace ht := ht.below b1
 replace BB := BB.trans (b1.mono BB.size)
 clear b1
 go_wp2
 go_ret2
 exact ⟨_,rfl,PH,BB⟩
set_option maxRecDepth 20000 in
set_option maxHeartbeats 4000000 in
theorem ppow2 (v : Value) (n : Nat) (q : Nat → Rat) (w : World) (hv : QRow w v n q 2) (ht : Tab w) (hn : n ≤ 6) :
  Calls Tryz.prog 14 #[v,.int .i64 2] w fun e w' => ∃ x,e = .returned (.tuple #[x,.int .i64 0]) ∧ PowRow w' x n q 2 523 ∧ Below w.heap.size w w' := by
 have BB : Below w.heap.size w w := Below.refl _ _
 go_enter Tryz.func14,Tryz.ntmps14
 go_wp2_with fail
 refine (ppower2 _ n q _ hv ht hn).mono ?_
 rintro e w1 ⟨x1,rfl,PH,b1⟩
 replace hv := hv.below b1
 replace ht := ht.below b1
 replace BB := BB.trans (b1.mono BB.size)
 clear b1
 go_wp2
 go_ret2
 exact ⟨_,rfl,PH,BB⟩
set_option maxRecDepth 20000 in
set_option maxHeartbeats 4000000 in
theorem ppow3 (v : Value) (n : Nat) (q : Nat → Rat) (w : World) (hv : QRow w v n q 2) (ht : Tab w) (hn : n ≤ 6) :
  Calls Tryz.prog 14 #[v,.int .i64 3] w fun e w' => ∃ x,e = .returned (.tuple #[x,.int .i64 0]) ∧ PowRow w' x n q 3 3157 ∧ Below w.heap.size w w' := by
 have BB : Below w.heap.size w w := Below.refl _ _
 go_enter Tryz.func14,Tryz.ntmps14
 go_wp2_with fail
 refine (ppower3 _ n q _ hv ht hn).mono ?_
 rintro e w1 ⟨x1,rfl,PH,b1⟩
 replace hv := hv.below b1
 replace ht := ht.below b1
 replace BB := BB.trans (b1.mono BB.size)
 clear b1
 go_wp2
 go_ret2
 exact ⟨_,rfl,PH,BB⟩
set_option maxRecDepth 20000 in
set_option maxHeartbeats 4000000 in
theorem ppow4 (v : Value) (n : Nat) (q : Nat → Rat) (w : World) (hv : QRow w v n q 2) (ht : Tab w) (hn : n ≤ 6) :
  Calls Tryz.prog 14 #[v,.int .i64 4] w fun e w' => ∃ x,e = .returned (.tuple #[x,.int .i64 0]) ∧ PowRow w' x n q 4 11518 ∧ Below w.heap.size w w' := by
 have BB : Below w.heap.size w w := Below.refl _ _
 go_enter Tryz.func14,Tryz.ntmps14
 go_wp2_with fail
 refine (ppower4 _ n q _ hv ht hn).mono ?_
 rintro e w1 ⟨x1,rfl,PH,b1⟩
 replace hv := hv.below b1
 replace ht := ht.below b1
 replace BB := BB.trans (b1.mono BB.size)
 clear b1
 go_wp2
 go_ret2
 exact ⟨_,rfl,PH,BB⟩
set_option maxRecDepth 20000 in
set_option maxHeartbeats 4000000 in
theorem ppow_lo (v : Value) (k : Int) (w : World) (hk : k < 0) :
  Calls Tryz.prog 14 #[v,.int .i64 k] w fun e w' => e = .returned (.tuple #[.slice none 0 0,.int .i64 8]) ∧ Below w.heap.size w w' := by
 have g1 : k < 0 := hk
 have BB : Below w.heap.size w w := Below.refl _ _
 go_enter Tryz.func14,Tryz.ntmps14
 go_wp2
 go_ret2
 exact ⟨rfl,BB⟩
set_option maxRecDepth 20000 in
set_option maxHeartbeats 4000000 in
theorem ppow_hi (v : Value) (k : Int) (w : World) (hk : k > 64) :
  Calls Tryz.prog 14 #[v,.int .i64 k] w fun e w' => e = .returned (.tuple #[.slice none 0 0,.int .i64 8]) ∧ Below w.heap.size w w' := by
 have g1 : ¬ k < 0 := by omega
 have g2 : k > 64 := hk
 have BB : Below w.heap.size w w := Below.refl _ _
 go_enter Tryz.func14,Tryz.ntmps14
 go_wp2
 go_ret2
 exact ⟨rfl,BB⟩

theorem evN_line (a x : Rat) : evN (pq (-a) 1) x 2 = x - a := by
 show 0 + (-a) * x ^ 0 + 1 * x ^ 1 = x - a
 rw [Rat.pow_zero,show x ^ 1 = x by rw [Rat.pow_succ,Rat.pow_zero,Rat.one_mul]]
 grind
def oz : Nat → Nat
 | 0 => 1
 | t + 1 => 2 * (oz t + 3) + 1 + slz (5 - t) + 1
theorem oz_le (t : Nat) (h : t ≤ 6) : oz t ≤ 11110 := by
 rcases (by omega : t = 0 ∨ t = 1 ∨ t = 2 ∨ t = 3 ∨ t = 4 ∨ t = 5 ∨ t = 6) with rfl | rfl | rfl | rfl | rfl | rfl | rfl <;> decide
theorem oz_le5 (t : Nat) (h : t ≤ 5) : oz t ≤ 5550 := by
 rcases (by omega : t = 0 ∨ t = 1 ∨ t = 2 ∨ t = 3 ∨ t = 4 ∨ t = 5) with rfl | rfl | rfl | rfl | rfl | rfl <;> decide
theorem oz_pos : ∀ t,1 ≤ oz t
 | 0 => Nat.le_refl _
 | t + 1 => by show 1 ≤ 2 * (oz t + 3) + 1 + slz (5 - t) + 1; omega
theorem slz_at (i t n : Nat) (h : i + 1 + t = n) (hn : n ≤ 6) : slz i ≤ slz (5 - t) := by
 have := slz_mono2 i (5 - t - i)
 rwa [show i + (5 - t - i) = 5 - t by omega] at this
def SRow (w : World) (v : Value) (n : Nat) (s : Nat → Rat) : Prop := ∃ el,RowAt 3 w v n el ∧ ∀ i,i < n → RatAt w (elv el i) (s i) (slz i)
theorem SRow.below {w w' : World} {v : Value} {n : Nat} {s : Nat → Rat} (h : SRow w v n s) (hb : Below w.heap.size w w') : SRow w' v n s := let ⟨el,h1,h2⟩ := h; ⟨el,h1.below hb,fun i hi => (h2 i hi).below hb⟩
theorem SRow.sub {w : World} {b off n c : Nat} {s : Nat → Rat} (h : SRow w (.slice (some ⟨b,off,none⟩) n c) n s) (i : Nat) (hi : i < n) : QRow w (.slice (some ⟨b,off + i * 3,none⟩) 1 (c - i)) 1 (fun j => s (i + j)) (slz i) := by
 obtain ⟨el,⟨a,c',h1,h2,h3,h4⟩,h5⟩ := h
 cases h1
 obtain ⟨b',off',e,hc⟩ := h4 (by omega)
 cases e
 refine ⟨fun k j => el (i + k) j,⟨_,_,rfl,by omega,by omega,fun _ => ⟨b,off + i * 3,rfl,fun k hk j hj => ?_⟩⟩,fun k hk => ?_⟩
 ·have := hc (i + k) (by omega) j hj
  rw [show off + (i + k) * 3 + j = off + i * 3 + k * 3 + j by omega] at this
  exact this
 ·obtain rfl : k = 0 := by omega
  exact h5 i hi
theorem SRow.block {w : World} {v : Value} {n : Nat} {s : Nat → Rat} (h : SRow w v n s) (hn : 0 < n) : ∃ b off c,v = .slice (some ⟨b,off,none⟩) n c ∧ n ≤ c ∧ c ≤ 9223372036854775807 := by
 obtain ⟨el,⟨a,c',h1,h2,h3,h4⟩,h5⟩ := h
 obtain ⟨b',off',rfl,hc⟩ := h4 hn
 exact ⟨b',off',c',h1,h2,h3⟩
def ThruOut (x y : Nat → Rat) (n : Nat) (w : World) (e : Ending) (w' : World) : Prop :=
 (Dist x n ∧ ∃ v l R,e = .returned (.tuple #[v,.int .i64 0]) ∧ FRow w' v l R ∧ l ≤ n ∧ (0 < l → R (l - 1) ≠ 0) ∧ (∀ i,i < l → qsz (R i) ≤ 11110) ∧ (∀ X,evN R X l = hornN x (fun i => slopeN x y i i) X n n) ∧ Below w.heap.size w w') ∨
 (¬ Dist x n ∧ e = .returned (.tuple #[.slice none 0 0,.int .i64 2]) ∧ Below w.heap.size w w')
set_option maxRecDepth 100000 in
set_option maxHeartbeats 8000000 in
theorem through_at (u v : Value) (n : Nat) (x y : Nat → Rat) (w : World) (hx : QRow w u n x 2) (hy : QRow w v n y 2) (ht : Tab w) (hn : n ≤ 6) :
  Calls Tryz.prog 38 #[u,v] w fun e w' => ThruOut x y n w e w' := by
 have sX : ∀ i,i < n → qsz (x i) ≤ 2 := fun i hi => hx.sz (by omega) i hi
 obtain ⟨xa,xc,rfl,hxc1,hxc2,hxs⟩ := hx.open
 obtain ⟨ya,yc,rfl,hyc1,hyc2,hys⟩ := hy.open
 have BB : Below w.heap.size w w := Below.refl _ _
 go_enter Tryz.func38,Tryz.ntmps38
 go_wp2_with fail
 refine (newton_at _ _ n x y _ hx hy ht hn).mono ?_
 rintro e w1 hN
 have hx0 := hx
 have ht0 := ht
 clear hx hy ht
 obtain ⟨HD,vs,rfl,sa,sc,rfl,hs1,hs2,hS,b1⟩ | ⟨HD,rfl,b1⟩ := hN
 ·obtain ⟨S,hSe⟩ : ∃ S,S = fun i => slopeN x y i i := ⟨_,rfl⟩
  have SR0 : SRow w1 (.slice sa n sc) n S := by rw [hSe]; exact hS
  have HSE : Hid (S = fun i => slopeN x y i i) := hSe
  have HDD : Hid (Dist x n) := HD
  clear hS hSe HD
  have B1 := b1
  have e0 : (n : Int) - 1 = (n : Int) - 1 := rfl
  go_wp2
  go_loopw [8,9] (fun vo vi wr => ∃ (k t l : Nat) (R : Nat → Rat),Hid (k + t = n) ∧ k ≤ 6 ∧ vi = .int .i64 ((k : Int) - 1) ∧ FRow wr vo l R ∧ l ≤ t ∧ Hid (0 < l → R (l - 1) ≠ 0) ∧ Hid (∀ i,i < l → qsz (R i) ≤ oz t) ∧ Hid (∀ X,evN R X l = hornN x S X n t) ∧ Below w1.heap.size w1 wr) (fun _ vi _ => (intOf vi + 1).toNat)
  case atStart => exact ⟨n,0,0,fun _ => 0,rfl,hn,rfl,⟨fun _ _ => .bool false,RowAt.nil _ _ _,fun i hi => by omega⟩,by omega,fun h => by omega,fun i hi => by omega,fun X => rfl,Below.refl _ _⟩
  case round =>
   obtain ⟨k,t,l,R,HKT,hk6,rfl,FR,hlt,HTOP,HSZ,HEV,BB⟩ := hrel
   obtain ⟨ra,rc,rfl⟩ := FR.open
   cases k with
   | zero =>
    have dz : ¬ ((0 : Nat) : Int) - 1 ≥ 0 := by omega
    have hkt := HKT.out
    obtain rfl : t = n := by omega
    have HF : Hid (ThruOut x y t w (.returned (.tuple #[.slice ra l rc,.int .i64 0])) wr) := Or.inl ⟨HDD.out,_,l,R,rfl,FR,hlt,HTOP.out,fun i hi => Nat.le_trans (HSZ.out i hi) (oz_le t hn),fun X => by rw [HEV.out X,HSE.out],b1.trans (BB.mono b1.size)⟩
    clear FR HTOP HSZ HEV
    go_wp2
    go_ret2
    exact HF.out
   | succ i =>
    rename_i i
    have hkt := HKT.out
    have q0 : ((i + 1 : Nat) : Int) - 1 = (i : Int) := by omega
    rw [q0]
    have q1 : (i : Int) ≥ 0 := by omega
    have hin : i < n := by omega
    have q2 : (i : Int) < (n : Int) := by omega
    obtain ⟨i1,hi1⟩ : ∃ i1,i1 = i + 1 := ⟨_,rfl⟩
    have q3 : (i : Int) + 1 = (i1 : Int) := by omega
    have q4 : IntKind.i64.wrap (i1 : Int) = (i1 : Int) := by rw [IntKind.wrap_i64]; omega
    have q9 : i1 - i = 1 := by omega
    have q5 : (i1 : Int) ≤ (n : Int) := by omega
    have q6 : (i : Int) ≤ (i1 : Int) := by omega
    have ht5 : t ≤ 5 := by omega
    have hoz := oz_le5 t ht5
    have hop := oz_pos t
    have hsl := slz_at i t n (by omega) hn
    have hs5 := slz_le (5 - t) (by omega)
    have HOZ : Hid (oz (t + 1) = 2 * (oz t + 3) + 1 + slz (5 - t) + 1) := rfl
    have sxi := sX i hin
    obtain ⟨sb,so,sc2,hvv,hsc,hsc63⟩ := SR0.block (by omega)
    cases hvv
    have q7 : ¬ sc = i := by omega
    have q8 : (i1 : Int) ≤ (sc : Int) := by omega
    obtain ⟨b,off,cc,p9,ao9,m9,d9,bo9,k9,e9,hvv,hcc,XC0,Hi0⟩ := hx0.at i hin
    cases hvv
    have XC := (XC0.below b1).below BB
    have Hi := (Hi0.below b1).below BB
    have ht := (ht0.below b1).below BB
    have SR := SR0.below BB
    clear XC0 Hi0
    have HI1 : Hid (i1 = i + 1) := hi1
    have HIT : Hid (i = n - (t + 1)) := by rw [Hid]; omega
    clear hi1 HKT
    have sL : ∀ j,j < 2 → qsz ((pq (-(x i)) 1) j) ≤ 2 := fun j hj => by unfold pq; split; exact qsz_neg_le sxi; exact Nat.le_trans (show qsz 1 ≤ 1 by decide +kernel) (by omega)
    obtain ⟨lm,hlm⟩ : ∃ lm,MulLen l R 2 (pq (-(x i)) 1) = lm := ⟨_,rfl⟩
    obtain ⟨RM,hRM⟩ : ∃ RM,conv l R 2 (pq (-(x i)) 1) = RM := ⟨_,rfl⟩
    have HLM : Hid (MulLen l R 2 (pq (-(x i)) 1) = lm) := hlm
    have HRM : Hid (conv l R 2 (pq (-(x i)) 1) = RM) := hRM
    have hlm2 := mul_len_two l R 2 (pq (-(x i)) 1)
    rw [hlm] at hlm2
    have sM : ∀ j,qsz (RM j) ≤ 2 * (oz t + 2 + 1) + 1 := fun j => hRM ▸ conv_sz2 HSZ.out sL hop (by omega) j
    have HEM : Hid (∀ X,evN RM X lm = hornN x S X n t * (X - x i)) := fun X => by rw [← hlm,← hRM,evN_mul,HEV.out X,evN_line]
    clear hlm hRM
    obtain ⟨lA,hlA⟩ : ∃ lA,trimN (fun j => co lm RM j + co 1 (fun j => S (i + j)) j) (max lm 1) = lA := ⟨_,rfl⟩
    have hlA2 : lA ≤ t + 1 := by rw [← hlA]; exact Nat.le_trans (trimN_le _ _) (by omega)
    have tA := trimN_top (fun j => co lm RM j + co 1 (fun j => S (i + j)) j) (max lm 1)
    have HTA : Hid (0 < lA → (fun j => co lm RM j + co 1 (fun j => S (i + j)) j) (lA - 1) ≠ 0) := by rw [hlA] at tA; exact tA
    have HEA : Hid (∀ X,evN (fun j => co lm RM j + co 1 (fun j => S (i + j)) j) X lA = hornN x S X n (t + 1)) := fun X => by
     rw [← hlA,evN_add lm RM 1 (fun j => S (i + j)) X,HEM.out X,evN_first]
     show _ = hornN x S X n t * (X - x (n - (t + 1))) + S (n - (t + 1))
     rw [← HIT.out]; rfl
    have sS : ∀ j,j < 1 → qsz (S (i + j)) ≤ slz i := fun j hj => (SR.sub i hin).sz (by have := slz_two i; omega) j hj
    have HSA : Hid (∀ j,j < lA → qsz ((fun j => co lm RM j + co 1 (fun j => S (i + j)) j) j) ≤ oz (t + 1)) := fun j _ => by
     have h1 := co_sz (n := lm) (fun j _ => sM j) (by omega) j
     have h2 := co_sz (n := 1) (q := (fun j => S (i + j))) sS (by have := slz_two i; omega) j
     exact Nat.le_trans (qsz_add _ _ h1 h2) (by rw [HOZ.out]; omega)
    have HLA : Hid (trimN (fun j => co lm RM j + co 1 (fun j => S (i + j)) j) (max lm 1) = lA) := hlA
    clear tA hlA HEM
    obtain ⟨XC_0,XC_1,XC_2⟩ := id XC
    go_wp2_with fail
    clear XC_0 XC_1 XC_2
    refine (qneg_at _ (x i) 2 _ Hi (by omega) (by omega) ht).mono ?_
    rintro e w1 ⟨x1,rfl,h1,b1⟩
    replace FR := FR.below b1
    replace ht := ht.below b1
    replace SR := SR.below b1
    replace Hi := Hi.below b1
    replace XC := XC.below b1
    replace BB := BB.trans (b1.mono BB.size)
    clear b1
    obtain ⟨p1,a1,n1,c1,b1,m1,d1,rfl⟩ := h1.open
    go_wp2_with fail
    clear Hi XC
    refine (qone_at _).mono ?_
    rintro e w2 ⟨x2,rfl,h2,b2⟩
    replace FR := FR.below b2
    replace ht := ht.below b2
    replace SR := SR.below b2
    replace h1 := h1.below b2
    replace BB := BB.trans (b2.mono BB.size)
    clear b2
    obtain ⟨p2,a2,n2,c2,b2,m2,d2,rfl⟩ := h2.open
    obtain ⟨Wr1,hWr1,bWr1,FL⟩ := frow2_lay w2 35 h1 h2
    replace FR := FR.below bWr1
    replace ht := ht.below bWr1
    replace SR := SR.below bWr1
    replace h1 := h1.below bWr1
    replace h2 := h2.below bWr1
    replace BB := BB.trans (bWr1.mono BB.size)
    go_wp2
    rw [← hWr1]
    clear hWr1 bWr1
    generalize w2.heap.size = Rr1 at *
    clear h1 h2
    refine wp_region_until 9 #[true,true,true,true,true,true,true,true,true,false] (fun aF lsd a' w' => ∃ vu0 vu1 vu2 vu3 vu4 vu5 vu6 vu7 vu8 : Value,a' = ((((((((aF.put (some 39) vu0).put (some 40) vu1).put (some 41) vu2).put (some 42) vu3).put (some 43) vu4).put (some 44) vu5).put (some 45) vu6).put (some 46) vu7).put (some 47) vu8 ∧ Below Wr1.heap.size Wr1 w' ∧ (lsd.getD 0 false = true → vu0 = .slice ra l rc) ∧ (lsd.getD 1 false = true → vu1 = .slice (some ⟨Rr1,0,none⟩) 2 2) ∧ (lsd.getD 2 false = true → FRow w' vu2 lm RM) ∧ (lsd.getD 3 false = true → vu3 = .slice (some ⟨sb,so,none⟩) n sc) ∧ (lsd.getD 4 false = true → vu4 = .int .i64 (i : Int)) ∧ (lsd.getD 5 false = true → vu5 = .int .i64 (i : Int)) ∧ (lsd.getD 6 false = true → vu6 = .int .i64 (i1 : Int)) ∧ (lsd.getD 7 false = true → vu7 = .slice (some ⟨sb,so + i * 3,none⟩) 1 (sc - i)) ∧ (lsd.getD 8 false = true → FRow w' vu8 lA (fun j => co lm RM j + co 1 (fun j => S (i + j)) j))) (by kernel_rfl) (by decide) (by kernel_rfl) (by rfl) (by kernel_rfl) ?_ ?_ ?_
    ·exact ⟨_,_,_,_,_,_,_,_,_,by simp only [Act.put,xL4,xL5,xL6]; rfl,(Below.refl _ _).drew,fun h => absurd h (fun h => mark_none h),fun h => absurd h (fun h => mark_none h),fun h => absurd h (fun h => mark_none h),fun h => absurd h (fun h => mark_none h),fun h => absurd h (fun h => mark_none h),fun h => absurd h (fun h => mark_none h),fun h => absurd h (fun h => mark_none h),fun h => absurd h (fun h => mark_none h),fun h => absurd h (fun h => mark_none h)⟩
    ·rintro lsd au wn iu hszu ⟨vu0,vu1,vu2,vu3,vu4,vu5,vu6,vu7,vu8,rfl,hbu,fu0,fu1,fu2,fu3,fu4,fu5,fu6,fu7,fu8⟩ himu hru
     rcases (show iu = 0 ∨ iu = 1 ∨ iu = 2 ∨ iu = 3 ∨ iu = 4 ∨ iu = 5 ∨ iu = 6 ∨ iu = 7 ∨ iu = 8 by omega) with rfl | rfl | rfl | rfl | rfl | rfl | rfl | rfl | rfl
     ·refine wpOp_shut (by rfl) (fun K hK => ?_)
      simp only [Act.put,xL4,xL5,xL6]
      go_simp
      exact hK.out _ _ ⟨(.slice ra l rc),vu1,vu2,vu3,vu4,vu5,vu6,vu7,vu8,by simp only [Act.put,xL4,xL5,xL6],hbu,fun _ => rfl,fun h => fu1 (mark_of (by decide) h),fun h => fu2 (mark_of (by decide) h),fun h => fu3 (mark_of (by decide) h),fun h => fu4 (mark_of (by decide) h),fun h => fu5 (mark_of (by decide) h),fun h => fu6 (mark_of (by decide) h),fun h => fu7 (mark_of (by decide) h),fun h => fu8 (mark_of (by decide) h)⟩
     ·refine wpOp_shut (by rfl) (fun K hK => ?_)
      simp only [Act.put,xL4,xL5,xL6]
      go_simp
      exact hK.out _ _ ⟨vu0,(.slice (some ⟨Rr1,0,none⟩) 2 2),vu2,vu3,vu4,vu5,vu6,vu7,vu8,by simp only [Act.put,xL4,xL5,xL6],hbu,fun h => fu0 (mark_of (by decide) h),fun _ => rfl,fun h => fu2 (mark_of (by decide) h),fun h => fu3 (mark_of (by decide) h),fun h => fu4 (mark_of (by decide) h),fun h => fu5 (mark_of (by decide) h),fun h => fu6 (mark_of (by decide) h),fun h => fu7 (mark_of (by decide) h),fun h => fu8 (mark_of (by decide) h)⟩
     ·have eu0 := fu0 (dep_of 0 hru rfl (by kernel_rfl))
      have eu1 := fu1 (dep_of 1 hru rfl (by kernel_rfl))
      replace eu0 := eu0.symm
      subst eu0
      replace eu1 := eu1.symm
      subst eu1
      refine wpOp_shut (by rfl) (fun K hK => ?_)
      simp only [Act.put,xL4,xL5,xL6]
      have FR := FR.below hbu
      have ht := ht.below hbu
      have FL := FL.below hbu
      go_simp
      refine (pmul_at _ _ l 2 R (pq (-(x i)) 1) (oz t + 1) _ (FR.q _ (fun j hj => Nat.le_trans (HSZ.out j hj) (by omega))) (FL.q _ (fun j hj => Nat.le_trans (sL j hj) (by omega))) ht (by omega) (by omega) (by omega) (Nat.le_trans (Nat.succ_le_succ (Nat.mul_le_mul (show l + 2 ≤ 7 by omega) (show oz t + 1 + (oz t + 1) + 1 ≤ 11103 by omega))) (by omega)) (by omega)).mono ?_
      rintro eu wx ⟨r2,rfl,h2,bu⟩
      replace h2 := h2.1
      rw [HLM.out,HRM.out] at h2
      go_wp2_with fail
      have hbu2 := hbu.trans (bu.mono hbu.size)
      exact hK.out _ _ ⟨(.slice ra l rc),(.slice (some ⟨Rr1,0,none⟩) 2 2),_,vu3,vu4,vu5,vu6,vu7,vu8,by simp only [Act.put,xL4,xL5,xL6],hbu2,fun _ => rfl,fun _ => rfl,fun _ => h2,fun h => fu3 (mark_of (by decide) h),fun h => fu4 (mark_of (by decide) h),fun h => fu5 (mark_of (by decide) h),fun h => fu6 (mark_of (by decide) h),fun h => fu7 (mark_of (by decide) h),fun h => (fu8 (mark_of (by decide) h)).below bu⟩
     ·refine wpOp_shut (by rfl) (fun K hK => ?_)
      simp only [Act.put,xL4,xL5,xL6]
      go_simp
      exact hK.out _ _ ⟨vu0,vu1,vu2,(.slice (some ⟨sb,so,none⟩) n sc),vu4,vu5,vu6,vu7,vu8,by simp only [Act.put,xL4,xL5,xL6],hbu,fun h => fu0 (mark_of (by decide) h),fun h => fu1 (mark_of (by decide) h),fun h => fu2 (mark_of (by decide) h),fun _ => rfl,fun h => fu4 (mark_of (by decide) h),fun h => fu5 (mark_of (by decide) h),fun h => fu6 (mark_of (by decide) h),fun h => fu7 (mark_of (by decide) h),fun h => fu8 (mark_of (by decide) h)⟩
     ·refine wpOp_shut (by rfl) (fun K hK => ?_)
      simp only [Act.put,xL4,xL5,xL6]
      go_simp
      exact hK.out _ _ ⟨vu0,vu1,vu2,vu3,(.int .i64 (i : Int)),vu5,vu6,vu7,vu8,by simp only [Act.put,xL4,xL5,xL6],hbu,fun h => fu0 (mark_of (by decide) h),fun h => fu1 (mark_of (by decide) h),fun h => fu2 (mark_of (by decide) h),fun h => fu3 (mark_of (by decide) h),fun _ => rfl,fun h => fu5 (mark_of (by decide) h),fun h => fu6 (mark_of (by decide) h),fun h => fu7 (mark_of (by decide) h),fun h => fu8 (mark_of (by decide) h)⟩
     ·refine wpOp_shut (by rfl) (fun K hK => ?_)
      simp only [Act.put,xL4,xL5,xL6]
      go_simp
      exact hK.out _ _ ⟨vu0,vu1,vu2,vu3,vu4,(.int .i64 (i : Int)),vu6,vu7,vu8,by simp only [Act.put,xL4,xL5,xL6],hbu,fun h => fu0 (mark_of (by decide) h),fun h => fu1 (mark_of (by decide) h),fun h => fu2 (mark_of (by decide) h),fun h => fu3 (mark_of (by decide) h),fun h => fu4 (mark_of (by decide) h),fun _ => rfl,fun h => fu6 (mark_of (by decide) h),fun h => fu7 (mark_of (by decide) h),fun h => fu8 (mark_of (by decide) h)⟩
     ·have eu5 := fu5 (dep_of 5 hru rfl (by kernel_rfl))
      replace eu5 := eu5.symm
      subst eu5
      refine wpOp_shut (by rfl) (fun K hK => ?_)
      simp only [Act.put,xL4,xL5,xL6]
      go_simp
      exact hK.out _ _ ⟨vu0,vu1,vu2,vu3,vu4,(.int .i64 (i : Int)),(.int .i64 (i1 : Int)),vu7,vu8,by simp only [Act.put,xL4,xL5,xL6],hbu,fun h => fu0 (mark_of (by decide) h),fun h => fu1 (mark_of (by decide) h),fun h => fu2 (mark_of (by decide) h),fun h => fu3 (mark_of (by decide) h),fun h => fu4 (mark_of (by decide) h),fun _ => rfl,fun _ => rfl,fun h => fu7 (mark_of (by decide) h),fun h => fu8 (mark_of (by decide) h)⟩
     ·have eu3 := fu3 (dep_of 3 hru rfl (by kernel_rfl))
      have eu4 := fu4 (dep_of 4 hru rfl (by kernel_rfl))
      have eu6 := fu6 (dep_of 6 hru rfl (by kernel_rfl))
      replace eu3 := eu3.symm
      subst eu3
      replace eu4 := eu4.symm
      subst eu4
      replace eu6 := eu6.symm
      subst eu6
      refine wpOp_shut (by rfl) (fun K hK => ?_)
      simp only [Act.put,xL4,xL5,xL6]
      go_simp
      exact hK.out _ _ ⟨vu0,vu1,vu2,(.slice (some ⟨sb,so,none⟩) n sc),(.int .i64 (i : Int)),vu5,(.int .i64 (i1 : Int)),(.slice (some ⟨sb,so + i * 3,none⟩) 1 (sc - i)),vu8,by simp only [Act.put,xL4,xL5,xL6],hbu,fun h => fu0 (mark_of (by decide) h),fun h => fu1 (mark_of (by decide) h),fun h => fu2 (mark_of (by decide) h),fun _ => rfl,fun _ => rfl,fun h => fu5 (mark_of (by decide) h),fun _ => rfl,fun _ => rfl,fun h => fu8 (mark_of (by decide) h)⟩
     ·have eu7 := fu7 (dep_of 7 hru rfl (by kernel_rfl))
      replace eu7 := eu7.symm
      subst eu7
      have h2 := fu2 (dep_of 2 hru rfl (by kernel_rfl))
      refine wpOp_shut (by rfl) (fun K hK => ?_)
      simp only [Act.put,xL4,xL5,xL6]
      have ht := ht.below hbu
      have SR := SR.below hbu
      go_simp
      refine (padd_at _ _ lm 1 RM (fun j => S (i + j)) (2 * (oz t + 2 + 1) + 1 + slz (5 - t)) _ (h2.q _ (fun j _ => Nat.le_trans (sM j) (by omega))) ((SR.sub i hin).le (by omega)) ht (by omega) (by omega) (by omega) (by omega)).mono ?_
      rintro eu wx ⟨r8,rfl,h8,bu⟩
      replace h8 := h8.1
      rw [HLA.out] at h8
      go_wp2_with fail
      have hbu2 := hbu.trans (bu.mono hbu.size)
      exact hK.out _ _ ⟨vu0,vu1,vu2,vu3,vu4,vu5,vu6,(.slice (some ⟨sb,so + i * 3,none⟩) 1 (sc - i)),_,by simp only [Act.put,xL4,xL5,xL6],hbu2,fun h => fu0 (mark_of (by decide) h),fun h => fu1 (mark_of (by decide) h),fun h => (fu2 (mark_of (by decide) h)).below bu,fun h => fu3 (mark_of (by decide) h),fun h => fu4 (mark_of (by decide) h),fun h => fu5 (mark_of (by decide) h),fun h => fu6 (mark_of (by decide) h),fun _ => rfl,fun _ => h8⟩
    rintro au Wu2 ⟨vu0,vu1,vu2,vu3,vu4,vu5,vu6,vu7,vu8,rfl,hbu,fu0,fu1,fu2,fu3,fu4,fu5,fu6,fu7,fu8⟩
    have eu0 := (fu0 rfl).symm
    subst eu0
    have eu1 := (fu1 rfl).symm
    subst eu1
    have h2 := fu2 rfl
    have eu3 := (fu3 rfl).symm
    subst eu3
    have eu4 := (fu4 rfl).symm
    subst eu4
    have eu5 := (fu5 rfl).symm
    subst eu5
    have eu6 := (fu6 rfl).symm
    subst eu6
    have eu7 := (fu7 rfl).symm
    subst eu7
    have h8 := fu8 rfl
    clear fu0 fu1 fu2 fu3 fu4 fu5 fu6 fu7 fu8
    replace FR := FR.below hbu
    replace ht := ht.below hbu
    replace SR := SR.below hbu
    replace FL := FL.below hbu
    replace BB := BB.trans (hbu.mono BB.size)
    clear hbu
    simp only [Act.put,xL4,xL5,xL6]
    refine xR [9] (h := ?_)
    refine AllReadyH.cons (by rfl) (fun K hK => ?_) AllReadyH.nil
    go_simp
    refine hK.out _ _ trivial (fun _ => ?_)
    clear hK K
    simp only [Act.put,xL4,xL5,xL6]
    refine wpAnyH_done (by kernel_rfl) ?_ _
    go_wp2
    go_roundw
    case rel => exact ⟨i,t + 1,lA,_,by rw [Hid]; omega,by omega,by go_num,h8,hlA2,HTA,HSA,HEA,BB⟩
    case measure => simp [intOf]
 ·have HF : Hid (ThruOut x y n w (.returned (.tuple #[.slice none 0 0,.int .i64 2])) w1) := Or.inr ⟨HD,rfl,b1⟩
  go_wp2
  go_ret2
  exact HF.out
set_option maxRecDepth 20000 in
set_option maxHeartbeats 2000000 in
theorem through_len (u v : Value) (n m : Nat) (x y : Nat → Rat) (w : World) (hx : QRow w u n x 2) (hy : QRow w v m y 2) (hn : n ≠ m) :
  Calls Tryz.prog 38 #[u,v] w fun e w' => e = .returned (.tuple #[.slice none 0 0,.int .i64 14]) ∧ Below w.heap.size w w' := by
 obtain ⟨xa,xc,rfl,_,_,_⟩ := hx.open
 obtain ⟨ya,yc,rfl,_,_,_⟩ := hy.open
 have hne : ¬ (n : Int) = (m : Int) := by omega
 have hnb : ((n : Int) != (m : Int)) = true := by simp; omega
 have BB : Below w.heap.size w w := Below.refl _ _
 go_enter Tryz.func38,Tryz.ntmps38
 go_wp2
 go_ret2
 exact ⟨rfl,BB⟩
end Go.Proofs.YtnbocjbfieklhaaGreatDoor
