/-
  Texts of mine, joined: what lies beneath the statement.
-/
import Derived.Test.YtnbocjbfieklhaaGreatDoorJ6512a909fe
import Derived.Test.YtnbocjbfieklhaaGreatDoorJ2a251491fe
import Derived.Test.YtnbocjbfieklhaaGreatDoorJ7c3c27c2cf
namespace Go.Proofs.YtnbocjbfieklhaaGreatDoor
open Go.RowKit
set_option linter.unusedVariables false
set_option linter.unusedSimpArgs false
theorem frow1_lay (w : World) (t : TypeId) {p1 : Bool} {a1 : Option Addr} {n1 c1 : Nat} {b1 : Option Addr} {m1 d1 : Nat} {x : Rat} (h1 : RepQ w (.agg #[.bool p1,.slice a1 n1 c1,.slice b1 m1 d1]) x) :
  ∃ W,W = w.alloc (.cells #[.bool p1,.slice a1 n1 c1,.slice b1 m1 d1] t) ∧ Below w.heap.size w W ∧ FRow W (.slice (some ⟨w.heap.size,0,none⟩) 1 1) 1 (fun _ => x) := by
 have hb := heap_alloc_new w (.cells #[.bool p1,.slice a1 n1 c1,.slice b1 m1 d1] t)
 have hB : Below w.heap.size w (w.alloc (.cells #[.bool p1,.slice a1 n1 c1,.slice b1 m1 d1] t)) := (Below.refl _ _).alloc (Nat.le_refl _) _
 refine ⟨_,rfl,hB,fun i j => ([[.bool p1,.slice a1 n1 c1,.slice b1 m1 d1]].getD i []).getD j undef,⟨_,_,rfl,by omega,by omega,fun _ => ⟨_,_,rfl,fun i hi j hj => ?_⟩⟩,fun i hi => ?_⟩
 ·rw [cell_of_row _ _ _ _ _ _ hb]
  rcases (by omega : i = 0) with rfl; rcases (by omega : j = 0 ∨ j = 1 ∨ j = 2) with rfl | rfl | rfl <;> rfl
 ·rcases (by omega : i = 0) with rfl
  exact h1.below hB
theorem mul_len_two (n : Nat) (q : Nat → Rat) (m : Nat) (r : Nat → Rat) : MulLen n q m r + 1 ≤ n + m ∨ MulLen n q m r = 0 := by
 have l1 := trimN_le q n
 have l2 := trimN_le r m
 unfold MulLen
 split
 ·exact Or.inr rfl
 ·have := trimN_le (conv n q m r) (trimN q n + trimN r m - 1)
  omega
theorem mul_top (n : Nat) (q : Nat → Rat) (m : Nat) (r : Nat → Rat) : 0 < MulLen n q m r → conv n q m r (MulLen n q m r - 1) ≠ 0 := by
 unfold MulLen
 split
 ·intro h; omega
 ·exact trimN_top _ _
theorem cone_co (x : Rat) (hx : x = 1) (i : Nat) : co 1 (fun _ => x) i = cone i := by
 unfold co cone
 by_cases h : i = 0
 ·rw [if_pos (by omega),if_pos h,hx]
 ·rw [if_neg (by omega),if_neg h]
def PowRow (w : World) (v : Value) (n : Nat) (q : Nat → Rat) (k S : Nat) : Prop := ∃ (l : Nat) (R : Nat → Rat),FRow w v l R ∧ l ≤ 1 + 5 * k ∧ (0 < l → R (l - 1) ≠ 0) ∧ (∀ i,co l R i = cpow (co n q) k i) ∧ ∀ i,i < l → qsz (R i) ≤ S
theorem PowRow.below {w w' : World} {v : Value} {n : Nat} {q : Nat → Rat} {k S : Nat} (h : PowRow w v n q k S) (hb : Below w.heap.size w w') : PowRow w' v n q k S := let ⟨l,R,h1,h2⟩ := h; ⟨l,R,h1.below hb,h2⟩
set_option maxRecDepth 20000 in
set_option maxHeartbeats 4000000 in
theorem ppower0 (v : Value) (n : Nat) (q : Nat → Rat) (w : World) (hv : QRow w v n q 2) (ht : Tab w) (hn : n ≤ 6) :
  Calls Tryz.prog 45 #[v,.int .i64 0] w fun e w' => ∃ x,e = .returned x ∧ PowRow w' x n q 0 1 ∧ Below w.heap.size w w' := by
 have BB : Below w.heap.size w w := Below.refl _ _
 go_enter Tryz.func45,Tryz.ntmps45
 go_wp2_with fail
 refine (qone_at _).mono ?_
 rintro e w1 ⟨x1,rfl,h1,b1⟩
 replace hv := hv.below b1
 replace ht := ht.below b1
 replace BB := BB.trans (b1.mono BB.size)
 clear b1
 obtain ⟨p1,a1,n1,c1,b1,m1,d1,rfl⟩ := h1.open
 obtain ⟨W9,hW9,b9,FA⟩ := frow1_lay w1 35 h1
 replace hv := hv.below b9
 replace ht := ht.below b9
 replace h1 := h1.below b9
 replace BB := BB.trans (b9.mono BB.size)
 go_wp2
 rw [← hW9]
 clear hW9 b9
 generalize w1.heap.size = R9 at *
 go_ret
 exact ⟨_,rfl,⟨1,_,FA,by omega,fun _ => by decide,cone_co 1 rfl,fun i hi => Nat.le_trans (show qsz 1 ≤ 1 by decide +kernel) (by omega)⟩,BB⟩
set_option maxRecDepth 20000 in
set_option maxHeartbeats 4000000 in
theorem ppower1 (v : Value) (n : Nat) (q : Nat → Rat) (w : World) (hv : QRow w v n q 2) (ht : Tab w) (hn : n ≤ 6) :
  Calls Tryz.prog 45 #[v,.int .i64 1] w fun e w' => ∃ x,e = .returned x ∧ PowRow w' x n q 1 43 ∧ Below w.heap.size w w' := by
 have BB : Below w.heap.size w w := Below.refl _ _
 go_enter Tryz.func45,Tryz.ntmps45
 go_wp2_with fail
 refine (ppower0 _ n q _ hv ht hn).mono ?_
 rintro e w1 ⟨x1,rfl,PH,b1⟩
 replace hv := hv.below b1
 replace ht := ht.below b1
 replace BB := BB.trans (b1.mono BB.size)
 clear b1
 obtain ⟨l,R,FH,hl,htop,hco,hsz⟩ := PH
 obtain ⟨ah,ch,rfl⟩ := FH.open
 have HCO : Hid (∀ i,co l R i = cpow (co n q) 0 i) := hco
 have HTOP : Hid (0 < l → R (l - 1) ≠ 0) := htop
 have hSq : ∀ i,i < n → qsz (q i) ≤ 2 := fun i hi => hv.sz (by omega) i hi
 clear hco htop
 go_wp2_with fail
 refine (pmul_at _ _ l l R R 1 _ (FH.q 1 hsz) (FH.q 1 hsz) ht (by omega) (by omega) (by omega) (Nat.le_trans (Nat.succ_le_succ (Nat.mul_le_mul_right _ (show l + l ≤ 2 by omega))) (by omega)) (by omega)).mono ?_
 rintro e w2 ⟨x2,rfl,FO,b2⟩
 replace hv := hv.below b2
 replace ht := ht.below b2
 replace FH := FH.below b2
 replace BB := BB.trans (b2.mono BB.size)
 clear b2
 have FO1 := FO.1
 clear FO
 have lO := mul_len_two l R l R
 have tO := mul_top l R l R
 have sO : ∀ i,qsz (conv l R l R i) ≤ 4 := fun i => Nat.le_trans (conv_sz2 hsz hsz (by omega) (by omega) i) (Nat.le_trans (Nat.succ_le_succ (Nat.mul_le_mul_right _ (show l ≤ 1 by omega))) (by omega))
 have HC2 : Hid (∀ i,co (MulLen l R l R) (conv l R l R) i = cpow (co n q) 0 i) := fun i => by rw [mul_co,conv_cmul,cmul_congr HCO.out HCO.out]; exact cpow_add (co n q) 0 0 i
 generalize MulLen l R l R = lo at *
 generalize conv l R l R = RO at *
 obtain ⟨ao,c_o,rfl⟩ := FO1.open
 go_wp2_with fail
 refine (pmul_at _ _ lo n RO q 4 _ (FO1.q 4 (fun i _ => Nat.le_trans (sO i) (by omega))) (hv.le (by omega)) ht (by omega) (by omega) (by omega) (Nat.le_trans (Nat.succ_le_succ (Nat.mul_le_mul_right _ (show lo + n ≤ 7 by omega))) (by omega)) (by omega)).mono ?_
 rintro e w3 ⟨x3,rfl,FP,b3⟩
 replace hv := hv.below b3
 replace ht := ht.below b3
 replace FH := FH.below b3
 replace FO1 := FO1.below b3
 replace BB := BB.trans (b3.mono BB.size)
 clear b3
 go_wp2
 go_ret
 exact ⟨_,rfl,⟨_,_,FP.1,by have := mul_len_two lo RO n q; omega,mul_top _ _ _ _,fun i => by rw [mul_co,conv_cmul,cmul_congr HC2.out (fun _ => rfl)]; rfl,fun i _ => Nat.le_trans (conv_sz2 (fun i _ => sO i) hSq (by omega) (by omega) i) (Nat.le_trans (Nat.succ_le_succ (Nat.mul_le_mul_right _ hn)) (by omega))⟩,BB⟩
set_option maxRecDepth 20000 in
set_option maxHeartbeats 4000000 in
theorem ppower2 (v : Value) (n : Nat) (q : Nat → Rat) (w : World) (hv : QRow w v n q 2) (ht : Tab w) (hn : n ≤ 6) :
  Calls Tryz.prog 45 #[v,.int .i64 2] w fun e w' => ∃ x,e = .returned x ∧ PowRow w' x n q 2 523 ∧ Below w.heap.size w w' := by
 have BB : Below w.heap.size w w := Below.refl _ _
 go_enter Tryz.func45,Tryz.ntmps45
 go_wp2_with fail
 refine (ppower1 _ n q _ hv ht hn).mono ?_
 rintro e w1 ⟨x1,rfl,PH,b1⟩
 replace hv := hv.below b1
 replace ht := ht.below b1
 replace BB := BB.trans (b1.mono BB.size)
 clear b1
 obtain ⟨l,R,FH,hl,htop,hco,hsz⟩ := PH
 obtain ⟨ah,ch,rfl⟩ := FH.open
 have HCO : Hid (∀ i,co l R i = cpow (co n q) 1 i) := hco
 have HTOP : Hid (0 < l → R (l - 1) ≠ 0) := htop
 have hSq : ∀ i,i < n → qsz (q i) ≤ 2 := fun i hi => hv.sz (by omega) i hi
 clear hco htop
 go_wp2_with fail
 refine (pmul_at _ _ l l R R 43 _ (FH.q 43 hsz) (FH.q 43 hsz) ht (by omega) (by omega) (by omega) (Nat.le_trans (Nat.succ_le_succ (Nat.mul_le_mul_right _ (show l + l ≤ 12 by omega))) (by omega)) (by omega)).mono ?_
 rintro e w2 ⟨x2,rfl,FO,b2⟩
 replace hv := hv.below b2
 replace ht := ht.below b2
 replace FH := FH.below b2
 replace BB := BB.trans (b2.mono BB.size)
 clear b2
 have FO1 := FO.1
 clear FO
 have lO := mul_len_two l R l R
 have tO := mul_top l R l R
 have sO : ∀ i,qsz (conv l R l R i) ≤ 523 := fun i => Nat.le_trans (conv_sz2 hsz hsz (by omega) (by omega) i) (Nat.le_trans (Nat.succ_le_succ (Nat.mul_le_mul_right _ (show l ≤ 6 by omega))) (by omega))
 have HC2 : Hid (∀ i,co (MulLen l R l R) (conv l R l R) i = cpow (co n q) 2 i) := fun i => by rw [mul_co,conv_cmul,cmul_congr HCO.out HCO.out]; exact cpow_add (co n q) 1 1 i
 generalize MulLen l R l R = lo at *
 generalize conv l R l R = RO at *
 obtain ⟨ao,c_o,rfl⟩ := FO1.open
 go_wp2
 go_ret
 exact ⟨_,rfl,⟨_,_,FO1,by omega,tO,HC2.out,fun i _ => Nat.le_trans (sO i) (by omega)⟩,BB⟩
set_option maxRecDepth 20000 in
set_option maxHeartbeats 4000000 in
theorem ppower3 (v : Value) (n : Nat) (q : Nat → Rat) (w : World) (hv : QRow w v n q 2) (ht : Tab w) (hn : n ≤ 6) :
  Calls Tryz.prog 45 #[v,.int .i64 3] w fun e w' => ∃ x,e = .returned x ∧ PowRow w' x n q 3 3157 ∧ Below w.heap.size w w' := by
 have BB : Below w.heap.size w w := Below.refl _ _
 go_enter Tryz.func45,Tryz.ntmps45
 go_wp2_with fail
 refine (ppower1 _ n q _ hv ht hn).mono ?_
 rintro e w1 ⟨x1,rfl,PH,b1⟩
 replace hv := hv.below b1
 replace ht := ht.below b1
 replace BB := BB.trans (b1.mono BB.size)
 clear b1
 obtain ⟨l,R,FH,hl,htop,hco,hsz⟩ := PH
 obtain ⟨ah,ch,rfl⟩ := FH.open
 have HCO : Hid (∀ i,co l R i = cpow (co n q) 1 i) := hco
 have HTOP : Hid (0 < l → R (l - 1) ≠ 0) := htop
 have hSq : ∀ i,i < n → qsz (q i) ≤ 2 := fun i hi => hv.sz (by omega) i hi
 clear hco htop
 go_wp2_with fail
 refine (pmul_at _ _ l l R R 43 _ (FH.q 43 hsz) (FH.q 43 hsz) ht (by omega) (by omega) (by omega) (Nat.le_trans (Nat.succ_le_succ (Nat.mul_le_mul_right _ (show l + l ≤ 12 by omega))) (by omega)) (by omega)).mono ?_
 rintro e w2 ⟨x2,rfl,FO,b2⟩
 replace hv := hv.below b2
 replace ht := ht.below b2
 replace FH := FH.below b2
 replace BB := BB.trans (b2.mono BB.size)
 clear b2
 have FO1 := FO.1
 clear FO
 have lO := mul_len_two l R l R
 have tO := mul_top l R l R
 have sO : ∀ i,qsz (conv l R l R i) ≤ 523 := fun i => Nat.le_trans (conv_sz2 hsz hsz (by omega) (by omega) i) (Nat.le_trans (Nat.succ_le_succ (Nat.mul_le_mul_right _ (show l ≤ 6 by omega))) (by omega))
 have HC2 : Hid (∀ i,co (MulLen l R l R) (conv l R l R) i = cpow (co n q) 2 i) := fun i => by rw [mul_co,conv_cmul,cmul_congr HCO.out HCO.out]; exact cpow_add (co n q) 1 1 i
 generalize MulLen l R l R = lo at *
 generalize conv l R l R = RO at *
 obtain ⟨ao,c_o,rfl⟩ := FO1.open
 go_wp2_with fail
 refine (pmul_at _ _ lo n RO q 523 _ (FO1.q 523 (fun i _ => Nat.le_trans (sO i) (by omega))) (hv.le (by omega)) ht (by omega) (by omega) (by omega) (Nat.le_trans (Nat.succ_le_succ (Nat.mul_le_mul_right _ (show lo + n ≤ 17 by omega))) (by omega)) (by omega)).mono ?_
 rintro e w3 ⟨x3,rfl,FP,b3⟩
 replace hv := hv.below b3
 replace ht := ht.below b3
 replace FH := FH.below b3
 replace FO1 := FO1.below b3
 replace BB := BB.trans (b3.mono BB.size)
 clear b3
 go_wp2
 go_ret
 exact ⟨_,rfl,⟨_,_,FP.1,by have := mul_len_two lo RO n q; omega,mul_top _ _ _ _,fun i => by rw [mul_co,conv_cmul,cmul_congr HC2.out (fun _ => rfl)]; rfl,fun i _ => Nat.le_trans (conv_sz2 (fun i _ => sO i) hSq (by omega) (by omega) i) (Nat.le_trans (Nat.succ_le_succ (Nat.mul_le_mul_right _ hn)) (by omega))⟩,BB⟩
set_option maxRecDepth 20000 in
set_option maxHeartbeats 4000000 in
theorem ppower4 (v : Value) (n : Nat) (q : Nat → Rat) (w : World) (hv : QRow w v n q 2) (ht : Tab w) (hn : n ≤ 6) :
  Calls Tryz.prog 45 #[v,.int .i64 4] w fun e w' => ∃ x,e = .returned x ∧ PowRow w' x n q 4 11518 ∧ Below w.heap.size w w' := by
 have BB : Below w.heap.size w w := Below.refl _ _
 go_enter Tryz.func45,Tryz.ntmps45
 go_wp2_with fail
 refine (ppower2 _ n q _ hv ht hn).mono ?_
 rintro e w1 ⟨x1,rfl,PH,b1⟩
 replace hv := hv.below b1
 replace ht := ht.below b1
 replace BB := BB.trans (b1.mono BB.size)
 clear b1
 obtain ⟨l,R,FH,hl,htop,hco,hsz⟩ := PH
 obtain ⟨ah,ch,rfl⟩ := FH.open
 have HCO : Hid (∀ i,co l R i = cpow (co n q) 2 i) := hco
 have HTOP : Hid (0 < l → R (l - 1) ≠ 0) := htop
 have hSq : ∀ i,i < n → qsz (q i) ≤ 2 := fun i hi => hv.sz (by omega) i hi
 clear hco htop
 go_wp2_with fail
 refine (pmul_at _ _ l l R R 523 _ (FH.q 523 hsz) (FH.q 523 hsz) ht (by omega) (by omega) (by omega) (Nat.le_trans (Nat.succ_le_succ (Nat.mul_le_mul_right _ (show l + l ≤ 22 by omega))) (by omega)) (by omega)).mono ?_
 rintro e w2 ⟨x2,rfl,FO,b2⟩
 replace hv := hv.below b2
 replace ht := ht.below b2
 replace FH := FH.below b2
 replace BB := BB.trans (b2.mono BB.size)
 clear b2
 have FO1 := FO.1
 clear FO
 have lO := mul_len_two l R l R
 have tO := mul_top l R l R
 have sO : ∀ i,qsz (conv l R l R i) ≤ 11518 := fun i => Nat.le_trans (conv_sz2 hsz hsz (by omega) (by omega) i) (Nat.le_trans (Nat.succ_le_succ (Nat.mul_le_mul_right _ (show l ≤ 11 by omega))) (by omega))
 have HC2 : Hid (∀ i,co (MulLen l R l R) (conv l R l R) i = cpow (co n q) 4 i) := fun i => by rw [mul_co,conv_cmul,cmul_congr HCO.out HCO.out]; exact cpow_add (co n q) 2 2 i
 generalize MulLen l R l R = lo at *
 generalize conv l R l R = RO at *
 obtain ⟨ao,c_o,rfl⟩ := FO1.open
 go_wp2
 go_ret
 exact ⟨_,rfl,⟨_,_,FO1,by omega,tO,HC2.out,fun i _ => Nat.le_trans (sO i) (by omega)⟩,BB⟩
set_option maxRecDepth 20000 in
set_option maxHeartbeats 4000000 in
theorem ppow0 (v : Value) (n : Nat) (q : Nat → Rat) (w : World) (hv : QRow w v n q 2) (ht : Tab w) (hn : n ≤ 6) :
  Calls Tryz.prog 14 #[v,.int .i64 0] w fun e w' => ∃ x,e = .returned (.tuple #[x,.int .i64 0]) ∧ PowRow w' x n q 0 1 ∧ Below w.heap.size w w' := by
 have BB : Below w.heap.size w w := Below.refl _ _
 go_enter Tryz.func14,Tryz.ntmps14
 go_wp2_with fail
 refine (ppower0 _ n q _ hv ht hn).mono ?_
 rintro e w1 ⟨x1,rfl,PH,b1⟩
 replace hv := hv.below b1
 replace ht := ht.below b1
 replace BB := BB.trans (b1.mono BB.size)
 clear b1
 go_wp2
 go_ret2
 exact ⟨_,rfl,PH,BB⟩
set_option maxRecDepth 20000 in
set_option maxHeartbeats 4000000 in
theorem ppow1 (v : Value) (n : Nat) (q : Nat → Rat) (w : World) (hv : QRow w v n q 2) (ht : Tab w) (hn : n ≤ 6) :
  Calls Tryz.prog 14 #[v,.int .i64 1] w fun e w' => ∃ x,e = .returned (.tuple #[x,.int .i64 0]) ∧ PowRow w' x n q 1 43 ∧ Below w.heap.size w w' := by
 have BB : Below w.heap.size w w := Below.refl _ _
 go_enter Tryz.func14,Tryz.ntmps14
 go_wp2_with fail
 refine (ppower1 _ n q _ hv ht hn).mono ?_
 rintro e w1 ⟨x1,rfl,PH,b1⟩
 replace hv := hv.below b1
 replace ht := ht.below b1
 replace BB := BB.trans (b1.mono BB.size)
 clear b1
 go_wp2
 go_ret2
 exact ⟨_,rfl,PH,BB⟩
set_option maxRecDepth 20000 in
set_option maxHeartbeats 4000000 in
theorem ppow2 (v : Value) (n : Nat) (q : Nat → Rat) (w : World) (hv : QRow w v n q 2) (ht : Tab w) (hn : n ≤ 6) :
  Calls Tryz.prog 14 #[v,.int .i64 2] w fun e w' => ∃ x,e = .returned (.tuple #[x,.int .i64 0]) ∧ PowRow w' x n q 2 523 ∧ Below w.heap.size w w' := by
 have BB : Below w.heap.size w w := Below.refl _ _
 go_enter Tryz.func14,Tryz.ntmps14
 go_wp2_with fail
 refine (ppower2 _ n q _ hv ht hn).mono ?_
 rintro e w1 ⟨x1,rfl,PH,b1⟩
 replace hv := hv.below b1
 replace ht := ht.below b1
 replace BB := BB.trans (b1.mono BB.size)
 clear b1
 go_wp2
 go_ret2
 exact ⟨_,rfl,PH,BB⟩
set_option maxRecDepth 20000 in
set_option maxHeartbeats 4000000 in
theorem ppow3 (v : Value) (n : Nat) (q : Nat → Rat) (w : World) (hv : QRow w v n q 2) (ht : Tab w) (hn : n ≤ 6) :
  Calls Tryz.prog 14 #[v,.int .i64 3] w fun e w' => ∃ x,e = .returned (.tuple #[x,.int .i64 0]) ∧ PowRow w' x n q 3 3157 ∧ Below w.heap.size w w' := by
 have BB : Below w.heap.size w w := Below.refl _ _
 go_enter Tryz.func14,Tryz.ntmps14
 go_wp2_with fail
 refine (ppower3 _ n q _ hv ht hn).mono ?_
 rintro e w1 ⟨x1,rfl,PH,b1⟩
 replace hv := hv.below b1
 replace ht := ht.below b1
 replace BB := BB.trans (b1.mono BB.size)
 clear b1
 go_wp2
 go_ret2
 exact ⟨_,rfl,PH,BB⟩
set_option maxRecDepth 20000 in
set_option maxHeartbeats 4000000 in
theorem ppow4 (v : Value) (n : Nat) (q : Nat → Rat) (w : World) (hv : QRow w v n q 2) (ht : Tab w) (hn : n ≤ 6) :
  Calls Tryz.prog 14 #[v,.int .i64 4] w fun e w' => ∃ x,e = .returned (.tuple #[x,.int .i64 0]) ∧ PowRow w' x n q 4 11518 ∧ Below w.heap.size w w' := by
 have BB : Below w.heap.size w w := Below.refl _ _
 go_enter Tryz.func14,Tryz.ntmps14
 go_wp2_with fail
 refine (ppower4 _ n q _ hv ht hn).mono ?_
 rintro e w1 ⟨x1,rfl,PH,b1⟩
 replace hv := hv.below b1
 replace ht := ht.below b1
 replace BB := BB.trans (b1.mono BB.size)
 clear b1
 go_wp2
 go_ret2
 exact ⟨_,rfl,PH,BB⟩
set_option maxRecDepth 20000 in
set_option maxHeartbeats 4000000 in
theorem ppow_lo (v : Value) (k : Int) (w : World) (hk : k < 0) :
  Calls Tryz.prog 14 #[v,.int .i64 k] w fun e w' => e = .returned (.tuple #[.slice none 0 0,.int .i64 8]) ∧ Below w.heap.size w w' := by
 have g1 : k < 0 := hk
 have BB : Below w.heap.size w w := Below.refl _ _
 go_enter Tryz.func14,Tryz.ntmps14
 go_wp2
 go_ret2
 exact ⟨rfl,BB⟩
set_option maxRecDepth 20000 in
set_option maxHeartbeats 4000000 in
theorem ppow_hi (v : Value) (k : Int) (w : World) (hk : k > 64) :
  Calls Tryz.prog 14 #[v,.int .i64 k] w fun e w' => e = .returned (.tuple #[.slice none 0 0,.int .i64 8]) ∧ Below w.heap.size w w' := by
 have g1 : ¬ k < 0 := by omega
 have g2 : k > 64 := hk
 have BB : Below w.heap.size w w := Below.refl _ _
 go_enter Tryz.func14,Tryz.ntmps14
 go_wp2
 go_ret2
 exact ⟨rfl,BB⟩
end Go.Proofs.YtnbocjbfieklhaaGreatDoor
