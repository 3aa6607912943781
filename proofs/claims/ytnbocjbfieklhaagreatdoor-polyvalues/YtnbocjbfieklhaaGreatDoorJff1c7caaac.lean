/-
  Texts of mine, joined: what lies beneath the statement.
-/
import Derived.Test.YtnbocjbfieklhaaGreatDoorJ804b67139d
import Derived.Test.YtnbocjbfieklhaaGreatDoorJ06af5f0dba
import Derived.Test.YtnbocjbfieklhaaGreatDoorJ3c12b2c2a0
import Derived.Test.YtnbocjbfieklhaaGreatDoorJb016ad185a
import Derived.Test.YtnbocjbfieklhaaGreatDoorJ9d0745f3d7
import Derived.Test.YtnbocjbfieklhaaGreatDoorJ1a324685d2
import Derived.Shelf.Abstract
import Derived.Shelf.RegionOpen
import Derived.WalkKit
import Derived.OwnWalkIn
import Derived.TacticsInMore
import Derived.LoopNIn
import Derived.LoopIn
namespace Go.Proofs.YtnbocjbfieklhaaGreatDoor
open Go.RowKit
set_option linter.unusedVariables false
set_option linter.unusedSimpArgs false
theorem frow1_lay (w : World) (t : TypeId) {p1 : Bool} {a1 : Option Addr} {n1 c1 : Nat} {b1 : Option Addr} {m1 d1 : Nat} {x : Rat} (h1 : RepQ w (.agg #[.bool p1,.slice a1 n1 c1,.slice b1 m1 d1]) x) :
  ∃ W,W = w.alloc (.cells #[.bool p1,.slice a1 n1 c1,.slice b1 m1 d1] t) ∧ Below w.heap.size w W ∧ FRow W (.slice (some ⟨w.heap.size,0,none⟩) 1 1) 1 (fun _ => x) := by
 have hb := heap_alloc_new w (.cells #[.bool p1,.slice a1 n1 c1,.slice b1 m1 d1] t)
 have hB : Below w.heap.size w (w.alloc (.cells #[.bool p1,.slice a1 n1 c1,.slice b1 m1 d1] t)) := (Below.refl _ _).alloc (Nat.le_refl _) _
 refine ⟨_,rfl,hB,fun i j => ([[.bool p1,.slice a1 n1 c1,.slice b1 m1 d1]].getD i []).getD j undef,⟨_,_,rfl,by omega,by omega,fun _ => ⟨_,_,rfl,fun i hi j hj => ?_⟩⟩,fun i hi => ?_⟩
 ·rw [cell_of_row _ _ _ _ _ _ hb]
  rcases (by omega : i = 0) with rfl; rcases (by omega : j = 0 ∨ j = 1 ∨ j = 2) with rfl | rfl | rfl <;> rfl
 ·rcases (by omega : i = 0) with rfl
  exact h1.below hB
theorem mul_len_two (n : Nat) (q : Nat → Rat) (m : Nat) (r : Nat → Rat) : MulLen n q m r + 1 ≤ n + m ∨ MulLen n q m r = 0 := by
 have l1 := trimN_le q n
 have l2 := trimN_le r m
 unfold MulLen
 split
 ·exact Or.inr rfl
 ·have := trimN_le (conv n q m r) (trimN q n + trimN r m - 1)
  omega
theorem mul_top (n : Nat) (q : Nat → Rat) (m : Nat) (r : Nat → Rat) : 0 < MulLen n q m r → conv n q m r (MulLen n q m r - 1) ≠ 0 := by
 unfold MulLen
 split
 ·intro h; omega
 ·exact trimN_top _ _
theorem cone_co (x : Rat) (hx : x = 1) (i : Nat) : co 1 (fun _ => x) i = cone i := by
 unfold co cone
 by_cases h : i = 0
 ·rw [if_pos (by omega),if_pos h,hx]
 ·rw [if_neg (by omega),if_neg h]
def PowRow (w : World) (v : Value) (n : Nat) (q : Nat → Rat) (k S : Nat) : Prop := ∃ (l : Nat) (R : Nat → Rat),FRow w v l R ∧ l ≤ 1 + 5 * k ∧ (0 < l → R (l - 1) ≠ 0) ∧ (∀ i,co l R i = cpow (co n q) k i) ∧ ∀ i,i < l → qsz (R i) ≤ S
theorem PowRow.below {w w' : World} {v : Value} {n : Nat} {q : Nat → Rat} {k S : Nat} (h : PowRow w v n q k S) (hb : Below w.heap.size w w') : PowRow w' v n q k S := let ⟨l,R,h1,h2⟩ := h; ⟨l,R,h1.below hb,h2⟩
set_option maxRecDepth 20000 in
set_option maxHeartbeats 4000000 in
theorem ppower0 (v : Value) (n : Nat) (q : Nat → Rat) (w : World) (hv : QRow w v n q 2) (ht : Tab w) (hn : n ≤ 6) :
  Calls Tryz.prog 45 #[v,.int .i64 0] w fun e w' => ∃ x,e = .returned x ∧ PowRow w' x n q 0 1 ∧ Below w.heap.size w w' := by
 have BB : Below w.heap.size w w := Below.refl _ _
 go_enter Tryz.func45,Tryz.ntmps45
 go_wp2_with fail
 refine (qone_at _).mono ?_
 rintro e w1 ⟨x1,rfl,h1,b1⟩
 replace hv := hv.below b1
 replace ht := ht.below b1
 replace BB := BB.trans (b1.mono BB.size)
 clear b1
 obtain ⟨p1,a1,n1,c1,b1,m1,d1,rfl⟩ := h1.open
 obtain ⟨W9,hW9,b9,FA⟩ := frow1_lay w1 35 h1
 replace hv := hv.below b9
 replace ht := ht.below b9
 replace h1 := h1.below b9
 replace BB := BB.trans (b9.mono BB.size)
 go_wp2
 rw [← hW9]
 clear hW9 b9
 generalize w1.heap.size = R9 at *
 go_ret
 exact ⟨_,rfl,⟨1,_,FA,by omega,fun _ => by decide,cone_co 1 rfl,fun i hi => Nat.le_trans (show qsz 1 ≤ 1 by decide +kernel) (by omega)⟩,BB⟩
set_option maxRecDepth 20000 in
set_option maxHeartbeats 4000000 in
theorem ppower1 (v : Value) (n : Nat) (q : Nat → Rat) (w : World) (hv : QRow w v n q 2) (ht : Tab w) (hn : n ≤ 6) :
  Calls Tryz.prog 45 #[v,.int .i64 1] w fun e w' => ∃ x,e = .returned x ∧ PowRow w' x n q 1 43 ∧ Below w.heap.size w w' := by
 have BB : Below w.heap.size w w := Below.refl _ _
 go_enter Tryz.func45,Tryz.ntmps45
 go_wp2_with fail
 refine (ppower0 _ n q _ hv ht hn).mono ?_
 rintro e w1 ⟨x1,rfl,PH,b1⟩
 replace hv := hv.below b1
 replace ht := ht.below b1
 replace BB := BB.trans (b1.mono BB.size)
 clear b1
 obtain ⟨l,R,FH,hl,htop,hco,hsz⟩ := PH
 obtain ⟨ah,ch,rfl⟩ := FH.open
 have HCO : Hid (∀ i,co l R i = cpow (co n q) 0 i) := hco
 have HTOP : Hid (0 < l → R (l - 1) ≠ 0) := htop
 have hSq : ∀ i,i < n → qsz (q i) ≤ 2 := fun i hi => hv.sz (by omega) i hi
 clear hco htop
 go_wp2_with fail
 refine (pmul_at _ _ l l R R 1 _ (FH.q 1 hsz) (FH.q 1 hsz) ht (by omega) (by omega) (by omega) (Nat.le_trans (Nat.succ_le_succ (Nat.mul_le_mul_right _ (show l + l ≤ 2 by omega))) (by omega)) (by omega)).mono ?_
 rintro e w2 ⟨x2,rfl,FO,b2⟩
 replace hv := hv.below b2
 replace ht := ht.below b2
 replace FH := FH.below b2
 replace BB := BB.trans (b2.mono BB.size)
 clear b2
 have FO1 := FO.1
 clear FO
 have lO := mul_len_two l R l R
 have tO := mul_top l R l R
 have sO : ∀ i,qsz (conv l R l R i) ≤ 4 := fun i => Nat.le_trans (conv_sz2 hsz hsz (by omega) (by omega) i) (Nat.le_trans (Nat.succ_le_succ (Nat.mul_le_mul_right _ (show l ≤ 1 by omega))) (by omega))
 have HC2 : Hid (∀ i,co (MulLen l R l R) (conv l R l R) i = cpow (co n q) 0 i) := fun i => by rw [mul_co,conv_cmul,cmul_congr HCO.out HCO.out]; exact cpow_add (co n q) 0 0 i
 generalize MulLen l R l R = lo at *
 generalize conv l R l R = RO at *
 obtain ⟨ao,c_o,rfl⟩ := FO1.open
 go_wp2_with fail
 refine (pmul_at _ _ lo n RO q 4 _ (FO1.q 4 (fun i _ => Nat.le_trans (sO i) (by omega))) (hv.le (by omega)) ht (by omega) (by omega) (by omega) (Nat.le_trans (Nat.succ_le_succ (Nat.mul_le_mul_right _ (show lo + n ≤ 7 by omega))) (by omega)) (by omega)).mono ?_
 rintro e w3 ⟨x3,rfl,FP,b3⟩
 replace hv := hv.below b3
 replace ht := ht.below b3
 replace FH := FH.below b3
 replace FO1 := FO1.below b3
 replace BB := BB.trans (b3.mono BB.size)
 clear b3
 go_wp2
 go_ret
 exact ⟨_,rfl,⟨_,_,FP.1,by have := mul_len_two lo RO n q; omega,mul_top _ _ _ _,fun i => by rw [mul_co,conv_cmul,cmul_congr HC2.out (fun _ => rfl)]; rfl,fun i _ => Nat.le_trans (conv_sz2 (fun i _ => sO i) hSq (by omega) (by omega) i) (Nat.le_trans (Nat.succ_le_succ (Nat.mul_le_mul_right _ hn)) (by omega))⟩,BB⟩
set_option maxRecDepth 20000 in
set_option maxHeartbeats 4000000 in
theorem ppower2 (v : Value) (n : Nat) (q : Nat → Rat) (w : World) (hv : QRow w v n q 2) (ht : Tab w) (hn : n ≤ 6) :
  Calls Tryz.prog 45 #[v,.int .i64 2] w fun e w' => ∃ x,e = .returned x ∧ PowRow w' x n q 2 523 ∧ Below w.heap.size w w' := by
 have BB : Below w.heap.size w w := Below.refl _ _
 go_enter Tryz.func45,Tryz.ntmps45
 go_wp2_with fail
 refine (ppower1 _ n q _ hv ht hn).mono ?_
 rintro e w1 ⟨x1,rfl,PH,b1⟩
 replace hv := hv.below b1
 replace ht := ht.below b1
 replace BB := BB.trans (b1.mono BB.size)
 clear b1
 obtain ⟨l,R,FH,hl,htop,hco,hsz⟩ := PH
 obtain ⟨ah,ch,rfl⟩ := FH.open
 have HCO : Hid (∀ i,co l R i = cpow (co n q) 1 i) := hco
 have HTOP : Hid (0 < l → R (l - 1) ≠ 0) := htop
 have hSq : ∀ i,i < n → qsz (q i) ≤ 2 := fun i hi => hv.sz (by omega) i hi
 clear hco htop
 go_wp2_with fail
 refine (pmul_at _ _ l l R R 43 _ (FH.q 43 hsz) (FH.q 43 hsz) ht (by omega) (by omega) (by omega) (Nat.le_trans (Nat.succ_le_succ (Nat.mul_le_mul_right _ (show l + l ≤ 12 by omega))) (by omega)) (by omega)).mono ?_
 rintro e w2 ⟨x2,rfl,FO,b2⟩
 replace hv := hv.below b2
 replace ht := ht.below b2
 replace FH := FH.below b2
 replace BB := BB.trans (b2.mono BB.size)
 clear b2
 have FO1 := FO.1
 clear FO
 have lO := mul_len_two l R l R
 have tO := mul_top l R l R
 have sO : ∀ i,qsz (conv l R l R i) ≤ 523 := fun i => Nat.le_trans (conv_sz2 hsz hsz (by omega) (by omega) i) (Nat.le_trans (Nat.succ_le_succ (Nat.mul_le_mul_right _ (show l ≤ 6 by omega))) (by omega))
 have HC2 : Hid (∀ i,co (MulLen l R l R) (conv l R l R) i = cpow (co n q) 2 i) := fun i => by rw [mul_co,conv_cmul,cmul_congr HCO.out HCO.out]; exact cpow_add (co n q) 1 1 i
 generalize MulLen l R l R = lo at *
 generalize conv l R l R = RO at *
 obtain ⟨ao,c_o,rfl⟩ := FO1.open
 go_wp2
 go_ret
 exact ⟨_,rfl,⟨_,_,FO1,by omega,tO,HC2.out,fun i _ => Nat.le_trans (sO i) (by omega)⟩,BB⟩
set_option maxRecDepth 20000 in
set_option maxHeartbeats 4000000 in
theorem ppower3 (v : Value) (n : Nat) (q : Nat → Rat) (w : World) (hv : QRow w v n q 2) (ht : Tab w) (hn : n ≤ 6) :
  Calls Tryz.prog 45 #[v,.int .i64 3] w fun e w' => ∃ x,e = .returned x ∧ PowRow w' x n q 3 3157 ∧ Below w.heap.size w w' := by
 have BB : Below w.heap.size w w := Below.refl _ _
 go_enter Tryz.func45,Tryz.ntmps45
 go_wp2_with fail
 refine (ppower1 _ n q _ hv ht hn).mono ?_
 rintro e w1 ⟨x1,rfl,PH,b1⟩
 replace hv := hv.below b1
 replace ht := ht.below b1
 replace BB := BB.trans (b1.mono BB.size)
 clear b1
 obtain ⟨l,R,FH,hl,htop,hco,hsz⟩ := PH
 obtain ⟨ah,ch,rfl⟩ := FH.open
 have HCO : Hid (∀ i,co l R i = cpow (co n q) 1 i) := hco
 have HTOP : Hid (0 < l → R (l - 1) ≠ 0) := htop
 have hSq : ∀ i,i < n → qsz (q i) ≤ 2 := fun i hi => hv.sz (by omega) i hi
 clear hco htop
 go_wp2_with fail
 refine (pmul_at _ _ l l R R 43 _ (FH.q 43 hsz) (FH.q 43 hsz) ht (by omega) (by omega) (by omega) (Nat.le_trans (Nat.succ_le_succ (Nat.mul_le_mul_right _ (show l + l ≤ 12 by omega))) (by omega)) (by omega)).mono ?_
 rintro e w2 ⟨x2,rfl,FO,b2⟩
 replace hv := hv.below b2
 replace ht := ht.below b2
 replace FH := FH.below b2
 replace BB := BB.trans (b2.mono BB.size)
 clear b2
 have FO1 := FO.1
 clear FO
 have lO := mul_len_two l R l R
 have tO := mul_top l R l R
 have sO : ∀ i,qsz (conv l R l R i) ≤ 523 := fun i => Nat.le_trans (conv_sz2 hsz hsz (by omega) (by omega) i) (Nat.le_trans (Nat.succ_le_succ (Nat.mul_le_mul_right _ (show l ≤ 6 by omega))) (by omega))
 have HC2 : Hid (∀ i,co (MulLen l R l R) (conv l R l R) i = cpow (co n q) 2 i) := fun i => by rw [mul_co,conv_cmul,cmul_congr HCO.out HCO.out]; exact cpow_add (co n q) 1 1 i
 generalize MulLen l R l R = lo at *
 generalize conv l R l R = RO at *
 obtain ⟨ao,c_o,rfl⟩ := FO1.open
 go_wp2_with fail
 refine (pmul_at _ _ lo n RO q 523 _ (FO1.q 523 (fun i _ => Nat.le_trans (sO i) (by omega))) (hv.le (by omega)) ht (by omega) (by omega) (by omega) (Nat.le_trans (Nat.succ_le_succ (Nat.mul_le_mul_right _ (show lo + n ≤ 17 by omega))) (by omega)) (by omega)).mono ?_
 rintro e w3 ⟨x3,rfl,FP,b3⟩
 replace hv := hv.below b3
 replace ht := ht.below b3
 replace FH := FH.below b3
 replace FO1 := FO1.below b3
 replace BB := BB.trans (b3.mono BB.size)
 clear b3
 go_wp2
 go_ret
 exact ⟨_,rfl,⟨_,_,FP.1,by have := mul_len_two lo RO n q; omega,mul_top _ _ _ _,fun i => by rw [mul_co,conv_cmul,cmul_congr HC2.out (fun _ => rfl)]; rfl,fun i _ => Nat.le_trans (conv_sz2 (fun i _ => sO i) hSq (by omega) (by omega) i) (Nat.le_trans (Nat.succ_le_succ (Nat.mul_le_mul_right _ hn)) (by omega))⟩,BB⟩
set_option maxRecDepth 20000 in
set_option maxHeartbeats 4000000 in
theorem ppower4 (v : Value) (n : Nat) (q : Nat → Rat) (w : World) (hv : QRow w v n q 2) (ht : Tab w) (hn : n ≤ 6) :
  Calls Tryz.prog 45 #[v,.int .i64 4] w fun e w' => ∃ x,e = .returned x ∧ PowRow w' x n q 4 11518 ∧ Below w.heap.size w w' := by
 have BB : Below w.heap.size w w := Below.refl _ _
 go_enter Tryz.func45,Tryz.ntmps45
 go_wp2_with fail
 refine (ppower2 _ n q _ hv ht hn).mono ?_
 rintro e w1 ⟨x1,rfl,PH,b1⟩
 replace hv := hv.below b1
 replace ht := ht.below b1
 replace BB := BB.trans (b1.mono BB.size)
 clear b1
 obtain ⟨l,R,FH,hl,htop,hco,hsz⟩ := PH
 obtain ⟨ah,ch,rfl⟩ := FH.open
 have HCO : Hid (∀ i,co l R i = cpow (co n q) 2 i) := hco
 have HTOP : Hid (0 < l → R (l - 1) ≠ 0) := htop
 have hSq : ∀ i,i < n → qsz (q i) ≤ 2 := fun i hi => hv.sz (by omega) i hi
 clear hco htop
 go_wp2_with fail
 refine (pmul_at _ _ l l R R 523 _ (FH.q 523 hsz) (FH.q 523 hsz) ht (by omega) (by omega) (by omega) (Nat.le_trans (Nat.succ_le_succ (Nat.mul_le_mul_right _ (show l + l ≤ 22 by omega))) (by omega)) (by omega)).mono ?_
 rintro e w2 ⟨x2,rfl,FO,b2⟩
 replace hv := hv.below b2
 replace ht := ht.below b2
 replace FH := FH.below b2
 replace BB := BB.trans (b2.mono BB.size)
 clear b2
 have FO1 := FO.1
 clear FO
 have lO := mul_len_two l R l R
 have tO := mul_top l R l R
 have sO : ∀ i,qsz (conv l R l R i) ≤ 11518 := fun i => Nat.le_trans (conv_sz2 hsz hsz (by omega) (by omega) i) (Nat.le_trans (Nat.succ_le_succ (Nat.mul_le_mul_right _ (show l ≤ 11 by omega))) (by omega))
 have HC2 : Hid (∀ i,co (MulLen l R l R) (conv l R l R) i = cpow (co n q) 4 i) := fun i => by rw [mul_co,conv_cmul,cmul_congr HCO.out HCO.out]; exact cpow_add (co n q) 2 2 i
 generalize MulLen l R l R = lo at *
 generalize conv l R l R = RO at *
 obtain ⟨ao,c_o,rfl⟩ := FO1.open
 go_wp2
 go_ret
 exact ⟨_,rfl,⟨_,_,FO1,by omega,tO,HC2.out,fun i _ => Nat.le_trans (sO i) (by omega)⟩,BB⟩
set_option maxRecDepth 20000 in
set_option maxHeartbeats 4000000 in
theorem ppow0 (v : Value) (n : Nat) (q : Nat → Rat) (w : World) (hv : QRow w v n q 2) (ht : Tab w) (hn : n ≤ 6) :
  Calls Tryz.prog 14 #[v,.int .i64 0] w fun e w' => ∃ x,e = .returned (.tuple #[x,.int .i64 0]) ∧ PowRow w' x n q 0 1 ∧ Below w.heap.size w w' := by
 have BB : Below w.heap.size w w := Below.refl _ _
 go_enter Tryz.func14,Tryz.ntmps14
 go_wp2_with fail
 refine (ppower0 _ n q _ hv ht hn).mono ?_
 rintro e w1 ⟨x1,rfl,PH,b1⟩
 replace hv := hv.below b1
 replace ht := ht.below b1
 replace BB := BB.trans (b1.mono BB.size)
 clear b1
 go_wp2
 go_ret2
 exact ⟨_,rfl,PH,BB⟩
set_option maxRecDepth 20000 in
set_option maxHeartbeats 4000000 in
theorem ppow1 (v : Value) (n : Nat) (q : Nat → Rat) (w : World) (hv : QRow w v n q 2) (ht : Tab w) (hn : n ≤ 6) :
  Calls Tryz.prog 14 #[v,.int .i64 1] w fun e w' => ∃ x,e = .returned (.tuple #[x,.int .i64 0]) ∧ PowRow w' x n q 1 43 ∧ Below w.heap.size w w' := by
 have BB : Below w.heap.size w w := Below.refl _ _
 go_enter Tryz.func14,Tryz.ntmps14
 go_wp2_with fail
 refine (ppower1 _ n q _ hv ht hn).mono ?_
 rintro e w1 ⟨x1,rfl,PH,b1⟩
 replace hv := hv.below b1
 replace ht := ht.below b1
 replace BB := BB.trans (b1.mono BB.size)
 clear b1
 go_wp2
 go_ret2
 exact ⟨_,rfl,PH,BB⟩
set_option maxRecDepth 20000 in
set_option maxHeartbeats 4000000 in
theorem ppow2 (v : Value) (n : Nat) (q : Nat → Rat) (w : World) (hv : QRow w v n q 2) (ht : Tab w) (hn : n ≤ 6) :
  Calls Tryz.prog 14 #[v,.int .i64 2] w fun e w' => ∃ x,e = .returned (.tuple #[x,.int .i64 0]) ∧ PowRow w' x n q 2 523 ∧ Below w.heap.size w w' := by
 have BB : Below w.heap.size w w := Below.refl _ _
 go_enter Tryz.func14,Tryz.ntmps14
 go_wp2_with fail
 refine (ppower2 _ n q _ hv ht hn).mono ?_
 rintro e w1 ⟨x1,rfl,PH,b1⟩
 replace hv := hv.below b1
 replace ht := ht.below b1
 replace BB := BB.trans (b1.mono BB.size)
 clear b1
 go_wp2
 go_ret2
 exact ⟨_,rfl,PH,BB⟩
set_option maxRecDepth 20000 in
set_option maxHeartbeats 4000000 in
theorem ppow3 (v : Value) (n : Nat) (q : Nat → Rat) (w : World) (hv : QRow w v n q 2) (ht : Tab w) (hn : n ≤ 6) :
  Calls Tryz.prog 14 #[v,.int .i64 3] w fun e w' => ∃ x,e = .returned (.tuple #[x,.int .i64 0]) ∧ PowRow w' x n q 3 3157 ∧ Below w.heap.size w w' := by
 have BB : Below w.heap.size w w := Below.refl _ _
 go_enter Tryz.func14,Tryz.ntmps14
 go_wp2_with fail
 refine (ppower3 _ n q _ hv ht hn).mono ?_
 rintro e w1 ⟨x1,rfl,PH,b1⟩
 replace hv := hv.below b1
 replace ht := ht.below b1
 replace BB := BB.trans (b1.mono BB.size)
 clear b1
 go_wp2
 go_ret2
 exact ⟨_,rfl,PH,BB⟩
set_option maxRecDepth 20000 in
set_option maxHeartbeats 4000000 in
theorem ppow4 (v : Value) (n : Nat) (q : Nat → Rat) (w : World) (hv : QRow w v n q 2) (ht : Tab w) (hn : n ≤ 6) :
  Calls Tryz.prog 14 #[v,.int .i64 4] w fun e w' => ∃ x,e = .returned (.tuple #[x,.int .i64 0]) ∧ PowRow w' x n q 4 11518 ∧ Below w.heap.size w w' := by
 have BB : Below w.heap.size w w := Below.refl _ _
 go_enter Tryz.func14,Tryz.ntmps14
 go_wp2_with fail
 refine (ppower4 _ n q _ hv ht hn).mono ?_
 rintro e w1 ⟨x1,rfl,PH,b1⟩
 replace hv := hv.below b1
 replace ht := ht.below b1
 replace BB := BB.trans (b1.mono BB.size)
 clear b1
 go_wp2
 go_ret2
 exact ⟨_,rfl,PH,BB⟩
set_option maxRecDepth 20000 in
set_option maxHeartbeats 4000000 in
theorem ppow_lo (v : Value) (k : Int) (w : World) (hk : k < 0) :
  Calls Tryz.prog 14 #[v,.int .i64 k] w fun e w' => e = .returned (.tuple #[.slice none 0 0,.int .i64 8]) ∧ Below w.heap.size w w' := by
 have g1 : k < 0 := hk
 have BB : Below w.heap.size w w := Below.refl _ _
 go_enter Tryz.func14,Tryz.ntmps14
 go_wp2
 go_ret2
 exact ⟨rfl,BB⟩
set_option maxRecDepth 20000 in
set_option maxHeartbeats 4000000 in
theorem ppow_hi (v : Value) (k : Int) (w : World) (hk : k > 64) :
  Calls Tryz.prog 14 #[v,.int .i64 k] w fun e w' => e = .returned (.tuple #[.slice none 0 0,.int .i64 8]) ∧ Below w.heap.size w w' := by
 have g1 : ¬ k < 0 := by omega
 have g2 : k > 64 := hk
 have BB : Below w.heap.size w w := Below.refl _ _
 go_enter Tryz.func14,Tryz.ntmps14
 go_wp2
 go_ret2
 exact ⟨rfl,BB⟩
end Go.Proofs.YtnbocjbfieklhaaGreatDoor

namespace Go.Proofs.YtnbocjbfieklhaaGreatDoor
open Go.RowKit Go.Shelf
set_option linter.unusedVariables false
set_option linter.unusedSimpArgs false
attribute [local go_sem] Oper.semAt_some
theorem info_rats : (Tryz.prog.info? 22).map (fun i => (i.zero,i.size,i.bytes)) = some (some (.slice none 0 0),1,24) := by kernel_rfl
theorem news_v1 {w : World} {R : Nat} {x : Value} (h : V1 w R x) : ∀ j u,[x][j]? = some u → w.cell? ((⟨R,0,none⟩ : Addr).add j) = some u := fun j u hu => by
 have hj : j = 0 := by
  cases j with
  | zero => rfl
  | succ j => simp at hu
 subst hj
 simp at hu
 subst hu
 have hadd : (⟨R,0,none⟩ : Addr).add 0 = ⟨R,0,none⟩ := by unfold Addr.add; split <;> simp_all
 rw [hadd]; exact h.1
def Cel (w : World) (b o : Nat) (x : Value) : Prop := w.cell? ⟨b,o,none⟩ = some x
theorem Cel.below {w w' : World} {b o : Nat} {x : Value} (h : Cel w b o x) (hb : Below w.heap.size w w') : Cel w' b o x := (hb.cell (World.block_lt_of_cell? w _ h)).trans h
def PRow (w : World) (v : Value) (n : Nat) (D S : Nat → Nat) (E : Nat → Rat → Rat) : Prop :=
 ∃ b off c,∃ el : Nat → Value,v = .slice (some ⟨b,off,none⟩) n c ∧ n ≤ c ∧ c ≤ 9223372036854775807 ∧ b < w.heap.size ∧ Cells1 w b off n el ∧ ∀ i,i < n → PEl w (el i) (D i) (S i) (E i)
theorem POwn.prow {B : Nat} {w : World} {v : Value} {n : Nat} {D S : Nat → Nat} {E : Nat → Rat → Rat} (h : POwn B w v n D S E) (hn : 0 < n := by omega) : PRow w v n D S E := by
 obtain ⟨g,cap,el,h1,h2,h3,h4,h5⟩ := h.at hn
 exact ⟨g,0,cap,el,h1,h2,h3,World.block_lt_of_cell? w _ (h4 0 hn),h4,h5⟩
def bndP (n : Nat) (D S : Nat → Nat) (dx sx : Nat) : Prop := (∀ i,i < n → D i ≤ 20 ∧ S i ≤ 520 ∧ 1 ≤ S i) ∧ dx ≤ 20 ∧ sx ≤ 350 ∧ 1 ≤ sx
def okP : Nat → Nat → (Nat → Nat) → (Nat → Nat) → Nat → Nat → Prop
 | 0,n,D,S,dx,sx => bndP n D S dx sx ∧ (n + 1) / 2 ≤ 1 ∧ halfD D n dx 0 ≤ 20 ∧ halfS D S n sx 0 ≤ 520
 | j + 1,n,D,S,dx,sx => bndP n D S dx sx ∧ 2 ≤ (n + 1) / 2 ∧ okP j ((n + 1) / 2) (halfD D n dx) (halfS D S n sx) (2 * dx) (dx * (2 * sx + 1) + 1)
theorem okP_bnd : ∀ {j n : Nat} {D S : Nat → Nat} {dx sx : Nat},okP j n D S dx sx → bndP n D S dx sx ∧ True
 | 0,_,_,_,_,_,h => ⟨h.1,trivial⟩
 | _ + 1,_,_,_,_,_,h => ⟨h.1,trivial⟩
theorem okP_more : ∀ {j n : Nat} {D S : Nat → Nat} {dx sx : Nat},okP j n D S dx sx → 2 ≤ (n + 1) / 2 → bndP n D S dx sx ∧ ∃ j',okP j' ((n + 1) / 2) (halfD D n dx) (halfS D S n sx) (2 * dx) (dx * (2 * sx + 1) + 1)
 | 0,_,_,_,_,_,h,hn => by have := h.2.1; omega
 | j + 1,_,_,_,_,_,h,_ => ⟨h.1,j,h.2.2⟩
theorem okP_last : ∀ {j n : Nat} {D S : Nat → Nat} {dx sx : Nat},okP j n D S dx sx → (n + 1) / 2 = 1 → halfD D n dx 0 ≤ 20 ∧ halfS D S n sx 0 ≤ 520
 | 0,_,_,_,_,_,h,_ => h.2.2
 | j + 1,_,_,_,_,_,h,hn => by have := h.2.1; omega
theorem PEl.le {w : World} {v : Value} {D S D' S' : Nat} {E : Rat → Rat} (h : PEl w v D S E) (hd : D ≤ D') (hs : S ≤ S') : PEl w v D' S' E := let ⟨m,R,h1,h2,h3,h4⟩ := h; ⟨m,R,h1,Nat.le_trans h2 hd,fun i hi => Nat.le_trans (h3 i hi) hs,h4⟩
set_option maxRecDepth 100000 in
set_option maxHeartbeats 4000000 in
theorem pvaluep_at (v xv : Value) (n dx sx j : Nat) (D S : Nat → Nat) (E : Nat → Rat → Rat) (ex : Rat → Rat) (w : World) (hv : PRow w v n D S E) (hx : PEl w xv dx sx ex) (ht : Tab w) (hn : 0 < n) (hn1 : n ≤ 1000) (hok : okP j n D S dx sx) :
  Calls Tryz.prog 59 #[v,xv,(.func (.func 23) #[] #[]),(.func (.func 11) #[] #[])] w fun e w' => ∃ y,e = .returned y ∧ PEl w' y 20 520 (fun z => evN (fun i => E i z) (ex z) n) ∧ Below w.heap.size w w' := by
 refine (callsIn_wide (n := 9)).1 ?_
 obtain ⟨xa,xn,xc,rfl⟩ : ∃ a n c,xv = .slice a n c := by obtain ⟨m,R,h1,_⟩ := hx; obtain ⟨a,c,e⟩ := h1.open; exact ⟨a,m,c,e⟩
 obtain ⟨ev,hev⟩ : ∃ ev : Rat → Rat,ev = fun z => evN (fun i => E i z) (ex z) n := ⟨_,rfl⟩
 rw [← hev]
 have HEV : Hid (∀ z,evN (fun i => E i z) (ex z) n = ev z) := fun z => by rw [hev]
 clear hev
 have BB : Below w.heap.size w w := Below.refl _ _
 have hvB : ∀ {w' : World},Below w.heap.size w w' → PRow w' v n D S E := fun hb => by
  obtain ⟨b,off,c,el,h1,h2,h3,h4,h5,h6⟩ := hv
  exact ⟨b,off,c,el,h1,h2,h3,Nat.lt_of_lt_of_le h4 hb.size,h5.below hb,fun i hi => (h6 i hi).below hb⟩
 obtain ⟨W1,hW1,hS1,hL1,VX⟩ := V1.lay w 22 (.slice xa xn xc)
 have PX : Pur W1 w.heap.size := by rw [hW1]; exact Pur.new _ _ _ _ _
 replace BB := BB.trans (hL1.mono BB.size); replace hx := hx.below hL1; replace ht := ht.below hL1
 obtain ⟨W2,hW2,hS2,hL2,VA⟩ := V1.lay W1 25 (.func (.func 23) #[] #[])
 replace BB := BB.trans (hL2.mono BB.size); replace hx := hx.below hL2; replace ht := ht.below hL2; replace VX := VX.below hL2; replace PX := PX.below hL2
 obtain ⟨W3,hW3,hS3,hL3,VM⟩ := V1.lay W2 25 (.func (.func 11) #[] #[])
 replace BB := BB.trans (hL3.mono BB.size); replace hx := hx.below hL3; replace ht := ht.below hL3; replace VX := VX.below hL3; replace VA := VA.below hL3; replace PX := PX.below hL3
 rw [hS1] at VA; rw [hS2,hS1] at VM
 have hv3 := hvB BB
 clear hvB hv
 clear hL1 hL2 hL3
 refine callsIn_of_wp_marks Tryz.func59 rfl trivial ?_
 simp only [Tryz.ntmps59,List.size_toArray,List.length_cons,List.length_nil,Nat.reduceAdd,Nat.reduceSub,Array.replicate_succ,Array.replicate_zero,List.push_toArray,List.append_toArray,List.nil_append,List.cons_append]
 gi_wp2
 rw [← hW1,← hW2,← hW3]
 clear hW1 hW2 hW3
 obtain ⟨Bx,hBx⟩ : ∃ B,B = w.heap.size := ⟨_,rfl⟩
 rw [← hBx] at VX VA VM PX ⊢
 obtain ⟨Ba,hBa⟩ : ∃ B,B = Bx + 1 := ⟨_,rfl⟩
 rw [← hBa] at VA VM ⊢
 obtain ⟨Bm,hBm⟩ : ∃ B,B = Ba + 1 := ⟨_,rfl⟩
 rw [← hBm] at VM ⊢
 have HBS : Hid (Bx = w.heap.size ∧ Ba = Bx + 1 ∧ Bm = Ba + 1) := ⟨hBx,hBa,hBm⟩
 clear hBa hBm hS1 hS2 hS3
 generalize hxv : (Value.slice xa xn xc) = t1 at *
 clear hBx hxv
 refine wpIn_loop (fun a W => ∃ (v : Value) (n dx sx j : Nat) (D S : Nat → Nat) (E : Nat → Rat → Rat) (ex : Rat → Rat) (xv : Value) (ds : List Deferred) (u9 u10 u11 u12 u13 u14 u15 u16 u17 u18 u19 u20 u21 u22 u23 u24 u25 u26 u27 u28 u29 u30 u31 u32 u33 u34 u35 u36 u37 u38 u39 u40 u41 u42 u43 u44 u45 u46 u47 : Value),a = { tmps := List.toArray (v :: t1 :: (.func (.func 23) #[] #[]) :: (.func (.func 11) #[] #[]) :: undef :: .pointer (some ⟨Bx,0,none⟩) :: .pointer (some ⟨Ba,0,none⟩) :: .pointer (some ⟨Bm,0,none⟩) :: .slice none 0 0 :: u9 :: u10 :: u11 :: u12 :: u13 :: u14 :: u15 :: u16 :: u17 :: u18 :: u19 :: u20 :: u21 :: u22 :: u23 :: u24 :: u25 :: u26 :: u27 :: u28 :: u29 :: u30 :: u31 :: u32 :: u33 :: u34 :: u35 :: u36 :: u37 :: u38 :: u39 :: u40 :: u41 :: u42 :: u43 :: u44 :: u45 :: u46 :: u47 :: []),defers := ds } ∧ Marks w.heap.size W ds ∧ V1 W Bx xv ∧ V1 W Ba (.func (.func 23) #[] #[]) ∧ V1 W Bm (.func (.func 11) #[] #[]) ∧ Pur W Bx ∧ PRow W v n D S E ∧ PEl W xv dx sx ex ∧ Tab W ∧ Below w.heap.size w W ∧ 0 < n ∧ n ≤ 1000 ∧ Hid (okP j n D S dx sx) ∧ Hid (∀ z,evN (fun i => E i z) (ex z) n = ev z)) (fun a _ => lenV (a.tmps.getD 0 undef)) ?_ ?_
 ·exact ⟨v,n,dx,sx,j,D,S,E,ex,t1,[],undef,undef,undef,undef,undef,undef,undef,undef,undef,undef,undef,undef,undef,undef,undef,undef,undef,undef,undef,undef,undef,undef,undef,undef,undef,undef,undef,undef,undef,undef,undef,undef,undef,undef,undef,undef,undef,undef,undef,rfl,trivial,VX,VA,VM,PX,hv3,hx,ht,BB,hn,hn1,hok,HEV⟩
 clear hv3 hx VX VA VM PX ht BB hn hn1 hok HEV
 rintro a W ⟨v,n,dx,sx,j,D,S,E,ex,xv,ds,u9,u10,u11,u12,u13,u14,u15,u16,u17,u18,u19,u20,u21,u22,u23,u24,u25,u26,u27,u28,u29,u30,u31,u32,u33,u34,u35,u36,u37,u38,u39,u40,u41,u42,u43,u44,u45,u46,u47,rfl,hMk,VX,VA,VM,PX,hv,hx,ht,BB,hn,hn1,hok,hev⟩
 obtain ⟨b,off,cc,el,rfl,hcc,hcc2,hbW0,hv,hel⟩ := hv
 obtain ⟨WH,hWH,hSH,hLH,VH⟩ := V1.lay W 68 (.slice none 0 0)
 have PH : Pur WH W.heap.size := by rw [hWH]; exact Pur.new _ _ _ _ _
 have hWw : w.heap.size ≤ W.heap.size := BB.size
 have hBmW : Bm < W.heap.size := VM.lt
 replace BB := BB.trans (hLH.mono BB.size); replace hv := hv.below hLH; replace hx := hx.below hLH; replace ht := ht.below hLH; replace VX := VX.below hLH; replace VA := VA.below hLH; replace VM := VM.below hLH; replace PX := PX.below hLH
 have hel2 : Hid (∀ i,i < n → PEl WH (el i) (D i) (S i) (E i)) := fun i hi => (hel i hi).below hLH
 clear hel
 replace hMk := hMk.others (KeepsOthers.of_below hLH)
 obtain ⟨Bh,hBh⟩ : ∃ B,B = W.heap.size := ⟨_,rfl⟩
 rw [← hBh] at VH hSH PH
 clear hLH
 gi_wp2_with fail
 rw [← hWH,← hBh]
 have HBh : Hid (Bh = W.heap.size) := hBh
 have HSH : Hid (WH.heap.size = Bh + 1) := hSH
 clear hBh hSH
 refine ⟨trivial,(callsIn_wide.2 (chunkp_at _ _ _ _ _ rfl)).mono ?_⟩
 rintro e WL ⟨Bs,Bn,rfl,hs1,hs2,hn3,hn4,hcs,hcn,hbc⟩
 gi_wp2_with fail
 clear hWH
 replace BB := BB.trans (hbc.mono BB.size); replace hv := hv.below hbc; replace hx := hx.below hbc; replace ht := ht.below hbc; replace VX := VX.below hbc; replace VA := VA.below hbc; replace VM := VM.below hbc; replace VH := VH.below hbc; replace PX := PX.below hbc; replace PH := PH.below hbc
 have HEL : Hid (∀ i,i < n → PEl WL (el i) (D i) (S i) (E i)) := fun i hi => (hel2.out i hi).below hbc
 have HXW : Hid (PEl WL xv dx sx ex) := hx
 clear hel2 hx
 replace hMk := hMk.others (KeepsOthers.of_below hbc)
 have hbW : b < W.heap.size := hbW0
 have hBh := HBh.out
 have hSH := HSH.out
 have hB : Hid (Bx ≠ Bh ∧ Ba ≠ Bh ∧ Bm ≠ Bh ∧ b ≠ Bh ∧ Bh < WL.heap.size ∧ Bs ≠ Bh ∧ Bn ≠ Bh ∧ Bs < WL.heap.size ∧ Bn < WL.heap.size ∧ w.heap.size ≤ Bh) := by have := HBS.out; exact ⟨by omega,by omega,by omega,by omega,by omega,by omega,by omega,by omega,by omega,by omega⟩
 have hL : Hid (Bx < WL.heap.size ∧ Ba < WL.heap.size ∧ Bm < WL.heap.size ∧ b < WL.heap.size) := by have := HBS.out; exact ⟨by omega,by omega,by omega,by omega⟩
 have hk : KeepF WL WL := KeepF.refl _
 clear hBh hSH hWw hBmW hbW hbW0 hs1 hn3
 obtain ⟨kn,hkn0⟩ : ∃ kn,kn = (n + 1) / 2 := ⟨_,rfl⟩
 refine wpIn_rangeFunc_ownG rfl (by decide) (gf := 111) (lb := #[.pointer (some ⟨Bs,0,none⟩),.pointer (some ⟨Bn,0,none⟩)]) rfl trivial (enters_of Tryz.func111 (by kernel_rfl) rfl)
  (chunkp_stops 8 Bs Bn b off n cc kn (by omega) hkn0 hn1 hcc hcc2 WL hs2 hn4 hcs hcn) Keep2.trans (keep2_b hs2 hn4) (Below.refl _ _) (fun _ => rfl)
  (PInv w WL Bx Ba Bm Bh (.func (.func 23) #[] #[]) (.func (.func 11) #[] #[]) xv b off n el D S E dx sx ex kn) (fun _ _ _ => False) (PInv.own BB.size) (fun c s W W' row h _ _ => h)
  ⟨VX,VA,VM,PX,PH,⟨none,0,VH,POwn.nil _ _ _ _ _⟩,hv,hk,ht,BB,KeepsOthers.refl _⟩
  (fun x => { tmps := List.toArray ((.slice (some ⟨b,off,none⟩) n cc) :: t1 :: (.func (.func 23) #[] #[]) :: (.func (.func 11) #[] #[]) :: undef :: .pointer (some ⟨Bx,0,none⟩) :: .pointer (some ⟨Ba,0,none⟩) :: .pointer (some ⟨Bm,0,none⟩) :: .slice none 0 0 :: .pointer (some ⟨Bh,0,none⟩) :: chunkP b off n x.1 :: (.slice (some ⟨b,off,none⟩) n cc) :: .func (.func 111) #[] #[.pointer (some ⟨Bs,0,none⟩),.pointer (some ⟨Bn,0,none⟩)] :: chunkP b off n x.1 :: u14 :: u15 :: u16 :: u17 :: u18 :: u19 :: u20 :: u21 :: u22 :: u23 :: u24 :: u25 :: u26 :: u27 :: u28 :: u29 :: u30 :: u31 :: u32 :: u33 :: u34 :: u35 :: u36 :: u37 :: u38 :: u39 :: u40 :: u41 :: u42 :: u43 :: u44 :: u45 :: u46 :: u47 :: []),defers := [] }) ?assign ?body ?done ?stop
 case assign =>
  intro l x W K hK
  gi_wp2
  exact hK
 case stop =>
  rintro D c pre W _ _ h _
  exact h.elim
 case body =>
  clear VX VA VM PX PH VH hv hk ht BB hMk
  rintro l pre ⟨k,hkK⟩ W5 ⟨VX,VA,VM,PX,PH,⟨ho,hc,VH,O⟩,hv,hk,ht,BB,hO⟩ hlt
  have rk : RK WL.heap.size WL W5 W5 := ⟨hO,KeepsOthers.refl _,Below.refl _ _,hO.size⟩
  clear hO
  have hpl : pre.length ≤ 1000 := by omega
  have hkn : k * 2 < n := by omega
  obtain ⟨o,hoo⟩ : ∃ o,o = off + k * 2 := ⟨_,rfl⟩
  obtain ⟨hbd,_⟩ := okP_bnd hok.out
  by_cases hod : k * 2 + 1 < n
  ·have ecv : chunkP b off n k = .slice (some ⟨b,o,none⟩) 2 2 := by unfold chunkP; rw [show min 2 (n - k * 2) = 2 by omega,hoo]
   have c0 := hv (k * 2) hkn
   rw [← hoo] at c0
   have P0 := (HEL.out (k * 2) hkn).keepF hk
   obtain ⟨y0,hy0⟩ : ∃ y,y = el (k * 2) := ⟨_,rfl⟩
   rw [← hy0] at c0 P0
   have C0 : Cel W5 b o y0 := c0
   have b0 := hbd.1 (k * 2) hkn
   obtain ⟨m0,R0,F0,hm0,hs0,ht0,he0⟩ := P0
   clear hy0 c0
   obtain ⟨y0a,y0c,rfl⟩ := F0.open
   have c1 := hv (k * 2 + 1) hod
   rw [show off + (k * 2 + 1) = o + 1 by omega] at c1
   have P1 := (HEL.out (k * 2 + 1) hod).keepF hk
   obtain ⟨y1,hy1⟩ : ∃ y,y = el (k * 2 + 1) := ⟨_,rfl⟩
   rw [← hy1] at c1 P1
   have C1 : Cel W5 b (o + 1) y1 := c1
   have b1 := hbd.1 (k * 2 + 1) hod
   obtain ⟨m1,R1,F1,hm1,hs1,ht1,he1⟩ := P1
   clear hy1 c1
   obtain ⟨mx,RX,FX,hmx,hsX,htX,heX⟩ := HXW.out.keepF hk
   have hdx := hbd.2.1
   have hsx := hbd.2.2.1
   have hsx1 := hbd.2.2.2
   obtain ⟨d0,hd0⟩ : ∃ d,D (k * 2) = d := ⟨_,rfl⟩
   obtain ⟨d1,hd1⟩ : ∃ d,D (k * 2 + 1) = d := ⟨_,rfl⟩
   obtain ⟨s0,hS0⟩ : ∃ d,S (k * 2) = d := ⟨_,rfl⟩
   obtain ⟨s1,hS1⟩ : ∃ d,S (k * 2 + 1) = d := ⟨_,rfl⟩
   rw [hd0,hS0] at b0
   rw [hd1,hS1] at b1
   rw [hd0] at hm0
   rw [hd1] at hm1
   rw [hS0] at hs0
   rw [hS1] at hs1
   have HS0 : Hid (∀ i,i < m0 → qsz (R0 i) ≤ s0) := hs0
   have HS1 : Hid (∀ i,i < m1 → qsz (R1 i) ≤ s1) := hs1
   have HSX : Hid (∀ i,i < mx → qsz (RX i) ≤ sx) := hsX
   obtain ⟨lm,hlm⟩ : ∃ lm,MulLen m1 R1 mx RX = lm := ⟨_,rfl⟩
   obtain ⟨RM,hRM⟩ : ∃ RM,conv m1 R1 mx RX = RM := ⟨_,rfl⟩
   have HLM : Hid (MulLen m1 R1 mx RX = lm ∧ conv m1 R1 mx RX = RM) := ⟨hlm,hRM⟩
   have hlm2 := mul_len_two m1 R1 mx RX
   rw [hlm] at hlm2
   have sM : ∀ i,qsz (RM i) ≤ d1 * (s1 + sx + 1) + 1 := fun i => by rw [← hRM,conv_cmul,cmul_comm,← conv_cmul]; exact Nat.le_trans (conv_sz2 hsX hs1 hsx1 b1.2.2 i) (Nat.succ_le_succ (Nat.mul_le_mul hm1 (by omega)))
   have HSM : Hid (∀ i,qsz (RM i) ≤ d1 * (s1 + sx + 1) + 1) := sM
   have hdm : d1 * (s1 + sx + 1) + 1 ≤ 17421 := Nat.succ_le_succ (Nat.le_trans (Nat.mul_le_mul b1.1 (show s1 + sx + 1 ≤ 871 by omega)) (by omega))
   obtain ⟨LB,hLB⟩ : ∃ lA,trimN (fun j => co m0 R0 j + co lm RM j) (max m0 lm) = lA := ⟨_,rfl⟩
   have HLA : Hid (trimN (fun j => co m0 R0 j + co lm RM j) (max m0 lm) = LB) := hLB
   have HFIN : Hid (∀ W y,FRow W y LB (fun j => co m0 R0 j + co lm RM j) → PEl W y (halfD D n dx k) (halfS D S n sx k) (halfE E n ex k)) := fun W y h => by
    refine ⟨LB,_,h,?_,fun i _ => ?_,by rw [← hLB]; exact trimN_top _ _,fun z => ?_⟩
    ·rw [← hLB]
     refine Nat.le_trans (trimN_le _ _) ?_
     unfold halfD; rw [if_pos (by omega),Nat.mul_comm 2 k,hd0,hd1]; omega
    ·unfold halfS
     rw [if_pos (by omega),Nat.mul_comm 2 k,hS0,hd1,hS1]
     exact qsz_add _ _ (co_sz HS0.out b0.2.2 i) (co_sz (fun i _ => HSM.out i) (by omega) i)
    ·rw [← hLB,evN_add,he0,← hlm,← hRM,evN_mul,he1,heX]
     unfold halfE halfQ
     rw [if_pos (by omega),Nat.mul_comm 2 k]
   clear hlm hRM hLB hs0 hs1 hsX sM ht0 ht1 htX he0 he1 heX hd0 hd1 hS0 hS1
   have HOO : Hid (o = off + k * 2) := hoo
   clear hoo hkn0 hbd
   dsimp only
   rw [ecv]
   clear ecv
   gi_wp2_with fail
   refine region_until_in (by rintro ⟨_,_,h⟩; exact h) (by kernel_rfl) 13 #[true,true,true,true,true,true,true,true,true,true,true,true,true,false,false] (fun aF lsd a' w' => ∃ vu0 vu1 vu2 vu3 vu4 vu5 vu6 vu7 vu8 vu9 vu10 vu11 vu12 : Value,a' = ((((((((((((aF.put (some 17) vu0).put (some 18) vu1).put (some 19) vu2).put (some 20) vu3).put (some 21) vu4).put (some 22) vu5).put (some 23) vu6).put (some 24) vu7).put (some 25) vu8).put (some 26) vu9).put (some 27) vu10).put (some 28) vu11).put (some 29) vu12 ∧ Below W5.heap.size W5 w' ∧ (lsd.getD 0 false = true → vu0 = .slice ho pre.length hc) ∧ (lsd.getD 1 false = true → vu1 = .func (.func 23) #[] #[]) ∧ (lsd.getD 2 false = true → vu2 = .slice (some ⟨b,o,none⟩) 2 2) ∧ (lsd.getD 3 false = true → vu3 = .pointer (some ⟨b,o,none⟩)) ∧ (lsd.getD 4 false = true → vu4 = .slice y0a m0 y0c) ∧ (lsd.getD 5 false = true → vu5 = .func (.func 11) #[] #[]) ∧ (lsd.getD 6 false = true → vu6 = .slice (some ⟨b,o,none⟩) 2 2) ∧ (lsd.getD 7 false = true → vu7 = .pointer (some ⟨b,o + 1,none⟩)) ∧ (lsd.getD 8 false = true → vu8 = y1) ∧ (lsd.getD 9 false = true → vu9 = xv) ∧ (lsd.getD 10 false = true → FRow w' vu10 lm RM) ∧ (lsd.getD 11 false = true → FRow w' vu11 LB (fun j => co m0 R0 j + co lm RM j)) ∧ (lsd.getD 12 false = true → BuiltP W5.heap.size w' vu12 LB (fun j => co m0 R0 j + co lm RM j))) (by kernel_rfl) (by decide) (by kernel_rfl) (by rfl) (by kernel_rfl) ?_ ?_ ?_
   ·exact ⟨_,_,_,_,_,_,_,_,_,_,_,_,_,by simp only [Act.put,xL4,xL5,xL6]; rfl,(Below.refl _ _).drew,fun h => absurd h (fun h => mark_none h),fun h => absurd h (fun h => mark_none h),fun h => absurd h (fun h => mark_none h),fun h => absurd h (fun h => mark_none h),fun h => absurd h (fun h => mark_none h),fun h => absurd h (fun h => mark_none h),fun h => absurd h (fun h => mark_none h),fun h => absurd h (fun h => mark_none h),fun h => absurd h (fun h => mark_none h),fun h => absurd h (fun h => mark_none h),fun h => absurd h (fun h => mark_none h),fun h => absurd h (fun h => mark_none h),fun h => absurd h (fun h => mark_none h)⟩
   ·rintro lsd au wn iu hszu ⟨vu0,vu1,vu2,vu3,vu4,vu5,vu6,vu7,vu8,vu9,vu10,vu11,vu12,rfl,hbu,fu0,fu1,fu2,fu3,fu4,fu5,fu6,fu7,fu8,fu9,fu10,fu11,fu12⟩ himu hru
    rcases (show iu = 0 ∨ iu = 1 ∨ iu = 2 ∨ iu = 3 ∨ iu = 4 ∨ iu = 5 ∨ iu = 6 ∨ iu = 7 ∨ iu = 8 ∨ iu = 9 ∨ iu = 10 ∨ iu = 11 ∨ iu = 12 by omega) with rfl | rfl | rfl | rfl | rfl | rfl | rfl | rfl | rfl | rfl | rfl | rfl | rfl
    ·refine wpOp_shut (by rfl) (fun K hK => ?_)
     simp only [Act.put,xL4,xL5,xL6]
     obtain ⟨VH_0,VH_1⟩ := VH.below hbu
     go_simp
     exact hK.out _ _ ⟨(.slice ho pre.length hc),vu1,vu2,vu3,vu4,vu5,vu6,vu7,vu8,vu9,vu10,vu11,vu12,by simp only [Act.put,xL4,xL5,xL6],hbu,fun _ => rfl,fun h => fu1 (mark_of (by decide) h),fun h => fu2 (mark_of (by decide) h),fun h => fu3 (mark_of (by decide) h),fun h => fu4 (mark_of (by decide) h),fun h => fu5 (mark_of (by decide) h),fun h => fu6 (mark_of (by decide) h),fun h => fu7 (mark_of (by decide) h),fun h => fu8 (mark_of (by decide) h),fun h => fu9 (mark_of (by decide) h),fun h => fu10 (mark_of (by decide) h),fun h => fu11 (mark_of (by decide) h),fun h => fu12 (mark_of (by decide) h)⟩
    ·refine wpOp_shut (by rfl) (fun K hK => ?_)
     simp only [Act.put,xL4,xL5,xL6]
     obtain ⟨VA_0,VA_1⟩ := VA.below hbu
     go_simp
     exact hK.out _ _ ⟨vu0,(.func (.func 23) #[] #[]),vu2,vu3,vu4,vu5,vu6,vu7,vu8,vu9,vu10,vu11,vu12,by simp only [Act.put,xL4,xL5,xL6],hbu,fun h => fu0 (mark_of (by decide) h),fun _ => rfl,fun h => fu2 (mark_of (by decide) h),fun h => fu3 (mark_of (by decide) h),fun h => fu4 (mark_of (by decide) h),fun h => fu5 (mark_of (by decide) h),fun h => fu6 (mark_of (by decide) h),fun h => fu7 (mark_of (by decide) h),fun h => fu8 (mark_of (by decide) h),fun h => fu9 (mark_of (by decide) h),fun h => fu10 (mark_of (by decide) h),fun h => fu11 (mark_of (by decide) h),fun h => fu12 (mark_of (by decide) h)⟩
    ·refine wpOp_shut (by rfl) (fun K hK => ?_)
     simp only [Act.put,xL4,xL5,xL6]
     go_simp
     exact hK.out _ _ ⟨vu0,vu1,(.slice (some ⟨b,o,none⟩) 2 2),vu3,vu4,vu5,vu6,vu7,vu8,vu9,vu10,vu11,vu12,by simp only [Act.put,xL4,xL5,xL6],hbu,fun h => fu0 (mark_of (by decide) h),fun h => fu1 (mark_of (by decide) h),fun _ => rfl,fun h => fu3 (mark_of (by decide) h),fun h => fu4 (mark_of (by decide) h),fun h => fu5 (mark_of (by decide) h),fun h => fu6 (mark_of (by decide) h),fun h => fu7 (mark_of (by decide) h),fun h => fu8 (mark_of (by decide) h),fun h => fu9 (mark_of (by decide) h),fun h => fu10 (mark_of (by decide) h),fun h => fu11 (mark_of (by decide) h),fun h => fu12 (mark_of (by decide) h)⟩
    ·have eu2 := fu2 (dep_of 2 hru rfl (by kernel_rfl))
     replace eu2 := eu2.symm
     subst eu2
     refine wpOp_shut (by rfl) (fun K hK => ?_)
     simp only [Act.put,xL4,xL5,xL6]
     go_simp
     exact hK.out _ _ ⟨vu0,vu1,(.slice (some ⟨b,o,none⟩) 2 2),(.pointer (some ⟨b,o,none⟩)),vu4,vu5,vu6,vu7,vu8,vu9,vu10,vu11,vu12,by simp only [Act.put,xL4,xL5,xL6],hbu,fun h => fu0 (mark_of (by decide) h),fun h => fu1 (mark_of (by decide) h),fun _ => rfl,fun _ => rfl,fun h => fu4 (mark_of (by decide) h),fun h => fu5 (mark_of (by decide) h),fun h => fu6 (mark_of (by decide) h),fun h => fu7 (mark_of (by decide) h),fun h => fu8 (mark_of (by decide) h),fun h => fu9 (mark_of (by decide) h),fun h => fu10 (mark_of (by decide) h),fun h => fu11 (mark_of (by decide) h),fun h => fu12 (mark_of (by decide) h)⟩
    ·have eu3 := fu3 (dep_of 3 hru rfl (by kernel_rfl))
     replace eu3 := eu3.symm
     subst eu3
     refine wpOp_shut (by rfl) (fun K hK => ?_)
     simp only [Act.put,xL4,xL5,xL6]
     have c0_ : wn.cell? ⟨b,o,none⟩ = some (.slice y0a m0 y0c) := C0.below hbu
     go_simp
     exact hK.out _ _ ⟨vu0,vu1,vu2,(.pointer (some ⟨b,o,none⟩)),(.slice y0a m0 y0c),vu5,vu6,vu7,vu8,vu9,vu10,vu11,vu12,by simp only [Act.put,xL4,xL5,xL6],hbu,fun h => fu0 (mark_of (by decide) h),fun h => fu1 (mark_of (by decide) h),fun h => fu2 (mark_of (by decide) h),fun _ => rfl,fun _ => rfl,fun h => fu5 (mark_of (by decide) h),fun h => fu6 (mark_of (by decide) h),fun h => fu7 (mark_of (by decide) h),fun h => fu8 (mark_of (by decide) h),fun h => fu9 (mark_of (by decide) h),fun h => fu10 (mark_of (by decide) h),fun h => fu11 (mark_of (by decide) h),fun h => fu12 (mark_of (by decide) h)⟩
    ·refine wpOp_shut (by rfl) (fun K hK => ?_)
     simp only [Act.put,xL4,xL5,xL6]
     obtain ⟨VM_0,VM_1⟩ := VM.below hbu
     go_simp
     exact hK.out _ _ ⟨vu0,vu1,vu2,vu3,vu4,(.func (.func 11) #[] #[]),vu6,vu7,vu8,vu9,vu10,vu11,vu12,by simp only [Act.put,xL4,xL5,xL6],hbu,fun h => fu0 (mark_of (by decide) h),fun h => fu1 (mark_of (by decide) h),fun h => fu2 (mark_of (by decide) h),fun h => fu3 (mark_of (by decide) h),fun h => fu4 (mark_of (by decide) h),fun _ => rfl,fun h => fu6 (mark_of (by decide) h),fun h => fu7 (mark_of (by decide) h),fun h => fu8 (mark_of (by decide) h),fun h => fu9 (mark_of (by decide) h),fun h => fu10 (mark_of (by decide) h),fun h => fu11 (mark_of (by decide) h),fun h => fu12 (mark_of (by decide) h)⟩
    ·refine wpOp_shut (by rfl) (fun K hK => ?_)
     simp only [Act.put,xL4,xL5,xL6]
     go_simp
     exact hK.out _ _ ⟨vu0,vu1,vu2,vu3,vu4,vu5,(.slice (some ⟨b,o,none⟩) 2 2),vu7,vu8,vu9,vu10,vu11,vu12,by simp only [Act.put,xL4,xL5,xL6],hbu,fun h => fu0 (mark_of (by decide) h),fun h => fu1 (mark_of (by decide) h),fun h => fu2 (mark_of (by decide) h),fun h => fu3 (mark_of (by decide) h),fun h => fu4 (mark_of (by decide) h),fun h => fu5 (mark_of (by decide) h),fun _ => rfl,fun h => fu7 (mark_of (by decide) h),fun h => fu8 (mark_of (by decide) h),fun h => fu9 (mark_of (by decide) h),fun h => fu10 (mark_of (by decide) h),fun h => fu11 (mark_of (by decide) h),fun h => fu12 (mark_of (by decide) h)⟩
    ·have eu6 := fu6 (dep_of 6 hru rfl (by kernel_rfl))
     replace eu6 := eu6.symm
     subst eu6
     refine wpOp_shut (by rfl) (fun K hK => ?_)
     simp only [Act.put,xL4,xL5,xL6]
     go_simp
     exact hK.out _ _ ⟨vu0,vu1,vu2,vu3,vu4,vu5,(.slice (some ⟨b,o,none⟩) 2 2),(.pointer (some ⟨b,o + 1,none⟩)),vu8,vu9,vu10,vu11,vu12,by simp only [Act.put,xL4,xL5,xL6],hbu,fun h => fu0 (mark_of (by decide) h),fun h => fu1 (mark_of (by decide) h),fun h => fu2 (mark_of (by decide) h),fun h => fu3 (mark_of (by decide) h),fun h => fu4 (mark_of (by decide) h),fun h => fu5 (mark_of (by decide) h),fun _ => rfl,fun _ => rfl,fun h => fu8 (mark_of (by decide) h),fun h => fu9 (mark_of (by decide) h),fun h => fu10 (mark_of (by decide) h),fun h => fu11 (mark_of (by decide) h),fun h => fu12 (mark_of (by decide) h)⟩
    ·have eu7 := fu7 (dep_of 7 hru rfl (by kernel_rfl))
     replace eu7 := eu7.symm
     subst eu7
     refine wpOp_shut (by rfl) (fun K hK => ?_)
     simp only [Act.put,xL4,xL5,xL6]
     have c1_ : wn.cell? ⟨b,o + 1,none⟩ = some y1 := C1.below hbu
     go_simp
     exact hK.out _ _ ⟨vu0,vu1,vu2,vu3,vu4,vu5,vu6,(.pointer (some ⟨b,o + 1,none⟩)),(y1),vu9,vu10,vu11,vu12,by simp only [Act.put,xL4,xL5,xL6],hbu,fun h => fu0 (mark_of (by decide) h),fun h => fu1 (mark_of (by decide) h),fun h => fu2 (mark_of (by decide) h),fun h => fu3 (mark_of (by decide) h),fun h => fu4 (mark_of (by decide) h),fun h => fu5 (mark_of (by decide) h),fun h => fu6 (mark_of (by decide) h),fun _ => rfl,fun _ => rfl,fun h => fu9 (mark_of (by decide) h),fun h => fu10 (mark_of (by decide) h),fun h => fu11 (mark_of (by decide) h),fun h => fu12 (mark_of (by decide) h)⟩
    ·refine wpOp_shut (by rfl) (fun K hK => ?_)
     simp only [Act.put,xL4,xL5,xL6]
     obtain ⟨VX_0,VX_1⟩ := VX.below hbu
     go_simp
     exact hK.out _ _ ⟨vu0,vu1,vu2,vu3,vu4,vu5,vu6,vu7,vu8,(xv),vu10,vu11,vu12,by simp only [Act.put,xL4,xL5,xL6],hbu,fun h => fu0 (mark_of (by decide) h),fun h => fu1 (mark_of (by decide) h),fun h => fu2 (mark_of (by decide) h),fun h => fu3 (mark_of (by decide) h),fun h => fu4 (mark_of (by decide) h),fun h => fu5 (mark_of (by decide) h),fun h => fu6 (mark_of (by decide) h),fun h => fu7 (mark_of (by decide) h),fun h => fu8 (mark_of (by decide) h),fun _ => rfl,fun h => fu10 (mark_of (by decide) h),fun h => fu11 (mark_of (by decide) h),fun h => fu12 (mark_of (by decide) h)⟩
    ·have eu5 := fu5 (dep_of 5 hru rfl (by kernel_rfl))
     have eu8 := fu8 (dep_of 8 hru rfl (by kernel_rfl))
     have eu9 := fu9 (dep_of 9 hru rfl (by kernel_rfl))
     replace eu5 := eu5.symm
     subst eu5
     replace eu8 := eu8.symm
     subst eu8
     replace eu9 := eu9.symm
     subst eu9
     refine wpOp_shut (by rfl) (fun K hK => ?_)
     simp only [Act.put,xL4,xL5,xL6]
     have ht := ht.below hbu
     have F1 := F1.below hbu
     have FX := FX.below hbu
     go_simp
     refine (pmul_at _ _ m1 mx R1 RX (s1 + sx) _ (F1.q _ (fun i hi => Nat.le_trans (HS1.out i hi) (by omega))) (FX.q _ (fun i hi => Nat.le_trans (HSX.out i hi) (by omega))) ht (by omega) (by omega) (by omega) (Nat.le_trans (Nat.succ_le_succ (Nat.mul_le_mul (show m1 + mx ≤ 40 by omega) (show s1 + sx + (s1 + sx) + 1 ≤ 1741 by omega))) (by omega)) (by omega)).mono ?_
     rintro eu wx ⟨r3,rfl,h10,bu⟩
     replace h10 := h10.1
     rw [HLM.out.1,HLM.out.2] at h10
     go_wp2_with fail
     have hbu2 := hbu.trans (bu.mono hbu.size)
     exact hK.out _ _ ⟨vu0,vu1,vu2,vu3,vu4,(.func (.func 11) #[] #[]),vu6,vu7,(y1),(xv),_,vu11,vu12,by simp only [Act.put,xL4,xL5,xL6],hbu2,fun h => fu0 (mark_of (by decide) h),fun h => fu1 (mark_of (by decide) h),fun h => fu2 (mark_of (by decide) h),fun h => fu3 (mark_of (by decide) h),fun h => fu4 (mark_of (by decide) h),fun _ => rfl,fun h => fu6 (mark_of (by decide) h),fun h => fu7 (mark_of (by decide) h),fun _ => rfl,fun _ => rfl,fun _ => h10,fun h => (fu11 (mark_of (by decide) h)).below bu,fun h => (fu12 (mark_of (by decide) h)).below bu⟩
    ·have eu1 := fu1 (dep_of 1 hru rfl (by kernel_rfl))
     have eu4 := fu4 (dep_of 4 hru rfl (by kernel_rfl))
     replace eu1 := eu1.symm
     subst eu1
     replace eu4 := eu4.symm
     subst eu4
     have h10 := fu10 (dep_of 10 hru rfl (by kernel_rfl))
     refine wpOp_shut (by rfl) (fun K hK => ?_)
     simp only [Act.put,xL4,xL5,xL6]
     have ht := ht.below hbu
     have F0 := F0.below hbu
     go_simp
     refine (padd_at _ _ m0 lm R0 RM (s0 + (d1 * (s1 + sx + 1) + 1)) _ (F0.q _ (fun i hi => Nat.le_trans (HS0.out i hi) (by omega))) (h10.q _ (fun i _ => Nat.le_trans (HSM.out i) (by omega))) ht (by omega) (by omega) (by omega) (by omega)).mono ?_
     rintro eu wx ⟨r3,rfl,h11,bu⟩
     replace h11 := h11.1
     rw [HLA.out] at h11
     go_wp2_with fail
     have hbu2 := hbu.trans (bu.mono hbu.size)
     exact hK.out _ _ ⟨vu0,(.func (.func 23) #[] #[]),vu2,vu3,(.slice y0a m0 y0c),vu5,vu6,vu7,vu8,vu9,vu10,_,vu12,by simp only [Act.put,xL4,xL5,xL6],hbu2,fun h => fu0 (mark_of (by decide) h),fun _ => rfl,fun h => fu2 (mark_of (by decide) h),fun h => fu3 (mark_of (by decide) h),fun _ => rfl,fun h => fu5 (mark_of (by decide) h),fun h => fu6 (mark_of (by decide) h),fun h => fu7 (mark_of (by decide) h),fun h => fu8 (mark_of (by decide) h),fun h => fu9 (mark_of (by decide) h),fun h => (fu10 (mark_of (by decide) h)).below bu,fun _ => h11,fun h => (fu12 (mark_of (by decide) h)).below bu⟩
    ·have h11 := fu11 (dep_of 11 hru rfl (by kernel_rfl))
     obtain ⟨yaB,ycB,rfl⟩ := h11.open
     refine wpOp_shut (by rfl) (fun K hK => ?_)
     simp only [Act.put,xL4,xL5,xL6]
     go_simp
     obtain ⟨wx,hWx,hSx,bu,VXu⟩ := V1.lay wn 22 (.slice yaB LB ycB)
     rw [← hWx]
     have hbu2 := hbu.trans (bu.mono hbu.size)
     exact hK.out _ _ ⟨vu0,vu1,vu2,vu3,vu4,vu5,vu6,vu7,vu8,vu9,vu10,(.slice yaB LB ycB),_,by simp only [Act.put,xL4,xL5,xL6],hbu2,fun h => fu0 (mark_of (by decide) h),fun h => fu1 (mark_of (by decide) h),fun h => fu2 (mark_of (by decide) h),fun h => fu3 (mark_of (by decide) h),fun h => fu4 (mark_of (by decide) h),fun h => fu5 (mark_of (by decide) h),fun h => fu6 (mark_of (by decide) h),fun h => fu7 (mark_of (by decide) h),fun h => fu8 (mark_of (by decide) h),fun h => fu9 (mark_of (by decide) h),fun h => (fu10 (mark_of (by decide) h)).below bu,fun h => (fu11 (mark_of (by decide) h)).below bu,fun _ => ⟨_,_,rfl,hbu.size,VXu,h11.below bu⟩⟩
   rintro au Wu1 ⟨vu0,vu1,vu2,vu3,vu4,vu5,vu6,vu7,vu8,vu9,vu10,vu11,vu12,rfl,hbu,fu0,fu1,fu2,fu3,fu4,fu5,fu6,fu7,fu8,fu9,fu10,fu11,fu12⟩
   have eu0 := (fu0 rfl).symm
   subst eu0
   have eu1 := (fu1 rfl).symm
   subst eu1
   have eu2 := (fu2 rfl).symm
   subst eu2
   have eu3 := (fu3 rfl).symm
   subst eu3
   have eu4 := (fu4 rfl).symm
   subst eu4
   have eu5 := (fu5 rfl).symm
   subst eu5
   have eu6 := (fu6 rfl).symm
   subst eu6
   have eu7 := (fu7 rfl).symm
   subst eu7
   have eu8 := (fu8 rfl).symm
   subst eu8
   have eu9 := (fu9 rfl).symm
   subst eu9
   have h10 := fu10 rfl
   have h11 := fu11 rfl
   obtain ⟨RB12,yB12,rfl,hRB12,VB12,hbq⟩ := fu12 rfl
   clear fu0 fu1 fu2 fu3 fu4 fu5 fu6 fu7 fu8 fu9 fu10 fu11 fu12
   have hlVX : Bx < W5.heap.size := VX.lt
   have hlVA : Ba < W5.heap.size := VA.lt
   have hlVM : Bm < W5.heap.size := VM.lt
   have hlVH : Bh < W5.heap.size := VH.lt
   replace hv := hv.below hbu
   replace hk := hk.below hbu
   replace ht := ht.below hbu
   replace O := O.below hbu
   replace rk := rk.below hbu
   replace PX := PX.below hbu
   replace PH := PH.below hbu
   replace C0 := C0.below hbu
   replace F0 := F0.below hbu
   replace C1 := C1.below hbu
   replace F1 := F1.below hbu
   replace FX := FX.below hbu
   replace VX := VX.below hbu
   replace VA := VA.below hbu
   replace VM := VM.below hbu
   replace VH := VH.below hbu
   replace BB := BB.trans (hbu.mono BB.size)
   clear hbu
   simp only [Act.put,xL4,xL5,xL6]
   refine xR [13] (h := ?_)
   refine AllReadyH.cons (by rfl) (fun K hK => ?_) AllReadyH.nil
   obtain ⟨us,el',o1,o2,o3,o4⟩ := O
   have HO2 : Hid (∀ g0,Value.ownBlock (.slice ho pre.length hc) = some g0 → PureB IsNB Wu1 g0) := o2
   have HO3 : Hid (∀ i',i' < pre.length → us[i']? = some (el' i')) := o3
   have HO4 : Hid (∀ i',i' < pre.length → PEl Wu1 (el' i') (preA (halfD D n dx) pre i') (preA (halfS D S n sx) pre i') (preA (halfE E n ex) pre i')) := o4
   clear o2 o3 o4
   have hWb9 : WL.heap.size ≤ Wu1.heap.size := Nat.le_trans rk.base rk.low.size
   obtain ⟨ya,yc,rfl⟩ := hbq.open
   have HBQ : Hid (PEl Wu1 (.slice ya LB yc) (halfD D n dx k) (halfS D S n sx k) (halfE E n ex k)) := HFIN.out _ _ hbq
   refine step_append_pure (Q' := IsNB) (by rfl) _ _ _ (by rfl) WL.heap.size 22 (.slice none 0 0) 1 24 Tryz.underlying68 info_rats (by rfl) (by omega) (.slice ho pre.length hc) (by rfl) pre.length us o1 HO2.out ⟨RB12,0,none⟩ 1 (by rfl) [.slice ya LB yc] rfl (news_v1 VB12) (by simp [Value.oneCell']) (by simp [nb_slice]) (by simp [Value.cells,nb_slice]) (by omega) (by omega) hWb9 ?_
   intro g5 cap5 w5 ho5 hg5 hat5 hp5 hk5
   have VH5 : V1 w5 Bh (.slice ho pre.length hc) := VH.low ((Below.refl _ _).grown hg5 hWb9 (fun k e => (o1.lt k e).1)) (by have := hB.out; omega)
   have FIN := PInv.app (x := ⟨k,hkK⟩) hB hL VX VA VM PX PH VH hv hk ht BB rk o1 HO2.out HO3.out HO4.out HBQ.out ho5 hg5 hp5 hk5
   clear VX VA VM PX PH VH hv hk ht BB rk o1 HO2 HO3 HO4 HBQ hbq ho5 hg5 hp5 hk5 hat5 VB12
   refine hK.out _ _ trivial (fun _ => ?_)
   clear hK K
   simp only [Act.put,xL4,xL5,xL6]
   refine xR [14] (h := ?_)
   refine AllReadyH.cons (by rfl) (fun K hK => ?_) AllReadyH.nil
   obtain ⟨vh1,vh2⟩ := VH5
   go_simp
   refine hK.out _ _ trivial (fun _ => ?_)
   clear hK K
   simp only [Act.put,xL4,xL5,xL6]
   refine wpAnyH_done (by kernel_rfl) ?_ _
   exact FIN
  ·have ecv : chunkP b off n k = .slice (some ⟨b,o,none⟩) 1 1 := by unfold chunkP; rw [show min 2 (n - k * 2) = 1 by omega,hoo]
   have c0 := hv (k * 2) hkn
   rw [← hoo] at c0
   have P0 := (HEL.out (k * 2) hkn).keepF hk
   obtain ⟨y0,hy0⟩ : ∃ y,y = el (k * 2) := ⟨_,rfl⟩
   rw [← hy0] at c0 P0
   have C0 : Cel W5 b o y0 := c0
   have b0 := hbd.1 (k * 2) hkn
   obtain ⟨m0,R0,F0,hm0,hs0,ht0,he0⟩ := P0
   clear hy0 c0
   obtain ⟨y0a,y0c,rfl⟩ := F0.open
   have HFIN : Hid (∀ W y,FRow W y m0 R0 → PEl W y (halfD D n dx k) (halfS D S n sx k) (halfE E n ex k)) := fun W y h => by
    refine ⟨m0,R0,h,?_,fun i hi => ?_,ht0,fun z => ?_⟩
    ·unfold halfD; rw [if_neg (by omega),Nat.mul_comm 2 k]; exact hm0
    ·unfold halfS; rw [if_neg (by omega),Nat.mul_comm 2 k]; exact hs0 i hi
    ·unfold halfE halfQ; rw [if_neg (by omega),Nat.mul_comm 2 k]; exact he0 z
   clear hs0 ht0 he0
   have HOO : Hid (o = off + k * 2) := hoo
   clear hoo hkn0 hbd
   dsimp only
   rw [ecv]
   clear ecv
   gi_wp2_with fail
   refine region_until_in (by rintro ⟨_,_,h⟩; exact h) (by kernel_rfl) 5 #[true,true,true,true,true,false,false] (fun aF lsd a' w' => ∃ vu0 vu1 vu2 vu3 vu4 : Value,a' = ((((aF.put (some 31) vu0).put (some 32) vu1).put (some 33) vu2).put (some 34) vu3).put (some 35) vu4 ∧ Below W5.heap.size W5 w' ∧ (lsd.getD 0 false = true → vu0 = .slice ho pre.length hc) ∧ (lsd.getD 1 false = true → vu1 = .slice (some ⟨b,o,none⟩) 1 1) ∧ (lsd.getD 2 false = true → vu2 = .pointer (some ⟨b,o,none⟩)) ∧ (lsd.getD 3 false = true → vu3 = .slice y0a m0 y0c) ∧ (lsd.getD 4 false = true → BuiltP W5.heap.size w' vu4 m0 R0)) (by kernel_rfl) (by decide) (by kernel_rfl) (by rfl) (by kernel_rfl) ?_ ?_ ?_
   ·exact ⟨_,_,_,_,_,by simp only [Act.put,xL4,xL5,xL6]; rfl,(Below.refl _ _).drew,fun h => absurd h (fun h => mark_none h),fun h => absurd h (fun h => mark_none h),fun h => absurd h (fun h => mark_none h),fun h => absurd h (fun h => mark_none h),fun h => absurd h (fun h => mark_none h)⟩
   ·rintro lsd au wn iu hszu ⟨vu0,vu1,vu2,vu3,vu4,rfl,hbu,fu0,fu1,fu2,fu3,fu4⟩ himu hru
    rcases (show iu = 0 ∨ iu = 1 ∨ iu = 2 ∨ iu = 3 ∨ iu = 4 by omega) with rfl | rfl | rfl | rfl | rfl
    ·refine wpOp_shut (by rfl) (fun K hK => ?_)
     simp only [Act.put,xL4,xL5,xL6]
     obtain ⟨VH_0,VH_1⟩ := VH.below hbu
     go_simp
     exact hK.out _ _ ⟨(.slice ho pre.length hc),vu1,vu2,vu3,vu4,by simp only [Act.put,xL4,xL5,xL6],hbu,fun _ => rfl,fun h => fu1 (mark_of (by decide) h),fun h => fu2 (mark_of (by decide) h),fun h => fu3 (mark_of (by decide) h),fun h => fu4 (mark_of (by decide) h)⟩
    ·refine wpOp_shut (by rfl) (fun K hK => ?_)
     simp only [Act.put,xL4,xL5,xL6]
     go_simp
     exact hK.out _ _ ⟨vu0,(.slice (some ⟨b,o,none⟩) 1 1),vu2,vu3,vu4,by simp only [Act.put,xL4,xL5,xL6],hbu,fun h => fu0 (mark_of (by decide) h),fun _ => rfl,fun h => fu2 (mark_of (by decide) h),fun h => fu3 (mark_of (by decide) h),fun h => fu4 (mark_of (by decide) h)⟩
    ·have eu1 := fu1 (dep_of 1 hru rfl (by kernel_rfl))
     replace eu1 := eu1.symm
     subst eu1
     refine wpOp_shut (by rfl) (fun K hK => ?_)
     simp only [Act.put,xL4,xL5,xL6]
     go_simp
     exact hK.out _ _ ⟨vu0,(.slice (some ⟨b,o,none⟩) 1 1),(.pointer (some ⟨b,o,none⟩)),vu3,vu4,by simp only [Act.put,xL4,xL5,xL6],hbu,fun h => fu0 (mark_of (by decide) h),fun _ => rfl,fun _ => rfl,fun h => fu3 (mark_of (by decide) h),fun h => fu4 (mark_of (by decide) h)⟩
    ·have eu2 := fu2 (dep_of 2 hru rfl (by kernel_rfl))
     replace eu2 := eu2.symm
     subst eu2
     refine wpOp_shut (by rfl) (fun K hK => ?_)
     simp only [Act.put,xL4,xL5,xL6]
     have c0_ : wn.cell? ⟨b,o,none⟩ = some (.slice y0a m0 y0c) := C0.below hbu
     go_simp
     exact hK.out _ _ ⟨vu0,vu1,(.pointer (some ⟨b,o,none⟩)),(.slice y0a m0 y0c),vu4,by simp only [Act.put,xL4,xL5,xL6],hbu,fun h => fu0 (mark_of (by decide) h),fun h => fu1 (mark_of (by decide) h),fun _ => rfl,fun _ => rfl,fun h => fu4 (mark_of (by decide) h)⟩
    ·have eu3 := fu3 (dep_of 3 hru rfl (by kernel_rfl))
     replace eu3 := eu3.symm
     subst eu3
     refine wpOp_shut (by rfl) (fun K hK => ?_)
     simp only [Act.put,xL4,xL5,xL6]
     go_simp
     obtain ⟨wx,hWx,hSx,bu,VXu⟩ := V1.lay wn 22 (.slice y0a m0 y0c)
     rw [← hWx]
     have hbu2 := hbu.trans (bu.mono hbu.size)
     exact hK.out _ _ ⟨vu0,vu1,vu2,(.slice y0a m0 y0c),_,by simp only [Act.put,xL4,xL5,xL6],hbu2,fun h => fu0 (mark_of (by decide) h),fun h => fu1 (mark_of (by decide) h),fun h => fu2 (mark_of (by decide) h),fun _ => rfl,fun _ => ⟨_,_,rfl,hbu.size,VXu,(F0.below hbu).below bu⟩⟩
   rintro au Wu1 ⟨vu0,vu1,vu2,vu3,vu4,rfl,hbu,fu0,fu1,fu2,fu3,fu4⟩
   have eu0 := (fu0 rfl).symm
   subst eu0
   have eu1 := (fu1 rfl).symm
   subst eu1
   have eu2 := (fu2 rfl).symm
   subst eu2
   have eu3 := (fu3 rfl).symm
   subst eu3
   obtain ⟨RB4,yB4,rfl,hRB4,VB4,hbq⟩ := fu4 rfl
   clear fu0 fu1 fu2 fu3 fu4
   have hlVX : Bx < W5.heap.size := VX.lt
   have hlVA : Ba < W5.heap.size := VA.lt
   have hlVM : Bm < W5.heap.size := VM.lt
   have hlVH : Bh < W5.heap.size := VH.lt
   replace hv := hv.below hbu
   replace hk := hk.below hbu
   replace ht := ht.below hbu
   replace O := O.below hbu
   replace rk := rk.below hbu
   replace PX := PX.below hbu
   replace PH := PH.below hbu
   replace C0 := C0.below hbu
   replace F0 := F0.below hbu
   replace VX := VX.below hbu
   replace VA := VA.below hbu
   replace VM := VM.below hbu
   replace VH := VH.below hbu
   replace BB := BB.trans (hbu.mono BB.size)
   clear hbu
   simp only [Act.put,xL4,xL5,xL6]
   refine xR [5] (h := ?_)
   refine AllReadyH.cons (by rfl) (fun K hK => ?_) AllReadyH.nil
   obtain ⟨us,el',o1,o2,o3,o4⟩ := O
   have HO2 : Hid (∀ g0,Value.ownBlock (.slice ho pre.length hc) = some g0 → PureB IsNB Wu1 g0) := o2
   have HO3 : Hid (∀ i',i' < pre.length → us[i']? = some (el' i')) := o3
   have HO4 : Hid (∀ i',i' < pre.length → PEl Wu1 (el' i') (preA (halfD D n dx) pre i') (preA (halfS D S n sx) pre i') (preA (halfE E n ex) pre i')) := o4
   clear o2 o3 o4
   have hWb9 : WL.heap.size ≤ Wu1.heap.size := Nat.le_trans rk.base rk.low.size
   obtain ⟨ya,yc,rfl⟩ := hbq.open
   have HBQ : Hid (PEl Wu1 (.slice ya m0 yc) (halfD D n dx k) (halfS D S n sx k) (halfE E n ex k)) := HFIN.out _ _ hbq
   refine step_append_pure (Q' := IsNB) (by rfl) _ _ _ (by rfl) WL.heap.size 22 (.slice none 0 0) 1 24 Tryz.underlying68 info_rats (by rfl) (by omega) (.slice ho pre.length hc) (by rfl) pre.length us o1 HO2.out ⟨RB4,0,none⟩ 1 (by rfl) [.slice ya m0 yc] rfl (news_v1 VB4) (by simp [Value.oneCell']) (by simp [nb_slice]) (by simp [Value.cells,nb_slice]) (by omega) (by omega) hWb9 ?_
   intro g5 cap5 w5 ho5 hg5 hat5 hp5 hk5
   have VH5 : V1 w5 Bh (.slice ho pre.length hc) := VH.low ((Below.refl _ _).grown hg5 hWb9 (fun k e => (o1.lt k e).1)) (by have := hB.out; omega)
   have FIN := PInv.app (x := ⟨k,hkK⟩) hB hL VX VA VM PX PH VH hv hk ht BB rk o1 HO2.out HO3.out HO4.out HBQ.out ho5 hg5 hp5 hk5
   clear VX VA VM PX PH VH hv hk ht BB rk o1 HO2 HO3 HO4 HBQ hbq ho5 hg5 hp5 hk5 hat5 VB4
   refine hK.out _ _ trivial (fun _ => ?_)
   clear hK K
   simp only [Act.put,xL4,xL5,xL6]
   refine xR [6] (h := ?_)
   refine AllReadyH.cons (by rfl) (fun K hK => ?_) AllReadyH.nil
   obtain ⟨vh1,vh2⟩ := VH5
   go_simp
   refine hK.out _ _ trivial (fun _ => ?_)
   clear hK K
   simp only [Act.put,xL4,xL5,xL6]
   refine wpAnyH_done (by kernel_rfl) ?_ _
   exact FIN
 case done =>
  clear VX VA VM PX PH VH hv hk ht BB
  rintro D0 ys W5 hD rfl ⟨VX,VA,VM,PX,PH,⟨ho,hc,VH,O⟩,hv,hk,ht,BB,hO⟩ hKD
  clear hv
  rw [fins_len kn (Nat.le_refl _)] at VH O
  replace O := O.congr (D' := halfD D n dx) (S' := halfS D S n sx) (E' := halfE E n ex) (fun i hi => preA_all i hi) (fun i hi => preA_all i hi) (fun i hi => preA_all i hi)
  replace hMk : Marks w.heap.size W5 ({ target := .collected D0,args := #[] } :: ds) := ⟨D0,rfl,Nat.le_trans (by have := hB.out; omega) hD,hKD,hMk.lt D0 hD,hMk.others hO⟩
  clear hKD hO
  have PX5 := HXW.out.keepF hk
  obtain ⟨VH1,VH2⟩ := id VH
  by_cases h1 : kn = 1
  ·subst h1
   obtain ⟨g9,cap9,el9,hvv9,hcc9,_,hc9,hp9⟩ := O.at (by omega)
   cases hvv9
   have c9 := hc9 0 (by omega)
   simp only [Nat.add_zero] at c9
   have P9 := hp9 0 (by omega)
   obtain ⟨y9,hy9⟩ : ∃ y,y = el9 0 := ⟨_,rfl⟩
   rw [← hy9] at c9 P9
   have hl9 := okP_last hok.out hkn0.symm
   have HF : Hid (PEl W5 y9 20 520 ev) := by
    obtain ⟨m,R,q1,q2,q3,q4,q5⟩ := P9.le hl9.1 hl9.2
    refine ⟨m,R,q1,q2,q3,q4,fun z => ?_⟩
    rw [q5 z,← hev.out z]
    have hh := evN_half (fun i => E i z) n (ex z)
    rw [← hkn0,evN_one] at hh
    exact hh
   clear hkn0 hy9 hc9 hp9 P9 hl9
   gi_wp2_with fail
   refine leaves_marks (B := w.heap.size) _ _ hMk BB.size ?_
   intro W' hb hcl
   refine ⟨y9,by simp [results,go_sem],_,rfl,?_,BB.trans hb⟩
   exact HF.out.keepF ⟨fun b o v _ h => hcl _ _ h,fun b o v _ o' u h => hcl _ _ h⟩
  ·have hK2 : 2 ≤ kn := by omega
   have hKn : kn < n := by omega
   obtain ⟨hbd,hnx⟩ := okP_more hok.out (by rw [← hkn0]; exact hK2)
   obtain ⟨j',hok2⟩ := hnx
   rw [← hkn0] at hok2
   have HOK2 : Hid (okP j' kn (halfD D n dx) (halfS D S n sx) (2 * dx) (dx * (2 * sx + 1) + 1)) := hok2
   have HEV2 : Hid (∀ z,evN (fun i => halfE E n ex i z) (ex z * ex z) kn = ev z) := fun z => by
    rw [← hev.out z,hkn0]
    exact evN_half (fun i => E i z) n (ex z)
   have hdx := hbd.2.1
   have hsx := hbd.2.2.1
   have hsx1 := hbd.2.2.2
   obtain ⟨mx,RX,FX,hmx,hsX,htX,heX⟩ := PX5
   have HSX : Hid (∀ i,i < mx → qsz (RX i) ≤ sx) := hsX
   have HEX : Hid (∀ z,evN RX z mx = ex z) := heX
   have HKN : Hid (kn = (n + 1) / 2) := hkn0
   have h1i : ¬ (kn : Int) = 1 := by omega
   have e1_ : ((kn : Int) == 1) = false := by simp; omega
   clear hkn0 hok2 hok hev hbd hsX heX htX
   obtain ⟨lm,hlm⟩ : ∃ lm,MulLen mx RX mx RX = lm := ⟨_,rfl⟩
   obtain ⟨RM,hRM⟩ : ∃ RM,conv mx RX mx RX = RM := ⟨_,rfl⟩
   have HLM : Hid (MulLen mx RX mx RX = lm ∧ conv mx RX mx RX = RM) := ⟨hlm,hRM⟩
   have HNX : Hid (∀ W y,FRow W y lm RM → PEl W y (2 * dx) (dx * (2 * sx + 1) + 1) (fun z => ex z * ex z)) := fun W y h => ⟨lm,RM,h,by rw [← hlm]; have := mul_len_two mx RX mx RX; omega,fun i _ => by rw [← hRM]; exact Nat.le_trans (conv_sz2 HSX.out HSX.out hsx1 hsx1 i) (Nat.succ_le_succ (Nat.mul_le_mul hmx (by omega))),by rw [← hlm,← hRM]; exact mul_top _ _ _ _,fun z => by rw [← hlm,← hRM,evN_mul,HEX.out]⟩
   clear hlm hRM
   gi_wp2_with fail
   (try rw [e1_])
   refine wpIn_wide.2 ?_
   refine wp_region_until 5 #[true,true,true,true,true,false,false] (fun aF lsd a' w' => ∃ vu0 vu1 vu2 vu3 vu4 : Value,a' = ((((aF.put (some 43) vu0).put (some 44) vu1).put (some 45) vu2).put (some 46) vu3).put (some 47) vu4 ∧ Below W5.heap.size W5 w' ∧ (lsd.getD 0 false = true → vu0 = .slice ho kn hc) ∧ (lsd.getD 1 false = true → vu1 = .func (.func 11) #[] #[]) ∧ (lsd.getD 2 false = true → vu2 = xv) ∧ (lsd.getD 3 false = true → vu3 = xv) ∧ (lsd.getD 4 false = true → FRow w' vu4 lm RM)) (by kernel_rfl) (by decide) (by kernel_rfl) (by rfl) (by kernel_rfl) ?_ ?_ ?_
   ·exact ⟨_,_,_,_,_,by simp only [Act.put,xL4,xL5,xL6]; rfl,(Below.refl _ _).drew,fun h => absurd h (fun h => mark_none h),fun h => absurd h (fun h => mark_none h),fun h => absurd h (fun h => mark_none h),fun h => absurd h (fun h => mark_none h),fun h => absurd h (fun h => mark_none h)⟩
   ·rintro lsd au wn iu hszu ⟨vu0,vu1,vu2,vu3,vu4,rfl,hbu,fu0,fu1,fu2,fu3,fu4⟩ himu hru
    rcases (show iu = 0 ∨ iu = 1 ∨ iu = 2 ∨ iu = 3 ∨ iu = 4 by omega) with rfl | rfl | rfl | rfl | rfl
    ·refine wpOp_shut (by rfl) (fun K hK => ?_)
     simp only [Act.put,xL4,xL5,xL6]
     obtain ⟨VH_0,VH_1⟩ := VH.below hbu
     go_simp
     exact hK.out _ _ ⟨(.slice ho kn hc),vu1,vu2,vu3,vu4,by simp only [Act.put,xL4,xL5,xL6],hbu,fun _ => rfl,fun h => fu1 (mark_of (by decide) h),fun h => fu2 (mark_of (by decide) h),fun h => fu3 (mark_of (by decide) h),fun h => fu4 (mark_of (by decide) h)⟩
    ·refine wpOp_shut (by rfl) (fun K hK => ?_)
     simp only [Act.put,xL4,xL5,xL6]
     obtain ⟨VM_0,VM_1⟩ := VM.below hbu
     go_simp
     exact hK.out _ _ ⟨vu0,(.func (.func 11) #[] #[]),vu2,vu3,vu4,by simp only [Act.put,xL4,xL5,xL6],hbu,fun h => fu0 (mark_of (by decide) h),fun _ => rfl,fun h => fu2 (mark_of (by decide) h),fun h => fu3 (mark_of (by decide) h),fun h => fu4 (mark_of (by decide) h)⟩
    ·refine wpOp_shut (by rfl) (fun K hK => ?_)
     simp only [Act.put,xL4,xL5,xL6]
     obtain ⟨VX_0,VX_1⟩ := VX.below hbu
     go_simp
     exact hK.out _ _ ⟨vu0,vu1,(xv),vu3,vu4,by simp only [Act.put,xL4,xL5,xL6],hbu,fun h => fu0 (mark_of (by decide) h),fun h => fu1 (mark_of (by decide) h),fun _ => rfl,fun h => fu3 (mark_of (by decide) h),fun h => fu4 (mark_of (by decide) h)⟩
    ·refine wpOp_shut (by rfl) (fun K hK => ?_)
     simp only [Act.put,xL4,xL5,xL6]
     obtain ⟨VX_0,VX_1⟩ := VX.below hbu
     go_simp
     exact hK.out _ _ ⟨vu0,vu1,vu2,(xv),vu4,by simp only [Act.put,xL4,xL5,xL6],hbu,fun h => fu0 (mark_of (by decide) h),fun h => fu1 (mark_of (by decide) h),fun h => fu2 (mark_of (by decide) h),fun _ => rfl,fun h => fu4 (mark_of (by decide) h)⟩
    ·have eu1 := fu1 (dep_of 1 hru rfl (by kernel_rfl))
     have eu2 := fu2 (dep_of 2 hru rfl (by kernel_rfl))
     have eu3 := fu3 (dep_of 3 hru rfl (by kernel_rfl))
     replace eu1 := eu1.symm
     subst eu1
     replace eu2 := eu2.symm
     subst eu2
     replace eu3 := eu3.symm
     subst eu3
     refine wpOp_shut (by rfl) (fun K hK => ?_)
     simp only [Act.put,xL4,xL5,xL6]
     have ht := ht.below hbu
     have FX := FX.below hbu
     go_simp
     refine (pmul_at _ _ mx mx RX RX sx _ (FX.q sx HSX.out) (FX.q sx HSX.out) ht (by omega) (by omega) hsx1 (Nat.le_trans (Nat.succ_le_succ (Nat.mul_le_mul (show mx + mx ≤ 40 by omega) (show sx + sx + 1 ≤ 701 by omega))) (by omega)) (by omega)).mono ?_
     rintro eu wx ⟨r3,rfl,h4,bu⟩
     replace h4 := h4.1
     rw [HLM.out.1,HLM.out.2] at h4
     go_wp2_with fail
     have hbu2 := hbu.trans (bu.mono hbu.size)
     exact hK.out _ _ ⟨vu0,(.func (.func 11) #[] #[]),(xv),(xv),_,by simp only [Act.put,xL4,xL5,xL6],hbu2,fun h => fu0 (mark_of (by decide) h),fun _ => rfl,fun _ => rfl,fun _ => rfl,fun _ => h4⟩
   rintro au Wu1 ⟨vu0,vu1,vu2,vu3,vu4,rfl,hbu,fu0,fu1,fu2,fu3,fu4⟩
   have eu0 := (fu0 rfl).symm
   subst eu0
   have eu1 := (fu1 rfl).symm
   subst eu1
   have eu2 := (fu2 rfl).symm
   subst eu2
   have eu3 := (fu3 rfl).symm
   subst eu3
   have h4 := fu4 rfl
   clear fu0 fu1 fu2 fu3 fu4
   have hlVX : Bx < W5.heap.size := VX.lt
   have hlVA : Ba < W5.heap.size := VA.lt
   have hlVM : Bm < W5.heap.size := VM.lt
   have hlVH : Bh < W5.heap.size := VH.lt
   replace ht := ht.below hbu
   replace O := O.below hbu
   replace hMk := hMk.below hbu
   replace PX := PX.below hbu
   replace FX := FX.below hbu
   replace VX := VX.below hbu
   replace VA := VA.below hbu
   replace VM := VM.below hbu
   replace VH := VH.below hbu
   replace BB := BB.trans (hbu.mono BB.size)
   clear hbu
   simp only [Act.put,xL4,xL5,xL6]
   refine xR [5] (h := ?_)
   refine AllReadyH.cons (by rfl) (fun K hK => ?_) AllReadyH.nil
   go_simp
   refine hK.out _ _ trivial (fun _ => ?_)
   clear hK K
   simp only [Act.put,xL4,xL5,xL6]
   refine xR [6] (h := ?_)
   refine AllReadyH.cons (by rfl) (fun K hK => ?_) AllReadyH.nil
   have h4b := HNX.out _ _ h4
   obtain ⟨ya,yc,rfl⟩ := h4.open
   have hb_ := hB.out
   have hbs_ := HBS.out
   have hl_ := hL.out
   have kfn := KeepF.set PX.pure (.slice ya lm yc)
   have VXn := VX.same (.slice ya lm yc)
   have VAn := VA.other1 (R := Bx) (by omega) (.slice ya lm yc)
   have VMn := VM.other1 (R := Bx) (by omega) (.slice ya lm yc)
   have PXn := PX.set VX.1 ya lm yc
   have On := POwn.prow (O.far (grown_set1 Wu1 Bx (.slice ya lm yc)) (fun g hg e => by have := (O.both g hg).1; cases e; omega) kfn)
   have hxn := h4b.keepF kfn
   have htn := ht.keep kfn.num
   have BBn := below_store1 (R := Bx) BB (by omega) (.slice ya lm yc)
   have hMkn := hMk.others (KeepsOthers.setCell Wu1 ⟨Bx,0,none⟩ (.slice ya lm yc))
   clear hb_ hbs_ hl_ kfn h4b
   obtain ⟨x1,x2⟩ := VX
   go_simp
   clear x1 x2
   refine hK.out _ _ trivial (fun _ => ?_)
   clear hK K
   simp only [Act.put,xL4,xL5,xL6]
   refine wpAnyH_done (by kernel_rfl) ?_ _
   exact ⟨⟨.slice ho kn hc,kn,2 * dx,dx * (2 * sx + 1) + 1,j',halfD D n dx,halfS D S n sx,halfE E n ex,fun z => ex z * ex z,.slice ya lm yc,_,_,_,_,_,_,_,_,_,_,_,_,_,_,_,_,_,_,_,_,_,_,_,_,_,_,_,_,_,_,_,_,_,_,_,_,_,_,_,_,rfl,hMkn,VXn,VAn,VMn,PXn,On,hxn,htn,BBn,by omega,by omega,HOK2,HEV2⟩,by show kn < n; exact hKn⟩
end Go.Proofs.YtnbocjbfieklhaaGreatDoor

namespace Go.Proofs.YtnbocjbfieklhaaGreatDoor
open Go.RowKit
set_option linter.unusedVariables false
set_option linter.unusedSimpArgs false
theorem qrow1_lay (w : World) (t : TypeId) {p1 : Bool} {a1 : Option Addr} {n1 c1 : Nat} {b1 : Option Addr} {m1 d1 : Nat} {x : Rat} {L : Nat} (h1 : RatAt w (.agg #[.bool p1,.slice a1 n1 c1,.slice b1 m1 d1]) x L) :
  ∃ W,W = w.alloc (.cells #[.bool p1,.slice a1 n1 c1,.slice b1 m1 d1] t) ∧ Below w.heap.size w W ∧ QRow W (.slice (some ⟨w.heap.size,0,none⟩) 1 1) 1 (fun _ => x) L := by
 have hb := heap_alloc_new w (.cells #[.bool p1,.slice a1 n1 c1,.slice b1 m1 d1] t)
 have hB : Below w.heap.size w (w.alloc (.cells #[.bool p1,.slice a1 n1 c1,.slice b1 m1 d1] t)) := (Below.refl _ _).alloc (Nat.le_refl _) _
 refine ⟨_,rfl,hB,fun i j => ([[.bool p1,.slice a1 n1 c1,.slice b1 m1 d1]].getD i []).getD j undef,⟨_,_,rfl,by omega,by omega,fun _ => ⟨_,_,rfl,fun i hi j hj => ?_⟩⟩,fun i hi => ?_⟩
 ·rw [cell_of_row _ _ _ _ _ _ hb]
  rcases (by omega : i = 0) with rfl; rcases (by omega : j = 0 ∨ j = 1 ∨ j = 2) with rfl | rfl | rfl <;> rfl
 ·rcases (by omega : i = 0) with rfl
  exact h1.below hB
theorem okP_five (k : Nat) (h0 : 0 < k) (h5 : k ≤ 5) : ∃ j,okP j k (fun _ => 1) (fun _ => 2) 4 2 := by
 rcases (by omega : k = 1 ∨ k = 2 ∨ k = 3 ∨ k = 4 ∨ k = 5) with rfl | rfl | rfl | rfl | rfl
 ·exact ⟨0,⟨by decide,by decide,by decide,by decide⟩,by decide,by decide,by decide⟩
 ·exact ⟨0,⟨by decide,by decide,by decide,by decide⟩,by decide,by decide,by decide⟩
 ·exact ⟨1,⟨by decide,by decide,by decide,by decide⟩,by decide,⟨by decide,by decide,by decide,by decide⟩,by decide,by decide,by decide⟩
 ·exact ⟨1,⟨by decide,by decide,by decide,by decide⟩,by decide,⟨by decide,by decide,by decide,by decide⟩,by decide,by decide,by decide⟩
 ·exact ⟨2,⟨by decide,by decide,by decide,by decide⟩,by decide,⟨by decide,by decide,by decide,by decide⟩,by decide,⟨by decide,by decide,by decide,by decide⟩,by decide,by decide,by decide⟩
theorem PEl.of_clean {w : World} {v : Value} {n D S : Nat} {q : Nat → Rat} (h : FRow w v (trimN q n) q) (hn : n ≤ D) (hs : ∀ i,i < n → qsz (q i) ≤ S) : PEl w v D S (fun z => evN q z n) :=
 ⟨_,q,h,Nat.le_trans (trimN_le _ _) hn,fun i hi => hs i (Nat.lt_of_lt_of_le hi (trimN_le _ _)),trimN_top _ _,fun z => evN_trim q z n⟩
theorem POwn.sl {B : Nat} {w : World} {v : Value} {n : Nat} {D S : Nat → Nat} {E : Nat → Rat → Rat} (h : POwn B w v n D S E) : ∃ a c,v = .slice a n c := by
 obtain ⟨us,el,h1,_⟩ := h
 rcases h1.2 with ⟨rfl,rfl⟩ | ⟨g,cap,cur,rfl,_⟩
 ·exact ⟨_,_,rfl⟩
 ·exact ⟨_,_,rfl⟩
theorem PEl.sl {w : World} {v : Value} {D S : Nat} {E : Rat → Rat} (h : PEl w v D S E) : ∃ a n c,v = .slice a n c := by
 obtain ⟨m,R,h1,_⟩ := h; obtain ⟨a,c,e⟩ := h1.open; exact ⟨a,m,c,e⟩
set_option maxRecDepth 100000 in
set_option maxHeartbeats 8000000 in
theorem pcompose_at (u v : Value) (n m : Nat) (q r : Nat → Rat) (w : World) (hu : QRow w u n q 2) (hv : QRow w v m r 2) (ht : Tab w) (hn : n ≤ 5) (hm : m ≤ 4) :
  Calls Tryz.prog 26 #[u,v] w fun e w' => ∃ y,e = .returned y ∧ PEl w' y 20 520 (fun z => evN q (evN r z m) n) ∧ Below w.heap.size w w' := by
 have sQ : ∀ i,i < n → qsz (q i) ≤ 2 := fun i hi => hu.sz (by omega) i hi
 have sR : ∀ i,i < m → qsz (r i) ≤ 2 := fun i hi => hv.sz (by omega) i hi
 have tl := trimN_le q n
 have HTR : Hid (∀ z,evN q z (trimN q n) = evN q z n) := fun z => evN_trim q z n
 have BB : Below w.heap.size w w := Below.refl _ _
 go_enter Tryz.func26,Tryz.ntmps26
 go_wp2_with fail
 refine (ptrim_at _ n q 2 _ hu (by omega) (by omega)).mono ?_
 rintro e w1 ⟨ua,uc,rfl,rfl,b1⟩
 replace hu := hu.below b1
 replace hv := hv.below b1
 replace ht := ht.below b1
 replace BB := BB.trans (b1.mono BB.size)
 clear b1
 generalize trimN q n = k at *
 have hu0 := hu
 have hv0 := hv
 have ht0 := ht
 have BW : Hid (Below w.heap.size w w1) := BB
 clear hu hv ht BB
 go_wp2
 go_loopw [5,11] (fun vo vi wr => ∃ i : Nat,i ≤ k ∧ vi = .int .i64 (i : Int) ∧ POwn w1.heap.size wr vo i (fun _ => 1) (fun _ => 2) (fun j _ => q j) ∧ Below w1.heap.size w1 wr) (fun _ vi _ => k - (intOf vi).toNat)
 case atStart => exact ⟨0,by omega,rfl,POwn.nil _ _ _ _ _,Below.refl _ _⟩
 case round =>
  obtain ⟨i,hi,rfl,O,BB⟩ := hrel
  obtain ⟨oa,oc,rfl⟩ := O.sl
  by_cases hlt : i < k
  ·have hli : (i : Int) < (k : Int) := by omega
   have hl0 : (0 : Int) ≤ (i : Int) := by omega
   have hin : i < n := by omega
   have sqi := sQ i hin
   obtain ⟨b,off,cc,p9,ao9,m9,d9,bo9,k9,e9,hvv,hcc,XC0,Hi0⟩ := hu0.at i hin
   cases hvv
   have XC := XC0.below BB
   have Hi := Hi0.below BB
   have ht := ht0.below BB
   clear XC0 Hi0
   obtain ⟨xc0,xc1,xc2⟩ := id XC
   obtain ⟨W7,hW7,hS7,hL7,VE⟩ := V3.lay wr 35 (.bool p9) (.slice ao9 m9 d9) (.slice bo9 k9 e9)
   replace O := O.below hL7
   replace Hi := Hi.below hL7
   replace ht := ht.below hL7
   replace BB := BB.trans (hL7.mono BB.size)
   obtain ⟨W8,hW8,b8,Q8⟩ := qrow1_lay W7 35 Hi
   rw [hS7] at Q8
   replace O := O.below b8
   replace ht := ht.below b8
   replace BB := BB.trans (b8.mono BB.size)
   go_wp2_with fail
   rw [← hW7,← hW8]
   clear xc0 xc1 xc2 XC Hi VE hL7 b8 hW7 hW8 hS7
   refine (pclean_at _ 1 (fun _ => q i) 2 _ Q8 ht (by omega) (by omega) (by omega)).mono ?_
   rintro e w21 ⟨y,rfl,FY,b21⟩
   replace O := O.below b21
   replace ht := ht.below b21
   replace Q8 := Q8.below b21
   replace BB := BB.trans (b21.mono BB.size)
   clear b21
   have PY : PEl w21 y 1 2 (fun _ => q i) := by
    obtain ⟨m_,R_,q1,q2,q3,q4,q5⟩ := PEl.of_clean (D := 1) (S := 2) FY.1 (by omega) (fun j _ => sqi)
    exact ⟨m_,R_,q1,q2,q3,q4,fun z => by rw [q5 z]; exact evN_first _ z⟩
   obtain ⟨ya,ylen,yc,rfl⟩ := PY.sl
   clear FY Q8 ht
   obtain ⟨us,el',o1,o2,o3,o4⟩ := id O
   have hul : us.length = i := by have := o1.1; omega
   have HO2 : Hid (∀ g0,Value.ownBlock (.slice oa i oc) = some g0 → PureB IsNB w21 g0) := o2
   have HO3 : Hid (∀ i',i' < i → us[i']? = some (el' i')) := o3
   have HO4 : Hid (∀ i',i' < i → PEl w21 (el' i') 1 2 (fun _ => q i')) := o4
   have hOb : Hid (∀ g0,Value.ownBlock (.slice oa i oc) = some g0 → w1.heap.size ≤ g0) := fun g0 hg0 => (o1.lt g0 hg0).1
   clear o2 o3 o4
   have A9 : Below w21.heap.size w21 (w21.alloc (.cells #[.slice ya ylen yc] 22)) := (Below.refl _ _).alloc (Nat.le_refl _) _
   go_wp2_with (at_builtin; refine wpList_append_pure (Q' := IsNB) rfl _ _ _ rfl w1.heap.size 22 (.slice none 0 0) 1 24 Tryz.underlying68 info_rats rfl (by omega) (.slice oa i oc) rfl i us (o1.alloc _) (fun g0 hg0 => (HO2.out g0 hg0).below A9 (o1.lt g0 hg0).2) ⟨w21.heap.size,0,none⟩ 1 rfl [.slice ya ylen yc] rfl (news_block (heap_alloc_new _ _)) (by simp [Value.oneCell']) (by simp [nb_slice]) (by simp [Value.cells,nb_slice]) (by omega) (by omega) (by have := BB.size; simp; omega) ?_)
   intro g5 cap5 w5 ho5 hg5 hat5 hp5 hk5
   have kf := KeepF.grown hg5 (fun g0 hg0 => (HO2.out g0 hg0).below A9 (o1.lt g0 hg0).2) hk5
   have O5 : POwn w1.heap.size w5 (.slice (some ⟨g5,0,none⟩) (i + 1) cap5) (i + 1) (fun _ => 1) (fun _ => 2) (fun j _ => q j) := POwn.more ho5 hp5 hul HO3.out (fun j hj => (HO4.out j hj).below A9) (PY.below A9) kf
   have B5 : Below w1.heap.size w1 w5 := below_grownB (BB.trans (A9.mono BB.size)) hg5 (by have := BB.size; have := A9.size; omega) (fun g0 hg0 => hOb.out g0 hg0)
   clear O BB PY A9 o1 HO2 HO3 HO4 hOb hul ho5 hg5 hat5 hp5 hk5 kf
   go_wp2
   go_roundw
   case rel => exact ⟨i + 1,by omega,by go_num,O5,B5⟩
   case measure => simp [intOf]; omega
  ·obtain rfl : i = k := by omega
   have hli : ¬ (i : Int) < (i : Int) := by omega
   have BB2 := BW.out.trans (BB.mono BW.out.size)
   by_cases h0 : i = 0
   ·subst h0
    have HF : Hid (∃ y,Ending.returned (.slice none 0 0) = .returned y ∧ PEl wr y 20 520 (fun z => evN q (evN r z m) n) ∧ Below w.heap.size w wr) := ⟨_,rfl,⟨0,fun _ => 0,(FNew.nil 0 wr (fun _ => 0)).1,by omega,fun j hj => by omega,fun h => by omega,fun z => by show evN (fun _ => 0) z 0 = evN q (evN r z m) n; rw [← HTR.out]; rfl⟩,BB2⟩
    go_wp2
    go_ret
    exact HF.out
   ·have h0i : ¬ (i : Int) = 0 := by omega
    have h0b : ((i : Int) == 0) = false := by simp; omega
    have ht := ht0.below BB
    have hv := hv0.below BB
    obtain ⟨j,hok⟩ := okP_five i (by omega) (by omega)
    have HOK : Hid (okP j i (fun _ => 1) (fun _ => 2) 4 2) := hok
    clear hok
    go_wp2_with fail
    refine (pclean_at _ m r 2 _ hv ht (by omega) (by omega) (by omega)).mono ?_
    rintro e w7 ⟨xq,rfl,FQ,b7⟩
    have PX := PEl.of_clean (D := 4) (S := 2) FQ.1 hm sR
    replace O := O.below b7
    replace ht := ht.below b7
    replace BB2 := BB2.trans (b7.mono BB2.size)
    clear FQ b7 hv
    go_wp2_with fail
    refine (pvaluep_at _ _ i 4 2 j (fun _ => 1) (fun _ => 2) (fun j _ => q j) (fun z => evN r z m) _ (O.prow (by omega)) PX ht (by omega) (by omega) HOK.out).mono ?_
    rintro e w8 ⟨y,rfl,PY,b8⟩
    replace BB2 := BB2.trans (b8.mono BB2.size)
    have HF : Hid (∃ y_,Ending.returned y = .returned y_ ∧ PEl w8 y_ 20 520 (fun z => evN q (evN r z m) n) ∧ Below w.heap.size w w8) := by
     obtain ⟨m_,R_,q1,q2,q3,q4,q5⟩ := PY
     exact ⟨y,rfl,⟨m_,R_,q1,q2,q3,q4,fun z => by rw [q5 z]; exact HTR.out _⟩,BB2⟩
    clear PY PX O ht
    go_wp2
    go_ret
    exact HF.out
end Go.Proofs.YtnbocjbfieklhaaGreatDoor
