/-
 Proves that Mul and Pow answer product and powers of any polynomials of up to 6 coefficients of up to 2 limbs,powers of up to 4,and the error of other ones,whatever comes in (the statement PolyProducts,its tied card); the table of math/bits lies as the program's text lays it; no other condition.
-/
import Derived.Test.YtnbocjbfieklhaaGreatDoorRows
import Derived.Test.YtnbocjbfieklhaaGreatDoorJ47219a9b25
import Derived.Test.YtnbocjbfieklhaaGreatDoorJ7c3c27c2cf
import Derived.Test.YtnbocjbfieklhaaGreatDoorJ2a251491fe
import Derived.WalkKit
import Derived.ProofKit
import Derived.OpenShut
import Derived.ShutString
import Derived.ChangeOld
import Derived.Below
import Derived.Test.YtnbocjbfieklhaaGreatDoorTie
import Derived.Test.YtnbocjbfieklhaaGreatDoorCards
import Derived.LaidByTextLater
import Derived.LaidHandle
import Derived.Lib.LaidTab
import Derived.SevenTiedAt
namespace Go.Proofs.YtnbocjbfieklhaaGreatDoor.polyProducts
open Go.ChangeShapes Go.WideShapes Go.ChangeAt Go.RowKit
open Go.ChangeMaps (open_string shut_string)
set_option linter.unusedVariables false
set_option linter.unusedSimpArgs false

def KLIST : Nat := 2
/-- How great the numbers of the law's own powers may be. -/
def wz : Nat → Nat
 | 0 => 1
 | k + 1 => 6 * (wz k + 2 + 1) + 1
theorem wz_pos : ∀ k,1 ≤ wz k
 | 0 => Nat.le_refl _
 | k + 1 => by show 1 ≤ 6 * (wz k + 2 + 1) + 1; omega
theorem wz_le (k : Nat) (h : k ≤ 4) : wz k ≤ 20000 := by
 rcases (by omega : k = 0 ∨ k = 1 ∨ k = 2 ∨ k = 3 ∨ k = 4) with rfl | rfl | rfl | rfl | rfl <;> decide

set_option maxRecDepth 100000 in
set_option maxHeartbeats 32000000 in
theorem walk (v1 : Value) (n1 : Nat) (q1 : Nat → Rat) (v2 : Value) (n2 : Nat) (q2 : Nat → Rat) (k : Int) (w : World) (h1 : RawQ w v1 n1 q1 KLIST) (h2 : RawQ w v2 n2 q2 KLIST) (hk : (Lit.int .i64 k).wf = true) (ht : Tab w) :
  Calls Tryz.prog 3 #[v1,v2,.int .i64 k] w fun e w' => e = .returned (.bool true) ∧ Below w.heap.size w w' := by
 unfold KLIST at h1 h2
 have BB : Below w.heap.size w w := Below.refl _ _
 go_enter Tryz.func3,Tryz.ntmps3
 go_wp2_with fail
 refine (few4_at _ n1 6 q1 _ h1 (by omega)).mono ?_
 rintro e w1 ⟨ra,rfl,QAo,b1⟩
 replace h1 := h1.below b1
 replace h2 := h2.below b1
 replace ht := ht.below b1
 replace BB := BB.trans (b1.mono BB.size)
 clear b1
 have QA := QAo.row
 clear QAo
 go_wp2_with fail
 refine (few4_at _ n2 6 q2 _ h2 (by omega)).mono ?_
 rintro e w2 ⟨rb,rfl,QBo,b2⟩
 replace h1 := h1.below b2
 replace h2 := h2.below b2
 replace ht := ht.below b2
 replace QA := QA.below b2
 replace BB := BB.trans (b2.mono BB.size)
 clear b2
 have QB := QBo.row
 clear QBo
 clear h1 h2
 obtain ⟨n,hn⟩ : ∃ n,n = min n1 6 := ⟨_,rfl⟩
 rw [← hn] at QA
 have hn6 : n ≤ 6 := by omega
 obtain ⟨m,hm⟩ : ∃ m,m = min n2 6 := ⟨_,rfl⟩
 rw [← hm] at QB
 have hm6 : m ≤ 6 := by omega
 clear hn hm
 obtain ⟨aa,ca,rfl,_,_,_⟩ := QA.open
 obtain ⟨ab,cb,rfl,_,_,_⟩ := QB.open
 have sA : ∀ i,i < n → qsz (q1 i) ≤ 2 := fun i hi => QA.sz (by omega) i hi
 have sB : ∀ i,i < m → qsz (q2 i) ≤ 2 := fun i hi => QB.sz (by omega) i hi
 have HZ : Hid (∀ i,co (MulLen n q1 m q2) (conv n q1 m q2) i = co (n + m) (conv n q1 m q2) i) := fun i => by
  rw [mul_co]
  by_cases h : i < n + m
  ·rw [co_lt h]
  ·rw [co_ge h,conv_far _ _ _ _ _ (by omega)]
 go_wp2_with fail
 refine (pmul_at _ _ n m q1 q2 2 _ QA QB ht (by omega) (by omega) (by omega) (Nat.le_trans (Nat.succ_le_succ (Nat.mul_le_mul_right _ (show n + m ≤ 12 by omega))) (by omega)) (by omega)).mono ?_
 rintro e w3 ⟨x1,rfl,FM,b3⟩
 replace ht := ht.below b3
 replace QA := QA.below b3
 replace QB := QB.below b3
 replace BB := BB.trans (b3.mono BB.size)
 clear b3
 have FM1 := FM.1
 clear FM
 have lM := mul_len_two n q1 m q2
 have tM := mul_top n q1 m q2
 have sM : ∀ i,qsz (conv n q1 m q2 i) ≤ 31 := fun i => Nat.le_trans (conv_sz2 sA sB (by omega) (by omega) i) (Nat.le_trans (Nat.succ_le_succ (Nat.mul_le_mul_right _ hm6)) (by omega))
 go_wp2_with fail
 refine (times4_at _ _ n m q1 q2 2 2 31 _ QA QB ht (by omega) (by omega) (by omega) (by omega) (Nat.le_trans (Nat.succ_le_succ (Nat.mul_le_mul_right _ hm6)) (by omega)) (by omega)).mono ?_
 rintro e w4 ⟨x2,rfl,OT,b4⟩
 replace ht := ht.below b4
 replace QA := QA.below b4
 replace QB := QB.below b4
 replace FM1 := FM1.below b4
 replace BB := BB.trans (b4.mono BB.size)
 clear b4
 have FT := OT.row
 clear OT
 go_wp2_with fail
 have HTM : Hid (0 < MulLen n q1 m q2 → conv n q1 m q2 (MulLen n q1 m q2 - 1) ≠ 0) := tM
 clear tM
 generalize MulLen n q1 m q2 = lM_ at *
 obtain ⟨nm_,hnm⟩ : ∃ k,k = n + m := ⟨_,rfl⟩
 rw [← hnm] at FT HZ lM
 have hnm2 : nm_ ≤ 12 := by omega
 clear hnm
 generalize conv n q1 m q2 = CC at *
 refine (is4_at _ _ lM_ nm_ CC CC 31 _ FM1 (FT.q 31 (fun i _ => sM i)) (fun i _ => sM i) ht (by omega) (by omega) (by omega) (by omega) HTM.out HZ.out).mono ?_
 rintro e w5 ⟨rfl,b5⟩
 replace ht := ht.below b5
 replace QA := QA.below b5
 replace QB := QB.below b5
 replace FM1 := FM1.below b5
 replace FT := FT.below b5
 replace BB := BB.trans (b5.mono BB.size)
 clear b5
 clear FM1 FT QB
 clear HTM HZ sM lM
 rcases (by omega : (k > 4 ∧ k ≤ 64) ∨ k < 0 ∨ k > 64 ∨ k = 0 ∨ k = 1 ∨ k = 2 ∨ k = 3 ∨ k = 4) with hc1 | hc2 | hc3 | rfl | rfl | rfl | rfl | rfl
 ·obtain ⟨g1,g2⟩ := hc1
  skip
  go_wp2_with fail
  refine (awake4_at _ ht).mono ?_
  rintro e w6 ⟨rfl,b6⟩
  replace ht := ht.below b6
  replace QA := QA.below b6
  replace BB := BB.trans (b6.mono BB.size)
  clear b6
  go_wp2
  go_ret
  exact ⟨rfl,BB⟩
 ·have g0 : ¬ k > 4 := by omega
  have g1 : k < 0 := hc2
  go_wp2_with fail
  refine (ppow_lo _ k _ hc2).mono ?_
  rintro e w6 ⟨rfl,b6⟩
  replace ht := ht.below b6
  replace QA := QA.below b6
  replace BB := BB.trans (b6.mono BB.size)
  clear b6
  go_wp2_with fail
  refine (awake4_at _ ht).mono ?_
  rintro e w7 ⟨rfl,b7⟩
  replace ht := ht.below b7
  replace QA := QA.below b7
  replace BB := BB.trans (b7.mono BB.size)
  clear b7
  go_wp2
  go_ret
  exact ⟨rfl,BB⟩
 ·have g0 : k > 4 := by omega
  have g0b : ¬ k ≤ 64 := by omega
  have g1 : ¬ k < 0 := by omega
  have g2 : k > 64 := by omega
  go_wp2_with fail
  refine (ppow_hi _ k _ (by omega)).mono ?_
  rintro e w6 ⟨rfl,b6⟩
  replace ht := ht.below b6
  replace QA := QA.below b6
  replace BB := BB.trans (b6.mono BB.size)
  clear b6
  go_wp2_with fail
  refine (awake4_at _ ht).mono ?_
  rintro e w7 ⟨rfl,b7⟩
  replace ht := ht.below b7
  replace QA := QA.below b7
  replace BB := BB.trans (b7.mono BB.size)
  clear b7
  go_wp2
  go_ret
  exact ⟨rfl,BB⟩
 ·go_wp2_with fail
  refine (ppow0 _ n q1 _ QA ht hn6).mono ?_
  rintro e w6 ⟨xp,rfl,PP,b6⟩
  replace ht := ht.below b6
  replace QA := QA.below b6
  replace BB := BB.trans (b6.mono BB.size)
  clear b6
  go_wp2_with fail
  refine (qone_at _).mono ?_
  rintro e w7 ⟨x9,rfl,h1,b7⟩
  replace ht := ht.below b7
  replace QA := QA.below b7
  replace PP := PP.below b7
  replace BB := BB.trans (b7.mono BB.size)
  clear b7
  obtain ⟨p1,a1,n1_,c1,b1,m1,d1,rfl⟩ := h1.open
  obtain ⟨W9,hW9,b9,FW⟩ := frow1_lay w7 35 h1
  replace ht := ht.below b9
  replace QA := QA.below b9
  replace PP := PP.below b9
  replace h1 := h1.below b9
  replace BB := BB.trans (b9.mono BB.size)
  clear h1
  go_wp2
  rw [← hW9]
  clear hW9 b9
  generalize w7.heap.size = R9 at *
  have QA0 := QA
  have PP0 := PP
  have ht0 := ht
  have BB0 : Hid (Below w.heap.size w W9) := BB
  clear QA PP ht BB
  go_loopw [9,10] (fun vw vi wr => ∃ (i l : Nat) (R : Nat → Rat),i ≤ 0 ∧ vi = .int .i64 (i : Int) ∧ l = 1 + n * i ∧ FRow wr vw l R ∧ Hid (∀ j,co l R j = cpow (co n q1) i j) ∧ Hid (∀ j,j < l → qsz (R j) ≤ wz i) ∧ Below W9.heap.size W9 wr) (fun _ vi _ => 0 - (intOf vi).toNat)
  case atStart => exact ⟨0,1,_,by omega,rfl,by omega,FW,cone_co 1 rfl,fun j hj => Nat.le_trans (show qsz 1 ≤ 1 by decide +kernel) (by decide),Below.refl _ _⟩
  case round =>
   clear FW
   obtain ⟨i,l,R,hi,rfl,hl,FW,HCO,HSZ,B9⟩ := hrel
   obtain ⟨aw,cw,rfl⟩ := FW.open
   by_cases hlt : i < 0
   ·have hli : (i : Int) < 0 := by omega
    have QA := QA0.below B9
    have ht := ht0.below B9
    have hl25 : l ≤ 25 := by rw [hl]; exact Nat.le_trans (Nat.add_le_add_left (Nat.mul_le_mul hn6 (show i ≤ 4 by omega)) 1) (by omega)
    have hwz := wz_le i (by omega)
    have HL2 : Hid (l + n = 1 + n * (i + 1)) := by rw [Hid,hl,Nat.mul_succ]; omega
    have HWZ : Hid (n * (wz i + 2 + 1) + 1 ≤ wz (i + 1)) := Nat.succ_le_succ (Nat.mul_le_mul_right _ hn6)
    have hwp : 1 ≤ wz i := wz_pos i
    clear hl
    have hE9 : wz (i + 1) + wz i + 2 ≤ 100000 := by have := wz_le (i + 1) (by omega); omega
    go_wp2_with fail
    refine (times4_at _ _ l n R q1 (wz i) 2 (wz (i + 1)) _ (FW.q _ HSZ.out) QA ht (by omega) (by omega) hwp (by omega) HWZ.out hE9).mono ?_
    rintro e w1 ⟨xt,rfl,OT,b1⟩
    replace B9 := B9.trans (b1.mono B9.size)
    have FT := OT.row
    clear OT b1 QA ht FW
    have HC3 : Hid (∀ j,co (l + n) (conv l R n q1) j = cpow (co n q1) (i + 1) j) := fun j => by
     rw [show co (l + n) (conv l R n q1) j = conv l R n q1 j by
      by_cases h : j < l + n
      ·rw [co_lt h]
      ·rw [co_ge h,conv_far _ _ _ _ _ (by omega)]]
     rw [conv_cmul,cmul_congr HCO.out (fun _ => rfl)]; rfl
    have HS3 : Hid (∀ j,j < l + n → qsz (conv l R n q1 j) ≤ wz (i + 1)) := fun j _ => Nat.le_trans (conv_sz2 HSZ.out sA hwp (by omega) j) HWZ.out
    go_wp2
    go_roundw
    case rel => exact ⟨i + 1,l + n,_,by omega,by go_num,HL2.out,FT,HC3,HS3,B9⟩
    case measure => simp [intOf]; omega
   ·obtain rfl : i = 0 := by omega
    have ht := ht0.below B9
    obtain ⟨lp,RP,FP0,hlp,htop,hco,hsz⟩ := PP0
    have FP := FP0.below B9
    have HTP : Hid (0 < lp → RP (lp - 1) ≠ 0) := htop
    have HEQ : Hid (∀ j,co lp RP j = co l R j) := fun j => by rw [hco j,HCO.out j]
    have BB := BB0.out.trans (B9.mono BB0.out.size)
    have hl25 : l ≤ 25 := by rw [hl]; exact Nat.le_trans (Nat.add_le_add_left (Nat.mul_le_mul_right _ hn6) 1) (by omega)
    have hwz := wz_le 0 (by omega)
    obtain ⟨ap,cp,rfl⟩ := FP.open
    clear hco htop HCO hl
    go_wp2_with fail
    refine (is4_at _ _ lp l RP R 20000 _ FP (FW.q 20000 (fun j hj => Nat.le_trans (HSZ.out j hj) (by omega))) (fun j hj => Nat.le_trans (hsz j hj) (by omega)) ht (by omega) (by omega) (by omega) (by omega) HTP.out HEQ.out).mono ?_
    rintro e w1 ⟨rfl,b1⟩
    replace FW := FW.below b1
    replace ht := ht.below b1
    replace FP := FP.below b1
    replace BB := BB.trans (b1.mono BB.size)
    clear b1
    go_wp2_with fail
    refine (awake4_at _ ht).mono ?_
    rintro e w2 ⟨rfl,b2⟩
    replace FW := FW.below b2
    replace ht := ht.below b2
    replace FP := FP.below b2
    replace BB := BB.trans (b2.mono BB.size)
    clear b2
    go_wp2
    go_ret
    exact ⟨rfl,BB⟩
 ·go_wp2_with fail
  refine (ppow1 _ n q1 _ QA ht hn6).mono ?_
  rintro e w6 ⟨xp,rfl,PP,b6⟩
  replace ht := ht.below b6
  replace QA := QA.below b6
  replace BB := BB.trans (b6.mono BB.size)
  clear b6
  go_wp2_with fail
  refine (qone_at _).mono ?_
  rintro e w7 ⟨x9,rfl,h1,b7⟩
  replace ht := ht.below b7
  replace QA := QA.below b7
  replace PP := PP.below b7
  replace BB := BB.trans (b7.mono BB.size)
  clear b7
  obtain ⟨p1,a1,n1_,c1,b1,m1,d1,rfl⟩ := h1.open
  obtain ⟨W9,hW9,b9,FW⟩ := frow1_lay w7 35 h1
  replace ht := ht.below b9
  replace QA := QA.below b9
  replace PP := PP.below b9
  replace h1 := h1.below b9
  replace BB := BB.trans (b9.mono BB.size)
  clear h1
  go_wp2
  rw [← hW9]
  clear hW9 b9
  generalize w7.heap.size = R9 at *
  have QA0 := QA
  have PP0 := PP
  have ht0 := ht
  have BB0 : Hid (Below w.heap.size w W9) := BB
  clear QA PP ht BB
  go_loopw [9,10] (fun vw vi wr => ∃ (i l : Nat) (R : Nat → Rat),i ≤ 1 ∧ vi = .int .i64 (i : Int) ∧ l = 1 + n * i ∧ FRow wr vw l R ∧ Hid (∀ j,co l R j = cpow (co n q1) i j) ∧ Hid (∀ j,j < l → qsz (R j) ≤ wz i) ∧ Below W9.heap.size W9 wr) (fun _ vi _ => 1 - (intOf vi).toNat)
  case atStart => exact ⟨0,1,_,by omega,rfl,by omega,FW,cone_co 1 rfl,fun j hj => Nat.le_trans (show qsz 1 ≤ 1 by decide +kernel) (by decide),Below.refl _ _⟩
  case round =>
   clear FW
   obtain ⟨i,l,R,hi,rfl,hl,FW,HCO,HSZ,B9⟩ := hrel
   obtain ⟨aw,cw,rfl⟩ := FW.open
   by_cases hlt : i < 1
   ·have hli : (i : Int) < 1 := by omega
    have QA := QA0.below B9
    have ht := ht0.below B9
    have hl25 : l ≤ 25 := by rw [hl]; exact Nat.le_trans (Nat.add_le_add_left (Nat.mul_le_mul hn6 (show i ≤ 4 by omega)) 1) (by omega)
    have hwz := wz_le i (by omega)
    have HL2 : Hid (l + n = 1 + n * (i + 1)) := by rw [Hid,hl,Nat.mul_succ]; omega
    have HWZ : Hid (n * (wz i + 2 + 1) + 1 ≤ wz (i + 1)) := Nat.succ_le_succ (Nat.mul_le_mul_right _ hn6)
    have hwp : 1 ≤ wz i := wz_pos i
    clear hl
    have hE9 : wz (i + 1) + wz i + 2 ≤ 100000 := by have := wz_le (i + 1) (by omega); omega
    go_wp2_with fail
    refine (times4_at _ _ l n R q1 (wz i) 2 (wz (i + 1)) _ (FW.q _ HSZ.out) QA ht (by omega) (by omega) hwp (by omega) HWZ.out hE9).mono ?_
    rintro e w1 ⟨xt,rfl,OT,b1⟩
    replace B9 := B9.trans (b1.mono B9.size)
    have FT := OT.row
    clear OT b1 QA ht FW
    have HC3 : Hid (∀ j,co (l + n) (conv l R n q1) j = cpow (co n q1) (i + 1) j) := fun j => by
     rw [show co (l + n) (conv l R n q1) j = conv l R n q1 j by
      by_cases h : j < l + n
      ·rw [co_lt h]
      ·rw [co_ge h,conv_far _ _ _ _ _ (by omega)]]
     rw [conv_cmul,cmul_congr HCO.out (fun _ => rfl)]; rfl
    have HS3 : Hid (∀ j,j < l + n → qsz (conv l R n q1 j) ≤ wz (i + 1)) := fun j _ => Nat.le_trans (conv_sz2 HSZ.out sA hwp (by omega) j) HWZ.out
    go_wp2
    go_roundw
    case rel => exact ⟨i + 1,l + n,_,by omega,by go_num,HL2.out,FT,HC3,HS3,B9⟩
    case measure => simp [intOf]; omega
   ·obtain rfl : i = 1 := by omega
    have ht := ht0.below B9
    obtain ⟨lp,RP,FP0,hlp,htop,hco,hsz⟩ := PP0
    have FP := FP0.below B9
    have HTP : Hid (0 < lp → RP (lp - 1) ≠ 0) := htop
    have HEQ : Hid (∀ j,co lp RP j = co l R j) := fun j => by rw [hco j,HCO.out j]
    have BB := BB0.out.trans (B9.mono BB0.out.size)
    have hl25 : l ≤ 25 := by rw [hl]; exact Nat.le_trans (Nat.add_le_add_left (Nat.mul_le_mul_right _ hn6) 1) (by omega)
    have hwz := wz_le 1 (by omega)
    obtain ⟨ap,cp,rfl⟩ := FP.open
    clear hco htop HCO hl
    go_wp2_with fail
    refine (is4_at _ _ lp l RP R 20000 _ FP (FW.q 20000 (fun j hj => Nat.le_trans (HSZ.out j hj) (by omega))) (fun j hj => Nat.le_trans (hsz j hj) (by omega)) ht (by omega) (by omega) (by omega) (by omega) HTP.out HEQ.out).mono ?_
    rintro e w1 ⟨rfl,b1⟩
    replace FW := FW.below b1
    replace ht := ht.below b1
    replace FP := FP.below b1
    replace BB := BB.trans (b1.mono BB.size)
    clear b1
    go_wp2_with fail
    refine (awake4_at _ ht).mono ?_
    rintro e w2 ⟨rfl,b2⟩
    replace FW := FW.below b2
    replace ht := ht.below b2
    replace FP := FP.below b2
    replace BB := BB.trans (b2.mono BB.size)
    clear b2
    go_wp2
    go_ret
    exact ⟨rfl,BB⟩
 ·go_wp2_with fail
  refine (ppow2 _ n q1 _ QA ht hn6).mono ?_
  rintro e w6 ⟨xp,rfl,PP,b6⟩
  replace ht := ht.below b6
  replace QA := QA.below b6
  replace BB := BB.trans (b6.mono BB.size)
  clear b6
  go_wp2_with fail
  refine (qone_at _).mono ?_
  rintro e w7 ⟨x9,rfl,h1,b7⟩
  replace ht := ht.below b7
  replace QA := QA.below b7
  replace PP := PP.below b7
  replace BB := BB.trans (b7.mono BB.size)
  clear b7
  obtain ⟨p1,a1,n1_,c1,b1,m1,d1,rfl⟩ := h1.open
  obtain ⟨W9,hW9,b9,FW⟩ := frow1_lay w7 35 h1
  replace ht := ht.below b9
  replace QA := QA.below b9
  replace PP := PP.below b9
  replace h1 := h1.below b9
  replace BB := BB.trans (b9.mono BB.size)
  clear h1
  go_wp2
  rw [← hW9]
  clear hW9 b9
  generalize w7.heap.size = R9 at *
  have QA0 := QA
  have PP0 := PP
  have ht0 := ht
  have BB0 : Hid (Below w.heap.size w W9) := BB
  clear QA PP ht BB
  go_loopw [9,10] (fun vw vi wr => ∃ (i l : Nat) (R : Nat → Rat),i ≤ 2 ∧ vi = .int .i64 (i : Int) ∧ l = 1 + n * i ∧ FRow wr vw l R ∧ Hid (∀ j,co l R j = cpow (co n q1) i j) ∧ Hid (∀ j,j < l → qsz (R j) ≤ wz i) ∧ Below W9.heap.size W9 wr) (fun _ vi _ => 2 - (intOf vi).toNat)
  case atStart => exact ⟨0,1,_,by omega,rfl,by omega,FW,cone_co 1 rfl,fun j hj => Nat.le_trans (show qsz 1 ≤ 1 by decide +kernel) (by decide),Below.refl _ _⟩
  case round =>
   clear FW
   obtain ⟨i,l,R,hi,rfl,hl,FW,HCO,HSZ,B9⟩ := hrel
   obtain ⟨aw,cw,rfl⟩ := FW.open
   by_cases hlt : i < 2
   ·have hli : (i : Int) < 2 := by omega
    have QA := QA0.below B9
    have ht := ht0.below B9
    have hl25 : l ≤ 25 := by rw [hl]; exact Nat.le_trans (Nat.add_le_add_left (Nat.mul_le_mul hn6 (show i ≤ 4 by omega)) 1) (by omega)
    have hwz := wz_le i (by omega)
    have HL2 : Hid (l + n = 1 + n * (i + 1)) := by rw [Hid,hl,Nat.mul_succ]; omega
    have HWZ : Hid (n * (wz i + 2 + 1) + 1 ≤ wz (i + 1)) := Nat.succ_le_succ (Nat.mul_le_mul_right _ hn6)
    have hwp : 1 ≤ wz i := wz_pos i
    clear hl
    have hE9 : wz (i + 1) + wz i + 2 ≤ 100000 := by have := wz_le (i + 1) (by omega); omega
    go_wp2_with fail
    refine (times4_at _ _ l n R q1 (wz i) 2 (wz (i + 1)) _ (FW.q _ HSZ.out) QA ht (by omega) (by omega) hwp (by omega) HWZ.out hE9).mono ?_
    rintro e w1 ⟨xt,rfl,OT,b1⟩
    replace B9 := B9.trans (b1.mono B9.size)
    have FT := OT.row
    clear OT b1 QA ht FW
    have HC3 : Hid (∀ j,co (l + n) (conv l R n q1) j = cpow (co n q1) (i + 1) j) := fun j => by
     rw [show co (l + n) (conv l R n q1) j = conv l R n q1 j by
      by_cases h : j < l + n
      ·rw [co_lt h]
      ·rw [co_ge h,conv_far _ _ _ _ _ (by omega)]]
     rw [conv_cmul,cmul_congr HCO.out (fun _ => rfl)]; rfl
    have HS3 : Hid (∀ j,j < l + n → qsz (conv l R n q1 j) ≤ wz (i + 1)) := fun j _ => Nat.le_trans (conv_sz2 HSZ.out sA hwp (by omega) j) HWZ.out
    go_wp2
    go_roundw
    case rel => exact ⟨i + 1,l + n,_,by omega,by go_num,HL2.out,FT,HC3,HS3,B9⟩
    case measure => simp [intOf]; omega
   ·obtain rfl : i = 2 := by omega
    have ht := ht0.below B9
    obtain ⟨lp,RP,FP0,hlp,htop,hco,hsz⟩ := PP0
    have FP := FP0.below B9
    have HTP : Hid (0 < lp → RP (lp - 1) ≠ 0) := htop
    have HEQ : Hid (∀ j,co lp RP j = co l R j) := fun j => by rw [hco j,HCO.out j]
    have BB := BB0.out.trans (B9.mono BB0.out.size)
    have hl25 : l ≤ 25 := by rw [hl]; exact Nat.le_trans (Nat.add_le_add_left (Nat.mul_le_mul_right _ hn6) 1) (by omega)
    have hwz := wz_le 2 (by omega)
    obtain ⟨ap,cp,rfl⟩ := FP.open
    clear hco htop HCO hl
    go_wp2_with fail
    refine (is4_at _ _ lp l RP R 20000 _ FP (FW.q 20000 (fun j hj => Nat.le_trans (HSZ.out j hj) (by omega))) (fun j hj => Nat.le_trans (hsz j hj) (by omega)) ht (by omega) (by omega) (by omega) (by omega) HTP.out HEQ.out).mono ?_
    rintro e w1 ⟨rfl,b1⟩
    replace FW := FW.below b1
    replace ht := ht.below b1
    replace FP := FP.below b1
    replace BB := BB.trans (b1.mono BB.size)
    clear b1
    go_wp2_with fail
    refine (awake4_at _ ht).mono ?_
    rintro e w2 ⟨rfl,b2⟩
    replace FW := FW.below b2
    replace ht := ht.below b2
    replace FP := FP.below b2
    replace BB := BB.trans (b2.mono BB.size)
    clear b2
    go_wp2
    go_ret
    exact ⟨rfl,BB⟩
 ·go_wp2_with fail
  refine (ppow3 _ n q1 _ QA ht hn6).mono ?_
  rintro e w6 ⟨xp,rfl,PP,b6⟩
  replace ht := ht.below b6
  replace QA := QA.below b6
  replace BB := BB.trans (b6.mono BB.size)
  clear b6
  go_wp2_with fail
  refine (qone_at _).mono ?_
  rintro e w7 ⟨x9,rfl,h1,b7⟩
  replace ht := ht.below b7
  replace QA := QA.below b7
  replace PP := PP.below b7
  replace BB := BB.trans (b7.mono BB.size)
  clear b7
  obtain ⟨p1,a1,n1_,c1,b1,m1,d1,rfl⟩ := h1.open
  obtain ⟨W9,hW9,b9,FW⟩ := frow1_lay w7 35 h1
  replace ht := ht.below b9
  replace QA := QA.below b9
  replace PP := PP.below b9
  replace h1 := h1.below b9
  replace BB := BB.trans (b9.mono BB.size)
  clear h1
  go_wp2
  rw [← hW9]
  clear hW9 b9
  generalize w7.heap.size = R9 at *
  have QA0 := QA
  have PP0 := PP
  have ht0 := ht
  have BB0 : Hid (Below w.heap.size w W9) := BB
  clear QA PP ht BB
  go_loopw [9,10] (fun vw vi wr => ∃ (i l : Nat) (R : Nat → Rat),i ≤ 3 ∧ vi = .int .i64 (i : Int) ∧ l = 1 + n * i ∧ FRow wr vw l R ∧ Hid (∀ j,co l R j = cpow (co n q1) i j) ∧ Hid (∀ j,j < l → qsz (R j) ≤ wz i) ∧ Below W9.heap.size W9 wr) (fun _ vi _ => 3 - (intOf vi).toNat)
  case atStart => exact ⟨0,1,_,by omega,rfl,by omega,FW,cone_co 1 rfl,fun j hj => Nat.le_trans (show qsz 1 ≤ 1 by decide +kernel) (by decide),Below.refl _ _⟩
  case round =>
   clear FW
   obtain ⟨i,l,R,hi,rfl,hl,FW,HCO,HSZ,B9⟩ := hrel
   obtain ⟨aw,cw,rfl⟩ := FW.open
   by_cases hlt : i < 3
   ·have hli : (i : Int) < 3 := by omega
    have QA := QA0.below B9
    have ht := ht0.below B9
    have hl25 : l ≤ 25 := by rw [hl]; exact Nat.le_trans (Nat.add_le_add_left (Nat.mul_le_mul hn6 (show i ≤ 4 by omega)) 1) (by omega)
    have hwz := wz_le i (by omega)
    have HL2 : Hid (l + n = 1 + n * (i + 1)) := by rw [Hid,hl,Nat.mul_succ]; omega
    have HWZ : Hid (n * (wz i + 2 + 1) + 1 ≤ wz (i + 1)) := Nat.succ_le_succ (Nat.mul_le_mul_right _ hn6)
    have hwp : 1 ≤ wz i := wz_pos i
    clear hl
    have hE9 : wz (i + 1) + wz i + 2 ≤ 100000 := by have := wz_le (i + 1) (by omega); omega
    go_wp2_with fail
    refine (times4_at _ _ l n R q1 (wz i) 2 (wz (i + 1)) _ (FW.q _ HSZ.out) QA ht (by omega) (by omega) hwp (by omega) HWZ.out hE9).mono ?_
    rintro e w1 ⟨xt,rfl,OT,b1⟩
    replace B9 := B9.trans (b1.mono B9.size)
    have FT := OT.row
    clear OT b1 QA ht FW
    have HC3 : Hid (∀ j,co (l + n) (conv l R n q1) j = cpow (co n q1) (i + 1) j) := fun j => by
     rw [show co (l + n) (conv l R n q1) j = conv l R n q1 j by
      by_cases h : j < l + n
      ·rw [co_lt h]
      ·rw [co_ge h,conv_far _ _ _ _ _ (by omega)]]
     rw [conv_cmul,cmul_congr HCO.out (fun _ => rfl)]; rfl
    have HS3 : Hid (∀ j,j < l + n → qsz (conv l R n q1 j) ≤ wz (i + 1)) := fun j _ => Nat.le_trans (conv_sz2 HSZ.out sA hwp (by omega) j) HWZ.out
    go_wp2
    go_roundw
    case rel => exact ⟨i + 1,l + n,_,by omega,by go_num,HL2.out,FT,HC3,HS3,B9⟩
    case measure => simp [intOf]; omega
   ·obtain rfl : i = 3 := by omega
    have ht := ht0.below B9
    obtain ⟨lp,RP,FP0,hlp,htop,hco,hsz⟩ := PP0
    have FP := FP0.below B9
    have HTP : Hid (0 < lp → RP (lp - 1) ≠ 0) := htop
    have HEQ : Hid (∀ j,co lp RP j = co l R j) := fun j => by rw [hco j,HCO.out j]
    have BB := BB0.out.trans (B9.mono BB0.out.size)
    have hl25 : l ≤ 25 := by rw [hl]; exact Nat.le_trans (Nat.add_le_add_left (Nat.mul_le_mul_right _ hn6) 1) (by omega)
    have hwz := wz_le 3 (by omega)
    obtain ⟨ap,cp,rfl⟩ := FP.open
    clear hco htop HCO hl
    go_wp2_with fail
    refine (is4_at _ _ lp l RP R 20000 _ FP (FW.q 20000 (fun j hj => Nat.le_trans (HSZ.out j hj) (by omega))) (fun j hj => Nat.le_trans (hsz j hj) (by omega)) ht (by omega) (by omega) (by omega) (by omega) HTP.out HEQ.out).mono ?_
    rintro e w1 ⟨rfl,b1⟩
    replace FW := FW.below b1
    replace ht := ht.below b1
    replace FP := FP.below b1
    replace BB := BB.trans (b1.mono BB.size)
    clear b1
    go_wp2_with fail
    refine (awake4_at _ ht).mono ?_
    rintro e w2 ⟨rfl,b2⟩
    replace FW := FW.below b2
    replace ht := ht.below b2
    replace FP := FP.below b2
    replace BB := BB.trans (b2.mono BB.size)
    clear b2
    go_wp2
    go_ret
    exact ⟨rfl,BB⟩
 ·go_wp2_with fail
  refine (ppow4 _ n q1 _ QA ht hn6).mono ?_
  rintro e w6 ⟨xp,rfl,PP,b6⟩
  replace ht := ht.below b6
  replace QA := QA.below b6
  replace BB := BB.trans (b6.mono BB.size)
  clear b6
  go_wp2_with fail
  refine (qone_at _).mono ?_
  rintro e w7 ⟨x9,rfl,h1,b7⟩
  replace ht := ht.below b7
  replace QA := QA.below b7
  replace PP := PP.below b7
  replace BB := BB.trans (b7.mono BB.size)
  clear b7
  obtain ⟨p1,a1,n1_,c1,b1,m1,d1,rfl⟩ := h1.open
  obtain ⟨W9,hW9,b9,FW⟩ := frow1_lay w7 35 h1
  replace ht := ht.below b9
  replace QA := QA.below b9
  replace PP := PP.below b9
  replace h1 := h1.below b9
  replace BB := BB.trans (b9.mono BB.size)
  clear h1
  go_wp2
  rw [← hW9]
  clear hW9 b9
  generalize w7.heap.size = R9 at *
  have QA0 := QA
  have PP0 := PP
  have ht0 := ht
  have BB0 : Hid (Below w.heap.size w W9) := BB
  clear QA PP ht BB
  go_loopw [9,10] (fun vw vi wr => ∃ (i l : Nat) (R : Nat → Rat),i ≤ 4 ∧ vi = .int .i64 (i : Int) ∧ l = 1 + n * i ∧ FRow wr vw l R ∧ Hid (∀ j,co l R j = cpow (co n q1) i j) ∧ Hid (∀ j,j < l → qsz (R j) ≤ wz i) ∧ Below W9.heap.size W9 wr) (fun _ vi _ => 4 - (intOf vi).toNat)
  case atStart => exact ⟨0,1,_,by omega,rfl,by omega,FW,cone_co 1 rfl,fun j hj => Nat.le_trans (show qsz 1 ≤ 1 by decide +kernel) (by decide),Below.refl _ _⟩
  case round =>
   clear FW
   obtain ⟨i,l,R,hi,rfl,hl,FW,HCO,HSZ,B9⟩ := hrel
   obtain ⟨aw,cw,rfl⟩ := FW.open
   by_cases hlt : i < 4
   ·have hli : (i : Int) < 4 := by omega
    have QA := QA0.below B9
    have ht := ht0.below B9
    have hl25 : l ≤ 25 := by rw [hl]; exact Nat.le_trans (Nat.add_le_add_left (Nat.mul_le_mul hn6 (show i ≤ 4 by omega)) 1) (by omega)
    have hwz := wz_le i (by omega)
    have HL2 : Hid (l + n = 1 + n * (i + 1)) := by rw [Hid,hl,Nat.mul_succ]; omega
    have HWZ : Hid (n * (wz i + 2 + 1) + 1 ≤ wz (i + 1)) := Nat.succ_le_succ (Nat.mul_le_mul_right _ hn6)
    have hwp : 1 ≤ wz i := wz_pos i
    clear hl
    have hE9 : wz (i + 1) + wz i + 2 ≤ 100000 := by have := wz_le (i + 1) (by omega); omega
    go_wp2_with fail
    refine (times4_at _ _ l n R q1 (wz i) 2 (wz (i + 1)) _ (FW.q _ HSZ.out) QA ht (by omega) (by omega) hwp (by omega) HWZ.out hE9).mono ?_
    rintro e w1 ⟨xt,rfl,OT,b1⟩
    replace B9 := B9.trans (b1.mono B9.size)
    have FT := OT.row
    clear OT b1 QA ht FW
    have HC3 : Hid (∀ j,co (l + n) (conv l R n q1) j = cpow (co n q1) (i + 1) j) := fun j => by
     rw [show co (l + n) (conv l R n q1) j = conv l R n q1 j by
      by_cases h : j < l + n
      ·rw [co_lt h]
      ·rw [co_ge h,conv_far _ _ _ _ _ (by omega)]]
     rw [conv_cmul,cmul_congr HCO.out (fun _ => rfl)]; rfl
    have HS3 : Hid (∀ j,j < l + n → qsz (conv l R n q1 j) ≤ wz (i + 1)) := fun j _ => Nat.le_trans (conv_sz2 HSZ.out sA hwp (by omega) j) HWZ.out
    go_wp2
    go_roundw
    case rel => exact ⟨i + 1,l + n,_,by omega,by go_num,HL2.out,FT,HC3,HS3,B9⟩
    case measure => simp [intOf]; omega
   ·obtain rfl : i = 4 := by omega
    have ht := ht0.below B9
    obtain ⟨lp,RP,FP0,hlp,htop,hco,hsz⟩ := PP0
    have FP := FP0.below B9
    have HTP : Hid (0 < lp → RP (lp - 1) ≠ 0) := htop
    have HEQ : Hid (∀ j,co lp RP j = co l R j) := fun j => by rw [hco j,HCO.out j]
    have BB := BB0.out.trans (B9.mono BB0.out.size)
    have hl25 : l ≤ 25 := by rw [hl]; exact Nat.le_trans (Nat.add_le_add_left (Nat.mul_le_mul_right _ hn6) 1) (by omega)
    have hwz := wz_le 4 (by omega)
    obtain ⟨ap,cp,rfl⟩ := FP.open
    clear hco htop HCO hl
    go_wp2_with fail
    refine (is4_at _ _ lp l RP R 20000 _ FP (FW.q 20000 (fun j hj => Nat.le_trans (HSZ.out j hj) (by omega))) (fun j hj => Nat.le_trans (hsz j hj) (by omega)) ht (by omega) (by omega) (by omega) (by omega) HTP.out HEQ.out).mono ?_
    rintro e w1 ⟨rfl,b1⟩
    replace FW := FW.below b1
    replace ht := ht.below b1
    replace FP := FP.below b1
    replace BB := BB.trans (b1.mono BB.size)
    clear b1
    go_wp2_with fail
    refine (awake4_at _ ht).mono ?_
    rintro e w2 ⟨rfl,b2⟩
    replace FW := FW.below b2
    replace ht := ht.below b2
    replace FP := FP.below b2
    replace BB := BB.trans (b2.mono BB.size)
    clear b2
    go_wp2
    go_ret
    exact ⟨rfl,BB⟩

theorem own : ownKnob Tryz.prog.godebug = none := by kernel_rfl
theorem laidOut : laidOutB Tryz.prog = true := by kernel_rfl

abbrev laid1 : List (String × DataW Unit) := [("math/bits.deBruijn64tab",Rows.laid_math_bits_deBruijn64tab)]
theorem gTab : Tryz.prog.globalNamed "math/bits.deBruijn64tab" = some 0 := by kernel_rfl
theorem gTabType : (Tryz.prog.globals[0]?).map (·.type) = some 137 := by kernel_rfl
theorem uTab : Tryz.prog.underlying 137 = some (.array 64 5) := by kernel_rfl
theorem uCell : Tryz.prog.underlying 5 = some (.int .u8) := by kernel_rfl
theorem cCell : Tryz.prog.cellsOf 5 = 1 := by kernel_rfl
theorem cTab : Tryz.prog.cellsOf 137 = 64 := by kernel_rfl
/-- The listed table lies in its cells. -/
theorem tab_of {W : World} (h : laidMetH Tryz.prog laid1 W) : Tab W := by
 rw [MakeChecks.laidMetH_plain _ _ _ (by kernel_rfl)] at h
 have hd : laid1 = [("math/bits.deBruijn64tab",Lib.tabData .u8 (Lib.deBruijn64tab.map fun (n : Nat) => Int.ofNat n))] := rfl
 rw [hd] at h
 have hT := Lib.tabIs_of_head gTab gTabType uTab uCell cCell cTab h
 intro i hi
 have hc := hT.cell gTab i (by rw [List.length_map]; exact hi)
 rw [hc]
 congr 2
 rw [List.getD_eq_getElem?_getD,List.getElem?_map,List.getD_eq_getElem?_getD]
 cases Lib.deBruijn64tab[i]? <;> rfl
/-- A start for the witness: the heap that the run of the program's own initialisers leaves. -/
noncomputable def startW (os : Os) : World := { World.holding Tryz.prog os ⟨#[],#[],[]⟩ with heap := (varsWorld Tryz.prog 400 (varsId Tryz.prog) os (fun _ _ => 0)).heap }
theorem start_met (os : Os) (args : Array Value) : laidMetH Tryz.prog laid1 ((startW os).forCall (fun _ _ => 0) ⟨#[],args,[]⟩).memory :=
 laidMetH_of_parts3 (fuel := 8) (laidMet_of_run' 8 (by kernel_rfl) (by kernel_rfl)) (by kernel_rfl) (by kernel_rfl)

set_option maxRecDepth 100000 in
theorem lifted (os : Os) (started : os.Started) (H : Type) (enc : TypeId × Value → H) :
  ReturnsInHanded {} Tryz.checked os 3 .any (fun w args => (Rows.polyProductsSpec.pre enc Tryz.prog Tryz.f3 [] false w args ∧ laidMetH Tryz.prog laid1 w) ∧ sizedMet enc Tryz.prog Tryz.f3 (OpenSpec.ofChange Rows.polyProductsSpec) false w args) (Rows.polyProductsSpec.post enc Tryz.prog Tryz.f3 false true false false) := by
 refine returnsInHanded_of_change_and (C := Tryz.checked) (X := fun w _ => laidMetH Tryz.prog laid1 w) (fun _ _ _ hh h => h.of_heap hh) own started (by kernel_rfl) Tryz.func3
  (ChangeSpec.witness_shaped (enc := enc) (C := Tryz.checked) (os := os) (X := fun w _ => laidMetH Tryz.prog laid1 w) false (startW os) #[.slice none 0 0,.slice none 0 0,.int .i64 0] 8 rfl (World.shaped_of_RefB (by kernel_rfl) (by kernel_rfl)) (by kernel_rfl) (by kernel_rfl) (by kernel_rfl) (start_met os _)) ?_
 intro W base args ds gs before hval0 hW _ _ hL _
 have hval : ∀ (j : Nat) t v,Tryz.f3.params[j]? = some t → args[j]? = some v → Value.okWide Tryz.prog W .any base t v := hval0
 have hW' := hW
 obtain ⟨p,q,hA0,hV,rfl,hfz,hnd⟩ := hW
 have hA : DataW.TrodAll enc Tryz.prog W 0 (fun _ => true) true Tryz.f3.params.toList args.toList ds p := hA0
 rw [Tryz.params3] at hA hval
 obtain ⟨v0,vs0,d0,ds0,p0,q0,hargs,rfl,rfl,h0,r0⟩ := trodAll_cons hA
 obtain ⟨v1,vs1,d1,ds1,p1,q1,rfl,rfl,rfl,h1,r1⟩ := trodAll_cons r0
 obtain ⟨v2,vs2,d2,ds2,p2,q2,rfl,rfl,rfl,h2,r2⟩ := trodAll_cons r1
 obtain ⟨rfl,rfl,rfl⟩ := trodAll_nil r2
 obtain rfl : args = #[v0,v1,v2] := by cases args; simp_all
 obtain ⟨rfl,rfl⟩ := trodVars_none hV
 have k0 := h0
 have lt0 : ∀ x ∈ p0,x.block < W.heap.size := by obtain ⟨m,hm⟩ := k0; exact DataW.trod_lt m _ _ _ hm
 obtain ⟨n0,z0,w0⟩ := open_wrats KLIST (hval 0 22 v0 rfl rfl) h0
 have k1 := h1
 have lt1 : ∀ x ∈ p1,x.block < W.heap.size := by obtain ⟨m,hm⟩ := k1; exact DataW.trod_lt m _ _ _ hm
 obtain ⟨n1,z1,w1⟩ := open_wrats KLIST (hval 1 22 v1 rfl rfl) h1
 obtain ⟨a2,rfl,rfl,rfl,w2⟩ := open_int Tryz.underlying3 (hval 2 3 v2 rfl rfl) h2
 clear hA0 hval0
 refine (walk _ _ _ _ _ _ a2 W w0 w1 w2 (tab_of hL)).mono fun e W' ⟨he,bel⟩ => ?_
 subst he
 exact ⟨_,rfl,_,_,_,[],_,[],hW',trodAll_mk1 (shut_bool Tryz.underlying4 _),(trodAll_cons_mk (Below.trod laidOut (by kernel_rfl) (of_decide_eq_true (by kernel_rfl)) k0 bel lt0) (trodAll_cons_mk (Below.trod laidOut (by kernel_rfl) (of_decide_eq_true (by kernel_rfl)) k1 bel lt1) (trodAll_cons_mk (shut_int Tryz.underlying3 w2) trodAll_mk0))),rfl,bel.frame _,fun h => by cases h⟩

theorem over : Rows.polyProductsRow.holds Tryz.pinned (OpenSpec.ofChange Rows.polyProductsSpec) :=
 OpenClaim.holds_of_wide 3 Tryz.f3 rfl rfl rfl rfl rfl rfl rfl ⟨rfl,rfl,rfl,rfl,rfl⟩ rfl rfl rfl rfl rfl (by kernel_rfl) Tryz.func3 (by kernel_rfl)
  (of_decide_eq_true (by kernel_rfl)) (by unfold Func.isWrapper; first | (rw [if_pos (by decide +kernel)]; kernel_rfl) | (rw [if_neg (by decide +kernel)]; exact ⟨rfl,rfl⟩))
  (fun os started H enc _ => lifted os started H enc)

end Go.Proofs.YtnbocjbfieklhaaGreatDoor.polyProducts
namespace Go.Proofs.YtnbocjbfieklhaaGreatDoor
/-- The statement: the row, tied to the text of the program. -/
theorem polyProducts_holds : Rows.PolyProductsCardSaid :=
 Claim7.holds_tied_plain_at .later [] [.data] true (true,"bbc665b88dfdf00f59a32d7f70012164447cbec1d4343b32efd05aa9803691dc") false
  polyProducts.over (fun _ h => by cases h) (by kernel_rfl) (fun _ h => by cases h) polyProducts_row_tie rfl ⟨rfl,rfl⟩ (by kernel_rfl) rfl
  (fun f fn hf hfn => by
   obtain rfl : f = 3 := Option.some.inj ((show Tryz.prog.funcNamed "dendron/dendronlaw04.PolyProducts" = some 3 by kernel_rfl).symm.trans hf) |>.symm
   obtain rfl : fn = Tryz.f3 := (Option.some.inj (Tryz.func3.symm.trans hfn)).symm
   exact ⟨by kernel_rfl,fun j t ht => by
    rw [Tryz.params3] at ht
    have hm : t ∈ [22,22,3] := by simpa using Array.mem_of_getElem? ht
    have hall : ([22,22,3].all fun u => !Tryz.prog.wantsStandIn u) = true := by kernel_rfl
    exact (show Tryz.prog.wantsStandIn t = false by simpa using List.all_eq_true.1 hall t hm)⟩)
  (by kernel_rfl)
end Go.Proofs.YtnbocjbfieklhaaGreatDoor
