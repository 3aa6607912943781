/-
 Proves that Pow answers any power from -12 to 12 of any number of up to 2 limbs above and below,and that there is none of 0 below 0 or beyond the limits (the statement RatioPowers,its tied card); the table of math/bits lies as the program's text lays it; no other condition.
-/
import Derived.Test.YthlogenaienkhaaGreatDoorRows
import Derived.Test.YthlogenaienkhaaGreatDoorJ05dc961424
import Derived.Test.YthlogenaienkhaaGreatDoorJe684361814
import Derived.WalkKit
import Derived.ProofKit
import Derived.OpenShut
import Derived.ShutString
import Derived.ChangeOld
import Derived.Below
import Derived.Test.YthlogenaienkhaaGreatDoorTie
import Derived.Test.YthlogenaienkhaaGreatDoorCards
import Derived.LaidByTextLater
import Derived.LaidHandle
import Derived.Lib.LaidTab
import Derived.SevenTiedAt
namespace Go.Proofs.YthlogenaienkhaaGreatDoor.ratioPowers
open Go.ChangeShapes Go.WideShapes Go.ChangeAt Go.RowKit
open Go.ChangeMaps (open_string shut_string)
set_option linter.unusedVariables false
set_option linter.unusedSimpArgs false

set_option linter.unusedSimpArgs false
set_option maxRecDepth 100000 in
set_option maxHeartbeats 16000000 in
theorem walk (p : Bool) (ao0 : Option Addr) (n0 c0 : Nat) (bo0 : Option Addr) (m0 d0 : Nat) (f g : Nat → Int) (k : Int) (w : World) (ha1 : Raw w (.slice ao0 n0 c0) n0 f) (ha2 : Raw w (.slice bo0 m0 d0) m0 g) (wk : (Lit.int .i64 k).wf = true) (ht : Tab w) :
  Calls Tryz.prog 4 #[.agg #[.bool p,.slice ao0 n0 c0,.slice bo0 m0 d0],.int .i64 k] w fun e w' => e = .returned (.bool true) ∧ Below w.heap.size w w' := by
 have hkb := bounds_i64 wk
 clear wk
 have BB : Below w.heap.size w w := Below.refl _ _
 obtain ⟨Wb0,hW0,hS0,hL0,VA⟩ := V3.lay w 35 (.bool p) (.slice ao0 n0 c0) (.slice bo0 m0 d0)
 replace ha1 := ha1.below hL0
 replace ha2 := ha2.below hL0
 replace ht := ht.below hL0
 replace BB := BB.trans (hL0.mono BB.size)
 clear hL0
 go_enter Tryz.func4,Tryz.ntmps4
 go_wp2_with fail
 rw [← hW0]
 clear hW0 hS0
 refine (tiny_at _ _ _ _ _ _ _ _ ha1 ha2).mono ?_
 rintro e w1 ⟨ao,c,bo,d,rfl,u1,u2,u3,u4,b1⟩
 replace ha1 := ha1.below b1
 replace ha2 := ha2.below b1
 replace ht := ht.below b1
 replace VA := VA.below b1
 replace BB := BB.trans (b1.mono BB.size)
 clear b1
 have k1 : min n0 2 ≤ 2 := Nat.min_le_right _ _
 have k2 : min m0 2 ≤ 2 := Nat.min_le_right _ _
 generalize min n0 2 = n at *
 generalize min m0 2 = m at *
 clear ha1 ha2
 by_cases h1 : k < -4096
 ·have c1 : k < -12 := by omega
  have c2 : ¬ -4096 ≤ k := by omega
  have HK : Hid (k < -4096 ∨ 4096 < k) := by show _ ∨ _; omega
  have hKp := VA.keepJ (.bool p) (.slice ao n c) (.slice bo m d)
  have VA_n := VA.same (.bool p) (.slice ao n c) (.slice bo m d)
  have ht_n := ht.keep hKp
  have u1_n := u1.keep hKp
  have u3_n := u3.keep hKp
  have BB_n := below_store3 (R := w.heap.size) BB (by omega) (.bool p) (.slice ao n c) (.slice bo m d)
  clear hKp
  obtain ⟨VA_0,VA_1,VA_2,VA_3,VA_4,VA_5⟩ := id VA
  go_wp2_with fail
  clear VA_0 VA_1 VA_2 VA_3 VA_4 VA_5
  clear BB ht u1 u3 VA
  generalize ((w1.setCell ⟨w.heap.size,0,none⟩ (.bool p)).setCell ⟨w.heap.size,1,none⟩ (.slice ao n c)).setCell ⟨w.heap.size,2,none⟩ (.slice bo m d) = W1 at *
  have BB := BB_n
  have ht := ht_n
  have u1 := u1_n
  have u3 := u3_n
  have VA := VA_n
  clear BB_n ht_n u1_n u3_n VA_n
  have Ix : RatAt W1 _ _ 2 := RatAt.raw (p := p) u1 u2 u3 u4 k1 k2
  clear u1 u3
  generalize mkRat (zof p (num f n)) (num g m) = q at *
  clear k1 k2 u2 u4
  refine (qpow_range _ q 2 _ Ix k HK.out).mono ?_
  rintro e w2 ⟨rfl,b2⟩
  replace ht := ht.below b2
  replace Ix := Ix.below b2
  replace VA := VA.below b2
  replace BB := BB.trans (b2.mono BB.size)
  clear b2
  have hZ2 : w.heap.size ≤ w2.heap.size := BB.size
  have hN2VA : w.heap.size ≠ w2.heap.size := Nat.ne_of_lt VA.lt
  obtain ⟨W2,hW2,hS2,hL2,VP⟩ := V3.lay w2 35 (.bool false) (.slice none 0 0) (.slice none 0 0)
  replace ht := ht.below hL2
  replace Ix := Ix.below hL2
  replace VA := VA.below hL2
  replace BB := BB.trans (hL2.mono BB.size)
  clear hL2
  obtain ⟨VA_0,VA_1,VA_2,VA_3,VA_4,VA_5⟩ := id VA
  rw [hW2] at VA_0 VA_1 VA_2 VA_3 VA_4 VA_5
  go_wp2_with fail
  clear VA_0 VA_1 VA_2 VA_3 VA_4 VA_5
  rw [← hW2]
  generalize w2.heap.size = R2 at *
  clear hW2 hS2
  refine (jfrom_at _ q 2 _ Ix (by omega) (by omega)).mono ?_
  rintro e w3 ⟨vx,rfl,Jx,b3⟩
  replace ht := ht.below b3
  replace Ix := Ix.below b3
  replace VA := VA.below b3
  replace VP := VP.below b3
  replace BB := BB.trans (b3.mono BB.size)
  clear b3
  obtain ⟨px,ax,nx,cx,bx,mx,dx,rfl⟩ := Jx.open
  have hZ3 : w.heap.size ≤ w3.heap.size := BB.size
  have hN3VA : w.heap.size ≠ w3.heap.size := Nat.ne_of_lt VA.lt
  have hN3VP : R2 ≠ w3.heap.size := Nat.ne_of_lt VP.lt
  obtain ⟨W3,hW3,hS3,hL3,VX⟩ := V3.lay w3 28 (.bool px) (.slice ax nx cx) (.slice bx mx dx)
  replace ht := ht.below hL3
  replace Ix := Ix.below hL3
  replace Jx := Jx.below hL3
  replace VA := VA.below hL3
  replace VP := VP.below hL3
  replace BB := BB.trans (hL3.mono BB.size)
  clear hL3
  obtain ⟨VP_0,VP_1,VP_2,VP_3,VP_4,VP_5⟩ := id VP
  rw [hW3] at VP_0 VP_1 VP_2 VP_3 VP_4 VP_5
  go_wp2_with fail
  clear VP_0 VP_1 VP_2 VP_3 VP_4 VP_5
  rw [← hW3]
  generalize w3.heap.size = R3 at *
  clear hW3 hS3
  refine (none_at _).mono ?_
  rintro e w4 ⟨rfl,b4⟩
  replace ht := ht.below b4
  replace Ix := Ix.below b4
  replace Jx := Jx.below b4
  replace VA := VA.below b4
  replace VP := VP.below b4
  replace VX := VX.below b4
  replace BB := BB.trans (b4.mono BB.size)
  clear b4
  go_wp2_with fail
  refine (qawake_at _ ht).mono ?_
  rintro e w5 ⟨rfl,b5⟩
  replace ht := ht.below b5
  replace Ix := Ix.below b5
  replace Jx := Jx.below b5
  replace VA := VA.below b5
  replace VP := VP.below b5
  replace VX := VX.below b5
  replace BB := BB.trans (b5.mono BB.size)
  clear b5
  go_wp2
  go_ret
  exact ⟨rfl,BB⟩
 by_cases h2 : 4096 < k
 ·have c1 : ¬ k < -12 := by omega
  have c2 : 12 < k := by omega
  have c3 : -4096 ≤ k := by omega
  have c4 : ¬ k ≤ 4096 := by omega
  have HK : Hid (k < -4096 ∨ 4096 < k) := by show _ ∨ _; omega
  have hKp := VA.keepJ (.bool p) (.slice ao n c) (.slice bo m d)
  have VA_n := VA.same (.bool p) (.slice ao n c) (.slice bo m d)
  have ht_n := ht.keep hKp
  have u1_n := u1.keep hKp
  have u3_n := u3.keep hKp
  have BB_n := below_store3 (R := w.heap.size) BB (by omega) (.bool p) (.slice ao n c) (.slice bo m d)
  clear hKp
  obtain ⟨VA_0,VA_1,VA_2,VA_3,VA_4,VA_5⟩ := id VA
  go_wp2_with fail
  clear VA_0 VA_1 VA_2 VA_3 VA_4 VA_5
  clear BB ht u1 u3 VA
  generalize ((w1.setCell ⟨w.heap.size,0,none⟩ (.bool p)).setCell ⟨w.heap.size,1,none⟩ (.slice ao n c)).setCell ⟨w.heap.size,2,none⟩ (.slice bo m d) = W1 at *
  have BB := BB_n
  have ht := ht_n
  have u1 := u1_n
  have u3 := u3_n
  have VA := VA_n
  clear BB_n ht_n u1_n u3_n VA_n
  have Ix : RatAt W1 _ _ 2 := RatAt.raw (p := p) u1 u2 u3 u4 k1 k2
  clear u1 u3
  generalize mkRat (zof p (num f n)) (num g m) = q at *
  clear k1 k2 u2 u4
  refine (qpow_range _ q 2 _ Ix k HK.out).mono ?_
  rintro e w2 ⟨rfl,b2⟩
  replace ht := ht.below b2
  replace Ix := Ix.below b2
  replace VA := VA.below b2
  replace BB := BB.trans (b2.mono BB.size)
  clear b2
  have hZ2 : w.heap.size ≤ w2.heap.size := BB.size
  have hN2VA : w.heap.size ≠ w2.heap.size := Nat.ne_of_lt VA.lt
  obtain ⟨W2,hW2,hS2,hL2,VP⟩ := V3.lay w2 35 (.bool false) (.slice none 0 0) (.slice none 0 0)
  replace ht := ht.below hL2
  replace Ix := Ix.below hL2
  replace VA := VA.below hL2
  replace BB := BB.trans (hL2.mono BB.size)
  clear hL2
  obtain ⟨VA_0,VA_1,VA_2,VA_3,VA_4,VA_5⟩ := id VA
  rw [hW2] at VA_0 VA_1 VA_2 VA_3 VA_4 VA_5
  go_wp2_with fail
  clear VA_0 VA_1 VA_2 VA_3 VA_4 VA_5
  rw [← hW2]
  generalize w2.heap.size = R2 at *
  clear hW2 hS2
  refine (jfrom_at _ q 2 _ Ix (by omega) (by omega)).mono ?_
  rintro e w3 ⟨vx,rfl,Jx,b3⟩
  replace ht := ht.below b3
  replace Ix := Ix.below b3
  replace VA := VA.below b3
  replace VP := VP.below b3
  replace BB := BB.trans (b3.mono BB.size)
  clear b3
  obtain ⟨px,ax,nx,cx,bx,mx,dx,rfl⟩ := Jx.open
  have hZ3 : w.heap.size ≤ w3.heap.size := BB.size
  have hN3VA : w.heap.size ≠ w3.heap.size := Nat.ne_of_lt VA.lt
  have hN3VP : R2 ≠ w3.heap.size := Nat.ne_of_lt VP.lt
  obtain ⟨W3,hW3,hS3,hL3,VX⟩ := V3.lay w3 28 (.bool px) (.slice ax nx cx) (.slice bx mx dx)
  replace ht := ht.below hL3
  replace Ix := Ix.below hL3
  replace Jx := Jx.below hL3
  replace VA := VA.below hL3
  replace VP := VP.below hL3
  replace BB := BB.trans (hL3.mono BB.size)
  clear hL3
  obtain ⟨VP_0,VP_1,VP_2,VP_3,VP_4,VP_5⟩ := id VP
  rw [hW3] at VP_0 VP_1 VP_2 VP_3 VP_4 VP_5
  go_wp2_with fail
  clear VP_0 VP_1 VP_2 VP_3 VP_4 VP_5
  rw [← hW3]
  generalize w3.heap.size = R3 at *
  clear hW3 hS3
  refine (none_at _).mono ?_
  rintro e w4 ⟨rfl,b4⟩
  replace ht := ht.below b4
  replace Ix := Ix.below b4
  replace Jx := Jx.below b4
  replace VA := VA.below b4
  replace VP := VP.below b4
  replace VX := VX.below b4
  replace BB := BB.trans (b4.mono BB.size)
  clear b4
  go_wp2_with fail
  refine (qawake_at _ ht).mono ?_
  rintro e w5 ⟨rfl,b5⟩
  replace ht := ht.below b5
  replace Ix := Ix.below b5
  replace Jx := Jx.below b5
  replace VA := VA.below b5
  replace VP := VP.below b5
  replace VX := VX.below b5
  replace BB := BB.trans (b5.mono BB.size)
  clear b5
  go_wp2
  go_ret
  exact ⟨rfl,BB⟩
 by_cases h3 : k < -12
 ·have c3 : -4096 ≤ k := by omega
  have c4 : k ≤ 4096 := by omega
  have hKp := VA.keepJ (.bool p) (.slice ao n c) (.slice bo m d)
  have VA_n := VA.same (.bool p) (.slice ao n c) (.slice bo m d)
  have ht_n := ht.keep hKp
  have u1_n := u1.keep hKp
  have u3_n := u3.keep hKp
  have BB_n := below_store3 (R := w.heap.size) BB (by omega) (.bool p) (.slice ao n c) (.slice bo m d)
  clear hKp
  obtain ⟨VA_0,VA_1,VA_2,VA_3,VA_4,VA_5⟩ := id VA
  go_wp2_with fail
  clear VA_0 VA_1 VA_2 VA_3 VA_4 VA_5
  clear BB ht u1 u3 VA
  generalize ((w1.setCell ⟨w.heap.size,0,none⟩ (.bool p)).setCell ⟨w.heap.size,1,none⟩ (.slice ao n c)).setCell ⟨w.heap.size,2,none⟩ (.slice bo m d) = W1 at *
  have BB := BB_n
  have ht := ht_n
  have u1 := u1_n
  have u3 := u3_n
  have VA := VA_n
  clear BB_n ht_n u1_n u3_n VA_n
  have Ix : RatAt W1 _ _ 2 := RatAt.raw (p := p) u1 u2 u3 u4 k1 k2
  clear u1 u3
  generalize mkRat (zof p (num f n)) (num g m) = q at *
  clear k1 k2 u2 u4
  refine (qawake_at _ ht).mono ?_
  rintro e w2 ⟨rfl,b2⟩
  replace ht := ht.below b2
  replace Ix := Ix.below b2
  replace VA := VA.below b2
  replace BB := BB.trans (b2.mono BB.size)
  clear b2
  go_wp2
  go_ret
  exact ⟨rfl,BB⟩
 by_cases h4 : 12 < k
 ·have c3 : -4096 ≤ k := by omega
  have c4 : k ≤ 4096 := by omega
  have hKp := VA.keepJ (.bool p) (.slice ao n c) (.slice bo m d)
  have VA_n := VA.same (.bool p) (.slice ao n c) (.slice bo m d)
  have ht_n := ht.keep hKp
  have u1_n := u1.keep hKp
  have u3_n := u3.keep hKp
  have BB_n := below_store3 (R := w.heap.size) BB (by omega) (.bool p) (.slice ao n c) (.slice bo m d)
  clear hKp
  obtain ⟨VA_0,VA_1,VA_2,VA_3,VA_4,VA_5⟩ := id VA
  go_wp2_with fail
  clear VA_0 VA_1 VA_2 VA_3 VA_4 VA_5
  clear BB ht u1 u3 VA
  generalize ((w1.setCell ⟨w.heap.size,0,none⟩ (.bool p)).setCell ⟨w.heap.size,1,none⟩ (.slice ao n c)).setCell ⟨w.heap.size,2,none⟩ (.slice bo m d) = W1 at *
  have BB := BB_n
  have ht := ht_n
  have u1 := u1_n
  have u3 := u3_n
  have VA := VA_n
  clear BB_n ht_n u1_n u3_n VA_n
  have Ix : RatAt W1 _ _ 2 := RatAt.raw (p := p) u1 u2 u3 u4 k1 k2
  clear u1 u3
  generalize mkRat (zof p (num f n)) (num g m) = q at *
  clear k1 k2 u2 u4
  refine (qawake_at _ ht).mono ?_
  rintro e w2 ⟨rfl,b2⟩
  replace ht := ht.below b2
  replace Ix := Ix.below b2
  replace VA := VA.below b2
  replace BB := BB.trans (b2.mono BB.size)
  clear b2
  go_wp2
  go_ret
  exact ⟨rfl,BB⟩
 by_cases h5 : k < 0
 ·obtain ⟨j,hj⟩ : ∃ j : Nat,k = -(j : Int) := ⟨k.natAbs,by omega⟩
  have HJ : Hid (k = -(j : Int)) := hj
  have hj0 : 0 < j := by omega
  have hj12 : j ≤ 12 := by omega
  have c1 : ¬ k < -12 := by omega
  have c2 : ¬ (12 : Int) < k := by omega
  have c3 : ¬ k < -4096 := by omega
  have c4 : ¬ (4096 : Int) < k := by omega
  have c5 : k < 0 := by omega
  have hk1 : (0 : Int) - k = (j : Int) := by omega
  have hk2 : -k = (j : Int) := by omega
  clear hj
  have hKp := VA.keepJ (.bool p) (.slice ao n c) (.slice bo m d)
  have VA_n := VA.same (.bool p) (.slice ao n c) (.slice bo m d)
  have ht_n := ht.keep hKp
  have u1_n := u1.keep hKp
  have u3_n := u3.keep hKp
  have BB_n := below_store3 (R := w.heap.size) BB (by omega) (.bool p) (.slice ao n c) (.slice bo m d)
  clear hKp
  obtain ⟨VA_0,VA_1,VA_2,VA_3,VA_4,VA_5⟩ := id VA
  go_wp2_with fail
  clear VA_0 VA_1 VA_2 VA_3 VA_4 VA_5
  clear BB ht u1 u3 VA
  generalize ((w1.setCell ⟨w.heap.size,0,none⟩ (.bool p)).setCell ⟨w.heap.size,1,none⟩ (.slice ao n c)).setCell ⟨w.heap.size,2,none⟩ (.slice bo m d) = W1 at *
  have BB := BB_n
  have ht := ht_n
  have u1 := u1_n
  have u3 := u3_n
  have VA := VA_n
  clear BB_n ht_n u1_n u3_n VA_n
  have Ix : RatAt W1 _ _ 2 := RatAt.raw (p := p) u1 u2 u3 u4 k1 k2
  clear u1 u3
  generalize mkRat (zof p (num f n)) (num g m) = q at *
  clear k1 k2 u2 u4
  have sq := Ix.qsz (by omega)
  by_cases h0 : q = 0
  ·refine (qpow_zero2 _ q 2 _ Ix (by omega) (by omega) ht k j HJ.out (by omega) hj0 h0).mono ?_
   rintro e w2 ⟨rfl,b2⟩
   replace ht := ht.below b2
   replace Ix := Ix.below b2
   replace VA := VA.below b2
   replace BB := BB.trans (b2.mono BB.size)
   clear b2
   have hZ2 : w.heap.size ≤ w2.heap.size := BB.size
   have hN2VA : w.heap.size ≠ w2.heap.size := Nat.ne_of_lt VA.lt
   obtain ⟨W2,hW2,hS2,hL2,VP⟩ := V3.lay w2 35 (.bool false) (.slice none 0 0) (.slice none 0 0)
   replace ht := ht.below hL2
   replace Ix := Ix.below hL2
   replace VA := VA.below hL2
   replace BB := BB.trans (hL2.mono BB.size)
   clear hL2
   obtain ⟨VA_0,VA_1,VA_2,VA_3,VA_4,VA_5⟩ := id VA
   rw [hW2] at VA_0 VA_1 VA_2 VA_3 VA_4 VA_5
   go_wp2_with fail
   clear VA_0 VA_1 VA_2 VA_3 VA_4 VA_5
   rw [← hW2]
   generalize w2.heap.size = R2 at *
   clear hW2 hS2
   refine (jfrom_at _ q 2 _ Ix (by omega) (by omega)).mono ?_
   rintro e w3 ⟨vx,rfl,Jx,b3⟩
   replace ht := ht.below b3
   replace Ix := Ix.below b3
   replace VA := VA.below b3
   replace VP := VP.below b3
   replace BB := BB.trans (b3.mono BB.size)
   clear b3
   obtain ⟨px,ax,nx,cx,bx,mx,dx,rfl⟩ := Jx.open
   obtain rfl : nx = 0 := (doc_len Jx).2 h0
   clear h0
   have hZ3 : w.heap.size ≤ w3.heap.size := BB.size
   have hN3VA : w.heap.size ≠ w3.heap.size := Nat.ne_of_lt VA.lt
   have hN3VP : R2 ≠ w3.heap.size := Nat.ne_of_lt VP.lt
   obtain ⟨W3,hW3,hS3,hL3,VX⟩ := V3.lay w3 28 (.bool px) (.slice ax 0 cx) (.slice bx mx dx)
   replace ht := ht.below hL3
   replace Ix := Ix.below hL3
   replace Jx := Jx.below hL3
   replace VA := VA.below hL3
   replace VP := VP.below hL3
   replace BB := BB.trans (hL3.mono BB.size)
   clear hL3
   obtain ⟨VP_0,VP_1,VP_2,VP_3,VP_4,VP_5⟩ := id VP
   rw [hW3] at VP_0 VP_1 VP_2 VP_3 VP_4 VP_5
   go_wp2_with fail
   clear VP_0 VP_1 VP_2 VP_3 VP_4 VP_5
   rw [← hW3]
   generalize w3.heap.size = R3 at *
   clear hW3 hS3
   refine (none_at _).mono ?_
   rintro e w4 ⟨rfl,b4⟩
   replace ht := ht.below b4
   replace Ix := Ix.below b4
   replace Jx := Jx.below b4
   replace VA := VA.below b4
   replace VP := VP.below b4
   replace VX := VX.below b4
   replace BB := BB.trans (b4.mono BB.size)
   clear b4
   go_wp2_with fail
   refine (qawake_at _ ht).mono ?_
   rintro e w5 ⟨rfl,b5⟩
   replace ht := ht.below b5
   replace Ix := Ix.below b5
   replace Jx := Jx.below b5
   replace VA := VA.below b5
   replace VP := VP.below b5
   replace VX := VX.below b5
   replace BB := BB.trans (b5.mono BB.size)
   clear b5
   go_wp2
   go_ret
   exact ⟨rfl,BB⟩
  ·refine (qpow_inv2 _ q 2 _ Ix (by omega) (by omega) ht k j HJ.out (by omega) hj0 h0).mono ?_
   rintro e w22 ⟨vp,rfl,Hp,b22⟩
   replace ht := ht.below b22
   replace Ix := Ix.below b22
   replace VA := VA.below b22
   replace BB := BB.trans (b22.mono BB.size)
   clear b22
   obtain ⟨pp,ap,np,cp,bp,mp,dp,rfl⟩ := Hp.open
   have hZ22 : w.heap.size ≤ w22.heap.size := BB.size
   have hN22VA : w.heap.size ≠ w22.heap.size := Nat.ne_of_lt VA.lt
   obtain ⟨W22,hW22,hS22,hL22,VP⟩ := V3.lay w22 35 (.bool pp) (.slice ap np cp) (.slice bp mp dp)
   replace ht := ht.below hL22
   replace Ix := Ix.below hL22
   replace Hp := Hp.below hL22
   replace VA := VA.below hL22
   replace BB := BB.trans (hL22.mono BB.size)
   clear hL22
   obtain ⟨VA_0,VA_1,VA_2,VA_3,VA_4,VA_5⟩ := id VA
   rw [hW22] at VA_0 VA_1 VA_2 VA_3 VA_4 VA_5
   go_wp2_with fail
   clear VA_0 VA_1 VA_2 VA_3 VA_4 VA_5
   rw [← hW22]
   generalize w22.heap.size = R22 at *
   clear hW22 hS22
   refine (jfrom_at _ q 2 _ Ix (by omega) (by omega)).mono ?_
   rintro e w23 ⟨vx,rfl,Jy,b23⟩
   replace ht := ht.below b23
   replace Ix := Ix.below b23
   replace Hp := Hp.below b23
   replace VA := VA.below b23
   replace VP := VP.below b23
   replace BB := BB.trans (b23.mono BB.size)
   clear b23
   obtain ⟨px,ax,nx,cx,bx,mx,dx,rfl⟩ := Jy.open
   have hnx : ((nx : Int) == 0) = false := by
    have : ¬ nx = 0 := fun e => h0 ((doc_len Jy).1 e)
    simp; omega
   have H0 : Hid (q ≠ 0) := h0
   clear h0
   have hZ23 : w.heap.size ≤ w23.heap.size := BB.size
   have hN23VA : w.heap.size ≠ w23.heap.size := Nat.ne_of_lt VA.lt
   have hN23VP : R22 ≠ w23.heap.size := Nat.ne_of_lt VP.lt
   obtain ⟨W23,hW23,hS23,hL23,VX⟩ := V3.lay w23 28 (.bool px) (.slice ax nx cx) (.slice bx mx dx)
   replace ht := ht.below hL23
   replace Ix := Ix.below hL23
   replace Hp := Hp.below hL23
   replace Jy := Jy.below hL23
   replace VA := VA.below hL23
   replace VP := VP.below hL23
   replace BB := BB.trans (hL23.mono BB.size)
   clear hL23
   go_wp2_with fail
   rw [← hW23]
   generalize w23.heap.size = R23 at *
   clear hW23 hS23
   refine (jinverse_at _ q 2 _ Jy (by omega) H0.out).mono ?_
   rintro e w24 ⟨vi,rfl,Jx,b24⟩
   replace ht := ht.below b24
   replace Ix := Ix.below b24
   replace Hp := Hp.below b24
   replace Jy := Jy.below b24
   replace VA := VA.below b24
   replace VP := VP.below b24
   replace VX := VX.below b24
   replace BB := BB.trans (b24.mono BB.size)
   clear b24
   obtain ⟨pi,ai,ni,ci,bi,mi,di,rfl⟩ := Jx.open
   clear Jy
   have hKp := VX.keepJ (.bool pi) (.slice ai ni ci) (.slice bi mi di)
   have VA_n := VA.other3 (R := R23) (by omega) (.bool pi) (.slice ai ni ci) (.slice bi mi di)
   have VP_n := VP.other3 (R := R23) (by omega) (.bool pi) (.slice ai ni ci) (.slice bi mi di)
   have VX_n := VX.same (.bool pi) (.slice ai ni ci) (.slice bi mi di)
   have ht_n := ht.keep hKp
   have Ix_n := Ix.keep hKp
   have Hp_n := Hp.keep hKp
   have Jx_n := Jx.keep hKp
   have BB_n := below_store3 (R := R23) BB (by omega) (.bool pi) (.slice ai ni ci) (.slice bi mi di)
   clear hKp
   obtain ⟨VX_0,VX_1,VX_2,VX_3,VX_4,VX_5⟩ := id VX
   go_wp2_with fail
   clear VX_0 VX_1 VX_2 VX_3 VX_4 VX_5
   clear BB ht Ix Hp Jx VA VP VX
   generalize ((w24.setCell ⟨R23,0,none⟩ (.bool pi)).setCell ⟨R23,1,none⟩ (.slice ai ni ci)).setCell ⟨R23,2,none⟩ (.slice bi mi di) = W24 at *
   have BB := BB_n
   have ht := ht_n
   have Ix := Ix_n
   have Hp := Hp_n
   have Jx := Jx_n
   have VA := VA_n
   have VP := VP_n
   have VX := VX_n
   clear BB_n ht_n Ix_n Hp_n Jx_n VA_n VP_n VX_n
   replace sq := qsz_inv q sq
   refine (jsmall_at 1 1 _ (by omega) (by omega) (by omega) (by omega)).mono ?_
   rintro e w25 ⟨vw,rfl,Jw,b25⟩
   replace ht := ht.below b25
   replace Ix := Ix.below b25
   replace Hp := Hp.below b25
   replace Jx := Jx.below b25
   replace VA := VA.below b25
   replace VP := VP.below b25
   replace VX := VX.below b25
   replace BB := BB.trans (b25.mono BB.size)
   clear b25
   obtain ⟨pw,aw,nw,cw,bw,mw,dw,rfl⟩ := Jw.open
   have hZ25 : w.heap.size ≤ w25.heap.size := BB.size
   have hN25VA : w.heap.size ≠ w25.heap.size := Nat.ne_of_lt VA.lt
   have hN25VP : R22 ≠ w25.heap.size := Nat.ne_of_lt VP.lt
   have hN25VX : R23 ≠ w25.heap.size := Nat.ne_of_lt VX.lt
   obtain ⟨W25,hW25,hS25,hL25,VW⟩ := V3.lay w25 28 (.bool pw) (.slice aw nw cw) (.slice bw mw dw)
   replace ht := ht.below hL25
   replace Ix := Ix.below hL25
   replace Hp := Hp.below hL25
   replace Jx := Jx.below hL25
   replace Jw := Jw.below hL25
   replace VA := VA.below hL25
   replace VP := VP.below hL25
   replace VX := VX.below hL25
   replace BB := BB.trans (hL25.mono BB.size)
   clear hL25
   go_wp2
   rw [← hW25]
   generalize w25.heap.size = R25 at *
   clear hW25 hS25
   have h10 : Hid (mkRat 1 1 = q⁻¹ ^ 0) := by show mkRat 1 1 = q⁻¹ ^ 0; rw [Rat.pow_zero]; decide +kernel
   clear Ix
   clear VA
   go_loopw [9] (fun vi wr => ∃ (i : Nat) (p9 : Bool) (a9 : Option Addr) (n9 c9 : Nat) (b9 : Option Addr) (m9 d9 : Nat),i ≤ j ∧ vi = .int .i64 (i : Int) ∧ V3 wr R25 (.bool p9) (.slice a9 n9 c9) (.slice b9 m9 d9) ∧ DocQ wr (.agg #[.bool p9,.slice a9 n9 c9,.slice b9 m9 d9]) (q⁻¹ ^ i) (2 + 2 * i) ∧ V3 wr R22 (.bool pp) (.slice ap np cp) (.slice bp mp dp) ∧ V3 wr R23 (.bool pi) (.slice ai ni ci) (.slice bi mi di) ∧ Tab wr ∧ RepQ wr (.agg #[.bool pp,.slice ap np cp,.slice bp mp dp]) (q⁻¹ ^ j) ∧ DocQ wr (.agg #[.bool pi,.slice ai ni ci,.slice bi mi di]) q⁻¹ 2 ∧ Below w.heap.size w wr) (fun vi _ => (13 - intOf vi).toNat)
   case atStart => exact ⟨0,pw,aw,nw,cw,bw,mw,dw,by omega,rfl,VW,by rw [← h10.out]; exact Jw,VP,VX,ht,Hp,Jx,BB⟩
   case round =>
    clear Jw VW ht Hp Jx BB VP VX
    obtain ⟨i,p9,a9,n9,c9,b9,m9,d9,hij,rfl,VW,Jw,VP,VX,ht,Hp,Jx,BB⟩ := hrel
    by_cases hlt : i < j
    ·have c1 : (i : Int) < (j : Int) := by omega
     obtain ⟨VW_0,VW_1,VW_2,VW_3,VW_4,VW_5⟩ := id VW
     obtain ⟨VX_0,VX_1,VX_2,VX_3,VX_4,VX_5⟩ := id VX
     go_wp2_with fail
     clear VW_0 VW_1 VW_2 VW_3 VW_4 VW_5 VX_0 VX_1 VX_2 VX_3 VX_4 VX_5
     refine (jtimes_at _ _ (q⁻¹ ^ i) q⁻¹ (2 + 2 * i) 2 _ Jw Jx (by omega)).mono ?_
     rintro e w26 ⟨vn,rfl,Jn,b26⟩
     replace ht := ht.below b26
     replace Hp := Hp.below b26
     replace Jx := Jx.below b26
     replace Jw := Jw.below b26
     replace VP := VP.below b26
     replace VX := VX.below b26
     replace VW := VW.below b26
     replace BB := BB.trans (b26.mono BB.size)
     clear b26
     obtain ⟨pn,an,nn,cn,bn,mn,dn,rfl⟩ := Jn.open
     rw [← Rat.pow_succ] at Jn
     have hKp := VW.keepJ (.bool pn) (.slice an nn cn) (.slice bn mn dn)
     have VP_n := VP.other3 (R := R25) (by omega) (.bool pn) (.slice an nn cn) (.slice bn mn dn)
     have VX_n := VX.other3 (R := R25) (by omega) (.bool pn) (.slice an nn cn) (.slice bn mn dn)
     have VW_n := VW.same (.bool pn) (.slice an nn cn) (.slice bn mn dn)
     have ht_n := ht.keep hKp
     have Hp_n := Hp.keep hKp
     have Jx_n := Jx.keep hKp
     have Jw_n := Jw.keep hKp
     have Jn_n := Jn.keep hKp
     have BB_n := below_store3 (R := R25) BB (by omega) (.bool pn) (.slice an nn cn) (.slice bn mn dn)
     clear hKp
     obtain ⟨VW_0,VW_1,VW_2,VW_3,VW_4,VW_5⟩ := id VW
     go_wp2
     clear VW_0 VW_1 VW_2 VW_3 VW_4 VW_5
     clear BB ht Hp Jx Jw Jn VP VX VW
     generalize ((w26.setCell ⟨R25,0,none⟩ (.bool pn)).setCell ⟨R25,1,none⟩ (.slice an nn cn)).setCell ⟨R25,2,none⟩ (.slice bn mn dn) = W26 at *
     have BB := BB_n
     have ht := ht_n
     have Hp := Hp_n
     have Jx := Jx_n
     have Jw := Jw_n
     have Jn := Jn_n
     have VP := VP_n
     have VX := VX_n
     have VW := VW_n
     clear BB_n ht_n Hp_n Jx_n Jw_n Jn_n VP_n VX_n VW_n
     go_roundw
     case rel => exact ⟨i + 1,pn,an,nn,cn,bn,mn,dn,by omega,by go_num,VW,Jn.le (by omega),VP,VX,ht,Hp,Jx,BB⟩
     case measure => simp [intOf]; omega
    ·obtain rfl : i = j := by omega
     obtain ⟨VW_0,VW_1,VW_2,VW_3,VW_4,VW_5⟩ := id VW
     obtain ⟨VP_0,VP_1,VP_2,VP_3,VP_4,VP_5⟩ := id VP
     go_wp2_with fail
     clear VW_0 VW_1 VW_2 VW_3 VW_4 VW_5 VP_0 VP_1 VP_2 VP_3 VP_4 VP_5
     refine (jis_at _ _ (q⁻¹ ^ i) 25 26 _ Hp (Nat.le_trans (qsz_pow q⁻¹ 2 (by omega) sq i) (by omega)) (Jw.le (by omega)) (by omega)).mono ?_
     rintro e w56 ⟨rfl,b56⟩
     replace ht := ht.below b56
     replace Hp := Hp.below b56
     replace Jx := Jx.below b56
     replace Jw := Jw.below b56
     replace VP := VP.below b56
     replace VX := VX.below b56
     replace VW := VW.below b56
     replace BB := BB.trans (b56.mono BB.size)
     clear b56
     go_wp2_with fail
     refine (qawake_at _ ht).mono ?_
     rintro e w57 ⟨rfl,b57⟩
     replace ht := ht.below b57
     replace Hp := Hp.below b57
     replace Jx := Jx.below b57
     replace Jw := Jw.below b57
     replace VP := VP.below b57
     replace VX := VX.below b57
     replace VW := VW.below b57
     replace BB := BB.trans (b57.mono BB.size)
     clear b57
     go_wp2
     go_ret
     exact ⟨rfl,BB⟩
 ·obtain ⟨j,rfl⟩ : ∃ j : Nat,k = (j : Int) := ⟨k.toNat,by omega⟩
  have c1 : ¬ (j : Int) < -12 := by omega
  have c2 : ¬ (12 : Int) < (j : Int) := by omega
  have c3 : ¬ (j : Int) < -4096 := by omega
  have c4 : ¬ (4096 : Int) < (j : Int) := by omega
  have c5 : ¬ (j : Int) < 0 := by omega
  have hj : j ≤ 12 := by omega
  have hKp := VA.keepJ (.bool p) (.slice ao n c) (.slice bo m d)
  have VA_n := VA.same (.bool p) (.slice ao n c) (.slice bo m d)
  have ht_n := ht.keep hKp
  have u1_n := u1.keep hKp
  have u3_n := u3.keep hKp
  have BB_n := below_store3 (R := w.heap.size) BB (by omega) (.bool p) (.slice ao n c) (.slice bo m d)
  clear hKp
  obtain ⟨VA_0,VA_1,VA_2,VA_3,VA_4,VA_5⟩ := id VA
  go_wp2_with fail
  clear VA_0 VA_1 VA_2 VA_3 VA_4 VA_5
  clear BB ht u1 u3 VA
  generalize ((w1.setCell ⟨w.heap.size,0,none⟩ (.bool p)).setCell ⟨w.heap.size,1,none⟩ (.slice ao n c)).setCell ⟨w.heap.size,2,none⟩ (.slice bo m d) = W1 at *
  have BB := BB_n
  have ht := ht_n
  have u1 := u1_n
  have u3 := u3_n
  have VA := VA_n
  clear BB_n ht_n u1_n u3_n VA_n
  have Ix : RatAt W1 _ _ 2 := RatAt.raw (p := p) u1 u2 u3 u4 k1 k2
  clear u1 u3
  generalize mkRat (zof p (num f n)) (num g m) = q at *
  clear k1 k2 u2 u4
  have sq := Ix.qsz (by omega)
  refine (qpow_at _ q 2 _ Ix (by omega) (by omega) ht j (by omega)).mono ?_
  rintro e w2 ⟨vp,rfl,Hp,b2⟩
  replace ht := ht.below b2
  replace Ix := Ix.below b2
  replace VA := VA.below b2
  replace BB := BB.trans (b2.mono BB.size)
  clear b2
  obtain ⟨pp,ap,np,cp,bp,mp,dp,rfl⟩ := Hp.open
  have hZ2 : w.heap.size ≤ w2.heap.size := BB.size
  have hN2VA : w.heap.size ≠ w2.heap.size := Nat.ne_of_lt VA.lt
  obtain ⟨W2,hW2,hS2,hL2,VP⟩ := V3.lay w2 35 (.bool pp) (.slice ap np cp) (.slice bp mp dp)
  replace ht := ht.below hL2
  replace Ix := Ix.below hL2
  replace Hp := Hp.below hL2
  replace VA := VA.below hL2
  replace BB := BB.trans (hL2.mono BB.size)
  clear hL2
  obtain ⟨VA_0,VA_1,VA_2,VA_3,VA_4,VA_5⟩ := id VA
  rw [hW2] at VA_0 VA_1 VA_2 VA_3 VA_4 VA_5
  go_wp2_with fail
  clear VA_0 VA_1 VA_2 VA_3 VA_4 VA_5
  rw [← hW2]
  generalize w2.heap.size = R2 at *
  clear hW2 hS2
  refine (jfrom_at _ q 2 _ Ix (by omega) (by omega)).mono ?_
  rintro e w3 ⟨vx,rfl,Jx,b3⟩
  replace ht := ht.below b3
  replace Ix := Ix.below b3
  replace Hp := Hp.below b3
  replace VA := VA.below b3
  replace VP := VP.below b3
  replace BB := BB.trans (b3.mono BB.size)
  clear b3
  obtain ⟨px,ax,nx,cx,bx,mx,dx,rfl⟩ := Jx.open
  have hZ3 : w.heap.size ≤ w3.heap.size := BB.size
  have hN3VA : w.heap.size ≠ w3.heap.size := Nat.ne_of_lt VA.lt
  have hN3VP : R2 ≠ w3.heap.size := Nat.ne_of_lt VP.lt
  obtain ⟨W3,hW3,hS3,hL3,VX⟩ := V3.lay w3 28 (.bool px) (.slice ax nx cx) (.slice bx mx dx)
  replace ht := ht.below hL3
  replace Ix := Ix.below hL3
  replace Hp := Hp.below hL3
  replace Jx := Jx.below hL3
  replace VA := VA.below hL3
  replace VP := VP.below hL3
  replace BB := BB.trans (hL3.mono BB.size)
  clear hL3
  go_wp2_with fail
  rw [← hW3]
  generalize w3.heap.size = R3 at *
  clear hW3 hS3
  refine (jsmall_at 1 1 _ (by omega) (by omega) (by omega) (by omega)).mono ?_
  rintro e w4 ⟨vw,rfl,Jw,b4⟩
  replace ht := ht.below b4
  replace Ix := Ix.below b4
  replace Hp := Hp.below b4
  replace Jx := Jx.below b4
  replace VA := VA.below b4
  replace VP := VP.below b4
  replace VX := VX.below b4
  replace BB := BB.trans (b4.mono BB.size)
  clear b4
  obtain ⟨pw,aw,nw,cw,bw,mw,dw,rfl⟩ := Jw.open
  have hZ4 : w.heap.size ≤ w4.heap.size := BB.size
  have hN4VA : w.heap.size ≠ w4.heap.size := Nat.ne_of_lt VA.lt
  have hN4VP : R2 ≠ w4.heap.size := Nat.ne_of_lt VP.lt
  have hN4VX : R3 ≠ w4.heap.size := Nat.ne_of_lt VX.lt
  obtain ⟨W4,hW4,hS4,hL4,VW⟩ := V3.lay w4 28 (.bool pw) (.slice aw nw cw) (.slice bw mw dw)
  replace ht := ht.below hL4
  replace Ix := Ix.below hL4
  replace Hp := Hp.below hL4
  replace Jx := Jx.below hL4
  replace Jw := Jw.below hL4
  replace VA := VA.below hL4
  replace VP := VP.below hL4
  replace VX := VX.below hL4
  replace BB := BB.trans (hL4.mono BB.size)
  clear hL4
  go_wp2
  rw [← hW4]
  generalize w4.heap.size = R4 at *
  clear hW4 hS4
  have h10 : Hid (mkRat 1 1 = q ^ 0) := by show mkRat 1 1 = q ^ 0; rw [Rat.pow_zero]; decide +kernel
  clear Ix
  clear VA
  go_loopw [9] (fun vi wr => ∃ (i : Nat) (p9 : Bool) (a9 : Option Addr) (n9 c9 : Nat) (b9 : Option Addr) (m9 d9 : Nat),i ≤ j ∧ vi = .int .i64 (i : Int) ∧ V3 wr R4 (.bool p9) (.slice a9 n9 c9) (.slice b9 m9 d9) ∧ DocQ wr (.agg #[.bool p9,.slice a9 n9 c9,.slice b9 m9 d9]) (q ^ i) (2 + 2 * i) ∧ V3 wr R2 (.bool pp) (.slice ap np cp) (.slice bp mp dp) ∧ V3 wr R3 (.bool px) (.slice ax nx cx) (.slice bx mx dx) ∧ Tab wr ∧ RepQ wr (.agg #[.bool pp,.slice ap np cp,.slice bp mp dp]) (q ^ j) ∧ DocQ wr (.agg #[.bool px,.slice ax nx cx,.slice bx mx dx]) q 2 ∧ Below w.heap.size w wr) (fun vi _ => (13 - intOf vi).toNat)
  case atStart => exact ⟨0,pw,aw,nw,cw,bw,mw,dw,by omega,rfl,VW,by rw [← h10.out]; exact Jw,VP,VX,ht,Hp,Jx,BB⟩
  case round =>
   clear Jw VW ht Hp Jx BB VP VX
   obtain ⟨i,p9,a9,n9,c9,b9,m9,d9,hij,rfl,VW,Jw,VP,VX,ht,Hp,Jx,BB⟩ := hrel
   by_cases hlt : i < j
   ·have c1 : (i : Int) < (j : Int) := by omega
    obtain ⟨VW_0,VW_1,VW_2,VW_3,VW_4,VW_5⟩ := id VW
    obtain ⟨VX_0,VX_1,VX_2,VX_3,VX_4,VX_5⟩ := id VX
    go_wp2_with fail
    clear VW_0 VW_1 VW_2 VW_3 VW_4 VW_5 VX_0 VX_1 VX_2 VX_3 VX_4 VX_5
    refine (jtimes_at _ _ (q ^ i) q (2 + 2 * i) 2 _ Jw Jx (by omega)).mono ?_
    rintro e w5 ⟨vn,rfl,Jn,b5⟩
    replace ht := ht.below b5
    replace Hp := Hp.below b5
    replace Jx := Jx.below b5
    replace Jw := Jw.below b5
    replace VP := VP.below b5
    replace VX := VX.below b5
    replace VW := VW.below b5
    replace BB := BB.trans (b5.mono BB.size)
    clear b5
    obtain ⟨pn,an,nn,cn,bn,mn,dn,rfl⟩ := Jn.open
    rw [← Rat.pow_succ] at Jn
    have hKp := VW.keepJ (.bool pn) (.slice an nn cn) (.slice bn mn dn)
    have VP_n := VP.other3 (R := R4) (by omega) (.bool pn) (.slice an nn cn) (.slice bn mn dn)
    have VX_n := VX.other3 (R := R4) (by omega) (.bool pn) (.slice an nn cn) (.slice bn mn dn)
    have VW_n := VW.same (.bool pn) (.slice an nn cn) (.slice bn mn dn)
    have ht_n := ht.keep hKp
    have Hp_n := Hp.keep hKp
    have Jx_n := Jx.keep hKp
    have Jw_n := Jw.keep hKp
    have Jn_n := Jn.keep hKp
    have BB_n := below_store3 (R := R4) BB (by omega) (.bool pn) (.slice an nn cn) (.slice bn mn dn)
    clear hKp
    obtain ⟨VW_0,VW_1,VW_2,VW_3,VW_4,VW_5⟩ := id VW
    go_wp2
    clear VW_0 VW_1 VW_2 VW_3 VW_4 VW_5
    clear BB ht Hp Jx Jw Jn VP VX VW
    generalize ((w5.setCell ⟨R4,0,none⟩ (.bool pn)).setCell ⟨R4,1,none⟩ (.slice an nn cn)).setCell ⟨R4,2,none⟩ (.slice bn mn dn) = W5 at *
    have BB := BB_n
    have ht := ht_n
    have Hp := Hp_n
    have Jx := Jx_n
    have Jw := Jw_n
    have Jn := Jn_n
    have VP := VP_n
    have VX := VX_n
    have VW := VW_n
    clear BB_n ht_n Hp_n Jx_n Jw_n Jn_n VP_n VX_n VW_n
    go_roundw
    case rel => exact ⟨i + 1,pn,an,nn,cn,bn,mn,dn,by omega,by go_num,VW,Jn.le (by omega),VP,VX,ht,Hp,Jx,BB⟩
    case measure => simp [intOf]; omega
   ·obtain rfl : i = j := by omega
    obtain ⟨VW_0,VW_1,VW_2,VW_3,VW_4,VW_5⟩ := id VW
    obtain ⟨VP_0,VP_1,VP_2,VP_3,VP_4,VP_5⟩ := id VP
    go_wp2_with fail
    clear VW_0 VW_1 VW_2 VW_3 VW_4 VW_5 VP_0 VP_1 VP_2 VP_3 VP_4 VP_5
    refine (jis_at _ _ (q ^ i) 25 26 _ Hp (Nat.le_trans (qsz_pow q 2 (by omega) sq i) (by omega)) (Jw.le (by omega)) (by omega)).mono ?_
    rintro e w35 ⟨rfl,b35⟩
    replace ht := ht.below b35
    replace Hp := Hp.below b35
    replace Jx := Jx.below b35
    replace Jw := Jw.below b35
    replace VP := VP.below b35
    replace VX := VX.below b35
    replace VW := VW.below b35
    replace BB := BB.trans (b35.mono BB.size)
    clear b35
    go_wp2_with fail
    refine (qawake_at _ ht).mono ?_
    rintro e w36 ⟨rfl,b36⟩
    replace ht := ht.below b36
    replace Hp := Hp.below b36
    replace Jx := Jx.below b36
    replace Jw := Jw.below b36
    replace VP := VP.below b36
    replace VX := VX.below b36
    replace VW := VW.below b36
    replace BB := BB.trans (b36.mono BB.size)
    clear b36
    go_wp2
    go_ret
    exact ⟨rfl,BB⟩

theorem own : ownKnob Tryz.prog.godebug = none := by kernel_rfl
theorem laidOut : laidOutB Tryz.prog = true := by kernel_rfl

abbrev laid1 : List (String × DataW Unit) := [("math/bits.deBruijn64tab",Rows.laid_math_bits_deBruijn64tab)]
theorem gTab : Tryz.prog.globalNamed "math/bits.deBruijn64tab" = some 1 := by kernel_rfl
theorem gTabType : (Tryz.prog.globals[1]?).map (·.type) = some 199 := by kernel_rfl
theorem uTab : Tryz.prog.underlying 199 = some (.array 64 5) := by kernel_rfl
theorem uCell : Tryz.prog.underlying 5 = some (.int .u8) := by kernel_rfl
theorem cCell : Tryz.prog.cellsOf 5 = 1 := by kernel_rfl
theorem cTab : Tryz.prog.cellsOf 199 = 64 := by kernel_rfl
/-- The listed table lies in its cells. -/
theorem tab_of {W : World} (h : laidMetH Tryz.prog laid1 W) : Tab W := by
 rw [MakeChecks.laidMetH_plain _ _ _ (by kernel_rfl)] at h
 have hd : laid1 = [("math/bits.deBruijn64tab",Lib.tabData .u8 (Lib.deBruijn64tab.map fun (n : Nat) => Int.ofNat n))] := rfl
 rw [hd] at h
 have hT := Lib.tabIs_of_head gTab gTabType uTab uCell cCell cTab h
 intro i hi
 have hc := hT.cell gTab i (by rw [List.length_map]; exact hi)
 rw [hc]
 congr 2
 rw [List.getD_eq_getElem?_getD,List.getElem?_map,List.getD_eq_getElem?_getD]
 cases Lib.deBruijn64tab[i]? <;> rfl
/-- A start for the witness: the heap that the run of the program's own initialisers leaves. -/
noncomputable def startW (os : Os) : World := { World.holding Tryz.prog os ⟨#[],#[],[]⟩ with heap := (varsWorld Tryz.prog 400 (varsId Tryz.prog) os (fun _ _ => 0)).heap }
theorem start_met (os : Os) (args : Array Value) : laidMetH Tryz.prog laid1 ((startW os).forCall (fun _ _ => 0) ⟨#[],args,[]⟩).memory :=
 laidMetH_of_parts3 (fuel := 8) (laidMet_of_run' 8 (by kernel_rfl) (by kernel_rfl)) (by kernel_rfl) (by kernel_rfl)

set_option maxRecDepth 100000 in
theorem lifted (os : Os) (started : os.Started) (H : Type) (enc : TypeId × Value → H) :
  ReturnsInHanded {} Tryz.checked os 4 .any (fun w args => (Rows.ratioPowersSpec.pre enc Tryz.prog Tryz.f4 [] false w args ∧ laidMetH Tryz.prog laid1 w) ∧ sizedMet enc Tryz.prog Tryz.f4 (OpenSpec.ofChange Rows.ratioPowersSpec) false w args) (Rows.ratioPowersSpec.post enc Tryz.prog Tryz.f4 false true false false) := by
 refine returnsInHanded_of_change_and (C := Tryz.checked) (X := fun w _ => laidMetH Tryz.prog laid1 w) (fun _ _ _ hh h => h.of_heap hh) own started (by kernel_rfl) Tryz.func4
  (ChangeSpec.witness_shaped (enc := enc) (C := Tryz.checked) (os := os) (X := fun w _ => laidMetH Tryz.prog laid1 w) false (startW os) #[.agg #[.bool false,.slice none 0 0,.slice none 0 0],.int .i64 0] 8 rfl (World.shaped_of_RefB (by kernel_rfl) (by kernel_rfl)) (by kernel_rfl) (by kernel_rfl) (by kernel_rfl) (start_met os _)) ?_
 intro W base args ds gs before hval0 hW _ _ hL _
 have hval : ∀ (j : Nat) t v,Tryz.f4.params[j]? = some t → args[j]? = some v → Value.okWide Tryz.prog W .any base t v := hval0
 have hW' := hW
 obtain ⟨p,q,hA0,hV,rfl,hfz,hnd⟩ := hW
 have hA : DataW.TrodAll enc Tryz.prog W 0 (fun _ => true) true Tryz.f4.params.toList args.toList ds p := hA0
 rw [Tryz.params4] at hA hval
 obtain ⟨v0,vs0,d0,ds0,p0,q0,hargs,rfl,rfl,h0,r0⟩ := trodAll_cons hA
 obtain ⟨v1,vs1,d1,ds1,p1,q1,rfl,rfl,rfl,h1,r1⟩ := trodAll_cons r0
 obtain ⟨rfl,rfl,rfl⟩ := trodAll_nil r1
 obtain rfl : args = #[v0,v1] := by cases args; simp_all
 obtain ⟨rfl,rfl⟩ := trodVars_none hV
 have k0 := h0
 have lt0 : ∀ x ∈ p0,x.block < W.heap.size := by obtain ⟨m,hm⟩ := k0; exact DataW.trod_lt m _ _ _ hm
 obtain ⟨neg0,ao0,n0,c0,bo0,m0,d0,f0,g0,rfl,w0,x0⟩ := open_wrat (hval 0 35 v0 rfl rfl) h0
 obtain ⟨a1,rfl,rfl,rfl,w1⟩ := open_int Tryz.underlying3 (hval 1 3 v1 rfl rfl) h1
 clear hA0 hval0
 refine (walk _ _ _ _ _ _ _ _ _ a1 W w0 x0 w1 (tab_of hL)).mono fun e W' ⟨he,bel⟩ => ?_
 subst he
 exact ⟨_,rfl,_,_,_,[],_,[],hW',trodAll_mk1 (shut_bool Tryz.underlying4 _),(trodAll_cons_mk (Below.trod laidOut (by kernel_rfl) (of_decide_eq_true (by kernel_rfl)) k0 bel lt0) (trodAll_cons_mk (shut_int Tryz.underlying3 w1) trodAll_mk0)),rfl,bel.frame _,fun h => by cases h⟩

theorem over : Rows.ratioPowersRow.holds Tryz.pinned (OpenSpec.ofChange Rows.ratioPowersSpec) :=
 OpenClaim.holds_of_wide 4 Tryz.f4 rfl rfl rfl rfl rfl rfl rfl ⟨rfl,rfl,rfl,rfl,rfl⟩ rfl rfl rfl rfl rfl (by kernel_rfl) Tryz.func4 (by kernel_rfl)
  (of_decide_eq_true (by kernel_rfl)) (by unfold Func.isWrapper; first | (rw [if_pos (by decide +kernel)]; kernel_rfl) | (rw [if_neg (by decide +kernel)]; exact ⟨rfl,rfl⟩))
  (fun os started H enc _ => lifted os started H enc)

end Go.Proofs.YthlogenaienkhaaGreatDoor.ratioPowers
namespace Go.Proofs.YthlogenaienkhaaGreatDoor
/-- The statement: the row, tied to the text of the program. -/
theorem ratioPowers_holds : Rows.RatioPowersCardSaid :=
 Claim7.holds_tied_plain_at .later [] [.data] true (true,"3380e13b50b7f32269091fe29852d4a9c6381b7d7ac34cf65ee07c32c1b30c36") false
  ratioPowers.over (fun _ h => by cases h) (by kernel_rfl) (fun _ h => by cases h) ratioPowers_row_tie rfl ⟨rfl,rfl⟩ (by kernel_rfl) rfl
  (fun f fn hf hfn => by
   obtain rfl : f = 4 := Option.some.inj ((show Tryz.prog.funcNamed "dendron/dendronlaw03.RatioPowers" = some 4 by kernel_rfl).symm.trans hf) |>.symm
   obtain rfl : fn = Tryz.f4 := (Option.some.inj (Tryz.func4.symm.trans hfn)).symm
   exact ⟨by kernel_rfl,fun j t ht => by
    rw [Tryz.params4] at ht
    have hm : t ∈ [35,3] := by simpa using Array.mem_of_getElem? ht
    have hall : ([35,3].all fun u => !Tryz.prog.wantsStandIn u) = true := by kernel_rfl
    exact (show Tryz.prog.wantsStandIn t = false by simpa using List.all_eq_true.1 hall t hm)⟩)
  (by kernel_rfl)
end Go.Proofs.YthlogenaienkhaaGreatDoor
