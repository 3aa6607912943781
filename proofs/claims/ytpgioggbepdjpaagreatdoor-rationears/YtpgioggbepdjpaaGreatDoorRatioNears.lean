/-
 Proves that Near answers the number nearest to any number of up to 2 limbs of those of a divisor of up to 40,of two the one of the lesser divisor,of these the lesser,or that there is none beyond the limits (the statement RatioNears,its tied card); the table of math/bits lies as the program's text lays it; no other condition.
-/
import Derived.Test.YtpgioggbepdjpaaGreatDoorJc6147c59cf
import Derived.Test.YtpgioggbepdjpaaGreatDoorRows
import Derived.Test.YtpgioggbepdjpaaGreatDoorJ67d383c2a1
import Derived.Test.YtpgioggbepdjpaaGreatDoorJ41a2f59831
import Derived.WalkKit
import Derived.ProofKit
import Derived.OpenShut
import Derived.ShutString
import Derived.ChangeOld
import Derived.Below
import Derived.Test.YtpgioggbepdjpaaGreatDoorTie
import Derived.Test.YtpgioggbepdjpaaGreatDoorCards
import Derived.LaidByTextLater
import Derived.LaidHandle
import Derived.Lib.LaidTab
import Derived.SevenTiedAt
namespace Go.Proofs.YtpgioggbepdjpaaGreatDoor.ratioNears
open Go.ChangeShapes Go.WideShapes Go.ChangeAt Go.RowKit
open Go.ChangeMaps (open_string shut_string)
set_option linter.unusedVariables false
set_option linter.unusedSimpArgs false

set_option linter.unusedSimpArgs false
set_option maxRecDepth 100000 in
set_option maxHeartbeats 16000000 in
theorem walk (p : Bool) (ao0 : Option Addr) (n0 c0 : Nat) (bo0 : Option Addr) (m0 d0 : Nat) (f g : Nat → Int) (k : Int) (w : World) (ha1 : Raw w (.slice ao0 n0 c0) n0 f) (ha2 : Raw w (.slice bo0 m0 d0) m0 g) (wk : (Lit.int .i64 k).wf = true) (ht : Tab w) :
  Calls Tryz.prog 3 #[.agg #[.bool p,.slice ao0 n0 c0,.slice bo0 m0 d0],.int .i64 k] w fun e w' => e = .returned (.bool true) ∧ Below w.heap.size w w' := by
 have hkb := bounds_i64 wk
 clear wk
 have BB : Below w.heap.size w w := Below.refl _ _
 obtain ⟨Wb0,hW0,hS0,hL0,VA⟩ := V3.lay w 27 (.bool p) (.slice ao0 n0 c0) (.slice bo0 m0 d0)
 replace ha1 := ha1.below hL0
 replace ha2 := ha2.below hL0
 replace ht := ht.below hL0
 replace BB := BB.trans (hL0.mono BB.size)
 clear hL0
 go_enter Tryz.func3,Tryz.ntmps3
 go_wp2_with fail
 rw [← hW0]
 clear hW0 hS0
 refine (tiny_at _ _ _ _ _ _ _ _ ha1 ha2).mono ?_
 rintro e w1 ⟨ao,c,bo,e0,rfl,u1,u2,u3,u4,b1⟩
 replace ha1 := ha1.below b1
 replace ha2 := ha2.below b1
 replace ht := ht.below b1
 replace VA := VA.below b1
 replace BB := BB.trans (b1.mono BB.size)
 clear b1
 have k1 : min n0 2 ≤ 2 := Nat.min_le_right _ _
 have k2 : min m0 2 ≤ 2 := Nat.min_le_right _ _
 generalize min n0 2 = n at *
 generalize min m0 2 = m at *
 clear ha1 ha2
 by_cases h1 : k < 1
 ·have c1 : ¬ 40 < k := by omega
  have HK : Hid (k < 1 ∨ 4096 < k) := by show _ ∨ _; omega
  have hKp := VA.keepJ (.bool p) (.slice ao n c) (.slice bo m e0)
  have VA_n := VA.same (.bool p) (.slice ao n c) (.slice bo m e0)
  have ht_n := ht.keep hKp
  have u1_n := u1.keep hKp
  have u3_n := u3.keep hKp
  have BB_n := below_store3 (R := w.heap.size) BB (by omega) (.bool p) (.slice ao n c) (.slice bo m e0)
  clear hKp
  obtain ⟨VA_0,VA_1,VA_2,VA_3,VA_4,VA_5⟩ := id VA
  go_wp2_with fail
  clear VA_0 VA_1 VA_2 VA_3 VA_4 VA_5
  clear BB ht u1 u3 VA
  generalize ((w1.setCell ⟨w.heap.size,0,none⟩ (.bool p)).setCell ⟨w.heap.size,1,none⟩ (.slice ao n c)).setCell ⟨w.heap.size,2,none⟩ (.slice bo m e0) = W1 at *
  have BB := BB_n
  have ht := ht_n
  have u1 := u1_n
  have u3 := u3_n
  have VA := VA_n
  clear BB_n ht_n u1_n u3_n VA_n
  have Ix : RatAt W1 _ _ 2 := RatAt.raw (p := p) u1 u2 u3 u4 k1 k2
  clear u1 u3
  generalize mkRat (zof p (num f n)) (num g m) = q at *
  clear k1 k2 u2 u4
  refine (jfrom_at _ q 2 _ Ix (by omega) (by omega)).mono ?_
  rintro e w2 ⟨vx,rfl,Jx,b2⟩
  replace ht := ht.below b2
  replace Ix := Ix.below b2
  replace VA := VA.below b2
  replace BB := BB.trans (b2.mono BB.size)
  clear b2
  obtain ⟨px,ax,nx,cx,bx,mx,dx,rfl⟩ := Jx.open
  have hZ2 : w.heap.size ≤ w2.heap.size := BB.size
  have hN2VA : w.heap.size ≠ w2.heap.size := Nat.ne_of_lt VA.lt
  obtain ⟨W2,hW2,hS2,hL2,VX⟩ := V3.lay w2 35 (.bool px) (.slice ax nx cx) (.slice bx mx dx)
  replace ht := ht.below hL2
  replace Ix := Ix.below hL2
  replace Jx := Jx.below hL2
  replace VA := VA.below hL2
  replace BB := BB.trans (hL2.mono BB.size)
  clear hL2
  obtain ⟨VA_0,VA_1,VA_2,VA_3,VA_4,VA_5⟩ := id VA
  rw [hW2] at VA_0 VA_1 VA_2 VA_3 VA_4 VA_5
  go_wp2_with fail
  clear VA_0 VA_1 VA_2 VA_3 VA_4 VA_5
  rw [← hW2]
  generalize w2.heap.size = R2 at *
  clear hW2 hS2
  refine (near_range _ q 2 k _ Ix HK.out).mono ?_
  rintro e w3 ⟨rfl,b3⟩
  replace ht := ht.below b3
  replace Ix := Ix.below b3
  replace Jx := Jx.below b3
  replace VA := VA.below b3
  replace VX := VX.below b3
  replace BB := BB.trans (b3.mono BB.size)
  clear b3
  have hZ3 : w.heap.size ≤ w3.heap.size := BB.size
  have hN3VA : w.heap.size ≠ w3.heap.size := Nat.ne_of_lt VA.lt
  have hN3VX : R2 ≠ w3.heap.size := Nat.ne_of_lt VX.lt
  obtain ⟨W3,hW3,hS3,hL3,VS⟩ := V3.lay w3 27 (.bool false) (.slice none 0 0) (.slice none 0 0)
  replace ht := ht.below hL3
  replace Ix := Ix.below hL3
  replace Jx := Jx.below hL3
  replace VA := VA.below hL3
  replace VX := VX.below hL3
  replace BB := BB.trans (hL3.mono BB.size)
  clear hL3
  go_wp2_with fail
  rw [← hW3]
  generalize w3.heap.size = R3 at *
  clear hW3 hS3
  refine (none_at _).mono ?_
  rintro e w4 ⟨rfl,b4⟩
  replace ht := ht.below b4
  replace Ix := Ix.below b4
  replace Jx := Jx.below b4
  replace VA := VA.below b4
  replace VX := VX.below b4
  replace VS := VS.below b4
  replace BB := BB.trans (b4.mono BB.size)
  clear b4
  go_wp2_with fail
  refine (qawake_at _ ht).mono ?_
  rintro e w5 ⟨rfl,b5⟩
  replace ht := ht.below b5
  replace Ix := Ix.below b5
  replace Jx := Jx.below b5
  replace VA := VA.below b5
  replace VX := VX.below b5
  replace VS := VS.below b5
  replace BB := BB.trans (b5.mono BB.size)
  clear b5
  go_wp2
  go_ret
  exact ⟨rfl,BB⟩
 by_cases h2 : 4096 < k
 ·have c1 : 40 < k := by omega
  have c2 : ¬ k ≤ 4096 := by omega
  have HK : Hid (k < 1 ∨ 4096 < k) := by show _ ∨ _; omega
  have hKp := VA.keepJ (.bool p) (.slice ao n c) (.slice bo m e0)
  have VA_n := VA.same (.bool p) (.slice ao n c) (.slice bo m e0)
  have ht_n := ht.keep hKp
  have u1_n := u1.keep hKp
  have u3_n := u3.keep hKp
  have BB_n := below_store3 (R := w.heap.size) BB (by omega) (.bool p) (.slice ao n c) (.slice bo m e0)
  clear hKp
  obtain ⟨VA_0,VA_1,VA_2,VA_3,VA_4,VA_5⟩ := id VA
  go_wp2_with fail
  clear VA_0 VA_1 VA_2 VA_3 VA_4 VA_5
  clear BB ht u1 u3 VA
  generalize ((w1.setCell ⟨w.heap.size,0,none⟩ (.bool p)).setCell ⟨w.heap.size,1,none⟩ (.slice ao n c)).setCell ⟨w.heap.size,2,none⟩ (.slice bo m e0) = W1 at *
  have BB := BB_n
  have ht := ht_n
  have u1 := u1_n
  have u3 := u3_n
  have VA := VA_n
  clear BB_n ht_n u1_n u3_n VA_n
  have Ix : RatAt W1 _ _ 2 := RatAt.raw (p := p) u1 u2 u3 u4 k1 k2
  clear u1 u3
  generalize mkRat (zof p (num f n)) (num g m) = q at *
  clear k1 k2 u2 u4
  refine (jfrom_at _ q 2 _ Ix (by omega) (by omega)).mono ?_
  rintro e w2 ⟨vx,rfl,Jx,b2⟩
  replace ht := ht.below b2
  replace Ix := Ix.below b2
  replace VA := VA.below b2
  replace BB := BB.trans (b2.mono BB.size)
  clear b2
  obtain ⟨px,ax,nx,cx,bx,mx,dx,rfl⟩ := Jx.open
  have hZ2 : w.heap.size ≤ w2.heap.size := BB.size
  have hN2VA : w.heap.size ≠ w2.heap.size := Nat.ne_of_lt VA.lt
  obtain ⟨W2,hW2,hS2,hL2,VX⟩ := V3.lay w2 35 (.bool px) (.slice ax nx cx) (.slice bx mx dx)
  replace ht := ht.below hL2
  replace Ix := Ix.below hL2
  replace Jx := Jx.below hL2
  replace VA := VA.below hL2
  replace BB := BB.trans (hL2.mono BB.size)
  clear hL2
  obtain ⟨VA_0,VA_1,VA_2,VA_3,VA_4,VA_5⟩ := id VA
  rw [hW2] at VA_0 VA_1 VA_2 VA_3 VA_4 VA_5
  go_wp2_with fail
  clear VA_0 VA_1 VA_2 VA_3 VA_4 VA_5
  rw [← hW2]
  generalize w2.heap.size = R2 at *
  clear hW2 hS2
  refine (near_range _ q 2 k _ Ix HK.out).mono ?_
  rintro e w3 ⟨rfl,b3⟩
  replace ht := ht.below b3
  replace Ix := Ix.below b3
  replace Jx := Jx.below b3
  replace VA := VA.below b3
  replace VX := VX.below b3
  replace BB := BB.trans (b3.mono BB.size)
  clear b3
  have hZ3 : w.heap.size ≤ w3.heap.size := BB.size
  have hN3VA : w.heap.size ≠ w3.heap.size := Nat.ne_of_lt VA.lt
  have hN3VX : R2 ≠ w3.heap.size := Nat.ne_of_lt VX.lt
  obtain ⟨W3,hW3,hS3,hL3,VS⟩ := V3.lay w3 27 (.bool false) (.slice none 0 0) (.slice none 0 0)
  replace ht := ht.below hL3
  replace Ix := Ix.below hL3
  replace Jx := Jx.below hL3
  replace VA := VA.below hL3
  replace VX := VX.below hL3
  replace BB := BB.trans (hL3.mono BB.size)
  clear hL3
  go_wp2_with fail
  rw [← hW3]
  generalize w3.heap.size = R3 at *
  clear hW3 hS3
  refine (none_at _).mono ?_
  rintro e w4 ⟨rfl,b4⟩
  replace ht := ht.below b4
  replace Ix := Ix.below b4
  replace Jx := Jx.below b4
  replace VA := VA.below b4
  replace VX := VX.below b4
  replace VS := VS.below b4
  replace BB := BB.trans (b4.mono BB.size)
  clear b4
  go_wp2_with fail
  refine (qawake_at _ ht).mono ?_
  rintro e w5 ⟨rfl,b5⟩
  replace ht := ht.below b5
  replace Ix := Ix.below b5
  replace Jx := Jx.below b5
  replace VA := VA.below b5
  replace VX := VX.below b5
  replace VS := VS.below b5
  replace BB := BB.trans (b5.mono BB.size)
  clear b5
  go_wp2
  go_ret
  exact ⟨rfl,BB⟩
 by_cases h3 : 40 < k
 ·have c2 : k ≤ 4096 := by omega
  have hKp := VA.keepJ (.bool p) (.slice ao n c) (.slice bo m e0)
  have VA_n := VA.same (.bool p) (.slice ao n c) (.slice bo m e0)
  have ht_n := ht.keep hKp
  have u1_n := u1.keep hKp
  have u3_n := u3.keep hKp
  have BB_n := below_store3 (R := w.heap.size) BB (by omega) (.bool p) (.slice ao n c) (.slice bo m e0)
  clear hKp
  obtain ⟨VA_0,VA_1,VA_2,VA_3,VA_4,VA_5⟩ := id VA
  go_wp2_with fail
  clear VA_0 VA_1 VA_2 VA_3 VA_4 VA_5
  clear BB ht u1 u3 VA
  generalize ((w1.setCell ⟨w.heap.size,0,none⟩ (.bool p)).setCell ⟨w.heap.size,1,none⟩ (.slice ao n c)).setCell ⟨w.heap.size,2,none⟩ (.slice bo m e0) = W1 at *
  have BB := BB_n
  have ht := ht_n
  have u1 := u1_n
  have u3 := u3_n
  have VA := VA_n
  clear BB_n ht_n u1_n u3_n VA_n
  have Ix : RatAt W1 _ _ 2 := RatAt.raw (p := p) u1 u2 u3 u4 k1 k2
  clear u1 u3
  generalize mkRat (zof p (num f n)) (num g m) = q at *
  clear k1 k2 u2 u4
  refine (qawake_at _ ht).mono ?_
  rintro e w2 ⟨rfl,b2⟩
  replace ht := ht.below b2
  replace Ix := Ix.below b2
  replace VA := VA.below b2
  replace BB := BB.trans (b2.mono BB.size)
  clear b2
  go_wp2
  go_ret
  exact ⟨rfl,BB⟩
 ·obtain ⟨M,rfl⟩ : ∃ M : Nat,k = (M : Int) := ⟨k.toNat,by omega⟩
  have c1 : ¬ (40 : Int) < (M : Int) := by omega
  have c2 : ¬ (M : Int) < 1 := by omega
  have c3 : ¬ (4096 : Int) < (M : Int) := by omega
  have hM1 : 1 ≤ M := by omega
  have hM40 : M ≤ 40 := by omega
  have hKp := VA.keepJ (.bool p) (.slice ao n c) (.slice bo m e0)
  have VA_n := VA.same (.bool p) (.slice ao n c) (.slice bo m e0)
  have ht_n := ht.keep hKp
  have u1_n := u1.keep hKp
  have u3_n := u3.keep hKp
  have BB_n := below_store3 (R := w.heap.size) BB (by omega) (.bool p) (.slice ao n c) (.slice bo m e0)
  clear hKp
  obtain ⟨VA_0,VA_1,VA_2,VA_3,VA_4,VA_5⟩ := id VA
  go_wp2_with fail
  clear VA_0 VA_1 VA_2 VA_3 VA_4 VA_5
  clear BB ht u1 u3 VA
  generalize ((w1.setCell ⟨w.heap.size,0,none⟩ (.bool p)).setCell ⟨w.heap.size,1,none⟩ (.slice ao n c)).setCell ⟨w.heap.size,2,none⟩ (.slice bo m e0) = W1 at *
  have BB := BB_n
  have ht := ht_n
  have u1 := u1_n
  have u3 := u3_n
  have VA := VA_n
  clear BB_n ht_n u1_n u3_n VA_n
  have Ix : RatAt W1 _ _ 2 := RatAt.raw (p := p) u1 u2 u3 u4 k1 k2
  clear u1 u3
  generalize mkRat (zof p (num f n)) (num g m) = q at *
  clear k1 k2 u2 u4
  have sq := Ix.qsz (by omega)
  obtain ⟨fA,fC,fD,fE,hab⟩ : ∃ A C D E,aboutN (q - (q.floor : Rat)) M (M + 1) 0 1 1 1 = (A,C,D,E) := ⟨_,_,_,_,rfl⟩
  obtain ⟨hsd,hAC,hDE⟩ := sides_about q M hM1 fA fC fD fE hab
  have hCm := hsd.2.2.2.2.1
  have hEm := hsd.2.2.2.2.2.1
  have HB : Hid (nearQ q fA fC fD fE = bestN q M) := nearQ_best q M hM1 fA fC fD fE hsd
  have sn := nearQ_sz q fA fC fD fE 2 sq (by omega) (by omega) (by omega) (by omega)
  rw [HB.out] at sn
  clear hsd
  refine (jfrom_at _ q 2 _ Ix (by omega) (by omega)).mono ?_
  rintro e w2 ⟨vx,rfl,Jx,b2⟩
  replace ht := ht.below b2
  replace Ix := Ix.below b2
  replace VA := VA.below b2
  replace BB := BB.trans (b2.mono BB.size)
  clear b2
  obtain ⟨px,ax,nx,cx,bx,mx,dx,rfl⟩ := Jx.open
  have hZ2 : w.heap.size ≤ w2.heap.size := BB.size
  have hN2VA : w.heap.size ≠ w2.heap.size := Nat.ne_of_lt VA.lt
  obtain ⟨W2,hW2,hS2,hL2,VX⟩ := V3.lay w2 35 (.bool px) (.slice ax nx cx) (.slice bx mx dx)
  replace ht := ht.below hL2
  replace Ix := Ix.below hL2
  replace Jx := Jx.below hL2
  replace VA := VA.below hL2
  replace BB := BB.trans (hL2.mono BB.size)
  clear hL2
  obtain ⟨VA_0,VA_1,VA_2,VA_3,VA_4,VA_5⟩ := id VA
  rw [hW2] at VA_0 VA_1 VA_2 VA_3 VA_4 VA_5
  go_wp2_with fail
  clear VA_0 VA_1 VA_2 VA_3 VA_4 VA_5
  rw [← hW2]
  generalize w2.heap.size = R2 at *
  clear hW2 hS2
  refine (near_any _ q 2 M _ Ix ht (by omega) (by omega) hM1 (by omega) fA fC fD fE (by omega) (by omega) (by omega) (by omega) hab).mono ?_
  rintro e w3 ⟨vs,rfl,Hs,b3⟩
  replace ht := ht.below b3
  replace Ix := Ix.below b3
  replace Jx := Jx.below b3
  replace VA := VA.below b3
  replace VX := VX.below b3
  replace BB := BB.trans (b3.mono BB.size)
  clear b3
  rw [HB.out] at Hs
  clear HB hab
  obtain ⟨ps,as_,ns,cs,bs,ms,ds,rfl⟩ := Hs.open
  have hZ3 : w.heap.size ≤ w3.heap.size := BB.size
  have hN3VA : w.heap.size ≠ w3.heap.size := Nat.ne_of_lt VA.lt
  have hN3VX : R2 ≠ w3.heap.size := Nat.ne_of_lt VX.lt
  obtain ⟨W3,hW3,hS3,hL3,VS⟩ := V3.lay w3 27 (.bool ps) (.slice as_ ns cs) (.slice bs ms ds)
  replace ht := ht.below hL3
  replace Ix := Ix.below hL3
  replace Jx := Jx.below hL3
  replace Hs := Hs.below hL3
  replace VA := VA.below hL3
  replace VX := VX.below hL3
  replace BB := BB.trans (hL3.mono BB.size)
  clear hL3
  obtain ⟨VX_0,VX_1,VX_2,VX_3,VX_4,VX_5⟩ := id VX
  rw [hW3] at VX_0 VX_1 VX_2 VX_3 VX_4 VX_5
  go_wp2_with fail
  clear VX_0 VX_1 VX_2 VX_3 VX_4 VX_5
  rw [← hW3]
  generalize w3.heap.size = R3 at *
  clear hW3 hS3
  refine (jfloor_at _ q 2 _ Jx (by omega)).mono ?_
  rintro e w4 ⟨vf,rfl,Jf,b4⟩
  replace ht := ht.below b4
  replace Ix := Ix.below b4
  replace Jx := Jx.below b4
  replace Hs := Hs.below b4
  replace VA := VA.below b4
  replace VX := VX.below b4
  replace VS := VS.below b4
  replace BB := BB.trans (b4.mono BB.size)
  clear b4
  go_wp2_with fail
  have lf : nl W32 q.floor.natAbs ≤ 10 := Nat.le_trans (qsz_floor q sq) (by omega)
  refine (jwhole_at _ q.floor 10 _ Jf lf (by omega)).mono ?_
  rintro e w5 ⟨vb,rfl,Jb,b5⟩
  replace ht := ht.below b5
  replace Ix := Ix.below b5
  replace Jx := Jx.below b5
  replace Hs := Hs.below b5
  replace Jf := Jf.below b5
  replace VA := VA.below b5
  replace VX := VX.below b5
  replace VS := VS.below b5
  replace BB := BB.trans (b5.mono BB.size)
  clear b5
  obtain ⟨pb,ab,nb,cb,bb,mb,db,rfl⟩ := Jb.open
  clear Jf Ix
  clear VA
  have hZ4 : w.heap.size ≤ w5.heap.size := BB.size
  have hN4VX : R2 ≠ w5.heap.size := Nat.ne_of_lt VX.lt
  have hN4VS : R3 ≠ w5.heap.size := Nat.ne_of_lt VS.lt
  obtain ⟨W4,hW4,hS4,hL4,VB⟩ := V3.lay w5 35 (.bool pb) (.slice ab nb cb) (.slice bb mb db)
  replace ht := ht.below hL4
  replace Jx := Jx.below hL4
  replace Hs := Hs.below hL4
  replace Jb := Jb.below hL4
  replace VX := VX.below hL4
  replace VS := VS.below hL4
  replace BB := BB.trans (hL4.mono BB.size)
  clear hL4
  go_wp2
  rw [← hW4]
  generalize w5.heap.size = R4 at *
  clear hW4 hS4
  have HB0 : Hid (((q.floor : Int) : Rat) = bestN q 0) := rfl
  rw [HB0.out] at Jb
  go_loopw [9] (fun vd wr => ∃ (d : Nat) (pb : Bool) (ab : Option Addr) (nb cb : Nat) (bb : Option Addr) (mb db : Nat),d ≤ M ∧ vd = .int .i64 (((d + 1 : Nat)) : Int) ∧ V3 wr R4 (.bool pb) (.slice ab nb cb) (.slice bb mb db) ∧ DocQ wr (.agg #[.bool pb,.slice ab nb cb,.slice bb mb db]) (bestN q d) 20 ∧ V3 wr R2 (.bool px) (.slice ax nx cx) (.slice bx mx dx) ∧ V3 wr R3 (.bool ps) (.slice as_ ns cs) (.slice bs ms ds) ∧ DocQ wr (.agg #[.bool px,.slice ax nx cx,.slice bx mx dx]) q 2 ∧ RepQ wr (.agg #[.bool ps,.slice as_ ns cs,.slice bs ms ds]) (bestN q M) ∧ Tab wr ∧ Below w.heap.size w wr) (fun vd _ => (42 - intOf vd).toNat)
  case atStart => exact ⟨0,pb,ab,nb,cb,bb,mb,db,by omega,rfl,VB,Jb.le (by omega),VX,VS,Jx,Hs,ht,BB⟩
  case round =>
   clear VB Jb VX VS Jx Hs ht BB
   obtain ⟨d,pb,ab,nb,cb,bb,mb,db,hdM,rfl,VB,Jb,VX,VS,Jx,Hs,ht,BB⟩ := hrel
   by_cases hlt : d < M
   ·obtain ⟨dd,hdd⟩ : ∃ dd,dd = d + 1 := ⟨_,rfl⟩
    have HDD : Hid (dd = d + 1) := hdd
    have hd1 : 1 ≤ dd := by omega
    have hd2 : dd ≤ 40 := by omega
    have c4 : (dd : Int) ≤ (M : Int) := by omega
    rw [← hdd]
    clear hdd
    go_wp2
    go_cut [10] from 53 to 57 (fun sx wx => ∃ (RX : Nat) (px_ : Bool) (ax_ : Option Addr) (nx_ cx_ : Nat),sx = .pointer (some ⟨RX,0,none⟩) ∧ wr.heap.size ≤ RX ∧ V2 wx RX (.bool px_) (.slice ax_ nx_ cx_) ∧ RepJ wx (.agg #[.bool px_,.slice ax_ nx_ cx_]) ((q * mkRat dd 1).floor) ∧ Below wr.heap.size wr wx)
    case first =>
     clear BB Jb Hs ht VB VS
     have BB : Below wr.heap.size wr wr := Below.refl _ _
     have hDr : Below wr.heap.size wr wr.drew := (Below.refl _ _).drew
     replace Jx := Jx.below hDr
     replace VX := VX.below hDr
     replace BB := BB.trans (hDr.mono BB.size)
     clear hDr
     refine wp_region_held_drew (S := (fun w' => w'.cell? ⟨R2,0,none⟩ = some (.bool px) ∧ w'.cell? ⟨R2,1,none⟩ = some (.slice ax nx cx) ∧ w'.cell? ⟨R2,2,none⟩ = some (.slice bx mx dx))) (by kernel_rfl) ?_ (fun hHeld => ?_)
     ·exact ⟨VX.1,VX.2.1,VX.2.2.1⟩
     generalize wr.drew = W5 at *
     refine xT 0 (v := ?_) (hy := Or.inl ⟨by rfl,?_⟩) (h := ?_)
     rotate_left
     ·(intro w hSw; (try dsimp only at hSw); go_simp; (try with_reducible rfl))
     (try simp only [Act.put,xL4,xL5,xL6])
     refine xT 1 (v := ?_) (hy := Or.inl ⟨by rfl,?_⟩) (h := ?_)
     rotate_left
     ·(intro w hSw; (try dsimp only at hSw); go_simp; (try with_reducible rfl))
     (try simp only [Act.put,xL4,xL5,xL6])
     refine xR [2,5] (h := ?_)
     refine xC (h := fun K hK => ?_) (hs := ?_)
     ·
      go_simp
      refine (jsmall_at (dd : Int) 1 _ (by omega) (by omega) (by omega) (by omega)).mono ?_
      rintro e w6 ⟨t1,rfl,h1,b6⟩
      go_wp2_with fail
      replace Jx := Jx.below b6
      replace VX := VX.below b6
      replace BB := BB.trans (b6.mono BB.size)
      clear b6
      refine hK.out _ _ ?_ (fun hH1 => ?_)
      ·exact ⟨VX.1,VX.2.1,VX.2.2.1⟩
      clear hK K hHeld
      (try simp only [Act.put,xL4,xL5,xL6])
      refine xR [3,5] (h := ?_)
      refine xC (h := fun K hK => ?_) (hs := ?_)
      ·
       go_simp
       refine (jtimes_at _ _ q (mkRat dd 1) 2 2 _ Jx h1 (by omega)).mono ?_
       rintro e w7 ⟨t2,rfl,h2,b7⟩
       go_wp2_with fail
       replace Jx := Jx.below b7
       replace h1 := h1.below b7
       replace VX := VX.below b7
       replace BB := BB.trans (b7.mono BB.size)
       clear b7
       refine hK.out _ _ ?_ (fun hH2 => ?_)
       ·exact ⟨VX.1,VX.2.1,VX.2.2.1⟩
       clear hK K hH1
       (try simp only [Act.put,xL4,xL5,xL6])
       refine xR [4,5] (h := ?_)
       refine xC (h := fun K hK => ?_) (hs := ?_)
       ·
        go_simp
        refine (jfloor_at _ (q * mkRat dd 1) 4 _ h2 (by omega)).mono ?_
        rintro e w8 ⟨t3,rfl,JQ_,b8⟩
        obtain ⟨px_,ax_,nx_,cx_,rfl⟩ := JQ_.open
        go_wp2_with fail
        replace Jx := Jx.below b8
        replace h1 := h1.below b8
        replace h2 := h2.below b8
        replace VX := VX.below b8
        replace BB := BB.trans (b8.mono BB.size)
        clear b8
        refine hK.out _ _ ?_ (fun hH3 => ?_)
        ·exact ⟨VX.1,VX.2.1,VX.2.2.1⟩
        clear hK K hH2
        (try simp only [Act.put,xL4,xL5,xL6])
        refine xR [5] (h := ?_)
        refine xN (h := fun K hK => ?_)
        go_simp
        have hZ6 : wr.heap.size ≤ w8.heap.size := BB.size
        have hN6VX : R2 ≠ w8.heap.size := Nat.ne_of_lt VX.lt
        obtain ⟨W6,hW6,hS6,hL6,VQ_⟩ := V2.lay w8 33 (.bool false) (.slice none 0 0)
        replace Jx := Jx.below hL6
        replace h1 := h1.below hL6
        replace h2 := h2.below hL6
        replace JQ_ := JQ_.below hL6
        replace VX := VX.below hL6
        replace BB := BB.trans (hL6.mono BB.size)
        clear hL6
        rw [← hW6]
        generalize w8.heap.size = R6 at *
        clear hW6 hS6
        refine hK.out _ _ ?_ (fun hH4 => ?_)
        ·exact ⟨VX.1,VX.2.1,VX.2.2.1⟩
        clear hK K hH3
        (try simp only [Act.put,xL4,xL5,xL6])
        refine xR [6] (h := ?_)
        refine xN (h := fun K hK => ?_)
        have hKp := VQ_.keepJ (.bool px_) (.slice ax_ nx_ cx_)
        have VX_n := VX.other2 (R := R6) (by omega) (.bool px_) (.slice ax_ nx_ cx_)
        have VQ__n := VQ_.same (.bool px_) (.slice ax_ nx_ cx_)
        have Jx_n := Jx.keep hKp
        have h1_n := h1.keep hKp
        have h2_n := h2.keep hKp
        have JQ__n := JQ_.keep hKp
        have BB_n := below_store2 (R := R6) BB (by omega) (.bool px_) (.slice ax_ nx_ cx_)
        clear hKp
        obtain ⟨VQ__0,VQ__1,VQ__2,VQ__3⟩ := id VQ_
        go_simp
        clear VQ__0 VQ__1 VQ__2 VQ__3
        clear BB Jx h1 h2 JQ_ VX VQ_
        generalize (W6.setCell ⟨R6,0,none⟩ (.bool px_)).setCell ⟨R6,1,none⟩ (.slice ax_ nx_ cx_) = W7 at *
        have BB := BB_n
        have Jx := Jx_n
        have h1 := h1_n
        have h2 := h2_n
        have JQ_ := JQ__n
        have VX := VX_n
        have VQ_ := VQ__n
        clear BB_n Jx_n h1_n h2_n JQ__n VX_n VQ__n
        refine hK.out _ _ ?_ (fun hH5 => ?_)
        ·exact ⟨VX.1,VX.2.1,VX.2.2.1⟩
        clear hK K hH4
        (try simp only [Act.put,xL4,xL5,xL6])
        refine wpAnyH_done (by kernel_rfl) ?_ _
        clear hH5
        go_wp2_with fail
        go_meet
        exact ⟨R6,px_,ax_,nx_,cx_,rfl,by omega,VQ_,JQ_,BB⟩
       refine xC (h := fun K hK => ?_) (hs := ?_)
       ·
        go_simp
        have hZ8 : wr.heap.size ≤ w7.heap.size := BB.size
        have hN8VX : R2 ≠ w7.heap.size := Nat.ne_of_lt VX.lt
        obtain ⟨W8,hW8,hS8,hL8,VQ_⟩ := V2.lay w7 33 (.bool false) (.slice none 0 0)
        replace Jx := Jx.below hL8
        replace h1 := h1.below hL8
        replace h2 := h2.below hL8
        replace VX := VX.below hL8
        replace BB := BB.trans (hL8.mono BB.size)
        clear hL8
        rw [← hW8]
        generalize w7.heap.size = R8 at *
        clear hW8 hS8
        refine hK.out _ _ ?_ (fun hH3 => ?_)
        ·exact ⟨VX.1,VX.2.1,VX.2.2.1⟩
        clear hK K hH2
        (try simp only [Act.put,xL4,xL5,xL6])
        refine xR [4] (h := ?_)
        refine xN (h := fun K hK => ?_)
        go_simp
        refine (jfloor_at _ (q * mkRat dd 1) 4 _ h2 (by omega)).mono ?_
        rintro e w9 ⟨t3,rfl,JQ_,b9⟩
        obtain ⟨px_,ax_,nx_,cx_,rfl⟩ := JQ_.open
        go_wp2_with fail
        replace Jx := Jx.below b9
        replace h1 := h1.below b9
        replace h2 := h2.below b9
        replace VX := VX.below b9
        replace VQ_ := VQ_.below b9
        replace BB := BB.trans (b9.mono BB.size)
        clear b9
        refine hK.out _ _ ?_ (fun hH4 => ?_)
        ·exact ⟨VX.1,VX.2.1,VX.2.2.1⟩
        clear hK K hH3
        (try simp only [Act.put,xL4,xL5,xL6])
        refine xR [6] (h := ?_)
        refine xN (h := fun K hK => ?_)
        have hKp := VQ_.keepJ (.bool px_) (.slice ax_ nx_ cx_)
        have VX_n := VX.other2 (R := R8) (by omega) (.bool px_) (.slice ax_ nx_ cx_)
        have VQ__n := VQ_.same (.bool px_) (.slice ax_ nx_ cx_)
        have Jx_n := Jx.keep hKp
        have h1_n := h1.keep hKp
        have h2_n := h2.keep hKp
        have JQ__n := JQ_.keep hKp
        have BB_n := below_store2 (R := R8) BB (by omega) (.bool px_) (.slice ax_ nx_ cx_)
        clear hKp
        obtain ⟨VQ__0,VQ__1,VQ__2,VQ__3⟩ := id VQ_
        go_simp
        clear VQ__0 VQ__1 VQ__2 VQ__3
        clear BB Jx h1 h2 JQ_ VX VQ_
        generalize (w9.setCell ⟨R8,0,none⟩ (.bool px_)).setCell ⟨R8,1,none⟩ (.slice ax_ nx_ cx_) = W9 at *
        have BB := BB_n
        have Jx := Jx_n
        have h1 := h1_n
        have h2 := h2_n
        have JQ_ := JQ__n
        have VX := VX_n
        have VQ_ := VQ__n
        clear BB_n Jx_n h1_n h2_n JQ__n VX_n VQ__n
        refine hK.out _ _ ?_ (fun hH5 => ?_)
        ·exact ⟨VX.1,VX.2.1,VX.2.2.1⟩
        clear hK K hH4
        (try simp only [Act.put,xL4,xL5,xL6])
        refine wpAnyH_done (by kernel_rfl) ?_ _
        clear hH5
        go_wp2_with fail
        go_meet
        exact ⟨R8,px_,ax_,nx_,cx_,rfl,by omega,VQ_,JQ_,BB⟩
       exact AllReadyH.nil
      refine xC (h := fun K hK => ?_) (hs := ?_)
      ·
       go_simp
       have hZ10 : wr.heap.size ≤ w6.heap.size := BB.size
       have hN10VX : R2 ≠ w6.heap.size := Nat.ne_of_lt VX.lt
       obtain ⟨W10,hW10,hS10,hL10,VQ_⟩ := V2.lay w6 33 (.bool false) (.slice none 0 0)
       replace Jx := Jx.below hL10
       replace h1 := h1.below hL10
       replace VX := VX.below hL10
       replace BB := BB.trans (hL10.mono BB.size)
       clear hL10
       rw [← hW10]
       generalize w6.heap.size = R10 at *
       clear hW10 hS10
       refine hK.out _ _ ?_ (fun hH2 => ?_)
       ·exact ⟨VX.1,VX.2.1,VX.2.2.1⟩
       clear hK K hH1
       (try simp only [Act.put,xL4,xL5,xL6])
       refine xR [3] (h := ?_)
       refine xN (h := fun K hK => ?_)
       go_simp
       refine (jtimes_at _ _ q (mkRat dd 1) 2 2 _ Jx h1 (by omega)).mono ?_
       rintro e w10 ⟨t2,rfl,h2,b10⟩
       go_wp2_with fail
       replace Jx := Jx.below b10
       replace h1 := h1.below b10
       replace VX := VX.below b10
       replace VQ_ := VQ_.below b10
       replace BB := BB.trans (b10.mono BB.size)
       clear b10
       refine hK.out _ _ ?_ (fun hH3 => ?_)
       ·exact ⟨VX.1,VX.2.1,VX.2.2.1⟩
       clear hK K hH2
       (try simp only [Act.put,xL4,xL5,xL6])
       refine xR [4] (h := ?_)
       refine xN (h := fun K hK => ?_)
       go_simp
       refine (jfloor_at _ (q * mkRat dd 1) 4 _ h2 (by omega)).mono ?_
       rintro e w11 ⟨t3,rfl,JQ_,b11⟩
       obtain ⟨px_,ax_,nx_,cx_,rfl⟩ := JQ_.open
       go_wp2_with fail
       replace Jx := Jx.below b11
       replace h1 := h1.below b11
       replace h2 := h2.below b11
       replace VX := VX.below b11
       replace VQ_ := VQ_.below b11
       replace BB := BB.trans (b11.mono BB.size)
       clear b11
       refine hK.out _ _ ?_ (fun hH4 => ?_)
       ·exact ⟨VX.1,VX.2.1,VX.2.2.1⟩
       clear hK K hH3
       (try simp only [Act.put,xL4,xL5,xL6])
       refine xR [6] (h := ?_)
       refine xN (h := fun K hK => ?_)
       have hKp := VQ_.keepJ (.bool px_) (.slice ax_ nx_ cx_)
       have VX_n := VX.other2 (R := R10) (by omega) (.bool px_) (.slice ax_ nx_ cx_)
       have VQ__n := VQ_.same (.bool px_) (.slice ax_ nx_ cx_)
       have Jx_n := Jx.keep hKp
       have h1_n := h1.keep hKp
       have h2_n := h2.keep hKp
       have JQ__n := JQ_.keep hKp
       have BB_n := below_store2 (R := R10) BB (by omega) (.bool px_) (.slice ax_ nx_ cx_)
       clear hKp
       obtain ⟨VQ__0,VQ__1,VQ__2,VQ__3⟩ := id VQ_
       go_simp
       clear VQ__0 VQ__1 VQ__2 VQ__3
       clear BB Jx h1 h2 JQ_ VX VQ_
       generalize (w11.setCell ⟨R10,0,none⟩ (.bool px_)).setCell ⟨R10,1,none⟩ (.slice ax_ nx_ cx_) = W11 at *
       have BB := BB_n
       have Jx := Jx_n
       have h1 := h1_n
       have h2 := h2_n
       have JQ_ := JQ__n
       have VX := VX_n
       have VQ_ := VQ__n
       clear BB_n Jx_n h1_n h2_n JQ__n VX_n VQ__n
       refine hK.out _ _ ?_ (fun hH5 => ?_)
       ·exact ⟨VX.1,VX.2.1,VX.2.2.1⟩
       clear hK K hH4
       (try simp only [Act.put,xL4,xL5,xL6])
       refine wpAnyH_done (by kernel_rfl) ?_ _
       clear hH5
       go_wp2_with fail
       go_meet
       exact ⟨R10,px_,ax_,nx_,cx_,rfl,by omega,VQ_,JQ_,BB⟩
      exact AllReadyH.nil
     refine xC (h := fun K hK => ?_) (hs := ?_)
     ·
      go_simp
      have hZ12 : wr.heap.size ≤ W5.heap.size := BB.size
      have hN12VX : R2 ≠ W5.heap.size := Nat.ne_of_lt VX.lt
      obtain ⟨W12,hW12,hS12,hL12,VQ_⟩ := V2.lay W5 33 (.bool false) (.slice none 0 0)
      replace Jx := Jx.below hL12
      replace VX := VX.below hL12
      replace BB := BB.trans (hL12.mono BB.size)
      clear hL12
      rw [← hW12]
      generalize W5.heap.size = R12 at *
      clear hW12 hS12
      refine hK.out _ _ ?_ (fun hH1 => ?_)
      ·exact ⟨VX.1,VX.2.1,VX.2.2.1⟩
      clear hK K hHeld
      (try simp only [Act.put,xL4,xL5,xL6])
      refine xR [2] (h := ?_)
      refine xN (h := fun K hK => ?_)
      go_simp
      refine (jsmall_at (dd : Int) 1 _ (by omega) (by omega) (by omega) (by omega)).mono ?_
      rintro e w12 ⟨t1,rfl,h1,b12⟩
      go_wp2_with fail
      replace Jx := Jx.below b12
      replace VX := VX.below b12
      replace VQ_ := VQ_.below b12
      replace BB := BB.trans (b12.mono BB.size)
      clear b12
      refine hK.out _ _ ?_ (fun hH2 => ?_)
      ·exact ⟨VX.1,VX.2.1,VX.2.2.1⟩
      clear hK K hH1
      (try simp only [Act.put,xL4,xL5,xL6])
      refine xR [3] (h := ?_)
      refine xN (h := fun K hK => ?_)
      go_simp
      refine (jtimes_at _ _ q (mkRat dd 1) 2 2 _ Jx h1 (by omega)).mono ?_
      rintro e w13 ⟨t2,rfl,h2,b13⟩
      go_wp2_with fail
      replace Jx := Jx.below b13
      replace h1 := h1.below b13
      replace VX := VX.below b13
      replace VQ_ := VQ_.below b13
      replace BB := BB.trans (b13.mono BB.size)
      clear b13
      refine hK.out _ _ ?_ (fun hH3 => ?_)
      ·exact ⟨VX.1,VX.2.1,VX.2.2.1⟩
      clear hK K hH2
      (try simp only [Act.put,xL4,xL5,xL6])
      refine xR [4] (h := ?_)
      refine xN (h := fun K hK => ?_)
      go_simp
      refine (jfloor_at _ (q * mkRat dd 1) 4 _ h2 (by omega)).mono ?_
      rintro e w14 ⟨t3,rfl,JQ_,b14⟩
      obtain ⟨px_,ax_,nx_,cx_,rfl⟩ := JQ_.open
      go_wp2_with fail
      replace Jx := Jx.below b14
      replace h1 := h1.below b14
      replace h2 := h2.below b14
      replace VX := VX.below b14
      replace VQ_ := VQ_.below b14
      replace BB := BB.trans (b14.mono BB.size)
      clear b14
      refine hK.out _ _ ?_ (fun hH4 => ?_)
      ·exact ⟨VX.1,VX.2.1,VX.2.2.1⟩
      clear hK K hH3
      (try simp only [Act.put,xL4,xL5,xL6])
      refine xR [6] (h := ?_)
      refine xN (h := fun K hK => ?_)
      have hKp := VQ_.keepJ (.bool px_) (.slice ax_ nx_ cx_)
      have VX_n := VX.other2 (R := R12) (by omega) (.bool px_) (.slice ax_ nx_ cx_)
      have VQ__n := VQ_.same (.bool px_) (.slice ax_ nx_ cx_)
      have Jx_n := Jx.keep hKp
      have h1_n := h1.keep hKp
      have h2_n := h2.keep hKp
      have JQ__n := JQ_.keep hKp
      have BB_n := below_store2 (R := R12) BB (by omega) (.bool px_) (.slice ax_ nx_ cx_)
      clear hKp
      obtain ⟨VQ__0,VQ__1,VQ__2,VQ__3⟩ := id VQ_
      go_simp
      clear VQ__0 VQ__1 VQ__2 VQ__3
      clear BB Jx h1 h2 JQ_ VX VQ_
      generalize (w14.setCell ⟨R12,0,none⟩ (.bool px_)).setCell ⟨R12,1,none⟩ (.slice ax_ nx_ cx_) = W13 at *
      have BB := BB_n
      have Jx := Jx_n
      have h1 := h1_n
      have h2 := h2_n
      have JQ_ := JQ__n
      have VX := VX_n
      have VQ_ := VQ__n
      clear BB_n Jx_n h1_n h2_n JQ__n VX_n VQ__n
      refine hK.out _ _ ?_ (fun hH5 => ?_)
      ·exact ⟨VX.1,VX.2.1,VX.2.2.1⟩
      clear hK K hH4
      (try simp only [Act.put,xL4,xL5,xL6])
      refine wpAnyH_done (by kernel_rfl) ?_ _
      clear hH5
      go_wp2_with fail
      go_meet
      exact ⟨R12,px_,ax_,nx_,cx_,rfl,by omega,VQ_,JQ_,BB⟩
     exact AllReadyH.nil
    case rest =>
     obtain ⟨Ro,pxo,axo,nxo,cxo,rfl,hRo,Vo,Jo,hbW⟩ := hcut
     rename World => Wco
     have hloVB : R4 < wr.heap.size := VB.lt
     have hloVX : R2 < wr.heap.size := VX.lt
     have hloVS : R3 < wr.heap.size := VS.lt
     replace Jb := Jb.below hbW
     replace Jx := Jx.below hbW
     replace Hs := Hs.below hbW
     replace ht := ht.below hbW
     replace VB := VB.below hbW
     replace VX := VX.below hbW
     replace VS := VS.below hbW
     replace BB := BB.trans (hbW.mono BB.size)
     clear hbW
     have lfn : nl W32 ((q * mkRat dd 1).floor).natAbs ≤ 4 := nlfloor q dd 2 sq (by omega)
     have HCA : Hid (∀ i : Nat,cand q dd i = (((q * mkRat dd 1).floor + (i : Int) : Int) : Rat) * mkRat 1 dd) := fun i => rfl
     generalize (q * mkRat dd 1).floor = fn at *
     go_wp2
     skip
     obtain ⟨B0,hB0⟩ : ∃ B0,B0 = bestN q d := ⟨_,rfl⟩
     rw [← hB0] at Jb
     have HB1 : Hid (B0 = bestN q d) := hB0
     clear hB0
     go_loopw [11] (fun vk wr => ∃ (k : Nat) (pb : Bool) (ab : Option Addr) (nb cb : Nat) (bb : Option Addr) (mb db : Nat),k ≤ 2 ∧ vk = .int .i64 (k : Int) ∧ V3 wr R4 (.bool pb) (.slice ab nb cb) (.slice bb mb db) ∧ DocQ wr (.agg #[.bool pb,.slice ab nb cb,.slice bb mb db]) (stepN q B0 dd k) 20 ∧ V3 wr R2 (.bool px) (.slice ax nx cx) (.slice bx mx dx) ∧ V3 wr R3 (.bool ps) (.slice as_ ns cs) (.slice bs ms ds) ∧ DocQ wr (.agg #[.bool px,.slice ax nx cx,.slice bx mx dx]) q 2 ∧ RepQ wr (.agg #[.bool ps,.slice as_ ns cs,.slice bs ms ds]) (bestN q M) ∧ Tab wr ∧ Below w.heap.size w wr ∧ V2 wr Ro (.bool pxo) (.slice axo nxo cxo) ∧ RepJ wr (.agg #[.bool pxo,.slice axo nxo cxo]) fn) (fun vk _ => (2 - intOf vk).toNat)
     case atStart => exact ⟨0,pb,ab,nb,cb,bb,mb,db,by omega,rfl,VB,Jb,VX,VS,Jx,Hs,ht,BB,Vo,Jo⟩
     case round =>
      clear VB Jb VX VS Jx Hs ht BB Vo Jo
      obtain ⟨k,pb,ab,nb,cb,bb,mb,db,hk2,rfl,VB,Jb,VX,VS,Jx,Hs,ht,BB,Vo,Jo⟩ := hrel
      by_cases hk : k < 2
      ·have c5 : (k : Int) < 2 := by omega
       have lk : nl W32 ((k : Int)).natAbs ≤ 1 := by rw [Int.natAbs_natCast]; exact nl_small7 _ (by omega)
       have lf2 : nl W32 (fn + (k : Int)).natAbs ≤ 6 := nlz_add lfn lk (by omega) (by omega)
       have l10 : nl 10000 fn.natAbs ≤ 1000000 := nl10_of (by omega)
       have l11 : nl 10000 ((k : Int)).natAbs ≤ 1000000 := nl10_of (by omega)
       have hCk : Hid (((fn + (k : Int) : Int) : Rat) * mkRat 1 dd = cand q dd k) := (HCA.out k).symm
       go_wp2
       go_cut [12] from 62 to 69 (fun sx wx => ∃ (RX : Nat) (px_ : Bool) (ax_ : Option Addr) (nx_ cx_ : Nat) (bx_ : Option Addr) (mx_ dx_ : Nat),sx = .pointer (some ⟨RX,0,none⟩) ∧ wr.heap.size ≤ RX ∧ V3 wx RX (.bool px_) (.slice ax_ nx_ cx_) (.slice bx_ mx_ dx_) ∧ DocQ wx (.agg #[.bool px_,.slice ax_ nx_ cx_,.slice bx_ mx_ dx_]) (cand q dd k) 8 ∧ Below wr.heap.size wr wx)
       case first =>
        clear BB Jb Jx Hs ht VB VX VS
        have BB : Below wr.heap.size wr wr := Below.refl _ _
        have hDr : Below wr.heap.size wr wr.drew := (Below.refl _ _).drew
        replace Jo := Jo.below hDr
        replace Vo := Vo.below hDr
        replace BB := BB.trans (hDr.mono BB.size)
        clear hDr
        refine wp_region_held_drew (S := (fun w' => w'.cell? ⟨Ro,0,none⟩ = some (.bool pxo) ∧ w'.cell? ⟨Ro,1,none⟩ = some (.slice axo nxo cxo))) (by kernel_rfl) ?_ (fun hHeld => ?_)
        ·exact ⟨Vo.1,Vo.2.1⟩
        generalize wr.drew = W14 at *
        refine xT 0 (v := ?_) (hy := Or.inl ⟨by rfl,?_⟩) (h := ?_)
        rotate_left
        ·(intro w hSw; (try dsimp only at hSw); go_simp; (try with_reducible rfl))
        (try simp only [Act.put,xL4,xL5,xL6])
        refine xT 1 (v := ?_) (hy := Or.inl ⟨by rfl,?_⟩) (h := ?_)
        rotate_left
        ·(intro w hSw; (try dsimp only at hSw); go_simp; (try with_reducible rfl))
        (try simp only [Act.put,xL4,xL5,xL6])
        refine xT 5 (v := ?_) (hy := Or.inl ⟨by rfl,?_⟩) (h := ?_)
        rotate_left
        ·(intro w hSw; (try dsimp only at hSw); go_simp; (try with_reducible rfl))
        (try simp only [Act.put,xL4,xL5,xL6])
        refine xR [2,8] (h := ?_)
        refine xC (h := fun K hK => ?_) (hs := ?_)
        ·
         go_simp
         refine (rsmall_any (k : Int) _ (by omega) (by omega)).mono ?_
         rintro e w15 ⟨t1,rfl,h1,b15⟩
         go_wp2_with fail
         replace Jo := Jo.below b15
         replace Vo := Vo.below b15
         replace BB := BB.trans (b15.mono BB.size)
         clear b15
         refine hK.out _ _ ?_ (fun hH1 => ?_)
         ·exact ⟨Vo.1,Vo.2.1⟩
         clear hK K hHeld
         (try simp only [Act.put,xL4,xL5,xL6])
         refine xR [3,8] (h := ?_)
         refine xC (h := fun K hK => ?_) (hs := ?_)
         ·
          go_simp
          refine (rplus_any _ _ fn (k : Int) _ Jo h1 l10 l11).mono ?_
          rintro e w16 ⟨t2,rfl,h2,b16⟩
          go_wp2_with fail
          replace Jo := Jo.below b16
          replace h1 := h1.below b16
          replace Vo := Vo.below b16
          replace BB := BB.trans (b16.mono BB.size)
          clear b16
          refine hK.out _ _ ?_ (fun hH2 => ?_)
          ·exact ⟨Vo.1,Vo.2.1⟩
          clear hK K hH1
          (try simp only [Act.put,xL4,xL5,xL6])
          refine xR [4,8] (h := ?_)
          refine xC (h := fun K hK => ?_) (hs := ?_)
          ·
           go_simp
           refine (jwhole_at _ (fn + (k : Int)) 6 _ h2 lf2 (by omega)).mono ?_
           rintro e w17 ⟨t3,rfl,h3,b17⟩
           go_wp2_with fail
           replace Jo := Jo.below b17
           replace h1 := h1.below b17
           replace h2 := h2.below b17
           replace Vo := Vo.below b17
           replace BB := BB.trans (b17.mono BB.size)
           clear b17
           refine hK.out _ _ ?_ (fun hH3 => ?_)
           ·exact ⟨Vo.1,Vo.2.1⟩
           clear hK K hH2
           (try simp only [Act.put,xL4,xL5,xL6])
           refine xR [6,8] (h := ?_)
           refine xC (h := fun K hK => ?_) (hs := ?_)
           ·
            go_simp
            refine (jsmall_at 1 dd _ (by omega) (by omega) (by omega) (by omega)).mono ?_
            rintro e w18 ⟨t4,rfl,h4,b18⟩
            go_wp2_with fail
            replace Jo := Jo.below b18
            replace h1 := h1.below b18
            replace h2 := h2.below b18
            replace h3 := h3.below b18
            replace Vo := Vo.below b18
            replace BB := BB.trans (b18.mono BB.size)
            clear b18
            refine hK.out _ _ ?_ (fun hH4 => ?_)
            ·exact ⟨Vo.1,Vo.2.1⟩
            clear hK K hH3
            (try simp only [Act.put,xL4,xL5,xL6])
            refine xR [7,8] (h := ?_)
            refine xC (h := fun K hK => ?_) (hs := ?_)
            ·
             go_simp
             refine (jtimes_at _ _ ((fn + (k : Int) : Int) : Rat) (mkRat 1 dd) 6 2 _ h3 h4 (by omega)).mono ?_
             rintro e w19 ⟨t5,rfl,JQ_,b19⟩
             rw [hCk.out] at JQ_
             obtain ⟨px_,ax_,nx_,cx_,bx_,mx_,dx_,rfl⟩ := JQ_.open
             go_wp2_with fail
             replace Jo := Jo.below b19
             replace h1 := h1.below b19
             replace h2 := h2.below b19
             replace h3 := h3.below b19
             replace h4 := h4.below b19
             replace Vo := Vo.below b19
             replace BB := BB.trans (b19.mono BB.size)
             clear b19
             refine hK.out _ _ ?_ (fun hH5 => ?_)
             ·exact ⟨Vo.1,Vo.2.1⟩
             clear hK K hH4
             (try simp only [Act.put,xL4,xL5,xL6])
             refine xR [8] (h := ?_)
             refine xN (h := fun K hK => ?_)
             go_simp
             have hZ15 : wr.heap.size ≤ w19.heap.size := BB.size
             have hN15Vo : Ro ≠ w19.heap.size := Nat.ne_of_lt Vo.lt
             obtain ⟨W15,hW15,hS15,hL15,VQ_⟩ := V3.lay w19 35 (.bool false) (.slice none 0 0) (.slice none 0 0)
             replace Jo := Jo.below hL15
             replace h1 := h1.below hL15
             replace h2 := h2.below hL15
             replace h3 := h3.below hL15
             replace h4 := h4.below hL15
             replace JQ_ := JQ_.below hL15
             replace Vo := Vo.below hL15
             replace BB := BB.trans (hL15.mono BB.size)
             clear hL15
             rw [← hW15]
             generalize w19.heap.size = R15 at *
             clear hW15 hS15
             refine hK.out _ _ ?_ (fun hH6 => ?_)
             ·exact ⟨Vo.1,Vo.2.1⟩
             clear hK K hH5
             (try simp only [Act.put,xL4,xL5,xL6])
             refine xR [9] (h := ?_)
             refine xN (h := fun K hK => ?_)
             have hKp := VQ_.keepJ (.bool px_) (.slice ax_ nx_ cx_) (.slice bx_ mx_ dx_)
             have Vo_n := Vo.other3 (R := R15) (by omega) (.bool px_) (.slice ax_ nx_ cx_) (.slice bx_ mx_ dx_)
             have VQ__n := VQ_.same (.bool px_) (.slice ax_ nx_ cx_) (.slice bx_ mx_ dx_)
             have Jo_n := Jo.keep hKp
             have h1_n := h1.keep hKp
             have h2_n := h2.keep hKp
             have h3_n := h3.keep hKp
             have h4_n := h4.keep hKp
             have JQ__n := JQ_.keep hKp
             have BB_n := below_store3 (R := R15) BB (by omega) (.bool px_) (.slice ax_ nx_ cx_) (.slice bx_ mx_ dx_)
             clear hKp
             obtain ⟨VQ__0,VQ__1,VQ__2,VQ__3,VQ__4,VQ__5⟩ := id VQ_
             go_simp
             clear VQ__0 VQ__1 VQ__2 VQ__3 VQ__4 VQ__5
             clear BB Jo h1 h2 h3 h4 JQ_ Vo VQ_
             generalize ((W15.setCell ⟨R15,0,none⟩ (.bool px_)).setCell ⟨R15,1,none⟩ (.slice ax_ nx_ cx_)).setCell ⟨R15,2,none⟩ (.slice bx_ mx_ dx_) = W16 at *
             have BB := BB_n
             have Jo := Jo_n
             have h1 := h1_n
             have h2 := h2_n
             have h3 := h3_n
             have h4 := h4_n
             have JQ_ := JQ__n
             have Vo := Vo_n
             have VQ_ := VQ__n
             clear BB_n Jo_n h1_n h2_n h3_n h4_n JQ__n Vo_n VQ__n
             refine hK.out _ _ ?_ (fun hH7 => ?_)
             ·exact ⟨Vo.1,Vo.2.1⟩
             clear hK K hH6
             (try simp only [Act.put,xL4,xL5,xL6])
             refine wpAnyH_done (by kernel_rfl) ?_ _
             clear hH7
             go_wp2_with fail
             go_meet
             exact ⟨R15,px_,ax_,nx_,cx_,bx_,mx_,dx_,rfl,by omega,VQ_,JQ_,BB⟩
            refine xC (h := fun K hK => ?_) (hs := ?_)
            ·
             go_simp
             have hZ17 : wr.heap.size ≤ w18.heap.size := BB.size
             have hN17Vo : Ro ≠ w18.heap.size := Nat.ne_of_lt Vo.lt
             obtain ⟨W17,hW17,hS17,hL17,VQ_⟩ := V3.lay w18 35 (.bool false) (.slice none 0 0) (.slice none 0 0)
             replace Jo := Jo.below hL17
             replace h1 := h1.below hL17
             replace h2 := h2.below hL17
             replace h3 := h3.below hL17
             replace h4 := h4.below hL17
             replace Vo := Vo.below hL17
             replace BB := BB.trans (hL17.mono BB.size)
             clear hL17
             rw [← hW17]
             generalize w18.heap.size = R17 at *
             clear hW17 hS17
             refine hK.out _ _ ?_ (fun hH5 => ?_)
             ·exact ⟨Vo.1,Vo.2.1⟩
             clear hK K hH4
             (try simp only [Act.put,xL4,xL5,xL6])
             refine xR [7] (h := ?_)
             refine xN (h := fun K hK => ?_)
             go_simp
             refine (jtimes_at _ _ ((fn + (k : Int) : Int) : Rat) (mkRat 1 dd) 6 2 _ h3 h4 (by omega)).mono ?_
             rintro e w20 ⟨t5,rfl,JQ_,b20⟩
             rw [hCk.out] at JQ_
             obtain ⟨px_,ax_,nx_,cx_,bx_,mx_,dx_,rfl⟩ := JQ_.open
             go_wp2_with fail
             replace Jo := Jo.below b20
             replace h1 := h1.below b20
             replace h2 := h2.below b20
             replace h3 := h3.below b20
             replace h4 := h4.below b20
             replace Vo := Vo.below b20
             replace VQ_ := VQ_.below b20
             replace BB := BB.trans (b20.mono BB.size)
             clear b20
             refine hK.out _ _ ?_ (fun hH6 => ?_)
             ·exact ⟨Vo.1,Vo.2.1⟩
             clear hK K hH5
             (try simp only [Act.put,xL4,xL5,xL6])
             refine xR [9] (h := ?_)
             refine xN (h := fun K hK => ?_)
             have hKp := VQ_.keepJ (.bool px_) (.slice ax_ nx_ cx_) (.slice bx_ mx_ dx_)
             have Vo_n := Vo.other3 (R := R17) (by omega) (.bool px_) (.slice ax_ nx_ cx_) (.slice bx_ mx_ dx_)
             have VQ__n := VQ_.same (.bool px_) (.slice ax_ nx_ cx_) (.slice bx_ mx_ dx_)
             have Jo_n := Jo.keep hKp
             have h1_n := h1.keep hKp
             have h2_n := h2.keep hKp
             have h3_n := h3.keep hKp
             have h4_n := h4.keep hKp
             have JQ__n := JQ_.keep hKp
             have BB_n := below_store3 (R := R17) BB (by omega) (.bool px_) (.slice ax_ nx_ cx_) (.slice bx_ mx_ dx_)
             clear hKp
             obtain ⟨VQ__0,VQ__1,VQ__2,VQ__3,VQ__4,VQ__5⟩ := id VQ_
             go_simp
             clear VQ__0 VQ__1 VQ__2 VQ__3 VQ__4 VQ__5
             clear BB Jo h1 h2 h3 h4 JQ_ Vo VQ_
             generalize ((w20.setCell ⟨R17,0,none⟩ (.bool px_)).setCell ⟨R17,1,none⟩ (.slice ax_ nx_ cx_)).setCell ⟨R17,2,none⟩ (.slice bx_ mx_ dx_) = W18 at *
             have BB := BB_n
             have Jo := Jo_n
             have h1 := h1_n
             have h2 := h2_n
             have h3 := h3_n
             have h4 := h4_n
             have JQ_ := JQ__n
             have Vo := Vo_n
             have VQ_ := VQ__n
             clear BB_n Jo_n h1_n h2_n h3_n h4_n JQ__n Vo_n VQ__n
             refine hK.out _ _ ?_ (fun hH7 => ?_)
             ·exact ⟨Vo.1,Vo.2.1⟩
             clear hK K hH6
             (try simp only [Act.put,xL4,xL5,xL6])
             refine wpAnyH_done (by kernel_rfl) ?_ _
             clear hH7
             go_wp2_with fail
             go_meet
             exact ⟨R17,px_,ax_,nx_,cx_,bx_,mx_,dx_,rfl,by omega,VQ_,JQ_,BB⟩
            exact AllReadyH.nil
           refine xC (h := fun K hK => ?_) (hs := ?_)
           ·
            go_simp
            have hZ19 : wr.heap.size ≤ w17.heap.size := BB.size
            have hN19Vo : Ro ≠ w17.heap.size := Nat.ne_of_lt Vo.lt
            obtain ⟨W19,hW19,hS19,hL19,VQ_⟩ := V3.lay w17 35 (.bool false) (.slice none 0 0) (.slice none 0 0)
            replace Jo := Jo.below hL19
            replace h1 := h1.below hL19
            replace h2 := h2.below hL19
            replace h3 := h3.below hL19
            replace Vo := Vo.below hL19
            replace BB := BB.trans (hL19.mono BB.size)
            clear hL19
            rw [← hW19]
            generalize w17.heap.size = R19 at *
            clear hW19 hS19
            refine hK.out _ _ ?_ (fun hH4 => ?_)
            ·exact ⟨Vo.1,Vo.2.1⟩
            clear hK K hH3
            (try simp only [Act.put,xL4,xL5,xL6])
            refine xR [6] (h := ?_)
            refine xN (h := fun K hK => ?_)
            go_simp
            refine (jsmall_at 1 dd _ (by omega) (by omega) (by omega) (by omega)).mono ?_
            rintro e w21 ⟨t4,rfl,h4,b21⟩
            go_wp2_with fail
            replace Jo := Jo.below b21
            replace h1 := h1.below b21
            replace h2 := h2.below b21
            replace h3 := h3.below b21
            replace Vo := Vo.below b21
            replace VQ_ := VQ_.below b21
            replace BB := BB.trans (b21.mono BB.size)
            clear b21
            refine hK.out _ _ ?_ (fun hH5 => ?_)
            ·exact ⟨Vo.1,Vo.2.1⟩
            clear hK K hH4
            (try simp only [Act.put,xL4,xL5,xL6])
            refine xR [7] (h := ?_)
            refine xN (h := fun K hK => ?_)
            go_simp
            refine (jtimes_at _ _ ((fn + (k : Int) : Int) : Rat) (mkRat 1 dd) 6 2 _ h3 h4 (by omega)).mono ?_
            rintro e w22 ⟨t5,rfl,JQ_,b22⟩
            rw [hCk.out] at JQ_
            obtain ⟨px_,ax_,nx_,cx_,bx_,mx_,dx_,rfl⟩ := JQ_.open
            go_wp2_with fail
            replace Jo := Jo.below b22
            replace h1 := h1.below b22
            replace h2 := h2.below b22
            replace h3 := h3.below b22
            replace h4 := h4.below b22
            replace Vo := Vo.below b22
            replace VQ_ := VQ_.below b22
            replace BB := BB.trans (b22.mono BB.size)
            clear b22
            refine hK.out _ _ ?_ (fun hH6 => ?_)
            ·exact ⟨Vo.1,Vo.2.1⟩
            clear hK K hH5
            (try simp only [Act.put,xL4,xL5,xL6])
            refine xR [9] (h := ?_)
            refine xN (h := fun K hK => ?_)
            have hKp := VQ_.keepJ (.bool px_) (.slice ax_ nx_ cx_) (.slice bx_ mx_ dx_)
            have Vo_n := Vo.other3 (R := R19) (by omega) (.bool px_) (.slice ax_ nx_ cx_) (.slice bx_ mx_ dx_)
            have VQ__n := VQ_.same (.bool px_) (.slice ax_ nx_ cx_) (.slice bx_ mx_ dx_)
            have Jo_n := Jo.keep hKp
            have h1_n := h1.keep hKp
            have h2_n := h2.keep hKp
            have h3_n := h3.keep hKp
            have h4_n := h4.keep hKp
            have JQ__n := JQ_.keep hKp
            have BB_n := below_store3 (R := R19) BB (by omega) (.bool px_) (.slice ax_ nx_ cx_) (.slice bx_ mx_ dx_)
            clear hKp
            obtain ⟨VQ__0,VQ__1,VQ__2,VQ__3,VQ__4,VQ__5⟩ := id VQ_
            go_simp
            clear VQ__0 VQ__1 VQ__2 VQ__3 VQ__4 VQ__5
            clear BB Jo h1 h2 h3 h4 JQ_ Vo VQ_
            generalize ((w22.setCell ⟨R19,0,none⟩ (.bool px_)).setCell ⟨R19,1,none⟩ (.slice ax_ nx_ cx_)).setCell ⟨R19,2,none⟩ (.slice bx_ mx_ dx_) = W20 at *
            have BB := BB_n
            have Jo := Jo_n
            have h1 := h1_n
            have h2 := h2_n
            have h3 := h3_n
            have h4 := h4_n
            have JQ_ := JQ__n
            have Vo := Vo_n
            have VQ_ := VQ__n
            clear BB_n Jo_n h1_n h2_n h3_n h4_n JQ__n Vo_n VQ__n
            refine hK.out _ _ ?_ (fun hH7 => ?_)
            ·exact ⟨Vo.1,Vo.2.1⟩
            clear hK K hH6
            (try simp only [Act.put,xL4,xL5,xL6])
            refine wpAnyH_done (by kernel_rfl) ?_ _
            clear hH7
            go_wp2_with fail
            go_meet
            exact ⟨R19,px_,ax_,nx_,cx_,bx_,mx_,dx_,rfl,by omega,VQ_,JQ_,BB⟩
           exact AllReadyH.nil
          refine xC (h := fun K hK => ?_) (hs := ?_)
          ·
           go_simp
           have hZ21 : wr.heap.size ≤ w16.heap.size := BB.size
           have hN21Vo : Ro ≠ w16.heap.size := Nat.ne_of_lt Vo.lt
           obtain ⟨W21,hW21,hS21,hL21,VQ_⟩ := V3.lay w16 35 (.bool false) (.slice none 0 0) (.slice none 0 0)
           replace Jo := Jo.below hL21
           replace h1 := h1.below hL21
           replace h2 := h2.below hL21
           replace Vo := Vo.below hL21
           replace BB := BB.trans (hL21.mono BB.size)
           clear hL21
           rw [← hW21]
           generalize w16.heap.size = R21 at *
           clear hW21 hS21
           refine hK.out _ _ ?_ (fun hH3 => ?_)
           ·exact ⟨Vo.1,Vo.2.1⟩
           clear hK K hH2
           (try simp only [Act.put,xL4,xL5,xL6])
           refine xR [4] (h := ?_)
           refine xN (h := fun K hK => ?_)
           go_simp
           refine (jwhole_at _ (fn + (k : Int)) 6 _ h2 lf2 (by omega)).mono ?_
           rintro e w23 ⟨t3,rfl,h3,b23⟩
           go_wp2_with fail
           replace Jo := Jo.below b23
           replace h1 := h1.below b23
           replace h2 := h2.below b23
           replace Vo := Vo.below b23
           replace VQ_ := VQ_.below b23
           replace BB := BB.trans (b23.mono BB.size)
           clear b23
           refine hK.out _ _ ?_ (fun hH4 => ?_)
           ·exact ⟨Vo.1,Vo.2.1⟩
           clear hK K hH3
           (try simp only [Act.put,xL4,xL5,xL6])
           refine xR [6] (h := ?_)
           refine xN (h := fun K hK => ?_)
           go_simp
           refine (jsmall_at 1 dd _ (by omega) (by omega) (by omega) (by omega)).mono ?_
           rintro e w24 ⟨t4,rfl,h4,b24⟩
           go_wp2_with fail
           replace Jo := Jo.below b24
           replace h1 := h1.below b24
           replace h2 := h2.below b24
           replace h3 := h3.below b24
           replace Vo := Vo.below b24
           replace VQ_ := VQ_.below b24
           replace BB := BB.trans (b24.mono BB.size)
           clear b24
           refine hK.out _ _ ?_ (fun hH5 => ?_)
           ·exact ⟨Vo.1,Vo.2.1⟩
           clear hK K hH4
           (try simp only [Act.put,xL4,xL5,xL6])
           refine xR [7] (h := ?_)
           refine xN (h := fun K hK => ?_)
           go_simp
           refine (jtimes_at _ _ ((fn + (k : Int) : Int) : Rat) (mkRat 1 dd) 6 2 _ h3 h4 (by omega)).mono ?_
           rintro e w25 ⟨t5,rfl,JQ_,b25⟩
           rw [hCk.out] at JQ_
           obtain ⟨px_,ax_,nx_,cx_,bx_,mx_,dx_,rfl⟩ := JQ_.open
           go_wp2_with fail
           replace Jo := Jo.below b25
           replace h1 := h1.below b25
           replace h2 := h2.below b25
           replace h3 := h3.below b25
           replace h4 := h4.below b25
           replace Vo := Vo.below b25
           replace VQ_ := VQ_.below b25
           replace BB := BB.trans (b25.mono BB.size)
           clear b25
           refine hK.out _ _ ?_ (fun hH6 => ?_)
           ·exact ⟨Vo.1,Vo.2.1⟩
           clear hK K hH5
           (try simp only [Act.put,xL4,xL5,xL6])
           refine xR [9] (h := ?_)
           refine xN (h := fun K hK => ?_)
           have hKp := VQ_.keepJ (.bool px_) (.slice ax_ nx_ cx_) (.slice bx_ mx_ dx_)
           have Vo_n := Vo.other3 (R := R21) (by omega) (.bool px_) (.slice ax_ nx_ cx_) (.slice bx_ mx_ dx_)
           have VQ__n := VQ_.same (.bool px_) (.slice ax_ nx_ cx_) (.slice bx_ mx_ dx_)
           have Jo_n := Jo.keep hKp
           have h1_n := h1.keep hKp
           have h2_n := h2.keep hKp
           have h3_n := h3.keep hKp
           have h4_n := h4.keep hKp
           have JQ__n := JQ_.keep hKp
           have BB_n := below_store3 (R := R21) BB (by omega) (.bool px_) (.slice ax_ nx_ cx_) (.slice bx_ mx_ dx_)
           clear hKp
           obtain ⟨VQ__0,VQ__1,VQ__2,VQ__3,VQ__4,VQ__5⟩ := id VQ_
           go_simp
           clear VQ__0 VQ__1 VQ__2 VQ__3 VQ__4 VQ__5
           clear BB Jo h1 h2 h3 h4 JQ_ Vo VQ_
           generalize ((w25.setCell ⟨R21,0,none⟩ (.bool px_)).setCell ⟨R21,1,none⟩ (.slice ax_ nx_ cx_)).setCell ⟨R21,2,none⟩ (.slice bx_ mx_ dx_) = W22 at *
           have BB := BB_n
           have Jo := Jo_n
           have h1 := h1_n
           have h2 := h2_n
           have h3 := h3_n
           have h4 := h4_n
           have JQ_ := JQ__n
           have Vo := Vo_n
           have VQ_ := VQ__n
           clear BB_n Jo_n h1_n h2_n h3_n h4_n JQ__n Vo_n VQ__n
           refine hK.out _ _ ?_ (fun hH7 => ?_)
           ·exact ⟨Vo.1,Vo.2.1⟩
           clear hK K hH6
           (try simp only [Act.put,xL4,xL5,xL6])
           refine wpAnyH_done (by kernel_rfl) ?_ _
           clear hH7
           go_wp2_with fail
           go_meet
           exact ⟨R21,px_,ax_,nx_,cx_,bx_,mx_,dx_,rfl,by omega,VQ_,JQ_,BB⟩
          exact AllReadyH.nil
         refine xC (h := fun K hK => ?_) (hs := ?_)
         ·
          go_simp
          have hZ23 : wr.heap.size ≤ w15.heap.size := BB.size
          have hN23Vo : Ro ≠ w15.heap.size := Nat.ne_of_lt Vo.lt
          obtain ⟨W23,hW23,hS23,hL23,VQ_⟩ := V3.lay w15 35 (.bool false) (.slice none 0 0) (.slice none 0 0)
          replace Jo := Jo.below hL23
          replace h1 := h1.below hL23
          replace Vo := Vo.below hL23
          replace BB := BB.trans (hL23.mono BB.size)
          clear hL23
          rw [← hW23]
          generalize w15.heap.size = R23 at *
          clear hW23 hS23
          refine hK.out _ _ ?_ (fun hH2 => ?_)
          ·exact ⟨Vo.1,Vo.2.1⟩
          clear hK K hH1
          (try simp only [Act.put,xL4,xL5,xL6])
          refine xR [3] (h := ?_)
          refine xN (h := fun K hK => ?_)
          go_simp
          refine (rplus_any _ _ fn (k : Int) _ Jo h1 l10 l11).mono ?_
          rintro e w26 ⟨t2,rfl,h2,b26⟩
          go_wp2_with fail
          replace Jo := Jo.below b26
          replace h1 := h1.below b26
          replace Vo := Vo.below b26
          replace VQ_ := VQ_.below b26
          replace BB := BB.trans (b26.mono BB.size)
          clear b26
          refine hK.out _ _ ?_ (fun hH3 => ?_)
          ·exact ⟨Vo.1,Vo.2.1⟩
          clear hK K hH2
          (try simp only [Act.put,xL4,xL5,xL6])
          refine xR [4] (h := ?_)
          refine xN (h := fun K hK => ?_)
          go_simp
          refine (jwhole_at _ (fn + (k : Int)) 6 _ h2 lf2 (by omega)).mono ?_
          rintro e w27 ⟨t3,rfl,h3,b27⟩
          go_wp2_with fail
          replace Jo := Jo.below b27
          replace h1 := h1.below b27
          replace h2 := h2.below b27
          replace Vo := Vo.below b27
          replace VQ_ := VQ_.below b27
          replace BB := BB.trans (b27.mono BB.size)
          clear b27
          refine hK.out _ _ ?_ (fun hH4 => ?_)
          ·exact ⟨Vo.1,Vo.2.1⟩
          clear hK K hH3
          (try simp only [Act.put,xL4,xL5,xL6])
          refine xR [6] (h := ?_)
          refine xN (h := fun K hK => ?_)
          go_simp
          refine (jsmall_at 1 dd _ (by omega) (by omega) (by omega) (by omega)).mono ?_
          rintro e w28 ⟨t4,rfl,h4,b28⟩
          go_wp2_with fail
          replace Jo := Jo.below b28
          replace h1 := h1.below b28
          replace h2 := h2.below b28
          replace h3 := h3.below b28
          replace Vo := Vo.below b28
          replace VQ_ := VQ_.below b28
          replace BB := BB.trans (b28.mono BB.size)
          clear b28
          refine hK.out _ _ ?_ (fun hH5 => ?_)
          ·exact ⟨Vo.1,Vo.2.1⟩
          clear hK K hH4
          (try simp only [Act.put,xL4,xL5,xL6])
          refine xR [7] (h := ?_)
          refine xN (h := fun K hK => ?_)
          go_simp
          refine (jtimes_at _ _ ((fn + (k : Int) : Int) : Rat) (mkRat 1 dd) 6 2 _ h3 h4 (by omega)).mono ?_
          rintro e w29 ⟨t5,rfl,JQ_,b29⟩
          rw [hCk.out] at JQ_
          obtain ⟨px_,ax_,nx_,cx_,bx_,mx_,dx_,rfl⟩ := JQ_.open
          go_wp2_with fail
          replace Jo := Jo.below b29
          replace h1 := h1.below b29
          replace h2 := h2.below b29
          replace h3 := h3.below b29
          replace h4 := h4.below b29
          replace Vo := Vo.below b29
          replace VQ_ := VQ_.below b29
          replace BB := BB.trans (b29.mono BB.size)
          clear b29
          refine hK.out _ _ ?_ (fun hH6 => ?_)
          ·exact ⟨Vo.1,Vo.2.1⟩
          clear hK K hH5
          (try simp only [Act.put,xL4,xL5,xL6])
          refine xR [9] (h := ?_)
          refine xN (h := fun K hK => ?_)
          have hKp := VQ_.keepJ (.bool px_) (.slice ax_ nx_ cx_) (.slice bx_ mx_ dx_)
          have Vo_n := Vo.other3 (R := R23) (by omega) (.bool px_) (.slice ax_ nx_ cx_) (.slice bx_ mx_ dx_)
          have VQ__n := VQ_.same (.bool px_) (.slice ax_ nx_ cx_) (.slice bx_ mx_ dx_)
          have Jo_n := Jo.keep hKp
          have h1_n := h1.keep hKp
          have h2_n := h2.keep hKp
          have h3_n := h3.keep hKp
          have h4_n := h4.keep hKp
          have JQ__n := JQ_.keep hKp
          have BB_n := below_store3 (R := R23) BB (by omega) (.bool px_) (.slice ax_ nx_ cx_) (.slice bx_ mx_ dx_)
          clear hKp
          obtain ⟨VQ__0,VQ__1,VQ__2,VQ__3,VQ__4,VQ__5⟩ := id VQ_
          go_simp
          clear VQ__0 VQ__1 VQ__2 VQ__3 VQ__4 VQ__5
          clear BB Jo h1 h2 h3 h4 JQ_ Vo VQ_
          generalize ((w29.setCell ⟨R23,0,none⟩ (.bool px_)).setCell ⟨R23,1,none⟩ (.slice ax_ nx_ cx_)).setCell ⟨R23,2,none⟩ (.slice bx_ mx_ dx_) = W24 at *
          have BB := BB_n
          have Jo := Jo_n
          have h1 := h1_n
          have h2 := h2_n
          have h3 := h3_n
          have h4 := h4_n
          have JQ_ := JQ__n
          have Vo := Vo_n
          have VQ_ := VQ__n
          clear BB_n Jo_n h1_n h2_n h3_n h4_n JQ__n Vo_n VQ__n
          refine hK.out _ _ ?_ (fun hH7 => ?_)
          ·exact ⟨Vo.1,Vo.2.1⟩
          clear hK K hH6
          (try simp only [Act.put,xL4,xL5,xL6])
          refine wpAnyH_done (by kernel_rfl) ?_ _
          clear hH7
          go_wp2_with fail
          go_meet
          exact ⟨R23,px_,ax_,nx_,cx_,bx_,mx_,dx_,rfl,by omega,VQ_,JQ_,BB⟩
         exact AllReadyH.nil
        refine xC (h := fun K hK => ?_) (hs := ?_)
        ·
         go_simp
         have hZ25 : wr.heap.size ≤ W14.heap.size := BB.size
         have hN25Vo : Ro ≠ W14.heap.size := Nat.ne_of_lt Vo.lt
         obtain ⟨W25,hW25,hS25,hL25,VQ_⟩ := V3.lay W14 35 (.bool false) (.slice none 0 0) (.slice none 0 0)
         replace Jo := Jo.below hL25
         replace Vo := Vo.below hL25
         replace BB := BB.trans (hL25.mono BB.size)
         clear hL25
         rw [← hW25]
         generalize W14.heap.size = R25 at *
         clear hW25 hS25
         refine hK.out _ _ ?_ (fun hH1 => ?_)
         ·exact ⟨Vo.1,Vo.2.1⟩
         clear hK K hHeld
         (try simp only [Act.put,xL4,xL5,xL6])
         refine xR [2] (h := ?_)
         refine xN (h := fun K hK => ?_)
         go_simp
         refine (rsmall_any (k : Int) _ (by omega) (by omega)).mono ?_
         rintro e w30 ⟨t1,rfl,h1,b30⟩
         go_wp2_with fail
         replace Jo := Jo.below b30
         replace Vo := Vo.below b30
         replace VQ_ := VQ_.below b30
         replace BB := BB.trans (b30.mono BB.size)
         clear b30
         refine hK.out _ _ ?_ (fun hH2 => ?_)
         ·exact ⟨Vo.1,Vo.2.1⟩
         clear hK K hH1
         (try simp only [Act.put,xL4,xL5,xL6])
         refine xR [3] (h := ?_)
         refine xN (h := fun K hK => ?_)
         go_simp
         refine (rplus_any _ _ fn (k : Int) _ Jo h1 l10 l11).mono ?_
         rintro e w31 ⟨t2,rfl,h2,b31⟩
         go_wp2_with fail
         replace Jo := Jo.below b31
         replace h1 := h1.below b31
         replace Vo := Vo.below b31
         replace VQ_ := VQ_.below b31
         replace BB := BB.trans (b31.mono BB.size)
         clear b31
         refine hK.out _ _ ?_ (fun hH3 => ?_)
         ·exact ⟨Vo.1,Vo.2.1⟩
         clear hK K hH2
         (try simp only [Act.put,xL4,xL5,xL6])
         refine xR [4] (h := ?_)
         refine xN (h := fun K hK => ?_)
         go_simp
         refine (jwhole_at _ (fn + (k : Int)) 6 _ h2 lf2 (by omega)).mono ?_
         rintro e w32 ⟨t3,rfl,h3,b32⟩
         go_wp2_with fail
         replace Jo := Jo.below b32
         replace h1 := h1.below b32
         replace h2 := h2.below b32
         replace Vo := Vo.below b32
         replace VQ_ := VQ_.below b32
         replace BB := BB.trans (b32.mono BB.size)
         clear b32
         refine hK.out _ _ ?_ (fun hH4 => ?_)
         ·exact ⟨Vo.1,Vo.2.1⟩
         clear hK K hH3
         (try simp only [Act.put,xL4,xL5,xL6])
         refine xR [6] (h := ?_)
         refine xN (h := fun K hK => ?_)
         go_simp
         refine (jsmall_at 1 dd _ (by omega) (by omega) (by omega) (by omega)).mono ?_
         rintro e w33 ⟨t4,rfl,h4,b33⟩
         go_wp2_with fail
         replace Jo := Jo.below b33
         replace h1 := h1.below b33
         replace h2 := h2.below b33
         replace h3 := h3.below b33
         replace Vo := Vo.below b33
         replace VQ_ := VQ_.below b33
         replace BB := BB.trans (b33.mono BB.size)
         clear b33
         refine hK.out _ _ ?_ (fun hH5 => ?_)
         ·exact ⟨Vo.1,Vo.2.1⟩
         clear hK K hH4
         (try simp only [Act.put,xL4,xL5,xL6])
         refine xR [7] (h := ?_)
         refine xN (h := fun K hK => ?_)
         go_simp
         refine (jtimes_at _ _ ((fn + (k : Int) : Int) : Rat) (mkRat 1 dd) 6 2 _ h3 h4 (by omega)).mono ?_
         rintro e w34 ⟨t5,rfl,JQ_,b34⟩
         rw [hCk.out] at JQ_
         obtain ⟨px_,ax_,nx_,cx_,bx_,mx_,dx_,rfl⟩ := JQ_.open
         go_wp2_with fail
         replace Jo := Jo.below b34
         replace h1 := h1.below b34
         replace h2 := h2.below b34
         replace h3 := h3.below b34
         replace h4 := h4.below b34
         replace Vo := Vo.below b34
         replace VQ_ := VQ_.below b34
         replace BB := BB.trans (b34.mono BB.size)
         clear b34
         refine hK.out _ _ ?_ (fun hH6 => ?_)
         ·exact ⟨Vo.1,Vo.2.1⟩
         clear hK K hH5
         (try simp only [Act.put,xL4,xL5,xL6])
         refine xR [9] (h := ?_)
         refine xN (h := fun K hK => ?_)
         have hKp := VQ_.keepJ (.bool px_) (.slice ax_ nx_ cx_) (.slice bx_ mx_ dx_)
         have Vo_n := Vo.other3 (R := R25) (by omega) (.bool px_) (.slice ax_ nx_ cx_) (.slice bx_ mx_ dx_)
         have VQ__n := VQ_.same (.bool px_) (.slice ax_ nx_ cx_) (.slice bx_ mx_ dx_)
         have Jo_n := Jo.keep hKp
         have h1_n := h1.keep hKp
         have h2_n := h2.keep hKp
         have h3_n := h3.keep hKp
         have h4_n := h4.keep hKp
         have JQ__n := JQ_.keep hKp
         have BB_n := below_store3 (R := R25) BB (by omega) (.bool px_) (.slice ax_ nx_ cx_) (.slice bx_ mx_ dx_)
         clear hKp
         obtain ⟨VQ__0,VQ__1,VQ__2,VQ__3,VQ__4,VQ__5⟩ := id VQ_
         go_simp
         clear VQ__0 VQ__1 VQ__2 VQ__3 VQ__4 VQ__5
         clear BB Jo h1 h2 h3 h4 JQ_ Vo VQ_
         generalize ((w34.setCell ⟨R25,0,none⟩ (.bool px_)).setCell ⟨R25,1,none⟩ (.slice ax_ nx_ cx_)).setCell ⟨R25,2,none⟩ (.slice bx_ mx_ dx_) = W26 at *
         have BB := BB_n
         have Jo := Jo_n
         have h1 := h1_n
         have h2 := h2_n
         have h3 := h3_n
         have h4 := h4_n
         have JQ_ := JQ__n
         have Vo := Vo_n
         have VQ_ := VQ__n
         clear BB_n Jo_n h1_n h2_n h3_n h4_n JQ__n Vo_n VQ__n
         refine hK.out _ _ ?_ (fun hH7 => ?_)
         ·exact ⟨Vo.1,Vo.2.1⟩
         clear hK K hH6
         (try simp only [Act.put,xL4,xL5,xL6])
         refine wpAnyH_done (by kernel_rfl) ?_ _
         clear hH7
         go_wp2_with fail
         go_meet
         exact ⟨R25,px_,ax_,nx_,cx_,bx_,mx_,dx_,rfl,by omega,VQ_,JQ_,BB⟩
        exact AllReadyH.nil
       case rest =>
        obtain ⟨Ry,pxy,axy,nxy,cxy,bxy,mxy,dxy,rfl,hRy,Vy,Jy,hbW⟩ := hcut
        rename World => Wcy
        have hlyVB : R4 < wr.heap.size := VB.lt
        have hlyVX : R2 < wr.heap.size := VX.lt
        have hlyVS : R3 < wr.heap.size := VS.lt
        have hlyVo : Ro < wr.heap.size := Vo.lt
        replace Jb := Jb.below hbW
        replace Jx := Jx.below hbW
        replace Hs := Hs.below hbW
        replace ht := ht.below hbW
        replace Jo := Jo.below hbW
        replace VB := VB.below hbW
        replace VX := VX.below hbW
        replace VS := VS.below hbW
        replace Vo := Vo.below hbW
        replace BB := BB.trans (hbW.mono BB.size)
        clear hbW
        have HST : Hid (stepN q B0 dd (k + 1) = if absQ (cand q dd k + -q) < absQ (stepN q B0 dd k + -q) then cand q dd k else stepN q B0 dd k) := rfl
        generalize hyy : cand q dd k = yy at *
        generalize hbk : stepN q B0 dd k = bk at *
        clear hyy hbk
        generalize hoo : cmpQ (absQ (yy + -q)) (absQ (bk + -q)) = oo at *
        have HOL : Hid (oo < 0 ↔ absQ (yy + -q) < absQ (bk + -q)) := by show _ ↔ _; rw [← hoo]; exact cmpQ_below _ _
        go_wp2
        have hDr : Below Wcy.heap.size Wcy Wcy.drew := (Below.refl _ _).drew
        replace Jb := Jb.below hDr
        replace Jx := Jx.below hDr
        replace Hs := Hs.below hDr
        replace ht := ht.below hDr
        replace Jo := Jo.below hDr
        replace Jy := Jy.below hDr
        replace VB := VB.below hDr
        replace VX := VX.below hDr
        replace VS := VS.below hDr
        replace Vo := Vo.below hDr
        replace Vy := Vy.below hDr
        replace BB := BB.trans (hDr.mono BB.size)
        clear hDr
        refine wp_region_held_drew (S := (fun w' => w'.cell? ⟨Ry,0,none⟩ = some (.bool pxy) ∧ w'.cell? ⟨Ry,1,none⟩ = some (.slice axy nxy cxy) ∧ w'.cell? ⟨Ry,2,none⟩ = some (.slice bxy mxy dxy) ∧ w'.cell? ⟨R2,0,none⟩ = some (.bool px) ∧ w'.cell? ⟨R2,1,none⟩ = some (.slice ax nx cx) ∧ w'.cell? ⟨R2,2,none⟩ = some (.slice bx mx dx) ∧ w'.cell? ⟨R4,0,none⟩ = some (.bool pb) ∧ w'.cell? ⟨R4,1,none⟩ = some (.slice ab nb cb) ∧ w'.cell? ⟨R4,2,none⟩ = some (.slice bb mb db))) (by kernel_rfl) ?_ (fun hHeld => ?_)
        ·exact ⟨Vy.1,Vy.2.1,Vy.2.2.1,VX.1,VX.2.1,VX.2.2.1,VB.1,VB.2.1,VB.2.2.1⟩
        generalize Wcy.drew = W27 at *
        refine xT 0 (v := ?_) (hy := Or.inl ⟨by rfl,?_⟩) (h := ?_)
        rotate_left
        ·(intro w hSw; (try dsimp only at hSw); go_simp; (try with_reducible rfl))
        (try simp only [Act.put,xL4,xL5,xL6])
        refine xT 1 (v := ?_) (hy := Or.inl ⟨by rfl,?_⟩) (h := ?_)
        rotate_left
        ·(intro w hSw; (try dsimp only at hSw); go_simp; (try with_reducible rfl))
        (try simp only [Act.put,xL4,xL5,xL6])
        refine xT 5 (v := ?_) (hy := Or.inl ⟨by rfl,?_⟩) (h := ?_)
        rotate_left
        ·(intro w hSw; (try dsimp only at hSw); go_simp; (try with_reducible rfl))
        (try simp only [Act.put,xL4,xL5,xL6])
        refine xT 6 (v := ?_) (hy := Or.inl ⟨by rfl,?_⟩) (h := ?_)
        rotate_left
        ·(intro w hSw; (try dsimp only at hSw); go_simp; (try with_reducible rfl))
        (try simp only [Act.put,xL4,xL5,xL6])
        refine xR [2] (h := ?_)
        refine xN (h := fun K hK => ?_)
        go_simp
        refine (jminus_at _ q 2 _ Jx (by omega)).mono ?_
        rintro e w35 ⟨t1,rfl,h1,b35⟩
        go_wp2_with fail
        replace Jb := Jb.below b35
        replace Jx := Jx.below b35
        replace Hs := Hs.below b35
        replace ht := ht.below b35
        replace Jo := Jo.below b35
        replace Jy := Jy.below b35
        replace VB := VB.below b35
        replace VX := VX.below b35
        replace VS := VS.below b35
        replace Vo := Vo.below b35
        replace Vy := Vy.below b35
        replace BB := BB.trans (b35.mono BB.size)
        clear b35
        refine hK.out _ _ ?_ (fun hH1 => ?_)
        ·exact ⟨Vy.1,Vy.2.1,Vy.2.2.1,VX.1,VX.2.1,VX.2.2.1,VB.1,VB.2.1,VB.2.2.1⟩
        clear hK K hHeld
        (try simp only [Act.put,xL4,xL5,xL6])
        refine xR [3] (h := ?_)
        refine xN (h := fun K hK => ?_)
        go_simp
        refine (jplus_at _ _ yy (-q) 8 2 _ Jy h1 (by omega)).mono ?_
        rintro e w36 ⟨t2,rfl,h2,b36⟩
        go_wp2_with fail
        replace Jb := Jb.below b36
        replace Jx := Jx.below b36
        replace Hs := Hs.below b36
        replace ht := ht.below b36
        replace Jo := Jo.below b36
        replace Jy := Jy.below b36
        replace h1 := h1.below b36
        replace VB := VB.below b36
        replace VX := VX.below b36
        replace VS := VS.below b36
        replace Vo := Vo.below b36
        replace Vy := Vy.below b36
        replace BB := BB.trans (b36.mono BB.size)
        clear b36
        refine hK.out _ _ ?_ (fun hH2 => ?_)
        ·exact ⟨Vy.1,Vy.2.1,Vy.2.2.1,VX.1,VX.2.1,VX.2.2.1,VB.1,VB.2.1,VB.2.2.1⟩
        clear hK K hH1
        (try simp only [Act.put,xL4,xL5,xL6])
        refine xR [4] (h := ?_)
        refine xN (h := fun K hK => ?_)
        go_simp
        refine (jabs_at _ (yy + -q) 11 _ h2 (by omega)).mono ?_
        rintro e w37 ⟨t3,rfl,h3,b37⟩
        go_wp2_with fail
        replace Jb := Jb.below b37
        replace Jx := Jx.below b37
        replace Hs := Hs.below b37
        replace ht := ht.below b37
        replace Jo := Jo.below b37
        replace Jy := Jy.below b37
        replace h1 := h1.below b37
        replace h2 := h2.below b37
        replace VB := VB.below b37
        replace VX := VX.below b37
        replace VS := VS.below b37
        replace Vo := Vo.below b37
        replace Vy := Vy.below b37
        replace BB := BB.trans (b37.mono BB.size)
        clear b37
        refine hK.out _ _ ?_ (fun hH3 => ?_)
        ·exact ⟨Vy.1,Vy.2.1,Vy.2.2.1,VX.1,VX.2.1,VX.2.2.1,VB.1,VB.2.1,VB.2.2.1⟩
        clear hK K hH2
        (try simp only [Act.put,xL4,xL5,xL6])
        refine xR [7] (h := ?_)
        refine xN (h := fun K hK => ?_)
        go_simp
        refine (jminus_at _ q 2 _ Jx (by omega)).mono ?_
        rintro e w38 ⟨t4,rfl,h4,b38⟩
        go_wp2_with fail
        replace Jb := Jb.below b38
        replace Jx := Jx.below b38
        replace Hs := Hs.below b38
        replace ht := ht.below b38
        replace Jo := Jo.below b38
        replace Jy := Jy.below b38
        replace h1 := h1.below b38
        replace h2 := h2.below b38
        replace h3 := h3.below b38
        replace VB := VB.below b38
        replace VX := VX.below b38
        replace VS := VS.below b38
        replace Vo := Vo.below b38
        replace Vy := Vy.below b38
        replace BB := BB.trans (b38.mono BB.size)
        clear b38
        refine hK.out _ _ ?_ (fun hH4 => ?_)
        ·exact ⟨Vy.1,Vy.2.1,Vy.2.2.1,VX.1,VX.2.1,VX.2.2.1,VB.1,VB.2.1,VB.2.2.1⟩
        clear hK K hH3
        (try simp only [Act.put,xL4,xL5,xL6])
        refine xR [8] (h := ?_)
        refine xN (h := fun K hK => ?_)
        go_simp
        refine (jplus_at _ _ bk (-q) 20 2 _ Jb h4 (by omega)).mono ?_
        rintro e w39 ⟨t5,rfl,h5,b39⟩
        go_wp2_with fail
        replace Jb := Jb.below b39
        replace Jx := Jx.below b39
        replace Hs := Hs.below b39
        replace ht := ht.below b39
        replace Jo := Jo.below b39
        replace Jy := Jy.below b39
        replace h1 := h1.below b39
        replace h2 := h2.below b39
        replace h3 := h3.below b39
        replace h4 := h4.below b39
        replace VB := VB.below b39
        replace VX := VX.below b39
        replace VS := VS.below b39
        replace Vo := Vo.below b39
        replace Vy := Vy.below b39
        replace BB := BB.trans (b39.mono BB.size)
        clear b39
        refine hK.out _ _ ?_ (fun hH5 => ?_)
        ·exact ⟨Vy.1,Vy.2.1,Vy.2.2.1,VX.1,VX.2.1,VX.2.2.1,VB.1,VB.2.1,VB.2.2.1⟩
        clear hK K hH4
        (try simp only [Act.put,xL4,xL5,xL6])
        refine xR [9] (h := ?_)
        refine xN (h := fun K hK => ?_)
        go_simp
        refine (jabs_at _ (bk + -q) 23 _ h5 (by omega)).mono ?_
        rintro e w40 ⟨t6,rfl,h6,b40⟩
        go_wp2_with fail
        replace Jb := Jb.below b40
        replace Jx := Jx.below b40
        replace Hs := Hs.below b40
        replace ht := ht.below b40
        replace Jo := Jo.below b40
        replace Jy := Jy.below b40
        replace h1 := h1.below b40
        replace h2 := h2.below b40
        replace h3 := h3.below b40
        replace h4 := h4.below b40
        replace h5 := h5.below b40
        replace VB := VB.below b40
        replace VX := VX.below b40
        replace VS := VS.below b40
        replace Vo := Vo.below b40
        replace Vy := Vy.below b40
        replace BB := BB.trans (b40.mono BB.size)
        clear b40
        refine hK.out _ _ ?_ (fun hH6 => ?_)
        ·exact ⟨Vy.1,Vy.2.1,Vy.2.2.1,VX.1,VX.2.1,VX.2.2.1,VB.1,VB.2.1,VB.2.2.1⟩
        clear hK K hH5
        (try simp only [Act.put,xL4,xL5,xL6])
        refine xR [10] (h := ?_)
        refine xN (h := fun K hK => ?_)
        go_simp
        refine (jorder_at _ _ (absQ (yy + -q)) (absQ (bk + -q)) 11 23 _ h3 h6 (by omega)).mono ?_
        rintro e w41 ⟨rfl,b41⟩
        rw [hoo]
        go_wp2_with fail
        replace Jb := Jb.below b41
        replace Jx := Jx.below b41
        replace Hs := Hs.below b41
        replace ht := ht.below b41
        replace Jo := Jo.below b41
        replace Jy := Jy.below b41
        replace h1 := h1.below b41
        replace h2 := h2.below b41
        replace h3 := h3.below b41
        replace h4 := h4.below b41
        replace h5 := h5.below b41
        replace h6 := h6.below b41
        replace VB := VB.below b41
        replace VX := VX.below b41
        replace VS := VS.below b41
        replace Vo := Vo.below b41
        replace Vy := Vy.below b41
        replace BB := BB.trans (b41.mono BB.size)
        clear b41
        refine hK.out _ _ ?_ (fun hH7 => ?_)
        ·exact ⟨Vy.1,Vy.2.1,Vy.2.2.1,VX.1,VX.2.1,VX.2.2.1,VB.1,VB.2.1,VB.2.2.1⟩
        clear hK K hH6
        (try simp only [Act.put,xL4,xL5,xL6])
        refine xT 11 (v := ?_) (hy := Or.inl ⟨by rfl,?_⟩) (h := ?_)
        rotate_left
        ·(intro w hSw; (try dsimp only at hSw); go_simp; (try with_reducible rfl))
        (try simp only [Act.put,xL4,xL5,xL6])
        refine wpAnyH_done (by kernel_rfl) ?_ _
        clear hH7
        clear h1 h2 h3 h4 h5 h6
        clear hoo
        by_cases ho : oo < 0
        ·have HS1 : Hid (stepN q B0 dd (k + 1) = yy) := by show _ = _; rw [HST.out,if_pos (HOL.out.1 ho)]
         clear HST HOL
         obtain ⟨i0,i1,i2,i3,i4,i5⟩ := id Vy
         have hKp := VB.keepJ (.bool pxy) (.slice axy nxy cxy) (.slice bxy mxy dxy)
         have VX_n := VX.other3 (R := R4) (by omega) (.bool pxy) (.slice axy nxy cxy) (.slice bxy mxy dxy)
         have VS_n := VS.other3 (R := R4) (by omega) (.bool pxy) (.slice axy nxy cxy) (.slice bxy mxy dxy)
         have Vo_n := Vo.other3 (R := R4) (by omega) (.bool pxy) (.slice axy nxy cxy) (.slice bxy mxy dxy)
         have Vy_n := Vy.other3 (R := R4) (by omega) (.bool pxy) (.slice axy nxy cxy) (.slice bxy mxy dxy)
         have VB_n := VB.same (.bool pxy) (.slice axy nxy cxy) (.slice bxy mxy dxy)
         have Jb_n := Jb.keep hKp
         have Jx_n := Jx.keep hKp
         have Hs_n := Hs.keep hKp
         have ht_n := ht.keep hKp
         have Jo_n := Jo.keep hKp
         have Jy_n := Jy.keep hKp
         have BB_n := below_store3 (R := R4) BB (by omega) (.bool pxy) (.slice axy nxy cxy) (.slice bxy mxy dxy)
         clear hKp
         obtain ⟨VB_0,VB_1,VB_2,VB_3,VB_4,VB_5⟩ := id VB
         go_wp2
         clear VB_0 VB_1 VB_2 VB_3 VB_4 VB_5
         clear BB Jb Jx Hs ht Jo Jy VB VX VS Vo Vy
         generalize ((w41.setCell ⟨R4,0,none⟩ (.bool pxy)).setCell ⟨R4,1,none⟩ (.slice axy nxy cxy)).setCell ⟨R4,2,none⟩ (.slice bxy mxy dxy) = W28 at *
         have BB := BB_n
         have Jb := Jb_n
         have Jx := Jx_n
         have Hs := Hs_n
         have ht := ht_n
         have Jo := Jo_n
         have Jy := Jy_n
         have VB := VB_n
         have VX := VX_n
         have VS := VS_n
         have Vo := Vo_n
         have Vy := Vy_n
         clear BB_n Jb_n Jx_n Hs_n ht_n Jo_n Jy_n VB_n VX_n VS_n Vo_n Vy_n
         clear i0 i1 i2 i3 i4 i5
         go_roundw
         case rel => exact ⟨k + 1,pxy,axy,nxy,cxy,bxy,mxy,dxy,by omega,by go_num,VB,by rw [HS1.out]; exact Jy.le (by omega),VX,VS,Jx,Hs,ht,BB,Vo,Jo⟩
         case measure => simp [intOf]; omega
        ·have HS1 : Hid (stepN q B0 dd (k + 1) = bk) := by show _ = _; rw [HST.out,if_neg (fun g => ho (HOL.out.2 g))]
         clear HST HOL
         go_wp2
         go_roundw
         case rel => exact ⟨k + 1,pb,ab,nb,cb,bb,mb,db,by omega,by go_num,VB,by rw [HS1.out]; exact Jb,VX,VS,Jx,Hs,ht,BB,Vo,Jo⟩
         case measure => simp [intOf]; omega
      ·obtain rfl : k = 2 := by omega
       rw [HB1.out,HDD.out,step_two] at Jb
       have HDI : Hid ((dd : Int) + 1 = ((d + 1 + 1 : Nat) : Int)) := by show _ = _; have := HDD.out; omega
       go_wp2
       go_roundw
       case rel => exact ⟨d + 1,pb,ab,nb,cb,bb,mb,db,by omega,by first | go_num | (rw [← HDI.out]),VB,Jb,VX,VS,Jx,Hs,ht,BB⟩
       case measure => have := HDD.out; simp [intOf]; omega
   ·obtain rfl : d = M := by omega
    have c4 : ¬ ((d + 1 : Nat) : Int) ≤ (d : Int) := by omega
    have c5 : ¬ (d : Int) + 1 ≤ (d : Int) := by omega
    obtain ⟨VB_0,VB_1,VB_2,VB_3,VB_4,VB_5⟩ := id VB
    obtain ⟨VS_0,VS_1,VS_2,VS_3,VS_4,VS_5⟩ := id VS
    go_wp2_with fail
    clear VB_0 VB_1 VB_2 VB_3 VB_4 VB_5 VS_0 VS_1 VS_2 VS_3 VS_4 VS_5
    refine (jis_at _ _ (bestN q d) 6 20 _ Hs sn Jb (by omega)).mono ?_
    rintro e w66 ⟨rfl,b66⟩
    replace Jb := Jb.below b66
    replace Jx := Jx.below b66
    replace Hs := Hs.below b66
    replace ht := ht.below b66
    replace VB := VB.below b66
    replace VX := VX.below b66
    replace VS := VS.below b66
    replace BB := BB.trans (b66.mono BB.size)
    clear b66
    go_wp2_with fail
    refine (qawake_at _ ht).mono ?_
    rintro e w67 ⟨rfl,b67⟩
    replace Jb := Jb.below b67
    replace Jx := Jx.below b67
    replace Hs := Hs.below b67
    replace ht := ht.below b67
    replace VB := VB.below b67
    replace VX := VX.below b67
    replace VS := VS.below b67
    replace BB := BB.trans (b67.mono BB.size)
    clear b67
    go_wp2
    go_ret
    exact ⟨rfl,BB⟩

theorem own : ownKnob Tryz.prog.godebug = none := by kernel_rfl
theorem laidOut : laidOutB Tryz.prog = true := by kernel_rfl

abbrev laid1 : List (String × DataW Unit) := [("math/bits.deBruijn64tab",Rows.laid_math_bits_deBruijn64tab)]
theorem gTab : Tryz.prog.globalNamed "math/bits.deBruijn64tab" = some 1 := by kernel_rfl
theorem gTabType : (Tryz.prog.globals[1]?).map (·.type) = some 182 := by kernel_rfl
theorem uTab : Tryz.prog.underlying 182 = some (.array 64 5) := by kernel_rfl
theorem uCell : Tryz.prog.underlying 5 = some (.int .u8) := by kernel_rfl
theorem cCell : Tryz.prog.cellsOf 5 = 1 := by kernel_rfl
theorem cTab : Tryz.prog.cellsOf 182 = 64 := by kernel_rfl
/-- The listed table lies in its cells. -/
theorem tab_of {W : World} (h : laidMetH Tryz.prog laid1 W) : Tab W := by
 rw [MakeChecks.laidMetH_plain _ _ _ (by kernel_rfl)] at h
 have hd : laid1 = [("math/bits.deBruijn64tab",Lib.tabData .u8 (Lib.deBruijn64tab.map fun (n : Nat) => Int.ofNat n))] := rfl
 rw [hd] at h
 have hT := Lib.tabIs_of_head gTab gTabType uTab uCell cCell cTab h
 intro i hi
 have hc := hT.cell gTab i (by rw [List.length_map]; exact hi)
 rw [hc]
 congr 2
 rw [List.getD_eq_getElem?_getD,List.getElem?_map,List.getD_eq_getElem?_getD]
 cases Lib.deBruijn64tab[i]? <;> rfl
/-- A start for the witness: the heap that the run of the program's own initialisers leaves. -/
noncomputable def startW (os : Os) : World := { World.holding Tryz.prog os ⟨#[],#[],[]⟩ with heap := (varsWorld Tryz.prog 400 (varsId Tryz.prog) os (fun _ _ => 0)).heap }
theorem start_met (os : Os) (args : Array Value) : laidMetH Tryz.prog laid1 ((startW os).forCall (fun _ _ => 0) ⟨#[],args,[]⟩).memory :=
 laidMetH_of_parts3 (fuel := 8) (laidMet_of_run' 8 (by kernel_rfl) (by kernel_rfl)) (by kernel_rfl) (by kernel_rfl)

set_option maxRecDepth 100000 in
theorem lifted (os : Os) (started : os.Started) (H : Type) (enc : TypeId × Value → H) :
  ReturnsInHanded {} Tryz.checked os 3 .any (fun w args => (Rows.ratioNearsSpec.pre enc Tryz.prog Tryz.f3 [] false w args ∧ laidMetH Tryz.prog laid1 w) ∧ sizedMet enc Tryz.prog Tryz.f3 (OpenSpec.ofChange Rows.ratioNearsSpec) false w args) (Rows.ratioNearsSpec.post enc Tryz.prog Tryz.f3 false true false false) := by
 refine returnsInHanded_of_change_and (C := Tryz.checked) (X := fun w _ => laidMetH Tryz.prog laid1 w) (fun _ _ _ hh h => h.of_heap hh) own started (by kernel_rfl) Tryz.func3
  (ChangeSpec.witness_shaped (enc := enc) (C := Tryz.checked) (os := os) (X := fun w _ => laidMetH Tryz.prog laid1 w) false (startW os) #[.agg #[.bool false,.slice none 0 0,.slice none 0 0],.int .i64 0] 8 rfl (World.shaped_of_RefB (by kernel_rfl) (by kernel_rfl)) (by kernel_rfl) (by kernel_rfl) (by kernel_rfl) (start_met os _)) ?_
 intro W base args ds gs before hval0 hW _ _ hL _
 have hval : ∀ (j : Nat) t v,Tryz.f3.params[j]? = some t → args[j]? = some v → Value.okWide Tryz.prog W .any base t v := hval0
 have hW' := hW
 obtain ⟨p,q,hA0,hV,rfl,hfz,hnd⟩ := hW
 have hA : DataW.TrodAll enc Tryz.prog W 0 (fun _ => true) true Tryz.f3.params.toList args.toList ds p := hA0
 rw [Tryz.params3] at hA hval
 obtain ⟨v0,vs0,d0,ds0,p0,q0,hargs,rfl,rfl,h0,r0⟩ := trodAll_cons hA
 obtain ⟨v1,vs1,d1,ds1,p1,q1,rfl,rfl,rfl,h1,r1⟩ := trodAll_cons r0
 obtain ⟨rfl,rfl,rfl⟩ := trodAll_nil r1
 obtain rfl : args = #[v0,v1] := by cases args; simp_all
 obtain ⟨rfl,rfl⟩ := trodVars_none hV
 have k0 := h0
 have lt0 : ∀ x ∈ p0,x.block < W.heap.size := by obtain ⟨m,hm⟩ := k0; exact DataW.trod_lt m _ _ _ hm
 obtain ⟨neg0,ao0,n0,c0,bo0,m0,d0,f0,g0,rfl,w0,x0⟩ := open_wrat (hval 0 27 v0 rfl rfl) h0
 obtain ⟨a1,rfl,rfl,rfl,w1⟩ := open_int Tryz.underlying3 (hval 1 3 v1 rfl rfl) h1
 clear hA0 hval0
 refine (walk _ _ _ _ _ _ _ _ _ a1 W w0 x0 w1 (tab_of hL)).mono fun e W' ⟨he,bel⟩ => ?_
 subst he
 exact ⟨_,rfl,_,_,_,[],_,[],hW',trodAll_mk1 (shut_bool Tryz.underlying4 _),(trodAll_cons_mk (Below.trod laidOut (by kernel_rfl) (of_decide_eq_true (by kernel_rfl)) k0 bel lt0) (trodAll_cons_mk (shut_int Tryz.underlying3 w1) trodAll_mk0)),rfl,bel.frame _,fun h => by cases h⟩

theorem over : Rows.ratioNearsRow.holds Tryz.pinned (OpenSpec.ofChange Rows.ratioNearsSpec) :=
 OpenClaim.holds_of_wide 3 Tryz.f3 rfl rfl rfl rfl rfl rfl rfl ⟨rfl,rfl,rfl,rfl,rfl⟩ rfl rfl rfl rfl rfl (by kernel_rfl) Tryz.func3 (by kernel_rfl)
  (of_decide_eq_true (by kernel_rfl)) (by unfold Func.isWrapper; first | (rw [if_pos (by decide +kernel)]; kernel_rfl) | (rw [if_neg (by decide +kernel)]; exact ⟨rfl,rfl⟩))
  (fun os started H enc _ => lifted os started H enc)

end Go.Proofs.YtpgioggbepdjpaaGreatDoor.ratioNears
namespace Go.Proofs.YtpgioggbepdjpaaGreatDoor
/-- The statement: the row, tied to the text of the program. -/
theorem ratioNears_holds : Rows.RatioNearsCardSaid :=
 Claim7.holds_tied_plain_at .later [] [.data] true (true,"51394e755401dc49060e326d79ca5809954e3cac7b87752ebd6f82bbdd028512") false
  ratioNears.over (fun _ h => by cases h) (by kernel_rfl) (fun _ h => by cases h) ratioNears_row_tie rfl ⟨rfl,rfl⟩ (by kernel_rfl) rfl
  (fun f fn hf hfn => by
   obtain rfl : f = 3 := Option.some.inj ((show Tryz.prog.funcNamed "dendron/dendronlaw03.RatioNears" = some 3 by kernel_rfl).symm.trans hf) |>.symm
   obtain rfl : fn = Tryz.f3 := (Option.some.inj (Tryz.func3.symm.trans hfn)).symm
   exact ⟨by kernel_rfl,fun j t ht => by
    rw [Tryz.params3] at ht
    have hm : t ∈ [27,3] := by simpa using Array.mem_of_getElem? ht
    have hall : ([27,3].all fun u => !Tryz.prog.wantsStandIn u) = true := by kernel_rfl
    exact (show Tryz.prog.wantsStandIn t = false by simpa using List.all_eq_true.1 hall t hm)⟩)
  (by kernel_rfl)
end Go.Proofs.YtpgioggbepdjpaaGreatDoor
