/-
 Proves that Simplest answers the simplest number from one number of up to 2 limbs to another one,as the search over all divisors up to 60 finds it,or that there is none (the statement RatioSimplest,its tied card); the table of math/bits lies as the program's text lays it; no other condition.
-/
import Derived.Test.YtmbmboiefhmfmaaGreatDoorRows
import Derived.Test.YtmbmboiefhmfmaaGreatDoorJd511a43bc4
import Derived.Test.YtmbmboiefhmfmaaGreatDoorJda4a51560d
import Derived.WalkKit
import Derived.ProofKit
import Derived.OpenShut
import Derived.ShutString
import Derived.ChangeOld
import Derived.Below
import Derived.Test.YtmbmboiefhmfmaaGreatDoorTie
import Derived.Test.YtmbmboiefhmfmaaGreatDoorCards
import Derived.LaidByTextLater
import Derived.LaidHandle
import Derived.Lib.LaidTab
import Derived.SevenTiedAt
namespace Go.Proofs.YtmbmboiefhmfmaaGreatDoor.ratioSimplest
open Go.ChangeShapes Go.WideShapes Go.ChangeAt Go.RowKit
open Go.ChangeMaps (open_string shut_string)
set_option linter.unusedVariables false
set_option linter.unusedSimpArgs false

set_option linter.unusedSimpArgs false
theorem simp_any (u v : Value) (a b : Rat) (L : Nat) (w : World) (hu : RatAt w u a L) (hv : RatAt w v b L) (ht : Tab w) (hL : 1 ≤ L) (hM : L ≤ 10) (hab : a ≤ b) :
  Calls Tryz.prog 29 #[u,v] w fun e w' => ∃ x r,e = .returned (.tuple #[x,.int .i64 0]) ∧ RepQ w' x r ∧ SimpRel a b r ∧ Below w.heap.size w w' := by
 by_cases ha : 0 < a
 ·refine (simp_above u v a b L w hu hv ht hL hM ha hab).mono ?_
  rintro e w1 ⟨x,r,rfl,h1,h2,h3⟩
  exact ⟨x,r,rfl,h1,Or.inl ⟨ha,h2⟩,h3⟩
 ·by_cases hb : b < 0
  ·refine (simp_below u v a b L w hu hv ht hL hM hb hab).mono ?_
   rintro e w1 ⟨x,r,rfl,h1,h2,h3⟩
   exact ⟨x,-r,rfl,h1,Or.inr (Or.inl ⟨hb,by rw [Rat.neg_neg]; exact h2⟩),h3⟩
  ·refine (simp_zero u v a b L w hu hv ht hL hM (Rat.not_lt.1 ha) (Rat.not_lt.1 hb)).mono ?_
   rintro e w1 ⟨x,rfl,h1,h3⟩
   exact ⟨x,0,rfl,h1,Or.inr (Or.inr ⟨Rat.not_lt.1 ha,Rat.not_lt.1 hb,rfl⟩),h3⟩
set_option maxRecDepth 100000 in
set_option maxHeartbeats 16000000 in
theorem walk (p : Bool) (ao0 : Option Addr) (n0 c0 : Nat) (bo0 : Option Addr) (m0 d0 : Nat) (f g : Nat → Int) (p2 : Bool) (ao2 : Option Addr) (n2 c2 : Nat) (bo2 : Option Addr) (m2 d2 : Nat) (f2 g2 : Nat → Int) (w : World) (ha1 : Raw w (.slice ao0 n0 c0) n0 f) (ha2 : Raw w (.slice bo0 m0 d0) m0 g) (hb1 : Raw w (.slice ao2 n2 c2) n2 f2) (hb2 : Raw w (.slice bo2 m2 d2) m2 g2) (ht : Tab w) :
  Calls Tryz.prog 5 #[.agg #[.bool p,.slice ao0 n0 c0,.slice bo0 m0 d0],.agg #[.bool p2,.slice ao2 n2 c2,.slice bo2 m2 d2]] w fun e w' => e = .returned (.bool true) ∧ Below w.heap.size w w' := by
 have BB : Below w.heap.size w w := Below.refl _ _
 obtain ⟨Wb0,hW0,hS0,hL0,VA⟩ := V3.lay w 27 (.bool p) (.slice ao0 n0 c0) (.slice bo0 m0 d0)
 replace ha1 := ha1.below hL0
 replace ha2 := ha2.below hL0
 replace hb1 := hb1.below hL0
 replace hb2 := hb2.below hL0
 replace ht := ht.below hL0
 replace BB := BB.trans (hL0.mono BB.size)
 clear hL0
 obtain ⟨Wb1,hW1,hS1,hL1,VB⟩ := V3.lay Wb0 27 (.bool p2) (.slice ao2 n2 c2) (.slice bo2 m2 d2)
 rw [hS0] at VB hS1
 replace ha1 := ha1.below hL1
 replace ha2 := ha2.below hL1
 replace hb1 := hb1.below hL1
 replace hb2 := hb2.below hL1
 replace ht := ht.below hL1
 replace VA := VA.below hL1
 replace BB := BB.trans (hL1.mono BB.size)
 clear hL1
 go_enter Tryz.func5,Tryz.ntmps5
 go_wp2_with fail
 rw [← hW0]
 rw [← hW1]
 clear hW0 hW1 hS0 hS1
 refine (tiny_at _ _ _ _ _ _ _ _ ha1 ha2).mono ?_
 rintro e w1 ⟨ao,c,bo,d,rfl,u1,u2,u3,u4,b1⟩
 replace ha1 := ha1.below b1
 replace ha2 := ha2.below b1
 replace hb1 := hb1.below b1
 replace hb2 := hb2.below b1
 replace ht := ht.below b1
 replace VA := VA.below b1
 replace VB := VB.below b1
 replace BB := BB.trans (b1.mono BB.size)
 clear b1
 have k1 : min n0 2 ≤ 2 := Nat.min_le_right _ _
 have k2 : min m0 2 ≤ 2 := Nat.min_le_right _ _
 generalize min n0 2 = n at *
 generalize min m0 2 = m at *
 clear ha1 ha2
 have hKp := VA.keepJ (.bool p) (.slice ao n c) (.slice bo m d)
 have VB_n := VB.other3 (R := w.heap.size) (by omega) (.bool p) (.slice ao n c) (.slice bo m d)
 have VA_n := VA.same (.bool p) (.slice ao n c) (.slice bo m d)
 have hb1_n := hb1.keep hKp
 have hb2_n := hb2.keep hKp
 have ht_n := ht.keep hKp
 have u1_n := u1.keep hKp
 have u3_n := u3.keep hKp
 have BB_n := below_store3 (R := w.heap.size) BB (by omega) (.bool p) (.slice ao n c) (.slice bo m d)
 clear hKp
 obtain ⟨VA_0,VA_1,VA_2,VA_3,VA_4,VA_5⟩ := id VA
 obtain ⟨VB_n0,VB_n1,VB_n2,VB_n3,VB_n4,VB_n5⟩ := id VB_n
 go_wp2_with fail
 clear VA_0 VA_1 VA_2 VA_3 VA_4 VA_5 VB_n0 VB_n1 VB_n2 VB_n3 VB_n4 VB_n5
 clear BB hb1 hb2 ht u1 u3 VA VB
 generalize ((w1.setCell ⟨w.heap.size,0,none⟩ (.bool p)).setCell ⟨w.heap.size,1,none⟩ (.slice ao n c)).setCell ⟨w.heap.size,2,none⟩ (.slice bo m d) = W1 at *
 have BB := BB_n
 have hb1 := hb1_n
 have hb2 := hb2_n
 have ht := ht_n
 have u1 := u1_n
 have u3 := u3_n
 have VA := VA_n
 have VB := VB_n
 clear BB_n hb1_n hb2_n ht_n u1_n u3_n VA_n VB_n
 have Ia : RatAt W1 _ _ 2 := RatAt.raw (p := p) u1 u2 u3 u4 k1 k2
 clear u1 u3
 clear k1 k2 u2 u4
 generalize mkRat (zof p (num f n)) (num g m) = a at *
 refine (tiny_at _ _ _ _ _ _ _ _ hb1 hb2).mono ?_
 rintro e w2 ⟨ao3,c3,bo3,d3,rfl,u1,u2,u3,u4,b2⟩
 replace hb1 := hb1.below b2
 replace hb2 := hb2.below b2
 replace ht := ht.below b2
 replace Ia := Ia.below b2
 replace VA := VA.below b2
 replace VB := VB.below b2
 replace BB := BB.trans (b2.mono BB.size)
 clear b2
 have k1 : min n2 2 ≤ 2 := Nat.min_le_right _ _
 have k2 : min m2 2 ≤ 2 := Nat.min_le_right _ _
 generalize min n2 2 = n3 at *
 generalize min m2 2 = m3 at *
 clear hb1 hb2
 have hKp := VB.keepJ (.bool p2) (.slice ao3 n3 c3) (.slice bo3 m3 d3)
 have VA_n := VA.other3 (R := w.heap.size + 1) (by omega) (.bool p2) (.slice ao3 n3 c3) (.slice bo3 m3 d3)
 have VB_n := VB.same (.bool p2) (.slice ao3 n3 c3) (.slice bo3 m3 d3)
 have ht_n := ht.keep hKp
 have Ia_n := Ia.keep hKp
 have u1_n := u1.keep hKp
 have u3_n := u3.keep hKp
 have BB_n := below_store3 (R := w.heap.size + 1) BB (by omega) (.bool p2) (.slice ao3 n3 c3) (.slice bo3 m3 d3)
 clear hKp
 obtain ⟨VB_0,VB_1,VB_2,VB_3,VB_4,VB_5⟩ := id VB
 obtain ⟨VA_n0,VA_n1,VA_n2,VA_n3,VA_n4,VA_n5⟩ := id VA_n
 go_wp2_with fail
 clear VB_0 VB_1 VB_2 VB_3 VB_4 VB_5 VA_n0 VA_n1 VA_n2 VA_n3 VA_n4 VA_n5
 clear BB ht Ia u1 u3 VA VB
 generalize ((w2.setCell ⟨w.heap.size + 1,0,none⟩ (.bool p2)).setCell ⟨w.heap.size + 1,1,none⟩ (.slice ao3 n3 c3)).setCell ⟨w.heap.size + 1,2,none⟩ (.slice bo3 m3 d3) = W2 at *
 have BB := BB_n
 have ht := ht_n
 have Ia := Ia_n
 have u1 := u1_n
 have u3 := u3_n
 have VA := VA_n
 have VB := VB_n
 clear BB_n ht_n Ia_n u1_n u3_n VA_n VB_n
 have Ib : RatAt W2 _ _ 2 := RatAt.raw (p := p2) u1 u2 u3 u4 k1 k2
 clear u1 u3
 clear k1 k2 u2 u4
 generalize mkRat (zof p2 (num f2 n3)) (num g2 m3) = b at *
 have sa := Ia.qsz (by omega)
 have sb := Ib.qsz (by omega)
 refine (jfrom_at _ a 2 _ Ia (by omega) (by omega)).mono ?_
 rintro e w3 ⟨vx,rfl,Jx,b3⟩
 replace ht := ht.below b3
 replace Ia := Ia.below b3
 replace Ib := Ib.below b3
 replace VA := VA.below b3
 replace VB := VB.below b3
 replace BB := BB.trans (b3.mono BB.size)
 clear b3
 obtain ⟨px,ax,nx,cx,bx,mx,dx,rfl⟩ := Jx.open
 have hZ3 : w.heap.size ≤ w3.heap.size := BB.size
 have hN3VA : w.heap.size ≠ w3.heap.size := Nat.ne_of_lt VA.lt
 have hN3VB : w.heap.size + 1 ≠ w3.heap.size := Nat.ne_of_lt VB.lt
 obtain ⟨W3,hW3,hS3,hL3,VX⟩ := V3.lay w3 38 (.bool px) (.slice ax nx cx) (.slice bx mx dx)
 replace ht := ht.below hL3
 replace Ia := Ia.below hL3
 replace Ib := Ib.below hL3
 replace Jx := Jx.below hL3
 replace VA := VA.below hL3
 replace VB := VB.below hL3
 replace BB := BB.trans (hL3.mono BB.size)
 clear hL3
 obtain ⟨VB_0,VB_1,VB_2,VB_3,VB_4,VB_5⟩ := id VB
 rw [hW3] at VB_0 VB_1 VB_2 VB_3 VB_4 VB_5
 go_wp2_with fail
 clear VB_0 VB_1 VB_2 VB_3 VB_4 VB_5
 rw [← hW3]
 generalize w3.heap.size = R3 at *
 clear hW3 hS3
 refine (jfrom_at _ b 2 _ Ib (by omega) (by omega)).mono ?_
 rintro e w4 ⟨vy,rfl,Jy,b4⟩
 replace ht := ht.below b4
 replace Ia := Ia.below b4
 replace Ib := Ib.below b4
 replace Jx := Jx.below b4
 replace VA := VA.below b4
 replace VB := VB.below b4
 replace VX := VX.below b4
 replace BB := BB.trans (b4.mono BB.size)
 clear b4
 obtain ⟨py,ay,ny,cy,b_y,my,dy,rfl⟩ := Jy.open
 have hZ4 : w.heap.size ≤ w4.heap.size := BB.size
 have hN4VA : w.heap.size ≠ w4.heap.size := Nat.ne_of_lt VA.lt
 have hN4VB : w.heap.size + 1 ≠ w4.heap.size := Nat.ne_of_lt VB.lt
 have hN4VX : R3 ≠ w4.heap.size := Nat.ne_of_lt VX.lt
 obtain ⟨W4,hW4,hS4,hL4,VY⟩ := V3.lay w4 38 (.bool py) (.slice ay ny cy) (.slice b_y my dy)
 replace ht := ht.below hL4
 replace Ia := Ia.below hL4
 replace Ib := Ib.below hL4
 replace Jx := Jx.below hL4
 replace Jy := Jy.below hL4
 replace VA := VA.below hL4
 replace VB := VB.below hL4
 replace VX := VX.below hL4
 replace BB := BB.trans (hL4.mono BB.size)
 clear hL4
 obtain ⟨VA_0,VA_1,VA_2,VA_3,VA_4,VA_5⟩ := id VA
 obtain ⟨VB_0,VB_1,VB_2,VB_3,VB_4,VB_5⟩ := id VB
 rw [hW4] at VA_0 VA_1 VA_2 VA_3 VA_4 VA_5 VB_0 VB_1 VB_2 VB_3 VB_4 VB_5
 go_wp2_with fail
 clear VA_0 VA_1 VA_2 VA_3 VA_4 VA_5 VB_0 VB_1 VB_2 VB_3 VB_4 VB_5
 rw [← hW4]
 generalize w4.heap.size = R4 at *
 clear hW4 hS4
 by_cases hab : a ≤ b
 ·refine (simp_any _ _ a b 2 _ Ia Ib ht (by omega) (by omega) hab).mono ?_
  rintro e w5 ⟨vs,r,rfl,Hs,hrel,b5⟩
  replace ht := ht.below b5
  replace Ia := Ia.below b5
  replace Ib := Ib.below b5
  replace Jx := Jx.below b5
  replace Jy := Jy.below b5
  replace VA := VA.below b5
  replace VB := VB.below b5
  replace VX := VX.below b5
  replace VY := VY.below b5
  replace BB := BB.trans (b5.mono BB.size)
  clear b5
  obtain ⟨ps,as_,ns,cs,bs,ms,ds,rfl⟩ := Hs.open
  have HR : Hid (SimpRel a b r) := hrel
  have sr := hrel.sz (by omega) sa sb
  obtain ⟨hr1,hr2⟩ := hrel.le
  clear hrel
  have hcc : ¬ cmpQ a b > 0 := cmpQ_not_gt hab
  generalize hcq : cmpQ a b = cc at *
  have hd1 : ¬ cmpQ r a < 0 := by unfold cmpQ; rw [if_neg (Rat.not_lt.2 hr1)]; split <;> omega
  have hd2 : ¬ cmpQ r b > 0 := cmpQ_not_gt hr2
  generalize hq1 : cmpQ r a = cd at *
  generalize hq2 : cmpQ r b = ce at *
  clear hr1 hr2 hab
  have hZ5 : w.heap.size ≤ w5.heap.size := BB.size
  have hN5VA : w.heap.size ≠ w5.heap.size := Nat.ne_of_lt VA.lt
  have hN5VB : w.heap.size + 1 ≠ w5.heap.size := Nat.ne_of_lt VB.lt
  have hN5VX : R3 ≠ w5.heap.size := Nat.ne_of_lt VX.lt
  have hN5VY : R4 ≠ w5.heap.size := Nat.ne_of_lt VY.lt
  obtain ⟨W5,hW5,hS5,hL5,VS⟩ := V3.lay w5 27 (.bool ps) (.slice as_ ns cs) (.slice bs ms ds)
  replace ht := ht.below hL5
  replace Ia := Ia.below hL5
  replace Ib := Ib.below hL5
  replace Jx := Jx.below hL5
  replace Jy := Jy.below hL5
  replace Hs := Hs.below hL5
  replace VA := VA.below hL5
  replace VB := VB.below hL5
  replace VX := VX.below hL5
  replace VY := VY.below hL5
  replace BB := BB.trans (hL5.mono BB.size)
  clear hL5
  obtain ⟨VX_0,VX_1,VX_2,VX_3,VX_4,VX_5⟩ := id VX
  obtain ⟨VY_0,VY_1,VY_2,VY_3,VY_4,VY_5⟩ := id VY
  rw [hW5] at VX_0 VX_1 VX_2 VX_3 VX_4 VX_5 VY_0 VY_1 VY_2 VY_3 VY_4 VY_5
  go_wp2_with fail
  clear VX_0 VX_1 VX_2 VX_3 VX_4 VX_5 VY_0 VY_1 VY_2 VY_3 VY_4 VY_5
  rw [← hW5]
  generalize w5.heap.size = R5 at *
  clear hW5 hS5
  refine (jorder_at _ _ a b 2 2 _ Jx Jy (by omega)).mono ?_
  rintro e w6 ⟨rfl,b6⟩
  replace ht := ht.below b6
  replace Ia := Ia.below b6
  replace Ib := Ib.below b6
  replace Jx := Jx.below b6
  replace Jy := Jy.below b6
  replace Hs := Hs.below b6
  replace VA := VA.below b6
  replace VB := VB.below b6
  replace VX := VX.below b6
  replace VY := VY.below b6
  replace VS := VS.below b6
  replace BB := BB.trans (b6.mono BB.size)
  clear b6
  rw [hcq]
  clear hcq
  obtain ⟨VS_0,VS_1,VS_2,VS_3,VS_4,VS_5⟩ := id VS
  go_wp2_with fail
  clear VS_0 VS_1 VS_2 VS_3 VS_4 VS_5
  refine (jfrom_at _ r 2 _ (Hs.at 2 sr) (by omega) (by omega)).mono ?_
  rintro e w7 ⟨vz,rfl,Jz,b7⟩
  replace ht := ht.below b7
  replace Ia := Ia.below b7
  replace Ib := Ib.below b7
  replace Jx := Jx.below b7
  replace Jy := Jy.below b7
  replace Hs := Hs.below b7
  replace VA := VA.below b7
  replace VB := VB.below b7
  replace VX := VX.below b7
  replace VY := VY.below b7
  replace VS := VS.below b7
  replace BB := BB.trans (b7.mono BB.size)
  clear b7
  obtain ⟨pz,az,nz,cz,bz,mz,dz,rfl⟩ := Jz.open
  have hZ6 : w.heap.size ≤ w7.heap.size := BB.size
  have hN6VA : w.heap.size ≠ w7.heap.size := Nat.ne_of_lt VA.lt
  have hN6VB : w.heap.size + 1 ≠ w7.heap.size := Nat.ne_of_lt VB.lt
  have hN6VX : R3 ≠ w7.heap.size := Nat.ne_of_lt VX.lt
  have hN6VY : R4 ≠ w7.heap.size := Nat.ne_of_lt VY.lt
  have hN6VS : R5 ≠ w7.heap.size := Nat.ne_of_lt VS.lt
  obtain ⟨W6,hW6,hS6,hL6,VZ⟩ := V3.lay w7 38 (.bool pz) (.slice az nz cz) (.slice bz mz dz)
  replace ht := ht.below hL6
  replace Ia := Ia.below hL6
  replace Ib := Ib.below hL6
  replace Jx := Jx.below hL6
  replace Jy := Jy.below hL6
  replace Hs := Hs.below hL6
  replace Jz := Jz.below hL6
  replace VA := VA.below hL6
  replace VB := VB.below hL6
  replace VX := VX.below hL6
  replace VY := VY.below hL6
  replace VS := VS.below hL6
  replace BB := BB.trans (hL6.mono BB.size)
  clear hL6
  obtain ⟨VS_0,VS_1,VS_2,VS_3,VS_4,VS_5⟩ := id VS
  rw [hW6] at VS_0 VS_1 VS_2 VS_3 VS_4 VS_5
  go_wp2_with fail
  clear VS_0 VS_1 VS_2 VS_3 VS_4 VS_5
  rw [← hW6]
  generalize w7.heap.size = R6 at *
  clear hW6 hS6
  refine (jright_rep _ r 2 _ Hs sr (by omega)).mono ?_
  rintro e w8 ⟨rfl,b8⟩
  replace ht := ht.below b8
  replace Ia := Ia.below b8
  replace Ib := Ib.below b8
  replace Jx := Jx.below b8
  replace Jy := Jy.below b8
  replace Hs := Hs.below b8
  replace Jz := Jz.below b8
  replace VA := VA.below b8
  replace VB := VB.below b8
  replace VX := VX.below b8
  replace VY := VY.below b8
  replace VS := VS.below b8
  replace VZ := VZ.below b8
  replace BB := BB.trans (b8.mono BB.size)
  clear b8
  obtain ⟨VZ_0,VZ_1,VZ_2,VZ_3,VZ_4,VZ_5⟩ := id VZ
  obtain ⟨VX_0,VX_1,VX_2,VX_3,VX_4,VX_5⟩ := id VX
  go_wp2_with fail
  clear VZ_0 VZ_1 VZ_2 VZ_3 VZ_4 VZ_5 VX_0 VX_1 VX_2 VX_3 VX_4 VX_5
  refine (jorder_at _ _ r a 2 2 _ Jz Jx (by omega)).mono ?_
  rintro e w9 ⟨rfl,b9⟩
  replace ht := ht.below b9
  replace Ia := Ia.below b9
  replace Ib := Ib.below b9
  replace Jx := Jx.below b9
  replace Jy := Jy.below b9
  replace Hs := Hs.below b9
  replace Jz := Jz.below b9
  replace VA := VA.below b9
  replace VB := VB.below b9
  replace VX := VX.below b9
  replace VY := VY.below b9
  replace VS := VS.below b9
  replace VZ := VZ.below b9
  replace BB := BB.trans (b9.mono BB.size)
  clear b9
  rw [hq1]
  clear hq1
  obtain ⟨VZ_0,VZ_1,VZ_2,VZ_3,VZ_4,VZ_5⟩ := id VZ
  obtain ⟨VY_0,VY_1,VY_2,VY_3,VY_4,VY_5⟩ := id VY
  go_wp2_with fail
  clear VZ_0 VZ_1 VZ_2 VZ_3 VZ_4 VZ_5 VY_0 VY_1 VY_2 VY_3 VY_4 VY_5
  refine (jorder_at _ _ r b 2 2 _ Jz Jy (by omega)).mono ?_
  rintro e w10 ⟨rfl,b10⟩
  replace ht := ht.below b10
  replace Ia := Ia.below b10
  replace Ib := Ib.below b10
  replace Jx := Jx.below b10
  replace Jy := Jy.below b10
  replace Hs := Hs.below b10
  replace Jz := Jz.below b10
  replace VA := VA.below b10
  replace VB := VB.below b10
  replace VX := VX.below b10
  replace VY := VY.below b10
  replace VS := VS.below b10
  replace VZ := VZ.below b10
  replace BB := BB.trans (b10.mono BB.size)
  clear b10
  rw [hq2]
  clear hq2
  obtain ⟨VX_0,VX_1,VX_2,VX_3,VX_4,VX_5⟩ := id VX
  obtain ⟨VY_0,VY_1,VY_2,VY_3,VY_4,VY_5⟩ := id VY
  go_wp2_with fail
  clear VX_0 VX_1 VX_2 VX_3 VX_4 VX_5 VY_0 VY_1 VY_2 VY_3 VY_4 VY_5
  refine (dsimp_at _ _ a b 2 _ Jx Jy sa sb (by omega)).mono ?_
  rintro e w11 ⟨p9,a9,n9,c9,b9,m9,d9,ok,rfl,g1,g2,b11⟩
  replace ht := ht.below b11
  replace Ia := Ia.below b11
  replace Ib := Ib.below b11
  replace Jx := Jx.below b11
  replace Jy := Jy.below b11
  replace Hs := Hs.below b11
  replace Jz := Jz.below b11
  replace VA := VA.below b11
  replace VB := VB.below b11
  replace VX := VX.below b11
  replace VY := VY.below b11
  replace VS := VS.below b11
  replace VZ := VZ.below b11
  replace BB := BB.trans (b11.mono BB.size)
  clear b11
  have G1 : Hid _ := g1
  cases ok with
  | false =>
   have hden := simp_no HR.out (G1.out rfl)
   have hco : cmpI (r.den : Int) ((60 : Nat) : Int) > 0 := by unfold cmpI; rw [if_neg (by omega),if_pos (by omega)]; omega
   generalize hcz : cmpI (r.den : Int) ((60 : Nat) : Int) = cz_ at *
   obtain ⟨_,HX⟩ := Hs.parts
   clear g2 G1 HR
   have hZ27 : w.heap.size ≤ w11.heap.size := BB.size
   have hN27VA : w.heap.size ≠ w11.heap.size := Nat.ne_of_lt VA.lt
   have hN27VB : w.heap.size + 1 ≠ w11.heap.size := Nat.ne_of_lt VB.lt
   have hN27VX : R3 ≠ w11.heap.size := Nat.ne_of_lt VX.lt
   have hN27VY : R4 ≠ w11.heap.size := Nat.ne_of_lt VY.lt
   have hN27VS : R5 ≠ w11.heap.size := Nat.ne_of_lt VS.lt
   have hN27VZ : R6 ≠ w11.heap.size := Nat.ne_of_lt VZ.lt
   obtain ⟨W27,hW27,hS27,hL27,VW⟩ := V3.lay w11 38 (.bool p9) (.slice a9 n9 c9) (.slice b9 m9 d9)
   replace ht := ht.below hL27
   replace Ia := Ia.below hL27
   replace Ib := Ib.below hL27
   replace Jx := Jx.below hL27
   replace Jy := Jy.below hL27
   replace Hs := Hs.below hL27
   replace Jz := Jz.below hL27
   replace HX := HX.below hL27
   replace VA := VA.below hL27
   replace VB := VB.below hL27
   replace VX := VX.below hL27
   replace VY := VY.below hL27
   replace VS := VS.below hL27
   replace VZ := VZ.below hL27
   replace BB := BB.trans (hL27.mono BB.size)
   clear hL27
   obtain ⟨VS_0,VS_1,VS_2,VS_3,VS_4,VS_5⟩ := id VS
   rw [hW27] at VS_0 VS_1 VS_2 VS_3 VS_4 VS_5
   go_wp2_with fail
   clear VS_0 VS_1 VS_2 VS_3 VS_4 VS_5
   rw [← hW27]
   generalize w11.heap.size = R27 at *
   clear hW27 hS27
   refine (nfrom_at _ r.den 2 _ (HX.at 2 (Nat.le_trans (qsz_den r) sr)) (by omega)).mono ?_
   rintro e w32 ⟨v1,rfl,D1,b32⟩
   replace ht := ht.below b32
   replace Ia := Ia.below b32
   replace Ib := Ib.below b32
   replace Jx := Jx.below b32
   replace Jy := Jy.below b32
   replace Hs := Hs.below b32
   replace Jz := Jz.below b32
   replace HX := HX.below b32
   replace VA := VA.below b32
   replace VB := VB.below b32
   replace VX := VX.below b32
   replace VY := VY.below b32
   replace VS := VS.below b32
   replace VZ := VZ.below b32
   replace VW := VW.below b32
   replace BB := BB.trans (b32.mono BB.size)
   clear b32
   go_wp2_with fail
   refine (small_any 60 _ (by omega)).mono ?_
   rintro e w33 ⟨v2,rfl,D2,b33⟩
   replace ht := ht.below b33
   replace Ia := Ia.below b33
   replace Ib := Ib.below b33
   replace Jx := Jx.below b33
   replace Jy := Jy.below b33
   replace Hs := Hs.below b33
   replace Jz := Jz.below b33
   replace HX := HX.below b33
   replace D1 := D1.below b33
   replace VA := VA.below b33
   replace VB := VB.below b33
   replace VX := VX.below b33
   replace VY := VY.below b33
   replace VS := VS.below b33
   replace VZ := VZ.below b33
   replace VW := VW.below b33
   replace BB := BB.trans (b33.mono BB.size)
   clear b33
   go_wp2_with fail
   refine (order_any _ _ r.den 60 _ D1 D2).mono ?_
   rintro e w34 ⟨rfl,b34⟩
   replace ht := ht.below b34
   replace Ia := Ia.below b34
   replace Ib := Ib.below b34
   replace Jx := Jx.below b34
   replace Jy := Jy.below b34
   replace Hs := Hs.below b34
   replace Jz := Jz.below b34
   replace HX := HX.below b34
   replace D1 := D1.below b34
   replace D2 := D2.below b34
   replace VA := VA.below b34
   replace VB := VB.below b34
   replace VX := VX.below b34
   replace VY := VY.below b34
   replace VS := VS.below b34
   replace VZ := VZ.below b34
   replace VW := VW.below b34
   replace BB := BB.trans (b34.mono BB.size)
   clear b34
   rw [hcz]
   clear hcz
   go_wp2_with fail
   refine (qawake_at _ ht).mono ?_
   rintro e w35 ⟨rfl,b35⟩
   replace ht := ht.below b35
   replace Ia := Ia.below b35
   replace Ib := Ib.below b35
   replace Jx := Jx.below b35
   replace Jy := Jy.below b35
   replace Hs := Hs.below b35
   replace Jz := Jz.below b35
   replace HX := HX.below b35
   replace D1 := D1.below b35
   replace D2 := D2.below b35
   replace VA := VA.below b35
   replace VB := VB.below b35
   replace VX := VX.below b35
   replace VY := VY.below b35
   replace VS := VS.below b35
   replace VZ := VZ.below b35
   replace VW := VW.below b35
   replace BB := BB.trans (b35.mono BB.size)
   clear b35
   go_wp2
   go_ret
   exact ⟨rfl,BB⟩
  | true =>
   obtain ⟨k,hk1,hk2,hk3,hk4,Jw⟩ := g2 rfl
   rw [simp_yes HR.out k hk1 hk3 hk4] at Jw
   clear hk1 hk2 hk3 hk4 g2 G1 HR
   have hZ7 : w.heap.size ≤ w11.heap.size := BB.size
   have hN7VA : w.heap.size ≠ w11.heap.size := Nat.ne_of_lt VA.lt
   have hN7VB : w.heap.size + 1 ≠ w11.heap.size := Nat.ne_of_lt VB.lt
   have hN7VX : R3 ≠ w11.heap.size := Nat.ne_of_lt VX.lt
   have hN7VY : R4 ≠ w11.heap.size := Nat.ne_of_lt VY.lt
   have hN7VS : R5 ≠ w11.heap.size := Nat.ne_of_lt VS.lt
   have hN7VZ : R6 ≠ w11.heap.size := Nat.ne_of_lt VZ.lt
   obtain ⟨W7,hW7,hS7,hL7,VW⟩ := V3.lay w11 38 (.bool p9) (.slice a9 n9 c9) (.slice b9 m9 d9)
   replace ht := ht.below hL7
   replace Ia := Ia.below hL7
   replace Ib := Ib.below hL7
   replace Jx := Jx.below hL7
   replace Jy := Jy.below hL7
   replace Hs := Hs.below hL7
   replace Jz := Jz.below hL7
   replace Jw := Jw.below hL7
   replace VA := VA.below hL7
   replace VB := VB.below hL7
   replace VX := VX.below hL7
   replace VY := VY.below hL7
   replace VS := VS.below hL7
   replace VZ := VZ.below hL7
   replace BB := BB.trans (hL7.mono BB.size)
   clear hL7
   obtain ⟨VS_0,VS_1,VS_2,VS_3,VS_4,VS_5⟩ := id VS
   rw [hW7] at VS_0 VS_1 VS_2 VS_3 VS_4 VS_5
   go_wp2_with fail
   clear VS_0 VS_1 VS_2 VS_3 VS_4 VS_5
   rw [← hW7]
   generalize w11.heap.size = R7 at *
   clear hW7 hS7
   refine (jis_at _ _ r 2 20 _ Hs sr Jw (by omega)).mono ?_
   rintro e w12 ⟨rfl,b12⟩
   replace ht := ht.below b12
   replace Ia := Ia.below b12
   replace Ib := Ib.below b12
   replace Jx := Jx.below b12
   replace Jy := Jy.below b12
   replace Hs := Hs.below b12
   replace Jz := Jz.below b12
   replace Jw := Jw.below b12
   replace VA := VA.below b12
   replace VB := VB.below b12
   replace VX := VX.below b12
   replace VY := VY.below b12
   replace VS := VS.below b12
   replace VZ := VZ.below b12
   replace VW := VW.below b12
   replace BB := BB.trans (b12.mono BB.size)
   clear b12
   go_wp2_with fail
   refine (qawake_at _ ht).mono ?_
   rintro e w13 ⟨rfl,b13⟩
   replace ht := ht.below b13
   replace Ia := Ia.below b13
   replace Ib := Ib.below b13
   replace Jx := Jx.below b13
   replace Jy := Jy.below b13
   replace Hs := Hs.below b13
   replace Jz := Jz.below b13
   replace Jw := Jw.below b13
   replace VA := VA.below b13
   replace VB := VB.below b13
   replace VX := VX.below b13
   replace VY := VY.below b13
   replace VS := VS.below b13
   replace VZ := VZ.below b13
   replace VW := VW.below b13
   replace BB := BB.trans (b13.mono BB.size)
   clear b13
   go_wp2
   go_ret
   exact ⟨rfl,BB⟩
 ·refine (simp_range _ _ a b 2 _ Ia Ib ht (by omega) (by omega) (Rat.not_le.1 hab)).mono ?_
  rintro e w25 ⟨rfl,b25⟩
  replace ht := ht.below b25
  replace Ia := Ia.below b25
  replace Ib := Ib.below b25
  replace Jx := Jx.below b25
  replace Jy := Jy.below b25
  replace VA := VA.below b25
  replace VB := VB.below b25
  replace VX := VX.below b25
  replace VY := VY.below b25
  replace BB := BB.trans (b25.mono BB.size)
  clear b25
  have hcc : cmpQ a b > 0 := by unfold cmpQ; rw [if_neg (fun h => hab (Rat.le_of_lt h)),if_pos (Rat.not_le.1 hab)]; omega
  generalize hcq : cmpQ a b = cc at *
  have hZ25 : w.heap.size ≤ w25.heap.size := BB.size
  have hN25VA : w.heap.size ≠ w25.heap.size := Nat.ne_of_lt VA.lt
  have hN25VB : w.heap.size + 1 ≠ w25.heap.size := Nat.ne_of_lt VB.lt
  have hN25VX : R3 ≠ w25.heap.size := Nat.ne_of_lt VX.lt
  have hN25VY : R4 ≠ w25.heap.size := Nat.ne_of_lt VY.lt
  obtain ⟨W25,hW25,hS25,hL25,VS⟩ := V3.lay w25 27 (.bool false) (.slice none 0 0) (.slice none 0 0)
  replace ht := ht.below hL25
  replace Ia := Ia.below hL25
  replace Ib := Ib.below hL25
  replace Jx := Jx.below hL25
  replace Jy := Jy.below hL25
  replace VA := VA.below hL25
  replace VB := VB.below hL25
  replace VX := VX.below hL25
  replace VY := VY.below hL25
  replace BB := BB.trans (hL25.mono BB.size)
  clear hL25
  obtain ⟨VX_0,VX_1,VX_2,VX_3,VX_4,VX_5⟩ := id VX
  obtain ⟨VY_0,VY_1,VY_2,VY_3,VY_4,VY_5⟩ := id VY
  rw [hW25] at VX_0 VX_1 VX_2 VX_3 VX_4 VX_5 VY_0 VY_1 VY_2 VY_3 VY_4 VY_5
  go_wp2_with fail
  clear VX_0 VX_1 VX_2 VX_3 VX_4 VX_5 VY_0 VY_1 VY_2 VY_3 VY_4 VY_5
  rw [← hW25]
  generalize w25.heap.size = R25 at *
  clear hW25 hS25
  refine (jorder_at _ _ a b 2 2 _ Jx Jy (by omega)).mono ?_
  rintro e w26 ⟨rfl,b26⟩
  replace ht := ht.below b26
  replace Ia := Ia.below b26
  replace Ib := Ib.below b26
  replace Jx := Jx.below b26
  replace Jy := Jy.below b26
  replace VA := VA.below b26
  replace VB := VB.below b26
  replace VX := VX.below b26
  replace VY := VY.below b26
  replace VS := VS.below b26
  replace BB := BB.trans (b26.mono BB.size)
  clear b26
  rw [hcq]
  clear hcq
  obtain ⟨VS_0,VS_1,VS_2,VS_3,VS_4,VS_5⟩ := id VS
  go_wp2_with fail
  clear VS_0 VS_1 VS_2 VS_3 VS_4 VS_5
  refine (none_at _).mono ?_
  rintro e w27 ⟨rfl,b27⟩
  replace ht := ht.below b27
  replace Ia := Ia.below b27
  replace Ib := Ib.below b27
  replace Jx := Jx.below b27
  replace Jy := Jy.below b27
  replace VA := VA.below b27
  replace VB := VB.below b27
  replace VX := VX.below b27
  replace VY := VY.below b27
  replace VS := VS.below b27
  replace BB := BB.trans (b27.mono BB.size)
  clear b27
  go_wp2_with fail
  refine (qawake_at _ ht).mono ?_
  rintro e w28 ⟨rfl,b28⟩
  replace ht := ht.below b28
  replace Ia := Ia.below b28
  replace Ib := Ib.below b28
  replace Jx := Jx.below b28
  replace Jy := Jy.below b28
  replace VA := VA.below b28
  replace VB := VB.below b28
  replace VX := VX.below b28
  replace VY := VY.below b28
  replace VS := VS.below b28
  replace BB := BB.trans (b28.mono BB.size)
  clear b28
  go_wp2
  go_ret
  exact ⟨rfl,BB⟩

theorem own : ownKnob Tryz.prog.godebug = none := by kernel_rfl
theorem laidOut : laidOutB Tryz.prog = true := by kernel_rfl

abbrev laid1 : List (String × DataW Unit) := [("math/bits.deBruijn64tab",Rows.laid_math_bits_deBruijn64tab)]
theorem gTab : Tryz.prog.globalNamed "math/bits.deBruijn64tab" = some 1 := by kernel_rfl
theorem gTabType : (Tryz.prog.globals[1]?).map (·.type) = some 190 := by kernel_rfl
theorem uTab : Tryz.prog.underlying 190 = some (.array 64 5) := by kernel_rfl
theorem uCell : Tryz.prog.underlying 5 = some (.int .u8) := by kernel_rfl
theorem cCell : Tryz.prog.cellsOf 5 = 1 := by kernel_rfl
theorem cTab : Tryz.prog.cellsOf 190 = 64 := by kernel_rfl
/-- The listed table lies in its cells. -/
theorem tab_of {W : World} (h : laidMetH Tryz.prog laid1 W) : Tab W := by
 rw [MakeChecks.laidMetH_plain _ _ _ (by kernel_rfl)] at h
 have hd : laid1 = [("math/bits.deBruijn64tab",Lib.tabData .u8 (Lib.deBruijn64tab.map fun (n : Nat) => Int.ofNat n))] := rfl
 rw [hd] at h
 have hT := Lib.tabIs_of_head gTab gTabType uTab uCell cCell cTab h
 intro i hi
 have hc := hT.cell gTab i (by rw [List.length_map]; exact hi)
 rw [hc]
 congr 2
 rw [List.getD_eq_getElem?_getD,List.getElem?_map,List.getD_eq_getElem?_getD]
 cases Lib.deBruijn64tab[i]? <;> rfl
/-- A start for the witness: the heap that the run of the program's own initialisers leaves. -/
noncomputable def startW (os : Os) : World := { World.holding Tryz.prog os ⟨#[],#[],[]⟩ with heap := (varsWorld Tryz.prog 400 (varsId Tryz.prog) os (fun _ _ => 0)).heap }
theorem start_met (os : Os) (args : Array Value) : laidMetH Tryz.prog laid1 ((startW os).forCall (fun _ _ => 0) ⟨#[],args,[]⟩).memory :=
 laidMetH_of_parts3 (fuel := 8) (laidMet_of_run' 8 (by kernel_rfl) (by kernel_rfl)) (by kernel_rfl) (by kernel_rfl)

set_option maxRecDepth 100000 in
theorem lifted (os : Os) (started : os.Started) (H : Type) (enc : TypeId × Value → H) :
  ReturnsInHanded {} Tryz.checked os 5 .any (fun w args => (Rows.ratioSimplestSpec.pre enc Tryz.prog Tryz.f5 [] false w args ∧ laidMetH Tryz.prog laid1 w) ∧ sizedMet enc Tryz.prog Tryz.f5 (OpenSpec.ofChange Rows.ratioSimplestSpec) false w args) (Rows.ratioSimplestSpec.post enc Tryz.prog Tryz.f5 false true false false) := by
 refine returnsInHanded_of_change_and (C := Tryz.checked) (X := fun w _ => laidMetH Tryz.prog laid1 w) (fun _ _ _ hh h => h.of_heap hh) own started (by kernel_rfl) Tryz.func5
  (ChangeSpec.witness_shaped (enc := enc) (C := Tryz.checked) (os := os) (X := fun w _ => laidMetH Tryz.prog laid1 w) false (startW os) #[.agg #[.bool false,.slice none 0 0,.slice none 0 0],.agg #[.bool false,.slice none 0 0,.slice none 0 0]] 8 rfl (World.shaped_of_RefB (by kernel_rfl) (by kernel_rfl)) (by kernel_rfl) (by kernel_rfl) (by kernel_rfl) (start_met os _)) ?_
 intro W base args ds gs before hval0 hW _ _ hL _
 have hval : ∀ (j : Nat) t v,Tryz.f5.params[j]? = some t → args[j]? = some v → Value.okWide Tryz.prog W .any base t v := hval0
 have hW' := hW
 obtain ⟨p,q,hA0,hV,rfl,hfz,hnd⟩ := hW
 have hA : DataW.TrodAll enc Tryz.prog W 0 (fun _ => true) true Tryz.f5.params.toList args.toList ds p := hA0
 rw [Tryz.params5] at hA hval
 obtain ⟨v0,vs0,d0,ds0,p0,q0,hargs,rfl,rfl,h0,r0⟩ := trodAll_cons hA
 obtain ⟨v1,vs1,d1,ds1,p1,q1,rfl,rfl,rfl,h1,r1⟩ := trodAll_cons r0
 obtain ⟨rfl,rfl,rfl⟩ := trodAll_nil r1
 obtain rfl : args = #[v0,v1] := by cases args; simp_all
 obtain ⟨rfl,rfl⟩ := trodVars_none hV
 have k0 := h0
 have lt0 : ∀ x ∈ p0,x.block < W.heap.size := by obtain ⟨m,hm⟩ := k0; exact DataW.trod_lt m _ _ _ hm
 obtain ⟨neg0,ao0,n0,c0,bo0,m0,d0,f0,g0,rfl,w0,x0⟩ := open_wrat (hval 0 27 v0 rfl rfl) h0
 have k1 := h1
 have lt1 : ∀ x ∈ p1,x.block < W.heap.size := by obtain ⟨m,hm⟩ := k1; exact DataW.trod_lt m _ _ _ hm
 obtain ⟨neg1,ao1,n1,c1,bo1,m1,d1,f1,g1,rfl,w1,x1⟩ := open_wrat (hval 1 27 v1 rfl rfl) h1
 clear hA0 hval0
 refine (walk _ _ _ _ _ _ _ _ _ _ _ _ _ _ _ _ _ _ W w0 x0 w1 x1 (tab_of hL)).mono fun e W' ⟨he,bel⟩ => ?_
 subst he
 exact ⟨_,rfl,_,_,_,[],_,[],hW',trodAll_mk1 (shut_bool Tryz.underlying4 _),(trodAll_cons_mk (Below.trod laidOut (by kernel_rfl) (of_decide_eq_true (by kernel_rfl)) k0 bel lt0) (trodAll_cons_mk (Below.trod laidOut (by kernel_rfl) (of_decide_eq_true (by kernel_rfl)) k1 bel lt1) trodAll_mk0)),rfl,bel.frame _,fun h => by cases h⟩

theorem over : Rows.ratioSimplestRow.holds Tryz.pinned (OpenSpec.ofChange Rows.ratioSimplestSpec) :=
 OpenClaim.holds_of_wide 5 Tryz.f5 rfl rfl rfl rfl rfl rfl rfl ⟨rfl,rfl,rfl,rfl,rfl⟩ rfl rfl rfl rfl rfl (by kernel_rfl) Tryz.func5 (by kernel_rfl)
  (of_decide_eq_true (by kernel_rfl)) (by unfold Func.isWrapper; first | (rw [if_pos (by decide +kernel)]; kernel_rfl) | (rw [if_neg (by decide +kernel)]; exact ⟨rfl,rfl⟩))
  (fun os started H enc _ => lifted os started H enc)

end Go.Proofs.YtmbmboiefhmfmaaGreatDoor.ratioSimplest
namespace Go.Proofs.YtmbmboiefhmfmaaGreatDoor
/-- The statement: the row, tied to the text of the program. -/
theorem ratioSimplest_holds : Rows.RatioSimplestCardSaid :=
 Claim7.holds_tied_plain_at .later [] [.data] true (true,"eccea4b1585cbee0c04a22ce75d490ac6561d8be7ec591fce5aaaf7d19f2813c") false
  ratioSimplest.over (fun _ h => by cases h) (by kernel_rfl) (fun _ h => by cases h) ratioSimplest_row_tie rfl ⟨rfl,rfl⟩ (by kernel_rfl) rfl
  (fun f fn hf hfn => by
   obtain rfl : f = 5 := Option.some.inj ((show Tryz.prog.funcNamed "dendron/dendronlaw03.RatioSimplest" = some 5 by kernel_rfl).symm.trans hf) |>.symm
   obtain rfl : fn = Tryz.f5 := (Option.some.inj (Tryz.func5.symm.trans hfn)).symm
   exact ⟨by kernel_rfl,fun j t ht => by
    rw [Tryz.params5] at ht
    have hm : t ∈ [27,27] := by simpa using Array.mem_of_getElem? ht
    have hall : ([27,27].all fun u => !Tryz.prog.wantsStandIn u) = true := by kernel_rfl
    exact (show Tryz.prog.wantsStandIn t = false by simpa using List.all_eq_true.1 hall t hm)⟩)
  (by kernel_rfl)
end Go.Proofs.YtmbmboiefhmfmaaGreatDoor
