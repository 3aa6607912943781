/-
 Proves that Cmp,Same,Min,Max,Add,Sub,Mul,Div and Inv answer order,the lesser and the greater,sum,difference,product and quotient of any two rational numbers of up to 8 limbs above and below,or that there is no quotient,whatever comes in (the statement RatioSums,its tied card); the table of math/bits lies as the program's text lays it; no other condition.
-/
import Derived.Test.YtjfacmeeplalkaaGreatDoorJ1
import Derived.Test.YtjfacmeeplalkaaGreatDoorRows
import Derived.Test.YtjfacmeeplalkaaGreatDoorJ35
import Derived.WalkKit
import Derived.ProofKit
import Derived.OpenShut
import Derived.ShutString
import Derived.ChangeOld
import Derived.Below
import Derived.Test.YtjfacmeeplalkaaGreatDoorTie
import Derived.Test.YtjfacmeeplalkaaGreatDoorCards
import Derived.LaidByTextLater
import Derived.LaidHandle
import Derived.Lib.LaidTab
import Derived.SevenTiedAt
namespace Go.Proofs.YtjfacmeeplalkaaGreatDoor.ratioSums
open Go.ChangeShapes Go.WideShapes Go.ChangeAt Go.RowKit
open Go.ChangeMaps (open_string shut_string)
set_option linter.unusedVariables false
set_option linter.unusedSimpArgs false

set_option linter.unusedSimpArgs false
theorem max_else {q r : Rat} (h : ¬ r < q) : (if q < r then r else q) = r := by
 by_cases g : q < r
 ·rw [if_pos g]
 ·rw [if_neg g]; exact Rat.le_antisymm (Rat.not_lt.1 h) (Rat.not_lt.1 g)
set_option maxRecDepth 100000 in
set_option maxHeartbeats 16000000 in
theorem walk (p : Bool) (ao0 : Option Addr) (n0 c0 : Nat) (bo0 : Option Addr) (m0 d0 : Nat) (f g : Nat → Int) (p2 : Bool) (ao20 : Option Addr) (n20 c20 : Nat) (bo20 : Option Addr) (m20 d20 : Nat) (f2 g2 : Nat → Int) (w : World) (ha1 : Raw w (.slice ao0 n0 c0) n0 f) (ha2 : Raw w (.slice bo0 m0 d0) m0 g) (hb1 : Raw w (.slice ao20 n20 c20) n20 f2) (hb2 : Raw w (.slice bo20 m20 d20) m20 g2) (ht : Tab w) :
  Calls Tryz.prog 5 #[.agg #[.bool p,.slice ao0 n0 c0,.slice bo0 m0 d0],.agg #[.bool p2,.slice ao20 n20 c20,.slice bo20 m20 d20]] w fun e w' => e = .returned (.bool true) ∧ Below w.heap.size w w' := by
 have BB : Below w.heap.size w w := Below.refl _ _
 obtain ⟨Wb0,hW0,hS0,hL0,VA⟩ := V3.lay w 27 (.bool p) (.slice ao0 n0 c0) (.slice bo0 m0 d0)
 replace ha1 := ha1.below hL0
 replace ha2 := ha2.below hL0
 replace hb1 := hb1.below hL0
 replace hb2 := hb2.below hL0
 replace ht := ht.below hL0
 replace BB := BB.trans (hL0.mono BB.size)
 clear hL0
 obtain ⟨Wb1,hW1,hS1,hL1,VB⟩ := V3.lay Wb0 27 (.bool p2) (.slice ao20 n20 c20) (.slice bo20 m20 d20)
 rw [hS0] at VB hS1
 replace ha1 := ha1.below hL1
 replace ha2 := ha2.below hL1
 replace hb1 := hb1.below hL1
 replace hb2 := hb2.below hL1
 replace ht := ht.below hL1
 replace VA := VA.below hL1
 replace BB := BB.trans (hL1.mono BB.size)
 clear hL1
 go_enter Tryz.func5,Tryz.ntmps5
 go_wp2_with fail
 rw [← hW0]
 rw [← hW1]
 clear hW0 hW1 hS0 hS1
 refine (few_at _ _ _ _ _ _ _ _ ha1 ha2).mono ?_
 rintro e w1 ⟨ao,c,bo,d,rfl,u1,u2,u3,u4,b1⟩
 replace ha1 := ha1.below b1
 replace ha2 := ha2.below b1
 replace hb1 := hb1.below b1
 replace hb2 := hb2.below b1
 replace ht := ht.below b1
 replace VA := VA.below b1
 replace VB := VB.below b1
 replace BB := BB.trans (b1.mono BB.size)
 clear b1
 have k1 : min n0 8 ≤ 8 := Nat.min_le_right _ _
 have k2 : min m0 8 ≤ 8 := Nat.min_le_right _ _
 generalize min n0 8 = n at *
 generalize min m0 8 = m at *
 clear ha1 ha2
 have hKp := VA.keepJ (.bool p) (.slice ao n c) (.slice bo m d)
 have VB_n := VB.other3 (R := w.heap.size) (by omega) (.bool p) (.slice ao n c) (.slice bo m d)
 have VA_n := VA.same (.bool p) (.slice ao n c) (.slice bo m d)
 have hb1_n := hb1.keep hKp
 have hb2_n := hb2.keep hKp
 have ht_n := ht.keep hKp
 have u1_n := u1.keep hKp
 have u3_n := u3.keep hKp
 have BB_n := below_store3 (R := w.heap.size) BB (by omega) (.bool p) (.slice ao n c) (.slice bo m d)
 clear hKp
 obtain ⟨VA_0,VA_1,VA_2,VA_3,VA_4,VA_5⟩ := id VA
 obtain ⟨VB_n0,VB_n1,VB_n2,VB_n3,VB_n4,VB_n5⟩ := id VB_n
 go_wp2_with fail
 clear VA_0 VA_1 VA_2 VA_3 VA_4 VA_5 VB_n0 VB_n1 VB_n2 VB_n3 VB_n4 VB_n5
 clear BB hb1 hb2 ht u1 u3 VA VB
 generalize ((w1.setCell ⟨w.heap.size,0,none⟩ (.bool p)).setCell ⟨w.heap.size,1,none⟩ (.slice ao n c)).setCell ⟨w.heap.size,2,none⟩ (.slice bo m d) = W1 at *
 have BB := BB_n
 have hb1 := hb1_n
 have hb2 := hb2_n
 have ht := ht_n
 have u1 := u1_n
 have u3 := u3_n
 have VA := VA_n
 have VB := VB_n
 clear BB_n hb1_n hb2_n ht_n u1_n u3_n VA_n VB_n
 refine (few_at _ _ _ _ _ _ _ _ hb1 hb2).mono ?_
 rintro e w2 ⟨ao2,c2,bo2,d2,rfl,u5,u6,u7,u8,b2⟩
 replace hb1 := hb1.below b2
 replace hb2 := hb2.below b2
 replace ht := ht.below b2
 replace u1 := u1.below b2
 replace u3 := u3.below b2
 replace VA := VA.below b2
 replace VB := VB.below b2
 replace BB := BB.trans (b2.mono BB.size)
 clear b2
 have k3 : min n20 8 ≤ 8 := Nat.min_le_right _ _
 have k4 : min m20 8 ≤ 8 := Nat.min_le_right _ _
 generalize min n20 8 = n2 at *
 generalize min m20 8 = m2 at *
 clear hb1 hb2
 have hKp := VB.keepJ (.bool p2) (.slice ao2 n2 c2) (.slice bo2 m2 d2)
 have VA_n := VA.other3 (R := w.heap.size + 1) (by omega) (.bool p2) (.slice ao2 n2 c2) (.slice bo2 m2 d2)
 have VB_n := VB.same (.bool p2) (.slice ao2 n2 c2) (.slice bo2 m2 d2)
 have ht_n := ht.keep hKp
 have u1_n := u1.keep hKp
 have u3_n := u3.keep hKp
 have u5_n := u5.keep hKp
 have u7_n := u7.keep hKp
 have BB_n := below_store3 (R := w.heap.size + 1) BB (by omega) (.bool p2) (.slice ao2 n2 c2) (.slice bo2 m2 d2)
 clear hKp
 obtain ⟨VB_0,VB_1,VB_2,VB_3,VB_4,VB_5⟩ := id VB
 obtain ⟨VA_n0,VA_n1,VA_n2,VA_n3,VA_n4,VA_n5⟩ := id VA_n
 go_wp2_with fail
 clear VB_0 VB_1 VB_2 VB_3 VB_4 VB_5 VA_n0 VA_n1 VA_n2 VA_n3 VA_n4 VA_n5
 clear BB ht u1 u3 u5 u7 VA VB
 generalize ((w2.setCell ⟨w.heap.size + 1,0,none⟩ (.bool p2)).setCell ⟨w.heap.size + 1,1,none⟩ (.slice ao2 n2 c2)).setCell ⟨w.heap.size + 1,2,none⟩ (.slice bo2 m2 d2) = W2 at *
 have BB := BB_n
 have ht := ht_n
 have u1 := u1_n
 have u3 := u3_n
 have u5 := u5_n
 have u7 := u7_n
 have VA := VA_n
 have VB := VB_n
 clear BB_n ht_n u1_n u3_n u5_n u7_n VA_n VB_n
 have Ix : RatAt W2 _ _ 8 := RatAt.raw (p := p) u1 u2 u3 u4 k1 k2
 have Iy : RatAt W2 _ _ 8 := RatAt.raw (p := p2) u5 u6 u7 u8 k3 k4
 clear u1 u3 u5 u7
 generalize mkRat (zof p (num f n)) (num g m) = q at *
 generalize mkRat (zof p2 (num f2 n2)) (num g2 m2) = r at *
 have sq := Ix.qsz (by omega)
 have sr := Iy.qsz (by omega)
 refine (jfrom_at _ q 8 _ Ix (by omega) (by omega)).mono ?_
 rintro e w3 ⟨vx,rfl,Jx,b3⟩
 replace ht := ht.below b3
 replace Ix := Ix.below b3
 replace Iy := Iy.below b3
 replace VA := VA.below b3
 replace VB := VB.below b3
 replace BB := BB.trans (b3.mono BB.size)
 clear b3
 obtain ⟨px,ax,nx,cx,bx,mx,dx,rfl⟩ := Jx.open
 have hZ3 : w.heap.size ≤ w3.heap.size := BB.size
 have hN3VA : w.heap.size ≠ w3.heap.size := Nat.ne_of_lt VA.lt
 have hN3VB : w.heap.size + 1 ≠ w3.heap.size := Nat.ne_of_lt VB.lt
 obtain ⟨W3,hW3,hS3,hL3,VX⟩ := V3.lay w3 34 (.bool px) (.slice ax nx cx) (.slice bx mx dx)
 replace ht := ht.below hL3
 replace Ix := Ix.below hL3
 replace Iy := Iy.below hL3
 replace Jx := Jx.below hL3
 replace VA := VA.below hL3
 replace VB := VB.below hL3
 replace BB := BB.trans (hL3.mono BB.size)
 clear hL3
 obtain ⟨VB_0,VB_1,VB_2,VB_3,VB_4,VB_5⟩ := id VB
 rw [hW3] at VB_0 VB_1 VB_2 VB_3 VB_4 VB_5
 go_wp2_with fail
 clear VB_0 VB_1 VB_2 VB_3 VB_4 VB_5
 rw [← hW3]
 generalize w3.heap.size = R3 at *
 clear hW3 hS3
 refine (jfrom_at _ r 8 _ Iy (by omega) (by omega)).mono ?_
 rintro e w4 ⟨vy,rfl,Jy,b4⟩
 replace ht := ht.below b4
 replace Ix := Ix.below b4
 replace Iy := Iy.below b4
 replace Jx := Jx.below b4
 replace VA := VA.below b4
 replace VB := VB.below b4
 replace VX := VX.below b4
 replace BB := BB.trans (b4.mono BB.size)
 clear b4
 obtain ⟨py,ay,ny,cy,by_,my,dy,rfl⟩ := Jy.open
 have hZ4 : w.heap.size ≤ w4.heap.size := BB.size
 have hN4VA : w.heap.size ≠ w4.heap.size := Nat.ne_of_lt VA.lt
 have hN4VB : w.heap.size + 1 ≠ w4.heap.size := Nat.ne_of_lt VB.lt
 have hN4VX : R3 ≠ w4.heap.size := Nat.ne_of_lt VX.lt
 obtain ⟨W4,hW4,hS4,hL4,VY⟩ := V3.lay w4 34 (.bool py) (.slice ay ny cy) (.slice by_ my dy)
 replace ht := ht.below hL4
 replace Ix := Ix.below hL4
 replace Iy := Iy.below hL4
 replace Jx := Jx.below hL4
 replace Jy := Jy.below hL4
 replace VA := VA.below hL4
 replace VB := VB.below hL4
 replace VX := VX.below hL4
 replace BB := BB.trans (hL4.mono BB.size)
 clear hL4
 obtain ⟨VX_0,VX_1,VX_2,VX_3,VX_4,VX_5⟩ := id VX
 rw [hW4] at VX_0 VX_1 VX_2 VX_3 VX_4 VX_5
 go_wp2_with fail
 clear VX_0 VX_1 VX_2 VX_3 VX_4 VX_5
 rw [← hW4]
 generalize w4.heap.size = R4 at *
 clear hW4 hS4
 have hlen := Jy.len
 refine (jorder_at _ _ q r 8 8 _ Jx Jy (by omega)).mono ?_
 rintro e w5 ⟨rfl,b5⟩
 replace ht := ht.below b5
 replace Ix := Ix.below b5
 replace Iy := Iy.below b5
 replace Jx := Jx.below b5
 replace Jy := Jy.below b5
 replace VA := VA.below b5
 replace VB := VB.below b5
 replace VX := VX.below b5
 replace VY := VY.below b5
 replace BB := BB.trans (b5.mono BB.size)
 clear b5
 obtain ⟨VX_0,VX_1,VX_2,VX_3,VX_4,VX_5⟩ := id VX
 obtain ⟨VY_0,VY_1,VY_2,VY_3,VY_4,VY_5⟩ := id VY
 go_wp2
 clear VX_0 VX_1 VX_2 VX_3 VX_4 VX_5 VY_0 VY_1 VY_2 VY_3 VY_4 VY_5
 go_cut [8,9] from 25 (fun s8 s9 wc => ∃ (RL RH : Nat),s8 = .pointer (some ⟨RL,0,none⟩) ∧ s9 = .pointer (some ⟨RH,0,none⟩) ∧ RL ≠ RH ∧ w5.heap.size ≤ RL ∧ w5.heap.size ≤ RH ∧ V3 wc RL (.bool px) (.slice ax nx cx) (.slice bx mx dx) ∧ V3 wc RH (.bool py) (.slice ay ny cy) (.slice by_ my dy) ∧ Below w5.heap.size w5 wc)
 case first =>
  clear ht Ix Iy Jx Jy VA VB BB
  have BB : Below w5.heap.size w5 w5 := Below.refl _ _
  have hDr : Below w5.heap.size w5 w5.drew := (Below.refl _ _).drew
  replace VX := VX.below hDr
  replace VY := VY.below hDr
  replace BB := BB.trans (hDr.mono BB.size)
  clear hDr
  refine wp_region_held_drew (S := (fun w' => w'.cell? ⟨R3,0,none⟩ = some (.bool px) ∧ w'.cell? ⟨R3,1,none⟩ = some (.slice ax nx cx) ∧ w'.cell? ⟨R3,2,none⟩ = some (.slice bx mx dx) ∧ w'.cell? ⟨R4,0,none⟩ = some (.bool py) ∧ w'.cell? ⟨R4,1,none⟩ = some (.slice ay ny cy) ∧ w'.cell? ⟨R4,2,none⟩ = some (.slice by_ my dy))) (by kernel_rfl) ?_ (fun hHeld => ?_)
  ·exact ⟨VX.1,VX.2.1,VX.2.2.1,VY.1,VY.2.1,VY.2.2.1⟩
  generalize w5.drew = W5 at *
  refine wpAnyH_take (i := 0) (v := ?_) (by simp only [xL1,xL2,xL3]; rfl) (by kernel_rfl) (by kernel_rfl) (by kernel_rfl) (by exact fun _ _ _ h => h) (Or.inl ⟨by rfl,?_⟩) (by assumption) ?_
  rotate_left
  ·(intro w hSw; (try dsimp only at hSw); go_simp; (try with_reducible rfl))
  (try simp only [Act.put,xL4,xL5,xL6])
  refine wpAnyH_take (i := 1) (v := ?_) (by simp only [xL1,xL2,xL3]; rfl) (by kernel_rfl) (by kernel_rfl) (by kernel_rfl) (by exact fun _ _ _ h => h) (Or.inl ⟨by rfl,?_⟩) (by assumption) ?_
  rotate_left
  ·(intro w hSw; (try dsimp only at hSw); go_simp; (try with_reducible rfl))
  (try simp only [Act.put,xL4,xL5,xL6])
  refine wpAnyH_ready (rs := [2,3]) (by kernel_rfl) (by simp) ?_
  refine AllReadyH.cons (by simp only [xL1,xL2,xL3]; rfl) (fun K hK => ?_) ?_
  ·
   go_simp
   have hZ6 : w5.heap.size ≤ W5.heap.size := BB.size
   have hN6VX : R3 ≠ W5.heap.size := Nat.ne_of_lt VX.lt
   have hN6VY : R4 ≠ W5.heap.size := Nat.ne_of_lt VY.lt
   obtain ⟨W6,hW6,hS6,hL6,VL⟩ := V3.lay W5 34 (.bool false) (.slice none 0 0) (.slice none 0 0)
   replace VX := VX.below hL6
   replace VY := VY.below hL6
   replace BB := BB.trans (hL6.mono BB.size)
   clear hL6
   rw [← hW6]
   generalize W5.heap.size = R6 at *
   clear hW6 hS6
   refine hK.out _ _ ?_ (fun hH1 => ?_)
   ·exact ⟨VX.1,VX.2.1,VX.2.2.1,VY.1,VY.2.1,VY.2.2.1⟩
   clear hK K hHeld
   (try simp only [Act.put,xL4,xL5,xL6])
   refine wpAnyH_ready (rs := [3]) (by kernel_rfl) (by simp) ?_
   refine AllReadyH.cons (by simp only [xL1,xL2,xL3]; rfl) (fun K hK => ?_) AllReadyH.nil
   go_simp
   have hZ7 : w5.heap.size ≤ W6.heap.size := BB.size
   have hN7VX : R3 ≠ W6.heap.size := Nat.ne_of_lt VX.lt
   have hN7VY : R4 ≠ W6.heap.size := Nat.ne_of_lt VY.lt
   have hN7VL : R6 ≠ W6.heap.size := Nat.ne_of_lt VL.lt
   obtain ⟨W7,hW7,hS7,hL7,VH⟩ := V3.lay W6 34 (.bool false) (.slice none 0 0) (.slice none 0 0)
   replace VX := VX.below hL7
   replace VY := VY.below hL7
   replace VL := VL.below hL7
   replace BB := BB.trans (hL7.mono BB.size)
   clear hL7
   rw [← hW7]
   generalize W6.heap.size = R7 at *
   clear hW7 hS7
   refine hK.out _ _ ?_ (fun hH2 => ?_)
   ·exact ⟨VX.1,VX.2.1,VX.2.2.1,VY.1,VY.2.1,VY.2.2.1⟩
   clear hK K hH1
   (try simp only [Act.put,xL4,xL5,xL6])
   refine wpAnyH_ready (rs := [4]) (by kernel_rfl) (by simp) ?_
   refine AllReadyH.cons (by simp only [xL1,xL2,xL3]; rfl) (fun K hK => ?_) AllReadyH.nil
   have hKp := VL.keepJ (.bool px) (.slice ax nx cx) (.slice bx mx dx)
   have VX_n := VX.other3 (R := R6) (by omega) (.bool px) (.slice ax nx cx) (.slice bx mx dx)
   have VY_n := VY.other3 (R := R6) (by omega) (.bool px) (.slice ax nx cx) (.slice bx mx dx)
   have VH_n := VH.other3 (R := R6) (by omega) (.bool px) (.slice ax nx cx) (.slice bx mx dx)
   have VL_n := VL.same (.bool px) (.slice ax nx cx) (.slice bx mx dx)
   have BB_n := below_store3 (R := R6) BB (by omega) (.bool px) (.slice ax nx cx) (.slice bx mx dx)
   clear hKp
   obtain ⟨VL_0,VL_1,VL_2,VL_3,VL_4,VL_5⟩ := id VL
   go_simp
   clear VL_0 VL_1 VL_2 VL_3 VL_4 VL_5
   clear BB VX VY VL VH
   generalize ((W7.setCell ⟨R6,0,none⟩ (.bool px)).setCell ⟨R6,1,none⟩ (.slice ax nx cx)).setCell ⟨R6,2,none⟩ (.slice bx mx dx) = W8 at *
   have BB := BB_n
   have VX := VX_n
   have VY := VY_n
   have VL := VL_n
   have VH := VH_n
   clear BB_n VX_n VY_n VL_n VH_n
   refine hK.out _ _ ?_ (fun hH3 => ?_)
   ·exact ⟨VX.1,VX.2.1,VX.2.2.1,VY.1,VY.2.1,VY.2.2.1⟩
   clear hK K hH2
   (try simp only [Act.put,xL4,xL5,xL6])
   refine wpAnyH_ready (rs := [5]) (by kernel_rfl) (by simp) ?_
   refine AllReadyH.cons (by simp only [xL1,xL2,xL3]; rfl) (fun K hK => ?_) AllReadyH.nil
   have hKp := VH.keepJ (.bool py) (.slice ay ny cy) (.slice by_ my dy)
   have VX_n := VX.other3 (R := R7) (by omega) (.bool py) (.slice ay ny cy) (.slice by_ my dy)
   have VY_n := VY.other3 (R := R7) (by omega) (.bool py) (.slice ay ny cy) (.slice by_ my dy)
   have VL_n := VL.other3 (R := R7) (by omega) (.bool py) (.slice ay ny cy) (.slice by_ my dy)
   have VH_n := VH.same (.bool py) (.slice ay ny cy) (.slice by_ my dy)
   have BB_n := below_store3 (R := R7) BB (by omega) (.bool py) (.slice ay ny cy) (.slice by_ my dy)
   clear hKp
   obtain ⟨VH_0,VH_1,VH_2,VH_3,VH_4,VH_5⟩ := id VH
   go_simp
   clear VH_0 VH_1 VH_2 VH_3 VH_4 VH_5
   clear BB VX VY VL VH
   generalize ((W8.setCell ⟨R7,0,none⟩ (.bool py)).setCell ⟨R7,1,none⟩ (.slice ay ny cy)).setCell ⟨R7,2,none⟩ (.slice by_ my dy) = W9 at *
   have BB := BB_n
   have VX := VX_n
   have VY := VY_n
   have VL := VL_n
   have VH := VH_n
   clear BB_n VX_n VY_n VL_n VH_n
   refine hK.out _ _ ?_ (fun hH4 => ?_)
   ·exact ⟨VX.1,VX.2.1,VX.2.2.1,VY.1,VY.2.1,VY.2.2.1⟩
   clear hK K hH3
   (try simp only [Act.put,xL4,xL5,xL6])
   refine wpAnyH_done (by kernel_rfl) ?_ _
   clear hH4
   go_wp2_with fail
   go_meet
   exact ⟨R6,R7,rfl,rfl,by omega,by omega,by omega,VL,VH,BB⟩
  refine AllReadyH.cons (by simp only [xL1,xL2,xL3]; rfl) (fun K hK => ?_) ?_
  ·
   go_simp
   have hZ10 : w5.heap.size ≤ W5.heap.size := BB.size
   have hN10VX : R3 ≠ W5.heap.size := Nat.ne_of_lt VX.lt
   have hN10VY : R4 ≠ W5.heap.size := Nat.ne_of_lt VY.lt
   obtain ⟨W10,hW10,hS10,hL10,VH⟩ := V3.lay W5 34 (.bool false) (.slice none 0 0) (.slice none 0 0)
   replace VX := VX.below hL10
   replace VY := VY.below hL10
   replace BB := BB.trans (hL10.mono BB.size)
   clear hL10
   rw [← hW10]
   generalize W5.heap.size = R10 at *
   clear hW10 hS10
   refine hK.out _ _ ?_ (fun hH1 => ?_)
   ·exact ⟨VX.1,VX.2.1,VX.2.2.1,VY.1,VY.2.1,VY.2.2.1⟩
   clear hK K hHeld
   (try simp only [Act.put,xL4,xL5,xL6])
   refine wpAnyH_ready (rs := [2]) (by kernel_rfl) (by simp) ?_
   refine AllReadyH.cons (by simp only [xL1,xL2,xL3]; rfl) (fun K hK => ?_) AllReadyH.nil
   go_simp
   have hZ11 : w5.heap.size ≤ W10.heap.size := BB.size
   have hN11VX : R3 ≠ W10.heap.size := Nat.ne_of_lt VX.lt
   have hN11VY : R4 ≠ W10.heap.size := Nat.ne_of_lt VY.lt
   have hN11VH : R10 ≠ W10.heap.size := Nat.ne_of_lt VH.lt
   obtain ⟨W11,hW11,hS11,hL11,VL⟩ := V3.lay W10 34 (.bool false) (.slice none 0 0) (.slice none 0 0)
   replace VX := VX.below hL11
   replace VY := VY.below hL11
   replace VH := VH.below hL11
   replace BB := BB.trans (hL11.mono BB.size)
   clear hL11
   rw [← hW11]
   generalize W10.heap.size = R11 at *
   clear hW11 hS11
   refine hK.out _ _ ?_ (fun hH2 => ?_)
   ·exact ⟨VX.1,VX.2.1,VX.2.2.1,VY.1,VY.2.1,VY.2.2.1⟩
   clear hK K hH1
   (try simp only [Act.put,xL4,xL5,xL6])
   refine wpAnyH_ready (rs := [4]) (by kernel_rfl) (by simp) ?_
   refine AllReadyH.cons (by simp only [xL1,xL2,xL3]; rfl) (fun K hK => ?_) AllReadyH.nil
   have hKp := VL.keepJ (.bool px) (.slice ax nx cx) (.slice bx mx dx)
   have VX_n := VX.other3 (R := R11) (by omega) (.bool px) (.slice ax nx cx) (.slice bx mx dx)
   have VY_n := VY.other3 (R := R11) (by omega) (.bool px) (.slice ax nx cx) (.slice bx mx dx)
   have VH_n := VH.other3 (R := R11) (by omega) (.bool px) (.slice ax nx cx) (.slice bx mx dx)
   have VL_n := VL.same (.bool px) (.slice ax nx cx) (.slice bx mx dx)
   have BB_n := below_store3 (R := R11) BB (by omega) (.bool px) (.slice ax nx cx) (.slice bx mx dx)
   clear hKp
   obtain ⟨VL_0,VL_1,VL_2,VL_3,VL_4,VL_5⟩ := id VL
   go_simp
   clear VL_0 VL_1 VL_2 VL_3 VL_4 VL_5
   clear BB VX VY VH VL
   generalize ((W11.setCell ⟨R11,0,none⟩ (.bool px)).setCell ⟨R11,1,none⟩ (.slice ax nx cx)).setCell ⟨R11,2,none⟩ (.slice bx mx dx) = W12 at *
   have BB := BB_n
   have VX := VX_n
   have VY := VY_n
   have VH := VH_n
   have VL := VL_n
   clear BB_n VX_n VY_n VH_n VL_n
   refine hK.out _ _ ?_ (fun hH3 => ?_)
   ·exact ⟨VX.1,VX.2.1,VX.2.2.1,VY.1,VY.2.1,VY.2.2.1⟩
   clear hK K hH2
   (try simp only [Act.put,xL4,xL5,xL6])
   refine wpAnyH_ready (rs := [5]) (by kernel_rfl) (by simp) ?_
   refine AllReadyH.cons (by simp only [xL1,xL2,xL3]; rfl) (fun K hK => ?_) AllReadyH.nil
   have hKp := VH.keepJ (.bool py) (.slice ay ny cy) (.slice by_ my dy)
   have VX_n := VX.other3 (R := R10) (by omega) (.bool py) (.slice ay ny cy) (.slice by_ my dy)
   have VY_n := VY.other3 (R := R10) (by omega) (.bool py) (.slice ay ny cy) (.slice by_ my dy)
   have VL_n := VL.other3 (R := R10) (by omega) (.bool py) (.slice ay ny cy) (.slice by_ my dy)
   have VH_n := VH.same (.bool py) (.slice ay ny cy) (.slice by_ my dy)
   have BB_n := below_store3 (R := R10) BB (by omega) (.bool py) (.slice ay ny cy) (.slice by_ my dy)
   clear hKp
   obtain ⟨VH_0,VH_1,VH_2,VH_3,VH_4,VH_5⟩ := id VH
   go_simp
   clear VH_0 VH_1 VH_2 VH_3 VH_4 VH_5
   clear BB VX VY VH VL
   generalize ((W12.setCell ⟨R10,0,none⟩ (.bool py)).setCell ⟨R10,1,none⟩ (.slice ay ny cy)).setCell ⟨R10,2,none⟩ (.slice by_ my dy) = W13 at *
   have BB := BB_n
   have VX := VX_n
   have VY := VY_n
   have VH := VH_n
   have VL := VL_n
   clear BB_n VX_n VY_n VH_n VL_n
   refine hK.out _ _ ?_ (fun hH4 => ?_)
   ·exact ⟨VX.1,VX.2.1,VX.2.2.1,VY.1,VY.2.1,VY.2.2.1⟩
   clear hK K hH3
   (try simp only [Act.put,xL4,xL5,xL6])
   refine wpAnyH_done (by kernel_rfl) ?_ _
   clear hH4
   go_wp2_with fail
   go_meet
   exact ⟨R11,R10,rfl,rfl,by omega,by omega,by omega,VL,VH,BB⟩
  exact AllReadyH.nil
 case rest =>
  obtain ⟨RL,RH,rfl,rfl,hLH,hRL,hRH,VL,VH,hbW⟩ := hcut
  have hx1 : R3 < w5.heap.size := VX.lt
  have hy1 : R4 < w5.heap.size := VY.lt
  have hzb : w.heap.size + 1 < w5.heap.size := VB.lt
  have hcp := cmpQ_pos q r
  have hcz := cmpQ_zero q r
  generalize hcc : cmpQ q r = cc at *
  by_cases hgt : r < q
  ·rw [decide_eq_true hgt] at hcp
   have hc0 : cc > 0 := of_decide_eq_true hcp
   clear hcp
   go_wp2
   go_cut [] from 29 (fun wd => V3 wd RL (.bool py) (.slice ay ny cy) (.slice by_ my dy) ∧ V3 wd RH (.bool px) (.slice ax nx cx) (.slice bx mx dx) ∧ Below w5.heap.size w5 wd)
   case first =>
    replace VX := VX.below hbW
    replace VY := VY.below hbW
    clear ht Ix Iy Jx Jy VA VB BB
    have BB := hbW
    clear hbW
    have hDr : Below wc.heap.size wc wc.drew := (Below.refl _ _).drew
    replace VX := VX.below hDr
    replace VY := VY.below hDr
    replace VL := VL.below hDr
    replace VH := VH.below hDr
    replace BB := BB.trans (hDr.mono BB.size)
    clear hDr
    refine wp_region_held_drew (S := (fun w' => w'.cell? ⟨R3,0,none⟩ = some (.bool px) ∧ w'.cell? ⟨R3,1,none⟩ = some (.slice ax nx cx) ∧ w'.cell? ⟨R3,2,none⟩ = some (.slice bx mx dx) ∧ w'.cell? ⟨R4,0,none⟩ = some (.bool py) ∧ w'.cell? ⟨R4,1,none⟩ = some (.slice ay ny cy) ∧ w'.cell? ⟨R4,2,none⟩ = some (.slice by_ my dy))) (by kernel_rfl) ?_ (fun hHeld => ?_)
    ·exact ⟨VX.1,VX.2.1,VX.2.2.1,VY.1,VY.2.1,VY.2.2.1⟩
    generalize wc.drew = W14 at *
    refine wpAnyH_take (i := 0) (v := ?_) (by simp only [xL1,xL2,xL3]; rfl) (by kernel_rfl) (by kernel_rfl) (by kernel_rfl) (by exact fun _ _ _ h => h) (Or.inl ⟨by rfl,?_⟩) (by assumption) ?_
    rotate_left
    ·(intro w hSw; (try dsimp only at hSw); go_simp; (try with_reducible rfl))
    (try simp only [Act.put,xL4,xL5,xL6])
    refine wpAnyH_take (i := 1) (v := ?_) (by simp only [xL1,xL2,xL3]; rfl) (by kernel_rfl) (by kernel_rfl) (by kernel_rfl) (by exact fun _ _ _ h => h) (Or.inl ⟨by rfl,?_⟩) (by assumption) ?_
    rotate_left
    ·(intro w hSw; (try dsimp only at hSw); go_simp; (try with_reducible rfl))
    (try simp only [Act.put,xL4,xL5,xL6])
    refine wpAnyH_ready (rs := [2]) (by kernel_rfl) (by simp) ?_
    refine AllReadyH.cons (by simp only [xL1,xL2,xL3]; rfl) (fun K hK => ?_) AllReadyH.nil
    have hKp := VL.keepJ (.bool py) (.slice ay ny cy) (.slice by_ my dy)
    have VX_n := VX.other3 (R := RL) (by omega) (.bool py) (.slice ay ny cy) (.slice by_ my dy)
    have VY_n := VY.other3 (R := RL) (by omega) (.bool py) (.slice ay ny cy) (.slice by_ my dy)
    have VH_n := VH.other3 (R := RL) (by omega) (.bool py) (.slice ay ny cy) (.slice by_ my dy)
    have VL_n := VL.same (.bool py) (.slice ay ny cy) (.slice by_ my dy)
    have BB_n := below_store3 (R := RL) BB (by omega) (.bool py) (.slice ay ny cy) (.slice by_ my dy)
    clear hKp
    obtain ⟨VL_0,VL_1,VL_2,VL_3,VL_4,VL_5⟩ := id VL
    go_simp
    clear VL_0 VL_1 VL_2 VL_3 VL_4 VL_5
    clear BB VX VY VL VH
    generalize ((W14.setCell ⟨RL,0,none⟩ (.bool py)).setCell ⟨RL,1,none⟩ (.slice ay ny cy)).setCell ⟨RL,2,none⟩ (.slice by_ my dy) = W15 at *
    have BB := BB_n
    have VX := VX_n
    have VY := VY_n
    have VL := VL_n
    have VH := VH_n
    clear BB_n VX_n VY_n VL_n VH_n
    refine hK.out _ _ ?_ (fun hH1 => ?_)
    ·exact ⟨VX.1,VX.2.1,VX.2.2.1,VY.1,VY.2.1,VY.2.2.1⟩
    clear hK K hHeld
    (try simp only [Act.put,xL4,xL5,xL6])
    refine wpAnyH_ready (rs := [3]) (by kernel_rfl) (by simp) ?_
    refine AllReadyH.cons (by simp only [xL1,xL2,xL3]; rfl) (fun K hK => ?_) AllReadyH.nil
    have hKp := VH.keepJ (.bool px) (.slice ax nx cx) (.slice bx mx dx)
    have VX_n := VX.other3 (R := RH) (by omega) (.bool px) (.slice ax nx cx) (.slice bx mx dx)
    have VY_n := VY.other3 (R := RH) (by omega) (.bool px) (.slice ax nx cx) (.slice bx mx dx)
    have VL_n := VL.other3 (R := RH) (by omega) (.bool px) (.slice ax nx cx) (.slice bx mx dx)
    have VH_n := VH.same (.bool px) (.slice ax nx cx) (.slice bx mx dx)
    have BB_n := below_store3 (R := RH) BB (by omega) (.bool px) (.slice ax nx cx) (.slice bx mx dx)
    clear hKp
    obtain ⟨VH_0,VH_1,VH_2,VH_3,VH_4,VH_5⟩ := id VH
    go_simp
    clear VH_0 VH_1 VH_2 VH_3 VH_4 VH_5
    clear BB VX VY VL VH
    generalize ((W15.setCell ⟨RH,0,none⟩ (.bool px)).setCell ⟨RH,1,none⟩ (.slice ax nx cx)).setCell ⟨RH,2,none⟩ (.slice bx mx dx) = W16 at *
    have BB := BB_n
    have VX := VX_n
    have VY := VY_n
    have VL := VL_n
    have VH := VH_n
    clear BB_n VX_n VY_n VL_n VH_n
    refine hK.out _ _ ?_ (fun hH2 => ?_)
    ·exact ⟨VX.1,VX.2.1,VX.2.2.1,VY.1,VY.2.1,VY.2.2.1⟩
    clear hK K hH1
    (try simp only [Act.put,xL4,xL5,xL6])
    refine wpAnyH_done (by kernel_rfl) ?_ _
    clear hH2
    go_wp2_with fail
    go_meet
    exact ⟨VL,VH,BB⟩
   case rest =>
    clear VL VH hbW
    obtain ⟨VL,VH,hbW⟩ := hcut
    replace ht := ht.below hbW
    replace Ix := Ix.below hbW
    replace Iy := Iy.below hbW
    replace Jx := Jx.below hbW
    replace Jy := Jy.below hbW
    replace VA := VA.below hbW
    replace VB := VB.below hbW
    replace VX := VX.below hbW
    replace VY := VY.below hbW
    replace BB := BB.trans (hbW.mono BB.size)
    clear hbW
    go_wp2
    have hne1 : (!(cc == cc)) = false := by simp
    have hDr : Below wc.heap.size wc wc.drew := (Below.refl _ _).drew
    replace ht := ht.below hDr
    replace Ix := Ix.below hDr
    replace Iy := Iy.below hDr
    replace Jx := Jx.below hDr
    replace Jy := Jy.below hDr
    replace VA := VA.below hDr
    replace VB := VB.below hDr
    replace VX := VX.below hDr
    replace VY := VY.below hDr
    replace VL := VL.below hDr
    replace VH := VH.below hDr
    replace BB := BB.trans (hDr.mono BB.size)
    clear hDr
    refine wp_region_held_drew (S := (fun w' => w'.cell? ⟨w.heap.size,0,none⟩ = some (.bool p) ∧ w'.cell? ⟨w.heap.size,1,none⟩ = some (.slice ao n c) ∧ w'.cell? ⟨w.heap.size,2,none⟩ = some (.slice bo m d) ∧ w'.cell? ⟨w.heap.size + 1,0,none⟩ = some (.bool p2) ∧ w'.cell? ⟨w.heap.size + 1,1,none⟩ = some (.slice ao2 n2 c2) ∧ w'.cell? ⟨w.heap.size + 1,2,none⟩ = some (.slice bo2 m2 d2) ∧ w'.cell? ⟨RL,0,none⟩ = some (.bool py) ∧ w'.cell? ⟨RL,1,none⟩ = some (.slice ay ny cy) ∧ w'.cell? ⟨RL,2,none⟩ = some (.slice by_ my dy) ∧ w'.cell? ⟨RH,0,none⟩ = some (.bool px) ∧ w'.cell? ⟨RH,1,none⟩ = some (.slice ax nx cx) ∧ w'.cell? ⟨RH,2,none⟩ = some (.slice bx mx dx))) (by kernel_rfl) ?_ (fun hHeld => ?_)
    ·exact ⟨VA.1,VA.2.1,VA.2.2.1,VB.1,VB.2.1,VB.2.2.1,VL.1,VL.2.1,VL.2.2.1,VH.1,VH.2.1,VH.2.2.1⟩
    generalize wc.drew = W17 at *
    refine wpAnyH_take (i := 0) (v := ?_) (by simp only [xL1,xL2,xL3]; rfl) (by kernel_rfl) (by kernel_rfl) (by kernel_rfl) (by exact fun _ _ _ h => h) (Or.inl ⟨by rfl,?_⟩) (by assumption) ?_
    rotate_left
    ·(intro w hSw; (try dsimp only at hSw); go_simp; (try with_reducible rfl))
    (try simp only [Act.put,xL4,xL5,xL6])
    refine wpAnyH_take (i := 1) (v := ?_) (by simp only [xL1,xL2,xL3]; rfl) (by kernel_rfl) (by kernel_rfl) (by kernel_rfl) (by exact fun _ _ _ h => h) (Or.inl ⟨by rfl,?_⟩) (by assumption) ?_
    rotate_left
    ·(intro w hSw; (try dsimp only at hSw); go_simp; (try with_reducible rfl))
    (try simp only [Act.put,xL4,xL5,xL6])
    refine wpAnyH_take (i := 3) (v := ?_) (by simp only [xL1,xL2,xL3]; rfl) (by kernel_rfl) (by kernel_rfl) (by kernel_rfl) (by exact fun _ _ _ h => h) (Or.inl ⟨by rfl,?_⟩) (by assumption) ?_
    rotate_left
    ·(intro w hSw; (try dsimp only at hSw); go_simp; (try with_reducible rfl))
    (try simp only [Act.put,xL4,xL5,xL6])
    refine wpAnyH_ready (rs := [2]) (by kernel_rfl) (by simp) ?_
    refine AllReadyH.cons (by simp only [xL1,xL2,xL3]; rfl) (fun K hK => ?_) AllReadyH.nil
    go_simp
    refine (qcmp_at _ _ q r 8 _ Ix Iy (by omega) (by omega)).mono ?_
    rintro e w6 ⟨rfl,b6⟩
    rw [hcc]
    go_wp2_with fail
    replace ht := ht.below b6
    replace Ix := Ix.below b6
    replace Iy := Iy.below b6
    replace Jx := Jx.below b6
    replace Jy := Jy.below b6
    replace VA := VA.below b6
    replace VB := VB.below b6
    replace VX := VX.below b6
    replace VY := VY.below b6
    replace VL := VL.below b6
    replace VH := VH.below b6
    replace BB := BB.trans (b6.mono BB.size)
    clear b6
    refine hK.out _ _ ?_ (fun hH1 => ?_)
    ·exact ⟨VA.1,VA.2.1,VA.2.2.1,VB.1,VB.2.1,VB.2.2.1,VL.1,VL.2.1,VL.2.2.1,VH.1,VH.2.1,VH.2.2.1⟩
    clear hK K hHeld
    (try simp only [Act.put,xL4,xL5,xL6])
    refine wpAnyH_take (i := 4) (v := ?_) (by simp only [xL1,xL2,xL3]; rfl) (by kernel_rfl) (by kernel_rfl) (by kernel_rfl) (by exact fun _ _ _ h => h) (Or.inl ⟨by rfl,?_⟩) (by assumption) ?_
    rotate_left
    ·(intro w hSw; (try dsimp only at hSw); go_simp; (try with_reducible rfl))
    (try simp only [Act.put,xL4,xL5,xL6])
    refine wpAnyH_take (i := 5) (v := ?_) (by simp only [xL1,xL2,xL3]; rfl) (by kernel_rfl) (by kernel_rfl) (by kernel_rfl) (by exact fun _ _ _ h => h) (Or.inl ⟨by rfl,?_⟩) (by assumption) ?_
    rotate_left
    ·(intro w hSw; (try dsimp only at hSw); go_simp; (try with_reducible rfl))
    (try simp only [Act.put,xL4,xL5,xL6])
    refine wpAnyH_take (i := 6) (v := ?_) (by simp only [xL1,xL2,xL3]; rfl) (by kernel_rfl) (by kernel_rfl) (by kernel_rfl) (by exact fun _ _ _ h => h) (Or.inl ⟨by rfl,?_⟩) (by assumption) ?_
    rotate_left
    ·(intro w hSw; (try dsimp only at hSw); go_simp; (try with_reducible rfl))
    (try simp only [Act.put,xL4,xL5,xL6])
    refine wpAnyH_take (i := 7) (v := ?_) (by simp only [xL1,xL2,xL3]; rfl) (by kernel_rfl) (by kernel_rfl) (by kernel_rfl) (by exact fun _ _ _ h => h) (Or.inl ⟨by rfl,?_⟩) (by assumption) ?_
    rotate_left
    ·(intro w hSw; (try dsimp only at hSw); go_simp; (try with_reducible rfl))
    (try simp only [Act.put,xL4,xL5,xL6])
    refine wpAnyH_take (i := 9) (v := ?_) (by simp only [xL1,xL2,xL3]; rfl) (by kernel_rfl) (by kernel_rfl) (by kernel_rfl) (by exact fun _ _ _ h => h) (Or.inl ⟨by rfl,?_⟩) (by assumption) ?_
    rotate_left
    ·(intro w hSw; (try dsimp only at hSw); go_simp; (try with_reducible rfl))
    (try simp only [Act.put,xL4,xL5,xL6])
    refine wpAnyH_take (i := 10) (v := ?_) (by simp only [xL1,xL2,xL3]; rfl) (by kernel_rfl) (by kernel_rfl) (by kernel_rfl) (by exact fun _ _ _ h => h) (Or.inl ⟨by rfl,?_⟩) (by assumption) ?_
    rotate_left
    ·(intro w hSw; (try dsimp only at hSw); go_simp; (try with_reducible rfl))
    (try simp only [Act.put,xL4,xL5,xL6])
    refine wpAnyH_ready (rs := [8]) (by kernel_rfl) (by simp) ?_
    refine AllReadyH.cons (by simp only [xL1,xL2,xL3]; rfl) (fun K hK => ?_) AllReadyH.nil
    go_simp
    refine (qsame_at _ _ q r 8 _ Ix Iy (by omega) (by omega)).mono ?_
    rintro e w7 ⟨rfl,b7⟩
    rw [← hcz]
    go_wp2_with fail
    replace ht := ht.below b7
    replace Ix := Ix.below b7
    replace Iy := Iy.below b7
    replace Jx := Jx.below b7
    replace Jy := Jy.below b7
    replace VA := VA.below b7
    replace VB := VB.below b7
    replace VX := VX.below b7
    replace VY := VY.below b7
    replace VL := VL.below b7
    replace VH := VH.below b7
    replace BB := BB.trans (b7.mono BB.size)
    clear b7
    refine hK.out _ _ ?_ (fun hH2 => ?_)
    ·exact ⟨VA.1,VA.2.1,VA.2.2.1,VB.1,VB.2.1,VB.2.2.1,VL.1,VL.2.1,VL.2.2.1,VH.1,VH.2.1,VH.2.2.1⟩
    clear hK K hH1
    (try simp only [Act.put,xL4,xL5,xL6])
    refine wpAnyH_take (i := 11) (v := ?_) (by simp only [xL1,xL2,xL3]; rfl) (by kernel_rfl) (by kernel_rfl) (by kernel_rfl) (by exact fun _ _ _ h => h) (Or.inl ⟨by rfl,?_⟩) (by assumption) ?_
    rotate_left
    ·(intro w hSw; (try dsimp only at hSw); go_simp; (try with_reducible rfl))
    (try simp only [Act.put,xL4,xL5,xL6])
    refine wpAnyH_take (i := 12) (v := ?_) (by simp only [xL1,xL2,xL3]; rfl) (by kernel_rfl) (by kernel_rfl) (by kernel_rfl) (by exact fun _ _ _ h => h) (Or.inl ⟨by rfl,?_⟩) (by assumption) ?_
    rotate_left
    ·(intro w hSw; (try dsimp only at hSw); go_simp; (try with_reducible rfl))
    (try simp only [Act.put,xL4,xL5,xL6])
    refine wpAnyH_take (i := 13) (v := ?_) (by simp only [xL1,xL2,xL3]; rfl) (by kernel_rfl) (by kernel_rfl) (by kernel_rfl) (by exact fun _ _ _ h => h) (Or.inl ⟨by rfl,?_⟩) (by assumption) ?_
    rotate_left
    ·(intro w hSw; (try dsimp only at hSw); go_simp; (try with_reducible rfl))
    (try simp only [Act.put,xL4,xL5,xL6])
    refine wpAnyH_take (i := 14) (v := ?_) (by simp only [xL1,xL2,xL3]; rfl) (by kernel_rfl) (by kernel_rfl) (by kernel_rfl) (by exact fun _ _ _ h => h) (Or.inl ⟨by rfl,?_⟩) (by assumption) ?_
    rotate_left
    ·(intro w hSw; (try dsimp only at hSw); go_simp; (try with_reducible rfl))
    (try simp only [Act.put,xL4,xL5,xL6])
    refine wpAnyH_take (i := 15) (v := ?_) (by simp only [xL1,xL2,xL3]; rfl) (by kernel_rfl) (by kernel_rfl) (by kernel_rfl) (by exact fun _ _ _ h => h) (Or.inl ⟨by rfl,?_⟩) (by assumption) ?_
    rotate_left
    ·(intro w hSw; (try dsimp only at hSw); go_simp; (try with_reducible rfl))
    (try simp only [Act.put,xL4,xL5,xL6])
    refine wpAnyH_take (i := 17) (v := ?_) (by simp only [xL1,xL2,xL3]; rfl) (by kernel_rfl) (by kernel_rfl) (by kernel_rfl) (by exact fun _ _ _ h => h) (Or.inl ⟨by rfl,?_⟩) (by assumption) ?_
    rotate_left
    ·(intro w hSw; (try dsimp only at hSw); go_simp; (try with_reducible rfl))
    (try simp only [Act.put,xL4,xL5,xL6])
    refine wpAnyH_ready (rs := [16]) (by kernel_rfl) (by simp) ?_
    refine AllReadyH.cons (by simp only [xL1,xL2,xL3]; rfl) (fun K hK => ?_) AllReadyH.nil
    go_simp
    refine (qmin_at _ _ q r 8 _ Ix Iy (by omega) (by omega) ht).mono ?_
    rintro e w8 ⟨vm,rfl,hm,b8⟩
    rw [if_pos hgt] at hm
    go_wp2_with fail
    replace ht := ht.below b8
    replace Ix := Ix.below b8
    replace Iy := Iy.below b8
    replace Jx := Jx.below b8
    replace Jy := Jy.below b8
    replace VA := VA.below b8
    replace VB := VB.below b8
    replace VX := VX.below b8
    replace VY := VY.below b8
    replace VL := VL.below b8
    replace VH := VH.below b8
    replace BB := BB.trans (b8.mono BB.size)
    clear b8
    refine hK.out _ _ ?_ (fun hH3 => ?_)
    ·exact ⟨VA.1,VA.2.1,VA.2.2.1,VB.1,VB.2.1,VB.2.2.1,VL.1,VL.2.1,VL.2.2.1,VH.1,VH.2.1,VH.2.2.1⟩
    clear hK K hH2
    (try simp only [Act.put,xL4,xL5,xL6])
    refine wpAnyH_ready (rs := [18]) (by kernel_rfl) (by simp) ?_
    refine AllReadyH.cons (by simp only [xL1,xL2,xL3]; rfl) (fun K hK => ?_) AllReadyH.nil
    go_simp
    refine (jis_at _ _ r 8 8 _ hm sr Jy (by omega)).mono ?_
    rintro e w9 ⟨rfl,b9⟩
    go_wp2_with fail
    replace ht := ht.below b9
    replace Ix := Ix.below b9
    replace Iy := Iy.below b9
    replace Jx := Jx.below b9
    replace Jy := Jy.below b9
    replace hm := hm.below b9
    replace VA := VA.below b9
    replace VB := VB.below b9
    replace VX := VX.below b9
    replace VY := VY.below b9
    replace VL := VL.below b9
    replace VH := VH.below b9
    replace BB := BB.trans (b9.mono BB.size)
    clear b9
    refine hK.out _ _ ?_ (fun hH4 => ?_)
    ·exact ⟨VA.1,VA.2.1,VA.2.2.1,VB.1,VB.2.1,VB.2.2.1,VL.1,VL.2.1,VL.2.2.1,VH.1,VH.2.1,VH.2.2.1⟩
    clear hK K hH3
    (try simp only [Act.put,xL4,xL5,xL6])
    refine wpAnyH_take (i := 19) (v := ?_) (by simp only [xL1,xL2,xL3]; rfl) (by kernel_rfl) (by kernel_rfl) (by kernel_rfl) (by exact fun _ _ _ h => h) (Or.inl ⟨by rfl,?_⟩) (by assumption) ?_
    rotate_left
    ·(intro w hSw; (try dsimp only at hSw); go_simp; (try with_reducible rfl))
    (try simp only [Act.put,xL4,xL5,xL6])
    refine wpAnyH_take (i := 20) (v := ?_) (by simp only [xL1,xL2,xL3]; rfl) (by kernel_rfl) (by kernel_rfl) (by kernel_rfl) (by exact fun _ _ _ h => h) (Or.inl ⟨by rfl,?_⟩) (by assumption) ?_
    rotate_left
    ·(intro w hSw; (try dsimp only at hSw); go_simp; (try with_reducible rfl))
    (try simp only [Act.put,xL4,xL5,xL6])
    refine wpAnyH_take (i := 21) (v := ?_) (by simp only [xL1,xL2,xL3]; rfl) (by kernel_rfl) (by kernel_rfl) (by kernel_rfl) (by exact fun _ _ _ h => h) (Or.inl ⟨by rfl,?_⟩) (by assumption) ?_
    rotate_left
    ·(intro w hSw; (try dsimp only at hSw); go_simp; (try with_reducible rfl))
    (try simp only [Act.put,xL4,xL5,xL6])
    refine wpAnyH_take (i := 22) (v := ?_) (by simp only [xL1,xL2,xL3]; rfl) (by kernel_rfl) (by kernel_rfl) (by kernel_rfl) (by exact fun _ _ _ h => h) (Or.inl ⟨by rfl,?_⟩) (by assumption) ?_
    rotate_left
    ·(intro w hSw; (try dsimp only at hSw); go_simp; (try with_reducible rfl))
    (try simp only [Act.put,xL4,xL5,xL6])
    refine wpAnyH_take (i := 23) (v := ?_) (by simp only [xL1,xL2,xL3]; rfl) (by kernel_rfl) (by kernel_rfl) (by kernel_rfl) (by exact fun _ _ _ h => h) (Or.inl ⟨by rfl,?_⟩) (by assumption) ?_
    rotate_left
    ·(intro w hSw; (try dsimp only at hSw); go_simp; (try with_reducible rfl))
    (try simp only [Act.put,xL4,xL5,xL6])
    refine wpAnyH_take (i := 25) (v := ?_) (by simp only [xL1,xL2,xL3]; rfl) (by kernel_rfl) (by kernel_rfl) (by kernel_rfl) (by exact fun _ _ _ h => h) (Or.inl ⟨by rfl,?_⟩) (by assumption) ?_
    rotate_left
    ·(intro w hSw; (try dsimp only at hSw); go_simp; (try with_reducible rfl))
    (try simp only [Act.put,xL4,xL5,xL6])
    refine wpAnyH_ready (rs := [24]) (by kernel_rfl) (by simp) ?_
    refine AllReadyH.cons (by simp only [xL1,xL2,xL3]; rfl) (fun K hK => ?_) AllReadyH.nil
    go_simp
    refine (qmax_at _ _ q r 8 _ Ix Iy (by omega) (by omega) ht).mono ?_
    rintro e w10 ⟨vh,rfl,hh,b10⟩
    rw [if_neg (Rat.not_lt.2 (Rat.le_of_lt hgt))] at hh
    go_wp2_with fail
    replace ht := ht.below b10
    replace Ix := Ix.below b10
    replace Iy := Iy.below b10
    replace Jx := Jx.below b10
    replace Jy := Jy.below b10
    replace hm := hm.below b10
    replace VA := VA.below b10
    replace VB := VB.below b10
    replace VX := VX.below b10
    replace VY := VY.below b10
    replace VL := VL.below b10
    replace VH := VH.below b10
    replace BB := BB.trans (b10.mono BB.size)
    clear b10
    refine hK.out _ _ ?_ (fun hH5 => ?_)
    ·exact ⟨VA.1,VA.2.1,VA.2.2.1,VB.1,VB.2.1,VB.2.2.1,VL.1,VL.2.1,VL.2.2.1,VH.1,VH.2.1,VH.2.2.1⟩
    clear hK K hH4
    (try simp only [Act.put,xL4,xL5,xL6])
    refine wpAnyH_ready (rs := [26]) (by kernel_rfl) (by simp) ?_
    refine AllReadyH.cons (by simp only [xL1,xL2,xL3]; rfl) (fun K hK => ?_) AllReadyH.nil
    go_simp
    refine (jis_at _ _ q 8 8 _ hh sq Jx (by omega)).mono ?_
    rintro e w11 ⟨rfl,b11⟩
    go_wp2_with fail
    replace ht := ht.below b11
    replace Ix := Ix.below b11
    replace Iy := Iy.below b11
    replace Jx := Jx.below b11
    replace Jy := Jy.below b11
    replace hm := hm.below b11
    replace hh := hh.below b11
    replace VA := VA.below b11
    replace VB := VB.below b11
    replace VX := VX.below b11
    replace VY := VY.below b11
    replace VL := VL.below b11
    replace VH := VH.below b11
    replace BB := BB.trans (b11.mono BB.size)
    clear b11
    refine hK.out _ _ ?_ (fun hH6 => ?_)
    ·exact ⟨VA.1,VA.2.1,VA.2.2.1,VB.1,VB.2.1,VB.2.2.1,VL.1,VL.2.1,VL.2.2.1,VH.1,VH.2.1,VH.2.2.1⟩
    clear hK K hH5
    (try simp only [Act.put,xL4,xL5,xL6])
    refine wpAnyH_take (i := 27) (v := ?_) (by simp only [xL1,xL2,xL3]; rfl) (by kernel_rfl) (by kernel_rfl) (by kernel_rfl) (by exact fun _ _ _ h => h) (Or.inl ⟨by rfl,?_⟩) (by assumption) ?_
    rotate_left
    ·(intro w hSw; (try dsimp only at hSw); go_simp; (try with_reducible rfl))
    (try simp only [Act.put,xL4,xL5,xL6])
    refine wpAnyH_take (i := 28) (v := ?_) (by simp only [xL1,xL2,xL3]; rfl) (by kernel_rfl) (by kernel_rfl) (by kernel_rfl) (by exact fun _ _ _ h => h) (Or.inl ⟨by rfl,?_⟩) (by assumption) ?_
    rotate_left
    ·(intro w hSw; (try dsimp only at hSw); go_simp; (try with_reducible rfl))
    (try simp only [Act.put,xL4,xL5,xL6])
    refine wpAnyH_done (by kernel_rfl) ?_ _
    clear hH6
    clear hm hh
    clear VL VH
    go_wp2
    have z1 := qsz_add q r sq sr
    have z2 := qsz_sub q r sq sr
    have z3 := qsz_mul q r sq sr
    have hDr : Below w11.heap.size w11 w11.drew := (Below.refl _ _).drew
    replace ht := ht.below hDr
    replace Ix := Ix.below hDr
    replace Iy := Iy.below hDr
    replace Jx := Jx.below hDr
    replace Jy := Jy.below hDr
    replace VA := VA.below hDr
    replace VB := VB.below hDr
    replace VX := VX.below hDr
    replace VY := VY.below hDr
    replace BB := BB.trans (hDr.mono BB.size)
    clear hDr
    refine wp_region_held_drew (S := (fun w' => w'.cell? ⟨w.heap.size,0,none⟩ = some (.bool p) ∧ w'.cell? ⟨w.heap.size,1,none⟩ = some (.slice ao n c) ∧ w'.cell? ⟨w.heap.size,2,none⟩ = some (.slice bo m d) ∧ w'.cell? ⟨w.heap.size + 1,0,none⟩ = some (.bool p2) ∧ w'.cell? ⟨w.heap.size + 1,1,none⟩ = some (.slice ao2 n2 c2) ∧ w'.cell? ⟨w.heap.size + 1,2,none⟩ = some (.slice bo2 m2 d2) ∧ w'.cell? ⟨R3,0,none⟩ = some (.bool px) ∧ w'.cell? ⟨R3,1,none⟩ = some (.slice ax nx cx) ∧ w'.cell? ⟨R3,2,none⟩ = some (.slice bx mx dx) ∧ w'.cell? ⟨R4,0,none⟩ = some (.bool py) ∧ w'.cell? ⟨R4,1,none⟩ = some (.slice ay ny cy) ∧ w'.cell? ⟨R4,2,none⟩ = some (.slice by_ my dy))) (by kernel_rfl) ?_ (fun hHeld => ?_)
    ·exact ⟨VA.1,VA.2.1,VA.2.2.1,VB.1,VB.2.1,VB.2.2.1,VX.1,VX.2.1,VX.2.2.1,VY.1,VY.2.1,VY.2.2.1⟩
    generalize w11.drew = W18 at *
    refine wpAnyH_take (i := 0) (v := ?_) (by simp only [xL1,xL2,xL3]; rfl) (by kernel_rfl) (by kernel_rfl) (by kernel_rfl) (by exact fun _ _ _ h => h) (Or.inl ⟨by rfl,?_⟩) (by assumption) ?_
    rotate_left
    ·(intro w hSw; (try dsimp only at hSw); go_simp; (try with_reducible rfl))
    (try simp only [Act.put,xL4,xL5,xL6])
    refine wpAnyH_take (i := 1) (v := ?_) (by simp only [xL1,xL2,xL3]; rfl) (by kernel_rfl) (by kernel_rfl) (by kernel_rfl) (by exact fun _ _ _ h => h) (Or.inl ⟨by rfl,?_⟩) (by assumption) ?_
    rotate_left
    ·(intro w hSw; (try dsimp only at hSw); go_simp; (try with_reducible rfl))
    (try simp only [Act.put,xL4,xL5,xL6])
    refine wpAnyH_take (i := 3) (v := ?_) (by simp only [xL1,xL2,xL3]; rfl) (by kernel_rfl) (by kernel_rfl) (by kernel_rfl) (by exact fun _ _ _ h => h) (Or.inl ⟨by rfl,?_⟩) (by assumption) ?_
    rotate_left
    ·(intro w hSw; (try dsimp only at hSw); go_simp; (try with_reducible rfl))
    (try simp only [Act.put,xL4,xL5,xL6])
    refine wpAnyH_take (i := 4) (v := ?_) (by simp only [xL1,xL2,xL3]; rfl) (by kernel_rfl) (by kernel_rfl) (by kernel_rfl) (by exact fun _ _ _ h => h) (Or.inl ⟨by rfl,?_⟩) (by assumption) ?_
    rotate_left
    ·(intro w hSw; (try dsimp only at hSw); go_simp; (try with_reducible rfl))
    (try simp only [Act.put,xL4,xL5,xL6])
    refine wpAnyH_ready (rs := [2]) (by kernel_rfl) (by simp) ?_
    refine AllReadyH.cons (by simp only [xL1,xL2,xL3]; rfl) (fun K hK => ?_) AllReadyH.nil
    go_simp
    refine (qadd_at _ _ q r 8 _ Ix Iy (by omega) (by omega) ht).mono ?_
    rintro e w12 ⟨t1,rfl,h1,b12⟩
    go_wp2_with fail
    replace ht := ht.below b12
    replace Ix := Ix.below b12
    replace Iy := Iy.below b12
    replace Jx := Jx.below b12
    replace Jy := Jy.below b12
    replace VA := VA.below b12
    replace VB := VB.below b12
    replace VX := VX.below b12
    replace VY := VY.below b12
    replace BB := BB.trans (b12.mono BB.size)
    clear b12
    refine hK.out _ _ ?_ (fun hH1 => ?_)
    ·exact ⟨VA.1,VA.2.1,VA.2.2.1,VB.1,VB.2.1,VB.2.2.1,VX.1,VX.2.1,VX.2.2.1,VY.1,VY.2.1,VY.2.2.1⟩
    clear hK K hHeld
    (try simp only [Act.put,xL4,xL5,xL6])
    refine wpAnyH_ready (rs := [5]) (by kernel_rfl) (by simp) ?_
    refine AllReadyH.cons (by simp only [xL1,xL2,xL3]; rfl) (fun K hK => ?_) AllReadyH.nil
    go_simp
    refine (jplus_at _ _ q r 8 8 _ Jx Jy (by omega)).mono ?_
    rintro e w13 ⟨t2,rfl,h2,b13⟩
    go_wp2_with fail
    replace ht := ht.below b13
    replace Ix := Ix.below b13
    replace Iy := Iy.below b13
    replace Jx := Jx.below b13
    replace Jy := Jy.below b13
    replace h1 := h1.below b13
    replace VA := VA.below b13
    replace VB := VB.below b13
    replace VX := VX.below b13
    replace VY := VY.below b13
    replace BB := BB.trans (b13.mono BB.size)
    clear b13
    refine hK.out _ _ ?_ (fun hH2 => ?_)
    ·exact ⟨VA.1,VA.2.1,VA.2.2.1,VB.1,VB.2.1,VB.2.2.1,VX.1,VX.2.1,VX.2.2.1,VY.1,VY.2.1,VY.2.2.1⟩
    clear hK K hH1
    (try simp only [Act.put,xL4,xL5,xL6])
    refine wpAnyH_ready (rs := [6]) (by kernel_rfl) (by simp) ?_
    refine AllReadyH.cons (by simp only [xL1,xL2,xL3]; rfl) (fun K hK => ?_) AllReadyH.nil
    go_simp
    refine (jis_at _ _ (q + r) 17 17 _ h1 z1 h2 (by omega)).mono ?_
    rintro e w14 ⟨rfl,b14⟩
    go_wp2_with fail
    replace ht := ht.below b14
    replace Ix := Ix.below b14
    replace Iy := Iy.below b14
    replace Jx := Jx.below b14
    replace Jy := Jy.below b14
    replace h1 := h1.below b14
    replace h2 := h2.below b14
    replace VA := VA.below b14
    replace VB := VB.below b14
    replace VX := VX.below b14
    replace VY := VY.below b14
    replace BB := BB.trans (b14.mono BB.size)
    clear b14
    refine hK.out _ _ ?_ (fun hH3 => ?_)
    ·exact ⟨VA.1,VA.2.1,VA.2.2.1,VB.1,VB.2.1,VB.2.2.1,VX.1,VX.2.1,VX.2.2.1,VY.1,VY.2.1,VY.2.2.1⟩
    clear hK K hH2
    (try simp only [Act.put,xL4,xL5,xL6])
    refine wpAnyH_take (i := 7) (v := ?_) (by simp only [xL1,xL2,xL3]; rfl) (by kernel_rfl) (by kernel_rfl) (by kernel_rfl) (by exact fun _ _ _ h => h) (Or.inl ⟨by rfl,?_⟩) (by assumption) ?_
    rotate_left
    ·(intro w hSw; (try dsimp only at hSw); go_simp; (try with_reducible rfl))
    (try simp only [Act.put,xL4,xL5,xL6])
    refine wpAnyH_take (i := 8) (v := ?_) (by simp only [xL1,xL2,xL3]; rfl) (by kernel_rfl) (by kernel_rfl) (by kernel_rfl) (by exact fun _ _ _ h => h) (Or.inl ⟨by rfl,?_⟩) (by assumption) ?_
    rotate_left
    ·(intro w hSw; (try dsimp only at hSw); go_simp; (try with_reducible rfl))
    (try simp only [Act.put,xL4,xL5,xL6])
    refine wpAnyH_take (i := 9) (v := ?_) (by simp only [xL1,xL2,xL3]; rfl) (by kernel_rfl) (by kernel_rfl) (by kernel_rfl) (by exact fun _ _ _ h => h) (Or.inl ⟨by rfl,?_⟩) (by assumption) ?_
    rotate_left
    ·(intro w hSw; (try dsimp only at hSw); go_simp; (try with_reducible rfl))
    (try simp only [Act.put,xL4,xL5,xL6])
    refine wpAnyH_take (i := 10) (v := ?_) (by simp only [xL1,xL2,xL3]; rfl) (by kernel_rfl) (by kernel_rfl) (by kernel_rfl) (by exact fun _ _ _ h => h) (Or.inl ⟨by rfl,?_⟩) (by assumption) ?_
    rotate_left
    ·(intro w hSw; (try dsimp only at hSw); go_simp; (try with_reducible rfl))
    (try simp only [Act.put,xL4,xL5,xL6])
    refine wpAnyH_take (i := 12) (v := ?_) (by simp only [xL1,xL2,xL3]; rfl) (by kernel_rfl) (by kernel_rfl) (by kernel_rfl) (by exact fun _ _ _ h => h) (Or.inl ⟨by rfl,?_⟩) (by assumption) ?_
    rotate_left
    ·(intro w hSw; (try dsimp only at hSw); go_simp; (try with_reducible rfl))
    (try simp only [Act.put,xL4,xL5,xL6])
    refine wpAnyH_take (i := 13) (v := ?_) (by simp only [xL1,xL2,xL3]; rfl) (by kernel_rfl) (by kernel_rfl) (by kernel_rfl) (by exact fun _ _ _ h => h) (Or.inl ⟨by rfl,?_⟩) (by assumption) ?_
    rotate_left
    ·(intro w hSw; (try dsimp only at hSw); go_simp; (try with_reducible rfl))
    (try simp only [Act.put,xL4,xL5,xL6])
    refine wpAnyH_ready (rs := [11]) (by kernel_rfl) (by simp) ?_
    refine AllReadyH.cons (by simp only [xL1,xL2,xL3]; rfl) (fun K hK => ?_) AllReadyH.nil
    go_simp
    refine (qsub_at _ _ q r 8 _ Ix Iy (by omega) (by omega) ht).mono ?_
    rintro e w15 ⟨t3,rfl,h3,b15⟩
    rw [Rat.sub_eq_add_neg] at h3
    go_wp2_with fail
    replace ht := ht.below b15
    replace Ix := Ix.below b15
    replace Iy := Iy.below b15
    replace Jx := Jx.below b15
    replace Jy := Jy.below b15
    replace h1 := h1.below b15
    replace h2 := h2.below b15
    replace VA := VA.below b15
    replace VB := VB.below b15
    replace VX := VX.below b15
    replace VY := VY.below b15
    replace BB := BB.trans (b15.mono BB.size)
    clear b15
    refine hK.out _ _ ?_ (fun hH4 => ?_)
    ·exact ⟨VA.1,VA.2.1,VA.2.2.1,VB.1,VB.2.1,VB.2.2.1,VX.1,VX.2.1,VX.2.2.1,VY.1,VY.2.1,VY.2.2.1⟩
    clear hK K hH3
    (try simp only [Act.put,xL4,xL5,xL6])
    refine wpAnyH_ready (rs := [14]) (by kernel_rfl) (by simp) ?_
    refine AllReadyH.cons (by simp only [xL1,xL2,xL3]; rfl) (fun K hK => ?_) AllReadyH.nil
    go_simp
    refine (jminus_at _ r 8 _ Jy (by omega)).mono ?_
    rintro e w16 ⟨t4,rfl,h4,b16⟩
    go_wp2_with fail
    replace ht := ht.below b16
    replace Ix := Ix.below b16
    replace Iy := Iy.below b16
    replace Jx := Jx.below b16
    replace Jy := Jy.below b16
    replace h1 := h1.below b16
    replace h2 := h2.below b16
    replace h3 := h3.below b16
    replace VA := VA.below b16
    replace VB := VB.below b16
    replace VX := VX.below b16
    replace VY := VY.below b16
    replace BB := BB.trans (b16.mono BB.size)
    clear b16
    refine hK.out _ _ ?_ (fun hH5 => ?_)
    ·exact ⟨VA.1,VA.2.1,VA.2.2.1,VB.1,VB.2.1,VB.2.2.1,VX.1,VX.2.1,VX.2.2.1,VY.1,VY.2.1,VY.2.2.1⟩
    clear hK K hH4
    (try simp only [Act.put,xL4,xL5,xL6])
    refine wpAnyH_ready (rs := [15]) (by kernel_rfl) (by simp) ?_
    refine AllReadyH.cons (by simp only [xL1,xL2,xL3]; rfl) (fun K hK => ?_) AllReadyH.nil
    go_simp
    refine (jplus_at _ _ q (-r) 8 8 _ Jx h4 (by omega)).mono ?_
    rintro e w17 ⟨t5,rfl,h5,b17⟩
    go_wp2_with fail
    replace ht := ht.below b17
    replace Ix := Ix.below b17
    replace Iy := Iy.below b17
    replace Jx := Jx.below b17
    replace Jy := Jy.below b17
    replace h1 := h1.below b17
    replace h2 := h2.below b17
    replace h3 := h3.below b17
    replace h4 := h4.below b17
    replace VA := VA.below b17
    replace VB := VB.below b17
    replace VX := VX.below b17
    replace VY := VY.below b17
    replace BB := BB.trans (b17.mono BB.size)
    clear b17
    refine hK.out _ _ ?_ (fun hH6 => ?_)
    ·exact ⟨VA.1,VA.2.1,VA.2.2.1,VB.1,VB.2.1,VB.2.2.1,VX.1,VX.2.1,VX.2.2.1,VY.1,VY.2.1,VY.2.2.1⟩
    clear hK K hH5
    (try simp only [Act.put,xL4,xL5,xL6])
    refine wpAnyH_ready (rs := [16]) (by kernel_rfl) (by simp) ?_
    refine AllReadyH.cons (by simp only [xL1,xL2,xL3]; rfl) (fun K hK => ?_) AllReadyH.nil
    go_simp
    refine (jis_at _ _ (q + -r) 17 17 _ h3 (by rw [← Rat.sub_eq_add_neg]; exact z2) h5 (by omega)).mono ?_
    rintro e w18 ⟨rfl,b18⟩
    go_wp2_with fail
    replace ht := ht.below b18
    replace Ix := Ix.below b18
    replace Iy := Iy.below b18
    replace Jx := Jx.below b18
    replace Jy := Jy.below b18
    replace h1 := h1.below b18
    replace h2 := h2.below b18
    replace h3 := h3.below b18
    replace h4 := h4.below b18
    replace h5 := h5.below b18
    replace VA := VA.below b18
    replace VB := VB.below b18
    replace VX := VX.below b18
    replace VY := VY.below b18
    replace BB := BB.trans (b18.mono BB.size)
    clear b18
    refine hK.out _ _ ?_ (fun hH7 => ?_)
    ·exact ⟨VA.1,VA.2.1,VA.2.2.1,VB.1,VB.2.1,VB.2.2.1,VX.1,VX.2.1,VX.2.2.1,VY.1,VY.2.1,VY.2.2.1⟩
    clear hK K hH6
    (try simp only [Act.put,xL4,xL5,xL6])
    refine wpAnyH_take (i := 17) (v := ?_) (by simp only [xL1,xL2,xL3]; rfl) (by kernel_rfl) (by kernel_rfl) (by kernel_rfl) (by exact fun _ _ _ h => h) (Or.inl ⟨by rfl,?_⟩) (by assumption) ?_
    rotate_left
    ·(intro w hSw; (try dsimp only at hSw); go_simp; (try with_reducible rfl))
    (try simp only [Act.put,xL4,xL5,xL6])
    refine wpAnyH_take (i := 18) (v := ?_) (by simp only [xL1,xL2,xL3]; rfl) (by kernel_rfl) (by kernel_rfl) (by kernel_rfl) (by exact fun _ _ _ h => h) (Or.inl ⟨by rfl,?_⟩) (by assumption) ?_
    rotate_left
    ·(intro w hSw; (try dsimp only at hSw); go_simp; (try with_reducible rfl))
    (try simp only [Act.put,xL4,xL5,xL6])
    refine wpAnyH_take (i := 19) (v := ?_) (by simp only [xL1,xL2,xL3]; rfl) (by kernel_rfl) (by kernel_rfl) (by kernel_rfl) (by exact fun _ _ _ h => h) (Or.inl ⟨by rfl,?_⟩) (by assumption) ?_
    rotate_left
    ·(intro w hSw; (try dsimp only at hSw); go_simp; (try with_reducible rfl))
    (try simp only [Act.put,xL4,xL5,xL6])
    refine wpAnyH_take (i := 20) (v := ?_) (by simp only [xL1,xL2,xL3]; rfl) (by kernel_rfl) (by kernel_rfl) (by kernel_rfl) (by exact fun _ _ _ h => h) (Or.inl ⟨by rfl,?_⟩) (by assumption) ?_
    rotate_left
    ·(intro w hSw; (try dsimp only at hSw); go_simp; (try with_reducible rfl))
    (try simp only [Act.put,xL4,xL5,xL6])
    refine wpAnyH_take (i := 21) (v := ?_) (by simp only [xL1,xL2,xL3]; rfl) (by kernel_rfl) (by kernel_rfl) (by kernel_rfl) (by exact fun _ _ _ h => h) (Or.inl ⟨by rfl,?_⟩) (by assumption) ?_
    rotate_left
    ·(intro w hSw; (try dsimp only at hSw); go_simp; (try with_reducible rfl))
    (try simp only [Act.put,xL4,xL5,xL6])
    refine wpAnyH_take (i := 23) (v := ?_) (by simp only [xL1,xL2,xL3]; rfl) (by kernel_rfl) (by kernel_rfl) (by kernel_rfl) (by exact fun _ _ _ h => h) (Or.inl ⟨by rfl,?_⟩) (by assumption) ?_
    rotate_left
    ·(intro w hSw; (try dsimp only at hSw); go_simp; (try with_reducible rfl))
    (try simp only [Act.put,xL4,xL5,xL6])
    refine wpAnyH_take (i := 24) (v := ?_) (by simp only [xL1,xL2,xL3]; rfl) (by kernel_rfl) (by kernel_rfl) (by kernel_rfl) (by exact fun _ _ _ h => h) (Or.inl ⟨by rfl,?_⟩) (by assumption) ?_
    rotate_left
    ·(intro w hSw; (try dsimp only at hSw); go_simp; (try with_reducible rfl))
    (try simp only [Act.put,xL4,xL5,xL6])
    refine wpAnyH_ready (rs := [22]) (by kernel_rfl) (by simp) ?_
    refine AllReadyH.cons (by simp only [xL1,xL2,xL3]; rfl) (fun K hK => ?_) AllReadyH.nil
    go_simp
    refine (qmul_at _ _ q r 8 _ Ix Iy (by omega) (by omega) ht).mono ?_
    rintro e w19 ⟨t6,rfl,h6,b19⟩
    go_wp2_with fail
    replace ht := ht.below b19
    replace Ix := Ix.below b19
    replace Iy := Iy.below b19
    replace Jx := Jx.below b19
    replace Jy := Jy.below b19
    replace h1 := h1.below b19
    replace h2 := h2.below b19
    replace h3 := h3.below b19
    replace h4 := h4.below b19
    replace h5 := h5.below b19
    replace VA := VA.below b19
    replace VB := VB.below b19
    replace VX := VX.below b19
    replace VY := VY.below b19
    replace BB := BB.trans (b19.mono BB.size)
    clear b19
    refine hK.out _ _ ?_ (fun hH8 => ?_)
    ·exact ⟨VA.1,VA.2.1,VA.2.2.1,VB.1,VB.2.1,VB.2.2.1,VX.1,VX.2.1,VX.2.2.1,VY.1,VY.2.1,VY.2.2.1⟩
    clear hK K hH7
    (try simp only [Act.put,xL4,xL5,xL6])
    refine wpAnyH_ready (rs := [25]) (by kernel_rfl) (by simp) ?_
    refine AllReadyH.cons (by simp only [xL1,xL2,xL3]; rfl) (fun K hK => ?_) AllReadyH.nil
    go_simp
    refine (jtimes_at _ _ q r 8 8 _ Jx Jy (by omega)).mono ?_
    rintro e w20 ⟨t7,rfl,h7,b20⟩
    go_wp2_with fail
    replace ht := ht.below b20
    replace Ix := Ix.below b20
    replace Iy := Iy.below b20
    replace Jx := Jx.below b20
    replace Jy := Jy.below b20
    replace h1 := h1.below b20
    replace h2 := h2.below b20
    replace h3 := h3.below b20
    replace h4 := h4.below b20
    replace h5 := h5.below b20
    replace h6 := h6.below b20
    replace VA := VA.below b20
    replace VB := VB.below b20
    replace VX := VX.below b20
    replace VY := VY.below b20
    replace BB := BB.trans (b20.mono BB.size)
    clear b20
    refine hK.out _ _ ?_ (fun hH9 => ?_)
    ·exact ⟨VA.1,VA.2.1,VA.2.2.1,VB.1,VB.2.1,VB.2.2.1,VX.1,VX.2.1,VX.2.2.1,VY.1,VY.2.1,VY.2.2.1⟩
    clear hK K hH8
    (try simp only [Act.put,xL4,xL5,xL6])
    refine wpAnyH_ready (rs := [26]) (by kernel_rfl) (by simp) ?_
    refine AllReadyH.cons (by simp only [xL1,xL2,xL3]; rfl) (fun K hK => ?_) AllReadyH.nil
    go_simp
    refine (jis_at _ _ (q * r) 16 16 _ h6 z3 h7 (by omega)).mono ?_
    rintro e w21 ⟨rfl,b21⟩
    go_wp2_with fail
    replace ht := ht.below b21
    replace Ix := Ix.below b21
    replace Iy := Iy.below b21
    replace Jx := Jx.below b21
    replace Jy := Jy.below b21
    replace h1 := h1.below b21
    replace h2 := h2.below b21
    replace h3 := h3.below b21
    replace h4 := h4.below b21
    replace h5 := h5.below b21
    replace h6 := h6.below b21
    replace h7 := h7.below b21
    replace VA := VA.below b21
    replace VB := VB.below b21
    replace VX := VX.below b21
    replace VY := VY.below b21
    replace BB := BB.trans (b21.mono BB.size)
    clear b21
    refine hK.out _ _ ?_ (fun hH10 => ?_)
    ·exact ⟨VA.1,VA.2.1,VA.2.2.1,VB.1,VB.2.1,VB.2.2.1,VX.1,VX.2.1,VX.2.2.1,VY.1,VY.2.1,VY.2.2.1⟩
    clear hK K hH9
    (try simp only [Act.put,xL4,xL5,xL6])
    refine wpAnyH_take (i := 27) (v := ?_) (by simp only [xL1,xL2,xL3]; rfl) (by kernel_rfl) (by kernel_rfl) (by kernel_rfl) (by exact fun _ _ _ h => h) (Or.inl ⟨by rfl,?_⟩) (by assumption) ?_
    rotate_left
    ·(intro w hSw; (try dsimp only at hSw); go_simp; (try with_reducible rfl))
    (try simp only [Act.put,xL4,xL5,xL6])
    refine wpAnyH_take (i := 28) (v := ?_) (by simp only [xL1,xL2,xL3]; rfl) (by kernel_rfl) (by kernel_rfl) (by kernel_rfl) (by exact fun _ _ _ h => h) (Or.inl ⟨by rfl,?_⟩) (by assumption) ?_
    rotate_left
    ·(intro w hSw; (try dsimp only at hSw); go_simp; (try with_reducible rfl))
    (try simp only [Act.put,xL4,xL5,xL6])
    refine wpAnyH_done (by kernel_rfl) ?_ _
    clear hH10
    clear h1 h2 h3 h4 h5 h6 h7
    obtain ⟨VA_0,VA_1,VA_2,VA_3,VA_4,VA_5⟩ := id VA
    obtain ⟨VB_0,VB_1,VB_2,VB_3,VB_4,VB_5⟩ := id VB
    go_wp2_with fail
    clear VA_0 VA_1 VA_2 VA_3 VA_4 VA_5 VB_0 VB_1 VB_2 VB_3 VB_4 VB_5
    by_cases h0 : r = 0
    ·have hn0 : ((ny : Int) == 0) = true := by simp [hlen.2 h0]
     have H0 : Hid (r = 0) := h0
     clear h0
     refine (qdiv_zero2 _ _ q r 8 _ Ix Iy (by omega) (by omega) ht H0.out).mono ?_
     rintro e w22 ⟨p7,a7,n7,c7,b7,m7,d7,rfl,N7,b22⟩
     replace ht := ht.below b22
     replace Ix := Ix.below b22
     replace Iy := Iy.below b22
     replace Jx := Jx.below b22
     replace Jy := Jy.below b22
     replace VA := VA.below b22
     replace VB := VB.below b22
     replace VX := VX.below b22
     replace VY := VY.below b22
     replace BB := BB.trans (b22.mono BB.size)
     clear b22
     have hZ19 : w.heap.size ≤ w22.heap.size := BB.size
     have hN19VA : w.heap.size ≠ w22.heap.size := Nat.ne_of_lt VA.lt
     have hN19VB : w.heap.size + 1 ≠ w22.heap.size := Nat.ne_of_lt VB.lt
     have hN19VX : R3 ≠ w22.heap.size := Nat.ne_of_lt VX.lt
     have hN19VY : R4 ≠ w22.heap.size := Nat.ne_of_lt VY.lt
     obtain ⟨W19,hW19,hS19,hL19,VQ⟩ := V3.lay w22 27 (.bool p7) (.slice a7 n7 c7) (.slice b7 m7 d7)
     replace ht := ht.below hL19
     replace Ix := Ix.below hL19
     replace Iy := Iy.below hL19
     replace Jx := Jx.below hL19
     replace Jy := Jy.below hL19
     replace VA := VA.below hL19
     replace VB := VB.below hL19
     replace VX := VX.below hL19
     replace VY := VY.below hL19
     replace BB := BB.trans (hL19.mono BB.size)
     clear hL19
     obtain ⟨VB_0,VB_1,VB_2,VB_3,VB_4,VB_5⟩ := id VB
     rw [hW19] at VB_0 VB_1 VB_2 VB_3 VB_4 VB_5
     go_wp2_with fail
     clear VB_0 VB_1 VB_2 VB_3 VB_4 VB_5
     rw [← hW19]
     generalize w22.heap.size = R19 at *
     clear hW19 hS19
     refine (qinv_zero2 _ r 8 _ Iy (by omega) (by omega) ht H0.out).mono ?_
     rintro e w23 ⟨p8,a8,n8,c8,b8,m8,d8,rfl,N8,b23⟩
     replace ht := ht.below b23
     replace Ix := Ix.below b23
     replace Iy := Iy.below b23
     replace Jx := Jx.below b23
     replace Jy := Jy.below b23
     replace VA := VA.below b23
     replace VB := VB.below b23
     replace VX := VX.below b23
     replace VY := VY.below b23
     replace VQ := VQ.below b23
     replace BB := BB.trans (b23.mono BB.size)
     clear b23
     have hZ20 : w.heap.size ≤ w23.heap.size := BB.size
     have hN20VA : w.heap.size ≠ w23.heap.size := Nat.ne_of_lt VA.lt
     have hN20VB : w.heap.size + 1 ≠ w23.heap.size := Nat.ne_of_lt VB.lt
     have hN20VX : R3 ≠ w23.heap.size := Nat.ne_of_lt VX.lt
     have hN20VY : R4 ≠ w23.heap.size := Nat.ne_of_lt VY.lt
     have hN20VQ : R19 ≠ w23.heap.size := Nat.ne_of_lt VQ.lt
     obtain ⟨W20,hW20,hS20,hL20,VI⟩ := V3.lay w23 27 (.bool p8) (.slice a8 n8 c8) (.slice b8 m8 d8)
     replace ht := ht.below hL20
     replace Ix := Ix.below hL20
     replace Iy := Iy.below hL20
     replace Jx := Jx.below hL20
     replace Jy := Jy.below hL20
     replace VA := VA.below hL20
     replace VB := VB.below hL20
     replace VX := VX.below hL20
     replace VY := VY.below hL20
     replace VQ := VQ.below hL20
     replace BB := BB.trans (hL20.mono BB.size)
     clear hL20
     obtain ⟨VY_0,VY_1,VY_2,VY_3,VY_4,VY_5⟩ := id VY
     obtain ⟨VQ_0,VQ_1,VQ_2,VQ_3,VQ_4,VQ_5⟩ := id VQ
     rw [hW20] at VY_0 VY_1 VY_2 VY_3 VY_4 VY_5 VQ_0 VQ_1 VQ_2 VQ_3 VQ_4 VQ_5
     go_wp2_with fail
     clear VY_0 VY_1 VY_2 VY_3 VY_4 VY_5 VQ_0 VQ_1 VQ_2 VQ_3 VQ_4 VQ_5
     rw [← hW20]
     generalize w23.heap.size = R20 at *
     clear hW20 hS20
     refine (none_hid _ _ _ _ _ _ _ _ N7).mono ?_
     rintro e w24 ⟨rfl,b24⟩
     replace ht := ht.below b24
     replace Ix := Ix.below b24
     replace Iy := Iy.below b24
     replace Jx := Jx.below b24
     replace Jy := Jy.below b24
     replace VA := VA.below b24
     replace VB := VB.below b24
     replace VX := VX.below b24
     replace VY := VY.below b24
     replace VQ := VQ.below b24
     replace VI := VI.below b24
     replace BB := BB.trans (b24.mono BB.size)
     clear b24
     obtain ⟨VI_0,VI_1,VI_2,VI_3,VI_4,VI_5⟩ := id VI
     go_wp2_with fail
     clear VI_0 VI_1 VI_2 VI_3 VI_4 VI_5
     refine (none_hid _ _ _ _ _ _ _ _ N8).mono ?_
     rintro e w25 ⟨rfl,b25⟩
     replace ht := ht.below b25
     replace Ix := Ix.below b25
     replace Iy := Iy.below b25
     replace Jx := Jx.below b25
     replace Jy := Jy.below b25
     replace VA := VA.below b25
     replace VB := VB.below b25
     replace VX := VX.below b25
     replace VY := VY.below b25
     replace VQ := VQ.below b25
     replace VI := VI.below b25
     replace BB := BB.trans (b25.mono BB.size)
     clear b25
     go_wp2_with fail
     refine (qawake_at _ ht).mono ?_
     rintro e w26 ⟨rfl,b26⟩
     replace ht := ht.below b26
     replace Ix := Ix.below b26
     replace Iy := Iy.below b26
     replace Jx := Jx.below b26
     replace Jy := Jy.below b26
     replace VA := VA.below b26
     replace VB := VB.below b26
     replace VX := VX.below b26
     replace VY := VY.below b26
     replace VQ := VQ.below b26
     replace VI := VI.below b26
     replace BB := BB.trans (b26.mono BB.size)
     clear b26
     go_wp2
     go_ret
     exact ⟨rfl,BB⟩
    ·have hn0 : ((ny : Int) == 0) = false := by
      have : ny ≠ 0 := fun e => h0 (hlen.1 e)
      simp; omega
     have z4 := qsz_inv r sr
     have z5 := qsz_div q r sq sr
     refine (qdiv_at _ _ q r 8 _ Ix Iy (by omega) (by omega) ht h0).mono ?_
     rintro e w22 ⟨tq,rfl,hq,b22⟩
     replace ht := ht.below b22
     replace Ix := Ix.below b22
     replace Iy := Iy.below b22
     replace Jx := Jx.below b22
     replace Jy := Jy.below b22
     replace VA := VA.below b22
     replace VB := VB.below b22
     replace VX := VX.below b22
     replace VY := VY.below b22
     replace BB := BB.trans (b22.mono BB.size)
     clear b22
     obtain ⟨p7,a7,n7,c7,b7,m7,d7,rfl⟩ := hq.open
     have hZ19 : w.heap.size ≤ w22.heap.size := BB.size
     have hN19VA : w.heap.size ≠ w22.heap.size := Nat.ne_of_lt VA.lt
     have hN19VB : w.heap.size + 1 ≠ w22.heap.size := Nat.ne_of_lt VB.lt
     have hN19VX : R3 ≠ w22.heap.size := Nat.ne_of_lt VX.lt
     have hN19VY : R4 ≠ w22.heap.size := Nat.ne_of_lt VY.lt
     obtain ⟨W19,hW19,hS19,hL19,VQ⟩ := V3.lay w22 27 (.bool p7) (.slice a7 n7 c7) (.slice b7 m7 d7)
     replace ht := ht.below hL19
     replace Ix := Ix.below hL19
     replace Iy := Iy.below hL19
     replace Jx := Jx.below hL19
     replace Jy := Jy.below hL19
     replace hq := hq.below hL19
     replace VA := VA.below hL19
     replace VB := VB.below hL19
     replace VX := VX.below hL19
     replace VY := VY.below hL19
     replace BB := BB.trans (hL19.mono BB.size)
     clear hL19
     obtain ⟨VB_0,VB_1,VB_2,VB_3,VB_4,VB_5⟩ := id VB
     rw [hW19] at VB_0 VB_1 VB_2 VB_3 VB_4 VB_5
     go_wp2_with fail
     clear VB_0 VB_1 VB_2 VB_3 VB_4 VB_5
     rw [← hW19]
     generalize w22.heap.size = R19 at *
     clear hW19 hS19
     refine (qinv_at _ r 8 _ Iy (by omega) (by omega) ht h0).mono ?_
     rintro e w23 ⟨ti,rfl,hi,b23⟩
     replace ht := ht.below b23
     replace Ix := Ix.below b23
     replace Iy := Iy.below b23
     replace Jx := Jx.below b23
     replace Jy := Jy.below b23
     replace hq := hq.below b23
     replace VA := VA.below b23
     replace VB := VB.below b23
     replace VX := VX.below b23
     replace VY := VY.below b23
     replace VQ := VQ.below b23
     replace BB := BB.trans (b23.mono BB.size)
     clear b23
     obtain ⟨p8,a8,n8,c8,b8,m8,d8,rfl⟩ := hi.open
     have hZ20 : w.heap.size ≤ w23.heap.size := BB.size
     have hN20VA : w.heap.size ≠ w23.heap.size := Nat.ne_of_lt VA.lt
     have hN20VB : w.heap.size + 1 ≠ w23.heap.size := Nat.ne_of_lt VB.lt
     have hN20VX : R3 ≠ w23.heap.size := Nat.ne_of_lt VX.lt
     have hN20VY : R4 ≠ w23.heap.size := Nat.ne_of_lt VY.lt
     have hN20VQ : R19 ≠ w23.heap.size := Nat.ne_of_lt VQ.lt
     obtain ⟨W20,hW20,hS20,hL20,VI⟩ := V3.lay w23 27 (.bool p8) (.slice a8 n8 c8) (.slice b8 m8 d8)
     replace ht := ht.below hL20
     replace Ix := Ix.below hL20
     replace Iy := Iy.below hL20
     replace Jx := Jx.below hL20
     replace Jy := Jy.below hL20
     replace hq := hq.below hL20
     replace hi := hi.below hL20
     replace VA := VA.below hL20
     replace VB := VB.below hL20
     replace VX := VX.below hL20
     replace VY := VY.below hL20
     replace VQ := VQ.below hL20
     replace BB := BB.trans (hL20.mono BB.size)
     clear hL20
     obtain ⟨VY_0,VY_1,VY_2,VY_3,VY_4,VY_5⟩ := id VY
     rw [hW20] at VY_0 VY_1 VY_2 VY_3 VY_4 VY_5
     go_wp2
     clear VY_0 VY_1 VY_2 VY_3 VY_4 VY_5
     rw [← hW20]
     generalize w23.heap.size = R20 at *
     clear hW20 hS20
     have hDr : Below W20.heap.size W20 W20.drew := (Below.refl _ _).drew
     replace ht := ht.below hDr
     replace Ix := Ix.below hDr
     replace Iy := Iy.below hDr
     replace Jx := Jx.below hDr
     replace Jy := Jy.below hDr
     replace hq := hq.below hDr
     replace hi := hi.below hDr
     replace VA := VA.below hDr
     replace VB := VB.below hDr
     replace VX := VX.below hDr
     replace VY := VY.below hDr
     replace VQ := VQ.below hDr
     replace VI := VI.below hDr
     replace BB := BB.trans (hDr.mono BB.size)
     clear hDr
     refine wp_region_held_drew (S := (fun w' => w'.cell? ⟨R19,0,none⟩ = some (.bool p7) ∧ w'.cell? ⟨R19,1,none⟩ = some (.slice a7 n7 c7) ∧ w'.cell? ⟨R19,2,none⟩ = some (.slice b7 m7 d7) ∧ w'.cell? ⟨R20,0,none⟩ = some (.bool p8) ∧ w'.cell? ⟨R20,1,none⟩ = some (.slice a8 n8 c8) ∧ w'.cell? ⟨R20,2,none⟩ = some (.slice b8 m8 d8) ∧ w'.cell? ⟨R3,0,none⟩ = some (.bool px) ∧ w'.cell? ⟨R3,1,none⟩ = some (.slice ax nx cx) ∧ w'.cell? ⟨R3,2,none⟩ = some (.slice bx mx dx) ∧ w'.cell? ⟨R4,0,none⟩ = some (.bool py) ∧ w'.cell? ⟨R4,1,none⟩ = some (.slice ay ny cy) ∧ w'.cell? ⟨R4,2,none⟩ = some (.slice by_ my dy))) (by kernel_rfl) ?_ (fun hHeld => ?_)
     ·exact ⟨VQ.1,VQ.2.1,VQ.2.2.1,VI.1,VI.2.1,VI.2.2.1,VX.1,VX.2.1,VX.2.2.1,VY.1,VY.2.1,VY.2.2.1⟩
     generalize W20.drew = W21 at *
     refine wpAnyH_take (i := 0) (v := ?_) (by simp only [xL1,xL2,xL3]; rfl) (by kernel_rfl) (by kernel_rfl) (by kernel_rfl) (by exact fun _ _ _ h => h) (Or.inl ⟨by rfl,?_⟩) (by assumption) ?_
     rotate_left
     ·(intro w hSw; (try dsimp only at hSw); go_simp; (try with_reducible rfl))
     (try simp only [Act.put,xL4,xL5,xL6])
     refine wpAnyH_take (i := 1) (v := ?_) (by simp only [xL1,xL2,xL3]; rfl) (by kernel_rfl) (by kernel_rfl) (by kernel_rfl) (by exact fun _ _ _ h => h) (Or.inl ⟨by rfl,?_⟩) (by assumption) ?_
     rotate_left
     ·(intro w hSw; (try dsimp only at hSw); go_simp; (try with_reducible rfl))
     (try simp only [Act.put,xL4,xL5,xL6])
     refine wpAnyH_take (i := 2) (v := ?_) (by simp only [xL1,xL2,xL3]; rfl) (by kernel_rfl) (by kernel_rfl) (by kernel_rfl) (by exact fun _ _ _ h => h) (Or.inl ⟨by rfl,?_⟩) (by assumption) ?_
     rotate_left
     ·(intro w hSw; (try dsimp only at hSw); go_simp; (try with_reducible rfl))
     (try simp only [Act.put,xL4,xL5,xL6])
     refine wpAnyH_take (i := 3) (v := ?_) (by simp only [xL1,xL2,xL3]; rfl) (by kernel_rfl) (by kernel_rfl) (by kernel_rfl) (by exact fun _ _ _ h => h) (Or.inl ⟨by rfl,?_⟩) (by assumption) ?_
     rotate_left
     ·(intro w hSw; (try dsimp only at hSw); go_simp; (try with_reducible rfl))
     (try simp only [Act.put,xL4,xL5,xL6])
     refine wpAnyH_take (i := 4) (v := ?_) (by simp only [xL1,xL2,xL3]; rfl) (by kernel_rfl) (by kernel_rfl) (by kernel_rfl) (by exact fun _ _ _ h => h) (Or.inl ⟨by rfl,?_⟩) (by assumption) ?_
     rotate_left
     ·(intro w hSw; (try dsimp only at hSw); go_simp; (try with_reducible rfl))
     (try simp only [Act.put,xL4,xL5,xL6])
     refine wpAnyH_take (i := 5) (v := ?_) (by simp only [xL1,xL2,xL3]; rfl) (by kernel_rfl) (by kernel_rfl) (by kernel_rfl) (by exact fun _ _ _ h => h) (Or.inl ⟨by rfl,?_⟩) (by assumption) ?_
     rotate_left
     ·(intro w hSw; (try dsimp only at hSw); go_simp; (try with_reducible rfl))
     (try simp only [Act.put,xL4,xL5,xL6])
     refine wpAnyH_take (i := 6) (v := ?_) (by simp only [xL1,xL2,xL3]; rfl) (by kernel_rfl) (by kernel_rfl) (by kernel_rfl) (by exact fun _ _ _ h => h) (Or.inl ⟨by rfl,?_⟩) (by assumption) ?_
     rotate_left
     ·(intro w hSw; (try dsimp only at hSw); go_simp; (try with_reducible rfl))
     (try simp only [Act.put,xL4,xL5,xL6])
     refine wpAnyH_take (i := 7) (v := ?_) (by simp only [xL1,xL2,xL3]; rfl) (by kernel_rfl) (by kernel_rfl) (by kernel_rfl) (by exact fun _ _ _ h => h) (Or.inl ⟨by rfl,?_⟩) (by assumption) ?_
     rotate_left
     ·(intro w hSw; (try dsimp only at hSw); go_simp; (try with_reducible rfl))
     (try simp only [Act.put,xL4,xL5,xL6])
     refine wpAnyH_take (i := 8) (v := ?_) (by simp only [xL1,xL2,xL3]; rfl) (by kernel_rfl) (by kernel_rfl) (by kernel_rfl) (by exact fun _ _ _ h => h) (Or.inl ⟨by rfl,?_⟩) (by assumption) ?_
     rotate_left
     ·(intro w hSw; (try dsimp only at hSw); go_simp; (try with_reducible rfl))
     (try simp only [Act.put,xL4,xL5,xL6])
     refine wpAnyH_ready (rs := [9]) (by kernel_rfl) (by simp) ?_
     refine AllReadyH.cons (by simp only [xL1,xL2,xL3]; rfl) (fun K hK => ?_) AllReadyH.nil
     go_simp
     refine (jinverse_at _ r 8 _ Jy (by omega) h0).mono ?_
     rintro e w24 ⟨t1,rfl,h1,b24⟩
     go_wp2_with fail
     replace ht := ht.below b24
     replace Ix := Ix.below b24
     replace Iy := Iy.below b24
     replace Jx := Jx.below b24
     replace Jy := Jy.below b24
     replace hq := hq.below b24
     replace hi := hi.below b24
     replace VA := VA.below b24
     replace VB := VB.below b24
     replace VX := VX.below b24
     replace VY := VY.below b24
     replace VQ := VQ.below b24
     replace VI := VI.below b24
     replace BB := BB.trans (b24.mono BB.size)
     clear b24
     refine hK.out _ _ ?_ (fun hH1 => ?_)
     ·exact ⟨VQ.1,VQ.2.1,VQ.2.2.1,VI.1,VI.2.1,VI.2.2.1,VX.1,VX.2.1,VX.2.2.1,VY.1,VY.2.1,VY.2.2.1⟩
     clear hK K hHeld
     (try simp only [Act.put,xL4,xL5,xL6])
     refine wpAnyH_ready (rs := [10]) (by kernel_rfl) (by simp) ?_
     refine AllReadyH.cons (by simp only [xL1,xL2,xL3]; rfl) (fun K hK => ?_) AllReadyH.nil
     go_simp
     refine (jis_at _ _ r⁻¹ 8 8 _ hi z4 h1 (by omega)).mono ?_
     rintro e w25 ⟨rfl,b25⟩
     go_wp2_with fail
     replace ht := ht.below b25
     replace Ix := Ix.below b25
     replace Iy := Iy.below b25
     replace Jx := Jx.below b25
     replace Jy := Jy.below b25
     replace hq := hq.below b25
     replace hi := hi.below b25
     replace h1 := h1.below b25
     replace VA := VA.below b25
     replace VB := VB.below b25
     replace VX := VX.below b25
     replace VY := VY.below b25
     replace VQ := VQ.below b25
     replace VI := VI.below b25
     replace BB := BB.trans (b25.mono BB.size)
     clear b25
     refine hK.out _ _ ?_ (fun hH2 => ?_)
     ·exact ⟨VQ.1,VQ.2.1,VQ.2.2.1,VI.1,VI.2.1,VI.2.2.1,VX.1,VX.2.1,VX.2.2.1,VY.1,VY.2.1,VY.2.2.1⟩
     clear hK K hH1
     (try simp only [Act.put,xL4,xL5,xL6])
     refine wpAnyH_take (i := 11) (v := ?_) (by simp only [xL1,xL2,xL3]; rfl) (by kernel_rfl) (by kernel_rfl) (by kernel_rfl) (by exact fun _ _ _ h => h) (Or.inl ⟨by rfl,?_⟩) (by assumption) ?_
     rotate_left
     ·(intro w hSw; (try dsimp only at hSw); go_simp; (try with_reducible rfl))
     (try simp only [Act.put,xL4,xL5,xL6])
     refine wpAnyH_take (i := 12) (v := ?_) (by simp only [xL1,xL2,xL3]; rfl) (by kernel_rfl) (by kernel_rfl) (by kernel_rfl) (by exact fun _ _ _ h => h) (Or.inl ⟨by rfl,?_⟩) (by assumption) ?_
     rotate_left
     ·(intro w hSw; (try dsimp only at hSw); go_simp; (try with_reducible rfl))
     (try simp only [Act.put,xL4,xL5,xL6])
     refine wpAnyH_take (i := 13) (v := ?_) (by simp only [xL1,xL2,xL3]; rfl) (by kernel_rfl) (by kernel_rfl) (by kernel_rfl) (by exact fun _ _ _ h => h) (Or.inl ⟨by rfl,?_⟩) (by assumption) ?_
     rotate_left
     ·(intro w hSw; (try dsimp only at hSw); go_simp; (try with_reducible rfl))
     (try simp only [Act.put,xL4,xL5,xL6])
     refine wpAnyH_take (i := 14) (v := ?_) (by simp only [xL1,xL2,xL3]; rfl) (by kernel_rfl) (by kernel_rfl) (by kernel_rfl) (by exact fun _ _ _ h => h) (Or.inl ⟨by rfl,?_⟩) (by assumption) ?_
     rotate_left
     ·(intro w hSw; (try dsimp only at hSw); go_simp; (try with_reducible rfl))
     (try simp only [Act.put,xL4,xL5,xL6])
     refine wpAnyH_take (i := 15) (v := ?_) (by simp only [xL1,xL2,xL3]; rfl) (by kernel_rfl) (by kernel_rfl) (by kernel_rfl) (by exact fun _ _ _ h => h) (Or.inl ⟨by rfl,?_⟩) (by assumption) ?_
     rotate_left
     ·(intro w hSw; (try dsimp only at hSw); go_simp; (try with_reducible rfl))
     (try simp only [Act.put,xL4,xL5,xL6])
     refine wpAnyH_ready (rs := [16]) (by kernel_rfl) (by simp) ?_
     refine AllReadyH.cons (by simp only [xL1,xL2,xL3]; rfl) (fun K hK => ?_) AllReadyH.nil
     go_simp
     refine (jinverse_at _ r 8 _ Jy (by omega) h0).mono ?_
     rintro e w26 ⟨t2,rfl,h2,b26⟩
     go_wp2_with fail
     replace ht := ht.below b26
     replace Ix := Ix.below b26
     replace Iy := Iy.below b26
     replace Jx := Jx.below b26
     replace Jy := Jy.below b26
     replace hq := hq.below b26
     replace hi := hi.below b26
     replace h1 := h1.below b26
     replace VA := VA.below b26
     replace VB := VB.below b26
     replace VX := VX.below b26
     replace VY := VY.below b26
     replace VQ := VQ.below b26
     replace VI := VI.below b26
     replace BB := BB.trans (b26.mono BB.size)
     clear b26
     refine hK.out _ _ ?_ (fun hH3 => ?_)
     ·exact ⟨VQ.1,VQ.2.1,VQ.2.2.1,VI.1,VI.2.1,VI.2.2.1,VX.1,VX.2.1,VX.2.2.1,VY.1,VY.2.1,VY.2.2.1⟩
     clear hK K hH2
     (try simp only [Act.put,xL4,xL5,xL6])
     refine wpAnyH_ready (rs := [17]) (by kernel_rfl) (by simp) ?_
     refine AllReadyH.cons (by simp only [xL1,xL2,xL3]; rfl) (fun K hK => ?_) AllReadyH.nil
     go_simp
     refine (jtimes_at _ _ q r⁻¹ 8 8 _ Jx h2 (by omega)).mono ?_
     rintro e w27 ⟨t3,rfl,h3,b27⟩
     go_wp2_with fail
     replace ht := ht.below b27
     replace Ix := Ix.below b27
     replace Iy := Iy.below b27
     replace Jx := Jx.below b27
     replace Jy := Jy.below b27
     replace hq := hq.below b27
     replace hi := hi.below b27
     replace h1 := h1.below b27
     replace h2 := h2.below b27
     replace VA := VA.below b27
     replace VB := VB.below b27
     replace VX := VX.below b27
     replace VY := VY.below b27
     replace VQ := VQ.below b27
     replace VI := VI.below b27
     replace BB := BB.trans (b27.mono BB.size)
     clear b27
     refine hK.out _ _ ?_ (fun hH4 => ?_)
     ·exact ⟨VQ.1,VQ.2.1,VQ.2.2.1,VI.1,VI.2.1,VI.2.2.1,VX.1,VX.2.1,VX.2.2.1,VY.1,VY.2.1,VY.2.2.1⟩
     clear hK K hH3
     (try simp only [Act.put,xL4,xL5,xL6])
     refine wpAnyH_ready (rs := [18]) (by kernel_rfl) (by simp) ?_
     refine AllReadyH.cons (by simp only [xL1,xL2,xL3]; rfl) (fun K hK => ?_) AllReadyH.nil
     go_simp
     refine (jis_at _ _ (q * r⁻¹) 16 16 _ (by rw [← Rat.div_def]; exact hq) (by rw [← Rat.div_def]; exact z5) h3 (by omega)).mono ?_
     rintro e w28 ⟨rfl,b28⟩
     go_wp2_with fail
     replace ht := ht.below b28
     replace Ix := Ix.below b28
     replace Iy := Iy.below b28
     replace Jx := Jx.below b28
     replace Jy := Jy.below b28
     replace hq := hq.below b28
     replace hi := hi.below b28
     replace h1 := h1.below b28
     replace h2 := h2.below b28
     replace h3 := h3.below b28
     replace VA := VA.below b28
     replace VB := VB.below b28
     replace VX := VX.below b28
     replace VY := VY.below b28
     replace VQ := VQ.below b28
     replace VI := VI.below b28
     replace BB := BB.trans (b28.mono BB.size)
     clear b28
     refine hK.out _ _ ?_ (fun hH5 => ?_)
     ·exact ⟨VQ.1,VQ.2.1,VQ.2.2.1,VI.1,VI.2.1,VI.2.2.1,VX.1,VX.2.1,VX.2.2.1,VY.1,VY.2.1,VY.2.2.1⟩
     clear hK K hH4
     (try simp only [Act.put,xL4,xL5,xL6])
     refine wpAnyH_take (i := 19) (v := ?_) (by simp only [xL1,xL2,xL3]; rfl) (by kernel_rfl) (by kernel_rfl) (by kernel_rfl) (by exact fun _ _ _ h => h) (Or.inl ⟨by rfl,?_⟩) (by assumption) ?_
     rotate_left
     ·(intro w hSw; (try dsimp only at hSw); go_simp; (try with_reducible rfl))
     (try simp only [Act.put,xL4,xL5,xL6])
     refine wpAnyH_take (i := 20) (v := ?_) (by simp only [xL1,xL2,xL3]; rfl) (by kernel_rfl) (by kernel_rfl) (by kernel_rfl) (by exact fun _ _ _ h => h) (Or.inl ⟨by rfl,?_⟩) (by assumption) ?_
     rotate_left
     ·(intro w hSw; (try dsimp only at hSw); go_simp; (try with_reducible rfl))
     (try simp only [Act.put,xL4,xL5,xL6])
     refine wpAnyH_ready (rs := [21]) (by kernel_rfl) (by simp) ?_
     refine AllReadyH.cons (by simp only [xL1,xL2,xL3]; rfl) (fun K hK => ?_) AllReadyH.nil
     go_simp
     refine (qawake_at _ ht).mono ?_
     rintro e w29 ⟨rfl,b29⟩
     go_wp2_with fail
     replace ht := ht.below b29
     replace Ix := Ix.below b29
     replace Iy := Iy.below b29
     replace Jx := Jx.below b29
     replace Jy := Jy.below b29
     replace hq := hq.below b29
     replace hi := hi.below b29
     replace h1 := h1.below b29
     replace h2 := h2.below b29
     replace h3 := h3.below b29
     replace VA := VA.below b29
     replace VB := VB.below b29
     replace VX := VX.below b29
     replace VY := VY.below b29
     replace VQ := VQ.below b29
     replace VI := VI.below b29
     replace BB := BB.trans (b29.mono BB.size)
     clear b29
     refine hK.out _ _ ?_ (fun hH6 => ?_)
     ·exact ⟨VQ.1,VQ.2.1,VQ.2.2.1,VI.1,VI.2.1,VI.2.2.1,VX.1,VX.2.1,VX.2.2.1,VY.1,VY.2.1,VY.2.2.1⟩
     clear hK K hH5
     (try simp only [Act.put,xL4,xL5,xL6])
     refine wpAnyH_take (i := 22) (v := ?_) (by simp only [xL1,xL2,xL3]; rfl) (by kernel_rfl) (by kernel_rfl) (by kernel_rfl) (by exact fun _ _ _ h => h) (Or.inl ⟨by rfl,?_⟩) (by assumption) ?_
     rotate_left
     ·(intro w hSw; (try dsimp only at hSw); go_simp; (try with_reducible rfl))
     (try simp only [Act.put,xL4,xL5,xL6])
     refine wpAnyH_take (i := 23) (v := ?_) (by simp only [xL1,xL2,xL3]; rfl) (by kernel_rfl) (by kernel_rfl) (by kernel_rfl) (by exact fun _ _ _ h => h) (Or.inl ⟨by rfl,?_⟩) (by assumption) ?_
     rotate_left
     ·(intro w hSw; (try dsimp only at hSw); go_simp; (try with_reducible rfl))
     (try simp only [Act.put,xL4,xL5,xL6])
     refine wpAnyH_done (by kernel_rfl) ?_ _
     clear hH6
     go_wp2
     go_ret
     exact ⟨rfl,BB⟩
  ·rw [decide_eq_false hgt] at hcp
   have hc0 : ¬ cc > 0 := of_decide_eq_false hcp
   clear hcp
   replace ht := ht.below hbW
   replace Ix := Ix.below hbW
   replace Iy := Iy.below hbW
   replace Jx := Jx.below hbW
   replace Jy := Jy.below hbW
   replace VA := VA.below hbW
   replace VB := VB.below hbW
   replace VX := VX.below hbW
   replace VY := VY.below hbW
   replace BB := BB.trans (hbW.mono BB.size)
   clear hbW
   go_wp2
   have hne1 : (!(cc == cc)) = false := by simp
   have hDr : Below wc.heap.size wc wc.drew := (Below.refl _ _).drew
   replace ht := ht.below hDr
   replace Ix := Ix.below hDr
   replace Iy := Iy.below hDr
   replace Jx := Jx.below hDr
   replace Jy := Jy.below hDr
   replace VA := VA.below hDr
   replace VB := VB.below hDr
   replace VX := VX.below hDr
   replace VY := VY.below hDr
   replace VL := VL.below hDr
   replace VH := VH.below hDr
   replace BB := BB.trans (hDr.mono BB.size)
   clear hDr
   refine wp_region_held_drew (S := (fun w' => w'.cell? ⟨w.heap.size,0,none⟩ = some (.bool p) ∧ w'.cell? ⟨w.heap.size,1,none⟩ = some (.slice ao n c) ∧ w'.cell? ⟨w.heap.size,2,none⟩ = some (.slice bo m d) ∧ w'.cell? ⟨w.heap.size + 1,0,none⟩ = some (.bool p2) ∧ w'.cell? ⟨w.heap.size + 1,1,none⟩ = some (.slice ao2 n2 c2) ∧ w'.cell? ⟨w.heap.size + 1,2,none⟩ = some (.slice bo2 m2 d2) ∧ w'.cell? ⟨RL,0,none⟩ = some (.bool px) ∧ w'.cell? ⟨RL,1,none⟩ = some (.slice ax nx cx) ∧ w'.cell? ⟨RL,2,none⟩ = some (.slice bx mx dx) ∧ w'.cell? ⟨RH,0,none⟩ = some (.bool py) ∧ w'.cell? ⟨RH,1,none⟩ = some (.slice ay ny cy) ∧ w'.cell? ⟨RH,2,none⟩ = some (.slice by_ my dy))) (by kernel_rfl) ?_ (fun hHeld => ?_)
   ·exact ⟨VA.1,VA.2.1,VA.2.2.1,VB.1,VB.2.1,VB.2.2.1,VL.1,VL.2.1,VL.2.2.1,VH.1,VH.2.1,VH.2.2.1⟩
   generalize wc.drew = W14 at *
   refine wpAnyH_take (i := 0) (v := ?_) (by simp only [xL1,xL2,xL3]; rfl) (by kernel_rfl) (by kernel_rfl) (by kernel_rfl) (by exact fun _ _ _ h => h) (Or.inl ⟨by rfl,?_⟩) (by assumption) ?_
   rotate_left
   ·(intro w hSw; (try dsimp only at hSw); go_simp; (try with_reducible rfl))
   (try simp only [Act.put,xL4,xL5,xL6])
   refine wpAnyH_take (i := 1) (v := ?_) (by simp only [xL1,xL2,xL3]; rfl) (by kernel_rfl) (by kernel_rfl) (by kernel_rfl) (by exact fun _ _ _ h => h) (Or.inl ⟨by rfl,?_⟩) (by assumption) ?_
   rotate_left
   ·(intro w hSw; (try dsimp only at hSw); go_simp; (try with_reducible rfl))
   (try simp only [Act.put,xL4,xL5,xL6])
   refine wpAnyH_take (i := 3) (v := ?_) (by simp only [xL1,xL2,xL3]; rfl) (by kernel_rfl) (by kernel_rfl) (by kernel_rfl) (by exact fun _ _ _ h => h) (Or.inl ⟨by rfl,?_⟩) (by assumption) ?_
   rotate_left
   ·(intro w hSw; (try dsimp only at hSw); go_simp; (try with_reducible rfl))
   (try simp only [Act.put,xL4,xL5,xL6])
   refine wpAnyH_ready (rs := [2]) (by kernel_rfl) (by simp) ?_
   refine AllReadyH.cons (by simp only [xL1,xL2,xL3]; rfl) (fun K hK => ?_) AllReadyH.nil
   go_simp
   refine (qcmp_at _ _ q r 8 _ Ix Iy (by omega) (by omega)).mono ?_
   rintro e w6 ⟨rfl,b6⟩
   rw [hcc]
   go_wp2_with fail
   replace ht := ht.below b6
   replace Ix := Ix.below b6
   replace Iy := Iy.below b6
   replace Jx := Jx.below b6
   replace Jy := Jy.below b6
   replace VA := VA.below b6
   replace VB := VB.below b6
   replace VX := VX.below b6
   replace VY := VY.below b6
   replace VL := VL.below b6
   replace VH := VH.below b6
   replace BB := BB.trans (b6.mono BB.size)
   clear b6
   refine hK.out _ _ ?_ (fun hH1 => ?_)
   ·exact ⟨VA.1,VA.2.1,VA.2.2.1,VB.1,VB.2.1,VB.2.2.1,VL.1,VL.2.1,VL.2.2.1,VH.1,VH.2.1,VH.2.2.1⟩
   clear hK K hHeld
   (try simp only [Act.put,xL4,xL5,xL6])
   refine wpAnyH_take (i := 4) (v := ?_) (by simp only [xL1,xL2,xL3]; rfl) (by kernel_rfl) (by kernel_rfl) (by kernel_rfl) (by exact fun _ _ _ h => h) (Or.inl ⟨by rfl,?_⟩) (by assumption) ?_
   rotate_left
   ·(intro w hSw; (try dsimp only at hSw); go_simp; (try with_reducible rfl))
   (try simp only [Act.put,xL4,xL5,xL6])
   refine wpAnyH_take (i := 5) (v := ?_) (by simp only [xL1,xL2,xL3]; rfl) (by kernel_rfl) (by kernel_rfl) (by kernel_rfl) (by exact fun _ _ _ h => h) (Or.inl ⟨by rfl,?_⟩) (by assumption) ?_
   rotate_left
   ·(intro w hSw; (try dsimp only at hSw); go_simp; (try with_reducible rfl))
   (try simp only [Act.put,xL4,xL5,xL6])
   refine wpAnyH_take (i := 6) (v := ?_) (by simp only [xL1,xL2,xL3]; rfl) (by kernel_rfl) (by kernel_rfl) (by kernel_rfl) (by exact fun _ _ _ h => h) (Or.inl ⟨by rfl,?_⟩) (by assumption) ?_
   rotate_left
   ·(intro w hSw; (try dsimp only at hSw); go_simp; (try with_reducible rfl))
   (try simp only [Act.put,xL4,xL5,xL6])
   refine wpAnyH_take (i := 7) (v := ?_) (by simp only [xL1,xL2,xL3]; rfl) (by kernel_rfl) (by kernel_rfl) (by kernel_rfl) (by exact fun _ _ _ h => h) (Or.inl ⟨by rfl,?_⟩) (by assumption) ?_
   rotate_left
   ·(intro w hSw; (try dsimp only at hSw); go_simp; (try with_reducible rfl))
   (try simp only [Act.put,xL4,xL5,xL6])
   refine wpAnyH_take (i := 9) (v := ?_) (by simp only [xL1,xL2,xL3]; rfl) (by kernel_rfl) (by kernel_rfl) (by kernel_rfl) (by exact fun _ _ _ h => h) (Or.inl ⟨by rfl,?_⟩) (by assumption) ?_
   rotate_left
   ·(intro w hSw; (try dsimp only at hSw); go_simp; (try with_reducible rfl))
   (try simp only [Act.put,xL4,xL5,xL6])
   refine wpAnyH_take (i := 10) (v := ?_) (by simp only [xL1,xL2,xL3]; rfl) (by kernel_rfl) (by kernel_rfl) (by kernel_rfl) (by exact fun _ _ _ h => h) (Or.inl ⟨by rfl,?_⟩) (by assumption) ?_
   rotate_left
   ·(intro w hSw; (try dsimp only at hSw); go_simp; (try with_reducible rfl))
   (try simp only [Act.put,xL4,xL5,xL6])
   refine wpAnyH_ready (rs := [8]) (by kernel_rfl) (by simp) ?_
   refine AllReadyH.cons (by simp only [xL1,xL2,xL3]; rfl) (fun K hK => ?_) AllReadyH.nil
   go_simp
   refine (qsame_at _ _ q r 8 _ Ix Iy (by omega) (by omega)).mono ?_
   rintro e w7 ⟨rfl,b7⟩
   rw [← hcz]
   go_wp2_with fail
   replace ht := ht.below b7
   replace Ix := Ix.below b7
   replace Iy := Iy.below b7
   replace Jx := Jx.below b7
   replace Jy := Jy.below b7
   replace VA := VA.below b7
   replace VB := VB.below b7
   replace VX := VX.below b7
   replace VY := VY.below b7
   replace VL := VL.below b7
   replace VH := VH.below b7
   replace BB := BB.trans (b7.mono BB.size)
   clear b7
   refine hK.out _ _ ?_ (fun hH2 => ?_)
   ·exact ⟨VA.1,VA.2.1,VA.2.2.1,VB.1,VB.2.1,VB.2.2.1,VL.1,VL.2.1,VL.2.2.1,VH.1,VH.2.1,VH.2.2.1⟩
   clear hK K hH1
   (try simp only [Act.put,xL4,xL5,xL6])
   refine wpAnyH_take (i := 11) (v := ?_) (by simp only [xL1,xL2,xL3]; rfl) (by kernel_rfl) (by kernel_rfl) (by kernel_rfl) (by exact fun _ _ _ h => h) (Or.inl ⟨by rfl,?_⟩) (by assumption) ?_
   rotate_left
   ·(intro w hSw; (try dsimp only at hSw); go_simp; (try with_reducible rfl))
   (try simp only [Act.put,xL4,xL5,xL6])
   refine wpAnyH_take (i := 12) (v := ?_) (by simp only [xL1,xL2,xL3]; rfl) (by kernel_rfl) (by kernel_rfl) (by kernel_rfl) (by exact fun _ _ _ h => h) (Or.inl ⟨by rfl,?_⟩) (by assumption) ?_
   rotate_left
   ·(intro w hSw; (try dsimp only at hSw); go_simp; (try with_reducible rfl))
   (try simp only [Act.put,xL4,xL5,xL6])
   refine wpAnyH_take (i := 13) (v := ?_) (by simp only [xL1,xL2,xL3]; rfl) (by kernel_rfl) (by kernel_rfl) (by kernel_rfl) (by exact fun _ _ _ h => h) (Or.inl ⟨by rfl,?_⟩) (by assumption) ?_
   rotate_left
   ·(intro w hSw; (try dsimp only at hSw); go_simp; (try with_reducible rfl))
   (try simp only [Act.put,xL4,xL5,xL6])
   refine wpAnyH_take (i := 14) (v := ?_) (by simp only [xL1,xL2,xL3]; rfl) (by kernel_rfl) (by kernel_rfl) (by kernel_rfl) (by exact fun _ _ _ h => h) (Or.inl ⟨by rfl,?_⟩) (by assumption) ?_
   rotate_left
   ·(intro w hSw; (try dsimp only at hSw); go_simp; (try with_reducible rfl))
   (try simp only [Act.put,xL4,xL5,xL6])
   refine wpAnyH_take (i := 15) (v := ?_) (by simp only [xL1,xL2,xL3]; rfl) (by kernel_rfl) (by kernel_rfl) (by kernel_rfl) (by exact fun _ _ _ h => h) (Or.inl ⟨by rfl,?_⟩) (by assumption) ?_
   rotate_left
   ·(intro w hSw; (try dsimp only at hSw); go_simp; (try with_reducible rfl))
   (try simp only [Act.put,xL4,xL5,xL6])
   refine wpAnyH_take (i := 17) (v := ?_) (by simp only [xL1,xL2,xL3]; rfl) (by kernel_rfl) (by kernel_rfl) (by kernel_rfl) (by exact fun _ _ _ h => h) (Or.inl ⟨by rfl,?_⟩) (by assumption) ?_
   rotate_left
   ·(intro w hSw; (try dsimp only at hSw); go_simp; (try with_reducible rfl))
   (try simp only [Act.put,xL4,xL5,xL6])
   refine wpAnyH_ready (rs := [16]) (by kernel_rfl) (by simp) ?_
   refine AllReadyH.cons (by simp only [xL1,xL2,xL3]; rfl) (fun K hK => ?_) AllReadyH.nil
   go_simp
   refine (qmin_at _ _ q r 8 _ Ix Iy (by omega) (by omega) ht).mono ?_
   rintro e w8 ⟨vm,rfl,hm,b8⟩
   rw [if_neg hgt] at hm
   go_wp2_with fail
   replace ht := ht.below b8
   replace Ix := Ix.below b8
   replace Iy := Iy.below b8
   replace Jx := Jx.below b8
   replace Jy := Jy.below b8
   replace VA := VA.below b8
   replace VB := VB.below b8
   replace VX := VX.below b8
   replace VY := VY.below b8
   replace VL := VL.below b8
   replace VH := VH.below b8
   replace BB := BB.trans (b8.mono BB.size)
   clear b8
   refine hK.out _ _ ?_ (fun hH3 => ?_)
   ·exact ⟨VA.1,VA.2.1,VA.2.2.1,VB.1,VB.2.1,VB.2.2.1,VL.1,VL.2.1,VL.2.2.1,VH.1,VH.2.1,VH.2.2.1⟩
   clear hK K hH2
   (try simp only [Act.put,xL4,xL5,xL6])
   refine wpAnyH_ready (rs := [18]) (by kernel_rfl) (by simp) ?_
   refine AllReadyH.cons (by simp only [xL1,xL2,xL3]; rfl) (fun K hK => ?_) AllReadyH.nil
   go_simp
   refine (jis_at _ _ q 8 8 _ hm sq Jx (by omega)).mono ?_
   rintro e w9 ⟨rfl,b9⟩
   go_wp2_with fail
   replace ht := ht.below b9
   replace Ix := Ix.below b9
   replace Iy := Iy.below b9
   replace Jx := Jx.below b9
   replace Jy := Jy.below b9
   replace hm := hm.below b9
   replace VA := VA.below b9
   replace VB := VB.below b9
   replace VX := VX.below b9
   replace VY := VY.below b9
   replace VL := VL.below b9
   replace VH := VH.below b9
   replace BB := BB.trans (b9.mono BB.size)
   clear b9
   refine hK.out _ _ ?_ (fun hH4 => ?_)
   ·exact ⟨VA.1,VA.2.1,VA.2.2.1,VB.1,VB.2.1,VB.2.2.1,VL.1,VL.2.1,VL.2.2.1,VH.1,VH.2.1,VH.2.2.1⟩
   clear hK K hH3
   (try simp only [Act.put,xL4,xL5,xL6])
   refine wpAnyH_take (i := 19) (v := ?_) (by simp only [xL1,xL2,xL3]; rfl) (by kernel_rfl) (by kernel_rfl) (by kernel_rfl) (by exact fun _ _ _ h => h) (Or.inl ⟨by rfl,?_⟩) (by assumption) ?_
   rotate_left
   ·(intro w hSw; (try dsimp only at hSw); go_simp; (try with_reducible rfl))
   (try simp only [Act.put,xL4,xL5,xL6])
   refine wpAnyH_take (i := 20) (v := ?_) (by simp only [xL1,xL2,xL3]; rfl) (by kernel_rfl) (by kernel_rfl) (by kernel_rfl) (by exact fun _ _ _ h => h) (Or.inl ⟨by rfl,?_⟩) (by assumption) ?_
   rotate_left
   ·(intro w hSw; (try dsimp only at hSw); go_simp; (try with_reducible rfl))
   (try simp only [Act.put,xL4,xL5,xL6])
   refine wpAnyH_take (i := 21) (v := ?_) (by simp only [xL1,xL2,xL3]; rfl) (by kernel_rfl) (by kernel_rfl) (by kernel_rfl) (by exact fun _ _ _ h => h) (Or.inl ⟨by rfl,?_⟩) (by assumption) ?_
   rotate_left
   ·(intro w hSw; (try dsimp only at hSw); go_simp; (try with_reducible rfl))
   (try simp only [Act.put,xL4,xL5,xL6])
   refine wpAnyH_take (i := 22) (v := ?_) (by simp only [xL1,xL2,xL3]; rfl) (by kernel_rfl) (by kernel_rfl) (by kernel_rfl) (by exact fun _ _ _ h => h) (Or.inl ⟨by rfl,?_⟩) (by assumption) ?_
   rotate_left
   ·(intro w hSw; (try dsimp only at hSw); go_simp; (try with_reducible rfl))
   (try simp only [Act.put,xL4,xL5,xL6])
   refine wpAnyH_take (i := 23) (v := ?_) (by simp only [xL1,xL2,xL3]; rfl) (by kernel_rfl) (by kernel_rfl) (by kernel_rfl) (by exact fun _ _ _ h => h) (Or.inl ⟨by rfl,?_⟩) (by assumption) ?_
   rotate_left
   ·(intro w hSw; (try dsimp only at hSw); go_simp; (try with_reducible rfl))
   (try simp only [Act.put,xL4,xL5,xL6])
   refine wpAnyH_take (i := 25) (v := ?_) (by simp only [xL1,xL2,xL3]; rfl) (by kernel_rfl) (by kernel_rfl) (by kernel_rfl) (by exact fun _ _ _ h => h) (Or.inl ⟨by rfl,?_⟩) (by assumption) ?_
   rotate_left
   ·(intro w hSw; (try dsimp only at hSw); go_simp; (try with_reducible rfl))
   (try simp only [Act.put,xL4,xL5,xL6])
   refine wpAnyH_ready (rs := [24]) (by kernel_rfl) (by simp) ?_
   refine AllReadyH.cons (by simp only [xL1,xL2,xL3]; rfl) (fun K hK => ?_) AllReadyH.nil
   go_simp
   refine (qmax_at _ _ q r 8 _ Ix Iy (by omega) (by omega) ht).mono ?_
   rintro e w10 ⟨vh,rfl,hh,b10⟩
   rw [max_else hgt] at hh
   go_wp2_with fail
   replace ht := ht.below b10
   replace Ix := Ix.below b10
   replace Iy := Iy.below b10
   replace Jx := Jx.below b10
   replace Jy := Jy.below b10
   replace hm := hm.below b10
   replace VA := VA.below b10
   replace VB := VB.below b10
   replace VX := VX.below b10
   replace VY := VY.below b10
   replace VL := VL.below b10
   replace VH := VH.below b10
   replace BB := BB.trans (b10.mono BB.size)
   clear b10
   refine hK.out _ _ ?_ (fun hH5 => ?_)
   ·exact ⟨VA.1,VA.2.1,VA.2.2.1,VB.1,VB.2.1,VB.2.2.1,VL.1,VL.2.1,VL.2.2.1,VH.1,VH.2.1,VH.2.2.1⟩
   clear hK K hH4
   (try simp only [Act.put,xL4,xL5,xL6])
   refine wpAnyH_ready (rs := [26]) (by kernel_rfl) (by simp) ?_
   refine AllReadyH.cons (by simp only [xL1,xL2,xL3]; rfl) (fun K hK => ?_) AllReadyH.nil
   go_simp
   refine (jis_at _ _ r 8 8 _ hh sr Jy (by omega)).mono ?_
   rintro e w11 ⟨rfl,b11⟩
   go_wp2_with fail
   replace ht := ht.below b11
   replace Ix := Ix.below b11
   replace Iy := Iy.below b11
   replace Jx := Jx.below b11
   replace Jy := Jy.below b11
   replace hm := hm.below b11
   replace hh := hh.below b11
   replace VA := VA.below b11
   replace VB := VB.below b11
   replace VX := VX.below b11
   replace VY := VY.below b11
   replace VL := VL.below b11
   replace VH := VH.below b11
   replace BB := BB.trans (b11.mono BB.size)
   clear b11
   refine hK.out _ _ ?_ (fun hH6 => ?_)
   ·exact ⟨VA.1,VA.2.1,VA.2.2.1,VB.1,VB.2.1,VB.2.2.1,VL.1,VL.2.1,VL.2.2.1,VH.1,VH.2.1,VH.2.2.1⟩
   clear hK K hH5
   (try simp only [Act.put,xL4,xL5,xL6])
   refine wpAnyH_take (i := 27) (v := ?_) (by simp only [xL1,xL2,xL3]; rfl) (by kernel_rfl) (by kernel_rfl) (by kernel_rfl) (by exact fun _ _ _ h => h) (Or.inl ⟨by rfl,?_⟩) (by assumption) ?_
   rotate_left
   ·(intro w hSw; (try dsimp only at hSw); go_simp; (try with_reducible rfl))
   (try simp only [Act.put,xL4,xL5,xL6])
   refine wpAnyH_take (i := 28) (v := ?_) (by simp only [xL1,xL2,xL3]; rfl) (by kernel_rfl) (by kernel_rfl) (by kernel_rfl) (by exact fun _ _ _ h => h) (Or.inl ⟨by rfl,?_⟩) (by assumption) ?_
   rotate_left
   ·(intro w hSw; (try dsimp only at hSw); go_simp; (try with_reducible rfl))
   (try simp only [Act.put,xL4,xL5,xL6])
   refine wpAnyH_done (by kernel_rfl) ?_ _
   clear hH6
   clear hm hh
   clear VL VH
   go_wp2
   have z1 := qsz_add q r sq sr
   have z2 := qsz_sub q r sq sr
   have z3 := qsz_mul q r sq sr
   have hDr : Below w11.heap.size w11 w11.drew := (Below.refl _ _).drew
   replace ht := ht.below hDr
   replace Ix := Ix.below hDr
   replace Iy := Iy.below hDr
   replace Jx := Jx.below hDr
   replace Jy := Jy.below hDr
   replace VA := VA.below hDr
   replace VB := VB.below hDr
   replace VX := VX.below hDr
   replace VY := VY.below hDr
   replace BB := BB.trans (hDr.mono BB.size)
   clear hDr
   refine wp_region_held_drew (S := (fun w' => w'.cell? ⟨w.heap.size,0,none⟩ = some (.bool p) ∧ w'.cell? ⟨w.heap.size,1,none⟩ = some (.slice ao n c) ∧ w'.cell? ⟨w.heap.size,2,none⟩ = some (.slice bo m d) ∧ w'.cell? ⟨w.heap.size + 1,0,none⟩ = some (.bool p2) ∧ w'.cell? ⟨w.heap.size + 1,1,none⟩ = some (.slice ao2 n2 c2) ∧ w'.cell? ⟨w.heap.size + 1,2,none⟩ = some (.slice bo2 m2 d2) ∧ w'.cell? ⟨R3,0,none⟩ = some (.bool px) ∧ w'.cell? ⟨R3,1,none⟩ = some (.slice ax nx cx) ∧ w'.cell? ⟨R3,2,none⟩ = some (.slice bx mx dx) ∧ w'.cell? ⟨R4,0,none⟩ = some (.bool py) ∧ w'.cell? ⟨R4,1,none⟩ = some (.slice ay ny cy) ∧ w'.cell? ⟨R4,2,none⟩ = some (.slice by_ my dy))) (by kernel_rfl) ?_ (fun hHeld => ?_)
   ·exact ⟨VA.1,VA.2.1,VA.2.2.1,VB.1,VB.2.1,VB.2.2.1,VX.1,VX.2.1,VX.2.2.1,VY.1,VY.2.1,VY.2.2.1⟩
   generalize w11.drew = W15 at *
   refine wpAnyH_take (i := 0) (v := ?_) (by simp only [xL1,xL2,xL3]; rfl) (by kernel_rfl) (by kernel_rfl) (by kernel_rfl) (by exact fun _ _ _ h => h) (Or.inl ⟨by rfl,?_⟩) (by assumption) ?_
   rotate_left
   ·(intro w hSw; (try dsimp only at hSw); go_simp; (try with_reducible rfl))
   (try simp only [Act.put,xL4,xL5,xL6])
   refine wpAnyH_take (i := 1) (v := ?_) (by simp only [xL1,xL2,xL3]; rfl) (by kernel_rfl) (by kernel_rfl) (by kernel_rfl) (by exact fun _ _ _ h => h) (Or.inl ⟨by rfl,?_⟩) (by assumption) ?_
   rotate_left
   ·(intro w hSw; (try dsimp only at hSw); go_simp; (try with_reducible rfl))
   (try simp only [Act.put,xL4,xL5,xL6])
   refine wpAnyH_take (i := 3) (v := ?_) (by simp only [xL1,xL2,xL3]; rfl) (by kernel_rfl) (by kernel_rfl) (by kernel_rfl) (by exact fun _ _ _ h => h) (Or.inl ⟨by rfl,?_⟩) (by assumption) ?_
   rotate_left
   ·(intro w hSw; (try dsimp only at hSw); go_simp; (try with_reducible rfl))
   (try simp only [Act.put,xL4,xL5,xL6])
   refine wpAnyH_take (i := 4) (v := ?_) (by simp only [xL1,xL2,xL3]; rfl) (by kernel_rfl) (by kernel_rfl) (by kernel_rfl) (by exact fun _ _ _ h => h) (Or.inl ⟨by rfl,?_⟩) (by assumption) ?_
   rotate_left
   ·(intro w hSw; (try dsimp only at hSw); go_simp; (try with_reducible rfl))
   (try simp only [Act.put,xL4,xL5,xL6])
   refine wpAnyH_ready (rs := [2]) (by kernel_rfl) (by simp) ?_
   refine AllReadyH.cons (by simp only [xL1,xL2,xL3]; rfl) (fun K hK => ?_) AllReadyH.nil
   go_simp
   refine (qadd_at _ _ q r 8 _ Ix Iy (by omega) (by omega) ht).mono ?_
   rintro e w12 ⟨t1,rfl,h1,b12⟩
   go_wp2_with fail
   replace ht := ht.below b12
   replace Ix := Ix.below b12
   replace Iy := Iy.below b12
   replace Jx := Jx.below b12
   replace Jy := Jy.below b12
   replace VA := VA.below b12
   replace VB := VB.below b12
   replace VX := VX.below b12
   replace VY := VY.below b12
   replace BB := BB.trans (b12.mono BB.size)
   clear b12
   refine hK.out _ _ ?_ (fun hH1 => ?_)
   ·exact ⟨VA.1,VA.2.1,VA.2.2.1,VB.1,VB.2.1,VB.2.2.1,VX.1,VX.2.1,VX.2.2.1,VY.1,VY.2.1,VY.2.2.1⟩
   clear hK K hHeld
   (try simp only [Act.put,xL4,xL5,xL6])
   refine wpAnyH_ready (rs := [5]) (by kernel_rfl) (by simp) ?_
   refine AllReadyH.cons (by simp only [xL1,xL2,xL3]; rfl) (fun K hK => ?_) AllReadyH.nil
   go_simp
   refine (jplus_at _ _ q r 8 8 _ Jx Jy (by omega)).mono ?_
   rintro e w13 ⟨t2,rfl,h2,b13⟩
   go_wp2_with fail
   replace ht := ht.below b13
   replace Ix := Ix.below b13
   replace Iy := Iy.below b13
   replace Jx := Jx.below b13
   replace Jy := Jy.below b13
   replace h1 := h1.below b13
   replace VA := VA.below b13
   replace VB := VB.below b13
   replace VX := VX.below b13
   replace VY := VY.below b13
   replace BB := BB.trans (b13.mono BB.size)
   clear b13
   refine hK.out _ _ ?_ (fun hH2 => ?_)
   ·exact ⟨VA.1,VA.2.1,VA.2.2.1,VB.1,VB.2.1,VB.2.2.1,VX.1,VX.2.1,VX.2.2.1,VY.1,VY.2.1,VY.2.2.1⟩
   clear hK K hH1
   (try simp only [Act.put,xL4,xL5,xL6])
   refine wpAnyH_ready (rs := [6]) (by kernel_rfl) (by simp) ?_
   refine AllReadyH.cons (by simp only [xL1,xL2,xL3]; rfl) (fun K hK => ?_) AllReadyH.nil
   go_simp
   refine (jis_at _ _ (q + r) 17 17 _ h1 z1 h2 (by omega)).mono ?_
   rintro e w14 ⟨rfl,b14⟩
   go_wp2_with fail
   replace ht := ht.below b14
   replace Ix := Ix.below b14
   replace Iy := Iy.below b14
   replace Jx := Jx.below b14
   replace Jy := Jy.below b14
   replace h1 := h1.below b14
   replace h2 := h2.below b14
   replace VA := VA.below b14
   replace VB := VB.below b14
   replace VX := VX.below b14
   replace VY := VY.below b14
   replace BB := BB.trans (b14.mono BB.size)
   clear b14
   refine hK.out _ _ ?_ (fun hH3 => ?_)
   ·exact ⟨VA.1,VA.2.1,VA.2.2.1,VB.1,VB.2.1,VB.2.2.1,VX.1,VX.2.1,VX.2.2.1,VY.1,VY.2.1,VY.2.2.1⟩
   clear hK K hH2
   (try simp only [Act.put,xL4,xL5,xL6])
   refine wpAnyH_take (i := 7) (v := ?_) (by simp only [xL1,xL2,xL3]; rfl) (by kernel_rfl) (by kernel_rfl) (by kernel_rfl) (by exact fun _ _ _ h => h) (Or.inl ⟨by rfl,?_⟩) (by assumption) ?_
   rotate_left
   ·(intro w hSw; (try dsimp only at hSw); go_simp; (try with_reducible rfl))
   (try simp only [Act.put,xL4,xL5,xL6])
   refine wpAnyH_take (i := 8) (v := ?_) (by simp only [xL1,xL2,xL3]; rfl) (by kernel_rfl) (by kernel_rfl) (by kernel_rfl) (by exact fun _ _ _ h => h) (Or.inl ⟨by rfl,?_⟩) (by assumption) ?_
   rotate_left
   ·(intro w hSw; (try dsimp only at hSw); go_simp; (try with_reducible rfl))
   (try simp only [Act.put,xL4,xL5,xL6])
   refine wpAnyH_take (i := 9) (v := ?_) (by simp only [xL1,xL2,xL3]; rfl) (by kernel_rfl) (by kernel_rfl) (by kernel_rfl) (by exact fun _ _ _ h => h) (Or.inl ⟨by rfl,?_⟩) (by assumption) ?_
   rotate_left
   ·(intro w hSw; (try dsimp only at hSw); go_simp; (try with_reducible rfl))
   (try simp only [Act.put,xL4,xL5,xL6])
   refine wpAnyH_take (i := 10) (v := ?_) (by simp only [xL1,xL2,xL3]; rfl) (by kernel_rfl) (by kernel_rfl) (by kernel_rfl) (by exact fun _ _ _ h => h) (Or.inl ⟨by rfl,?_⟩) (by assumption) ?_
   rotate_left
   ·(intro w hSw; (try dsimp only at hSw); go_simp; (try with_reducible rfl))
   (try simp only [Act.put,xL4,xL5,xL6])
   refine wpAnyH_take (i := 12) (v := ?_) (by simp only [xL1,xL2,xL3]; rfl) (by kernel_rfl) (by kernel_rfl) (by kernel_rfl) (by exact fun _ _ _ h => h) (Or.inl ⟨by rfl,?_⟩) (by assumption) ?_
   rotate_left
   ·(intro w hSw; (try dsimp only at hSw); go_simp; (try with_reducible rfl))
   (try simp only [Act.put,xL4,xL5,xL6])
   refine wpAnyH_take (i := 13) (v := ?_) (by simp only [xL1,xL2,xL3]; rfl) (by kernel_rfl) (by kernel_rfl) (by kernel_rfl) (by exact fun _ _ _ h => h) (Or.inl ⟨by rfl,?_⟩) (by assumption) ?_
   rotate_left
   ·(intro w hSw; (try dsimp only at hSw); go_simp; (try with_reducible rfl))
   (try simp only [Act.put,xL4,xL5,xL6])
   refine wpAnyH_ready (rs := [11]) (by kernel_rfl) (by simp) ?_
   refine AllReadyH.cons (by simp only [xL1,xL2,xL3]; rfl) (fun K hK => ?_) AllReadyH.nil
   go_simp
   refine (qsub_at _ _ q r 8 _ Ix Iy (by omega) (by omega) ht).mono ?_
   rintro e w15 ⟨t3,rfl,h3,b15⟩
   rw [Rat.sub_eq_add_neg] at h3
   go_wp2_with fail
   replace ht := ht.below b15
   replace Ix := Ix.below b15
   replace Iy := Iy.below b15
   replace Jx := Jx.below b15
   replace Jy := Jy.below b15
   replace h1 := h1.below b15
   replace h2 := h2.below b15
   replace VA := VA.below b15
   replace VB := VB.below b15
   replace VX := VX.below b15
   replace VY := VY.below b15
   replace BB := BB.trans (b15.mono BB.size)
   clear b15
   refine hK.out _ _ ?_ (fun hH4 => ?_)
   ·exact ⟨VA.1,VA.2.1,VA.2.2.1,VB.1,VB.2.1,VB.2.2.1,VX.1,VX.2.1,VX.2.2.1,VY.1,VY.2.1,VY.2.2.1⟩
   clear hK K hH3
   (try simp only [Act.put,xL4,xL5,xL6])
   refine wpAnyH_ready (rs := [14]) (by kernel_rfl) (by simp) ?_
   refine AllReadyH.cons (by simp only [xL1,xL2,xL3]; rfl) (fun K hK => ?_) AllReadyH.nil
   go_simp
   refine (jminus_at _ r 8 _ Jy (by omega)).mono ?_
   rintro e w16 ⟨t4,rfl,h4,b16⟩
   go_wp2_with fail
   replace ht := ht.below b16
   replace Ix := Ix.below b16
   replace Iy := Iy.below b16
   replace Jx := Jx.below b16
   replace Jy := Jy.below b16
   replace h1 := h1.below b16
   replace h2 := h2.below b16
   replace h3 := h3.below b16
   replace VA := VA.below b16
   replace VB := VB.below b16
   replace VX := VX.below b16
   replace VY := VY.below b16
   replace BB := BB.trans (b16.mono BB.size)
   clear b16
   refine hK.out _ _ ?_ (fun hH5 => ?_)
   ·exact ⟨VA.1,VA.2.1,VA.2.2.1,VB.1,VB.2.1,VB.2.2.1,VX.1,VX.2.1,VX.2.2.1,VY.1,VY.2.1,VY.2.2.1⟩
   clear hK K hH4
   (try simp only [Act.put,xL4,xL5,xL6])
   refine wpAnyH_ready (rs := [15]) (by kernel_rfl) (by simp) ?_
   refine AllReadyH.cons (by simp only [xL1,xL2,xL3]; rfl) (fun K hK => ?_) AllReadyH.nil
   go_simp
   refine (jplus_at _ _ q (-r) 8 8 _ Jx h4 (by omega)).mono ?_
   rintro e w17 ⟨t5,rfl,h5,b17⟩
   go_wp2_with fail
   replace ht := ht.below b17
   replace Ix := Ix.below b17
   replace Iy := Iy.below b17
   replace Jx := Jx.below b17
   replace Jy := Jy.below b17
   replace h1 := h1.below b17
   replace h2 := h2.below b17
   replace h3 := h3.below b17
   replace h4 := h4.below b17
   replace VA := VA.below b17
   replace VB := VB.below b17
   replace VX := VX.below b17
   replace VY := VY.below b17
   replace BB := BB.trans (b17.mono BB.size)
   clear b17
   refine hK.out _ _ ?_ (fun hH6 => ?_)
   ·exact ⟨VA.1,VA.2.1,VA.2.2.1,VB.1,VB.2.1,VB.2.2.1,VX.1,VX.2.1,VX.2.2.1,VY.1,VY.2.1,VY.2.2.1⟩
   clear hK K hH5
   (try simp only [Act.put,xL4,xL5,xL6])
   refine wpAnyH_ready (rs := [16]) (by kernel_rfl) (by simp) ?_
   refine AllReadyH.cons (by simp only [xL1,xL2,xL3]; rfl) (fun K hK => ?_) AllReadyH.nil
   go_simp
   refine (jis_at _ _ (q + -r) 17 17 _ h3 (by rw [← Rat.sub_eq_add_neg]; exact z2) h5 (by omega)).mono ?_
   rintro e w18 ⟨rfl,b18⟩
   go_wp2_with fail
   replace ht := ht.below b18
   replace Ix := Ix.below b18
   replace Iy := Iy.below b18
   replace Jx := Jx.below b18
   replace Jy := Jy.below b18
   replace h1 := h1.below b18
   replace h2 := h2.below b18
   replace h3 := h3.below b18
   replace h4 := h4.below b18
   replace h5 := h5.below b18
   replace VA := VA.below b18
   replace VB := VB.below b18
   replace VX := VX.below b18
   replace VY := VY.below b18
   replace BB := BB.trans (b18.mono BB.size)
   clear b18
   refine hK.out _ _ ?_ (fun hH7 => ?_)
   ·exact ⟨VA.1,VA.2.1,VA.2.2.1,VB.1,VB.2.1,VB.2.2.1,VX.1,VX.2.1,VX.2.2.1,VY.1,VY.2.1,VY.2.2.1⟩
   clear hK K hH6
   (try simp only [Act.put,xL4,xL5,xL6])
   refine wpAnyH_take (i := 17) (v := ?_) (by simp only [xL1,xL2,xL3]; rfl) (by kernel_rfl) (by kernel_rfl) (by kernel_rfl) (by exact fun _ _ _ h => h) (Or.inl ⟨by rfl,?_⟩) (by assumption) ?_
   rotate_left
   ·(intro w hSw; (try dsimp only at hSw); go_simp; (try with_reducible rfl))
   (try simp only [Act.put,xL4,xL5,xL6])
   refine wpAnyH_take (i := 18) (v := ?_) (by simp only [xL1,xL2,xL3]; rfl) (by kernel_rfl) (by kernel_rfl) (by kernel_rfl) (by exact fun _ _ _ h => h) (Or.inl ⟨by rfl,?_⟩) (by assumption) ?_
   rotate_left
   ·(intro w hSw; (try dsimp only at hSw); go_simp; (try with_reducible rfl))
   (try simp only [Act.put,xL4,xL5,xL6])
   refine wpAnyH_take (i := 19) (v := ?_) (by simp only [xL1,xL2,xL3]; rfl) (by kernel_rfl) (by kernel_rfl) (by kernel_rfl) (by exact fun _ _ _ h => h) (Or.inl ⟨by rfl,?_⟩) (by assumption) ?_
   rotate_left
   ·(intro w hSw; (try dsimp only at hSw); go_simp; (try with_reducible rfl))
   (try simp only [Act.put,xL4,xL5,xL6])
   refine wpAnyH_take (i := 20) (v := ?_) (by simp only [xL1,xL2,xL3]; rfl) (by kernel_rfl) (by kernel_rfl) (by kernel_rfl) (by exact fun _ _ _ h => h) (Or.inl ⟨by rfl,?_⟩) (by assumption) ?_
   rotate_left
   ·(intro w hSw; (try dsimp only at hSw); go_simp; (try with_reducible rfl))
   (try simp only [Act.put,xL4,xL5,xL6])
   refine wpAnyH_take (i := 21) (v := ?_) (by simp only [xL1,xL2,xL3]; rfl) (by kernel_rfl) (by kernel_rfl) (by kernel_rfl) (by exact fun _ _ _ h => h) (Or.inl ⟨by rfl,?_⟩) (by assumption) ?_
   rotate_left
   ·(intro w hSw; (try dsimp only at hSw); go_simp; (try with_reducible rfl))
   (try simp only [Act.put,xL4,xL5,xL6])
   refine wpAnyH_take (i := 23) (v := ?_) (by simp only [xL1,xL2,xL3]; rfl) (by kernel_rfl) (by kernel_rfl) (by kernel_rfl) (by exact fun _ _ _ h => h) (Or.inl ⟨by rfl,?_⟩) (by assumption) ?_
   rotate_left
   ·(intro w hSw; (try dsimp only at hSw); go_simp; (try with_reducible rfl))
   (try simp only [Act.put,xL4,xL5,xL6])
   refine wpAnyH_take (i := 24) (v := ?_) (by simp only [xL1,xL2,xL3]; rfl) (by kernel_rfl) (by kernel_rfl) (by kernel_rfl) (by exact fun _ _ _ h => h) (Or.inl ⟨by rfl,?_⟩) (by assumption) ?_
   rotate_left
   ·(intro w hSw; (try dsimp only at hSw); go_simp; (try with_reducible rfl))
   (try simp only [Act.put,xL4,xL5,xL6])
   refine wpAnyH_ready (rs := [22]) (by kernel_rfl) (by simp) ?_
   refine AllReadyH.cons (by simp only [xL1,xL2,xL3]; rfl) (fun K hK => ?_) AllReadyH.nil
   go_simp
   refine (qmul_at _ _ q r 8 _ Ix Iy (by omega) (by omega) ht).mono ?_
   rintro e w19 ⟨t6,rfl,h6,b19⟩
   go_wp2_with fail
   replace ht := ht.below b19
   replace Ix := Ix.below b19
   replace Iy := Iy.below b19
   replace Jx := Jx.below b19
   replace Jy := Jy.below b19
   replace h1 := h1.below b19
   replace h2 := h2.below b19
   replace h3 := h3.below b19
   replace h4 := h4.below b19
   replace h5 := h5.below b19
   replace VA := VA.below b19
   replace VB := VB.below b19
   replace VX := VX.below b19
   replace VY := VY.below b19
   replace BB := BB.trans (b19.mono BB.size)
   clear b19
   refine hK.out _ _ ?_ (fun hH8 => ?_)
   ·exact ⟨VA.1,VA.2.1,VA.2.2.1,VB.1,VB.2.1,VB.2.2.1,VX.1,VX.2.1,VX.2.2.1,VY.1,VY.2.1,VY.2.2.1⟩
   clear hK K hH7
   (try simp only [Act.put,xL4,xL5,xL6])
   refine wpAnyH_ready (rs := [25]) (by kernel_rfl) (by simp) ?_
   refine AllReadyH.cons (by simp only [xL1,xL2,xL3]; rfl) (fun K hK => ?_) AllReadyH.nil
   go_simp
   refine (jtimes_at _ _ q r 8 8 _ Jx Jy (by omega)).mono ?_
   rintro e w20 ⟨t7,rfl,h7,b20⟩
   go_wp2_with fail
   replace ht := ht.below b20
   replace Ix := Ix.below b20
   replace Iy := Iy.below b20
   replace Jx := Jx.below b20
   replace Jy := Jy.below b20
   replace h1 := h1.below b20
   replace h2 := h2.below b20
   replace h3 := h3.below b20
   replace h4 := h4.below b20
   replace h5 := h5.below b20
   replace h6 := h6.below b20
   replace VA := VA.below b20
   replace VB := VB.below b20
   replace VX := VX.below b20
   replace VY := VY.below b20
   replace BB := BB.trans (b20.mono BB.size)
   clear b20
   refine hK.out _ _ ?_ (fun hH9 => ?_)
   ·exact ⟨VA.1,VA.2.1,VA.2.2.1,VB.1,VB.2.1,VB.2.2.1,VX.1,VX.2.1,VX.2.2.1,VY.1,VY.2.1,VY.2.2.1⟩
   clear hK K hH8
   (try simp only [Act.put,xL4,xL5,xL6])
   refine wpAnyH_ready (rs := [26]) (by kernel_rfl) (by simp) ?_
   refine AllReadyH.cons (by simp only [xL1,xL2,xL3]; rfl) (fun K hK => ?_) AllReadyH.nil
   go_simp
   refine (jis_at _ _ (q * r) 16 16 _ h6 z3 h7 (by omega)).mono ?_
   rintro e w21 ⟨rfl,b21⟩
   go_wp2_with fail
   replace ht := ht.below b21
   replace Ix := Ix.below b21
   replace Iy := Iy.below b21
   replace Jx := Jx.below b21
   replace Jy := Jy.below b21
   replace h1 := h1.below b21
   replace h2 := h2.below b21
   replace h3 := h3.below b21
   replace h4 := h4.below b21
   replace h5 := h5.below b21
   replace h6 := h6.below b21
   replace h7 := h7.below b21
   replace VA := VA.below b21
   replace VB := VB.below b21
   replace VX := VX.below b21
   replace VY := VY.below b21
   replace BB := BB.trans (b21.mono BB.size)
   clear b21
   refine hK.out _ _ ?_ (fun hH10 => ?_)
   ·exact ⟨VA.1,VA.2.1,VA.2.2.1,VB.1,VB.2.1,VB.2.2.1,VX.1,VX.2.1,VX.2.2.1,VY.1,VY.2.1,VY.2.2.1⟩
   clear hK K hH9
   (try simp only [Act.put,xL4,xL5,xL6])
   refine wpAnyH_take (i := 27) (v := ?_) (by simp only [xL1,xL2,xL3]; rfl) (by kernel_rfl) (by kernel_rfl) (by kernel_rfl) (by exact fun _ _ _ h => h) (Or.inl ⟨by rfl,?_⟩) (by assumption) ?_
   rotate_left
   ·(intro w hSw; (try dsimp only at hSw); go_simp; (try with_reducible rfl))
   (try simp only [Act.put,xL4,xL5,xL6])
   refine wpAnyH_take (i := 28) (v := ?_) (by simp only [xL1,xL2,xL3]; rfl) (by kernel_rfl) (by kernel_rfl) (by kernel_rfl) (by exact fun _ _ _ h => h) (Or.inl ⟨by rfl,?_⟩) (by assumption) ?_
   rotate_left
   ·(intro w hSw; (try dsimp only at hSw); go_simp; (try with_reducible rfl))
   (try simp only [Act.put,xL4,xL5,xL6])
   refine wpAnyH_done (by kernel_rfl) ?_ _
   clear hH10
   clear h1 h2 h3 h4 h5 h6 h7
   obtain ⟨VA_0,VA_1,VA_2,VA_3,VA_4,VA_5⟩ := id VA
   obtain ⟨VB_0,VB_1,VB_2,VB_3,VB_4,VB_5⟩ := id VB
   go_wp2_with fail
   clear VA_0 VA_1 VA_2 VA_3 VA_4 VA_5 VB_0 VB_1 VB_2 VB_3 VB_4 VB_5
   by_cases h0 : r = 0
   ·have hn0 : ((ny : Int) == 0) = true := by simp [hlen.2 h0]
    have H0 : Hid (r = 0) := h0
    clear h0
    refine (qdiv_zero2 _ _ q r 8 _ Ix Iy (by omega) (by omega) ht H0.out).mono ?_
    rintro e w22 ⟨p7,a7,n7,c7,b7,m7,d7,rfl,N7,b22⟩
    replace ht := ht.below b22
    replace Ix := Ix.below b22
    replace Iy := Iy.below b22
    replace Jx := Jx.below b22
    replace Jy := Jy.below b22
    replace VA := VA.below b22
    replace VB := VB.below b22
    replace VX := VX.below b22
    replace VY := VY.below b22
    replace BB := BB.trans (b22.mono BB.size)
    clear b22
    have hZ16 : w.heap.size ≤ w22.heap.size := BB.size
    have hN16VA : w.heap.size ≠ w22.heap.size := Nat.ne_of_lt VA.lt
    have hN16VB : w.heap.size + 1 ≠ w22.heap.size := Nat.ne_of_lt VB.lt
    have hN16VX : R3 ≠ w22.heap.size := Nat.ne_of_lt VX.lt
    have hN16VY : R4 ≠ w22.heap.size := Nat.ne_of_lt VY.lt
    obtain ⟨W16,hW16,hS16,hL16,VQ⟩ := V3.lay w22 27 (.bool p7) (.slice a7 n7 c7) (.slice b7 m7 d7)
    replace ht := ht.below hL16
    replace Ix := Ix.below hL16
    replace Iy := Iy.below hL16
    replace Jx := Jx.below hL16
    replace Jy := Jy.below hL16
    replace VA := VA.below hL16
    replace VB := VB.below hL16
    replace VX := VX.below hL16
    replace VY := VY.below hL16
    replace BB := BB.trans (hL16.mono BB.size)
    clear hL16
    obtain ⟨VB_0,VB_1,VB_2,VB_3,VB_4,VB_5⟩ := id VB
    rw [hW16] at VB_0 VB_1 VB_2 VB_3 VB_4 VB_5
    go_wp2_with fail
    clear VB_0 VB_1 VB_2 VB_3 VB_4 VB_5
    rw [← hW16]
    generalize w22.heap.size = R16 at *
    clear hW16 hS16
    refine (qinv_zero2 _ r 8 _ Iy (by omega) (by omega) ht H0.out).mono ?_
    rintro e w23 ⟨p8,a8,n8,c8,b8,m8,d8,rfl,N8,b23⟩
    replace ht := ht.below b23
    replace Ix := Ix.below b23
    replace Iy := Iy.below b23
    replace Jx := Jx.below b23
    replace Jy := Jy.below b23
    replace VA := VA.below b23
    replace VB := VB.below b23
    replace VX := VX.below b23
    replace VY := VY.below b23
    replace VQ := VQ.below b23
    replace BB := BB.trans (b23.mono BB.size)
    clear b23
    have hZ17 : w.heap.size ≤ w23.heap.size := BB.size
    have hN17VA : w.heap.size ≠ w23.heap.size := Nat.ne_of_lt VA.lt
    have hN17VB : w.heap.size + 1 ≠ w23.heap.size := Nat.ne_of_lt VB.lt
    have hN17VX : R3 ≠ w23.heap.size := Nat.ne_of_lt VX.lt
    have hN17VY : R4 ≠ w23.heap.size := Nat.ne_of_lt VY.lt
    have hN17VQ : R16 ≠ w23.heap.size := Nat.ne_of_lt VQ.lt
    obtain ⟨W17,hW17,hS17,hL17,VI⟩ := V3.lay w23 27 (.bool p8) (.slice a8 n8 c8) (.slice b8 m8 d8)
    replace ht := ht.below hL17
    replace Ix := Ix.below hL17
    replace Iy := Iy.below hL17
    replace Jx := Jx.below hL17
    replace Jy := Jy.below hL17
    replace VA := VA.below hL17
    replace VB := VB.below hL17
    replace VX := VX.below hL17
    replace VY := VY.below hL17
    replace VQ := VQ.below hL17
    replace BB := BB.trans (hL17.mono BB.size)
    clear hL17
    obtain ⟨VY_0,VY_1,VY_2,VY_3,VY_4,VY_5⟩ := id VY
    obtain ⟨VQ_0,VQ_1,VQ_2,VQ_3,VQ_4,VQ_5⟩ := id VQ
    rw [hW17] at VY_0 VY_1 VY_2 VY_3 VY_4 VY_5 VQ_0 VQ_1 VQ_2 VQ_3 VQ_4 VQ_5
    go_wp2_with fail
    clear VY_0 VY_1 VY_2 VY_3 VY_4 VY_5 VQ_0 VQ_1 VQ_2 VQ_3 VQ_4 VQ_5
    rw [← hW17]
    generalize w23.heap.size = R17 at *
    clear hW17 hS17
    refine (none_hid _ _ _ _ _ _ _ _ N7).mono ?_
    rintro e w24 ⟨rfl,b24⟩
    replace ht := ht.below b24
    replace Ix := Ix.below b24
    replace Iy := Iy.below b24
    replace Jx := Jx.below b24
    replace Jy := Jy.below b24
    replace VA := VA.below b24
    replace VB := VB.below b24
    replace VX := VX.below b24
    replace VY := VY.below b24
    replace VQ := VQ.below b24
    replace VI := VI.below b24
    replace BB := BB.trans (b24.mono BB.size)
    clear b24
    obtain ⟨VI_0,VI_1,VI_2,VI_3,VI_4,VI_5⟩ := id VI
    go_wp2_with fail
    clear VI_0 VI_1 VI_2 VI_3 VI_4 VI_5
    refine (none_hid _ _ _ _ _ _ _ _ N8).mono ?_
    rintro e w25 ⟨rfl,b25⟩
    replace ht := ht.below b25
    replace Ix := Ix.below b25
    replace Iy := Iy.below b25
    replace Jx := Jx.below b25
    replace Jy := Jy.below b25
    replace VA := VA.below b25
    replace VB := VB.below b25
    replace VX := VX.below b25
    replace VY := VY.below b25
    replace VQ := VQ.below b25
    replace VI := VI.below b25
    replace BB := BB.trans (b25.mono BB.size)
    clear b25
    go_wp2_with fail
    refine (qawake_at _ ht).mono ?_
    rintro e w26 ⟨rfl,b26⟩
    replace ht := ht.below b26
    replace Ix := Ix.below b26
    replace Iy := Iy.below b26
    replace Jx := Jx.below b26
    replace Jy := Jy.below b26
    replace VA := VA.below b26
    replace VB := VB.below b26
    replace VX := VX.below b26
    replace VY := VY.below b26
    replace VQ := VQ.below b26
    replace VI := VI.below b26
    replace BB := BB.trans (b26.mono BB.size)
    clear b26
    go_wp2
    go_ret
    exact ⟨rfl,BB⟩
   ·have hn0 : ((ny : Int) == 0) = false := by
     have : ny ≠ 0 := fun e => h0 (hlen.1 e)
     simp; omega
    have z4 := qsz_inv r sr
    have z5 := qsz_div q r sq sr
    refine (qdiv_at _ _ q r 8 _ Ix Iy (by omega) (by omega) ht h0).mono ?_
    rintro e w22 ⟨tq,rfl,hq,b22⟩
    replace ht := ht.below b22
    replace Ix := Ix.below b22
    replace Iy := Iy.below b22
    replace Jx := Jx.below b22
    replace Jy := Jy.below b22
    replace VA := VA.below b22
    replace VB := VB.below b22
    replace VX := VX.below b22
    replace VY := VY.below b22
    replace BB := BB.trans (b22.mono BB.size)
    clear b22
    obtain ⟨p7,a7,n7,c7,b7,m7,d7,rfl⟩ := hq.open
    have hZ16 : w.heap.size ≤ w22.heap.size := BB.size
    have hN16VA : w.heap.size ≠ w22.heap.size := Nat.ne_of_lt VA.lt
    have hN16VB : w.heap.size + 1 ≠ w22.heap.size := Nat.ne_of_lt VB.lt
    have hN16VX : R3 ≠ w22.heap.size := Nat.ne_of_lt VX.lt
    have hN16VY : R4 ≠ w22.heap.size := Nat.ne_of_lt VY.lt
    obtain ⟨W16,hW16,hS16,hL16,VQ⟩ := V3.lay w22 27 (.bool p7) (.slice a7 n7 c7) (.slice b7 m7 d7)
    replace ht := ht.below hL16
    replace Ix := Ix.below hL16
    replace Iy := Iy.below hL16
    replace Jx := Jx.below hL16
    replace Jy := Jy.below hL16
    replace hq := hq.below hL16
    replace VA := VA.below hL16
    replace VB := VB.below hL16
    replace VX := VX.below hL16
    replace VY := VY.below hL16
    replace BB := BB.trans (hL16.mono BB.size)
    clear hL16
    obtain ⟨VB_0,VB_1,VB_2,VB_3,VB_4,VB_5⟩ := id VB
    rw [hW16] at VB_0 VB_1 VB_2 VB_3 VB_4 VB_5
    go_wp2_with fail
    clear VB_0 VB_1 VB_2 VB_3 VB_4 VB_5
    rw [← hW16]
    generalize w22.heap.size = R16 at *
    clear hW16 hS16
    refine (qinv_at _ r 8 _ Iy (by omega) (by omega) ht h0).mono ?_
    rintro e w23 ⟨ti,rfl,hi,b23⟩
    replace ht := ht.below b23
    replace Ix := Ix.below b23
    replace Iy := Iy.below b23
    replace Jx := Jx.below b23
    replace Jy := Jy.below b23
    replace hq := hq.below b23
    replace VA := VA.below b23
    replace VB := VB.below b23
    replace VX := VX.below b23
    replace VY := VY.below b23
    replace VQ := VQ.below b23
    replace BB := BB.trans (b23.mono BB.size)
    clear b23
    obtain ⟨p8,a8,n8,c8,b8,m8,d8,rfl⟩ := hi.open
    have hZ17 : w.heap.size ≤ w23.heap.size := BB.size
    have hN17VA : w.heap.size ≠ w23.heap.size := Nat.ne_of_lt VA.lt
    have hN17VB : w.heap.size + 1 ≠ w23.heap.size := Nat.ne_of_lt VB.lt
    have hN17VX : R3 ≠ w23.heap.size := Nat.ne_of_lt VX.lt
    have hN17VY : R4 ≠ w23.heap.size := Nat.ne_of_lt VY.lt
    have hN17VQ : R16 ≠ w23.heap.size := Nat.ne_of_lt VQ.lt
    obtain ⟨W17,hW17,hS17,hL17,VI⟩ := V3.lay w23 27 (.bool p8) (.slice a8 n8 c8) (.slice b8 m8 d8)
    replace ht := ht.below hL17
    replace Ix := Ix.below hL17
    replace Iy := Iy.below hL17
    replace Jx := Jx.below hL17
    replace Jy := Jy.below hL17
    replace hq := hq.below hL17
    replace hi := hi.below hL17
    replace VA := VA.below hL17
    replace VB := VB.below hL17
    replace VX := VX.below hL17
    replace VY := VY.below hL17
    replace VQ := VQ.below hL17
    replace BB := BB.trans (hL17.mono BB.size)
    clear hL17
    obtain ⟨VY_0,VY_1,VY_2,VY_3,VY_4,VY_5⟩ := id VY
    rw [hW17] at VY_0 VY_1 VY_2 VY_3 VY_4 VY_5
    go_wp2
    clear VY_0 VY_1 VY_2 VY_3 VY_4 VY_5
    rw [← hW17]
    generalize w23.heap.size = R17 at *
    clear hW17 hS17
    have hDr : Below W17.heap.size W17 W17.drew := (Below.refl _ _).drew
    replace ht := ht.below hDr
    replace Ix := Ix.below hDr
    replace Iy := Iy.below hDr
    replace Jx := Jx.below hDr
    replace Jy := Jy.below hDr
    replace hq := hq.below hDr
    replace hi := hi.below hDr
    replace VA := VA.below hDr
    replace VB := VB.below hDr
    replace VX := VX.below hDr
    replace VY := VY.below hDr
    replace VQ := VQ.below hDr
    replace VI := VI.below hDr
    replace BB := BB.trans (hDr.mono BB.size)
    clear hDr
    refine wp_region_held_drew (S := (fun w' => w'.cell? ⟨R16,0,none⟩ = some (.bool p7) ∧ w'.cell? ⟨R16,1,none⟩ = some (.slice a7 n7 c7) ∧ w'.cell? ⟨R16,2,none⟩ = some (.slice b7 m7 d7) ∧ w'.cell? ⟨R17,0,none⟩ = some (.bool p8) ∧ w'.cell? ⟨R17,1,none⟩ = some (.slice a8 n8 c8) ∧ w'.cell? ⟨R17,2,none⟩ = some (.slice b8 m8 d8) ∧ w'.cell? ⟨R3,0,none⟩ = some (.bool px) ∧ w'.cell? ⟨R3,1,none⟩ = some (.slice ax nx cx) ∧ w'.cell? ⟨R3,2,none⟩ = some (.slice bx mx dx) ∧ w'.cell? ⟨R4,0,none⟩ = some (.bool py) ∧ w'.cell? ⟨R4,1,none⟩ = some (.slice ay ny cy) ∧ w'.cell? ⟨R4,2,none⟩ = some (.slice by_ my dy))) (by kernel_rfl) ?_ (fun hHeld => ?_)
    ·exact ⟨VQ.1,VQ.2.1,VQ.2.2.1,VI.1,VI.2.1,VI.2.2.1,VX.1,VX.2.1,VX.2.2.1,VY.1,VY.2.1,VY.2.2.1⟩
    generalize W17.drew = W18 at *
    refine wpAnyH_take (i := 0) (v := ?_) (by simp only [xL1,xL2,xL3]; rfl) (by kernel_rfl) (by kernel_rfl) (by kernel_rfl) (by exact fun _ _ _ h => h) (Or.inl ⟨by rfl,?_⟩) (by assumption) ?_
    rotate_left
    ·(intro w hSw; (try dsimp only at hSw); go_simp; (try with_reducible rfl))
    (try simp only [Act.put,xL4,xL5,xL6])
    refine wpAnyH_take (i := 1) (v := ?_) (by simp only [xL1,xL2,xL3]; rfl) (by kernel_rfl) (by kernel_rfl) (by kernel_rfl) (by exact fun _ _ _ h => h) (Or.inl ⟨by rfl,?_⟩) (by assumption) ?_
    rotate_left
    ·(intro w hSw; (try dsimp only at hSw); go_simp; (try with_reducible rfl))
    (try simp only [Act.put,xL4,xL5,xL6])
    refine wpAnyH_take (i := 2) (v := ?_) (by simp only [xL1,xL2,xL3]; rfl) (by kernel_rfl) (by kernel_rfl) (by kernel_rfl) (by exact fun _ _ _ h => h) (Or.inl ⟨by rfl,?_⟩) (by assumption) ?_
    rotate_left
    ·(intro w hSw; (try dsimp only at hSw); go_simp; (try with_reducible rfl))
    (try simp only [Act.put,xL4,xL5,xL6])
    refine wpAnyH_take (i := 3) (v := ?_) (by simp only [xL1,xL2,xL3]; rfl) (by kernel_rfl) (by kernel_rfl) (by kernel_rfl) (by exact fun _ _ _ h => h) (Or.inl ⟨by rfl,?_⟩) (by assumption) ?_
    rotate_left
    ·(intro w hSw; (try dsimp only at hSw); go_simp; (try with_reducible rfl))
    (try simp only [Act.put,xL4,xL5,xL6])
    refine wpAnyH_take (i := 4) (v := ?_) (by simp only [xL1,xL2,xL3]; rfl) (by kernel_rfl) (by kernel_rfl) (by kernel_rfl) (by exact fun _ _ _ h => h) (Or.inl ⟨by rfl,?_⟩) (by assumption) ?_
    rotate_left
    ·(intro w hSw; (try dsimp only at hSw); go_simp; (try with_reducible rfl))
    (try simp only [Act.put,xL4,xL5,xL6])
    refine wpAnyH_take (i := 5) (v := ?_) (by simp only [xL1,xL2,xL3]; rfl) (by kernel_rfl) (by kernel_rfl) (by kernel_rfl) (by exact fun _ _ _ h => h) (Or.inl ⟨by rfl,?_⟩) (by assumption) ?_
    rotate_left
    ·(intro w hSw; (try dsimp only at hSw); go_simp; (try with_reducible rfl))
    (try simp only [Act.put,xL4,xL5,xL6])
    refine wpAnyH_take (i := 6) (v := ?_) (by simp only [xL1,xL2,xL3]; rfl) (by kernel_rfl) (by kernel_rfl) (by kernel_rfl) (by exact fun _ _ _ h => h) (Or.inl ⟨by rfl,?_⟩) (by assumption) ?_
    rotate_left
    ·(intro w hSw; (try dsimp only at hSw); go_simp; (try with_reducible rfl))
    (try simp only [Act.put,xL4,xL5,xL6])
    refine wpAnyH_take (i := 7) (v := ?_) (by simp only [xL1,xL2,xL3]; rfl) (by kernel_rfl) (by kernel_rfl) (by kernel_rfl) (by exact fun _ _ _ h => h) (Or.inl ⟨by rfl,?_⟩) (by assumption) ?_
    rotate_left
    ·(intro w hSw; (try dsimp only at hSw); go_simp; (try with_reducible rfl))
    (try simp only [Act.put,xL4,xL5,xL6])
    refine wpAnyH_take (i := 8) (v := ?_) (by simp only [xL1,xL2,xL3]; rfl) (by kernel_rfl) (by kernel_rfl) (by kernel_rfl) (by exact fun _ _ _ h => h) (Or.inl ⟨by rfl,?_⟩) (by assumption) ?_
    rotate_left
    ·(intro w hSw; (try dsimp only at hSw); go_simp; (try with_reducible rfl))
    (try simp only [Act.put,xL4,xL5,xL6])
    refine wpAnyH_ready (rs := [9]) (by kernel_rfl) (by simp) ?_
    refine AllReadyH.cons (by simp only [xL1,xL2,xL3]; rfl) (fun K hK => ?_) AllReadyH.nil
    go_simp
    refine (jinverse_at _ r 8 _ Jy (by omega) h0).mono ?_
    rintro e w24 ⟨t1,rfl,h1,b24⟩
    go_wp2_with fail
    replace ht := ht.below b24
    replace Ix := Ix.below b24
    replace Iy := Iy.below b24
    replace Jx := Jx.below b24
    replace Jy := Jy.below b24
    replace hq := hq.below b24
    replace hi := hi.below b24
    replace VA := VA.below b24
    replace VB := VB.below b24
    replace VX := VX.below b24
    replace VY := VY.below b24
    replace VQ := VQ.below b24
    replace VI := VI.below b24
    replace BB := BB.trans (b24.mono BB.size)
    clear b24
    refine hK.out _ _ ?_ (fun hH1 => ?_)
    ·exact ⟨VQ.1,VQ.2.1,VQ.2.2.1,VI.1,VI.2.1,VI.2.2.1,VX.1,VX.2.1,VX.2.2.1,VY.1,VY.2.1,VY.2.2.1⟩
    clear hK K hHeld
    (try simp only [Act.put,xL4,xL5,xL6])
    refine wpAnyH_ready (rs := [10]) (by kernel_rfl) (by simp) ?_
    refine AllReadyH.cons (by simp only [xL1,xL2,xL3]; rfl) (fun K hK => ?_) AllReadyH.nil
    go_simp
    refine (jis_at _ _ r⁻¹ 8 8 _ hi z4 h1 (by omega)).mono ?_
    rintro e w25 ⟨rfl,b25⟩
    go_wp2_with fail
    replace ht := ht.below b25
    replace Ix := Ix.below b25
    replace Iy := Iy.below b25
    replace Jx := Jx.below b25
    replace Jy := Jy.below b25
    replace hq := hq.below b25
    replace hi := hi.below b25
    replace h1 := h1.below b25
    replace VA := VA.below b25
    replace VB := VB.below b25
    replace VX := VX.below b25
    replace VY := VY.below b25
    replace VQ := VQ.below b25
    replace VI := VI.below b25
    replace BB := BB.trans (b25.mono BB.size)
    clear b25
    refine hK.out _ _ ?_ (fun hH2 => ?_)
    ·exact ⟨VQ.1,VQ.2.1,VQ.2.2.1,VI.1,VI.2.1,VI.2.2.1,VX.1,VX.2.1,VX.2.2.1,VY.1,VY.2.1,VY.2.2.1⟩
    clear hK K hH1
    (try simp only [Act.put,xL4,xL5,xL6])
    refine wpAnyH_take (i := 11) (v := ?_) (by simp only [xL1,xL2,xL3]; rfl) (by kernel_rfl) (by kernel_rfl) (by kernel_rfl) (by exact fun _ _ _ h => h) (Or.inl ⟨by rfl,?_⟩) (by assumption) ?_
    rotate_left
    ·(intro w hSw; (try dsimp only at hSw); go_simp; (try with_reducible rfl))
    (try simp only [Act.put,xL4,xL5,xL6])
    refine wpAnyH_take (i := 12) (v := ?_) (by simp only [xL1,xL2,xL3]; rfl) (by kernel_rfl) (by kernel_rfl) (by kernel_rfl) (by exact fun _ _ _ h => h) (Or.inl ⟨by rfl,?_⟩) (by assumption) ?_
    rotate_left
    ·(intro w hSw; (try dsimp only at hSw); go_simp; (try with_reducible rfl))
    (try simp only [Act.put,xL4,xL5,xL6])
    refine wpAnyH_take (i := 13) (v := ?_) (by simp only [xL1,xL2,xL3]; rfl) (by kernel_rfl) (by kernel_rfl) (by kernel_rfl) (by exact fun _ _ _ h => h) (Or.inl ⟨by rfl,?_⟩) (by assumption) ?_
    rotate_left
    ·(intro w hSw; (try dsimp only at hSw); go_simp; (try with_reducible rfl))
    (try simp only [Act.put,xL4,xL5,xL6])
    refine wpAnyH_take (i := 14) (v := ?_) (by simp only [xL1,xL2,xL3]; rfl) (by kernel_rfl) (by kernel_rfl) (by kernel_rfl) (by exact fun _ _ _ h => h) (Or.inl ⟨by rfl,?_⟩) (by assumption) ?_
    rotate_left
    ·(intro w hSw; (try dsimp only at hSw); go_simp; (try with_reducible rfl))
    (try simp only [Act.put,xL4,xL5,xL6])
    refine wpAnyH_take (i := 15) (v := ?_) (by simp only [xL1,xL2,xL3]; rfl) (by kernel_rfl) (by kernel_rfl) (by kernel_rfl) (by exact fun _ _ _ h => h) (Or.inl ⟨by rfl,?_⟩) (by assumption) ?_
    rotate_left
    ·(intro w hSw; (try dsimp only at hSw); go_simp; (try with_reducible rfl))
    (try simp only [Act.put,xL4,xL5,xL6])
    refine wpAnyH_ready (rs := [16]) (by kernel_rfl) (by simp) ?_
    refine AllReadyH.cons (by simp only [xL1,xL2,xL3]; rfl) (fun K hK => ?_) AllReadyH.nil
    go_simp
    refine (jinverse_at _ r 8 _ Jy (by omega) h0).mono ?_
    rintro e w26 ⟨t2,rfl,h2,b26⟩
    go_wp2_with fail
    replace ht := ht.below b26
    replace Ix := Ix.below b26
    replace Iy := Iy.below b26
    replace Jx := Jx.below b26
    replace Jy := Jy.below b26
    replace hq := hq.below b26
    replace hi := hi.below b26
    replace h1 := h1.below b26
    replace VA := VA.below b26
    replace VB := VB.below b26
    replace VX := VX.below b26
    replace VY := VY.below b26
    replace VQ := VQ.below b26
    replace VI := VI.below b26
    replace BB := BB.trans (b26.mono BB.size)
    clear b26
    refine hK.out _ _ ?_ (fun hH3 => ?_)
    ·exact ⟨VQ.1,VQ.2.1,VQ.2.2.1,VI.1,VI.2.1,VI.2.2.1,VX.1,VX.2.1,VX.2.2.1,VY.1,VY.2.1,VY.2.2.1⟩
    clear hK K hH2
    (try simp only [Act.put,xL4,xL5,xL6])
    refine wpAnyH_ready (rs := [17]) (by kernel_rfl) (by simp) ?_
    refine AllReadyH.cons (by simp only [xL1,xL2,xL3]; rfl) (fun K hK => ?_) AllReadyH.nil
    go_simp
    refine (jtimes_at _ _ q r⁻¹ 8 8 _ Jx h2 (by omega)).mono ?_
    rintro e w27 ⟨t3,rfl,h3,b27⟩
    go_wp2_with fail
    replace ht := ht.below b27
    replace Ix := Ix.below b27
    replace Iy := Iy.below b27
    replace Jx := Jx.below b27
    replace Jy := Jy.below b27
    replace hq := hq.below b27
    replace hi := hi.below b27
    replace h1 := h1.below b27
    replace h2 := h2.below b27
    replace VA := VA.below b27
    replace VB := VB.below b27
    replace VX := VX.below b27
    replace VY := VY.below b27
    replace VQ := VQ.below b27
    replace VI := VI.below b27
    replace BB := BB.trans (b27.mono BB.size)
    clear b27
    refine hK.out _ _ ?_ (fun hH4 => ?_)
    ·exact ⟨VQ.1,VQ.2.1,VQ.2.2.1,VI.1,VI.2.1,VI.2.2.1,VX.1,VX.2.1,VX.2.2.1,VY.1,VY.2.1,VY.2.2.1⟩
    clear hK K hH3
    (try simp only [Act.put,xL4,xL5,xL6])
    refine wpAnyH_ready (rs := [18]) (by kernel_rfl) (by simp) ?_
    refine AllReadyH.cons (by simp only [xL1,xL2,xL3]; rfl) (fun K hK => ?_) AllReadyH.nil
    go_simp
    refine (jis_at _ _ (q * r⁻¹) 16 16 _ (by rw [← Rat.div_def]; exact hq) (by rw [← Rat.div_def]; exact z5) h3 (by omega)).mono ?_
    rintro e w28 ⟨rfl,b28⟩
    go_wp2_with fail
    replace ht := ht.below b28
    replace Ix := Ix.below b28
    replace Iy := Iy.below b28
    replace Jx := Jx.below b28
    replace Jy := Jy.below b28
    replace hq := hq.below b28
    replace hi := hi.below b28
    replace h1 := h1.below b28
    replace h2 := h2.below b28
    replace h3 := h3.below b28
    replace VA := VA.below b28
    replace VB := VB.below b28
    replace VX := VX.below b28
    replace VY := VY.below b28
    replace VQ := VQ.below b28
    replace VI := VI.below b28
    replace BB := BB.trans (b28.mono BB.size)
    clear b28
    refine hK.out _ _ ?_ (fun hH5 => ?_)
    ·exact ⟨VQ.1,VQ.2.1,VQ.2.2.1,VI.1,VI.2.1,VI.2.2.1,VX.1,VX.2.1,VX.2.2.1,VY.1,VY.2.1,VY.2.2.1⟩
    clear hK K hH4
    (try simp only [Act.put,xL4,xL5,xL6])
    refine wpAnyH_take (i := 19) (v := ?_) (by simp only [xL1,xL2,xL3]; rfl) (by kernel_rfl) (by kernel_rfl) (by kernel_rfl) (by exact fun _ _ _ h => h) (Or.inl ⟨by rfl,?_⟩) (by assumption) ?_
    rotate_left
    ·(intro w hSw; (try dsimp only at hSw); go_simp; (try with_reducible rfl))
    (try simp only [Act.put,xL4,xL5,xL6])
    refine wpAnyH_take (i := 20) (v := ?_) (by simp only [xL1,xL2,xL3]; rfl) (by kernel_rfl) (by kernel_rfl) (by kernel_rfl) (by exact fun _ _ _ h => h) (Or.inl ⟨by rfl,?_⟩) (by assumption) ?_
    rotate_left
    ·(intro w hSw; (try dsimp only at hSw); go_simp; (try with_reducible rfl))
    (try simp only [Act.put,xL4,xL5,xL6])
    refine wpAnyH_ready (rs := [21]) (by kernel_rfl) (by simp) ?_
    refine AllReadyH.cons (by simp only [xL1,xL2,xL3]; rfl) (fun K hK => ?_) AllReadyH.nil
    go_simp
    refine (qawake_at _ ht).mono ?_
    rintro e w29 ⟨rfl,b29⟩
    go_wp2_with fail
    replace ht := ht.below b29
    replace Ix := Ix.below b29
    replace Iy := Iy.below b29
    replace Jx := Jx.below b29
    replace Jy := Jy.below b29
    replace hq := hq.below b29
    replace hi := hi.below b29
    replace h1 := h1.below b29
    replace h2 := h2.below b29
    replace h3 := h3.below b29
    replace VA := VA.below b29
    replace VB := VB.below b29
    replace VX := VX.below b29
    replace VY := VY.below b29
    replace VQ := VQ.below b29
    replace VI := VI.below b29
    replace BB := BB.trans (b29.mono BB.size)
    clear b29
    refine hK.out _ _ ?_ (fun hH6 => ?_)
    ·exact ⟨VQ.1,VQ.2.1,VQ.2.2.1,VI.1,VI.2.1,VI.2.2.1,VX.1,VX.2.1,VX.2.2.1,VY.1,VY.2.1,VY.2.2.1⟩
    clear hK K hH5
    (try simp only [Act.put,xL4,xL5,xL6])
    refine wpAnyH_take (i := 22) (v := ?_) (by simp only [xL1,xL2,xL3]; rfl) (by kernel_rfl) (by kernel_rfl) (by kernel_rfl) (by exact fun _ _ _ h => h) (Or.inl ⟨by rfl,?_⟩) (by assumption) ?_
    rotate_left
    ·(intro w hSw; (try dsimp only at hSw); go_simp; (try with_reducible rfl))
    (try simp only [Act.put,xL4,xL5,xL6])
    refine wpAnyH_take (i := 23) (v := ?_) (by simp only [xL1,xL2,xL3]; rfl) (by kernel_rfl) (by kernel_rfl) (by kernel_rfl) (by exact fun _ _ _ h => h) (Or.inl ⟨by rfl,?_⟩) (by assumption) ?_
    rotate_left
    ·(intro w hSw; (try dsimp only at hSw); go_simp; (try with_reducible rfl))
    (try simp only [Act.put,xL4,xL5,xL6])
    refine wpAnyH_done (by kernel_rfl) ?_ _
    clear hH6
    go_wp2
    go_ret
    exact ⟨rfl,BB⟩

theorem own : ownKnob Tryz.prog.godebug = none := by kernel_rfl
theorem laidOut : laidOutB Tryz.prog = true := by kernel_rfl

abbrev laid1 : List (String × DataW Unit) := [("math/bits.deBruijn64tab",Rows.laid_math_bits_deBruijn64tab)]
theorem gTab : Tryz.prog.globalNamed "math/bits.deBruijn64tab" = some 0 := by kernel_rfl
theorem gTabType : (Tryz.prog.globals[0]?).map (·.type) = some 171 := by kernel_rfl
theorem uTab : Tryz.prog.underlying 171 = some (.array 64 5) := by kernel_rfl
theorem uCell : Tryz.prog.underlying 5 = some (.int .u8) := by kernel_rfl
theorem cCell : Tryz.prog.cellsOf 5 = 1 := by kernel_rfl
theorem cTab : Tryz.prog.cellsOf 171 = 64 := by kernel_rfl
/-- The listed table lies in its cells. -/
theorem tab_of {W : World} (h : laidMetH Tryz.prog laid1 W) : Tab W := by
 rw [MakeChecks.laidMetH_plain _ _ _ (by kernel_rfl)] at h
 have hd : laid1 = [("math/bits.deBruijn64tab",Lib.tabData .u8 (Lib.deBruijn64tab.map fun (n : Nat) => Int.ofNat n))] := rfl
 rw [hd] at h
 have hT := Lib.tabIs_of_head gTab gTabType uTab uCell cCell cTab h
 intro i hi
 have hc := hT.cell gTab i (by rw [List.length_map]; exact hi)
 rw [hc]
 congr 2
 rw [List.getD_eq_getElem?_getD,List.getElem?_map,List.getD_eq_getElem?_getD]
 cases Lib.deBruijn64tab[i]? <;> rfl
/-- A start for the witness: the heap that the run of the program's own initialisers leaves. -/
noncomputable def startW (os : Os) : World := { World.holding Tryz.prog os ⟨#[],#[],[]⟩ with heap := (varsWorld Tryz.prog 400 (varsId Tryz.prog) os (fun _ _ => 0)).heap }
theorem start_met (os : Os) (args : Array Value) : laidMetH Tryz.prog laid1 ((startW os).forCall (fun _ _ => 0) ⟨#[],args,[]⟩).memory :=
 laidMetH_of_parts3 (fuel := 8) (laidMet_of_run' 8 (by kernel_rfl) (by kernel_rfl)) (by kernel_rfl) (by kernel_rfl)

set_option maxRecDepth 100000 in
theorem lifted (os : Os) (started : os.Started) (H : Type) (enc : TypeId × Value → H) :
  ReturnsInHanded {} Tryz.checked os 5 .any (fun w args => (Rows.ratioSumsSpec.pre enc Tryz.prog Tryz.f5 [] false w args ∧ laidMetH Tryz.prog laid1 w) ∧ sizedMet enc Tryz.prog Tryz.f5 (OpenSpec.ofChange Rows.ratioSumsSpec) false w args) (Rows.ratioSumsSpec.post enc Tryz.prog Tryz.f5 false true false false) := by
 refine returnsInHanded_of_change_and (C := Tryz.checked) (X := fun w _ => laidMetH Tryz.prog laid1 w) (fun _ _ _ hh h => h.of_heap hh) own started (by kernel_rfl) Tryz.func5
  (ChangeSpec.witness_shaped (enc := enc) (C := Tryz.checked) (os := os) (X := fun w _ => laidMetH Tryz.prog laid1 w) false (startW os) #[.agg #[.bool false,.slice none 0 0,.slice none 0 0],.agg #[.bool false,.slice none 0 0,.slice none 0 0]] 8 rfl (World.shaped_of_RefB (by kernel_rfl) (by kernel_rfl)) (by kernel_rfl) (by kernel_rfl) (by kernel_rfl) (start_met os _)) ?_
 intro W base args ds gs before hval0 hW _ _ hL _
 have hval : ∀ (j : Nat) t v,Tryz.f5.params[j]? = some t → args[j]? = some v → Value.okWide Tryz.prog W .any base t v := hval0
 have hW' := hW
 obtain ⟨p,q,hA0,hV,rfl,hfz,hnd⟩ := hW
 have hA : DataW.TrodAll enc Tryz.prog W 0 (fun _ => true) true Tryz.f5.params.toList args.toList ds p := hA0
 rw [Tryz.params5] at hA hval
 obtain ⟨v0,vs0,d0,ds0,p0,q0,hargs,rfl,rfl,h0,r0⟩ := trodAll_cons hA
 obtain ⟨v1,vs1,d1,ds1,p1,q1,rfl,rfl,rfl,h1,r1⟩ := trodAll_cons r0
 obtain ⟨rfl,rfl,rfl⟩ := trodAll_nil r1
 obtain rfl : args = #[v0,v1] := by cases args; simp_all
 obtain ⟨rfl,rfl⟩ := trodVars_none hV
 have k0 := h0
 have lt0 : ∀ x ∈ p0,x.block < W.heap.size := by obtain ⟨m,hm⟩ := k0; exact DataW.trod_lt m _ _ _ hm
 obtain ⟨neg0,ao0,n0,c0,bo0,m0,d0,f0,g0,rfl,w0,x0⟩ := open_wrat (hval 0 27 v0 rfl rfl) h0
 have k1 := h1
 have lt1 : ∀ x ∈ p1,x.block < W.heap.size := by obtain ⟨m,hm⟩ := k1; exact DataW.trod_lt m _ _ _ hm
 obtain ⟨neg1,ao1,n1,c1,bo1,m1,d1,f1,g1,rfl,w1,x1⟩ := open_wrat (hval 1 27 v1 rfl rfl) h1
 clear hA0 hval0
 refine (walk _ _ _ _ _ _ _ _ _ _ _ _ _ _ _ _ _ _ W w0 x0 w1 x1 (tab_of hL)).mono fun e W' ⟨he,bel⟩ => ?_
 subst he
 exact ⟨_,rfl,_,_,_,[],_,[],hW',trodAll_mk1 (shut_bool Tryz.underlying4 _),(trodAll_cons_mk (Below.trod laidOut (by kernel_rfl) (of_decide_eq_true (by kernel_rfl)) k0 bel lt0) (trodAll_cons_mk (Below.trod laidOut (by kernel_rfl) (of_decide_eq_true (by kernel_rfl)) k1 bel lt1) trodAll_mk0)),rfl,bel.frame _,fun h => by cases h⟩

theorem over : Rows.ratioSumsRow.holds Tryz.pinned (OpenSpec.ofChange Rows.ratioSumsSpec) :=
 OpenClaim.holds_of_wide 5 Tryz.f5 rfl rfl rfl rfl rfl rfl rfl ⟨rfl,rfl,rfl,rfl,rfl⟩ rfl rfl rfl rfl rfl (by kernel_rfl) Tryz.func5 (by kernel_rfl)
  (of_decide_eq_true (by kernel_rfl)) (by unfold Func.isWrapper; first | (rw [if_pos (by decide +kernel)]; kernel_rfl) | (rw [if_neg (by decide +kernel)]; exact ⟨rfl,rfl⟩))
  (fun os started H enc _ => lifted os started H enc)

end Go.Proofs.YtjfacmeeplalkaaGreatDoor.ratioSums
namespace Go.Proofs.YtjfacmeeplalkaaGreatDoor
/-- The statement: the row, tied to the text of the program. -/
theorem ratioSums_holds : Rows.RatioSumsCardSaid :=
 Claim7.holds_tied_plain_at .later [] [.data] true (true,"3b39c0c979b75c43741f66fe93b6bee77f2a65889754686cff497ad8f0c2d54c") false
  ratioSums.over (fun _ h => by cases h) (by kernel_rfl) (fun _ h => by cases h) ratioSums_row_tie rfl ⟨rfl,rfl⟩ (by kernel_rfl) rfl
  (fun f fn hf hfn => by
   obtain rfl : f = 5 := Option.some.inj ((show Tryz.prog.funcNamed "dendron/dendronlaw03.RatioSums" = some 5 by kernel_rfl).symm.trans hf) |>.symm
   obtain rfl : fn = Tryz.f5 := (Option.some.inj (Tryz.func5.symm.trans hfn)).symm
   exact ⟨by kernel_rfl,fun j t ht => by
    rw [Tryz.params5] at ht
    have hm : t ∈ [27,27] := by simpa using Array.mem_of_getElem? ht
    have hall : ([27,27].all fun u => !Tryz.prog.wantsStandIn u) = true := by kernel_rfl
    exact (show Tryz.prog.wantsStandIn t = false by simpa using List.all_eq_true.1 hall t hm)⟩)
  (by kernel_rfl)
end Go.Proofs.YtjfacmeeplalkaaGreatDoor
