/-
 Proves that Floor,Ceil and Round answer the whole numbers next to any number of up to 8 limbs above and below,and the nearest,the even one of two (the statement RatioRounds,its tied card); the table of math/bits lies as the program's text lays it; no other condition.
-/
import Derived.Test.YtjfacmeeplalkaaGreatDoorJb0ddd6a68b
import Derived.Test.YtjfacmeeplalkaaGreatDoorRows
import Derived.Test.YtjfacmeeplalkaaGreatDoorJd4b85d0cd2
import Derived.WalkKit
import Derived.ProofKit
import Derived.OpenShut
import Derived.ShutString
import Derived.ChangeOld
import Derived.Below
import Derived.Test.YtjfacmeeplalkaaGreatDoorTie
import Derived.Test.YtjfacmeeplalkaaGreatDoorCards
import Derived.LaidByTextLater
import Derived.LaidHandle
import Derived.Lib.LaidTab
import Derived.SevenTiedAt
namespace Go.Proofs.YtjfacmeeplalkaaGreatDoor.ratioRounds
open Go.ChangeShapes Go.WideShapes Go.ChangeAt Go.RowKit
open Go.ChangeMaps (open_string shut_string)
set_option linter.unusedVariables false
set_option linter.unusedSimpArgs false

set_option linter.unusedSimpArgs false
theorem cmpQ_low (a b : Rat) : (cmpQ a b > 0 ↔ b < a) ∧ (b ≤ a → cmpQ a b ≥ 0) := by
 unfold cmpQ
 by_cases h1 : a < b
 ·rw [if_pos h1]; exact ⟨⟨fun h => by omega,fun h => absurd (Rat.le_of_lt h1) (Rat.not_le.2 h)⟩,fun h => absurd h1 (Rat.not_lt.2 h)⟩
 ·rw [if_neg h1]
  by_cases h2 : b < a
  ·rw [if_pos h2]; exact ⟨⟨fun _ => h2,fun _ => by omega⟩,fun _ => by omega⟩
  ·rw [if_neg h2]; exact ⟨⟨fun h => by omega,fun h => absurd h h2⟩,fun _ => by omega⟩
theorem cmpQ_high (a b : Rat) : (cmpQ a b < 0 ↔ a < b) ∧ (a ≤ b → cmpQ a b ≤ 0) := by
 unfold cmpQ
 by_cases h1 : a < b
 ·rw [if_pos h1]; exact ⟨⟨fun _ => h1,fun _ => by omega⟩,fun _ => by omega⟩
 ·rw [if_neg h1]
  by_cases h2 : b < a
  ·rw [if_pos h2]; exact ⟨⟨fun h => by omega,fun h => absurd h h1⟩,fun h => absurd h2 (Rat.not_lt.2 h)⟩
  ·rw [if_neg h2]; exact ⟨⟨fun h => by omega,fun h => absurd h h1⟩,fun _ => by omega⟩
set_option maxRecDepth 100000 in
set_option maxHeartbeats 16000000 in
theorem walk (p : Bool) (ao0 : Option Addr) (n0 c0 : Nat) (bo0 : Option Addr) (m0 d0 : Nat) (f g : Nat → Int) (w : World) (ha1 : Raw w (.slice ao0 n0 c0) n0 f) (ha2 : Raw w (.slice bo0 m0 d0) m0 g) (ht : Tab w) :
  Calls Tryz.prog 7 #[.agg #[.bool p,.slice ao0 n0 c0,.slice bo0 m0 d0]] w fun e w' => e = .returned (.bool true) ∧ Below w.heap.size w w' := by
 have BB : Below w.heap.size w w := Below.refl _ _
 obtain ⟨Wb0,hW0,hS0,hL0,VA⟩ := V3.lay w 27 (.bool p) (.slice ao0 n0 c0) (.slice bo0 m0 d0)
 replace ha1 := ha1.below hL0
 replace ha2 := ha2.below hL0
 replace ht := ht.below hL0
 replace BB := BB.trans (hL0.mono BB.size)
 clear hL0
 go_enter Tryz.func7,Tryz.ntmps7
 go_wp2_with fail
 rw [← hW0]
 clear hW0 hS0
 refine (few_at _ _ _ _ _ _ _ _ ha1 ha2).mono ?_
 rintro e w1 ⟨ao,c,bo,d,rfl,u1,u2,u3,u4,b1⟩
 replace ha1 := ha1.below b1
 replace ha2 := ha2.below b1
 replace ht := ht.below b1
 replace VA := VA.below b1
 replace BB := BB.trans (b1.mono BB.size)
 clear b1
 have k1 : min n0 8 ≤ 8 := Nat.min_le_right _ _
 have k2 : min m0 8 ≤ 8 := Nat.min_le_right _ _
 generalize min n0 8 = n at *
 generalize min m0 8 = m at *
 clear ha1 ha2
 have hKp := VA.keepJ (.bool p) (.slice ao n c) (.slice bo m d)
 have VA_n := VA.same (.bool p) (.slice ao n c) (.slice bo m d)
 have ht_n := ht.keep hKp
 have u1_n := u1.keep hKp
 have u3_n := u3.keep hKp
 have BB_n := below_store3 (R := w.heap.size) BB (by omega) (.bool p) (.slice ao n c) (.slice bo m d)
 clear hKp
 obtain ⟨VA_0,VA_1,VA_2,VA_3,VA_4,VA_5⟩ := id VA
 go_wp2_with fail
 clear VA_0 VA_1 VA_2 VA_3 VA_4 VA_5
 clear BB ht u1 u3 VA
 generalize ((w1.setCell ⟨w.heap.size,0,none⟩ (.bool p)).setCell ⟨w.heap.size,1,none⟩ (.slice ao n c)).setCell ⟨w.heap.size,2,none⟩ (.slice bo m d) = W1 at *
 have BB := BB_n
 have ht := ht_n
 have u1 := u1_n
 have u3 := u3_n
 have VA := VA_n
 clear BB_n ht_n u1_n u3_n VA_n
 have Ix : RatAt W1 _ _ 8 := RatAt.raw (p := p) u1 u2 u3 u4 k1 k2
 clear u1 u3
 generalize mkRat (zof p (num f n)) (num g m) = q at *
 have sq := Ix.qsz (by omega)
 have HN : Hid _ := round_near q
 have lf : nl W32 q.floor.natAbs ≤ 1000 := Nat.le_trans (qsz_floor q sq) (by omega)
 have lc : nl W32 (-((-q).floor)).natAbs ≤ 1000 := by rw [Int.natAbs_neg]; exact Nat.le_trans (qsz_floor (-q) (by rw [qsz_neg]; exact sq)) (by omega)
 have lr : nl W32 (roundQ q).natAbs ≤ 10 := nl_round q sq (by omega)
 have lr2 : nl W32 (roundQ q).natAbs ≤ 1000 := by omega
 have l5 : nl W32 ((2 : Int)).natAbs ≤ 1000 := Nat.le_trans ((nl_two 2).2 (by omega)) (by omega)
 refine (jfrom_at _ q 8 _ Ix (by omega) (by omega)).mono ?_
 rintro e w2 ⟨vx,rfl,Jx,b2⟩
 replace ht := ht.below b2
 replace Ix := Ix.below b2
 replace VA := VA.below b2
 replace BB := BB.trans (b2.mono BB.size)
 clear b2
 obtain ⟨px,ax,nx,cx,bx,mx,dx,rfl⟩ := Jx.open
 have hZ2 : w.heap.size ≤ w2.heap.size := BB.size
 have hN2VA : w.heap.size ≠ w2.heap.size := Nat.ne_of_lt VA.lt
 obtain ⟨W2,hW2,hS2,hL2,VX⟩ := V3.lay w2 34 (.bool px) (.slice ax nx cx) (.slice bx mx dx)
 replace ht := ht.below hL2
 replace Ix := Ix.below hL2
 replace Jx := Jx.below hL2
 replace VA := VA.below hL2
 replace BB := BB.trans (hL2.mono BB.size)
 clear hL2
 obtain ⟨VA_0,VA_1,VA_2,VA_3,VA_4,VA_5⟩ := id VA
 rw [hW2] at VA_0 VA_1 VA_2 VA_3 VA_4 VA_5
 go_wp2_with fail
 clear VA_0 VA_1 VA_2 VA_3 VA_4 VA_5
 rw [← hW2]
 generalize w2.heap.size = R2 at *
 clear hW2 hS2
 refine (jfloor_at _ q 8 _ Jx (by omega)).mono ?_
 rintro e w3 ⟨vf,rfl,Jf,b3⟩
 replace ht := ht.below b3
 replace Ix := Ix.below b3
 replace Jx := Jx.below b3
 replace VA := VA.below b3
 replace VX := VX.below b3
 replace BB := BB.trans (b3.mono BB.size)
 clear b3
 obtain ⟨pf,af,nf,cf,rfl⟩ := Jf.open
 have hZ3 : w.heap.size ≤ w3.heap.size := BB.size
 have hN3VA : w.heap.size ≠ w3.heap.size := Nat.ne_of_lt VA.lt
 have hN3VX : R2 ≠ w3.heap.size := Nat.ne_of_lt VX.lt
 obtain ⟨W3,hW3,hS3,hL3,VF⟩ := V2.lay w3 32 (.bool pf) (.slice af nf cf)
 replace ht := ht.below hL3
 replace Ix := Ix.below hL3
 replace Jx := Jx.below hL3
 replace Jf := Jf.below hL3
 replace VA := VA.below hL3
 replace VX := VX.below hL3
 replace BB := BB.trans (hL3.mono BB.size)
 clear hL3
 obtain ⟨VX_0,VX_1,VX_2,VX_3,VX_4,VX_5⟩ := id VX
 rw [hW3] at VX_0 VX_1 VX_2 VX_3 VX_4 VX_5
 go_wp2_with fail
 clear VX_0 VX_1 VX_2 VX_3 VX_4 VX_5
 rw [← hW3]
 generalize w3.heap.size = R3 at *
 clear hW3 hS3
 refine (jminus_at _ q 8 _ Jx (by omega)).mono ?_
 rintro e w4 ⟨vm,rfl,Jm,b4⟩
 replace ht := ht.below b4
 replace Ix := Ix.below b4
 replace Jx := Jx.below b4
 replace Jf := Jf.below b4
 replace VA := VA.below b4
 replace VX := VX.below b4
 replace VF := VF.below b4
 replace BB := BB.trans (b4.mono BB.size)
 clear b4
 go_wp2_with fail
 refine (jfloor_at _ (-q) 8 _ Jm (by omega)).mono ?_
 rintro e w5 ⟨vg,rfl,Jg,b5⟩
 replace ht := ht.below b5
 replace Ix := Ix.below b5
 replace Jx := Jx.below b5
 replace Jf := Jf.below b5
 replace Jm := Jm.below b5
 replace VA := VA.below b5
 replace VX := VX.below b5
 replace VF := VF.below b5
 replace BB := BB.trans (b5.mono BB.size)
 clear b5
 go_wp2_with fail
 refine (rminus_any _ _ _ Jg).mono ?_
 rintro e w6 ⟨vc,rfl,Jc,b6⟩
 replace ht := ht.below b6
 replace Ix := Ix.below b6
 replace Jx := Jx.below b6
 replace Jf := Jf.below b6
 replace Jm := Jm.below b6
 replace Jg := Jg.below b6
 replace VA := VA.below b6
 replace VX := VX.below b6
 replace VF := VF.below b6
 replace BB := BB.trans (b6.mono BB.size)
 clear b6
 obtain ⟨pc,ac,nc,cc,rfl⟩ := Jc.open
 clear Jm Jg
 have hZ4 : w.heap.size ≤ w6.heap.size := BB.size
 have hN4VA : w.heap.size ≠ w6.heap.size := Nat.ne_of_lt VA.lt
 have hN4VX : R2 ≠ w6.heap.size := Nat.ne_of_lt VX.lt
 have hN4VF : R3 ≠ w6.heap.size := Nat.ne_of_lt VF.lt
 obtain ⟨W4,hW4,hS4,hL4,VC⟩ := V2.lay w6 32 (.bool pc) (.slice ac nc cc)
 replace ht := ht.below hL4
 replace Ix := Ix.below hL4
 replace Jx := Jx.below hL4
 replace Jf := Jf.below hL4
 replace Jc := Jc.below hL4
 replace VA := VA.below hL4
 replace VX := VX.below hL4
 replace VF := VF.below hL4
 replace BB := BB.trans (hL4.mono BB.size)
 clear hL4
 obtain ⟨VA_0,VA_1,VA_2,VA_3,VA_4,VA_5⟩ := id VA
 rw [hW4] at VA_0 VA_1 VA_2 VA_3 VA_4 VA_5
 go_wp2_with fail
 clear VA_0 VA_1 VA_2 VA_3 VA_4 VA_5
 rw [← hW4]
 generalize w6.heap.size = R4 at *
 clear hW4 hS4
 refine (qround_at _ q 8 _ Ix (by omega) (by omega)).mono ?_
 rintro e w7 ⟨vr,rfl,Hr,b7⟩
 replace ht := ht.below b7
 replace Ix := Ix.below b7
 replace Jx := Jx.below b7
 replace Jf := Jf.below b7
 replace Jc := Jc.below b7
 replace VA := VA.below b7
 replace VX := VX.below b7
 replace VF := VF.below b7
 replace VC := VC.below b7
 replace BB := BB.trans (b7.mono BB.size)
 clear b7
 go_wp2_with fail
 refine (rfrom_any _ (roundQ q) 10 _ (Hr.at 10 lr) (by omega)).mono ?_
 rintro e w8 ⟨vt,rfl,Jt,b8⟩
 replace ht := ht.below b8
 replace Ix := Ix.below b8
 replace Jx := Jx.below b8
 replace Jf := Jf.below b8
 replace Jc := Jc.below b8
 replace Hr := Hr.below b8
 replace VA := VA.below b8
 replace VX := VX.below b8
 replace VF := VF.below b8
 replace VC := VC.below b8
 replace BB := BB.trans (b8.mono BB.size)
 clear b8
 obtain ⟨pt,at_,nt,ct,rfl⟩ := Jt.open
 clear Hr
 have hZ5 : w.heap.size ≤ w8.heap.size := BB.size
 have hN5VA : w.heap.size ≠ w8.heap.size := Nat.ne_of_lt VA.lt
 have hN5VX : R2 ≠ w8.heap.size := Nat.ne_of_lt VX.lt
 have hN5VF : R3 ≠ w8.heap.size := Nat.ne_of_lt VF.lt
 have hN5VC : R4 ≠ w8.heap.size := Nat.ne_of_lt VC.lt
 obtain ⟨W5,hW5,hS5,hL5,VT⟩ := V2.lay w8 32 (.bool pt) (.slice at_ nt ct)
 replace ht := ht.below hL5
 replace Ix := Ix.below hL5
 replace Jx := Jx.below hL5
 replace Jf := Jf.below hL5
 replace Jc := Jc.below hL5
 replace Jt := Jt.below hL5
 replace VA := VA.below hL5
 replace VX := VX.below hL5
 replace VF := VF.below hL5
 replace VC := VC.below hL5
 replace BB := BB.trans (hL5.mono BB.size)
 clear hL5
 go_wp2
 rw [← hW5]
 generalize w8.heap.size = R5 at *
 clear hW5 hS5
 generalize roundQ q = r at *
 go_cut [7] from 26 (fun s7 wc => ∃ (RG : Nat) (pg : Bool) (ag : Option Addr) (ng cg : Nat) (bg : Option Addr) (mg dg_ : Nat),s7 = .pointer (some ⟨RG,0,none⟩) ∧ W5.heap.size ≤ RG ∧ V3 wc RG (.bool pg) (.slice ag ng cg) (.slice bg mg dg_) ∧ DocQ wc (.agg #[.bool pg,.slice ag ng cg,.slice bg mg dg_]) (q + -(r : Rat)) 20 ∧ Below W5.heap.size W5 wc)
 case first =>
  clear ht Ix Jf Jc VA VF VC BB
  have BB : Below W5.heap.size W5 W5 := Below.refl _ _
  have hDr : Below W5.heap.size W5 W5.drew := (Below.refl _ _).drew
  replace Jx := Jx.below hDr
  replace Jt := Jt.below hDr
  replace VX := VX.below hDr
  replace VT := VT.below hDr
  replace BB := BB.trans (hDr.mono BB.size)
  clear hDr
  refine wp_region_held_drew (S := (fun w' => w'.cell? ⟨R2,0,none⟩ = some (.bool px) ∧ w'.cell? ⟨R2,1,none⟩ = some (.slice ax nx cx) ∧ w'.cell? ⟨R2,2,none⟩ = some (.slice bx mx dx) ∧ w'.cell? ⟨R5,0,none⟩ = some (.bool pt) ∧ w'.cell? ⟨R5,1,none⟩ = some (.slice at_ nt ct))) (by kernel_rfl) ?_ (fun hHeld => ?_)
  ·exact ⟨VX.1,VX.2.1,VX.2.2.1,VT.1,VT.2.1⟩
  generalize W5.drew = W6 at *
  refine xT 0 (v := ?_) (hy := Or.inl ⟨by rfl,?_⟩) (h := ?_)
  rotate_left
  ·(intro w hSw; (try dsimp only at hSw); go_simp; (try with_reducible rfl))
  (try simp only [Act.put,xL4,xL5,xL6])
  refine xT 1 (v := ?_) (hy := Or.inl ⟨by rfl,?_⟩) (h := ?_)
  rotate_left
  ·(intro w hSw; (try dsimp only at hSw); go_simp; (try with_reducible rfl))
  (try simp only [Act.put,xL4,xL5,xL6])
  refine xR [2,5] (h := ?_)
  refine xC (h := fun K hK => ?_) (hs := ?_)
  ·
   go_simp
   refine (jwhole_at _ r 10 _ Jt lr (by omega)).mono ?_
   rintro e w9 ⟨e1,rfl,g1,b9⟩
   go_wp2_with fail
   replace Jx := Jx.below b9
   replace Jt := Jt.below b9
   replace VX := VX.below b9
   replace VT := VT.below b9
   replace BB := BB.trans (b9.mono BB.size)
   clear b9
   refine hK.out _ _ ?_ (fun hH1 => ?_)
   ·exact ⟨VX.1,VX.2.1,VX.2.2.1,VT.1,VT.2.1⟩
   clear hK K hHeld
   (try simp only [Act.put,xL4,xL5,xL6])
   refine xR [3,5] (h := ?_)
   refine xC (h := fun K hK => ?_) (hs := ?_)
   ·
    go_simp
    refine (jminus_at _ (r : Rat) 10 _ g1 (by omega)).mono ?_
    rintro e w10 ⟨e2,rfl,g2,b10⟩
    go_wp2_with fail
    replace Jx := Jx.below b10
    replace Jt := Jt.below b10
    replace g1 := g1.below b10
    replace VX := VX.below b10
    replace VT := VT.below b10
    replace BB := BB.trans (b10.mono BB.size)
    clear b10
    refine hK.out _ _ ?_ (fun hH2 => ?_)
    ·exact ⟨VX.1,VX.2.1,VX.2.2.1,VT.1,VT.2.1⟩
    clear hK K hH1
    (try simp only [Act.put,xL4,xL5,xL6])
    refine xR [4,5] (h := ?_)
    refine xC (h := fun K hK => ?_) (hs := ?_)
    ·
     go_simp
     refine (jplus_at _ _ q (-(r : Rat)) 8 10 _ Jx g2 (by omega)).mono ?_
     rintro e w11 ⟨e3,rfl,g3,b11⟩
     obtain ⟨pg,ag,ng,cg,bg,mg,dg_,rfl⟩ := g3.open
     go_wp2_with fail
     replace Jx := Jx.below b11
     replace Jt := Jt.below b11
     replace g1 := g1.below b11
     replace g2 := g2.below b11
     replace VX := VX.below b11
     replace VT := VT.below b11
     replace BB := BB.trans (b11.mono BB.size)
     clear b11
     refine hK.out _ _ ?_ (fun hH3 => ?_)
     ·exact ⟨VX.1,VX.2.1,VX.2.2.1,VT.1,VT.2.1⟩
     clear hK K hH2
     (try simp only [Act.put,xL4,xL5,xL6])
     refine xR [5] (h := ?_)
     refine xN (h := fun K hK => ?_)
     go_simp
     have hZ7 : W5.heap.size ≤ w11.heap.size := BB.size
     have hN7VX : R2 ≠ w11.heap.size := Nat.ne_of_lt VX.lt
     have hN7VT : R5 ≠ w11.heap.size := Nat.ne_of_lt VT.lt
     obtain ⟨W7,hW7,hS7,hL7,VG⟩ := V3.lay w11 34 (.bool false) (.slice none 0 0) (.slice none 0 0)
     replace Jx := Jx.below hL7
     replace Jt := Jt.below hL7
     replace g1 := g1.below hL7
     replace g2 := g2.below hL7
     replace g3 := g3.below hL7
     replace VX := VX.below hL7
     replace VT := VT.below hL7
     replace BB := BB.trans (hL7.mono BB.size)
     clear hL7
     rw [← hW7]
     generalize w11.heap.size = R7 at *
     clear hW7 hS7
     refine hK.out _ _ ?_ (fun hH4 => ?_)
     ·exact ⟨VX.1,VX.2.1,VX.2.2.1,VT.1,VT.2.1⟩
     clear hK K hH3
     (try simp only [Act.put,xL4,xL5,xL6])
     refine xR [6] (h := ?_)
     refine xN (h := fun K hK => ?_)
     have hKp := VG.keepJ (.bool pg) (.slice ag ng cg) (.slice bg mg dg_)
     have VX_n := VX.other3 (R := R7) (by omega) (.bool pg) (.slice ag ng cg) (.slice bg mg dg_)
     have VT_n := VT.other3 (R := R7) (by omega) (.bool pg) (.slice ag ng cg) (.slice bg mg dg_)
     have VG_n := VG.same (.bool pg) (.slice ag ng cg) (.slice bg mg dg_)
     have Jx_n := Jx.keep hKp
     have Jt_n := Jt.keep hKp
     have g1_n := g1.keep hKp
     have g2_n := g2.keep hKp
     have g3_n := g3.keep hKp
     have BB_n := below_store3 (R := R7) BB (by omega) (.bool pg) (.slice ag ng cg) (.slice bg mg dg_)
     clear hKp
     obtain ⟨VG_0,VG_1,VG_2,VG_3,VG_4,VG_5⟩ := id VG
     go_simp
     clear VG_0 VG_1 VG_2 VG_3 VG_4 VG_5
     clear BB Jx Jt g1 g2 g3 VX VT VG
     generalize ((W7.setCell ⟨R7,0,none⟩ (.bool pg)).setCell ⟨R7,1,none⟩ (.slice ag ng cg)).setCell ⟨R7,2,none⟩ (.slice bg mg dg_) = W8 at *
     have BB := BB_n
     have Jx := Jx_n
     have Jt := Jt_n
     have g1 := g1_n
     have g2 := g2_n
     have g3 := g3_n
     have VX := VX_n
     have VT := VT_n
     have VG := VG_n
     clear BB_n Jx_n Jt_n g1_n g2_n g3_n VX_n VT_n VG_n
     refine hK.out _ _ ?_ (fun hH5 => ?_)
     ·exact ⟨VX.1,VX.2.1,VX.2.2.1,VT.1,VT.2.1⟩
     clear hK K hH4
     (try simp only [Act.put,xL4,xL5,xL6])
     refine wpAnyH_done (by kernel_rfl) ?_ _
     clear hH5
     go_wp2_with fail
     go_meet
     exact ⟨R7,pg,ag,ng,cg,bg,mg,dg_,rfl,by omega,VG,g3.le (by omega),BB⟩
    refine xC (h := fun K hK => ?_) (hs := ?_)
    ·
     go_simp
     have hZ9 : W5.heap.size ≤ w10.heap.size := BB.size
     have hN9VX : R2 ≠ w10.heap.size := Nat.ne_of_lt VX.lt
     have hN9VT : R5 ≠ w10.heap.size := Nat.ne_of_lt VT.lt
     obtain ⟨W9,hW9,hS9,hL9,VG⟩ := V3.lay w10 34 (.bool false) (.slice none 0 0) (.slice none 0 0)
     replace Jx := Jx.below hL9
     replace Jt := Jt.below hL9
     replace g1 := g1.below hL9
     replace g2 := g2.below hL9
     replace VX := VX.below hL9
     replace VT := VT.below hL9
     replace BB := BB.trans (hL9.mono BB.size)
     clear hL9
     rw [← hW9]
     generalize w10.heap.size = R9 at *
     clear hW9 hS9
     refine hK.out _ _ ?_ (fun hH3 => ?_)
     ·exact ⟨VX.1,VX.2.1,VX.2.2.1,VT.1,VT.2.1⟩
     clear hK K hH2
     (try simp only [Act.put,xL4,xL5,xL6])
     refine xR [4] (h := ?_)
     refine xN (h := fun K hK => ?_)
     go_simp
     refine (jplus_at _ _ q (-(r : Rat)) 8 10 _ Jx g2 (by omega)).mono ?_
     rintro e w12 ⟨e3,rfl,g3,b12⟩
     obtain ⟨pg,ag,ng,cg,bg,mg,dg_,rfl⟩ := g3.open
     go_wp2_with fail
     replace Jx := Jx.below b12
     replace Jt := Jt.below b12
     replace g1 := g1.below b12
     replace g2 := g2.below b12
     replace VX := VX.below b12
     replace VT := VT.below b12
     replace VG := VG.below b12
     replace BB := BB.trans (b12.mono BB.size)
     clear b12
     refine hK.out _ _ ?_ (fun hH4 => ?_)
     ·exact ⟨VX.1,VX.2.1,VX.2.2.1,VT.1,VT.2.1⟩
     clear hK K hH3
     (try simp only [Act.put,xL4,xL5,xL6])
     refine xR [6] (h := ?_)
     refine xN (h := fun K hK => ?_)
     have hKp := VG.keepJ (.bool pg) (.slice ag ng cg) (.slice bg mg dg_)
     have VX_n := VX.other3 (R := R9) (by omega) (.bool pg) (.slice ag ng cg) (.slice bg mg dg_)
     have VT_n := VT.other3 (R := R9) (by omega) (.bool pg) (.slice ag ng cg) (.slice bg mg dg_)
     have VG_n := VG.same (.bool pg) (.slice ag ng cg) (.slice bg mg dg_)
     have Jx_n := Jx.keep hKp
     have Jt_n := Jt.keep hKp
     have g1_n := g1.keep hKp
     have g2_n := g2.keep hKp
     have g3_n := g3.keep hKp
     have BB_n := below_store3 (R := R9) BB (by omega) (.bool pg) (.slice ag ng cg) (.slice bg mg dg_)
     clear hKp
     obtain ⟨VG_0,VG_1,VG_2,VG_3,VG_4,VG_5⟩ := id VG
     go_simp
     clear VG_0 VG_1 VG_2 VG_3 VG_4 VG_5
     clear BB Jx Jt g1 g2 g3 VX VT VG
     generalize ((w12.setCell ⟨R9,0,none⟩ (.bool pg)).setCell ⟨R9,1,none⟩ (.slice ag ng cg)).setCell ⟨R9,2,none⟩ (.slice bg mg dg_) = W10 at *
     have BB := BB_n
     have Jx := Jx_n
     have Jt := Jt_n
     have g1 := g1_n
     have g2 := g2_n
     have g3 := g3_n
     have VX := VX_n
     have VT := VT_n
     have VG := VG_n
     clear BB_n Jx_n Jt_n g1_n g2_n g3_n VX_n VT_n VG_n
     refine hK.out _ _ ?_ (fun hH5 => ?_)
     ·exact ⟨VX.1,VX.2.1,VX.2.2.1,VT.1,VT.2.1⟩
     clear hK K hH4
     (try simp only [Act.put,xL4,xL5,xL6])
     refine wpAnyH_done (by kernel_rfl) ?_ _
     clear hH5
     go_wp2_with fail
     go_meet
     exact ⟨R9,pg,ag,ng,cg,bg,mg,dg_,rfl,by omega,VG,g3.le (by omega),BB⟩
    exact AllReadyH.nil
   refine xC (h := fun K hK => ?_) (hs := ?_)
   ·
    go_simp
    have hZ11 : W5.heap.size ≤ w9.heap.size := BB.size
    have hN11VX : R2 ≠ w9.heap.size := Nat.ne_of_lt VX.lt
    have hN11VT : R5 ≠ w9.heap.size := Nat.ne_of_lt VT.lt
    obtain ⟨W11,hW11,hS11,hL11,VG⟩ := V3.lay w9 34 (.bool false) (.slice none 0 0) (.slice none 0 0)
    replace Jx := Jx.below hL11
    replace Jt := Jt.below hL11
    replace g1 := g1.below hL11
    replace VX := VX.below hL11
    replace VT := VT.below hL11
    replace BB := BB.trans (hL11.mono BB.size)
    clear hL11
    rw [← hW11]
    generalize w9.heap.size = R11 at *
    clear hW11 hS11
    refine hK.out _ _ ?_ (fun hH2 => ?_)
    ·exact ⟨VX.1,VX.2.1,VX.2.2.1,VT.1,VT.2.1⟩
    clear hK K hH1
    (try simp only [Act.put,xL4,xL5,xL6])
    refine xR [3] (h := ?_)
    refine xN (h := fun K hK => ?_)
    go_simp
    refine (jminus_at _ (r : Rat) 10 _ g1 (by omega)).mono ?_
    rintro e w13 ⟨e2,rfl,g2,b13⟩
    go_wp2_with fail
    replace Jx := Jx.below b13
    replace Jt := Jt.below b13
    replace g1 := g1.below b13
    replace VX := VX.below b13
    replace VT := VT.below b13
    replace VG := VG.below b13
    replace BB := BB.trans (b13.mono BB.size)
    clear b13
    refine hK.out _ _ ?_ (fun hH3 => ?_)
    ·exact ⟨VX.1,VX.2.1,VX.2.2.1,VT.1,VT.2.1⟩
    clear hK K hH2
    (try simp only [Act.put,xL4,xL5,xL6])
    refine xR [4] (h := ?_)
    refine xN (h := fun K hK => ?_)
    go_simp
    refine (jplus_at _ _ q (-(r : Rat)) 8 10 _ Jx g2 (by omega)).mono ?_
    rintro e w14 ⟨e3,rfl,g3,b14⟩
    obtain ⟨pg,ag,ng,cg,bg,mg,dg_,rfl⟩ := g3.open
    go_wp2_with fail
    replace Jx := Jx.below b14
    replace Jt := Jt.below b14
    replace g1 := g1.below b14
    replace g2 := g2.below b14
    replace VX := VX.below b14
    replace VT := VT.below b14
    replace VG := VG.below b14
    replace BB := BB.trans (b14.mono BB.size)
    clear b14
    refine hK.out _ _ ?_ (fun hH4 => ?_)
    ·exact ⟨VX.1,VX.2.1,VX.2.2.1,VT.1,VT.2.1⟩
    clear hK K hH3
    (try simp only [Act.put,xL4,xL5,xL6])
    refine xR [6] (h := ?_)
    refine xN (h := fun K hK => ?_)
    have hKp := VG.keepJ (.bool pg) (.slice ag ng cg) (.slice bg mg dg_)
    have VX_n := VX.other3 (R := R11) (by omega) (.bool pg) (.slice ag ng cg) (.slice bg mg dg_)
    have VT_n := VT.other3 (R := R11) (by omega) (.bool pg) (.slice ag ng cg) (.slice bg mg dg_)
    have VG_n := VG.same (.bool pg) (.slice ag ng cg) (.slice bg mg dg_)
    have Jx_n := Jx.keep hKp
    have Jt_n := Jt.keep hKp
    have g1_n := g1.keep hKp
    have g2_n := g2.keep hKp
    have g3_n := g3.keep hKp
    have BB_n := below_store3 (R := R11) BB (by omega) (.bool pg) (.slice ag ng cg) (.slice bg mg dg_)
    clear hKp
    obtain ⟨VG_0,VG_1,VG_2,VG_3,VG_4,VG_5⟩ := id VG
    go_simp
    clear VG_0 VG_1 VG_2 VG_3 VG_4 VG_5
    clear BB Jx Jt g1 g2 g3 VX VT VG
    generalize ((w14.setCell ⟨R11,0,none⟩ (.bool pg)).setCell ⟨R11,1,none⟩ (.slice ag ng cg)).setCell ⟨R11,2,none⟩ (.slice bg mg dg_) = W12 at *
    have BB := BB_n
    have Jx := Jx_n
    have Jt := Jt_n
    have g1 := g1_n
    have g2 := g2_n
    have g3 := g3_n
    have VX := VX_n
    have VT := VT_n
    have VG := VG_n
    clear BB_n Jx_n Jt_n g1_n g2_n g3_n VX_n VT_n VG_n
    refine hK.out _ _ ?_ (fun hH5 => ?_)
    ·exact ⟨VX.1,VX.2.1,VX.2.2.1,VT.1,VT.2.1⟩
    clear hK K hH4
    (try simp only [Act.put,xL4,xL5,xL6])
    refine wpAnyH_done (by kernel_rfl) ?_ _
    clear hH5
    go_wp2_with fail
    go_meet
    exact ⟨R11,pg,ag,ng,cg,bg,mg,dg_,rfl,by omega,VG,g3.le (by omega),BB⟩
   exact AllReadyH.nil
  refine xC (h := fun K hK => ?_) (hs := ?_)
  ·
   go_simp
   have hZ13 : W5.heap.size ≤ W6.heap.size := BB.size
   have hN13VX : R2 ≠ W6.heap.size := Nat.ne_of_lt VX.lt
   have hN13VT : R5 ≠ W6.heap.size := Nat.ne_of_lt VT.lt
   obtain ⟨W13,hW13,hS13,hL13,VG⟩ := V3.lay W6 34 (.bool false) (.slice none 0 0) (.slice none 0 0)
   replace Jx := Jx.below hL13
   replace Jt := Jt.below hL13
   replace VX := VX.below hL13
   replace VT := VT.below hL13
   replace BB := BB.trans (hL13.mono BB.size)
   clear hL13
   rw [← hW13]
   generalize W6.heap.size = R13 at *
   clear hW13 hS13
   refine hK.out _ _ ?_ (fun hH1 => ?_)
   ·exact ⟨VX.1,VX.2.1,VX.2.2.1,VT.1,VT.2.1⟩
   clear hK K hHeld
   (try simp only [Act.put,xL4,xL5,xL6])
   refine xR [2] (h := ?_)
   refine xN (h := fun K hK => ?_)
   go_simp
   refine (jwhole_at _ r 10 _ Jt lr (by omega)).mono ?_
   rintro e w15 ⟨e1,rfl,g1,b15⟩
   go_wp2_with fail
   replace Jx := Jx.below b15
   replace Jt := Jt.below b15
   replace VX := VX.below b15
   replace VT := VT.below b15
   replace VG := VG.below b15
   replace BB := BB.trans (b15.mono BB.size)
   clear b15
   refine hK.out _ _ ?_ (fun hH2 => ?_)
   ·exact ⟨VX.1,VX.2.1,VX.2.2.1,VT.1,VT.2.1⟩
   clear hK K hH1
   (try simp only [Act.put,xL4,xL5,xL6])
   refine xR [3] (h := ?_)
   refine xN (h := fun K hK => ?_)
   go_simp
   refine (jminus_at _ (r : Rat) 10 _ g1 (by omega)).mono ?_
   rintro e w16 ⟨e2,rfl,g2,b16⟩
   go_wp2_with fail
   replace Jx := Jx.below b16
   replace Jt := Jt.below b16
   replace g1 := g1.below b16
   replace VX := VX.below b16
   replace VT := VT.below b16
   replace VG := VG.below b16
   replace BB := BB.trans (b16.mono BB.size)
   clear b16
   refine hK.out _ _ ?_ (fun hH3 => ?_)
   ·exact ⟨VX.1,VX.2.1,VX.2.2.1,VT.1,VT.2.1⟩
   clear hK K hH2
   (try simp only [Act.put,xL4,xL5,xL6])
   refine xR [4] (h := ?_)
   refine xN (h := fun K hK => ?_)
   go_simp
   refine (jplus_at _ _ q (-(r : Rat)) 8 10 _ Jx g2 (by omega)).mono ?_
   rintro e w17 ⟨e3,rfl,g3,b17⟩
   obtain ⟨pg,ag,ng,cg,bg,mg,dg_,rfl⟩ := g3.open
   go_wp2_with fail
   replace Jx := Jx.below b17
   replace Jt := Jt.below b17
   replace g1 := g1.below b17
   replace g2 := g2.below b17
   replace VX := VX.below b17
   replace VT := VT.below b17
   replace VG := VG.below b17
   replace BB := BB.trans (b17.mono BB.size)
   clear b17
   refine hK.out _ _ ?_ (fun hH4 => ?_)
   ·exact ⟨VX.1,VX.2.1,VX.2.2.1,VT.1,VT.2.1⟩
   clear hK K hH3
   (try simp only [Act.put,xL4,xL5,xL6])
   refine xR [6] (h := ?_)
   refine xN (h := fun K hK => ?_)
   have hKp := VG.keepJ (.bool pg) (.slice ag ng cg) (.slice bg mg dg_)
   have VX_n := VX.other3 (R := R13) (by omega) (.bool pg) (.slice ag ng cg) (.slice bg mg dg_)
   have VT_n := VT.other3 (R := R13) (by omega) (.bool pg) (.slice ag ng cg) (.slice bg mg dg_)
   have VG_n := VG.same (.bool pg) (.slice ag ng cg) (.slice bg mg dg_)
   have Jx_n := Jx.keep hKp
   have Jt_n := Jt.keep hKp
   have g1_n := g1.keep hKp
   have g2_n := g2.keep hKp
   have g3_n := g3.keep hKp
   have BB_n := below_store3 (R := R13) BB (by omega) (.bool pg) (.slice ag ng cg) (.slice bg mg dg_)
   clear hKp
   obtain ⟨VG_0,VG_1,VG_2,VG_3,VG_4,VG_5⟩ := id VG
   go_simp
   clear VG_0 VG_1 VG_2 VG_3 VG_4 VG_5
   clear BB Jx Jt g1 g2 g3 VX VT VG
   generalize ((w17.setCell ⟨R13,0,none⟩ (.bool pg)).setCell ⟨R13,1,none⟩ (.slice ag ng cg)).setCell ⟨R13,2,none⟩ (.slice bg mg dg_) = W14 at *
   have BB := BB_n
   have Jx := Jx_n
   have Jt := Jt_n
   have g1 := g1_n
   have g2 := g2_n
   have g3 := g3_n
   have VX := VX_n
   have VT := VT_n
   have VG := VG_n
   clear BB_n Jx_n Jt_n g1_n g2_n g3_n VX_n VT_n VG_n
   refine hK.out _ _ ?_ (fun hH5 => ?_)
   ·exact ⟨VX.1,VX.2.1,VX.2.2.1,VT.1,VT.2.1⟩
   clear hK K hH4
   (try simp only [Act.put,xL4,xL5,xL6])
   refine wpAnyH_done (by kernel_rfl) ?_ _
   clear hH5
   go_wp2_with fail
   go_meet
   exact ⟨R13,pg,ag,ng,cg,bg,mg,dg_,rfl,by omega,VG,g3.le (by omega),BB⟩
  exact AllReadyH.nil
 case rest =>
  obtain ⟨RG,pg,ag,ng,cg,bg,mg,dg_,rfl,hRG,VG,JG,hbW⟩ := hcut
  have hlVA : w.heap.size < W5.heap.size := VA.lt
  have hlVX : R2 < W5.heap.size := VX.lt
  have hlVF : R3 < W5.heap.size := VF.lt
  have hlVC : R4 < W5.heap.size := VC.lt
  have hlVT : R5 < W5.heap.size := VT.lt
  replace ht := ht.below hbW
  replace Ix := Ix.below hbW
  replace Jx := Jx.below hbW
  replace Jf := Jf.below hbW
  replace Jc := Jc.below hbW
  replace Jt := Jt.below hbW
  replace VA := VA.below hbW
  replace VX := VX.below hbW
  replace VF := VF.below hbW
  replace VC := VC.below hbW
  replace VT := VT.below hbW
  replace BB := BB.trans (hbW.mono BB.size)
  clear hbW
  have cl := cmpQ_low (q + -(r : Rat)) (mkRat (-1) 2)
  have ch := cmpQ_high (q + -(r : Rat)) (mkRat 1 2)
  generalize hlo : cmpQ (q + -(r : Rat)) (mkRat (-1) 2) = lo_ at *
  generalize hhi : cmpQ (q + -(r : Rat)) (mkRat 1 2) = hi_ at *
  go_wp2
  have hDr : Below wc.heap.size wc wc.drew := (Below.refl _ _).drew
  replace ht := ht.below hDr
  replace Ix := Ix.below hDr
  replace Jx := Jx.below hDr
  replace Jf := Jf.below hDr
  replace Jc := Jc.below hDr
  replace Jt := Jt.below hDr
  replace JG := JG.below hDr
  replace VA := VA.below hDr
  replace VX := VX.below hDr
  replace VF := VF.below hDr
  replace VC := VC.below hDr
  replace VT := VT.below hDr
  replace VG := VG.below hDr
  replace BB := BB.trans (hDr.mono BB.size)
  clear hDr
  refine wp_region_held_drew (S := (fun w' => w'.cell? ⟨RG,0,none⟩ = some (.bool pg) ∧ w'.cell? ⟨RG,1,none⟩ = some (.slice ag ng cg) ∧ w'.cell? ⟨RG,2,none⟩ = some (.slice bg mg dg_))) (by kernel_rfl) ?_ (fun hHeld => ?_)
  ·exact ⟨VG.1,VG.2.1,VG.2.2.1⟩
  generalize wc.drew = W15 at *
  refine xT 0 (v := ?_) (hy := Or.inl ⟨by rfl,?_⟩) (h := ?_)
  rotate_left
  ·(intro w hSw; (try dsimp only at hSw); go_simp; (try with_reducible rfl))
  (try simp only [Act.put,xL4,xL5,xL6])
  refine xR [1] (h := ?_)
  refine xN (h := fun K hK => ?_)
  go_simp
  refine (jsmall_at (-1) 2 _ (by omega) (by omega) (by omega) (by omega)).mono ?_
  rintro e w18 ⟨t0,rfl,h0,b18⟩
  go_wp2_with fail
  replace ht := ht.below b18
  replace Ix := Ix.below b18
  replace Jx := Jx.below b18
  replace Jf := Jf.below b18
  replace Jc := Jc.below b18
  replace Jt := Jt.below b18
  replace JG := JG.below b18
  replace VA := VA.below b18
  replace VX := VX.below b18
  replace VF := VF.below b18
  replace VC := VC.below b18
  replace VT := VT.below b18
  replace VG := VG.below b18
  replace BB := BB.trans (b18.mono BB.size)
  clear b18
  refine hK.out _ _ ?_ (fun hH1 => ?_)
  ·exact ⟨VG.1,VG.2.1,VG.2.2.1⟩
  clear hK K hHeld
  (try simp only [Act.put,xL4,xL5,xL6])
  refine xR [2] (h := ?_)
  refine xN (h := fun K hK => ?_)
  go_simp
  refine (jorder_at _ _ (q + -(r : Rat)) (mkRat (-1) 2) 20 2 _ JG h0 (by omega)).mono ?_
  rintro e w19 ⟨rfl,b19⟩
  rw [hlo]
  go_wp2_with fail
  replace ht := ht.below b19
  replace Ix := Ix.below b19
  replace Jx := Jx.below b19
  replace Jf := Jf.below b19
  replace Jc := Jc.below b19
  replace Jt := Jt.below b19
  replace JG := JG.below b19
  replace h0 := h0.below b19
  replace VA := VA.below b19
  replace VX := VX.below b19
  replace VF := VF.below b19
  replace VC := VC.below b19
  replace VT := VT.below b19
  replace VG := VG.below b19
  replace BB := BB.trans (b19.mono BB.size)
  clear b19
  refine hK.out _ _ ?_ (fun hH2 => ?_)
  ·exact ⟨VG.1,VG.2.1,VG.2.2.1⟩
  clear hK K hH1
  (try simp only [Act.put,xL4,xL5,xL6])
  refine xT 3 (v := ?_) (hy := Or.inl ⟨by rfl,?_⟩) (h := ?_)
  rotate_left
  ·(intro w hSw; (try dsimp only at hSw); go_simp; (try with_reducible rfl))
  (try simp only [Act.put,xL4,xL5,xL6])
  refine wpAnyH_done (by kernel_rfl) ?_ _
  clear hH2
  clear h0
  go_wp2
  have hDr : Below w19.heap.size w19 w19.drew := (Below.refl _ _).drew
  replace ht := ht.below hDr
  replace Ix := Ix.below hDr
  replace Jx := Jx.below hDr
  replace Jf := Jf.below hDr
  replace Jc := Jc.below hDr
  replace Jt := Jt.below hDr
  replace JG := JG.below hDr
  replace VA := VA.below hDr
  replace VX := VX.below hDr
  replace VF := VF.below hDr
  replace VC := VC.below hDr
  replace VT := VT.below hDr
  replace VG := VG.below hDr
  replace BB := BB.trans (hDr.mono BB.size)
  clear hDr
  refine wp_region_held_drew (S := (fun w' => w'.cell? ⟨RG,0,none⟩ = some (.bool pg) ∧ w'.cell? ⟨RG,1,none⟩ = some (.slice ag ng cg) ∧ w'.cell? ⟨RG,2,none⟩ = some (.slice bg mg dg_))) (by kernel_rfl) ?_ (fun hHeld => ?_)
  ·exact ⟨VG.1,VG.2.1,VG.2.2.1⟩
  generalize w19.drew = W16 at *
  refine xT 0 (v := ?_) (hy := Or.inl ⟨by rfl,?_⟩) (h := ?_)
  rotate_left
  ·(intro w hSw; (try dsimp only at hSw); go_simp; (try with_reducible rfl))
  (try simp only [Act.put,xL4,xL5,xL6])
  refine xR [1] (h := ?_)
  refine xN (h := fun K hK => ?_)
  go_simp
  refine (jsmall_at 1 2 _ (by omega) (by omega) (by omega) (by omega)).mono ?_
  rintro e w20 ⟨t0,rfl,h0,b20⟩
  go_wp2_with fail
  replace ht := ht.below b20
  replace Ix := Ix.below b20
  replace Jx := Jx.below b20
  replace Jf := Jf.below b20
  replace Jc := Jc.below b20
  replace Jt := Jt.below b20
  replace JG := JG.below b20
  replace VA := VA.below b20
  replace VX := VX.below b20
  replace VF := VF.below b20
  replace VC := VC.below b20
  replace VT := VT.below b20
  replace VG := VG.below b20
  replace BB := BB.trans (b20.mono BB.size)
  clear b20
  refine hK.out _ _ ?_ (fun hH1 => ?_)
  ·exact ⟨VG.1,VG.2.1,VG.2.2.1⟩
  clear hK K hHeld
  (try simp only [Act.put,xL4,xL5,xL6])
  refine xR [2] (h := ?_)
  refine xN (h := fun K hK => ?_)
  go_simp
  refine (jorder_at _ _ (q + -(r : Rat)) (mkRat 1 2) 20 2 _ JG h0 (by omega)).mono ?_
  rintro e w21 ⟨rfl,b21⟩
  rw [hhi]
  go_wp2_with fail
  replace ht := ht.below b21
  replace Ix := Ix.below b21
  replace Jx := Jx.below b21
  replace Jf := Jf.below b21
  replace Jc := Jc.below b21
  replace Jt := Jt.below b21
  replace JG := JG.below b21
  replace h0 := h0.below b21
  replace VA := VA.below b21
  replace VX := VX.below b21
  replace VF := VF.below b21
  replace VC := VC.below b21
  replace VT := VT.below b21
  replace VG := VG.below b21
  replace BB := BB.trans (b21.mono BB.size)
  clear b21
  refine hK.out _ _ ?_ (fun hH2 => ?_)
  ·exact ⟨VG.1,VG.2.1,VG.2.2.1⟩
  clear hK K hH1
  (try simp only [Act.put,xL4,xL5,xL6])
  refine xT 3 (v := ?_) (hy := Or.inl ⟨by rfl,?_⟩) (h := ?_)
  rotate_left
  ·(intro w hSw; (try dsimp only at hSw); go_simp; (try with_reducible rfl))
  (try simp only [Act.put,xL4,xL5,xL6])
  refine wpAnyH_done (by kernel_rfl) ?_ _
  clear hH2
  clear h0 JG
  clear VG
  go_wp2
  go_cut [10,11] from 37 (fun s10 s11 wd => ∃ (RO RD : Nat) (po : Bool) (ao_ : Option Addr) (no co : Nat),s10 = .pointer (some ⟨RO,0,none⟩) ∧ s11 = .pointer (some ⟨RD,0,none⟩) ∧ w21.heap.size ≤ RD ∧ V2 wd RD (.bool po) (.slice ao_ no co) ∧ RepJ wd (.agg #[.bool po,.slice ao_ no co]) (r.fmod 2) ∧ Below w21.heap.size w21 wd)
  case first =>
   clear ht Ix Jx Jf Jc VA VX VF VC BB
   have BB : Below w21.heap.size w21 w21 := Below.refl _ _
   have hDr : Below w21.heap.size w21 w21.drew := (Below.refl _ _).drew
   replace Jt := Jt.below hDr
   replace VT := VT.below hDr
   replace BB := BB.trans (hDr.mono BB.size)
   clear hDr
   refine wp_region_held_drew (S := (fun w' => w'.cell? ⟨R5,0,none⟩ = some (.bool pt) ∧ w'.cell? ⟨R5,1,none⟩ = some (.slice at_ nt ct))) (by kernel_rfl) ?_ (fun hHeld => ?_)
   ·exact ⟨VT.1,VT.2.1⟩
   generalize w21.drew = W17 at *
   refine xT 0 (v := ?_) (hy := Or.inl ⟨by rfl,?_⟩) (h := ?_)
   rotate_left
   ·(intro w hSw; (try dsimp only at hSw); go_simp; (try with_reducible rfl))
   (try simp only [Act.put,xL4,xL5,xL6])
   refine xR [1,6,7] (h := ?_)
   refine xC (h := fun K hK => ?_) (hs := ?_)
   ·
    go_simp
    refine (rsmall_any 2 _ (by omega) (by omega)).mono ?_
    rintro e w22 ⟨e1,rfl,g1,b22⟩
    go_wp2_with fail
    replace Jt := Jt.below b22
    replace VT := VT.below b22
    replace BB := BB.trans (b22.mono BB.size)
    clear b22
    refine hK.out _ _ ?_ (fun hH1 => ?_)
    ·exact ⟨VT.1,VT.2.1⟩
    clear hK K hHeld
    (try simp only [Act.put,xL4,xL5,xL6])
    refine xR [2,6,7] (h := ?_)
    refine xC (h := fun K hK => ?_) (hs := ?_)
    ·
     go_simp
     refine (rover_any _ _ r 2 _ Jt g1 (by omega) lr2 l5).mono ?_
     rintro e w23 ⟨e2,e3,rfl,g2,g3,b23⟩
     obtain ⟨pq,aq,nq,cq,rfl⟩ := g2.open
     obtain ⟨po,ao_,no,co,rfl⟩ := g3.open
     go_wp2_with fail
     replace Jt := Jt.below b23
     replace g1 := g1.below b23
     replace VT := VT.below b23
     replace BB := BB.trans (b23.mono BB.size)
     clear b23
     refine hK.out _ _ ?_ (fun hH2 => ?_)
     ·exact ⟨VT.1,VT.2.1⟩
     clear hK K hH1
     (try simp only [Act.put,xL4,xL5,xL6])
     refine xT 3 (v := ?_) (hy := Or.inl ⟨by rfl,?_⟩) (h := ?_)
     rotate_left
     ·(intro w hSw; (try dsimp only at hSw); go_simp; (try with_reducible rfl))
     (try simp only [Act.put,xL4,xL5,xL6])
     refine xT 4 (v := ?_) (hy := Or.inl ⟨by rfl,?_⟩) (h := ?_)
     rotate_left
     ·(intro w hSw; (try dsimp only at hSw); go_simp; (try with_reducible rfl))
     (try simp only [Act.put,xL4,xL5,xL6])
     refine xT 5 (v := ?_) (hy := Or.inl ⟨by rfl,?_⟩) (h := ?_)
     rotate_left
     ·(intro w hSw; (try dsimp only at hSw); go_simp; (try with_reducible rfl))
     (try simp only [Act.put,xL4,xL5,xL6])
     refine xR [6,7] (h := ?_)
     refine xC (h := fun K hK => ?_) (hs := ?_)
     ·
      go_simp
      have hZ18 : w21.heap.size ≤ w23.heap.size := BB.size
      have hN18VT : R5 ≠ w23.heap.size := Nat.ne_of_lt VT.lt
      obtain ⟨W18,hW18,hS18,hL18,VO⟩ := V2.lay w23 32 (.bool false) (.slice none 0 0)
      replace Jt := Jt.below hL18
      replace g1 := g1.below hL18
      replace g2 := g2.below hL18
      replace g3 := g3.below hL18
      replace VT := VT.below hL18
      replace BB := BB.trans (hL18.mono BB.size)
      clear hL18
      rw [← hW18]
      generalize w23.heap.size = R18 at *
      clear hW18 hS18
      refine hK.out _ _ ?_ (fun hH3 => ?_)
      ·exact ⟨VT.1,VT.2.1⟩
      clear hK K hH2
      (try simp only [Act.put,xL4,xL5,xL6])
      refine xR [7] (h := ?_)
      refine xN (h := fun K hK => ?_)
      go_simp
      have hZ19 : w21.heap.size ≤ W18.heap.size := BB.size
      have hN19VT : R5 ≠ W18.heap.size := Nat.ne_of_lt VT.lt
      have hN19VO : R18 ≠ W18.heap.size := Nat.ne_of_lt VO.lt
      obtain ⟨W19,hW19,hS19,hL19,VD⟩ := V2.lay W18 32 (.bool false) (.slice none 0 0)
      replace Jt := Jt.below hL19
      replace g1 := g1.below hL19
      replace g2 := g2.below hL19
      replace g3 := g3.below hL19
      replace VT := VT.below hL19
      replace VO := VO.below hL19
      replace BB := BB.trans (hL19.mono BB.size)
      clear hL19
      rw [← hW19]
      generalize W18.heap.size = R19 at *
      clear hW19 hS19
      refine hK.out _ _ ?_ (fun hH4 => ?_)
      ·exact ⟨VT.1,VT.2.1⟩
      clear hK K hH3
      (try simp only [Act.put,xL4,xL5,xL6])
      refine xR [8] (h := ?_)
      refine xN (h := fun K hK => ?_)
      have hKp := VO.keepJ (.bool pq) (.slice aq nq cq)
      have VT_n := VT.other (R := R18) (by omega) (.bool pq) (.slice aq nq cq)
      have VD_n := VD.other (R := R18) (by omega) (.bool pq) (.slice aq nq cq)
      have VO_n := VO.same (.bool pq) (.slice aq nq cq)
      have Jt_n := Jt.keep hKp
      have g1_n := g1.keep hKp
      have g2_n := g2.keep hKp
      have g3_n := g3.keep hKp
      have BB_n := below_store2 (R := R18) BB (by omega) (.bool pq) (.slice aq nq cq)
      clear hKp
      obtain ⟨VO_0,VO_1,VO_2,VO_3⟩ := id VO
      go_simp
      clear VO_0 VO_1 VO_2 VO_3
      clear BB Jt g1 g2 g3 VT VO VD
      generalize (W19.setCell ⟨R18,0,none⟩ (.bool pq)).setCell ⟨R18,1,none⟩ (.slice aq nq cq) = W20 at *
      have BB := BB_n
      have Jt := Jt_n
      have g1 := g1_n
      have g2 := g2_n
      have g3 := g3_n
      have VT := VT_n
      have VO := VO_n
      have VD := VD_n
      clear BB_n Jt_n g1_n g2_n g3_n VT_n VO_n VD_n
      refine hK.out _ _ ?_ (fun hH5 => ?_)
      ·exact ⟨VT.1,VT.2.1⟩
      clear hK K hH4
      (try simp only [Act.put,xL4,xL5,xL6])
      refine xR [9] (h := ?_)
      refine xN (h := fun K hK => ?_)
      have hKp := VD.keepJ (.bool po) (.slice ao_ no co)
      have VT_n := VT.other (R := R19) (by omega) (.bool po) (.slice ao_ no co)
      have VO_n := VO.other (R := R19) (by omega) (.bool po) (.slice ao_ no co)
      have VD_n := VD.same (.bool po) (.slice ao_ no co)
      have Jt_n := Jt.keep hKp
      have g1_n := g1.keep hKp
      have g2_n := g2.keep hKp
      have g3_n := g3.keep hKp
      have BB_n := below_store2 (R := R19) BB (by omega) (.bool po) (.slice ao_ no co)
      clear hKp
      obtain ⟨VD_0,VD_1,VD_2,VD_3⟩ := id VD
      go_simp
      clear VD_0 VD_1 VD_2 VD_3
      clear BB Jt g1 g2 g3 VT VO VD
      generalize (W20.setCell ⟨R19,0,none⟩ (.bool po)).setCell ⟨R19,1,none⟩ (.slice ao_ no co) = W21 at *
      have BB := BB_n
      have Jt := Jt_n
      have g1 := g1_n
      have g2 := g2_n
      have g3 := g3_n
      have VT := VT_n
      have VO := VO_n
      have VD := VD_n
      clear BB_n Jt_n g1_n g2_n g3_n VT_n VO_n VD_n
      refine hK.out _ _ ?_ (fun hH6 => ?_)
      ·exact ⟨VT.1,VT.2.1⟩
      clear hK K hH5
      (try simp only [Act.put,xL4,xL5,xL6])
      refine wpAnyH_done (by kernel_rfl) ?_ _
      clear hH6
      go_wp2_with fail
      go_meet
      exact ⟨R18,R19,po,ao_,no,co,rfl,rfl,by omega,VD,g3,BB⟩
     refine xC (h := fun K hK => ?_) (hs := ?_)
     ·
      go_simp
      have hZ22 : w21.heap.size ≤ w23.heap.size := BB.size
      have hN22VT : R5 ≠ w23.heap.size := Nat.ne_of_lt VT.lt
      obtain ⟨W22,hW22,hS22,hL22,VD⟩ := V2.lay w23 32 (.bool false) (.slice none 0 0)
      replace Jt := Jt.below hL22
      replace g1 := g1.below hL22
      replace g2 := g2.below hL22
      replace g3 := g3.below hL22
      replace VT := VT.below hL22
      replace BB := BB.trans (hL22.mono BB.size)
      clear hL22
      rw [← hW22]
      generalize w23.heap.size = R22 at *
      clear hW22 hS22
      refine hK.out _ _ ?_ (fun hH3 => ?_)
      ·exact ⟨VT.1,VT.2.1⟩
      clear hK K hH2
      (try simp only [Act.put,xL4,xL5,xL6])
      refine xR [6] (h := ?_)
      refine xN (h := fun K hK => ?_)
      go_simp
      have hZ23 : w21.heap.size ≤ W22.heap.size := BB.size
      have hN23VT : R5 ≠ W22.heap.size := Nat.ne_of_lt VT.lt
      have hN23VD : R22 ≠ W22.heap.size := Nat.ne_of_lt VD.lt
      obtain ⟨W23,hW23,hS23,hL23,VO⟩ := V2.lay W22 32 (.bool false) (.slice none 0 0)
      replace Jt := Jt.below hL23
      replace g1 := g1.below hL23
      replace g2 := g2.below hL23
      replace g3 := g3.below hL23
      replace VT := VT.below hL23
      replace VD := VD.below hL23
      replace BB := BB.trans (hL23.mono BB.size)
      clear hL23
      rw [← hW23]
      generalize W22.heap.size = R23 at *
      clear hW23 hS23
      refine hK.out _ _ ?_ (fun hH4 => ?_)
      ·exact ⟨VT.1,VT.2.1⟩
      clear hK K hH3
      (try simp only [Act.put,xL4,xL5,xL6])
      refine xR [8] (h := ?_)
      refine xN (h := fun K hK => ?_)
      have hKp := VO.keepJ (.bool pq) (.slice aq nq cq)
      have VT_n := VT.other (R := R23) (by omega) (.bool pq) (.slice aq nq cq)
      have VD_n := VD.other (R := R23) (by omega) (.bool pq) (.slice aq nq cq)
      have VO_n := VO.same (.bool pq) (.slice aq nq cq)
      have Jt_n := Jt.keep hKp
      have g1_n := g1.keep hKp
      have g2_n := g2.keep hKp
      have g3_n := g3.keep hKp
      have BB_n := below_store2 (R := R23) BB (by omega) (.bool pq) (.slice aq nq cq)
      clear hKp
      obtain ⟨VO_0,VO_1,VO_2,VO_3⟩ := id VO
      go_simp
      clear VO_0 VO_1 VO_2 VO_3
      clear BB Jt g1 g2 g3 VT VD VO
      generalize (W23.setCell ⟨R23,0,none⟩ (.bool pq)).setCell ⟨R23,1,none⟩ (.slice aq nq cq) = W24 at *
      have BB := BB_n
      have Jt := Jt_n
      have g1 := g1_n
      have g2 := g2_n
      have g3 := g3_n
      have VT := VT_n
      have VD := VD_n
      have VO := VO_n
      clear BB_n Jt_n g1_n g2_n g3_n VT_n VD_n VO_n
      refine hK.out _ _ ?_ (fun hH5 => ?_)
      ·exact ⟨VT.1,VT.2.1⟩
      clear hK K hH4
      (try simp only [Act.put,xL4,xL5,xL6])
      refine xR [9] (h := ?_)
      refine xN (h := fun K hK => ?_)
      have hKp := VD.keepJ (.bool po) (.slice ao_ no co)
      have VT_n := VT.other (R := R22) (by omega) (.bool po) (.slice ao_ no co)
      have VO_n := VO.other (R := R22) (by omega) (.bool po) (.slice ao_ no co)
      have VD_n := VD.same (.bool po) (.slice ao_ no co)
      have Jt_n := Jt.keep hKp
      have g1_n := g1.keep hKp
      have g2_n := g2.keep hKp
      have g3_n := g3.keep hKp
      have BB_n := below_store2 (R := R22) BB (by omega) (.bool po) (.slice ao_ no co)
      clear hKp
      obtain ⟨VD_0,VD_1,VD_2,VD_3⟩ := id VD
      go_simp
      clear VD_0 VD_1 VD_2 VD_3
      clear BB Jt g1 g2 g3 VT VD VO
      generalize (W24.setCell ⟨R22,0,none⟩ (.bool po)).setCell ⟨R22,1,none⟩ (.slice ao_ no co) = W25 at *
      have BB := BB_n
      have Jt := Jt_n
      have g1 := g1_n
      have g2 := g2_n
      have g3 := g3_n
      have VT := VT_n
      have VD := VD_n
      have VO := VO_n
      clear BB_n Jt_n g1_n g2_n g3_n VT_n VD_n VO_n
      refine hK.out _ _ ?_ (fun hH6 => ?_)
      ·exact ⟨VT.1,VT.2.1⟩
      clear hK K hH5
      (try simp only [Act.put,xL4,xL5,xL6])
      refine wpAnyH_done (by kernel_rfl) ?_ _
      clear hH6
      go_wp2_with fail
      go_meet
      exact ⟨R23,R22,po,ao_,no,co,rfl,rfl,by omega,VD,g3,BB⟩
     exact AllReadyH.nil
    refine xC (h := fun K hK => ?_) (hs := ?_)
    ·
     go_simp
     have hZ26 : w21.heap.size ≤ w22.heap.size := BB.size
     have hN26VT : R5 ≠ w22.heap.size := Nat.ne_of_lt VT.lt
     obtain ⟨W26,hW26,hS26,hL26,VO⟩ := V2.lay w22 32 (.bool false) (.slice none 0 0)
     replace Jt := Jt.below hL26
     replace g1 := g1.below hL26
     replace VT := VT.below hL26
     replace BB := BB.trans (hL26.mono BB.size)
     clear hL26
     rw [← hW26]
     generalize w22.heap.size = R26 at *
     clear hW26 hS26
     refine hK.out _ _ ?_ (fun hH2 => ?_)
     ·exact ⟨VT.1,VT.2.1⟩
     clear hK K hH1
     (try simp only [Act.put,xL4,xL5,xL6])
     refine xR [2,7] (h := ?_)
     refine xC (h := fun K hK => ?_) (hs := ?_)
     ·
      go_simp
      refine (rover_any _ _ r 2 _ Jt g1 (by omega) lr2 l5).mono ?_
      rintro e w24 ⟨e2,e3,rfl,g2,g3,b24⟩
      obtain ⟨pq,aq,nq,cq,rfl⟩ := g2.open
      obtain ⟨po,ao_,no,co,rfl⟩ := g3.open
      go_wp2_with fail
      replace Jt := Jt.below b24
      replace g1 := g1.below b24
      replace VT := VT.below b24
      replace VO := VO.below b24
      replace BB := BB.trans (b24.mono BB.size)
      clear b24
      refine hK.out _ _ ?_ (fun hH3 => ?_)
      ·exact ⟨VT.1,VT.2.1⟩
      clear hK K hH2
      (try simp only [Act.put,xL4,xL5,xL6])
      refine xT 3 (v := ?_) (hy := Or.inl ⟨by rfl,?_⟩) (h := ?_)
      rotate_left
      ·(intro w hSw; (try dsimp only at hSw); go_simp; (try with_reducible rfl))
      (try simp only [Act.put,xL4,xL5,xL6])
      refine xT 4 (v := ?_) (hy := Or.inl ⟨by rfl,?_⟩) (h := ?_)
      rotate_left
      ·(intro w hSw; (try dsimp only at hSw); go_simp; (try with_reducible rfl))
      (try simp only [Act.put,xL4,xL5,xL6])
      refine xT 5 (v := ?_) (hy := Or.inl ⟨by rfl,?_⟩) (h := ?_)
      rotate_left
      ·(intro w hSw; (try dsimp only at hSw); go_simp; (try with_reducible rfl))
      (try simp only [Act.put,xL4,xL5,xL6])
      refine xR [7] (h := ?_)
      refine xN (h := fun K hK => ?_)
      go_simp
      have hZ27 : w21.heap.size ≤ w24.heap.size := BB.size
      have hN27VT : R5 ≠ w24.heap.size := Nat.ne_of_lt VT.lt
      have hN27VO : R26 ≠ w24.heap.size := Nat.ne_of_lt VO.lt
      obtain ⟨W27,hW27,hS27,hL27,VD⟩ := V2.lay w24 32 (.bool false) (.slice none 0 0)
      replace Jt := Jt.below hL27
      replace g1 := g1.below hL27
      replace g2 := g2.below hL27
      replace g3 := g3.below hL27
      replace VT := VT.below hL27
      replace VO := VO.below hL27
      replace BB := BB.trans (hL27.mono BB.size)
      clear hL27
      rw [← hW27]
      generalize w24.heap.size = R27 at *
      clear hW27 hS27
      refine hK.out _ _ ?_ (fun hH4 => ?_)
      ·exact ⟨VT.1,VT.2.1⟩
      clear hK K hH3
      (try simp only [Act.put,xL4,xL5,xL6])
      refine xR [8] (h := ?_)
      refine xN (h := fun K hK => ?_)
      have hKp := VO.keepJ (.bool pq) (.slice aq nq cq)
      have VT_n := VT.other (R := R26) (by omega) (.bool pq) (.slice aq nq cq)
      have VD_n := VD.other (R := R26) (by omega) (.bool pq) (.slice aq nq cq)
      have VO_n := VO.same (.bool pq) (.slice aq nq cq)
      have Jt_n := Jt.keep hKp
      have g1_n := g1.keep hKp
      have g2_n := g2.keep hKp
      have g3_n := g3.keep hKp
      have BB_n := below_store2 (R := R26) BB (by omega) (.bool pq) (.slice aq nq cq)
      clear hKp
      obtain ⟨VO_0,VO_1,VO_2,VO_3⟩ := id VO
      go_simp
      clear VO_0 VO_1 VO_2 VO_3
      clear BB Jt g1 g2 g3 VT VO VD
      generalize (W27.setCell ⟨R26,0,none⟩ (.bool pq)).setCell ⟨R26,1,none⟩ (.slice aq nq cq) = W28 at *
      have BB := BB_n
      have Jt := Jt_n
      have g1 := g1_n
      have g2 := g2_n
      have g3 := g3_n
      have VT := VT_n
      have VO := VO_n
      have VD := VD_n
      clear BB_n Jt_n g1_n g2_n g3_n VT_n VO_n VD_n
      refine hK.out _ _ ?_ (fun hH5 => ?_)
      ·exact ⟨VT.1,VT.2.1⟩
      clear hK K hH4
      (try simp only [Act.put,xL4,xL5,xL6])
      refine xR [9] (h := ?_)
      refine xN (h := fun K hK => ?_)
      have hKp := VD.keepJ (.bool po) (.slice ao_ no co)
      have VT_n := VT.other (R := R27) (by omega) (.bool po) (.slice ao_ no co)
      have VO_n := VO.other (R := R27) (by omega) (.bool po) (.slice ao_ no co)
      have VD_n := VD.same (.bool po) (.slice ao_ no co)
      have Jt_n := Jt.keep hKp
      have g1_n := g1.keep hKp
      have g2_n := g2.keep hKp
      have g3_n := g3.keep hKp
      have BB_n := below_store2 (R := R27) BB (by omega) (.bool po) (.slice ao_ no co)
      clear hKp
      obtain ⟨VD_0,VD_1,VD_2,VD_3⟩ := id VD
      go_simp
      clear VD_0 VD_1 VD_2 VD_3
      clear BB Jt g1 g2 g3 VT VO VD
      generalize (W28.setCell ⟨R27,0,none⟩ (.bool po)).setCell ⟨R27,1,none⟩ (.slice ao_ no co) = W29 at *
      have BB := BB_n
      have Jt := Jt_n
      have g1 := g1_n
      have g2 := g2_n
      have g3 := g3_n
      have VT := VT_n
      have VO := VO_n
      have VD := VD_n
      clear BB_n Jt_n g1_n g2_n g3_n VT_n VO_n VD_n
      refine hK.out _ _ ?_ (fun hH6 => ?_)
      ·exact ⟨VT.1,VT.2.1⟩
      clear hK K hH5
      (try simp only [Act.put,xL4,xL5,xL6])
      refine wpAnyH_done (by kernel_rfl) ?_ _
      clear hH6
      go_wp2_with fail
      go_meet
      exact ⟨R26,R27,po,ao_,no,co,rfl,rfl,by omega,VD,g3,BB⟩
     refine xC (h := fun K hK => ?_) (hs := ?_)
     ·
      go_simp
      have hZ30 : w21.heap.size ≤ W26.heap.size := BB.size
      have hN30VT : R5 ≠ W26.heap.size := Nat.ne_of_lt VT.lt
      have hN30VO : R26 ≠ W26.heap.size := Nat.ne_of_lt VO.lt
      obtain ⟨W30,hW30,hS30,hL30,VD⟩ := V2.lay W26 32 (.bool false) (.slice none 0 0)
      replace Jt := Jt.below hL30
      replace g1 := g1.below hL30
      replace VT := VT.below hL30
      replace VO := VO.below hL30
      replace BB := BB.trans (hL30.mono BB.size)
      clear hL30
      rw [← hW30]
      generalize W26.heap.size = R30 at *
      clear hW30 hS30
      refine hK.out _ _ ?_ (fun hH3 => ?_)
      ·exact ⟨VT.1,VT.2.1⟩
      clear hK K hH2
      (try simp only [Act.put,xL4,xL5,xL6])
      refine xR [2] (h := ?_)
      refine xN (h := fun K hK => ?_)
      go_simp
      refine (rover_any _ _ r 2 _ Jt g1 (by omega) lr2 l5).mono ?_
      rintro e w25 ⟨e2,e3,rfl,g2,g3,b25⟩
      obtain ⟨pq,aq,nq,cq,rfl⟩ := g2.open
      obtain ⟨po,ao_,no,co,rfl⟩ := g3.open
      go_wp2_with fail
      replace Jt := Jt.below b25
      replace g1 := g1.below b25
      replace VT := VT.below b25
      replace VO := VO.below b25
      replace VD := VD.below b25
      replace BB := BB.trans (b25.mono BB.size)
      clear b25
      refine hK.out _ _ ?_ (fun hH4 => ?_)
      ·exact ⟨VT.1,VT.2.1⟩
      clear hK K hH3
      (try simp only [Act.put,xL4,xL5,xL6])
      refine xT 3 (v := ?_) (hy := Or.inl ⟨by rfl,?_⟩) (h := ?_)
      rotate_left
      ·(intro w hSw; (try dsimp only at hSw); go_simp; (try with_reducible rfl))
      (try simp only [Act.put,xL4,xL5,xL6])
      refine xT 4 (v := ?_) (hy := Or.inl ⟨by rfl,?_⟩) (h := ?_)
      rotate_left
      ·(intro w hSw; (try dsimp only at hSw); go_simp; (try with_reducible rfl))
      (try simp only [Act.put,xL4,xL5,xL6])
      refine xT 5 (v := ?_) (hy := Or.inl ⟨by rfl,?_⟩) (h := ?_)
      rotate_left
      ·(intro w hSw; (try dsimp only at hSw); go_simp; (try with_reducible rfl))
      (try simp only [Act.put,xL4,xL5,xL6])
      refine xR [8] (h := ?_)
      refine xN (h := fun K hK => ?_)
      have hKp := VO.keepJ (.bool pq) (.slice aq nq cq)
      have VT_n := VT.other (R := R26) (by omega) (.bool pq) (.slice aq nq cq)
      have VD_n := VD.other (R := R26) (by omega) (.bool pq) (.slice aq nq cq)
      have VO_n := VO.same (.bool pq) (.slice aq nq cq)
      have Jt_n := Jt.keep hKp
      have g1_n := g1.keep hKp
      have g2_n := g2.keep hKp
      have g3_n := g3.keep hKp
      have BB_n := below_store2 (R := R26) BB (by omega) (.bool pq) (.slice aq nq cq)
      clear hKp
      obtain ⟨VO_0,VO_1,VO_2,VO_3⟩ := id VO
      go_simp
      clear VO_0 VO_1 VO_2 VO_3
      clear BB Jt g1 g2 g3 VT VO VD
      generalize (w25.setCell ⟨R26,0,none⟩ (.bool pq)).setCell ⟨R26,1,none⟩ (.slice aq nq cq) = W31 at *
      have BB := BB_n
      have Jt := Jt_n
      have g1 := g1_n
      have g2 := g2_n
      have g3 := g3_n
      have VT := VT_n
      have VO := VO_n
      have VD := VD_n
      clear BB_n Jt_n g1_n g2_n g3_n VT_n VO_n VD_n
      refine hK.out _ _ ?_ (fun hH5 => ?_)
      ·exact ⟨VT.1,VT.2.1⟩
      clear hK K hH4
      (try simp only [Act.put,xL4,xL5,xL6])
      refine xR [9] (h := ?_)
      refine xN (h := fun K hK => ?_)
      have hKp := VD.keepJ (.bool po) (.slice ao_ no co)
      have VT_n := VT.other (R := R30) (by omega) (.bool po) (.slice ao_ no co)
      have VO_n := VO.other (R := R30) (by omega) (.bool po) (.slice ao_ no co)
      have VD_n := VD.same (.bool po) (.slice ao_ no co)
      have Jt_n := Jt.keep hKp
      have g1_n := g1.keep hKp
      have g2_n := g2.keep hKp
      have g3_n := g3.keep hKp
      have BB_n := below_store2 (R := R30) BB (by omega) (.bool po) (.slice ao_ no co)
      clear hKp
      obtain ⟨VD_0,VD_1,VD_2,VD_3⟩ := id VD
      go_simp
      clear VD_0 VD_1 VD_2 VD_3
      clear BB Jt g1 g2 g3 VT VO VD
      generalize (W31.setCell ⟨R30,0,none⟩ (.bool po)).setCell ⟨R30,1,none⟩ (.slice ao_ no co) = W32 at *
      have BB := BB_n
      have Jt := Jt_n
      have g1 := g1_n
      have g2 := g2_n
      have g3 := g3_n
      have VT := VT_n
      have VO := VO_n
      have VD := VD_n
      clear BB_n Jt_n g1_n g2_n g3_n VT_n VO_n VD_n
      refine hK.out _ _ ?_ (fun hH6 => ?_)
      ·exact ⟨VT.1,VT.2.1⟩
      clear hK K hH5
      (try simp only [Act.put,xL4,xL5,xL6])
      refine wpAnyH_done (by kernel_rfl) ?_ _
      clear hH6
      go_wp2_with fail
      go_meet
      exact ⟨R26,R30,po,ao_,no,co,rfl,rfl,by omega,VD,g3,BB⟩
     exact AllReadyH.nil
    refine xC (h := fun K hK => ?_) (hs := ?_)
    ·
     go_simp
     have hZ33 : w21.heap.size ≤ w22.heap.size := BB.size
     have hN33VT : R5 ≠ w22.heap.size := Nat.ne_of_lt VT.lt
     obtain ⟨W33,hW33,hS33,hL33,VD⟩ := V2.lay w22 32 (.bool false) (.slice none 0 0)
     replace Jt := Jt.below hL33
     replace g1 := g1.below hL33
     replace VT := VT.below hL33
     replace BB := BB.trans (hL33.mono BB.size)
     clear hL33
     rw [← hW33]
     generalize w22.heap.size = R33 at *
     clear hW33 hS33
     refine hK.out _ _ ?_ (fun hH2 => ?_)
     ·exact ⟨VT.1,VT.2.1⟩
     clear hK K hH1
     (try simp only [Act.put,xL4,xL5,xL6])
     refine xR [2,6] (h := ?_)
     refine xC (h := fun K hK => ?_) (hs := ?_)
     ·
      go_simp
      refine (rover_any _ _ r 2 _ Jt g1 (by omega) lr2 l5).mono ?_
      rintro e w26 ⟨e2,e3,rfl,g2,g3,b26⟩
      obtain ⟨pq,aq,nq,cq,rfl⟩ := g2.open
      obtain ⟨po,ao_,no,co,rfl⟩ := g3.open
      go_wp2_with fail
      replace Jt := Jt.below b26
      replace g1 := g1.below b26
      replace VT := VT.below b26
      replace VD := VD.below b26
      replace BB := BB.trans (b26.mono BB.size)
      clear b26
      refine hK.out _ _ ?_ (fun hH3 => ?_)
      ·exact ⟨VT.1,VT.2.1⟩
      clear hK K hH2
      (try simp only [Act.put,xL4,xL5,xL6])
      refine xT 3 (v := ?_) (hy := Or.inl ⟨by rfl,?_⟩) (h := ?_)
      rotate_left
      ·(intro w hSw; (try dsimp only at hSw); go_simp; (try with_reducible rfl))
      (try simp only [Act.put,xL4,xL5,xL6])
      refine xT 4 (v := ?_) (hy := Or.inl ⟨by rfl,?_⟩) (h := ?_)
      rotate_left
      ·(intro w hSw; (try dsimp only at hSw); go_simp; (try with_reducible rfl))
      (try simp only [Act.put,xL4,xL5,xL6])
      refine xT 5 (v := ?_) (hy := Or.inl ⟨by rfl,?_⟩) (h := ?_)
      rotate_left
      ·(intro w hSw; (try dsimp only at hSw); go_simp; (try with_reducible rfl))
      (try simp only [Act.put,xL4,xL5,xL6])
      refine xR [6] (h := ?_)
      refine xN (h := fun K hK => ?_)
      go_simp
      have hZ34 : w21.heap.size ≤ w26.heap.size := BB.size
      have hN34VT : R5 ≠ w26.heap.size := Nat.ne_of_lt VT.lt
      have hN34VD : R33 ≠ w26.heap.size := Nat.ne_of_lt VD.lt
      obtain ⟨W34,hW34,hS34,hL34,VO⟩ := V2.lay w26 32 (.bool false) (.slice none 0 0)
      replace Jt := Jt.below hL34
      replace g1 := g1.below hL34
      replace g2 := g2.below hL34
      replace g3 := g3.below hL34
      replace VT := VT.below hL34
      replace VD := VD.below hL34
      replace BB := BB.trans (hL34.mono BB.size)
      clear hL34
      rw [← hW34]
      generalize w26.heap.size = R34 at *
      clear hW34 hS34
      refine hK.out _ _ ?_ (fun hH4 => ?_)
      ·exact ⟨VT.1,VT.2.1⟩
      clear hK K hH3
      (try simp only [Act.put,xL4,xL5,xL6])
      refine xR [8] (h := ?_)
      refine xN (h := fun K hK => ?_)
      have hKp := VO.keepJ (.bool pq) (.slice aq nq cq)
      have VT_n := VT.other (R := R34) (by omega) (.bool pq) (.slice aq nq cq)
      have VD_n := VD.other (R := R34) (by omega) (.bool pq) (.slice aq nq cq)
      have VO_n := VO.same (.bool pq) (.slice aq nq cq)
      have Jt_n := Jt.keep hKp
      have g1_n := g1.keep hKp
      have g2_n := g2.keep hKp
      have g3_n := g3.keep hKp
      have BB_n := below_store2 (R := R34) BB (by omega) (.bool pq) (.slice aq nq cq)
      clear hKp
      obtain ⟨VO_0,VO_1,VO_2,VO_3⟩ := id VO
      go_simp
      clear VO_0 VO_1 VO_2 VO_3
      clear BB Jt g1 g2 g3 VT VD VO
      generalize (W34.setCell ⟨R34,0,none⟩ (.bool pq)).setCell ⟨R34,1,none⟩ (.slice aq nq cq) = W35 at *
      have BB := BB_n
      have Jt := Jt_n
      have g1 := g1_n
      have g2 := g2_n
      have g3 := g3_n
      have VT := VT_n
      have VD := VD_n
      have VO := VO_n
      clear BB_n Jt_n g1_n g2_n g3_n VT_n VD_n VO_n
      refine hK.out _ _ ?_ (fun hH5 => ?_)
      ·exact ⟨VT.1,VT.2.1⟩
      clear hK K hH4
      (try simp only [Act.put,xL4,xL5,xL6])
      refine xR [9] (h := ?_)
      refine xN (h := fun K hK => ?_)
      have hKp := VD.keepJ (.bool po) (.slice ao_ no co)
      have VT_n := VT.other (R := R33) (by omega) (.bool po) (.slice ao_ no co)
      have VO_n := VO.other (R := R33) (by omega) (.bool po) (.slice ao_ no co)
      have VD_n := VD.same (.bool po) (.slice ao_ no co)
      have Jt_n := Jt.keep hKp
      have g1_n := g1.keep hKp
      have g2_n := g2.keep hKp
      have g3_n := g3.keep hKp
      have BB_n := below_store2 (R := R33) BB (by omega) (.bool po) (.slice ao_ no co)
      clear hKp
      obtain ⟨VD_0,VD_1,VD_2,VD_3⟩ := id VD
      go_simp
      clear VD_0 VD_1 VD_2 VD_3
      clear BB Jt g1 g2 g3 VT VD VO
      generalize (W35.setCell ⟨R33,0,none⟩ (.bool po)).setCell ⟨R33,1,none⟩ (.slice ao_ no co) = W36 at *
      have BB := BB_n
      have Jt := Jt_n
      have g1 := g1_n
      have g2 := g2_n
      have g3 := g3_n
      have VT := VT_n
      have VD := VD_n
      have VO := VO_n
      clear BB_n Jt_n g1_n g2_n g3_n VT_n VD_n VO_n
      refine hK.out _ _ ?_ (fun hH6 => ?_)
      ·exact ⟨VT.1,VT.2.1⟩
      clear hK K hH5
      (try simp only [Act.put,xL4,xL5,xL6])
      refine wpAnyH_done (by kernel_rfl) ?_ _
      clear hH6
      go_wp2_with fail
      go_meet
      exact ⟨R34,R33,po,ao_,no,co,rfl,rfl,by omega,VD,g3,BB⟩
     refine xC (h := fun K hK => ?_) (hs := ?_)
     ·
      go_simp
      have hZ37 : w21.heap.size ≤ W33.heap.size := BB.size
      have hN37VT : R5 ≠ W33.heap.size := Nat.ne_of_lt VT.lt
      have hN37VD : R33 ≠ W33.heap.size := Nat.ne_of_lt VD.lt
      obtain ⟨W37,hW37,hS37,hL37,VO⟩ := V2.lay W33 32 (.bool false) (.slice none 0 0)
      replace Jt := Jt.below hL37
      replace g1 := g1.below hL37
      replace VT := VT.below hL37
      replace VD := VD.below hL37
      replace BB := BB.trans (hL37.mono BB.size)
      clear hL37
      rw [← hW37]
      generalize W33.heap.size = R37 at *
      clear hW37 hS37
      refine hK.out _ _ ?_ (fun hH3 => ?_)
      ·exact ⟨VT.1,VT.2.1⟩
      clear hK K hH2
      (try simp only [Act.put,xL4,xL5,xL6])
      refine xR [2] (h := ?_)
      refine xN (h := fun K hK => ?_)
      go_simp
      refine (rover_any _ _ r 2 _ Jt g1 (by omega) lr2 l5).mono ?_
      rintro e w27 ⟨e2,e3,rfl,g2,g3,b27⟩
      obtain ⟨pq,aq,nq,cq,rfl⟩ := g2.open
      obtain ⟨po,ao_,no,co,rfl⟩ := g3.open
      go_wp2_with fail
      replace Jt := Jt.below b27
      replace g1 := g1.below b27
      replace VT := VT.below b27
      replace VD := VD.below b27
      replace VO := VO.below b27
      replace BB := BB.trans (b27.mono BB.size)
      clear b27
      refine hK.out _ _ ?_ (fun hH4 => ?_)
      ·exact ⟨VT.1,VT.2.1⟩
      clear hK K hH3
      (try simp only [Act.put,xL4,xL5,xL6])
      refine xT 3 (v := ?_) (hy := Or.inl ⟨by rfl,?_⟩) (h := ?_)
      rotate_left
      ·(intro w hSw; (try dsimp only at hSw); go_simp; (try with_reducible rfl))
      (try simp only [Act.put,xL4,xL5,xL6])
      refine xT 4 (v := ?_) (hy := Or.inl ⟨by rfl,?_⟩) (h := ?_)
      rotate_left
      ·(intro w hSw; (try dsimp only at hSw); go_simp; (try with_reducible rfl))
      (try simp only [Act.put,xL4,xL5,xL6])
      refine xT 5 (v := ?_) (hy := Or.inl ⟨by rfl,?_⟩) (h := ?_)
      rotate_left
      ·(intro w hSw; (try dsimp only at hSw); go_simp; (try with_reducible rfl))
      (try simp only [Act.put,xL4,xL5,xL6])
      refine xR [8] (h := ?_)
      refine xN (h := fun K hK => ?_)
      have hKp := VO.keepJ (.bool pq) (.slice aq nq cq)
      have VT_n := VT.other (R := R37) (by omega) (.bool pq) (.slice aq nq cq)
      have VD_n := VD.other (R := R37) (by omega) (.bool pq) (.slice aq nq cq)
      have VO_n := VO.same (.bool pq) (.slice aq nq cq)
      have Jt_n := Jt.keep hKp
      have g1_n := g1.keep hKp
      have g2_n := g2.keep hKp
      have g3_n := g3.keep hKp
      have BB_n := below_store2 (R := R37) BB (by omega) (.bool pq) (.slice aq nq cq)
      clear hKp
      obtain ⟨VO_0,VO_1,VO_2,VO_3⟩ := id VO
      go_simp
      clear VO_0 VO_1 VO_2 VO_3
      clear BB Jt g1 g2 g3 VT VD VO
      generalize (w27.setCell ⟨R37,0,none⟩ (.bool pq)).setCell ⟨R37,1,none⟩ (.slice aq nq cq) = W38 at *
      have BB := BB_n
      have Jt := Jt_n
      have g1 := g1_n
      have g2 := g2_n
      have g3 := g3_n
      have VT := VT_n
      have VD := VD_n
      have VO := VO_n
      clear BB_n Jt_n g1_n g2_n g3_n VT_n VD_n VO_n
      refine hK.out _ _ ?_ (fun hH5 => ?_)
      ·exact ⟨VT.1,VT.2.1⟩
      clear hK K hH4
      (try simp only [Act.put,xL4,xL5,xL6])
      refine xR [9] (h := ?_)
      refine xN (h := fun K hK => ?_)
      have hKp := VD.keepJ (.bool po) (.slice ao_ no co)
      have VT_n := VT.other (R := R33) (by omega) (.bool po) (.slice ao_ no co)
      have VO_n := VO.other (R := R33) (by omega) (.bool po) (.slice ao_ no co)
      have VD_n := VD.same (.bool po) (.slice ao_ no co)
      have Jt_n := Jt.keep hKp
      have g1_n := g1.keep hKp
      have g2_n := g2.keep hKp
      have g3_n := g3.keep hKp
      have BB_n := below_store2 (R := R33) BB (by omega) (.bool po) (.slice ao_ no co)
      clear hKp
      obtain ⟨VD_0,VD_1,VD_2,VD_3⟩ := id VD
      go_simp
      clear VD_0 VD_1 VD_2 VD_3
      clear BB Jt g1 g2 g3 VT VD VO
      generalize (W38.setCell ⟨R33,0,none⟩ (.bool po)).setCell ⟨R33,1,none⟩ (.slice ao_ no co) = W39 at *
      have BB := BB_n
      have Jt := Jt_n
      have g1 := g1_n
      have g2 := g2_n
      have g3 := g3_n
      have VT := VT_n
      have VD := VD_n
      have VO := VO_n
      clear BB_n Jt_n g1_n g2_n g3_n VT_n VD_n VO_n
      refine hK.out _ _ ?_ (fun hH6 => ?_)
      ·exact ⟨VT.1,VT.2.1⟩
      clear hK K hH5
      (try simp only [Act.put,xL4,xL5,xL6])
      refine wpAnyH_done (by kernel_rfl) ?_ _
      clear hH6
      go_wp2_with fail
      go_meet
      exact ⟨R37,R33,po,ao_,no,co,rfl,rfl,by omega,VD,g3,BB⟩
     exact AllReadyH.nil
    exact AllReadyH.nil
   refine xC (h := fun K hK => ?_) (hs := ?_)
   ·
    go_simp
    have hZ40 : w21.heap.size ≤ W17.heap.size := BB.size
    have hN40VT : R5 ≠ W17.heap.size := Nat.ne_of_lt VT.lt
    obtain ⟨W40,hW40,hS40,hL40,VO⟩ := V2.lay W17 32 (.bool false) (.slice none 0 0)
    replace Jt := Jt.below hL40
    replace VT := VT.below hL40
    replace BB := BB.trans (hL40.mono BB.size)
    clear hL40
    rw [← hW40]
    generalize W17.heap.size = R40 at *
    clear hW40 hS40
    refine hK.out _ _ ?_ (fun hH1 => ?_)
    ·exact ⟨VT.1,VT.2.1⟩
    clear hK K hHeld
    (try simp only [Act.put,xL4,xL5,xL6])
    refine xR [1,7] (h := ?_)
    refine xC (h := fun K hK => ?_) (hs := ?_)
    ·
     go_simp
     refine (rsmall_any 2 _ (by omega) (by omega)).mono ?_
     rintro e w28 ⟨e1,rfl,g1,b28⟩
     go_wp2_with fail
     replace Jt := Jt.below b28
     replace VT := VT.below b28
     replace VO := VO.below b28
     replace BB := BB.trans (b28.mono BB.size)
     clear b28
     refine hK.out _ _ ?_ (fun hH2 => ?_)
     ·exact ⟨VT.1,VT.2.1⟩
     clear hK K hH1
     (try simp only [Act.put,xL4,xL5,xL6])
     refine xR [2,7] (h := ?_)
     refine xC (h := fun K hK => ?_) (hs := ?_)
     ·
      go_simp
      refine (rover_any _ _ r 2 _ Jt g1 (by omega) lr2 l5).mono ?_
      rintro e w29 ⟨e2,e3,rfl,g2,g3,b29⟩
      obtain ⟨pq,aq,nq,cq,rfl⟩ := g2.open
      obtain ⟨po,ao_,no,co,rfl⟩ := g3.open
      go_wp2_with fail
      replace Jt := Jt.below b29
      replace g1 := g1.below b29
      replace VT := VT.below b29
      replace VO := VO.below b29
      replace BB := BB.trans (b29.mono BB.size)
      clear b29
      refine hK.out _ _ ?_ (fun hH3 => ?_)
      ·exact ⟨VT.1,VT.2.1⟩
      clear hK K hH2
      (try simp only [Act.put,xL4,xL5,xL6])
      refine xT 3 (v := ?_) (hy := Or.inl ⟨by rfl,?_⟩) (h := ?_)
      rotate_left
      ·(intro w hSw; (try dsimp only at hSw); go_simp; (try with_reducible rfl))
      (try simp only [Act.put,xL4,xL5,xL6])
      refine xT 4 (v := ?_) (hy := Or.inl ⟨by rfl,?_⟩) (h := ?_)
      rotate_left
      ·(intro w hSw; (try dsimp only at hSw); go_simp; (try with_reducible rfl))
      (try simp only [Act.put,xL4,xL5,xL6])
      refine xT 5 (v := ?_) (hy := Or.inl ⟨by rfl,?_⟩) (h := ?_)
      rotate_left
      ·(intro w hSw; (try dsimp only at hSw); go_simp; (try with_reducible rfl))
      (try simp only [Act.put,xL4,xL5,xL6])
      refine xR [7] (h := ?_)
      refine xN (h := fun K hK => ?_)
      go_simp
      have hZ41 : w21.heap.size ≤ w29.heap.size := BB.size
      have hN41VT : R5 ≠ w29.heap.size := Nat.ne_of_lt VT.lt
      have hN41VO : R40 ≠ w29.heap.size := Nat.ne_of_lt VO.lt
      obtain ⟨W41,hW41,hS41,hL41,VD⟩ := V2.lay w29 32 (.bool false) (.slice none 0 0)
      replace Jt := Jt.below hL41
      replace g1 := g1.below hL41
      replace g2 := g2.below hL41
      replace g3 := g3.below hL41
      replace VT := VT.below hL41
      replace VO := VO.below hL41
      replace BB := BB.trans (hL41.mono BB.size)
      clear hL41
      rw [← hW41]
      generalize w29.heap.size = R41 at *
      clear hW41 hS41
      refine hK.out _ _ ?_ (fun hH4 => ?_)
      ·exact ⟨VT.1,VT.2.1⟩
      clear hK K hH3
      (try simp only [Act.put,xL4,xL5,xL6])
      refine xR [8] (h := ?_)
      refine xN (h := fun K hK => ?_)
      have hKp := VO.keepJ (.bool pq) (.slice aq nq cq)
      have VT_n := VT.other (R := R40) (by omega) (.bool pq) (.slice aq nq cq)
      have VD_n := VD.other (R := R40) (by omega) (.bool pq) (.slice aq nq cq)
      have VO_n := VO.same (.bool pq) (.slice aq nq cq)
      have Jt_n := Jt.keep hKp
      have g1_n := g1.keep hKp
      have g2_n := g2.keep hKp
      have g3_n := g3.keep hKp
      have BB_n := below_store2 (R := R40) BB (by omega) (.bool pq) (.slice aq nq cq)
      clear hKp
      obtain ⟨VO_0,VO_1,VO_2,VO_3⟩ := id VO
      go_simp
      clear VO_0 VO_1 VO_2 VO_3
      clear BB Jt g1 g2 g3 VT VO VD
      generalize (W41.setCell ⟨R40,0,none⟩ (.bool pq)).setCell ⟨R40,1,none⟩ (.slice aq nq cq) = W42 at *
      have BB := BB_n
      have Jt := Jt_n
      have g1 := g1_n
      have g2 := g2_n
      have g3 := g3_n
      have VT := VT_n
      have VO := VO_n
      have VD := VD_n
      clear BB_n Jt_n g1_n g2_n g3_n VT_n VO_n VD_n
      refine hK.out _ _ ?_ (fun hH5 => ?_)
      ·exact ⟨VT.1,VT.2.1⟩
      clear hK K hH4
      (try simp only [Act.put,xL4,xL5,xL6])
      refine xR [9] (h := ?_)
      refine xN (h := fun K hK => ?_)
      have hKp := VD.keepJ (.bool po) (.slice ao_ no co)
      have VT_n := VT.other (R := R41) (by omega) (.bool po) (.slice ao_ no co)
      have VO_n := VO.other (R := R41) (by omega) (.bool po) (.slice ao_ no co)
      have VD_n := VD.same (.bool po) (.slice ao_ no co)
      have Jt_n := Jt.keep hKp
      have g1_n := g1.keep hKp
      have g2_n := g2.keep hKp
      have g3_n := g3.keep hKp
      have BB_n := below_store2 (R := R41) BB (by omega) (.bool po) (.slice ao_ no co)
      clear hKp
      obtain ⟨VD_0,VD_1,VD_2,VD_3⟩ := id VD
      go_simp
      clear VD_0 VD_1 VD_2 VD_3
      clear BB Jt g1 g2 g3 VT VO VD
      generalize (W42.setCell ⟨R41,0,none⟩ (.bool po)).setCell ⟨R41,1,none⟩ (.slice ao_ no co) = W43 at *
      have BB := BB_n
      have Jt := Jt_n
      have g1 := g1_n
      have g2 := g2_n
      have g3 := g3_n
      have VT := VT_n
      have VO := VO_n
      have VD := VD_n
      clear BB_n Jt_n g1_n g2_n g3_n VT_n VO_n VD_n
      refine hK.out _ _ ?_ (fun hH6 => ?_)
      ·exact ⟨VT.1,VT.2.1⟩
      clear hK K hH5
      (try simp only [Act.put,xL4,xL5,xL6])
      refine wpAnyH_done (by kernel_rfl) ?_ _
      clear hH6
      go_wp2_with fail
      go_meet
      exact ⟨R40,R41,po,ao_,no,co,rfl,rfl,by omega,VD,g3,BB⟩
     refine xC (h := fun K hK => ?_) (hs := ?_)
     ·
      go_simp
      have hZ44 : w21.heap.size ≤ w28.heap.size := BB.size
      have hN44VT : R5 ≠ w28.heap.size := Nat.ne_of_lt VT.lt
      have hN44VO : R40 ≠ w28.heap.size := Nat.ne_of_lt VO.lt
      obtain ⟨W44,hW44,hS44,hL44,VD⟩ := V2.lay w28 32 (.bool false) (.slice none 0 0)
      replace Jt := Jt.below hL44
      replace g1 := g1.below hL44
      replace VT := VT.below hL44
      replace VO := VO.below hL44
      replace BB := BB.trans (hL44.mono BB.size)
      clear hL44
      rw [← hW44]
      generalize w28.heap.size = R44 at *
      clear hW44 hS44
      refine hK.out _ _ ?_ (fun hH3 => ?_)
      ·exact ⟨VT.1,VT.2.1⟩
      clear hK K hH2
      (try simp only [Act.put,xL4,xL5,xL6])
      refine xR [2] (h := ?_)
      refine xN (h := fun K hK => ?_)
      go_simp
      refine (rover_any _ _ r 2 _ Jt g1 (by omega) lr2 l5).mono ?_
      rintro e w30 ⟨e2,e3,rfl,g2,g3,b30⟩
      obtain ⟨pq,aq,nq,cq,rfl⟩ := g2.open
      obtain ⟨po,ao_,no,co,rfl⟩ := g3.open
      go_wp2_with fail
      replace Jt := Jt.below b30
      replace g1 := g1.below b30
      replace VT := VT.below b30
      replace VO := VO.below b30
      replace VD := VD.below b30
      replace BB := BB.trans (b30.mono BB.size)
      clear b30
      refine hK.out _ _ ?_ (fun hH4 => ?_)
      ·exact ⟨VT.1,VT.2.1⟩
      clear hK K hH3
      (try simp only [Act.put,xL4,xL5,xL6])
      refine xT 3 (v := ?_) (hy := Or.inl ⟨by rfl,?_⟩) (h := ?_)
      rotate_left
      ·(intro w hSw; (try dsimp only at hSw); go_simp; (try with_reducible rfl))
      (try simp only [Act.put,xL4,xL5,xL6])
      refine xT 4 (v := ?_) (hy := Or.inl ⟨by rfl,?_⟩) (h := ?_)
      rotate_left
      ·(intro w hSw; (try dsimp only at hSw); go_simp; (try with_reducible rfl))
      (try simp only [Act.put,xL4,xL5,xL6])
      refine xT 5 (v := ?_) (hy := Or.inl ⟨by rfl,?_⟩) (h := ?_)
      rotate_left
      ·(intro w hSw; (try dsimp only at hSw); go_simp; (try with_reducible rfl))
      (try simp only [Act.put,xL4,xL5,xL6])
      refine xR [8] (h := ?_)
      refine xN (h := fun K hK => ?_)
      have hKp := VO.keepJ (.bool pq) (.slice aq nq cq)
      have VT_n := VT.other (R := R40) (by omega) (.bool pq) (.slice aq nq cq)
      have VD_n := VD.other (R := R40) (by omega) (.bool pq) (.slice aq nq cq)
      have VO_n := VO.same (.bool pq) (.slice aq nq cq)
      have Jt_n := Jt.keep hKp
      have g1_n := g1.keep hKp
      have g2_n := g2.keep hKp
      have g3_n := g3.keep hKp
      have BB_n := below_store2 (R := R40) BB (by omega) (.bool pq) (.slice aq nq cq)
      clear hKp
      obtain ⟨VO_0,VO_1,VO_2,VO_3⟩ := id VO
      go_simp
      clear VO_0 VO_1 VO_2 VO_3
      clear BB Jt g1 g2 g3 VT VO VD
      generalize (w30.setCell ⟨R40,0,none⟩ (.bool pq)).setCell ⟨R40,1,none⟩ (.slice aq nq cq) = W45 at *
      have BB := BB_n
      have Jt := Jt_n
      have g1 := g1_n
      have g2 := g2_n
      have g3 := g3_n
      have VT := VT_n
      have VO := VO_n
      have VD := VD_n
      clear BB_n Jt_n g1_n g2_n g3_n VT_n VO_n VD_n
      refine hK.out _ _ ?_ (fun hH5 => ?_)
      ·exact ⟨VT.1,VT.2.1⟩
      clear hK K hH4
      (try simp only [Act.put,xL4,xL5,xL6])
      refine xR [9] (h := ?_)
      refine xN (h := fun K hK => ?_)
      have hKp := VD.keepJ (.bool po) (.slice ao_ no co)
      have VT_n := VT.other (R := R44) (by omega) (.bool po) (.slice ao_ no co)
      have VO_n := VO.other (R := R44) (by omega) (.bool po) (.slice ao_ no co)
      have VD_n := VD.same (.bool po) (.slice ao_ no co)
      have Jt_n := Jt.keep hKp
      have g1_n := g1.keep hKp
      have g2_n := g2.keep hKp
      have g3_n := g3.keep hKp
      have BB_n := below_store2 (R := R44) BB (by omega) (.bool po) (.slice ao_ no co)
      clear hKp
      obtain ⟨VD_0,VD_1,VD_2,VD_3⟩ := id VD
      go_simp
      clear VD_0 VD_1 VD_2 VD_3
      clear BB Jt g1 g2 g3 VT VO VD
      generalize (W45.setCell ⟨R44,0,none⟩ (.bool po)).setCell ⟨R44,1,none⟩ (.slice ao_ no co) = W46 at *
      have BB := BB_n
      have Jt := Jt_n
      have g1 := g1_n
      have g2 := g2_n
      have g3 := g3_n
      have VT := VT_n
      have VO := VO_n
      have VD := VD_n
      clear BB_n Jt_n g1_n g2_n g3_n VT_n VO_n VD_n
      refine hK.out _ _ ?_ (fun hH6 => ?_)
      ·exact ⟨VT.1,VT.2.1⟩
      clear hK K hH5
      (try simp only [Act.put,xL4,xL5,xL6])
      refine wpAnyH_done (by kernel_rfl) ?_ _
      clear hH6
      go_wp2_with fail
      go_meet
      exact ⟨R40,R44,po,ao_,no,co,rfl,rfl,by omega,VD,g3,BB⟩
     exact AllReadyH.nil
    refine xC (h := fun K hK => ?_) (hs := ?_)
    ·
     go_simp
     have hZ47 : w21.heap.size ≤ W40.heap.size := BB.size
     have hN47VT : R5 ≠ W40.heap.size := Nat.ne_of_lt VT.lt
     have hN47VO : R40 ≠ W40.heap.size := Nat.ne_of_lt VO.lt
     obtain ⟨W47,hW47,hS47,hL47,VD⟩ := V2.lay W40 32 (.bool false) (.slice none 0 0)
     replace Jt := Jt.below hL47
     replace VT := VT.below hL47
     replace VO := VO.below hL47
     replace BB := BB.trans (hL47.mono BB.size)
     clear hL47
     rw [← hW47]
     generalize W40.heap.size = R47 at *
     clear hW47 hS47
     refine hK.out _ _ ?_ (fun hH2 => ?_)
     ·exact ⟨VT.1,VT.2.1⟩
     clear hK K hH1
     (try simp only [Act.put,xL4,xL5,xL6])
     refine xR [1] (h := ?_)
     refine xN (h := fun K hK => ?_)
     go_simp
     refine (rsmall_any 2 _ (by omega) (by omega)).mono ?_
     rintro e w31 ⟨e1,rfl,g1,b31⟩
     go_wp2_with fail
     replace Jt := Jt.below b31
     replace VT := VT.below b31
     replace VO := VO.below b31
     replace VD := VD.below b31
     replace BB := BB.trans (b31.mono BB.size)
     clear b31
     refine hK.out _ _ ?_ (fun hH3 => ?_)
     ·exact ⟨VT.1,VT.2.1⟩
     clear hK K hH2
     (try simp only [Act.put,xL4,xL5,xL6])
     refine xR [2] (h := ?_)
     refine xN (h := fun K hK => ?_)
     go_simp
     refine (rover_any _ _ r 2 _ Jt g1 (by omega) lr2 l5).mono ?_
     rintro e w32 ⟨e2,e3,rfl,g2,g3,b32⟩
     obtain ⟨pq,aq,nq,cq,rfl⟩ := g2.open
     obtain ⟨po,ao_,no,co,rfl⟩ := g3.open
     go_wp2_with fail
     replace Jt := Jt.below b32
     replace g1 := g1.below b32
     replace VT := VT.below b32
     replace VO := VO.below b32
     replace VD := VD.below b32
     replace BB := BB.trans (b32.mono BB.size)
     clear b32
     refine hK.out _ _ ?_ (fun hH4 => ?_)
     ·exact ⟨VT.1,VT.2.1⟩
     clear hK K hH3
     (try simp only [Act.put,xL4,xL5,xL6])
     refine xT 3 (v := ?_) (hy := Or.inl ⟨by rfl,?_⟩) (h := ?_)
     rotate_left
     ·(intro w hSw; (try dsimp only at hSw); go_simp; (try with_reducible rfl))
     (try simp only [Act.put,xL4,xL5,xL6])
     refine xT 4 (v := ?_) (hy := Or.inl ⟨by rfl,?_⟩) (h := ?_)
     rotate_left
     ·(intro w hSw; (try dsimp only at hSw); go_simp; (try with_reducible rfl))
     (try simp only [Act.put,xL4,xL5,xL6])
     refine xT 5 (v := ?_) (hy := Or.inl ⟨by rfl,?_⟩) (h := ?_)
     rotate_left
     ·(intro w hSw; (try dsimp only at hSw); go_simp; (try with_reducible rfl))
     (try simp only [Act.put,xL4,xL5,xL6])
     refine xR [8] (h := ?_)
     refine xN (h := fun K hK => ?_)
     have hKp := VO.keepJ (.bool pq) (.slice aq nq cq)
     have VT_n := VT.other (R := R40) (by omega) (.bool pq) (.slice aq nq cq)
     have VD_n := VD.other (R := R40) (by omega) (.bool pq) (.slice aq nq cq)
     have VO_n := VO.same (.bool pq) (.slice aq nq cq)
     have Jt_n := Jt.keep hKp
     have g1_n := g1.keep hKp
     have g2_n := g2.keep hKp
     have g3_n := g3.keep hKp
     have BB_n := below_store2 (R := R40) BB (by omega) (.bool pq) (.slice aq nq cq)
     clear hKp
     obtain ⟨VO_0,VO_1,VO_2,VO_3⟩ := id VO
     go_simp
     clear VO_0 VO_1 VO_2 VO_3
     clear BB Jt g1 g2 g3 VT VO VD
     generalize (w32.setCell ⟨R40,0,none⟩ (.bool pq)).setCell ⟨R40,1,none⟩ (.slice aq nq cq) = W48 at *
     have BB := BB_n
     have Jt := Jt_n
     have g1 := g1_n
     have g2 := g2_n
     have g3 := g3_n
     have VT := VT_n
     have VO := VO_n
     have VD := VD_n
     clear BB_n Jt_n g1_n g2_n g3_n VT_n VO_n VD_n
     refine hK.out _ _ ?_ (fun hH5 => ?_)
     ·exact ⟨VT.1,VT.2.1⟩
     clear hK K hH4
     (try simp only [Act.put,xL4,xL5,xL6])
     refine xR [9] (h := ?_)
     refine xN (h := fun K hK => ?_)
     have hKp := VD.keepJ (.bool po) (.slice ao_ no co)
     have VT_n := VT.other (R := R47) (by omega) (.bool po) (.slice ao_ no co)
     have VO_n := VO.other (R := R47) (by omega) (.bool po) (.slice ao_ no co)
     have VD_n := VD.same (.bool po) (.slice ao_ no co)
     have Jt_n := Jt.keep hKp
     have g1_n := g1.keep hKp
     have g2_n := g2.keep hKp
     have g3_n := g3.keep hKp
     have BB_n := below_store2 (R := R47) BB (by omega) (.bool po) (.slice ao_ no co)
     clear hKp
     obtain ⟨VD_0,VD_1,VD_2,VD_3⟩ := id VD
     go_simp
     clear VD_0 VD_1 VD_2 VD_3
     clear BB Jt g1 g2 g3 VT VO VD
     generalize (W48.setCell ⟨R47,0,none⟩ (.bool po)).setCell ⟨R47,1,none⟩ (.slice ao_ no co) = W49 at *
     have BB := BB_n
     have Jt := Jt_n
     have g1 := g1_n
     have g2 := g2_n
     have g3 := g3_n
     have VT := VT_n
     have VO := VO_n
     have VD := VD_n
     clear BB_n Jt_n g1_n g2_n g3_n VT_n VO_n VD_n
     refine hK.out _ _ ?_ (fun hH6 => ?_)
     ·exact ⟨VT.1,VT.2.1⟩
     clear hK K hH5
     (try simp only [Act.put,xL4,xL5,xL6])
     refine wpAnyH_done (by kernel_rfl) ?_ _
     clear hH6
     go_wp2_with fail
     go_meet
     exact ⟨R40,R47,po,ao_,no,co,rfl,rfl,by omega,VD,g3,BB⟩
    exact AllReadyH.nil
   refine xC (h := fun K hK => ?_) (hs := ?_)
   ·
    go_simp
    have hZ50 : w21.heap.size ≤ W17.heap.size := BB.size
    have hN50VT : R5 ≠ W17.heap.size := Nat.ne_of_lt VT.lt
    obtain ⟨W50,hW50,hS50,hL50,VD⟩ := V2.lay W17 32 (.bool false) (.slice none 0 0)
    replace Jt := Jt.below hL50
    replace VT := VT.below hL50
    replace BB := BB.trans (hL50.mono BB.size)
    clear hL50
    rw [← hW50]
    generalize W17.heap.size = R50 at *
    clear hW50 hS50
    refine hK.out _ _ ?_ (fun hH1 => ?_)
    ·exact ⟨VT.1,VT.2.1⟩
    clear hK K hHeld
    (try simp only [Act.put,xL4,xL5,xL6])
    refine xR [1,6] (h := ?_)
    refine xC (h := fun K hK => ?_) (hs := ?_)
    ·
     go_simp
     refine (rsmall_any 2 _ (by omega) (by omega)).mono ?_
     rintro e w33 ⟨e1,rfl,g1,b33⟩
     go_wp2_with fail
     replace Jt := Jt.below b33
     replace VT := VT.below b33
     replace VD := VD.below b33
     replace BB := BB.trans (b33.mono BB.size)
     clear b33
     refine hK.out _ _ ?_ (fun hH2 => ?_)
     ·exact ⟨VT.1,VT.2.1⟩
     clear hK K hH1
     (try simp only [Act.put,xL4,xL5,xL6])
     refine xR [2,6] (h := ?_)
     refine xC (h := fun K hK => ?_) (hs := ?_)
     ·
      go_simp
      refine (rover_any _ _ r 2 _ Jt g1 (by omega) lr2 l5).mono ?_
      rintro e w34 ⟨e2,e3,rfl,g2,g3,b34⟩
      obtain ⟨pq,aq,nq,cq,rfl⟩ := g2.open
      obtain ⟨po,ao_,no,co,rfl⟩ := g3.open
      go_wp2_with fail
      replace Jt := Jt.below b34
      replace g1 := g1.below b34
      replace VT := VT.below b34
      replace VD := VD.below b34
      replace BB := BB.trans (b34.mono BB.size)
      clear b34
      refine hK.out _ _ ?_ (fun hH3 => ?_)
      ·exact ⟨VT.1,VT.2.1⟩
      clear hK K hH2
      (try simp only [Act.put,xL4,xL5,xL6])
      refine xT 3 (v := ?_) (hy := Or.inl ⟨by rfl,?_⟩) (h := ?_)
      rotate_left
      ·(intro w hSw; (try dsimp only at hSw); go_simp; (try with_reducible rfl))
      (try simp only [Act.put,xL4,xL5,xL6])
      refine xT 4 (v := ?_) (hy := Or.inl ⟨by rfl,?_⟩) (h := ?_)
      rotate_left
      ·(intro w hSw; (try dsimp only at hSw); go_simp; (try with_reducible rfl))
      (try simp only [Act.put,xL4,xL5,xL6])
      refine xT 5 (v := ?_) (hy := Or.inl ⟨by rfl,?_⟩) (h := ?_)
      rotate_left
      ·(intro w hSw; (try dsimp only at hSw); go_simp; (try with_reducible rfl))
      (try simp only [Act.put,xL4,xL5,xL6])
      refine xR [6] (h := ?_)
      refine xN (h := fun K hK => ?_)
      go_simp
      have hZ51 : w21.heap.size ≤ w34.heap.size := BB.size
      have hN51VT : R5 ≠ w34.heap.size := Nat.ne_of_lt VT.lt
      have hN51VD : R50 ≠ w34.heap.size := Nat.ne_of_lt VD.lt
      obtain ⟨W51,hW51,hS51,hL51,VO⟩ := V2.lay w34 32 (.bool false) (.slice none 0 0)
      replace Jt := Jt.below hL51
      replace g1 := g1.below hL51
      replace g2 := g2.below hL51
      replace g3 := g3.below hL51
      replace VT := VT.below hL51
      replace VD := VD.below hL51
      replace BB := BB.trans (hL51.mono BB.size)
      clear hL51
      rw [← hW51]
      generalize w34.heap.size = R51 at *
      clear hW51 hS51
      refine hK.out _ _ ?_ (fun hH4 => ?_)
      ·exact ⟨VT.1,VT.2.1⟩
      clear hK K hH3
      (try simp only [Act.put,xL4,xL5,xL6])
      refine xR [8] (h := ?_)
      refine xN (h := fun K hK => ?_)
      have hKp := VO.keepJ (.bool pq) (.slice aq nq cq)
      have VT_n := VT.other (R := R51) (by omega) (.bool pq) (.slice aq nq cq)
      have VD_n := VD.other (R := R51) (by omega) (.bool pq) (.slice aq nq cq)
      have VO_n := VO.same (.bool pq) (.slice aq nq cq)
      have Jt_n := Jt.keep hKp
      have g1_n := g1.keep hKp
      have g2_n := g2.keep hKp
      have g3_n := g3.keep hKp
      have BB_n := below_store2 (R := R51) BB (by omega) (.bool pq) (.slice aq nq cq)
      clear hKp
      obtain ⟨VO_0,VO_1,VO_2,VO_3⟩ := id VO
      go_simp
      clear VO_0 VO_1 VO_2 VO_3
      clear BB Jt g1 g2 g3 VT VD VO
      generalize (W51.setCell ⟨R51,0,none⟩ (.bool pq)).setCell ⟨R51,1,none⟩ (.slice aq nq cq) = W52 at *
      have BB := BB_n
      have Jt := Jt_n
      have g1 := g1_n
      have g2 := g2_n
      have g3 := g3_n
      have VT := VT_n
      have VD := VD_n
      have VO := VO_n
      clear BB_n Jt_n g1_n g2_n g3_n VT_n VD_n VO_n
      refine hK.out _ _ ?_ (fun hH5 => ?_)
      ·exact ⟨VT.1,VT.2.1⟩
      clear hK K hH4
      (try simp only [Act.put,xL4,xL5,xL6])
      refine xR [9] (h := ?_)
      refine xN (h := fun K hK => ?_)
      have hKp := VD.keepJ (.bool po) (.slice ao_ no co)
      have VT_n := VT.other (R := R50) (by omega) (.bool po) (.slice ao_ no co)
      have VO_n := VO.other (R := R50) (by omega) (.bool po) (.slice ao_ no co)
      have VD_n := VD.same (.bool po) (.slice ao_ no co)
      have Jt_n := Jt.keep hKp
      have g1_n := g1.keep hKp
      have g2_n := g2.keep hKp
      have g3_n := g3.keep hKp
      have BB_n := below_store2 (R := R50) BB (by omega) (.bool po) (.slice ao_ no co)
      clear hKp
      obtain ⟨VD_0,VD_1,VD_2,VD_3⟩ := id VD
      go_simp
      clear VD_0 VD_1 VD_2 VD_3
      clear BB Jt g1 g2 g3 VT VD VO
      generalize (W52.setCell ⟨R50,0,none⟩ (.bool po)).setCell ⟨R50,1,none⟩ (.slice ao_ no co) = W53 at *
      have BB := BB_n
      have Jt := Jt_n
      have g1 := g1_n
      have g2 := g2_n
      have g3 := g3_n
      have VT := VT_n
      have VD := VD_n
      have VO := VO_n
      clear BB_n Jt_n g1_n g2_n g3_n VT_n VD_n VO_n
      refine hK.out _ _ ?_ (fun hH6 => ?_)
      ·exact ⟨VT.1,VT.2.1⟩
      clear hK K hH5
      (try simp only [Act.put,xL4,xL5,xL6])
      refine wpAnyH_done (by kernel_rfl) ?_ _
      clear hH6
      go_wp2_with fail
      go_meet
      exact ⟨R51,R50,po,ao_,no,co,rfl,rfl,by omega,VD,g3,BB⟩
     refine xC (h := fun K hK => ?_) (hs := ?_)
     ·
      go_simp
      have hZ54 : w21.heap.size ≤ w33.heap.size := BB.size
      have hN54VT : R5 ≠ w33.heap.size := Nat.ne_of_lt VT.lt
      have hN54VD : R50 ≠ w33.heap.size := Nat.ne_of_lt VD.lt
      obtain ⟨W54,hW54,hS54,hL54,VO⟩ := V2.lay w33 32 (.bool false) (.slice none 0 0)
      replace Jt := Jt.below hL54
      replace g1 := g1.below hL54
      replace VT := VT.below hL54
      replace VD := VD.below hL54
      replace BB := BB.trans (hL54.mono BB.size)
      clear hL54
      rw [← hW54]
      generalize w33.heap.size = R54 at *
      clear hW54 hS54
      refine hK.out _ _ ?_ (fun hH3 => ?_)
      ·exact ⟨VT.1,VT.2.1⟩
      clear hK K hH2
      (try simp only [Act.put,xL4,xL5,xL6])
      refine xR [2] (h := ?_)
      refine xN (h := fun K hK => ?_)
      go_simp
      refine (rover_any _ _ r 2 _ Jt g1 (by omega) lr2 l5).mono ?_
      rintro e w35 ⟨e2,e3,rfl,g2,g3,b35⟩
      obtain ⟨pq,aq,nq,cq,rfl⟩ := g2.open
      obtain ⟨po,ao_,no,co,rfl⟩ := g3.open
      go_wp2_with fail
      replace Jt := Jt.below b35
      replace g1 := g1.below b35
      replace VT := VT.below b35
      replace VD := VD.below b35
      replace VO := VO.below b35
      replace BB := BB.trans (b35.mono BB.size)
      clear b35
      refine hK.out _ _ ?_ (fun hH4 => ?_)
      ·exact ⟨VT.1,VT.2.1⟩
      clear hK K hH3
      (try simp only [Act.put,xL4,xL5,xL6])
      refine xT 3 (v := ?_) (hy := Or.inl ⟨by rfl,?_⟩) (h := ?_)
      rotate_left
      ·(intro w hSw; (try dsimp only at hSw); go_simp; (try with_reducible rfl))
      (try simp only [Act.put,xL4,xL5,xL6])
      refine xT 4 (v := ?_) (hy := Or.inl ⟨by rfl,?_⟩) (h := ?_)
      rotate_left
      ·(intro w hSw; (try dsimp only at hSw); go_simp; (try with_reducible rfl))
      (try simp only [Act.put,xL4,xL5,xL6])
      refine xT 5 (v := ?_) (hy := Or.inl ⟨by rfl,?_⟩) (h := ?_)
      rotate_left
      ·(intro w hSw; (try dsimp only at hSw); go_simp; (try with_reducible rfl))
      (try simp only [Act.put,xL4,xL5,xL6])
      refine xR [8] (h := ?_)
      refine xN (h := fun K hK => ?_)
      have hKp := VO.keepJ (.bool pq) (.slice aq nq cq)
      have VT_n := VT.other (R := R54) (by omega) (.bool pq) (.slice aq nq cq)
      have VD_n := VD.other (R := R54) (by omega) (.bool pq) (.slice aq nq cq)
      have VO_n := VO.same (.bool pq) (.slice aq nq cq)
      have Jt_n := Jt.keep hKp
      have g1_n := g1.keep hKp
      have g2_n := g2.keep hKp
      have g3_n := g3.keep hKp
      have BB_n := below_store2 (R := R54) BB (by omega) (.bool pq) (.slice aq nq cq)
      clear hKp
      obtain ⟨VO_0,VO_1,VO_2,VO_3⟩ := id VO
      go_simp
      clear VO_0 VO_1 VO_2 VO_3
      clear BB Jt g1 g2 g3 VT VD VO
      generalize (w35.setCell ⟨R54,0,none⟩ (.bool pq)).setCell ⟨R54,1,none⟩ (.slice aq nq cq) = W55 at *
      have BB := BB_n
      have Jt := Jt_n
      have g1 := g1_n
      have g2 := g2_n
      have g3 := g3_n
      have VT := VT_n
      have VD := VD_n
      have VO := VO_n
      clear BB_n Jt_n g1_n g2_n g3_n VT_n VD_n VO_n
      refine hK.out _ _ ?_ (fun hH5 => ?_)
      ·exact ⟨VT.1,VT.2.1⟩
      clear hK K hH4
      (try simp only [Act.put,xL4,xL5,xL6])
      refine xR [9] (h := ?_)
      refine xN (h := fun K hK => ?_)
      have hKp := VD.keepJ (.bool po) (.slice ao_ no co)
      have VT_n := VT.other (R := R50) (by omega) (.bool po) (.slice ao_ no co)
      have VO_n := VO.other (R := R50) (by omega) (.bool po) (.slice ao_ no co)
      have VD_n := VD.same (.bool po) (.slice ao_ no co)
      have Jt_n := Jt.keep hKp
      have g1_n := g1.keep hKp
      have g2_n := g2.keep hKp
      have g3_n := g3.keep hKp
      have BB_n := below_store2 (R := R50) BB (by omega) (.bool po) (.slice ao_ no co)
      clear hKp
      obtain ⟨VD_0,VD_1,VD_2,VD_3⟩ := id VD
      go_simp
      clear VD_0 VD_1 VD_2 VD_3
      clear BB Jt g1 g2 g3 VT VD VO
      generalize (W55.setCell ⟨R50,0,none⟩ (.bool po)).setCell ⟨R50,1,none⟩ (.slice ao_ no co) = W56 at *
      have BB := BB_n
      have Jt := Jt_n
      have g1 := g1_n
      have g2 := g2_n
      have g3 := g3_n
      have VT := VT_n
      have VD := VD_n
      have VO := VO_n
      clear BB_n Jt_n g1_n g2_n g3_n VT_n VD_n VO_n
      refine hK.out _ _ ?_ (fun hH6 => ?_)
      ·exact ⟨VT.1,VT.2.1⟩
      clear hK K hH5
      (try simp only [Act.put,xL4,xL5,xL6])
      refine wpAnyH_done (by kernel_rfl) ?_ _
      clear hH6
      go_wp2_with fail
      go_meet
      exact ⟨R54,R50,po,ao_,no,co,rfl,rfl,by omega,VD,g3,BB⟩
     exact AllReadyH.nil
    refine xC (h := fun K hK => ?_) (hs := ?_)
    ·
     go_simp
     have hZ57 : w21.heap.size ≤ W50.heap.size := BB.size
     have hN57VT : R5 ≠ W50.heap.size := Nat.ne_of_lt VT.lt
     have hN57VD : R50 ≠ W50.heap.size := Nat.ne_of_lt VD.lt
     obtain ⟨W57,hW57,hS57,hL57,VO⟩ := V2.lay W50 32 (.bool false) (.slice none 0 0)
     replace Jt := Jt.below hL57
     replace VT := VT.below hL57
     replace VD := VD.below hL57
     replace BB := BB.trans (hL57.mono BB.size)
     clear hL57
     rw [← hW57]
     generalize W50.heap.size = R57 at *
     clear hW57 hS57
     refine hK.out _ _ ?_ (fun hH2 => ?_)
     ·exact ⟨VT.1,VT.2.1⟩
     clear hK K hH1
     (try simp only [Act.put,xL4,xL5,xL6])
     refine xR [1] (h := ?_)
     refine xN (h := fun K hK => ?_)
     go_simp
     refine (rsmall_any 2 _ (by omega) (by omega)).mono ?_
     rintro e w36 ⟨e1,rfl,g1,b36⟩
     go_wp2_with fail
     replace Jt := Jt.below b36
     replace VT := VT.below b36
     replace VD := VD.below b36
     replace VO := VO.below b36
     replace BB := BB.trans (b36.mono BB.size)
     clear b36
     refine hK.out _ _ ?_ (fun hH3 => ?_)
     ·exact ⟨VT.1,VT.2.1⟩
     clear hK K hH2
     (try simp only [Act.put,xL4,xL5,xL6])
     refine xR [2] (h := ?_)
     refine xN (h := fun K hK => ?_)
     go_simp
     refine (rover_any _ _ r 2 _ Jt g1 (by omega) lr2 l5).mono ?_
     rintro e w37 ⟨e2,e3,rfl,g2,g3,b37⟩
     obtain ⟨pq,aq,nq,cq,rfl⟩ := g2.open
     obtain ⟨po,ao_,no,co,rfl⟩ := g3.open
     go_wp2_with fail
     replace Jt := Jt.below b37
     replace g1 := g1.below b37
     replace VT := VT.below b37
     replace VD := VD.below b37
     replace VO := VO.below b37
     replace BB := BB.trans (b37.mono BB.size)
     clear b37
     refine hK.out _ _ ?_ (fun hH4 => ?_)
     ·exact ⟨VT.1,VT.2.1⟩
     clear hK K hH3
     (try simp only [Act.put,xL4,xL5,xL6])
     refine xT 3 (v := ?_) (hy := Or.inl ⟨by rfl,?_⟩) (h := ?_)
     rotate_left
     ·(intro w hSw; (try dsimp only at hSw); go_simp; (try with_reducible rfl))
     (try simp only [Act.put,xL4,xL5,xL6])
     refine xT 4 (v := ?_) (hy := Or.inl ⟨by rfl,?_⟩) (h := ?_)
     rotate_left
     ·(intro w hSw; (try dsimp only at hSw); go_simp; (try with_reducible rfl))
     (try simp only [Act.put,xL4,xL5,xL6])
     refine xT 5 (v := ?_) (hy := Or.inl ⟨by rfl,?_⟩) (h := ?_)
     rotate_left
     ·(intro w hSw; (try dsimp only at hSw); go_simp; (try with_reducible rfl))
     (try simp only [Act.put,xL4,xL5,xL6])
     refine xR [8] (h := ?_)
     refine xN (h := fun K hK => ?_)
     have hKp := VO.keepJ (.bool pq) (.slice aq nq cq)
     have VT_n := VT.other (R := R57) (by omega) (.bool pq) (.slice aq nq cq)
     have VD_n := VD.other (R := R57) (by omega) (.bool pq) (.slice aq nq cq)
     have VO_n := VO.same (.bool pq) (.slice aq nq cq)
     have Jt_n := Jt.keep hKp
     have g1_n := g1.keep hKp
     have g2_n := g2.keep hKp
     have g3_n := g3.keep hKp
     have BB_n := below_store2 (R := R57) BB (by omega) (.bool pq) (.slice aq nq cq)
     clear hKp
     obtain ⟨VO_0,VO_1,VO_2,VO_3⟩ := id VO
     go_simp
     clear VO_0 VO_1 VO_2 VO_3
     clear BB Jt g1 g2 g3 VT VD VO
     generalize (w37.setCell ⟨R57,0,none⟩ (.bool pq)).setCell ⟨R57,1,none⟩ (.slice aq nq cq) = W58 at *
     have BB := BB_n
     have Jt := Jt_n
     have g1 := g1_n
     have g2 := g2_n
     have g3 := g3_n
     have VT := VT_n
     have VD := VD_n
     have VO := VO_n
     clear BB_n Jt_n g1_n g2_n g3_n VT_n VD_n VO_n
     refine hK.out _ _ ?_ (fun hH5 => ?_)
     ·exact ⟨VT.1,VT.2.1⟩
     clear hK K hH4
     (try simp only [Act.put,xL4,xL5,xL6])
     refine xR [9] (h := ?_)
     refine xN (h := fun K hK => ?_)
     have hKp := VD.keepJ (.bool po) (.slice ao_ no co)
     have VT_n := VT.other (R := R50) (by omega) (.bool po) (.slice ao_ no co)
     have VO_n := VO.other (R := R50) (by omega) (.bool po) (.slice ao_ no co)
     have VD_n := VD.same (.bool po) (.slice ao_ no co)
     have Jt_n := Jt.keep hKp
     have g1_n := g1.keep hKp
     have g2_n := g2.keep hKp
     have g3_n := g3.keep hKp
     have BB_n := below_store2 (R := R50) BB (by omega) (.bool po) (.slice ao_ no co)
     clear hKp
     obtain ⟨VD_0,VD_1,VD_2,VD_3⟩ := id VD
     go_simp
     clear VD_0 VD_1 VD_2 VD_3
     clear BB Jt g1 g2 g3 VT VD VO
     generalize (W58.setCell ⟨R50,0,none⟩ (.bool po)).setCell ⟨R50,1,none⟩ (.slice ao_ no co) = W59 at *
     have BB := BB_n
     have Jt := Jt_n
     have g1 := g1_n
     have g2 := g2_n
     have g3 := g3_n
     have VT := VT_n
     have VD := VD_n
     have VO := VO_n
     clear BB_n Jt_n g1_n g2_n g3_n VT_n VD_n VO_n
     refine hK.out _ _ ?_ (fun hH6 => ?_)
     ·exact ⟨VT.1,VT.2.1⟩
     clear hK K hH5
     (try simp only [Act.put,xL4,xL5,xL6])
     refine wpAnyH_done (by kernel_rfl) ?_ _
     clear hH6
     go_wp2_with fail
     go_meet
     exact ⟨R57,R50,po,ao_,no,co,rfl,rfl,by omega,VD,g3,BB⟩
    exact AllReadyH.nil
   exact AllReadyH.nil
  case rest =>
   obtain ⟨RO,RD,po,ao_,no,co,rfl,rfl,hRD,VD,JD,hbW⟩ := hcut
   have hkVA : w.heap.size < w21.heap.size := VA.lt
   have hkVX : R2 < w21.heap.size := VX.lt
   have hkVF : R3 < w21.heap.size := VF.lt
   have hkVC : R4 < w21.heap.size := VC.lt
   have hkVT : R5 < w21.heap.size := VT.lt
   replace ht := ht.below hbW
   replace Ix := Ix.below hbW
   replace Jx := Jx.below hbW
   replace Jf := Jf.below hbW
   replace Jc := Jc.below hbW
   replace Jt := Jt.below hbW
   replace VA := VA.below hbW
   replace VX := VX.below hbW
   replace VF := VF.below hbW
   replace VC := VC.below hbW
   replace VT := VT.below hbW
   replace BB := BB.trans (hbW.mono BB.size)
   clear hbW
   obtain ⟨g0,g1,g2⟩ := id HN.out
   have hlo0 : lo_ ≥ 0 := cl.2 g0
   have hhi0 : hi_ ≤ 0 := ch.2 g1
   clear hlo hhi
   by_cases hA : lo_ > 0
   ·by_cases hB : hi_ < 0
    ·clear cl ch HN g0 g1 g2
     obtain ⟨VD_0,VD_1,VD_2,VD_3⟩ := id VD
     go_wp2
     clear VD_0 VD_1 VD_2 VD_3
     have hDr : Below wc.heap.size wc wc.drew := (Below.refl _ _).drew
     replace ht := ht.below hDr
     replace Ix := Ix.below hDr
     replace Jx := Jx.below hDr
     replace Jf := Jf.below hDr
     replace Jc := Jc.below hDr
     replace Jt := Jt.below hDr
     replace VA := VA.below hDr
     replace VX := VX.below hDr
     replace VF := VF.below hDr
     replace VC := VC.below hDr
     replace VT := VT.below hDr
     replace VD := VD.below hDr
     replace BB := BB.trans (hDr.mono BB.size)
     clear hDr
     refine wp_region_held_drew (S := (fun w' => w'.cell? ⟨w.heap.size,0,none⟩ = some (.bool p) ∧ w'.cell? ⟨w.heap.size,1,none⟩ = some (.slice ao n c) ∧ w'.cell? ⟨w.heap.size,2,none⟩ = some (.slice bo m d) ∧ w'.cell? ⟨R3,0,none⟩ = some (.bool pf) ∧ w'.cell? ⟨R3,1,none⟩ = some (.slice af nf cf) ∧ w'.cell? ⟨R4,0,none⟩ = some (.bool pc) ∧ w'.cell? ⟨R4,1,none⟩ = some (.slice ac nc cc))) (by kernel_rfl) ?_ (fun hHeld => ?_)
     ·exact ⟨VA.1,VA.2.1,VA.2.2.1,VF.1,VF.2.1,VC.1,VC.2.1⟩
     generalize wc.drew = W60 at *
     refine xT 0 (v := ?_) (hy := Or.inl ⟨by rfl,?_⟩) (h := ?_)
     rotate_left
     ·(intro w hSw; (try dsimp only at hSw); go_simp; (try with_reducible rfl))
     (try simp only [Act.put,xL4,xL5,xL6])
     refine xT 2 (v := ?_) (hy := Or.inl ⟨by rfl,?_⟩) (h := ?_)
     rotate_left
     ·(intro w hSw; (try dsimp only at hSw); go_simp; (try with_reducible rfl))
     (try simp only [Act.put,xL4,xL5,xL6])
     refine xR [1] (h := ?_)
     refine xN (h := fun K hK => ?_)
     go_simp
     refine (qfloor_at _ q 8 _ Ix (by omega) (by omega)).mono ?_
     rintro e w38 ⟨t1,rfl,h1,b38⟩
     go_wp2_with fail
     replace ht := ht.below b38
     replace Ix := Ix.below b38
     replace Jx := Jx.below b38
     replace Jf := Jf.below b38
     replace Jc := Jc.below b38
     replace Jt := Jt.below b38
     replace VA := VA.below b38
     replace VX := VX.below b38
     replace VF := VF.below b38
     replace VC := VC.below b38
     replace VT := VT.below b38
     replace VD := VD.below b38
     replace BB := BB.trans (b38.mono BB.size)
     clear b38
     refine hK.out _ _ ?_ (fun hH1 => ?_)
     ·exact ⟨VA.1,VA.2.1,VA.2.2.1,VF.1,VF.2.1,VC.1,VC.2.1⟩
     clear hK K hHeld
     (try simp only [Act.put,xL4,xL5,xL6])
     refine xR [3] (h := ?_)
     refine xN (h := fun K hK => ?_)
     go_simp
     refine (ris_rep _ _ q.floor _ h1 lf Jf).mono ?_
     rintro e w39 ⟨rfl,b39⟩
     go_wp2_with fail
     replace ht := ht.below b39
     replace Ix := Ix.below b39
     replace Jx := Jx.below b39
     replace Jf := Jf.below b39
     replace Jc := Jc.below b39
     replace Jt := Jt.below b39
     replace h1 := h1.below b39
     replace VA := VA.below b39
     replace VX := VX.below b39
     replace VF := VF.below b39
     replace VC := VC.below b39
     replace VT := VT.below b39
     replace VD := VD.below b39
     replace BB := BB.trans (b39.mono BB.size)
     clear b39
     refine hK.out _ _ ?_ (fun hH2 => ?_)
     ·exact ⟨VA.1,VA.2.1,VA.2.2.1,VF.1,VF.2.1,VC.1,VC.2.1⟩
     clear hK K hH1
     (try simp only [Act.put,xL4,xL5,xL6])
     refine xT 4 (v := ?_) (hy := Or.inl ⟨by rfl,?_⟩) (h := ?_)
     rotate_left
     ·(intro w hSw; (try dsimp only at hSw); go_simp; (try with_reducible rfl))
     (try simp only [Act.put,xL4,xL5,xL6])
     refine xT 5 (v := ?_) (hy := Or.inl ⟨by rfl,?_⟩) (h := ?_)
     rotate_left
     ·(intro w hSw; (try dsimp only at hSw); go_simp; (try with_reducible rfl))
     (try simp only [Act.put,xL4,xL5,xL6])
     refine xT 7 (v := ?_) (hy := Or.inl ⟨by rfl,?_⟩) (h := ?_)
     rotate_left
     ·(intro w hSw; (try dsimp only at hSw); go_simp; (try with_reducible rfl))
     (try simp only [Act.put,xL4,xL5,xL6])
     refine xR [6] (h := ?_)
     refine xN (h := fun K hK => ?_)
     go_simp
     refine (qceil_at _ q 8 _ Ix (by omega) (by omega)).mono ?_
     rintro e w40 ⟨t2,rfl,h2,b40⟩
     go_wp2_with fail
     replace ht := ht.below b40
     replace Ix := Ix.below b40
     replace Jx := Jx.below b40
     replace Jf := Jf.below b40
     replace Jc := Jc.below b40
     replace Jt := Jt.below b40
     replace h1 := h1.below b40
     replace VA := VA.below b40
     replace VX := VX.below b40
     replace VF := VF.below b40
     replace VC := VC.below b40
     replace VT := VT.below b40
     replace VD := VD.below b40
     replace BB := BB.trans (b40.mono BB.size)
     clear b40
     refine hK.out _ _ ?_ (fun hH3 => ?_)
     ·exact ⟨VA.1,VA.2.1,VA.2.2.1,VF.1,VF.2.1,VC.1,VC.2.1⟩
     clear hK K hH2
     (try simp only [Act.put,xL4,xL5,xL6])
     refine xR [8] (h := ?_)
     refine xN (h := fun K hK => ?_)
     go_simp
     refine (ris_rep _ _ (-((-q).floor)) _ h2 lc Jc).mono ?_
     rintro e w41 ⟨rfl,b41⟩
     go_wp2_with fail
     replace ht := ht.below b41
     replace Ix := Ix.below b41
     replace Jx := Jx.below b41
     replace Jf := Jf.below b41
     replace Jc := Jc.below b41
     replace Jt := Jt.below b41
     replace h1 := h1.below b41
     replace h2 := h2.below b41
     replace VA := VA.below b41
     replace VX := VX.below b41
     replace VF := VF.below b41
     replace VC := VC.below b41
     replace VT := VT.below b41
     replace VD := VD.below b41
     replace BB := BB.trans (b41.mono BB.size)
     clear b41
     refine hK.out _ _ ?_ (fun hH4 => ?_)
     ·exact ⟨VA.1,VA.2.1,VA.2.2.1,VF.1,VF.2.1,VC.1,VC.2.1⟩
     clear hK K hH3
     (try simp only [Act.put,xL4,xL5,xL6])
     refine xT 9 (v := ?_) (hy := Or.inl ⟨by rfl,?_⟩) (h := ?_)
     rotate_left
     ·(intro w hSw; (try dsimp only at hSw); go_simp; (try with_reducible rfl))
     (try simp only [Act.put,xL4,xL5,xL6])
     refine xT 10 (v := ?_) (hy := Or.inl ⟨by rfl,?_⟩) (h := ?_)
     rotate_left
     ·(intro w hSw; (try dsimp only at hSw); go_simp; (try with_reducible rfl))
     (try simp only [Act.put,xL4,xL5,xL6])
     refine xT 11 (v := ?_) (hy := Or.inl ⟨by rfl,?_⟩) (h := ?_)
     rotate_left
     ·(intro w hSw; (try dsimp only at hSw); go_simp; (try with_reducible rfl))
     (try simp only [Act.put,xL4,xL5,xL6])
     refine xT 12 (v := ?_) (hy := Or.inl ⟨by rfl,?_⟩) (h := ?_)
     rotate_left
     ·(intro w hSw; (try dsimp only at hSw); go_simp; (try with_reducible rfl))
     (try simp only [Act.put,xL4,xL5,xL6])
     refine xT 13 (v := ?_) (hy := Or.inl ⟨by rfl,?_⟩) (h := ?_)
     rotate_left
     ·(intro w hSw; (try dsimp only at hSw); go_simp; (try with_reducible rfl))
     (try simp only [Act.put,xL4,xL5,xL6])
     refine xT 14 (v := ?_) (hy := Or.inl ⟨by rfl,?_⟩) (h := ?_)
     rotate_left
     ·(intro w hSw; (try dsimp only at hSw); go_simp; (try with_reducible rfl))
     (try simp only [Act.put,xL4,xL5,xL6])
     refine xT 15 (v := ?_) (hy := Or.inl ⟨by rfl,?_⟩) (h := ?_)
     rotate_left
     ·(intro w hSw; (try dsimp only at hSw); go_simp; (try with_reducible rfl))
     (try simp only [Act.put,xL4,xL5,xL6])
     refine xT 16 (v := ?_) (hy := Or.inl ⟨by rfl,?_⟩) (h := ?_)
     rotate_left
     ·(intro w hSw; (try dsimp only at hSw); go_simp; (try with_reducible rfl))
     (try simp only [Act.put,xL4,xL5,xL6])
     refine xT 17 (v := ?_) (hy := Or.inl ⟨by rfl,?_⟩) (h := ?_)
     rotate_left
     ·(intro w hSw; (try dsimp only at hSw); go_simp; (try with_reducible rfl))
     (try simp only [Act.put,xL4,xL5,xL6])
     refine xT 18 (v := ?_) (hy := Or.inl ⟨by rfl,?_⟩) (h := ?_)
     rotate_left
     ·(intro w hSw; (try dsimp only at hSw); go_simp; (try with_reducible rfl))
     (try simp only [Act.put,xL4,xL5,xL6])
     refine xT 19 (v := ?_) (hy := Or.inl ⟨by rfl,?_⟩) (h := ?_)
     rotate_left
     ·(intro w hSw; (try dsimp only at hSw); go_simp; (try with_reducible rfl))
     (try simp only [Act.put,xL4,xL5,xL6])
     refine xT 20 (v := ?_) (hy := Or.inl ⟨by rfl,?_⟩) (h := ?_)
     rotate_left
     ·(intro w hSw; (try dsimp only at hSw); go_simp; (try with_reducible rfl))
     (try simp only [Act.put,xL4,xL5,xL6])
     refine xT 21 (v := ?_) (hy := Or.inl ⟨by rfl,?_⟩) (h := ?_)
     rotate_left
     ·(intro w hSw; (try dsimp only at hSw); go_simp; (try with_reducible rfl))
     (try simp only [Act.put,xL4,xL5,xL6])
     refine xT 22 (v := ?_) (hy := Or.inl ⟨by rfl,?_⟩) (h := ?_)
     rotate_left
     ·(intro w hSw; (try dsimp only at hSw); go_simp; (try with_reducible rfl))
     (try simp only [Act.put,xL4,xL5,xL6])
     refine xT 23 (v := ?_) (hy := Or.inl ⟨by rfl,?_⟩) (h := ?_)
     rotate_left
     ·(intro w hSw; (try dsimp only at hSw); go_simp; (try with_reducible rfl))
     (try simp only [Act.put,xL4,xL5,xL6])
     refine xT 24 (v := ?_) (hy := Or.inl ⟨by rfl,?_⟩) (h := ?_)
     rotate_left
     ·(intro w hSw; (try dsimp only at hSw); go_simp; (try with_reducible rfl))
     (try simp only [Act.put,xL4,xL5,xL6])
     refine xT 25 (v := ?_) (hy := Or.inl ⟨by rfl,?_⟩) (h := ?_)
     rotate_left
     ·(intro w hSw; (try dsimp only at hSw); go_simp; (try with_reducible rfl))
     (try simp only [Act.put,xL4,xL5,xL6])
     refine xT 26 (v := undef) (hy := Or.inr ⟨by rfl,rfl⟩) (h := ?_)
     (try simp only [Act.put,xL4,xL5,xL6])
     refine xT 27 (v := ?_) (hy := Or.inl ⟨by rfl,?_⟩) (h := ?_)
     rotate_left
     ·(intro w hSw; (try dsimp only at hSw); go_simp; (try with_reducible rfl))
     (try simp only [Act.put,xL4,xL5,xL6])
     refine xT 28 (v := ?_) (hy := Or.inl ⟨by rfl,?_⟩) (h := ?_)
     rotate_left
     ·(intro w hSw; (try dsimp only at hSw); go_simp; (try with_reducible rfl))
     (try simp only [Act.put,xL4,xL5,xL6])
     refine xT 29 (v := ?_) (hy := Or.inl ⟨by rfl,?_⟩) (h := ?_)
     rotate_left
     ·(intro w hSw; (try dsimp only at hSw); go_simp; (try with_reducible rfl))
     (try simp only [Act.put,xL4,xL5,xL6])
     refine xR [30] (h := ?_)
     refine xN (h := fun K hK => ?_)
     go_simp
     refine (qawake_at _ ht).mono ?_
     rintro e w42 ⟨rfl,b42⟩
     go_wp2_with fail
     replace ht := ht.below b42
     replace Ix := Ix.below b42
     replace Jx := Jx.below b42
     replace Jf := Jf.below b42
     replace Jc := Jc.below b42
     replace Jt := Jt.below b42
     replace h1 := h1.below b42
     replace h2 := h2.below b42
     replace VA := VA.below b42
     replace VX := VX.below b42
     replace VF := VF.below b42
     replace VC := VC.below b42
     replace VT := VT.below b42
     replace VD := VD.below b42
     replace BB := BB.trans (b42.mono BB.size)
     clear b42
     refine hK.out _ _ ?_ (fun hH5 => ?_)
     ·exact ⟨VA.1,VA.2.1,VA.2.2.1,VF.1,VF.2.1,VC.1,VC.2.1⟩
     clear hK K hH4
     (try simp only [Act.put,xL4,xL5,xL6])
     refine xT 31 (v := ?_) (hy := Or.inl ⟨by rfl,?_⟩) (h := ?_)
     rotate_left
     ·(intro w hSw; (try dsimp only at hSw); go_simp; (try with_reducible rfl))
     (try simp only [Act.put,xL4,xL5,xL6])
     refine xT 32 (v := ?_) (hy := Or.inl ⟨by rfl,?_⟩) (h := ?_)
     rotate_left
     ·(intro w hSw; (try dsimp only at hSw); go_simp; (try with_reducible rfl))
     (try simp only [Act.put,xL4,xL5,xL6])
     refine wpAnyH_done (by kernel_rfl) ?_ _
     clear hH5
     go_wp2
     go_ret
     exact ⟨rfl,BB⟩
    ·have hev : r % 2 = 0 := g2 fun h => hB (ch.1.2 h.2)
     have hB0 : hi_ = 0 := by omega
     clear cl ch HN g0 g1 g2 hB hhi0
     subst hB0
     have hno : no = 0 := by
      obtain ⟨ao5,c5,e5,_⟩ := id JD
      simp only [Value.agg.injEq,Array.mk.injEq,List.cons.injEq,Value.bool.injEq,Value.slice.injEq,and_true] at e5
      obtain ⟨_,_,e6,_⟩ := e5
      rw [e6,show r.fmod 2 = 0 by rw [Int.fmod_eq_emod_of_nonneg _ (by omega)]; exact hev]; exact nl_zero _
     subst hno
     clear hev JD
     obtain ⟨VD_0,VD_1,VD_2,VD_3⟩ := id VD
     go_wp2
     clear VD_0 VD_1 VD_2 VD_3
     have hDr : Below wc.heap.size wc wc.drew := (Below.refl _ _).drew
     replace ht := ht.below hDr
     replace Ix := Ix.below hDr
     replace Jx := Jx.below hDr
     replace Jf := Jf.below hDr
     replace Jc := Jc.below hDr
     replace Jt := Jt.below hDr
     replace VA := VA.below hDr
     replace VX := VX.below hDr
     replace VF := VF.below hDr
     replace VC := VC.below hDr
     replace VT := VT.below hDr
     replace VD := VD.below hDr
     replace BB := BB.trans (hDr.mono BB.size)
     clear hDr
     refine wp_region_held_drew (S := (fun w' => w'.cell? ⟨w.heap.size,0,none⟩ = some (.bool p) ∧ w'.cell? ⟨w.heap.size,1,none⟩ = some (.slice ao n c) ∧ w'.cell? ⟨w.heap.size,2,none⟩ = some (.slice bo m d) ∧ w'.cell? ⟨R3,0,none⟩ = some (.bool pf) ∧ w'.cell? ⟨R3,1,none⟩ = some (.slice af nf cf) ∧ w'.cell? ⟨R4,0,none⟩ = some (.bool pc) ∧ w'.cell? ⟨R4,1,none⟩ = some (.slice ac nc cc))) (by kernel_rfl) ?_ (fun hHeld => ?_)
     ·exact ⟨VA.1,VA.2.1,VA.2.2.1,VF.1,VF.2.1,VC.1,VC.2.1⟩
     generalize wc.drew = W60 at *
     refine xT 0 (v := ?_) (hy := Or.inl ⟨by rfl,?_⟩) (h := ?_)
     rotate_left
     ·(intro w hSw; (try dsimp only at hSw); go_simp; (try with_reducible rfl))
     (try simp only [Act.put,xL4,xL5,xL6])
     refine xT 2 (v := ?_) (hy := Or.inl ⟨by rfl,?_⟩) (h := ?_)
     rotate_left
     ·(intro w hSw; (try dsimp only at hSw); go_simp; (try with_reducible rfl))
     (try simp only [Act.put,xL4,xL5,xL6])
     refine xR [1] (h := ?_)
     refine xN (h := fun K hK => ?_)
     go_simp
     refine (qfloor_at _ q 8 _ Ix (by omega) (by omega)).mono ?_
     rintro e w38 ⟨t1,rfl,h1,b38⟩
     go_wp2_with fail
     replace ht := ht.below b38
     replace Ix := Ix.below b38
     replace Jx := Jx.below b38
     replace Jf := Jf.below b38
     replace Jc := Jc.below b38
     replace Jt := Jt.below b38
     replace VA := VA.below b38
     replace VX := VX.below b38
     replace VF := VF.below b38
     replace VC := VC.below b38
     replace VT := VT.below b38
     replace VD := VD.below b38
     replace BB := BB.trans (b38.mono BB.size)
     clear b38
     refine hK.out _ _ ?_ (fun hH1 => ?_)
     ·exact ⟨VA.1,VA.2.1,VA.2.2.1,VF.1,VF.2.1,VC.1,VC.2.1⟩
     clear hK K hHeld
     (try simp only [Act.put,xL4,xL5,xL6])
     refine xR [3] (h := ?_)
     refine xN (h := fun K hK => ?_)
     go_simp
     refine (ris_rep _ _ q.floor _ h1 lf Jf).mono ?_
     rintro e w39 ⟨rfl,b39⟩
     go_wp2_with fail
     replace ht := ht.below b39
     replace Ix := Ix.below b39
     replace Jx := Jx.below b39
     replace Jf := Jf.below b39
     replace Jc := Jc.below b39
     replace Jt := Jt.below b39
     replace h1 := h1.below b39
     replace VA := VA.below b39
     replace VX := VX.below b39
     replace VF := VF.below b39
     replace VC := VC.below b39
     replace VT := VT.below b39
     replace VD := VD.below b39
     replace BB := BB.trans (b39.mono BB.size)
     clear b39
     refine hK.out _ _ ?_ (fun hH2 => ?_)
     ·exact ⟨VA.1,VA.2.1,VA.2.2.1,VF.1,VF.2.1,VC.1,VC.2.1⟩
     clear hK K hH1
     (try simp only [Act.put,xL4,xL5,xL6])
     refine xT 4 (v := ?_) (hy := Or.inl ⟨by rfl,?_⟩) (h := ?_)
     rotate_left
     ·(intro w hSw; (try dsimp only at hSw); go_simp; (try with_reducible rfl))
     (try simp only [Act.put,xL4,xL5,xL6])
     refine xT 5 (v := ?_) (hy := Or.inl ⟨by rfl,?_⟩) (h := ?_)
     rotate_left
     ·(intro w hSw; (try dsimp only at hSw); go_simp; (try with_reducible rfl))
     (try simp only [Act.put,xL4,xL5,xL6])
     refine xT 7 (v := ?_) (hy := Or.inl ⟨by rfl,?_⟩) (h := ?_)
     rotate_left
     ·(intro w hSw; (try dsimp only at hSw); go_simp; (try with_reducible rfl))
     (try simp only [Act.put,xL4,xL5,xL6])
     refine xR [6] (h := ?_)
     refine xN (h := fun K hK => ?_)
     go_simp
     refine (qceil_at _ q 8 _ Ix (by omega) (by omega)).mono ?_
     rintro e w40 ⟨t2,rfl,h2,b40⟩
     go_wp2_with fail
     replace ht := ht.below b40
     replace Ix := Ix.below b40
     replace Jx := Jx.below b40
     replace Jf := Jf.below b40
     replace Jc := Jc.below b40
     replace Jt := Jt.below b40
     replace h1 := h1.below b40
     replace VA := VA.below b40
     replace VX := VX.below b40
     replace VF := VF.below b40
     replace VC := VC.below b40
     replace VT := VT.below b40
     replace VD := VD.below b40
     replace BB := BB.trans (b40.mono BB.size)
     clear b40
     refine hK.out _ _ ?_ (fun hH3 => ?_)
     ·exact ⟨VA.1,VA.2.1,VA.2.2.1,VF.1,VF.2.1,VC.1,VC.2.1⟩
     clear hK K hH2
     (try simp only [Act.put,xL4,xL5,xL6])
     refine xR [8] (h := ?_)
     refine xN (h := fun K hK => ?_)
     go_simp
     refine (ris_rep _ _ (-((-q).floor)) _ h2 lc Jc).mono ?_
     rintro e w41 ⟨rfl,b41⟩
     go_wp2_with fail
     replace ht := ht.below b41
     replace Ix := Ix.below b41
     replace Jx := Jx.below b41
     replace Jf := Jf.below b41
     replace Jc := Jc.below b41
     replace Jt := Jt.below b41
     replace h1 := h1.below b41
     replace h2 := h2.below b41
     replace VA := VA.below b41
     replace VX := VX.below b41
     replace VF := VF.below b41
     replace VC := VC.below b41
     replace VT := VT.below b41
     replace VD := VD.below b41
     replace BB := BB.trans (b41.mono BB.size)
     clear b41
     refine hK.out _ _ ?_ (fun hH4 => ?_)
     ·exact ⟨VA.1,VA.2.1,VA.2.2.1,VF.1,VF.2.1,VC.1,VC.2.1⟩
     clear hK K hH3
     (try simp only [Act.put,xL4,xL5,xL6])
     refine xT 9 (v := ?_) (hy := Or.inl ⟨by rfl,?_⟩) (h := ?_)
     rotate_left
     ·(intro w hSw; (try dsimp only at hSw); go_simp; (try with_reducible rfl))
     (try simp only [Act.put,xL4,xL5,xL6])
     refine xT 10 (v := ?_) (hy := Or.inl ⟨by rfl,?_⟩) (h := ?_)
     rotate_left
     ·(intro w hSw; (try dsimp only at hSw); go_simp; (try with_reducible rfl))
     (try simp only [Act.put,xL4,xL5,xL6])
     refine xT 11 (v := ?_) (hy := Or.inl ⟨by rfl,?_⟩) (h := ?_)
     rotate_left
     ·(intro w hSw; (try dsimp only at hSw); go_simp; (try with_reducible rfl))
     (try simp only [Act.put,xL4,xL5,xL6])
     refine xT 12 (v := ?_) (hy := Or.inl ⟨by rfl,?_⟩) (h := ?_)
     rotate_left
     ·(intro w hSw; (try dsimp only at hSw); go_simp; (try with_reducible rfl))
     (try simp only [Act.put,xL4,xL5,xL6])
     refine xT 13 (v := ?_) (hy := Or.inl ⟨by rfl,?_⟩) (h := ?_)
     rotate_left
     ·(intro w hSw; (try dsimp only at hSw); go_simp; (try with_reducible rfl))
     (try simp only [Act.put,xL4,xL5,xL6])
     refine xT 14 (v := ?_) (hy := Or.inl ⟨by rfl,?_⟩) (h := ?_)
     rotate_left
     ·(intro w hSw; (try dsimp only at hSw); go_simp; (try with_reducible rfl))
     (try simp only [Act.put,xL4,xL5,xL6])
     refine xT 15 (v := ?_) (hy := Or.inl ⟨by rfl,?_⟩) (h := ?_)
     rotate_left
     ·(intro w hSw; (try dsimp only at hSw); go_simp; (try with_reducible rfl))
     (try simp only [Act.put,xL4,xL5,xL6])
     refine xT 16 (v := ?_) (hy := Or.inl ⟨by rfl,?_⟩) (h := ?_)
     rotate_left
     ·(intro w hSw; (try dsimp only at hSw); go_simp; (try with_reducible rfl))
     (try simp only [Act.put,xL4,xL5,xL6])
     refine xT 17 (v := ?_) (hy := Or.inl ⟨by rfl,?_⟩) (h := ?_)
     rotate_left
     ·(intro w hSw; (try dsimp only at hSw); go_simp; (try with_reducible rfl))
     (try simp only [Act.put,xL4,xL5,xL6])
     refine xT 18 (v := ?_) (hy := Or.inl ⟨by rfl,?_⟩) (h := ?_)
     rotate_left
     ·(intro w hSw; (try dsimp only at hSw); go_simp; (try with_reducible rfl))
     (try simp only [Act.put,xL4,xL5,xL6])
     refine xT 19 (v := ?_) (hy := Or.inl ⟨by rfl,?_⟩) (h := ?_)
     rotate_left
     ·(intro w hSw; (try dsimp only at hSw); go_simp; (try with_reducible rfl))
     (try simp only [Act.put,xL4,xL5,xL6])
     refine xT 20 (v := ?_) (hy := Or.inl ⟨by rfl,?_⟩) (h := ?_)
     rotate_left
     ·(intro w hSw; (try dsimp only at hSw); go_simp; (try with_reducible rfl))
     (try simp only [Act.put,xL4,xL5,xL6])
     refine xT 21 (v := ?_) (hy := Or.inl ⟨by rfl,?_⟩) (h := ?_)
     rotate_left
     ·(intro w hSw; (try dsimp only at hSw); go_simp; (try with_reducible rfl))
     (try simp only [Act.put,xL4,xL5,xL6])
     refine xT 22 (v := ?_) (hy := Or.inl ⟨by rfl,?_⟩) (h := ?_)
     rotate_left
     ·(intro w hSw; (try dsimp only at hSw); go_simp; (try with_reducible rfl))
     (try simp only [Act.put,xL4,xL5,xL6])
     refine xT 23 (v := ?_) (hy := Or.inl ⟨by rfl,?_⟩) (h := ?_)
     rotate_left
     ·(intro w hSw; (try dsimp only at hSw); go_simp; (try with_reducible rfl))
     (try simp only [Act.put,xL4,xL5,xL6])
     refine xT 24 (v := ?_) (hy := Or.inl ⟨by rfl,?_⟩) (h := ?_)
     rotate_left
     ·(intro w hSw; (try dsimp only at hSw); go_simp; (try with_reducible rfl))
     (try simp only [Act.put,xL4,xL5,xL6])
     refine xT 25 (v := ?_) (hy := Or.inl ⟨by rfl,?_⟩) (h := ?_)
     rotate_left
     ·(intro w hSw; (try dsimp only at hSw); go_simp; (try with_reducible rfl))
     (try simp only [Act.put,xL4,xL5,xL6])
     refine xT 26 (v := ?_) (hy := Or.inl ⟨by rfl,?_⟩) (h := ?_)
     rotate_left
     ·(intro w hSw; (try dsimp only at hSw); go_simp; (try with_reducible rfl))
     (try simp only [Act.put,xL4,xL5,xL6])
     refine xT 27 (v := ?_) (hy := Or.inl ⟨by rfl,?_⟩) (h := ?_)
     rotate_left
     ·(intro w hSw; (try dsimp only at hSw); go_simp; (try with_reducible rfl))
     (try simp only [Act.put,xL4,xL5,xL6])
     refine xT 28 (v := ?_) (hy := Or.inl ⟨by rfl,?_⟩) (h := ?_)
     rotate_left
     ·(intro w hSw; (try dsimp only at hSw); go_simp; (try with_reducible rfl))
     (try simp only [Act.put,xL4,xL5,xL6])
     refine xT 29 (v := ?_) (hy := Or.inl ⟨by rfl,?_⟩) (h := ?_)
     rotate_left
     ·(intro w hSw; (try dsimp only at hSw); go_simp; (try with_reducible rfl))
     (try simp only [Act.put,xL4,xL5,xL6])
     refine xR [30] (h := ?_)
     refine xN (h := fun K hK => ?_)
     go_simp
     refine (qawake_at _ ht).mono ?_
     rintro e w42 ⟨rfl,b42⟩
     go_wp2_with fail
     replace ht := ht.below b42
     replace Ix := Ix.below b42
     replace Jx := Jx.below b42
     replace Jf := Jf.below b42
     replace Jc := Jc.below b42
     replace Jt := Jt.below b42
     replace h1 := h1.below b42
     replace h2 := h2.below b42
     replace VA := VA.below b42
     replace VX := VX.below b42
     replace VF := VF.below b42
     replace VC := VC.below b42
     replace VT := VT.below b42
     replace VD := VD.below b42
     replace BB := BB.trans (b42.mono BB.size)
     clear b42
     refine hK.out _ _ ?_ (fun hH5 => ?_)
     ·exact ⟨VA.1,VA.2.1,VA.2.2.1,VF.1,VF.2.1,VC.1,VC.2.1⟩
     clear hK K hH4
     (try simp only [Act.put,xL4,xL5,xL6])
     refine xT 31 (v := ?_) (hy := Or.inl ⟨by rfl,?_⟩) (h := ?_)
     rotate_left
     ·(intro w hSw; (try dsimp only at hSw); go_simp; (try with_reducible rfl))
     (try simp only [Act.put,xL4,xL5,xL6])
     refine xT 32 (v := ?_) (hy := Or.inl ⟨by rfl,?_⟩) (h := ?_)
     rotate_left
     ·(intro w hSw; (try dsimp only at hSw); go_simp; (try with_reducible rfl))
     (try simp only [Act.put,xL4,xL5,xL6])
     refine wpAnyH_done (by kernel_rfl) ?_ _
     clear hH5
     go_wp2
     go_ret
     exact ⟨rfl,BB⟩
   ·have hev : r % 2 = 0 := g2 fun h => hA (cl.1.2 h.1)
    have hA0 : lo_ = 0 := by omega
    clear cl ch HN g0 g1 g2 hA hlo0
    subst hA0
    have hno : no = 0 := by
     obtain ⟨ao5,c5,e5,_⟩ := id JD
     simp only [Value.agg.injEq,Array.mk.injEq,List.cons.injEq,Value.bool.injEq,Value.slice.injEq,and_true] at e5
     obtain ⟨_,_,e6,_⟩ := e5
     rw [e6,show r.fmod 2 = 0 by rw [Int.fmod_eq_emod_of_nonneg _ (by omega)]; exact hev]; exact nl_zero _
    subst hno
    clear hev JD
    obtain ⟨VD_0,VD_1,VD_2,VD_3⟩ := id VD
    go_wp2
    clear VD_0 VD_1 VD_2 VD_3
    have hDr : Below wc.heap.size wc wc.drew := (Below.refl _ _).drew
    replace ht := ht.below hDr
    replace Ix := Ix.below hDr
    replace Jx := Jx.below hDr
    replace Jf := Jf.below hDr
    replace Jc := Jc.below hDr
    replace Jt := Jt.below hDr
    replace VA := VA.below hDr
    replace VX := VX.below hDr
    replace VF := VF.below hDr
    replace VC := VC.below hDr
    replace VT := VT.below hDr
    replace VD := VD.below hDr
    replace BB := BB.trans (hDr.mono BB.size)
    clear hDr
    refine wp_region_held_drew (S := (fun w' => w'.cell? ⟨w.heap.size,0,none⟩ = some (.bool p) ∧ w'.cell? ⟨w.heap.size,1,none⟩ = some (.slice ao n c) ∧ w'.cell? ⟨w.heap.size,2,none⟩ = some (.slice bo m d) ∧ w'.cell? ⟨R3,0,none⟩ = some (.bool pf) ∧ w'.cell? ⟨R3,1,none⟩ = some (.slice af nf cf) ∧ w'.cell? ⟨R4,0,none⟩ = some (.bool pc) ∧ w'.cell? ⟨R4,1,none⟩ = some (.slice ac nc cc))) (by kernel_rfl) ?_ (fun hHeld => ?_)
    ·exact ⟨VA.1,VA.2.1,VA.2.2.1,VF.1,VF.2.1,VC.1,VC.2.1⟩
    generalize wc.drew = W60 at *
    refine xT 0 (v := ?_) (hy := Or.inl ⟨by rfl,?_⟩) (h := ?_)
    rotate_left
    ·(intro w hSw; (try dsimp only at hSw); go_simp; (try with_reducible rfl))
    (try simp only [Act.put,xL4,xL5,xL6])
    refine xT 2 (v := ?_) (hy := Or.inl ⟨by rfl,?_⟩) (h := ?_)
    rotate_left
    ·(intro w hSw; (try dsimp only at hSw); go_simp; (try with_reducible rfl))
    (try simp only [Act.put,xL4,xL5,xL6])
    refine xR [1] (h := ?_)
    refine xN (h := fun K hK => ?_)
    go_simp
    refine (qfloor_at _ q 8 _ Ix (by omega) (by omega)).mono ?_
    rintro e w38 ⟨t1,rfl,h1,b38⟩
    go_wp2_with fail
    replace ht := ht.below b38
    replace Ix := Ix.below b38
    replace Jx := Jx.below b38
    replace Jf := Jf.below b38
    replace Jc := Jc.below b38
    replace Jt := Jt.below b38
    replace VA := VA.below b38
    replace VX := VX.below b38
    replace VF := VF.below b38
    replace VC := VC.below b38
    replace VT := VT.below b38
    replace VD := VD.below b38
    replace BB := BB.trans (b38.mono BB.size)
    clear b38
    refine hK.out _ _ ?_ (fun hH1 => ?_)
    ·exact ⟨VA.1,VA.2.1,VA.2.2.1,VF.1,VF.2.1,VC.1,VC.2.1⟩
    clear hK K hHeld
    (try simp only [Act.put,xL4,xL5,xL6])
    refine xR [3] (h := ?_)
    refine xN (h := fun K hK => ?_)
    go_simp
    refine (ris_rep _ _ q.floor _ h1 lf Jf).mono ?_
    rintro e w39 ⟨rfl,b39⟩
    go_wp2_with fail
    replace ht := ht.below b39
    replace Ix := Ix.below b39
    replace Jx := Jx.below b39
    replace Jf := Jf.below b39
    replace Jc := Jc.below b39
    replace Jt := Jt.below b39
    replace h1 := h1.below b39
    replace VA := VA.below b39
    replace VX := VX.below b39
    replace VF := VF.below b39
    replace VC := VC.below b39
    replace VT := VT.below b39
    replace VD := VD.below b39
    replace BB := BB.trans (b39.mono BB.size)
    clear b39
    refine hK.out _ _ ?_ (fun hH2 => ?_)
    ·exact ⟨VA.1,VA.2.1,VA.2.2.1,VF.1,VF.2.1,VC.1,VC.2.1⟩
    clear hK K hH1
    (try simp only [Act.put,xL4,xL5,xL6])
    refine xT 4 (v := ?_) (hy := Or.inl ⟨by rfl,?_⟩) (h := ?_)
    rotate_left
    ·(intro w hSw; (try dsimp only at hSw); go_simp; (try with_reducible rfl))
    (try simp only [Act.put,xL4,xL5,xL6])
    refine xT 5 (v := ?_) (hy := Or.inl ⟨by rfl,?_⟩) (h := ?_)
    rotate_left
    ·(intro w hSw; (try dsimp only at hSw); go_simp; (try with_reducible rfl))
    (try simp only [Act.put,xL4,xL5,xL6])
    refine xT 7 (v := ?_) (hy := Or.inl ⟨by rfl,?_⟩) (h := ?_)
    rotate_left
    ·(intro w hSw; (try dsimp only at hSw); go_simp; (try with_reducible rfl))
    (try simp only [Act.put,xL4,xL5,xL6])
    refine xR [6] (h := ?_)
    refine xN (h := fun K hK => ?_)
    go_simp
    refine (qceil_at _ q 8 _ Ix (by omega) (by omega)).mono ?_
    rintro e w40 ⟨t2,rfl,h2,b40⟩
    go_wp2_with fail
    replace ht := ht.below b40
    replace Ix := Ix.below b40
    replace Jx := Jx.below b40
    replace Jf := Jf.below b40
    replace Jc := Jc.below b40
    replace Jt := Jt.below b40
    replace h1 := h1.below b40
    replace VA := VA.below b40
    replace VX := VX.below b40
    replace VF := VF.below b40
    replace VC := VC.below b40
    replace VT := VT.below b40
    replace VD := VD.below b40
    replace BB := BB.trans (b40.mono BB.size)
    clear b40
    refine hK.out _ _ ?_ (fun hH3 => ?_)
    ·exact ⟨VA.1,VA.2.1,VA.2.2.1,VF.1,VF.2.1,VC.1,VC.2.1⟩
    clear hK K hH2
    (try simp only [Act.put,xL4,xL5,xL6])
    refine xR [8] (h := ?_)
    refine xN (h := fun K hK => ?_)
    go_simp
    refine (ris_rep _ _ (-((-q).floor)) _ h2 lc Jc).mono ?_
    rintro e w41 ⟨rfl,b41⟩
    go_wp2_with fail
    replace ht := ht.below b41
    replace Ix := Ix.below b41
    replace Jx := Jx.below b41
    replace Jf := Jf.below b41
    replace Jc := Jc.below b41
    replace Jt := Jt.below b41
    replace h1 := h1.below b41
    replace h2 := h2.below b41
    replace VA := VA.below b41
    replace VX := VX.below b41
    replace VF := VF.below b41
    replace VC := VC.below b41
    replace VT := VT.below b41
    replace VD := VD.below b41
    replace BB := BB.trans (b41.mono BB.size)
    clear b41
    refine hK.out _ _ ?_ (fun hH4 => ?_)
    ·exact ⟨VA.1,VA.2.1,VA.2.2.1,VF.1,VF.2.1,VC.1,VC.2.1⟩
    clear hK K hH3
    (try simp only [Act.put,xL4,xL5,xL6])
    refine xT 9 (v := ?_) (hy := Or.inl ⟨by rfl,?_⟩) (h := ?_)
    rotate_left
    ·(intro w hSw; (try dsimp only at hSw); go_simp; (try with_reducible rfl))
    (try simp only [Act.put,xL4,xL5,xL6])
    refine xT 10 (v := ?_) (hy := Or.inl ⟨by rfl,?_⟩) (h := ?_)
    rotate_left
    ·(intro w hSw; (try dsimp only at hSw); go_simp; (try with_reducible rfl))
    (try simp only [Act.put,xL4,xL5,xL6])
    refine xT 11 (v := ?_) (hy := Or.inl ⟨by rfl,?_⟩) (h := ?_)
    rotate_left
    ·(intro w hSw; (try dsimp only at hSw); go_simp; (try with_reducible rfl))
    (try simp only [Act.put,xL4,xL5,xL6])
    refine xT 12 (v := ?_) (hy := Or.inl ⟨by rfl,?_⟩) (h := ?_)
    rotate_left
    ·(intro w hSw; (try dsimp only at hSw); go_simp; (try with_reducible rfl))
    (try simp only [Act.put,xL4,xL5,xL6])
    refine xT 13 (v := ?_) (hy := Or.inl ⟨by rfl,?_⟩) (h := ?_)
    rotate_left
    ·(intro w hSw; (try dsimp only at hSw); go_simp; (try with_reducible rfl))
    (try simp only [Act.put,xL4,xL5,xL6])
    refine xT 14 (v := ?_) (hy := Or.inl ⟨by rfl,?_⟩) (h := ?_)
    rotate_left
    ·(intro w hSw; (try dsimp only at hSw); go_simp; (try with_reducible rfl))
    (try simp only [Act.put,xL4,xL5,xL6])
    refine xT 15 (v := ?_) (hy := Or.inl ⟨by rfl,?_⟩) (h := ?_)
    rotate_left
    ·(intro w hSw; (try dsimp only at hSw); go_simp; (try with_reducible rfl))
    (try simp only [Act.put,xL4,xL5,xL6])
    refine xT 16 (v := ?_) (hy := Or.inl ⟨by rfl,?_⟩) (h := ?_)
    rotate_left
    ·(intro w hSw; (try dsimp only at hSw); go_simp; (try with_reducible rfl))
    (try simp only [Act.put,xL4,xL5,xL6])
    refine xT 17 (v := ?_) (hy := Or.inl ⟨by rfl,?_⟩) (h := ?_)
    rotate_left
    ·(intro w hSw; (try dsimp only at hSw); go_simp; (try with_reducible rfl))
    (try simp only [Act.put,xL4,xL5,xL6])
    refine xT 18 (v := ?_) (hy := Or.inl ⟨by rfl,?_⟩) (h := ?_)
    rotate_left
    ·(intro w hSw; (try dsimp only at hSw); go_simp; (try with_reducible rfl))
    (try simp only [Act.put,xL4,xL5,xL6])
    refine xT 19 (v := ?_) (hy := Or.inl ⟨by rfl,?_⟩) (h := ?_)
    rotate_left
    ·(intro w hSw; (try dsimp only at hSw); go_simp; (try with_reducible rfl))
    (try simp only [Act.put,xL4,xL5,xL6])
    refine xT 20 (v := ?_) (hy := Or.inl ⟨by rfl,?_⟩) (h := ?_)
    rotate_left
    ·(intro w hSw; (try dsimp only at hSw); go_simp; (try with_reducible rfl))
    (try simp only [Act.put,xL4,xL5,xL6])
    refine xT 21 (v := ?_) (hy := Or.inl ⟨by rfl,?_⟩) (h := ?_)
    rotate_left
    ·(intro w hSw; (try dsimp only at hSw); go_simp; (try with_reducible rfl))
    (try simp only [Act.put,xL4,xL5,xL6])
    refine xT 22 (v := undef) (hy := Or.inr ⟨by rfl,rfl⟩) (h := ?_)
    (try simp only [Act.put,xL4,xL5,xL6])
    refine xT 23 (v := undef) (hy := Or.inr ⟨by rfl,rfl⟩) (h := ?_)
    (try simp only [Act.put,xL4,xL5,xL6])
    refine xT 24 (v := ?_) (hy := Or.inl ⟨by rfl,?_⟩) (h := ?_)
    rotate_left
    ·(intro w hSw; (try dsimp only at hSw); go_simp; (try with_reducible rfl))
    (try simp only [Act.put,xL4,xL5,xL6])
    refine xT 25 (v := ?_) (hy := Or.inl ⟨by rfl,?_⟩) (h := ?_)
    rotate_left
    ·(intro w hSw; (try dsimp only at hSw); go_simp; (try with_reducible rfl))
    (try simp only [Act.put,xL4,xL5,xL6])
    refine xT 26 (v := ?_) (hy := Or.inl ⟨by rfl,?_⟩) (h := ?_)
    rotate_left
    ·(intro w hSw; (try dsimp only at hSw); go_simp; (try with_reducible rfl))
    (try simp only [Act.put,xL4,xL5,xL6])
    refine xT 27 (v := ?_) (hy := Or.inl ⟨by rfl,?_⟩) (h := ?_)
    rotate_left
    ·(intro w hSw; (try dsimp only at hSw); go_simp; (try with_reducible rfl))
    (try simp only [Act.put,xL4,xL5,xL6])
    refine xT 28 (v := ?_) (hy := Or.inl ⟨by rfl,?_⟩) (h := ?_)
    rotate_left
    ·(intro w hSw; (try dsimp only at hSw); go_simp; (try with_reducible rfl))
    (try simp only [Act.put,xL4,xL5,xL6])
    refine xT 29 (v := ?_) (hy := Or.inl ⟨by rfl,?_⟩) (h := ?_)
    rotate_left
    ·(intro w hSw; (try dsimp only at hSw); go_simp; (try with_reducible rfl))
    (try simp only [Act.put,xL4,xL5,xL6])
    refine xR [30] (h := ?_)
    refine xN (h := fun K hK => ?_)
    go_simp
    refine (qawake_at _ ht).mono ?_
    rintro e w42 ⟨rfl,b42⟩
    go_wp2_with fail
    replace ht := ht.below b42
    replace Ix := Ix.below b42
    replace Jx := Jx.below b42
    replace Jf := Jf.below b42
    replace Jc := Jc.below b42
    replace Jt := Jt.below b42
    replace h1 := h1.below b42
    replace h2 := h2.below b42
    replace VA := VA.below b42
    replace VX := VX.below b42
    replace VF := VF.below b42
    replace VC := VC.below b42
    replace VT := VT.below b42
    replace VD := VD.below b42
    replace BB := BB.trans (b42.mono BB.size)
    clear b42
    refine hK.out _ _ ?_ (fun hH5 => ?_)
    ·exact ⟨VA.1,VA.2.1,VA.2.2.1,VF.1,VF.2.1,VC.1,VC.2.1⟩
    clear hK K hH4
    (try simp only [Act.put,xL4,xL5,xL6])
    refine xT 31 (v := ?_) (hy := Or.inl ⟨by rfl,?_⟩) (h := ?_)
    rotate_left
    ·(intro w hSw; (try dsimp only at hSw); go_simp; (try with_reducible rfl))
    (try simp only [Act.put,xL4,xL5,xL6])
    refine xT 32 (v := ?_) (hy := Or.inl ⟨by rfl,?_⟩) (h := ?_)
    rotate_left
    ·(intro w hSw; (try dsimp only at hSw); go_simp; (try with_reducible rfl))
    (try simp only [Act.put,xL4,xL5,xL6])
    refine wpAnyH_done (by kernel_rfl) ?_ _
    clear hH5
    go_wp2
    go_ret
    exact ⟨rfl,BB⟩

theorem own : ownKnob Tryz.prog.godebug = none := by kernel_rfl
theorem laidOut : laidOutB Tryz.prog = true := by kernel_rfl

abbrev laid1 : List (String × DataW Unit) := [("math/bits.deBruijn64tab",Rows.laid_math_bits_deBruijn64tab)]
theorem gTab : Tryz.prog.globalNamed "math/bits.deBruijn64tab" = some 0 := by kernel_rfl
theorem gTabType : (Tryz.prog.globals[0]?).map (·.type) = some 171 := by kernel_rfl
theorem uTab : Tryz.prog.underlying 171 = some (.array 64 5) := by kernel_rfl
theorem uCell : Tryz.prog.underlying 5 = some (.int .u8) := by kernel_rfl
theorem cCell : Tryz.prog.cellsOf 5 = 1 := by kernel_rfl
theorem cTab : Tryz.prog.cellsOf 171 = 64 := by kernel_rfl
/-- The listed table lies in its cells. -/
theorem tab_of {W : World} (h : laidMetH Tryz.prog laid1 W) : Tab W := by
 rw [MakeChecks.laidMetH_plain _ _ _ (by kernel_rfl)] at h
 have hd : laid1 = [("math/bits.deBruijn64tab",Lib.tabData .u8 (Lib.deBruijn64tab.map fun (n : Nat) => Int.ofNat n))] := rfl
 rw [hd] at h
 have hT := Lib.tabIs_of_head gTab gTabType uTab uCell cCell cTab h
 intro i hi
 have hc := hT.cell gTab i (by rw [List.length_map]; exact hi)
 rw [hc]
 congr 2
 rw [List.getD_eq_getElem?_getD,List.getElem?_map,List.getD_eq_getElem?_getD]
 cases Lib.deBruijn64tab[i]? <;> rfl
/-- A start for the witness: the heap that the run of the program's own initialisers leaves. -/
noncomputable def startW (os : Os) : World := { World.holding Tryz.prog os ⟨#[],#[],[]⟩ with heap := (varsWorld Tryz.prog 400 (varsId Tryz.prog) os (fun _ _ => 0)).heap }
theorem start_met (os : Os) (args : Array Value) : laidMetH Tryz.prog laid1 ((startW os).forCall (fun _ _ => 0) ⟨#[],args,[]⟩).memory :=
 laidMetH_of_parts3 (fuel := 8) (laidMet_of_run' 8 (by kernel_rfl) (by kernel_rfl)) (by kernel_rfl) (by kernel_rfl)

set_option maxRecDepth 100000 in
theorem lifted (os : Os) (started : os.Started) (H : Type) (enc : TypeId × Value → H) :
  ReturnsInHanded {} Tryz.checked os 7 .any (fun w args => (Rows.ratioRoundsSpec.pre enc Tryz.prog Tryz.f7 [] false w args ∧ laidMetH Tryz.prog laid1 w) ∧ sizedMet enc Tryz.prog Tryz.f7 (OpenSpec.ofChange Rows.ratioRoundsSpec) false w args) (Rows.ratioRoundsSpec.post enc Tryz.prog Tryz.f7 false true false false) := by
 refine returnsInHanded_of_change_and (C := Tryz.checked) (X := fun w _ => laidMetH Tryz.prog laid1 w) (fun _ _ _ hh h => h.of_heap hh) own started (by kernel_rfl) Tryz.func7
  (ChangeSpec.witness_shaped (enc := enc) (C := Tryz.checked) (os := os) (X := fun w _ => laidMetH Tryz.prog laid1 w) false (startW os) #[.agg #[.bool false,.slice none 0 0,.slice none 0 0]] 8 rfl (World.shaped_of_RefB (by kernel_rfl) (by kernel_rfl)) (by kernel_rfl) (by kernel_rfl) (by kernel_rfl) (start_met os _)) ?_
 intro W base args ds gs before hval0 hW _ _ hL _
 have hval : ∀ (j : Nat) t v,Tryz.f7.params[j]? = some t → args[j]? = some v → Value.okWide Tryz.prog W .any base t v := hval0
 have hW' := hW
 obtain ⟨p,q,hA0,hV,rfl,hfz,hnd⟩ := hW
 have hA : DataW.TrodAll enc Tryz.prog W 0 (fun _ => true) true Tryz.f7.params.toList args.toList ds p := hA0
 rw [Tryz.params7] at hA hval
 obtain ⟨v0,vs0,d0,ds0,p0,q0,hargs,rfl,rfl,h0,r0⟩ := trodAll_cons hA
 obtain ⟨rfl,rfl,rfl⟩ := trodAll_nil r0
 obtain rfl : args = #[v0] := by cases args; simp_all
 obtain ⟨rfl,rfl⟩ := trodVars_none hV
 have k0 := h0
 have lt0 : ∀ x ∈ p0,x.block < W.heap.size := by obtain ⟨m,hm⟩ := k0; exact DataW.trod_lt m _ _ _ hm
 obtain ⟨neg0,ao0,n0,c0,bo0,m0,d0,f0,g0,rfl,w0,x0⟩ := open_wrat (hval 0 27 v0 rfl rfl) h0
 clear hA0 hval0
 refine (walk _ _ _ _ _ _ _ _ _ W w0 x0 (tab_of hL)).mono fun e W' ⟨he,bel⟩ => ?_
 subst he
 exact ⟨_,rfl,_,_,_,[],_,[],hW',trodAll_mk1 (shut_bool Tryz.underlying4 _),(trodAll_cons_mk (Below.trod laidOut (by kernel_rfl) (of_decide_eq_true (by kernel_rfl)) k0 bel lt0) trodAll_mk0),rfl,bel.frame _,fun h => by cases h⟩

theorem over : Rows.ratioRoundsRow.holds Tryz.pinned (OpenSpec.ofChange Rows.ratioRoundsSpec) :=
 OpenClaim.holds_of_wide 7 Tryz.f7 rfl rfl rfl rfl rfl rfl rfl ⟨rfl,rfl,rfl,rfl,rfl⟩ rfl rfl rfl rfl rfl (by kernel_rfl) Tryz.func7 (by kernel_rfl)
  (of_decide_eq_true (by kernel_rfl)) (by unfold Func.isWrapper; first | (rw [if_pos (by decide +kernel)]; kernel_rfl) | (rw [if_neg (by decide +kernel)]; exact ⟨rfl,rfl⟩))
  (fun os started H enc _ => lifted os started H enc)

end Go.Proofs.YtjfacmeeplalkaaGreatDoor.ratioRounds
namespace Go.Proofs.YtjfacmeeplalkaaGreatDoor
/-- The statement: the row, tied to the text of the program. -/
theorem ratioRounds_holds : Rows.RatioRoundsCardSaid :=
 Claim7.holds_tied_plain_at .later [] [.data] true (true,"3b39c0c979b75c43741f66fe93b6bee77f2a65889754686cff497ad8f0c2d54c") false
  ratioRounds.over (fun _ h => by cases h) (by kernel_rfl) (fun _ h => by cases h) ratioRounds_row_tie rfl ⟨rfl,rfl⟩ (by kernel_rfl) rfl
  (fun f fn hf hfn => by
   obtain rfl : f = 7 := Option.some.inj ((show Tryz.prog.funcNamed "dendron/dendronlaw03.RatioRounds" = some 7 by kernel_rfl).symm.trans hf) |>.symm
   obtain rfl : fn = Tryz.f7 := (Option.some.inj (Tryz.func7.symm.trans hfn)).symm
   exact ⟨by kernel_rfl,fun j t ht => by
    rw [Tryz.params7] at ht
    have hm : t ∈ [27] := by simpa using Array.mem_of_getElem? ht
    have hall : ([27].all fun u => !Tryz.prog.wantsStandIn u) = true := by kernel_rfl
    exact (show Tryz.prog.wantsStandIn t = false by simpa using List.all_eq_true.1 hall t hm)⟩)
  (by kernel_rfl)
end Go.Proofs.YtjfacmeeplalkaaGreatDoor
