/-
 Proves that Roots answers,of any polynomial made of a factor without a root and up to 5 linear ones with roots of up to 2 limbs,one of them twice,how many of its roots lie above one number and not above another,or why it answers none,whatever comes in (the statement PolyRoots,its tied card); the table of math/bits lies as the program's text lays it; no other condition.
-/
import Derived.Test.YtieeneaebjihlaaGreatDoorJ0bdc9dde62
import Derived.Test.YtieeneaebjihlaaGreatDoorRows
import Derived.Test.YtieeneaebjihlaaGreatDoorJc135e3143d
import Derived.Test.YtieeneaebjihlaaGreatDoorJ8483336d6a
import Derived.Test.YtieeneaebjihlaaGreatDoorJ08c4e6be3f
import Derived.WalkKit
import Derived.ProofKit
import Derived.OpenShut
import Derived.ShutString
import Derived.ChangeOld
import Derived.Below
import Derived.Test.YtieeneaebjihlaaGreatDoorTie
import Derived.Test.YtieeneaebjihlaaGreatDoorCards
import Derived.LaidByTextLater
import Derived.LaidHandle
import Derived.Lib.LaidTab
import Derived.SevenTiedAt
namespace Go.Proofs.YtieeneaebjihlaaGreatDoor.polyRoots
open Go.ChangeShapes Go.WideShapes Go.ChangeAt Go.RowKit
open Go.ChangeMaps (open_string shut_string)
set_option linter.unusedVariables false
set_option linter.unusedSimpArgs false

def KLIST : Nat := 2

set_option maxRecDepth 100000 in
set_option maxHeartbeats 32000000 in
theorem walk (v1 : Value) (n1 : Nat) (r : Nat → Rat) (t : Int) (px : Bool) (ax : Option Addr) (lx cx : Nat) (bx : Option Addr) (kx dx : Nat) (fx gx : Nat → Int) (py : Bool) (ay : Option Addr) (ly cy : Nat) (by_ : Option Addr) (ky dy : Nat) (fy gy : Nat → Int) (pz : Bool) (az : Option Addr) (lz cz : Nat) (bz : Option Addr) (kz dz : Nat) (fz gz : Nat → Int) (w : World) (h1 : RawQ w v1 n1 r KLIST) (htw : (Lit.int .i64 t).wf = true) (h3 : Raw w (.slice ax lx cx) lx fx) (h4 : Raw w (.slice bx kx dx) kx gx) (h5 : Raw w (.slice ay ly cy) ly fy) (h6 : Raw w (.slice by_ ky dy) ky gy) (h7 : Raw w (.slice az lz cz) lz fz) (h8 : Raw w (.slice bz kz dz) kz gz) (ht : Tab w) :
  Calls Tryz.prog 3 #[v1,.int .i64 t,.agg #[.bool px,.slice ax lx cx,.slice bx kx dx],.agg #[.bool py,.slice ay ly cy,.slice by_ ky dy],.agg #[.bool pz,.slice az lz cz,.slice bz kz dz]] w fun e w' => e = .returned (.bool true) ∧ Below w.heap.size w w' := by
 unfold KLIST at h1
 have BB : Below w.heap.size w w := Below.refl _ _
 obtain ⟨Wb0,hW0,hS0,hL0,VX⟩ := V3.lay w 28 (.bool px) (.slice ax lx cx) (.slice bx kx dx)
 replace h1 := h1.below hL0
 replace h3 := h3.below hL0
 replace h4 := h4.below hL0
 replace h5 := h5.below hL0
 replace h6 := h6.below hL0
 replace h7 := h7.below hL0
 replace h8 := h8.below hL0
 replace ht := ht.below hL0
 replace BB := BB.trans (hL0.mono BB.size)
 clear hL0
 obtain ⟨Wb1,hW1,hS1,hL1,VY⟩ := V3.lay Wb0 28 (.bool py) (.slice ay ly cy) (.slice by_ ky dy)
 rw [hS0] at VY hS1
 replace h1 := h1.below hL1
 replace h3 := h3.below hL1
 replace h4 := h4.below hL1
 replace h5 := h5.below hL1
 replace h6 := h6.below hL1
 replace h7 := h7.below hL1
 replace h8 := h8.below hL1
 replace ht := ht.below hL1
 replace VX := VX.below hL1
 replace BB := BB.trans (hL1.mono BB.size)
 clear hL1
 obtain ⟨Wb2,hW2,hS2,hL2,VZ⟩ := V3.lay Wb1 28 (.bool pz) (.slice az lz cz) (.slice bz kz dz)
 rw [hS1] at VZ hS2
 replace h1 := h1.below hL2
 replace h3 := h3.below hL2
 replace h4 := h4.below hL2
 replace h5 := h5.below hL2
 replace h6 := h6.below hL2
 replace h7 := h7.below hL2
 replace h8 := h8.below hL2
 replace ht := ht.below hL2
 replace VX := VX.below hL2
 replace VY := VY.below hL2
 replace BB := BB.trans (hL2.mono BB.size)
 clear hL2
 go_enter Tryz.func3,Tryz.ntmps3
 go_wp2_with fail
 rw [← hW0]
 rw [← hW1]
 rw [← hW2]
 clear hW0 hW1 hW2 hS0 hS1 hS2
 have hB0 := VX.lt
 have hB1 := VY.lt
 have hB2 := VZ.lt
 refine (few4_at _ n1 5 r _ h1 (by omega)).mono ?_
 rintro e w1 ⟨ra,rfl,QA,b1⟩
 replace h1 := h1.below b1
 replace h3 := h3.below b1
 replace h4 := h4.below b1
 replace h5 := h5.below b1
 replace h6 := h6.below b1
 replace h7 := h7.below b1
 replace h8 := h8.below b1
 replace ht := ht.below b1
 replace VX := VX.below b1
 replace VY := VY.below b1
 replace VZ := VZ.below b1
 replace BB := BB.trans (b1.mono BB.size)
 clear b1
 clear h1
 obtain ⟨n,hn⟩ : ∃ n,n = min n1 5 := ⟨_,rfl⟩
 rw [← hn] at QA
 have hn5 : n ≤ 5 := by omega
 clear hn
 obtain ⟨aa,ca,rfl,hac,hac63,_⟩ := QA.row.open
 obtain ⟨x,hsx⟩ : ∃ s,s = mkRat (zof px (num fx (min lx 2))) (num gx (min kx 2)) := ⟨_,rfl⟩
 obtain ⟨y,hsy⟩ : ∃ s,s = mkRat (zof py (num fy (min ly 2))) (num gy (min ky 2)) := ⟨_,rfl⟩
 obtain ⟨z,hsz⟩ : ∃ s,s = mkRat (zof pz (num fz (min lz 2))) (num gz (min kz 2)) := ⟨_,rfl⟩
 obtain ⟨VX_0,VX_1,VX_2,VX_3,VX_4,VX_5⟩ := id VX
 go_wp2_with fail
 clear VX_0 VX_1 VX_2 VX_3 VX_4 VX_5
 refine (number4_at _ _ _ _ _ _ _ _ h3 h4).mono ?_
 rintro e w2 ⟨aox,cox,box,dox,rfl,hu4,uf4,hv4,vf4,b2⟩
 replace h3 := h3.below b2
 replace h4 := h4.below b2
 replace h5 := h5.below b2
 replace h6 := h6.below b2
 replace h7 := h7.below b2
 replace h8 := h8.below b2
 replace ht := ht.below b2
 replace QA := QA.below b2
 replace VX := VX.below b2
 replace VY := VY.below b2
 replace VZ := VZ.below b2
 replace BB := BB.trans (b2.mono BB.size)
 clear b2
 clear h3 h4
 have Xx : RatAt w2 (.agg #[.bool px,.slice aox (min lx 2) cox,.slice box (min kx 2) dox]) x 2 := by rw [hsx]; exact RatAt.raw hu4 uf4 hv4 vf4 (Nat.min_le_right _ _) (Nat.min_le_right _ _)
 clear hu4 uf4 hv4 vf4
 clear hsx
 generalize min lx 2 = l4x at Xx ⊢
 generalize min kx 2 = k4x at Xx ⊢
 have hKp := VX.keepJ (.bool px) (.slice aox l4x cox) (.slice box k4x dox)
 have VY_n := VY.other3 (R := w.heap.size) (by omega) (.bool px) (.slice aox l4x cox) (.slice box k4x dox)
 have VZ_n := VZ.other3 (R := w.heap.size) (by omega) (.bool px) (.slice aox l4x cox) (.slice box k4x dox)
 have VX_n := VX.same (.bool px) (.slice aox l4x cox) (.slice box k4x dox)
 have h5_n := h5.keep hKp
 have h6_n := h6.keep hKp
 have h7_n := h7.keep hKp
 have h8_n := h8.keep hKp
 have ht_n := ht.keep hKp
 have QA_n := QA.other (grown_set3 w2 (w.heap.size) (.bool px) (.slice aox l4x cox) (.slice box k4x dox)) hKp (fun g hg => by cases hg; omega)
 have Xx_n := Xx.keep hKp
 have BB_n := below_store3 (R := w.heap.size) BB (by omega) (.bool px) (.slice aox l4x cox) (.slice box k4x dox)
 clear hKp
 obtain ⟨VX_0,VX_1,VX_2,VX_3,VX_4,VX_5⟩ := id VX
 obtain ⟨VY_n0,VY_n1,VY_n2,VY_n3,VY_n4,VY_n5⟩ := id VY_n
 go_wp2_with fail
 clear VX_0 VX_1 VX_2 VX_3 VX_4 VX_5 VY_n0 VY_n1 VY_n2 VY_n3 VY_n4 VY_n5
 clear BB h5 h6 h7 h8 ht QA Xx VX VY VZ
 generalize ((w2.setCell ⟨w.heap.size,0,none⟩ (.bool px)).setCell ⟨w.heap.size,1,none⟩ (.slice aox l4x cox)).setCell ⟨w.heap.size,2,none⟩ (.slice box k4x dox) = W1 at *
 have BB := BB_n
 have h5 := h5_n
 have h6 := h6_n
 have h7 := h7_n
 have h8 := h8_n
 have ht := ht_n
 have QA := QA_n
 have Xx := Xx_n
 have VX := VX_n
 have VY := VY_n
 have VZ := VZ_n
 clear BB_n h5_n h6_n h7_n h8_n ht_n QA_n Xx_n VX_n VY_n VZ_n
 refine (number4_at _ _ _ _ _ _ _ _ h5 h6).mono ?_
 rintro e w3 ⟨aoy,coy,boy,doy,rfl,hu4,uf4,hv4,vf4,b3⟩
 replace h5 := h5.below b3
 replace h6 := h6.below b3
 replace h7 := h7.below b3
 replace h8 := h8.below b3
 replace ht := ht.below b3
 replace QA := QA.below b3
 replace Xx := Xx.below b3
 replace VX := VX.below b3
 replace VY := VY.below b3
 replace VZ := VZ.below b3
 replace BB := BB.trans (b3.mono BB.size)
 clear b3
 clear h5 h6
 have Xy : RatAt w3 (.agg #[.bool py,.slice aoy (min ly 2) coy,.slice boy (min ky 2) doy]) y 2 := by rw [hsy]; exact RatAt.raw hu4 uf4 hv4 vf4 (Nat.min_le_right _ _) (Nat.min_le_right _ _)
 clear hu4 uf4 hv4 vf4
 clear hsy
 generalize min ly 2 = l4y at Xy ⊢
 generalize min ky 2 = k4y at Xy ⊢
 have hKp := VY.keepJ (.bool py) (.slice aoy l4y coy) (.slice boy k4y doy)
 have VX_n := VX.other3 (R := w.heap.size + 1) (by omega) (.bool py) (.slice aoy l4y coy) (.slice boy k4y doy)
 have VZ_n := VZ.other3 (R := w.heap.size + 1) (by omega) (.bool py) (.slice aoy l4y coy) (.slice boy k4y doy)
 have VY_n := VY.same (.bool py) (.slice aoy l4y coy) (.slice boy k4y doy)
 have h7_n := h7.keep hKp
 have h8_n := h8.keep hKp
 have ht_n := ht.keep hKp
 have QA_n := QA.other (grown_set3 w3 (w.heap.size + 1) (.bool py) (.slice aoy l4y coy) (.slice boy k4y doy)) hKp (fun g hg => by cases hg; omega)
 have Xx_n := Xx.keep hKp
 have Xy_n := Xy.keep hKp
 have BB_n := below_store3 (R := w.heap.size + 1) BB (by omega) (.bool py) (.slice aoy l4y coy) (.slice boy k4y doy)
 clear hKp
 obtain ⟨VY_0,VY_1,VY_2,VY_3,VY_4,VY_5⟩ := id VY
 go_wp2_with fail
 clear VY_0 VY_1 VY_2 VY_3 VY_4 VY_5
 clear BB h7 h8 ht QA Xx Xy VX VY VZ
 generalize ((w3.setCell ⟨w.heap.size + 1,0,none⟩ (.bool py)).setCell ⟨w.heap.size + 1,1,none⟩ (.slice aoy l4y coy)).setCell ⟨w.heap.size + 1,2,none⟩ (.slice boy k4y doy) = W2 at *
 have BB := BB_n
 have h7 := h7_n
 have h8 := h8_n
 have ht := ht_n
 have QA := QA_n
 have Xx := Xx_n
 have Xy := Xy_n
 have VX := VX_n
 have VY := VY_n
 have VZ := VZ_n
 clear BB_n h7_n h8_n ht_n QA_n Xx_n Xy_n VX_n VY_n VZ_n
 have QR := QA.row
 clear QA
 refine (qof_at 1 _ (by omega) (by omega)).mono ?_
 rintro e w4 ⟨x21,rfl,h21,b4⟩
 replace h7 := h7.below b4
 replace h8 := h8.below b4
 replace ht := ht.below b4
 replace Xx := Xx.below b4
 replace Xy := Xy.below b4
 replace QR := QR.below b4
 replace VX := VX.below b4
 replace VY := VY.below b4
 replace VZ := VZ.below b4
 replace BB := BB.trans (b4.mono BB.size)
 clear b4
 obtain ⟨p21,a21,n21,c21,b21,m21,d21,rfl⟩ := h21.open
 go_wp2_with fail
 refine (qzero_at _).mono ?_
 rintro e w5 ⟨x22,rfl,h22,b5⟩
 replace h7 := h7.below b5
 replace h8 := h8.below b5
 replace ht := ht.below b5
 replace Xx := Xx.below b5
 replace Xy := Xy.below b5
 replace QR := QR.below b5
 replace h21 := h21.below b5
 replace VX := VX.below b5
 replace VY := VY.below b5
 replace VZ := VZ.below b5
 replace BB := BB.trans (b5.mono BB.size)
 clear b5
 obtain ⟨p22,a22,n22,c22,b22,m22,d22,rfl⟩ := h22.open
 go_wp2_with fail
 refine (qof_at 3 _ (by omega) (by omega)).mono ?_
 rintro e w6 ⟨x23,rfl,h23,b6⟩
 replace h7 := h7.below b6
 replace h8 := h8.below b6
 replace ht := ht.below b6
 replace Xx := Xx.below b6
 replace Xy := Xy.below b6
 replace QR := QR.below b6
 replace h21 := h21.below b6
 replace h22 := h22.below b6
 replace VX := VX.below b6
 replace VY := VY.below b6
 replace VZ := VZ.below b6
 replace BB := BB.trans (b6.mono BB.size)
 clear b6
 obtain ⟨p23,a23,n23,c23,b23,m23,d23,rfl⟩ := h23.open
 obtain ⟨Wr3,hWr3,bWr3,FP⟩ := frow3_lay w6 28 h21 h22 h23
 replace h7 := h7.below bWr3
 replace h8 := h8.below bWr3
 replace ht := ht.below bWr3
 replace Xx := Xx.below bWr3
 replace Xy := Xy.below bWr3
 replace QR := QR.below bWr3
 replace h21 := h21.below bWr3
 replace h22 := h22.below bWr3
 replace h23 := h23.below bWr3
 replace VX := VX.below bWr3
 replace VY := VY.below bWr3
 replace VZ := VZ.below bWr3
 replace BB := BB.trans (bWr3.mono BB.size)
 obtain ⟨VZ_0,VZ_1,VZ_2,VZ_3,VZ_4,VZ_5⟩ := id VZ
 rw [hWr3] at VZ_0 VZ_1 VZ_2 VZ_3 VZ_4 VZ_5
 go_wp2_with fail
 clear VZ_0 VZ_1 VZ_2 VZ_3 VZ_4 VZ_5
 rw [← hWr3]
 clear hWr3 bWr3
 generalize w6.heap.size = Rr3 at *
 clear h21 h22 h23
 refine (number4_at _ _ _ _ _ _ _ _ h7 h8).mono ?_
 rintro e w7 ⟨aoz,coz,boz,doz,rfl,hu4,uf4,hv4,vf4,b7⟩
 replace h7 := h7.below b7
 replace h8 := h8.below b7
 replace ht := ht.below b7
 replace Xx := Xx.below b7
 replace Xy := Xy.below b7
 replace QR := QR.below b7
 replace FP := FP.below b7
 replace VX := VX.below b7
 replace VY := VY.below b7
 replace VZ := VZ.below b7
 replace BB := BB.trans (b7.mono BB.size)
 clear b7
 have Xz : RatAt w7 (.agg #[.bool pz,.slice aoz (min lz 2) coz,.slice boz (min kz 2) doz]) z 2 := by rw [hsz]; exact RatAt.raw hu4 uf4 hv4 vf4 (Nat.min_le_right _ _) (Nat.min_le_right _ _)
 clear hu4 uf4 hv4 vf4
 go_upto_if 34 with (fail)
 refine (qsign_at _ z 2 _ Xz (by omega) (by omega)).mono ?_
 rintro e w8 ⟨rfl,b8⟩
 replace h7 := h7.below b8
 replace h8 := h8.below b8
 replace ht := ht.below b8
 replace Xx := Xx.below b8
 replace Xy := Xy.below b8
 replace QR := QR.below b8
 replace FP := FP.below b8
 replace Xz := Xz.below b8
 replace VX := VX.below b8
 replace VY := VY.below b8
 replace VZ := VZ.below b8
 replace BB := BB.trans (b8.mono BB.size)
 clear b8
 have HSZ : Hid (z = mkRat (zof pz (num fz (min lz 2))) (num gz (min kz 2))) := hsz
 clear hsz
 have qz := Xz.qsz (by omega)
 have BW : Hid (Below w.heap.size w w8) := BB
 clear BB
 go_upto_if 34 with (fail)
 go_cut [11] from 21 (fun s11 wc => ∃ c : Rat,c ≠ 0 ∧ qsz c ≤ 2 ∧ FRow wc s11 3 (sc _root_.Go.Proofs.YtieeneaebjihlaaGreatDoor.w3 c) ∧ Below w8.heap.size w8 wc)
 case first =>
  have BB : Below w8.heap.size w8 w8 := Below.refl _ _
  by_cases hz0 : z = 0
  ·have e1 : (cmpQ z 0 != 0) = false := by rw [hz0]; decide +kernel
   have e2 : cmpQ z 0 = 0 := by rw [hz0]; decide +kernel
   rw [e2]
   go_wp2
   go_meet
   case rel => exact ⟨1,by decide +kernel,by decide +kernel,frow_congr FP three_one,BB⟩
  ·have e1 : (cmpQ z 0 != 0) = true := by have := cmpQ_nil z; rw [decide_eq_false hz0] at this; simpa [bne] using this
   have e2 : ¬ cmpQ z 0 = 0 := by intro e; rw [e] at e1; exact absurd e1 (by decide)
   obtain ⟨VZ_0,VZ_1,VZ_2,VZ_3,VZ_4,VZ_5⟩ := id VZ
   go_wp2_with fail
   clear VZ_0 VZ_1 VZ_2 VZ_3 VZ_4 VZ_5
   have hsz := HSZ.out
   refine (number4_at _ _ _ _ _ _ _ _ h7 h8).mono ?_
   rintro e w31 ⟨aou,cou,bou,dou,rfl,hu4,uf4,hv4,vf4,b31⟩
   replace h7 := h7.below b31
   replace h8 := h8.below b31
   replace ht := ht.below b31
   replace Xx := Xx.below b31
   replace Xy := Xy.below b31
   replace QR := QR.below b31
   replace FP := FP.below b31
   replace Xz := Xz.below b31
   replace VX := VX.below b31
   replace VY := VY.below b31
   replace VZ := VZ.below b31
   replace BB := BB.trans (b31.mono BB.size)
   clear b31
   have Xu : RatAt w31 (.agg #[.bool pz,.slice aou (min lz 2) cou,.slice bou (min kz 2) dou]) z 2 := by rw [hsz]; exact RatAt.raw hu4 uf4 hv4 vf4 (Nat.min_le_right _ _) (Nat.min_le_right _ _)
   clear hu4 uf4 hv4 vf4
   go_wp2_with fail
   refine (pscale_at _ _ 3 (pr ((1 : Int) : Rat) 0 ((3 : Int) : Rat)) z 2 _ (FP.q 2 three_sz) Xu ht (by omega) (by omega) (by omega)).mono ?_
   rintro e w32 ⟨x31,rfl,FS_,b32⟩
   replace h7 := h7.below b32
   replace h8 := h8.below b32
   replace ht := ht.below b32
   replace Xx := Xx.below b32
   replace Xy := Xy.below b32
   replace QR := QR.below b32
   replace FP := FP.below b32
   replace Xz := Xz.below b32
   replace Xu := Xu.below b32
   replace VX := VX.below b32
   replace VY := VY.below b32
   replace VZ := VZ.below b32
   replace BB := BB.trans (b32.mono BB.size)
   clear b32
   have FS := frow_congr (q' := sc _root_.Go.Proofs.YtieeneaebjihlaaGreatDoor.w3 z) FS_.1 (fun i hi => three_by z i (by rw [three_len hz0] at hi; exact hi))
   rw [three_len hz0] at FS
   clear FS_
   go_wp2
   go_meet
   case rel => exact ⟨z,hz0,qz,FS,BB⟩
 case rest =>
  clear FP Xz h7 h8 VZ
  obtain ⟨c,hc0,hcz,FP,BC⟩ := hcut
  replace QR := QR.below BC
  replace Xx := Xx.below BC
  replace Xy := Xy.below BC
  replace VX := VX.below BC
  replace VY := VY.below BC
  replace ht := ht.below BC
  have BWC : Hid (Below w.heap.size w wc) := BW.out.trans (BC.mono BW.out.size)
  clear BW BC
  have HST0 : Hid (PSt r (fun i => decide ((i : Int) = t)) c 0 3 (sc _root_.Go.Proofs.YtieeneaebjihlaaGreatDoor.w3 c)) := PSt.start r (fun i => decide ((i : Int) = t)) hcz
  have sr : ∀ i,i < n → qsz (r i) ≤ 2 := fun i hi => QR.sz (by omega) i hi
  have HTW : Hid (∀ m,tws (fun i => decide ((i : Int) = t)) m ≤ 1) := fun m => (tws_one t m).1
  have HCX : Hid (∀ m,dcnt r x y (seenF r) m ≤ m) := dcnt_le r x y (seenF r)
  go_wp2
  have QR0 := QR
  have Xx0 := Xx
  have Xy0 := Xy
  have VX0 := VX
  have VY0 := VY
  have ht0 := ht
  clear QR Xx Xy VX VY ht
  go_loopw [11,12,13] (fun vp vc vi wr => ∃ (i l : Nat) (P : Nat → Rat),i ≤ n ∧ vi = .int .i64 (i : Int) ∧ vc = .int .i64 (dcnt r x y (seenF r) i : Int) ∧ FRow wr vp l P ∧ Hid (PSt r (fun i => decide ((i : Int) = t)) c i l P) ∧ Below wc.heap.size wc wr) (fun _ _ vi _ => n - (intOf vi).toNat)
  case atStart => exact ⟨0,3,_,by omega,rfl,rfl,FP,HST0,Below.refl _ _⟩
  case round =>
   clear FP HST0
   obtain ⟨i,l,P,hi,rfl,rfl,FP,HST,BB⟩ := hrel
   obtain ⟨ap,cp,rfl⟩ := FP.open
   have hcl := HCX.out i
   have hll : l ≤ 9 := by have := HST.out.long; have := HTW.out i; omega
   by_cases hlt : i < n
   ·have QR := QR0.below BB
    have ht := ht0.below BB
    have g1 : (i : Int) < (n : Int) := by omega
    have g0 : (0 : Int) ≤ (i : Int) := by omega
    obtain ⟨b6,off,cc6,p6,a6,n6,c6,bo6,m6,d6,hvv,hcc,XA,Ha⟩ := QR.at i hlt
    cases hvv
    have sri := sr i hlt
    have sP : ∀ j,j < l → qsz (P j) ≤ 40 := fun j hj => Nat.le_trans (HST.out.form.sz (by omega) j hj) (by have := HTW.out i; omega)
    obtain ⟨XA_0,XA_1,XA_2⟩ := id XA
    go_wp2_with fail
    clear XA_0 XA_1 XA_2
    refine (qneg_at _ (r i) 2 _ Ha (by omega) (by omega) ht).mono ?_
    rintro e w61 ⟨x71,rfl,h71,b61⟩
    replace QR := QR.below b61
    replace ht := ht.below b61
    replace FP := FP.below b61
    replace Ha := Ha.below b61
    replace XA := XA.below b61
    replace BB := BB.trans (b61.mono BB.size)
    clear b61
    obtain ⟨p71,a71,n71,c71,b71,m71,d71,rfl⟩ := h71.open
    go_wp2_with fail
    refine (qone_at _).mono ?_
    rintro e w62 ⟨x72,rfl,h72,b62⟩
    replace QR := QR.below b62
    replace ht := ht.below b62
    replace FP := FP.below b62
    replace Ha := Ha.below b62
    replace h71 := h71.below b62
    replace XA := XA.below b62
    replace BB := BB.trans (b62.mono BB.size)
    clear b62
    obtain ⟨p72,a72,n72,c72,b72,m72,d72,rfl⟩ := h72.open
    obtain ⟨Wr61,hWr61,bWr61,FF⟩ := frow2_lay w62 28 h71 h72
    replace QR := QR.below bWr61
    replace ht := ht.below bWr61
    replace FP := FP.below bWr61
    replace Ha := Ha.below bWr61
    replace h71 := h71.below bWr61
    replace h72 := h72.below bWr61
    replace XA := XA.below bWr61
    replace BB := BB.trans (bWr61.mono BB.size)
    go_wp2_with fail
    rw [← hWr61]
    clear hWr61 bWr61
    generalize w62.heap.size = Rr61 at *
    clear h71 h72
    have sF : ∀ j,j < 2 → qsz (pq (-(r i)) 1 j) ≤ 40 := fun j hj => by
     rcases (by omega : j = 0 ∨ j = 1) with rfl | rfl
     ·show qsz (-(r i)) ≤ 40
      rw [qsz_neg]; omega
     ·show qsz (1 : Rat) ≤ 40
      decide +kernel
    by_cases htw : (i : Int) = t
    ·obtain ⟨e1,e2,e3,e4,e5,e6⟩ := HST.out.twice hc0 sri (decide_eq_true htw)
     have HE1 : Hid (MulLen l P 2 (pq (-(r i)) 1) = l + 1) := e1
     have HE2 : Hid (conv l P 2 (pq (-(r i)) 1) = cmul P (lnr (r i))) := e2
     have sP2 : ∀ j,j < l + 1 → qsz (cmul P (lnr (r i)) j) ≤ 40 := fun j hj => Nat.le_trans (e3.sz (by omega) j hj) (by have := HTW.out i; omega)
     have HE4 : Hid (MulLen (l + 1) (cmul P (lnr (r i))) 2 (pq (-(r i)) 1) = l + 2) := e4
     have HE5 : Hid (conv (l + 1) (cmul P (lnr (r i))) 2 (pq (-(r i)) 1) = cmul (cmul P (lnr (r i))) (lnr (r i))) := e5
     have HN : Hid (PSt r (fun i => decide ((i : Int) = t)) c (i + 1) (l + 2) (cmul (cmul P (lnr (r i))) (lnr (r i)))) := e6
     clear e1 e2 e3 e4 e5 e6 HST
     have tb : ((i : Int) == t) = true := by simp [htw]
     have HTT : Hid ((i : Int) = t) := htw
     clear htw
     refine (pmul_at _ _ l 2 P (pq (-(r i)) 1) 40 _ (FP.q 40 sP) (FF.q 40 sF) ht (by omega) (by omega) (by omega) (Nat.le_trans (Nat.succ_le_succ (Nat.mul_le_mul_right _ (show l + 2 ≤ 12 by omega))) (by omega)) (by omega)).mono ?_
     rintro e w63 ⟨x81,rfl,FM_,b63⟩
     replace QR := QR.below b63
     replace ht := ht.below b63
     replace FP := FP.below b63
     replace Ha := Ha.below b63
     replace FF := FF.below b63
     replace XA := XA.below b63
     replace BB := BB.trans (b63.mono BB.size)
     clear b63
     have FP1 := FM_.1
     rw [HE1.out,HE2.out] at FP1
     clear FM_ FP
     have FP := FP1
     clear FP1
     generalize cmul P (lnr (r i)) = P1 at *
     obtain ⟨l1,hl1⟩ : ∃ l1,l1 = l + 1 := ⟨_,rfl⟩
     rw [← hl1] at FP sP2 HE4 HE5
     have hl19 : l1 ≤ 10 := by omega
     have HL1 : Hid (l1 = l + 1) := hl1
     clear hl1
     obtain ⟨ap1,cp1,rfl⟩ := FP.open
     go_wp2_with fail
     refine (pmul_at _ _ l1 2 P1 (pq (-(r i)) 1) 40 _ (FP.q 40 sP2) (FF.q 40 sF) ht (by omega) (by omega) (by omega) (Nat.le_trans (Nat.succ_le_succ (Nat.mul_le_mul_right _ (show l1 + 2 ≤ 12 by omega))) (by omega)) (by omega)).mono ?_
     rintro e w64 ⟨x82,rfl,FM_,b64⟩
     replace QR := QR.below b64
     replace ht := ht.below b64
     replace FP := FP.below b64
     replace Ha := Ha.below b64
     replace FF := FF.below b64
     replace XA := XA.below b64
     replace BB := BB.trans (b64.mono BB.size)
     clear b64
     have FP1 := FM_.1
     rw [HE4.out,HE5.out] at FP1
     clear FM_ FP
     have FP := FP1
     clear FP1 HE1 HE2 HE4 HE5 sP2
     generalize cmul P1 (lnr (r i)) = P2 at *
     obtain ⟨l2,hl2⟩ : ∃ l2,l2 = l + 2 := ⟨_,rfl⟩
     rw [← hl2] at FP HN
     have HL2 : Hid (l2 = l + 2) := hl2
     clear hl2
     obtain ⟨ap2,cp2,rfl⟩ := FP.open
     clear FF
     go_wp2
     have FPx := FP
     have XAx := XA
     have Hax := Ha
     have QRx := QR
     have BBx : Hid (Below wc.heap.size wc w64) := BB
     clear FP XA Ha QR ht BB
     go_loopw [15,16] (fun vs vk wr => ∃ k : Nat,k ≤ i ∧ vk = .int .i64 (k : Int) ∧ vs = .bool (seenK r i k) ∧ Below w64.heap.size w64 wr) (fun _ vk _ => i - (intOf vk).toNat)
     case atStart => exact ⟨0,by omega,rfl,rfl,Below.refl _ _⟩
     case round =>
      obtain ⟨k,hk,rfl,rfl,BB⟩ := hrel
      have XA := XAx.below BB
      have Ha := Hax.below BB
      by_cases hlt2 : k < i
      ·have g2 : (k : Int) < (i : Int) := by omega
       have g3 : (0 : Int) ≤ (k : Int) := by omega
       have g4 : (k : Int) < (n : Int) := by omega
       obtain ⟨b7,off7,cc7,p7,a7,n7,c7,bo7,m7,d7,hvv,hcc7,XB0,Hb0⟩ := QRx.at k (by omega)
       cases hvv
       have XB := XB0.below BB
       have Hb := Hb0.below BB
       clear XB0 Hb0
       have HSK : Hid (seenK r i (k + 1) = (seenK r i k || decide (r k = r i))) := rfl
       obtain ⟨sk,hsk⟩ : ∃ sk,seenK r i k = sk := ⟨_,rfl⟩
       rw [hsk] at HSK ⊢
       clear hsk
       cases sk
       ·go_wp2
        (try simp only [g2,decide_true])
        have hDr : Below wr.heap.size wr wr.drew := (Below.refl _ _).drew
        replace Ha := Ha.below hDr
        replace Hb := Hb.below hDr
        replace XA := XA.below hDr
        replace XB := XB.below hDr
        replace BB := BB.trans (hDr.mono BB.size)
        clear hDr
        refine wp_region_held_drew (S := (fun w' => w'.cell? ⟨b6,off + i * 3,none⟩ = some (.bool p6) ∧ w'.cell? ⟨b6,off + i * 3 + 1,none⟩ = some (.slice a6 n6 c6) ∧ w'.cell? ⟨b6,off + i * 3 + 2,none⟩ = some (.slice bo6 m6 d6) ∧ w'.cell? ⟨b6,off + k * 3,none⟩ = some (.bool p7) ∧ w'.cell? ⟨b6,off + k * 3 + 1,none⟩ = some (.slice a7 n7 c7) ∧ w'.cell? ⟨b6,off + k * 3 + 2,none⟩ = some (.slice bo7 m7 d7))) (by kernel_rfl) ?_ (fun hHeld => ?_)
        ·exact ⟨XA.1,XA.2.1,XA.2.2,XB.1,XB.2.1,XB.2.2⟩
        generalize wr.drew = W72 at *
        refine xT 0 (v := ?_) (hy := Or.inl ⟨by rfl,?_⟩) (h := ?_)
        rotate_left
        ·(intro w hSw; (try dsimp only at hSw); go_simp; (try with_reducible rfl))
        (try simp only [Act.put,xL4,xL5,xL6])
        refine xT 1 (v := ?_) (hy := Or.inl ⟨by rfl,?_⟩) (h := ?_)
        rotate_left
        ·(intro w hSw; (try dsimp only at hSw); go_simp; (try with_reducible rfl))
        (try simp only [Act.put,xL4,xL5,xL6])
        refine xT 2 (v := ?_) (hy := Or.inl ⟨by rfl,?_⟩) (h := ?_)
        rotate_left
        ·(intro w hSw; (try dsimp only at hSw); go_simp; (try with_reducible rfl))
        (try simp only [Act.put,xL4,xL5,xL6])
        refine xT 3 (v := ?_) (hy := Or.inl ⟨by rfl,?_⟩) (h := ?_)
        rotate_left
        ·(intro w hSw; (try dsimp only at hSw); go_simp; (try with_reducible rfl))
        (try simp only [Act.put,xL4,xL5,xL6])
        refine xT 4 (v := ?_) (hy := Or.inl ⟨by rfl,?_⟩) (h := ?_)
        rotate_left
        ·(intro w hSw; (try dsimp only at hSw); go_simp; (try with_reducible rfl))
        (try simp only [Act.put,xL4,xL5,xL6])
        refine xT 5 (v := ?_) (hy := Or.inl ⟨by rfl,?_⟩) (h := ?_)
        rotate_left
        ·(intro w hSw; (try dsimp only at hSw); go_simp; (try with_reducible rfl))
        (try simp only [Act.put,xL4,xL5,xL6])
        refine xT 6 (v := ?_) (hy := Or.inl ⟨by rfl,?_⟩) (h := ?_)
        rotate_left
        ·(intro w hSw; (try dsimp only at hSw); go_simp; (try with_reducible rfl))
        (try simp only [Act.put,xL4,xL5,xL6])
        refine xT 7 (v := ?_) (hy := Or.inl ⟨by rfl,?_⟩) (h := ?_)
        rotate_left
        ·(intro w hSw; (try dsimp only at hSw); go_simp; (try with_reducible rfl))
        (try simp only [Act.put,xL4,xL5,xL6])
        refine xT 8 (v := ?_) (hy := Or.inl ⟨by rfl,?_⟩) (h := ?_)
        rotate_left
        ·(intro w hSw; (try dsimp only at hSw); go_simp; (try with_reducible rfl))
        (try simp only [Act.put,xL4,xL5,xL6])
        refine xT 9 (v := ?_) (hy := Or.inl ⟨by rfl,?_⟩) (h := ?_)
        rotate_left
        ·(intro w hSw; (try dsimp only at hSw); go_simp; (try with_reducible rfl))
        (try simp only [Act.put,xL4,xL5,xL6])
        refine xR [10] (h := ?_)
        refine xN (h := fun K hK => ?_)
        go_simp
        refine (qsame_at _ _ (r k) (r i) 2 _ Hb Ha (by omega) (by omega)).mono ?_
        rintro e w75 ⟨rfl,b75⟩
        obtain ⟨dd,hdd⟩ : ∃ dd,decide (r k = r i) = dd := ⟨_,rfl⟩
        rw [hdd] at HSK ⊢
        clear hdd
        go_wp2_with fail
        replace Ha := Ha.below b75
        replace Hb := Hb.below b75
        replace XA := XA.below b75
        replace XB := XB.below b75
        replace BB := BB.trans (b75.mono BB.size)
        clear b75
        refine hK.out _ _ ?_ (fun hH1 => ?_)
        ·exact ⟨XA.1,XA.2.1,XA.2.2,XB.1,XB.2.1,XB.2.2⟩
        clear hK K hHeld
        (try simp only [Act.put,xL4,xL5,xL6])
        refine xT 11 (v := ?_) (hy := Or.inl ⟨by rfl,?_⟩) (h := ?_)
        rotate_left
        ·(intro w hSw; (try dsimp only at hSw); go_simp; (try with_reducible rfl))
        (try simp only [Act.put,xL4,xL5,xL6])
        refine xT 12 (v := ?_) (hy := Or.inl ⟨by rfl,?_⟩) (h := ?_)
        rotate_left
        ·(intro w hSw; (try dsimp only at hSw); go_simp; (try with_reducible rfl))
        (try simp only [Act.put,xL4,xL5,xL6])
        refine wpAnyH_done (by kernel_rfl) ?_ _
        clear hH1
        go_wp2
        go_roundw
        case rel => exact ⟨k + 1,by omega,by go_num,by rw [HSK.out]; simp,BB⟩
        case measure => simp [intOf]; omega
       ·go_wp2
        (try simp only [g2,decide_true])
        have hDr : Below wr.heap.size wr wr.drew := (Below.refl _ _).drew
        replace Ha := Ha.below hDr
        replace Hb := Hb.below hDr
        replace XA := XA.below hDr
        replace XB := XB.below hDr
        replace BB := BB.trans (hDr.mono BB.size)
        clear hDr
        refine wp_region_held_drew (S := (fun w' => w'.cell? ⟨b6,off + i * 3,none⟩ = some (.bool p6) ∧ w'.cell? ⟨b6,off + i * 3 + 1,none⟩ = some (.slice a6 n6 c6) ∧ w'.cell? ⟨b6,off + i * 3 + 2,none⟩ = some (.slice bo6 m6 d6) ∧ w'.cell? ⟨b6,off + k * 3,none⟩ = some (.bool p7) ∧ w'.cell? ⟨b6,off + k * 3 + 1,none⟩ = some (.slice a7 n7 c7) ∧ w'.cell? ⟨b6,off + k * 3 + 2,none⟩ = some (.slice bo7 m7 d7))) (by kernel_rfl) ?_ (fun hHeld => ?_)
        ·exact ⟨XA.1,XA.2.1,XA.2.2,XB.1,XB.2.1,XB.2.2⟩
        generalize wr.drew = W72 at *
        refine xT 0 (v := ?_) (hy := Or.inl ⟨by rfl,?_⟩) (h := ?_)
        rotate_left
        ·(intro w hSw; (try dsimp only at hSw); go_simp; (try with_reducible rfl))
        (try simp only [Act.put,xL4,xL5,xL6])
        refine xT 1 (v := ?_) (hy := Or.inl ⟨by rfl,?_⟩) (h := ?_)
        rotate_left
        ·(intro w hSw; (try dsimp only at hSw); go_simp; (try with_reducible rfl))
        (try simp only [Act.put,xL4,xL5,xL6])
        refine xT 2 (v := undef) (hy := Or.inr ⟨by rfl,rfl⟩) (h := ?_)
        (try simp only [Act.put,xL4,xL5,xL6])
        refine xT 3 (v := undef) (hy := Or.inr ⟨by rfl,rfl⟩) (h := ?_)
        (try simp only [Act.put,xL4,xL5,xL6])
        refine xT 4 (v := undef) (hy := Or.inr ⟨by rfl,rfl⟩) (h := ?_)
        (try simp only [Act.put,xL4,xL5,xL6])
        refine xT 5 (v := undef) (hy := Or.inr ⟨by rfl,rfl⟩) (h := ?_)
        (try simp only [Act.put,xL4,xL5,xL6])
        refine xT 6 (v := undef) (hy := Or.inr ⟨by rfl,rfl⟩) (h := ?_)
        (try simp only [Act.put,xL4,xL5,xL6])
        refine xT 7 (v := undef) (hy := Or.inr ⟨by rfl,rfl⟩) (h := ?_)
        (try simp only [Act.put,xL4,xL5,xL6])
        refine xT 8 (v := undef) (hy := Or.inr ⟨by rfl,rfl⟩) (h := ?_)
        (try simp only [Act.put,xL4,xL5,xL6])
        refine xT 9 (v := undef) (hy := Or.inr ⟨by rfl,rfl⟩) (h := ?_)
        (try simp only [Act.put,xL4,xL5,xL6])
        refine xT 10 (v := undef) (hy := Or.inr ⟨by rfl,rfl⟩) (h := ?_)
        (try simp only [Act.put,xL4,xL5,xL6])
        refine xT 11 (v := ?_) (hy := Or.inl ⟨by rfl,?_⟩) (h := ?_)
        rotate_left
        ·(intro w hSw; (try dsimp only at hSw); go_simp; (try with_reducible rfl))
        (try simp only [Act.put,xL4,xL5,xL6])
        refine xT 12 (v := ?_) (hy := Or.inl ⟨by rfl,?_⟩) (h := ?_)
        rotate_left
        ·(intro w hSw; (try dsimp only at hSw); go_simp; (try with_reducible rfl))
        (try simp only [Act.put,xL4,xL5,xL6])
        refine wpAnyH_done (by kernel_rfl) ?_ _
        clear hHeld
        go_wp2
        go_roundw
        case rel => exact ⟨k + 1,by omega,by go_num,by rw [HSK.out]; rfl,BB⟩
        case measure => simp [intOf]; omega
      ·obtain rfl : k = i := by omega
       have g2 : ¬ (k : Int) < (k : Int) := by omega
       have VX := (VX0.below BBx.out).below BB
       have VY := (VY0.below BBx.out).below BB
       have Xx := (Xx0.below BBx.out).below BB
       have Xy := (Xy0.below BBx.out).below BB
       have FP := FPx.below BB
       replace BB := BBx.out.trans (BB.mono BBx.out.size)
       clear FPx XAx Hax QRx BBx
       have HSF : Hid (seenK r k k = seenF r k) := rfl
       rw [HSF.out]
       clear HSF
       obtain ⟨sk,hsk⟩ : ∃ sk,seenF r k = sk := ⟨_,rfl⟩
       have HSK : Hid (seenF r k = sk) := hsk
       rw [hsk]
       clear hsk
       obtain ⟨c1,hc1⟩ : ∃ z,cmpQ (r k) x = z := ⟨_,rfl⟩
       obtain ⟨c2,hc2⟩ : ∃ z,cmpQ (r k) y = z := ⟨_,rfl⟩
       have HC1 : Hid (cmpQ (r k) x = c1) := hc1
       have HC2 : Hid (cmpQ (r k) y = c2) := hc2
       clear hc1 hc2
       obtain ⟨dc,hdc⟩ : ∃ z,dcnt r x y (seenF r) k = z := ⟨_,rfl⟩
       have HDC : Hid (dcnt r x y (seenF r) k = dc) := hdc
       rw [hdc] at hcl ⊢
       clear hdc
       by_cases hss : sk = false
       ·subst hss
        by_cases h1 : 0 < c1
        ·by_cases h2 : c2 ≤ 0
         ·have k1 : c1 > 0 := h1
          have k1b : decide (c1 > 0) = true := decide_eq_true k1
          have k2b : decide (c2 ≤ 0) = true := decide_eq_true h2
          go_wp2
          have hDr : Below wr.heap.size wr wr.drew := (Below.refl _ _).drew
          replace Ha := Ha.below hDr
          replace Xx := Xx.below hDr
          replace Xy := Xy.below hDr
          replace FP := FP.below hDr
          replace XA := XA.below hDr
          replace VX := VX.below hDr
          replace VY := VY.below hDr
          replace BB := BB.trans (hDr.mono BB.size)
          clear hDr
          refine wp_region_held_drew (S := (fun w' => w'.cell? ⟨b6,off + k * 3,none⟩ = some (.bool p6) ∧ w'.cell? ⟨b6,off + k * 3 + 1,none⟩ = some (.slice a6 n6 c6) ∧ w'.cell? ⟨b6,off + k * 3 + 2,none⟩ = some (.slice bo6 m6 d6) ∧ w'.cell? ⟨w.heap.size,0,none⟩ = some (.bool px) ∧ w'.cell? ⟨w.heap.size,1,none⟩ = some (.slice aox l4x cox) ∧ w'.cell? ⟨w.heap.size,2,none⟩ = some (.slice box k4x dox) ∧ w'.cell? ⟨w.heap.size + 1,0,none⟩ = some (.bool py) ∧ w'.cell? ⟨w.heap.size + 1,1,none⟩ = some (.slice aoy l4y coy) ∧ w'.cell? ⟨w.heap.size + 1,2,none⟩ = some (.slice boy k4y doy))) (by kernel_rfl) ?_ (fun hHeld => ?_)
          ·exact ⟨XA.1,XA.2.1,XA.2.2,VX.1,VX.2.1,VX.2.2.1,VY.1,VY.2.1,VY.2.2.1⟩
          generalize wr.drew = W72 at *
          refine xT 0 (v := ?_) (hy := Or.inl ⟨by rfl,?_⟩) (h := ?_)
          rotate_left
          ·(intro w hSw; (try dsimp only at hSw); go_simp; (try with_reducible rfl))
          (try simp only [Act.put,xL4,xL5,xL6])
          refine xT 1 (v := ?_) (hy := Or.inl ⟨by rfl,?_⟩) (h := ?_)
          rotate_left
          ·(intro w hSw; (try dsimp only at hSw); go_simp; (try with_reducible rfl))
          (try simp only [Act.put,xL4,xL5,xL6])
          refine xT 2 (v := ?_) (hy := Or.inl ⟨by rfl,?_⟩) (h := ?_)
          rotate_left
          ·(intro w hSw; (try dsimp only at hSw); go_simp; (try with_reducible rfl))
          (try simp only [Act.put,xL4,xL5,xL6])
          refine xT 3 (v := ?_) (hy := Or.inl ⟨by rfl,?_⟩) (h := ?_)
          rotate_left
          ·(intro w hSw; (try dsimp only at hSw); go_simp; (try with_reducible rfl))
          (try simp only [Act.put,xL4,xL5,xL6])
          refine xT 4 (v := ?_) (hy := Or.inl ⟨by rfl,?_⟩) (h := ?_)
          rotate_left
          ·(intro w hSw; (try dsimp only at hSw); go_simp; (try with_reducible rfl))
          (try simp only [Act.put,xL4,xL5,xL6])
          refine xT 5 (v := ?_) (hy := Or.inl ⟨by rfl,?_⟩) (h := ?_)
          rotate_left
          ·(intro w hSw; (try dsimp only at hSw); go_simp; (try with_reducible rfl))
          (try simp only [Act.put,xL4,xL5,xL6])
          refine xT 6 (v := ?_) (hy := Or.inl ⟨by rfl,?_⟩) (h := ?_)
          rotate_left
          ·(intro w hSw; (try dsimp only at hSw); go_simp; (try with_reducible rfl))
          (try simp only [Act.put,xL4,xL5,xL6])
          refine xT 7 (v := ?_) (hy := Or.inl ⟨by rfl,?_⟩) (h := ?_)
          rotate_left
          ·(intro w hSw; (try dsimp only at hSw); go_simp; (try with_reducible rfl))
          (try simp only [Act.put,xL4,xL5,xL6])
          refine xR [8] (h := ?_)
          refine xN (h := fun K hK => ?_)
          go_simp
          refine (qcmp_at _ _ (r k) x 2 _ Ha Xx (by omega) (by omega)).mono ?_
          rintro e w75 ⟨rfl,b75⟩
          rw [HC1.out]
          go_wp2_with fail
          replace Ha := Ha.below b75
          replace Xx := Xx.below b75
          replace Xy := Xy.below b75
          replace FP := FP.below b75
          replace XA := XA.below b75
          replace VX := VX.below b75
          replace VY := VY.below b75
          replace BB := BB.trans (b75.mono BB.size)
          clear b75
          refine hK.out _ _ ?_ (fun hH1 => ?_)
          ·exact ⟨XA.1,XA.2.1,XA.2.2,VX.1,VX.2.1,VX.2.2.1,VY.1,VY.2.1,VY.2.2.1⟩
          clear hK K hHeld
          (try simp only [Act.put,xL4,xL5,xL6])
          refine xT 9 (v := ?_) (hy := Or.inl ⟨by rfl,?_⟩) (h := ?_)
          rotate_left
          ·(intro w hSw; (try dsimp only at hSw); go_simp; (try with_reducible rfl))
          (try simp only [Act.put,xL4,xL5,xL6])
          refine xT 10 (v := ?_) (hy := Or.inl ⟨by rfl,?_⟩) (h := ?_)
          rotate_left
          ·(intro w hSw; (try dsimp only at hSw); go_simp; (try with_reducible rfl))
          (try simp only [Act.put,xL4,xL5,xL6])
          refine xT 11 (v := ?_) (hy := Or.inl ⟨by rfl,?_⟩) (h := ?_)
          rotate_left
          ·(intro w hSw; (try dsimp only at hSw); go_simp; (try with_reducible rfl))
          (try simp only [Act.put,xL4,xL5,xL6])
          refine xT 12 (v := ?_) (hy := Or.inl ⟨by rfl,?_⟩) (h := ?_)
          rotate_left
          ·(intro w hSw; (try dsimp only at hSw); go_simp; (try with_reducible rfl))
          (try simp only [Act.put,xL4,xL5,xL6])
          refine xT 13 (v := ?_) (hy := Or.inl ⟨by rfl,?_⟩) (h := ?_)
          rotate_left
          ·(intro w hSw; (try dsimp only at hSw); go_simp; (try with_reducible rfl))
          (try simp only [Act.put,xL4,xL5,xL6])
          refine xT 14 (v := ?_) (hy := Or.inl ⟨by rfl,?_⟩) (h := ?_)
          rotate_left
          ·(intro w hSw; (try dsimp only at hSw); go_simp; (try with_reducible rfl))
          (try simp only [Act.put,xL4,xL5,xL6])
          refine xT 15 (v := ?_) (hy := Or.inl ⟨by rfl,?_⟩) (h := ?_)
          rotate_left
          ·(intro w hSw; (try dsimp only at hSw); go_simp; (try with_reducible rfl))
          (try simp only [Act.put,xL4,xL5,xL6])
          refine xT 16 (v := ?_) (hy := Or.inl ⟨by rfl,?_⟩) (h := ?_)
          rotate_left
          ·(intro w hSw; (try dsimp only at hSw); go_simp; (try with_reducible rfl))
          (try simp only [Act.put,xL4,xL5,xL6])
          refine xR [17] (h := ?_)
          refine xN (h := fun K hK => ?_)
          go_simp
          refine (qcmp_at _ _ (r k) y 2 _ Ha Xy (by omega) (by omega)).mono ?_
          rintro e w76 ⟨rfl,b76⟩
          rw [HC2.out]
          go_wp2_with fail
          replace Ha := Ha.below b76
          replace Xx := Xx.below b76
          replace Xy := Xy.below b76
          replace FP := FP.below b76
          replace XA := XA.below b76
          replace VX := VX.below b76
          replace VY := VY.below b76
          replace BB := BB.trans (b76.mono BB.size)
          clear b76
          refine hK.out _ _ ?_ (fun hH2 => ?_)
          ·exact ⟨XA.1,XA.2.1,XA.2.2,VX.1,VX.2.1,VX.2.2.1,VY.1,VY.2.1,VY.2.2.1⟩
          clear hK K hH1
          (try simp only [Act.put,xL4,xL5,xL6])
          refine xT 18 (v := ?_) (hy := Or.inl ⟨by rfl,?_⟩) (h := ?_)
          rotate_left
          ·(intro w hSw; (try dsimp only at hSw); go_simp; (try with_reducible rfl))
          (try simp only [Act.put,xL4,xL5,xL6])
          refine xT 19 (v := ?_) (hy := Or.inl ⟨by rfl,?_⟩) (h := ?_)
          rotate_left
          ·(intro w hSw; (try dsimp only at hSw); go_simp; (try with_reducible rfl))
          (try simp only [Act.put,xL4,xL5,xL6])
          refine wpAnyH_done (by kernel_rfl) ?_ _
          clear hH2
          go_wp2
          go_roundw
          case rel => exact ⟨k + 1,l2,_,by omega,by go_num,by rw [dcnt_yes HSK.out (by rw [HC1.out]; exact h1) (by rw [HC2.out]; exact h2),HDC.out]; go_num,FP,HN,BB⟩
          case measure => simp [intOf]; omega
         ·have k1 : c1 > 0 := h1
          have k1b : decide (c1 > 0) = true := decide_eq_true k1
          have k2b : decide (c2 ≤ 0) = false := decide_eq_false h2
          go_wp2
          have hDr : Below wr.heap.size wr wr.drew := (Below.refl _ _).drew
          replace Ha := Ha.below hDr
          replace Xx := Xx.below hDr
          replace Xy := Xy.below hDr
          replace FP := FP.below hDr
          replace XA := XA.below hDr
          replace VX := VX.below hDr
          replace VY := VY.below hDr
          replace BB := BB.trans (hDr.mono BB.size)
          clear hDr
          refine wp_region_held_drew (S := (fun w' => w'.cell? ⟨b6,off + k * 3,none⟩ = some (.bool p6) ∧ w'.cell? ⟨b6,off + k * 3 + 1,none⟩ = some (.slice a6 n6 c6) ∧ w'.cell? ⟨b6,off + k * 3 + 2,none⟩ = some (.slice bo6 m6 d6) ∧ w'.cell? ⟨w.heap.size,0,none⟩ = some (.bool px) ∧ w'.cell? ⟨w.heap.size,1,none⟩ = some (.slice aox l4x cox) ∧ w'.cell? ⟨w.heap.size,2,none⟩ = some (.slice box k4x dox) ∧ w'.cell? ⟨w.heap.size + 1,0,none⟩ = some (.bool py) ∧ w'.cell? ⟨w.heap.size + 1,1,none⟩ = some (.slice aoy l4y coy) ∧ w'.cell? ⟨w.heap.size + 1,2,none⟩ = some (.slice boy k4y doy))) (by kernel_rfl) ?_ (fun hHeld => ?_)
          ·exact ⟨XA.1,XA.2.1,XA.2.2,VX.1,VX.2.1,VX.2.2.1,VY.1,VY.2.1,VY.2.2.1⟩
          generalize wr.drew = W72 at *
          refine xT 0 (v := ?_) (hy := Or.inl ⟨by rfl,?_⟩) (h := ?_)
          rotate_left
          ·(intro w hSw; (try dsimp only at hSw); go_simp; (try with_reducible rfl))
          (try simp only [Act.put,xL4,xL5,xL6])
          refine xT 1 (v := ?_) (hy := Or.inl ⟨by rfl,?_⟩) (h := ?_)
          rotate_left
          ·(intro w hSw; (try dsimp only at hSw); go_simp; (try with_reducible rfl))
          (try simp only [Act.put,xL4,xL5,xL6])
          refine xT 2 (v := ?_) (hy := Or.inl ⟨by rfl,?_⟩) (h := ?_)
          rotate_left
          ·(intro w hSw; (try dsimp only at hSw); go_simp; (try with_reducible rfl))
          (try simp only [Act.put,xL4,xL5,xL6])
          refine xT 3 (v := ?_) (hy := Or.inl ⟨by rfl,?_⟩) (h := ?_)
          rotate_left
          ·(intro w hSw; (try dsimp only at hSw); go_simp; (try with_reducible rfl))
          (try simp only [Act.put,xL4,xL5,xL6])
          refine xT 4 (v := ?_) (hy := Or.inl ⟨by rfl,?_⟩) (h := ?_)
          rotate_left
          ·(intro w hSw; (try dsimp only at hSw); go_simp; (try with_reducible rfl))
          (try simp only [Act.put,xL4,xL5,xL6])
          refine xT 5 (v := ?_) (hy := Or.inl ⟨by rfl,?_⟩) (h := ?_)
          rotate_left
          ·(intro w hSw; (try dsimp only at hSw); go_simp; (try with_reducible rfl))
          (try simp only [Act.put,xL4,xL5,xL6])
          refine xT 6 (v := ?_) (hy := Or.inl ⟨by rfl,?_⟩) (h := ?_)
          rotate_left
          ·(intro w hSw; (try dsimp only at hSw); go_simp; (try with_reducible rfl))
          (try simp only [Act.put,xL4,xL5,xL6])
          refine xT 7 (v := ?_) (hy := Or.inl ⟨by rfl,?_⟩) (h := ?_)
          rotate_left
          ·(intro w hSw; (try dsimp only at hSw); go_simp; (try with_reducible rfl))
          (try simp only [Act.put,xL4,xL5,xL6])
          refine xR [8] (h := ?_)
          refine xN (h := fun K hK => ?_)
          go_simp
          refine (qcmp_at _ _ (r k) x 2 _ Ha Xx (by omega) (by omega)).mono ?_
          rintro e w75 ⟨rfl,b75⟩
          rw [HC1.out]
          go_wp2_with fail
          replace Ha := Ha.below b75
          replace Xx := Xx.below b75
          replace Xy := Xy.below b75
          replace FP := FP.below b75
          replace XA := XA.below b75
          replace VX := VX.below b75
          replace VY := VY.below b75
          replace BB := BB.trans (b75.mono BB.size)
          clear b75
          refine hK.out _ _ ?_ (fun hH1 => ?_)
          ·exact ⟨XA.1,XA.2.1,XA.2.2,VX.1,VX.2.1,VX.2.2.1,VY.1,VY.2.1,VY.2.2.1⟩
          clear hK K hHeld
          (try simp only [Act.put,xL4,xL5,xL6])
          refine xT 9 (v := ?_) (hy := Or.inl ⟨by rfl,?_⟩) (h := ?_)
          rotate_left
          ·(intro w hSw; (try dsimp only at hSw); go_simp; (try with_reducible rfl))
          (try simp only [Act.put,xL4,xL5,xL6])
          refine xT 10 (v := ?_) (hy := Or.inl ⟨by rfl,?_⟩) (h := ?_)
          rotate_left
          ·(intro w hSw; (try dsimp only at hSw); go_simp; (try with_reducible rfl))
          (try simp only [Act.put,xL4,xL5,xL6])
          refine xT 11 (v := ?_) (hy := Or.inl ⟨by rfl,?_⟩) (h := ?_)
          rotate_left
          ·(intro w hSw; (try dsimp only at hSw); go_simp; (try with_reducible rfl))
          (try simp only [Act.put,xL4,xL5,xL6])
          refine xT 12 (v := ?_) (hy := Or.inl ⟨by rfl,?_⟩) (h := ?_)
          rotate_left
          ·(intro w hSw; (try dsimp only at hSw); go_simp; (try with_reducible rfl))
          (try simp only [Act.put,xL4,xL5,xL6])
          refine xT 13 (v := ?_) (hy := Or.inl ⟨by rfl,?_⟩) (h := ?_)
          rotate_left
          ·(intro w hSw; (try dsimp only at hSw); go_simp; (try with_reducible rfl))
          (try simp only [Act.put,xL4,xL5,xL6])
          refine xT 14 (v := ?_) (hy := Or.inl ⟨by rfl,?_⟩) (h := ?_)
          rotate_left
          ·(intro w hSw; (try dsimp only at hSw); go_simp; (try with_reducible rfl))
          (try simp only [Act.put,xL4,xL5,xL6])
          refine xT 15 (v := ?_) (hy := Or.inl ⟨by rfl,?_⟩) (h := ?_)
          rotate_left
          ·(intro w hSw; (try dsimp only at hSw); go_simp; (try with_reducible rfl))
          (try simp only [Act.put,xL4,xL5,xL6])
          refine xT 16 (v := ?_) (hy := Or.inl ⟨by rfl,?_⟩) (h := ?_)
          rotate_left
          ·(intro w hSw; (try dsimp only at hSw); go_simp; (try with_reducible rfl))
          (try simp only [Act.put,xL4,xL5,xL6])
          refine xR [17] (h := ?_)
          refine xN (h := fun K hK => ?_)
          go_simp
          refine (qcmp_at _ _ (r k) y 2 _ Ha Xy (by omega) (by omega)).mono ?_
          rintro e w76 ⟨rfl,b76⟩
          rw [HC2.out]
          go_wp2_with fail
          replace Ha := Ha.below b76
          replace Xx := Xx.below b76
          replace Xy := Xy.below b76
          replace FP := FP.below b76
          replace XA := XA.below b76
          replace VX := VX.below b76
          replace VY := VY.below b76
          replace BB := BB.trans (b76.mono BB.size)
          clear b76
          refine hK.out _ _ ?_ (fun hH2 => ?_)
          ·exact ⟨XA.1,XA.2.1,XA.2.2,VX.1,VX.2.1,VX.2.2.1,VY.1,VY.2.1,VY.2.2.1⟩
          clear hK K hH1
          (try simp only [Act.put,xL4,xL5,xL6])
          refine xT 18 (v := ?_) (hy := Or.inl ⟨by rfl,?_⟩) (h := ?_)
          rotate_left
          ·(intro w hSw; (try dsimp only at hSw); go_simp; (try with_reducible rfl))
          (try simp only [Act.put,xL4,xL5,xL6])
          refine xT 19 (v := ?_) (hy := Or.inl ⟨by rfl,?_⟩) (h := ?_)
          rotate_left
          ·(intro w hSw; (try dsimp only at hSw); go_simp; (try with_reducible rfl))
          (try simp only [Act.put,xL4,xL5,xL6])
          refine wpAnyH_done (by kernel_rfl) ?_ _
          clear hH2
          go_wp2
          go_roundw
          case rel => exact ⟨k + 1,l2,_,by omega,by go_num,by rw [dcnt_no (fun hh => by have hx := hh.2.2; rw [HC2.out] at hx; omega),HDC.out],FP,HN,BB⟩
          case measure => simp [intOf]; omega
        ·have k1 : ¬ c1 > 0 := h1
         have k1b : decide (c1 > 0) = false := decide_eq_false k1
         go_wp2
         have hDr : Below wr.heap.size wr wr.drew := (Below.refl _ _).drew
         replace Ha := Ha.below hDr
         replace Xx := Xx.below hDr
         replace Xy := Xy.below hDr
         replace FP := FP.below hDr
         replace XA := XA.below hDr
         replace VX := VX.below hDr
         replace VY := VY.below hDr
         replace BB := BB.trans (hDr.mono BB.size)
         clear hDr
         refine wp_region_held_drew (S := (fun w' => w'.cell? ⟨b6,off + k * 3,none⟩ = some (.bool p6) ∧ w'.cell? ⟨b6,off + k * 3 + 1,none⟩ = some (.slice a6 n6 c6) ∧ w'.cell? ⟨b6,off + k * 3 + 2,none⟩ = some (.slice bo6 m6 d6) ∧ w'.cell? ⟨w.heap.size,0,none⟩ = some (.bool px) ∧ w'.cell? ⟨w.heap.size,1,none⟩ = some (.slice aox l4x cox) ∧ w'.cell? ⟨w.heap.size,2,none⟩ = some (.slice box k4x dox) ∧ w'.cell? ⟨w.heap.size + 1,0,none⟩ = some (.bool py) ∧ w'.cell? ⟨w.heap.size + 1,1,none⟩ = some (.slice aoy l4y coy) ∧ w'.cell? ⟨w.heap.size + 1,2,none⟩ = some (.slice boy k4y doy))) (by kernel_rfl) ?_ (fun hHeld => ?_)
         ·exact ⟨XA.1,XA.2.1,XA.2.2,VX.1,VX.2.1,VX.2.2.1,VY.1,VY.2.1,VY.2.2.1⟩
         generalize wr.drew = W72 at *
         refine xT 0 (v := ?_) (hy := Or.inl ⟨by rfl,?_⟩) (h := ?_)
         rotate_left
         ·(intro w hSw; (try dsimp only at hSw); go_simp; (try with_reducible rfl))
         (try simp only [Act.put,xL4,xL5,xL6])
         refine xT 1 (v := ?_) (hy := Or.inl ⟨by rfl,?_⟩) (h := ?_)
         rotate_left
         ·(intro w hSw; (try dsimp only at hSw); go_simp; (try with_reducible rfl))
         (try simp only [Act.put,xL4,xL5,xL6])
         refine xT 2 (v := ?_) (hy := Or.inl ⟨by rfl,?_⟩) (h := ?_)
         rotate_left
         ·(intro w hSw; (try dsimp only at hSw); go_simp; (try with_reducible rfl))
         (try simp only [Act.put,xL4,xL5,xL6])
         refine xT 3 (v := ?_) (hy := Or.inl ⟨by rfl,?_⟩) (h := ?_)
         rotate_left
         ·(intro w hSw; (try dsimp only at hSw); go_simp; (try with_reducible rfl))
         (try simp only [Act.put,xL4,xL5,xL6])
         refine xT 4 (v := ?_) (hy := Or.inl ⟨by rfl,?_⟩) (h := ?_)
         rotate_left
         ·(intro w hSw; (try dsimp only at hSw); go_simp; (try with_reducible rfl))
         (try simp only [Act.put,xL4,xL5,xL6])
         refine xT 5 (v := ?_) (hy := Or.inl ⟨by rfl,?_⟩) (h := ?_)
         rotate_left
         ·(intro w hSw; (try dsimp only at hSw); go_simp; (try with_reducible rfl))
         (try simp only [Act.put,xL4,xL5,xL6])
         refine xT 6 (v := ?_) (hy := Or.inl ⟨by rfl,?_⟩) (h := ?_)
         rotate_left
         ·(intro w hSw; (try dsimp only at hSw); go_simp; (try with_reducible rfl))
         (try simp only [Act.put,xL4,xL5,xL6])
         refine xT 7 (v := ?_) (hy := Or.inl ⟨by rfl,?_⟩) (h := ?_)
         rotate_left
         ·(intro w hSw; (try dsimp only at hSw); go_simp; (try with_reducible rfl))
         (try simp only [Act.put,xL4,xL5,xL6])
         refine xR [8] (h := ?_)
         refine xN (h := fun K hK => ?_)
         go_simp
         refine (qcmp_at _ _ (r k) x 2 _ Ha Xx (by omega) (by omega)).mono ?_
         rintro e w75 ⟨rfl,b75⟩
         rw [HC1.out]
         go_wp2_with fail
         replace Ha := Ha.below b75
         replace Xx := Xx.below b75
         replace Xy := Xy.below b75
         replace FP := FP.below b75
         replace XA := XA.below b75
         replace VX := VX.below b75
         replace VY := VY.below b75
         replace BB := BB.trans (b75.mono BB.size)
         clear b75
         refine hK.out _ _ ?_ (fun hH1 => ?_)
         ·exact ⟨XA.1,XA.2.1,XA.2.2,VX.1,VX.2.1,VX.2.2.1,VY.1,VY.2.1,VY.2.2.1⟩
         clear hK K hHeld
         (try simp only [Act.put,xL4,xL5,xL6])
         refine xT 9 (v := ?_) (hy := Or.inl ⟨by rfl,?_⟩) (h := ?_)
         rotate_left
         ·(intro w hSw; (try dsimp only at hSw); go_simp; (try with_reducible rfl))
         (try simp only [Act.put,xL4,xL5,xL6])
         refine xT 10 (v := ?_) (hy := Or.inl ⟨by rfl,?_⟩) (h := ?_)
         rotate_left
         ·(intro w hSw; (try dsimp only at hSw); go_simp; (try with_reducible rfl))
         (try simp only [Act.put,xL4,xL5,xL6])
         refine xT 11 (v := ?_) (hy := Or.inl ⟨by rfl,?_⟩) (h := ?_)
         rotate_left
         ·(intro w hSw; (try dsimp only at hSw); go_simp; (try with_reducible rfl))
         (try simp only [Act.put,xL4,xL5,xL6])
         refine xT 12 (v := undef) (hy := Or.inr ⟨by rfl,rfl⟩) (h := ?_)
         (try simp only [Act.put,xL4,xL5,xL6])
         refine xT 13 (v := undef) (hy := Or.inr ⟨by rfl,rfl⟩) (h := ?_)
         (try simp only [Act.put,xL4,xL5,xL6])
         refine xT 14 (v := undef) (hy := Or.inr ⟨by rfl,rfl⟩) (h := ?_)
         (try simp only [Act.put,xL4,xL5,xL6])
         refine xT 15 (v := undef) (hy := Or.inr ⟨by rfl,rfl⟩) (h := ?_)
         (try simp only [Act.put,xL4,xL5,xL6])
         refine xT 16 (v := undef) (hy := Or.inr ⟨by rfl,rfl⟩) (h := ?_)
         (try simp only [Act.put,xL4,xL5,xL6])
         refine xT 17 (v := undef) (hy := Or.inr ⟨by rfl,rfl⟩) (h := ?_)
         (try simp only [Act.put,xL4,xL5,xL6])
         refine xT 18 (v := undef) (hy := Or.inr ⟨by rfl,rfl⟩) (h := ?_)
         (try simp only [Act.put,xL4,xL5,xL6])
         refine xT 19 (v := ?_) (hy := Or.inl ⟨by rfl,?_⟩) (h := ?_)
         rotate_left
         ·(intro w hSw; (try dsimp only at hSw); go_simp; (try with_reducible rfl))
         (try simp only [Act.put,xL4,xL5,xL6])
         refine wpAnyH_done (by kernel_rfl) ?_ _
         clear hH1
         go_wp2
         go_roundw
         case rel => exact ⟨k + 1,l2,_,by omega,by go_num,by rw [dcnt_no (fun hh => by have hx := hh.2.1; rw [HC1.out] at hx; omega),HDC.out],FP,HN,BB⟩
         case measure => simp [intOf]; omega
       ·obtain rfl : sk = true := by cases sk; exact absurd rfl hss; rfl
        go_wp2
        have hDr : Below wr.heap.size wr wr.drew := (Below.refl _ _).drew
        replace Ha := Ha.below hDr
        replace Xx := Xx.below hDr
        replace Xy := Xy.below hDr
        replace FP := FP.below hDr
        replace XA := XA.below hDr
        replace VX := VX.below hDr
        replace VY := VY.below hDr
        replace BB := BB.trans (hDr.mono BB.size)
        clear hDr
        refine wp_region_held_drew (S := (fun w' => w'.cell? ⟨b6,off + k * 3,none⟩ = some (.bool p6) ∧ w'.cell? ⟨b6,off + k * 3 + 1,none⟩ = some (.slice a6 n6 c6) ∧ w'.cell? ⟨b6,off + k * 3 + 2,none⟩ = some (.slice bo6 m6 d6) ∧ w'.cell? ⟨w.heap.size,0,none⟩ = some (.bool px) ∧ w'.cell? ⟨w.heap.size,1,none⟩ = some (.slice aox l4x cox) ∧ w'.cell? ⟨w.heap.size,2,none⟩ = some (.slice box k4x dox) ∧ w'.cell? ⟨w.heap.size + 1,0,none⟩ = some (.bool py) ∧ w'.cell? ⟨w.heap.size + 1,1,none⟩ = some (.slice aoy l4y coy) ∧ w'.cell? ⟨w.heap.size + 1,2,none⟩ = some (.slice boy k4y doy))) (by kernel_rfl) ?_ (fun hHeld => ?_)
        ·exact ⟨XA.1,XA.2.1,XA.2.2,VX.1,VX.2.1,VX.2.2.1,VY.1,VY.2.1,VY.2.2.1⟩
        generalize wr.drew = W72 at *
        refine xT 0 (v := ?_) (hy := Or.inl ⟨by rfl,?_⟩) (h := ?_)
        rotate_left
        ·(intro w hSw; (try dsimp only at hSw); go_simp; (try with_reducible rfl))
        (try simp only [Act.put,xL4,xL5,xL6])
        refine xT 1 (v := ?_) (hy := Or.inl ⟨by rfl,?_⟩) (h := ?_)
        rotate_left
        ·(intro w hSw; (try dsimp only at hSw); go_simp; (try with_reducible rfl))
        (try simp only [Act.put,xL4,xL5,xL6])
        refine xT 2 (v := ?_) (hy := Or.inl ⟨by rfl,?_⟩) (h := ?_)
        rotate_left
        ·(intro w hSw; (try dsimp only at hSw); go_simp; (try with_reducible rfl))
        (try simp only [Act.put,xL4,xL5,xL6])
        refine xT 3 (v := undef) (hy := Or.inr ⟨by rfl,rfl⟩) (h := ?_)
        (try simp only [Act.put,xL4,xL5,xL6])
        refine xT 4 (v := undef) (hy := Or.inr ⟨by rfl,rfl⟩) (h := ?_)
        (try simp only [Act.put,xL4,xL5,xL6])
        refine xT 5 (v := undef) (hy := Or.inr ⟨by rfl,rfl⟩) (h := ?_)
        (try simp only [Act.put,xL4,xL5,xL6])
        refine xT 6 (v := undef) (hy := Or.inr ⟨by rfl,rfl⟩) (h := ?_)
        (try simp only [Act.put,xL4,xL5,xL6])
        refine xT 7 (v := undef) (hy := Or.inr ⟨by rfl,rfl⟩) (h := ?_)
        (try simp only [Act.put,xL4,xL5,xL6])
        refine xT 8 (v := undef) (hy := Or.inr ⟨by rfl,rfl⟩) (h := ?_)
        (try simp only [Act.put,xL4,xL5,xL6])
        refine xT 9 (v := undef) (hy := Or.inr ⟨by rfl,rfl⟩) (h := ?_)
        (try simp only [Act.put,xL4,xL5,xL6])
        refine xT 10 (v := ?_) (hy := Or.inl ⟨by rfl,?_⟩) (h := ?_)
        rotate_left
        ·(intro w hSw; (try dsimp only at hSw); go_simp; (try with_reducible rfl))
        (try simp only [Act.put,xL4,xL5,xL6])
        refine xT 11 (v := ?_) (hy := Or.inl ⟨by rfl,?_⟩) (h := ?_)
        rotate_left
        ·(intro w hSw; (try dsimp only at hSw); go_simp; (try with_reducible rfl))
        (try simp only [Act.put,xL4,xL5,xL6])
        refine xT 12 (v := undef) (hy := Or.inr ⟨by rfl,rfl⟩) (h := ?_)
        (try simp only [Act.put,xL4,xL5,xL6])
        refine xT 13 (v := undef) (hy := Or.inr ⟨by rfl,rfl⟩) (h := ?_)
        (try simp only [Act.put,xL4,xL5,xL6])
        refine xT 14 (v := undef) (hy := Or.inr ⟨by rfl,rfl⟩) (h := ?_)
        (try simp only [Act.put,xL4,xL5,xL6])
        refine xT 15 (v := undef) (hy := Or.inr ⟨by rfl,rfl⟩) (h := ?_)
        (try simp only [Act.put,xL4,xL5,xL6])
        refine xT 16 (v := undef) (hy := Or.inr ⟨by rfl,rfl⟩) (h := ?_)
        (try simp only [Act.put,xL4,xL5,xL6])
        refine xT 17 (v := undef) (hy := Or.inr ⟨by rfl,rfl⟩) (h := ?_)
        (try simp only [Act.put,xL4,xL5,xL6])
        refine xT 18 (v := undef) (hy := Or.inr ⟨by rfl,rfl⟩) (h := ?_)
        (try simp only [Act.put,xL4,xL5,xL6])
        refine xT 19 (v := ?_) (hy := Or.inl ⟨by rfl,?_⟩) (h := ?_)
        rotate_left
        ·(intro w hSw; (try dsimp only at hSw); go_simp; (try with_reducible rfl))
        (try simp only [Act.put,xL4,xL5,xL6])
        refine wpAnyH_done (by kernel_rfl) ?_ _
        clear hHeld
        go_wp2
        go_roundw
        case rel => exact ⟨k + 1,l2,_,by omega,by go_num,by rw [dcnt_no (fun hh => by rw [HSK.out] at hh; exact absurd hh.1 (by decide)),HDC.out],FP,HN,BB⟩
        case measure => simp [intOf]; omega
    ·obtain ⟨e1,e2,e3⟩ := HST.out.once hc0 sri (decide_eq_false htw)
     have HE1 : Hid (MulLen l P 2 (pq (-(r i)) 1) = l + 1) := e1
     have HE2 : Hid (conv l P 2 (pq (-(r i)) 1) = cmul P (lnr (r i))) := e2
     have HN : Hid (PSt r (fun i => decide ((i : Int) = t)) c (i + 1) (l + 1) (cmul P (lnr (r i)))) := e3
     clear e1 e2 e3 HST
     have tb : ((i : Int) == t) = false := by simp [htw]
     refine (pmul_at _ _ l 2 P (pq (-(r i)) 1) 40 _ (FP.q 40 sP) (FF.q 40 sF) ht (by omega) (by omega) (by omega) (Nat.le_trans (Nat.succ_le_succ (Nat.mul_le_mul_right _ (show l + 2 ≤ 12 by omega))) (by omega)) (by omega)).mono ?_
     rintro e w63 ⟨x81,rfl,FM_,b63⟩
     replace QR := QR.below b63
     replace ht := ht.below b63
     replace FP := FP.below b63
     replace Ha := Ha.below b63
     replace FF := FF.below b63
     replace XA := XA.below b63
     replace BB := BB.trans (b63.mono BB.size)
     clear b63
     have FP1 := FM_.1
     rw [HE1.out,HE2.out] at FP1
     clear FM_ FP
     have FP := FP1
     clear FP1 HE1 HE2
     generalize cmul P (lnr (r i)) = P2 at *
     obtain ⟨l2,hl2⟩ : ∃ l2,l2 = l + 1 := ⟨_,rfl⟩
     rw [← hl2] at FP HN
     have HL2 : Hid (l2 = l + 1) := hl2
     clear hl2
     obtain ⟨ap2,cp2,rfl⟩ := FP.open
     clear FF
     go_wp2
     have FPx := FP
     have XAx := XA
     have Hax := Ha
     have QRx := QR
     have BBx : Hid (Below wc.heap.size wc w63) := BB
     clear FP XA Ha QR ht BB
     go_loopw [15,16] (fun vs vk wr => ∃ k : Nat,k ≤ i ∧ vk = .int .i64 (k : Int) ∧ vs = .bool (seenK r i k) ∧ Below w63.heap.size w63 wr) (fun _ vk _ => i - (intOf vk).toNat)
     case atStart => exact ⟨0,by omega,rfl,rfl,Below.refl _ _⟩
     case round =>
      obtain ⟨k,hk,rfl,rfl,BB⟩ := hrel
      have XA := XAx.below BB
      have Ha := Hax.below BB
      by_cases hlt2 : k < i
      ·have g2 : (k : Int) < (i : Int) := by omega
       have g3 : (0 : Int) ≤ (k : Int) := by omega
       have g4 : (k : Int) < (n : Int) := by omega
       obtain ⟨b7,off7,cc7,p7,a7,n7,c7,bo7,m7,d7,hvv,hcc7,XB0,Hb0⟩ := QRx.at k (by omega)
       cases hvv
       have XB := XB0.below BB
       have Hb := Hb0.below BB
       clear XB0 Hb0
       have HSK : Hid (seenK r i (k + 1) = (seenK r i k || decide (r k = r i))) := rfl
       obtain ⟨sk,hsk⟩ : ∃ sk,seenK r i k = sk := ⟨_,rfl⟩
       rw [hsk] at HSK ⊢
       clear hsk
       cases sk
       ·go_wp2
        (try simp only [g2,decide_true])
        have hDr : Below wr.heap.size wr wr.drew := (Below.refl _ _).drew
        replace Ha := Ha.below hDr
        replace Hb := Hb.below hDr
        replace XA := XA.below hDr
        replace XB := XB.below hDr
        replace BB := BB.trans (hDr.mono BB.size)
        clear hDr
        refine wp_region_held_drew (S := (fun w' => w'.cell? ⟨b6,off + i * 3,none⟩ = some (.bool p6) ∧ w'.cell? ⟨b6,off + i * 3 + 1,none⟩ = some (.slice a6 n6 c6) ∧ w'.cell? ⟨b6,off + i * 3 + 2,none⟩ = some (.slice bo6 m6 d6) ∧ w'.cell? ⟨b6,off + k * 3,none⟩ = some (.bool p7) ∧ w'.cell? ⟨b6,off + k * 3 + 1,none⟩ = some (.slice a7 n7 c7) ∧ w'.cell? ⟨b6,off + k * 3 + 2,none⟩ = some (.slice bo7 m7 d7))) (by kernel_rfl) ?_ (fun hHeld => ?_)
        ·exact ⟨XA.1,XA.2.1,XA.2.2,XB.1,XB.2.1,XB.2.2⟩
        generalize wr.drew = W72 at *
        refine xT 0 (v := ?_) (hy := Or.inl ⟨by rfl,?_⟩) (h := ?_)
        rotate_left
        ·(intro w hSw; (try dsimp only at hSw); go_simp; (try with_reducible rfl))
        (try simp only [Act.put,xL4,xL5,xL6])
        refine xT 1 (v := ?_) (hy := Or.inl ⟨by rfl,?_⟩) (h := ?_)
        rotate_left
        ·(intro w hSw; (try dsimp only at hSw); go_simp; (try with_reducible rfl))
        (try simp only [Act.put,xL4,xL5,xL6])
        refine xT 2 (v := ?_) (hy := Or.inl ⟨by rfl,?_⟩) (h := ?_)
        rotate_left
        ·(intro w hSw; (try dsimp only at hSw); go_simp; (try with_reducible rfl))
        (try simp only [Act.put,xL4,xL5,xL6])
        refine xT 3 (v := ?_) (hy := Or.inl ⟨by rfl,?_⟩) (h := ?_)
        rotate_left
        ·(intro w hSw; (try dsimp only at hSw); go_simp; (try with_reducible rfl))
        (try simp only [Act.put,xL4,xL5,xL6])
        refine xT 4 (v := ?_) (hy := Or.inl ⟨by rfl,?_⟩) (h := ?_)
        rotate_left
        ·(intro w hSw; (try dsimp only at hSw); go_simp; (try with_reducible rfl))
        (try simp only [Act.put,xL4,xL5,xL6])
        refine xT 5 (v := ?_) (hy := Or.inl ⟨by rfl,?_⟩) (h := ?_)
        rotate_left
        ·(intro w hSw; (try dsimp only at hSw); go_simp; (try with_reducible rfl))
        (try simp only [Act.put,xL4,xL5,xL6])
        refine xT 6 (v := ?_) (hy := Or.inl ⟨by rfl,?_⟩) (h := ?_)
        rotate_left
        ·(intro w hSw; (try dsimp only at hSw); go_simp; (try with_reducible rfl))
        (try simp only [Act.put,xL4,xL5,xL6])
        refine xT 7 (v := ?_) (hy := Or.inl ⟨by rfl,?_⟩) (h := ?_)
        rotate_left
        ·(intro w hSw; (try dsimp only at hSw); go_simp; (try with_reducible rfl))
        (try simp only [Act.put,xL4,xL5,xL6])
        refine xT 8 (v := ?_) (hy := Or.inl ⟨by rfl,?_⟩) (h := ?_)
        rotate_left
        ·(intro w hSw; (try dsimp only at hSw); go_simp; (try with_reducible rfl))
        (try simp only [Act.put,xL4,xL5,xL6])
        refine xT 9 (v := ?_) (hy := Or.inl ⟨by rfl,?_⟩) (h := ?_)
        rotate_left
        ·(intro w hSw; (try dsimp only at hSw); go_simp; (try with_reducible rfl))
        (try simp only [Act.put,xL4,xL5,xL6])
        refine xR [10] (h := ?_)
        refine xN (h := fun K hK => ?_)
        go_simp
        refine (qsame_at _ _ (r k) (r i) 2 _ Hb Ha (by omega) (by omega)).mono ?_
        rintro e w74 ⟨rfl,b74⟩
        obtain ⟨dd,hdd⟩ : ∃ dd,decide (r k = r i) = dd := ⟨_,rfl⟩
        rw [hdd] at HSK ⊢
        clear hdd
        go_wp2_with fail
        replace Ha := Ha.below b74
        replace Hb := Hb.below b74
        replace XA := XA.below b74
        replace XB := XB.below b74
        replace BB := BB.trans (b74.mono BB.size)
        clear b74
        refine hK.out _ _ ?_ (fun hH1 => ?_)
        ·exact ⟨XA.1,XA.2.1,XA.2.2,XB.1,XB.2.1,XB.2.2⟩
        clear hK K hHeld
        (try simp only [Act.put,xL4,xL5,xL6])
        refine xT 11 (v := ?_) (hy := Or.inl ⟨by rfl,?_⟩) (h := ?_)
        rotate_left
        ·(intro w hSw; (try dsimp only at hSw); go_simp; (try with_reducible rfl))
        (try simp only [Act.put,xL4,xL5,xL6])
        refine xT 12 (v := ?_) (hy := Or.inl ⟨by rfl,?_⟩) (h := ?_)
        rotate_left
        ·(intro w hSw; (try dsimp only at hSw); go_simp; (try with_reducible rfl))
        (try simp only [Act.put,xL4,xL5,xL6])
        refine wpAnyH_done (by kernel_rfl) ?_ _
        clear hH1
        go_wp2
        go_roundw
        case rel => exact ⟨k + 1,by omega,by go_num,by rw [HSK.out]; simp,BB⟩
        case measure => simp [intOf]; omega
       ·go_wp2
        (try simp only [g2,decide_true])
        have hDr : Below wr.heap.size wr wr.drew := (Below.refl _ _).drew
        replace Ha := Ha.below hDr
        replace Hb := Hb.below hDr
        replace XA := XA.below hDr
        replace XB := XB.below hDr
        replace BB := BB.trans (hDr.mono BB.size)
        clear hDr
        refine wp_region_held_drew (S := (fun w' => w'.cell? ⟨b6,off + i * 3,none⟩ = some (.bool p6) ∧ w'.cell? ⟨b6,off + i * 3 + 1,none⟩ = some (.slice a6 n6 c6) ∧ w'.cell? ⟨b6,off + i * 3 + 2,none⟩ = some (.slice bo6 m6 d6) ∧ w'.cell? ⟨b6,off + k * 3,none⟩ = some (.bool p7) ∧ w'.cell? ⟨b6,off + k * 3 + 1,none⟩ = some (.slice a7 n7 c7) ∧ w'.cell? ⟨b6,off + k * 3 + 2,none⟩ = some (.slice bo7 m7 d7))) (by kernel_rfl) ?_ (fun hHeld => ?_)
        ·exact ⟨XA.1,XA.2.1,XA.2.2,XB.1,XB.2.1,XB.2.2⟩
        generalize wr.drew = W72 at *
        refine xT 0 (v := ?_) (hy := Or.inl ⟨by rfl,?_⟩) (h := ?_)
        rotate_left
        ·(intro w hSw; (try dsimp only at hSw); go_simp; (try with_reducible rfl))
        (try simp only [Act.put,xL4,xL5,xL6])
        refine xT 1 (v := ?_) (hy := Or.inl ⟨by rfl,?_⟩) (h := ?_)
        rotate_left
        ·(intro w hSw; (try dsimp only at hSw); go_simp; (try with_reducible rfl))
        (try simp only [Act.put,xL4,xL5,xL6])
        refine xT 2 (v := undef) (hy := Or.inr ⟨by rfl,rfl⟩) (h := ?_)
        (try simp only [Act.put,xL4,xL5,xL6])
        refine xT 3 (v := undef) (hy := Or.inr ⟨by rfl,rfl⟩) (h := ?_)
        (try simp only [Act.put,xL4,xL5,xL6])
        refine xT 4 (v := undef) (hy := Or.inr ⟨by rfl,rfl⟩) (h := ?_)
        (try simp only [Act.put,xL4,xL5,xL6])
        refine xT 5 (v := undef) (hy := Or.inr ⟨by rfl,rfl⟩) (h := ?_)
        (try simp only [Act.put,xL4,xL5,xL6])
        refine xT 6 (v := undef) (hy := Or.inr ⟨by rfl,rfl⟩) (h := ?_)
        (try simp only [Act.put,xL4,xL5,xL6])
        refine xT 7 (v := undef) (hy := Or.inr ⟨by rfl,rfl⟩) (h := ?_)
        (try simp only [Act.put,xL4,xL5,xL6])
        refine xT 8 (v := undef) (hy := Or.inr ⟨by rfl,rfl⟩) (h := ?_)
        (try simp only [Act.put,xL4,xL5,xL6])
        refine xT 9 (v := undef) (hy := Or.inr ⟨by rfl,rfl⟩) (h := ?_)
        (try simp only [Act.put,xL4,xL5,xL6])
        refine xT 10 (v := undef) (hy := Or.inr ⟨by rfl,rfl⟩) (h := ?_)
        (try simp only [Act.put,xL4,xL5,xL6])
        refine xT 11 (v := ?_) (hy := Or.inl ⟨by rfl,?_⟩) (h := ?_)
        rotate_left
        ·(intro w hSw; (try dsimp only at hSw); go_simp; (try with_reducible rfl))
        (try simp only [Act.put,xL4,xL5,xL6])
        refine xT 12 (v := ?_) (hy := Or.inl ⟨by rfl,?_⟩) (h := ?_)
        rotate_left
        ·(intro w hSw; (try dsimp only at hSw); go_simp; (try with_reducible rfl))
        (try simp only [Act.put,xL4,xL5,xL6])
        refine wpAnyH_done (by kernel_rfl) ?_ _
        clear hHeld
        go_wp2
        go_roundw
        case rel => exact ⟨k + 1,by omega,by go_num,by rw [HSK.out]; rfl,BB⟩
        case measure => simp [intOf]; omega
      ·obtain rfl : k = i := by omega
       have g2 : ¬ (k : Int) < (k : Int) := by omega
       have VX := (VX0.below BBx.out).below BB
       have VY := (VY0.below BBx.out).below BB
       have Xx := (Xx0.below BBx.out).below BB
       have Xy := (Xy0.below BBx.out).below BB
       have FP := FPx.below BB
       replace BB := BBx.out.trans (BB.mono BBx.out.size)
       clear FPx XAx Hax QRx BBx
       have HSF : Hid (seenK r k k = seenF r k) := rfl
       rw [HSF.out]
       clear HSF
       obtain ⟨sk,hsk⟩ : ∃ sk,seenF r k = sk := ⟨_,rfl⟩
       have HSK : Hid (seenF r k = sk) := hsk
       rw [hsk]
       clear hsk
       obtain ⟨c1,hc1⟩ : ∃ z,cmpQ (r k) x = z := ⟨_,rfl⟩
       obtain ⟨c2,hc2⟩ : ∃ z,cmpQ (r k) y = z := ⟨_,rfl⟩
       have HC1 : Hid (cmpQ (r k) x = c1) := hc1
       have HC2 : Hid (cmpQ (r k) y = c2) := hc2
       clear hc1 hc2
       obtain ⟨dc,hdc⟩ : ∃ z,dcnt r x y (seenF r) k = z := ⟨_,rfl⟩
       have HDC : Hid (dcnt r x y (seenF r) k = dc) := hdc
       rw [hdc] at hcl ⊢
       clear hdc
       by_cases hss : sk = false
       ·subst hss
        by_cases h1 : 0 < c1
        ·by_cases h2 : c2 ≤ 0
         ·have k1 : c1 > 0 := h1
          have k1b : decide (c1 > 0) = true := decide_eq_true k1
          have k2b : decide (c2 ≤ 0) = true := decide_eq_true h2
          go_wp2
          have hDr : Below wr.heap.size wr wr.drew := (Below.refl _ _).drew
          replace Ha := Ha.below hDr
          replace Xx := Xx.below hDr
          replace Xy := Xy.below hDr
          replace FP := FP.below hDr
          replace XA := XA.below hDr
          replace VX := VX.below hDr
          replace VY := VY.below hDr
          replace BB := BB.trans (hDr.mono BB.size)
          clear hDr
          refine wp_region_held_drew (S := (fun w' => w'.cell? ⟨b6,off + k * 3,none⟩ = some (.bool p6) ∧ w'.cell? ⟨b6,off + k * 3 + 1,none⟩ = some (.slice a6 n6 c6) ∧ w'.cell? ⟨b6,off + k * 3 + 2,none⟩ = some (.slice bo6 m6 d6) ∧ w'.cell? ⟨w.heap.size,0,none⟩ = some (.bool px) ∧ w'.cell? ⟨w.heap.size,1,none⟩ = some (.slice aox l4x cox) ∧ w'.cell? ⟨w.heap.size,2,none⟩ = some (.slice box k4x dox) ∧ w'.cell? ⟨w.heap.size + 1,0,none⟩ = some (.bool py) ∧ w'.cell? ⟨w.heap.size + 1,1,none⟩ = some (.slice aoy l4y coy) ∧ w'.cell? ⟨w.heap.size + 1,2,none⟩ = some (.slice boy k4y doy))) (by kernel_rfl) ?_ (fun hHeld => ?_)
          ·exact ⟨XA.1,XA.2.1,XA.2.2,VX.1,VX.2.1,VX.2.2.1,VY.1,VY.2.1,VY.2.2.1⟩
          generalize wr.drew = W72 at *
          refine xT 0 (v := ?_) (hy := Or.inl ⟨by rfl,?_⟩) (h := ?_)
          rotate_left
          ·(intro w hSw; (try dsimp only at hSw); go_simp; (try with_reducible rfl))
          (try simp only [Act.put,xL4,xL5,xL6])
          refine xT 1 (v := ?_) (hy := Or.inl ⟨by rfl,?_⟩) (h := ?_)
          rotate_left
          ·(intro w hSw; (try dsimp only at hSw); go_simp; (try with_reducible rfl))
          (try simp only [Act.put,xL4,xL5,xL6])
          refine xT 2 (v := ?_) (hy := Or.inl ⟨by rfl,?_⟩) (h := ?_)
          rotate_left
          ·(intro w hSw; (try dsimp only at hSw); go_simp; (try with_reducible rfl))
          (try simp only [Act.put,xL4,xL5,xL6])
          refine xT 3 (v := ?_) (hy := Or.inl ⟨by rfl,?_⟩) (h := ?_)
          rotate_left
          ·(intro w hSw; (try dsimp only at hSw); go_simp; (try with_reducible rfl))
          (try simp only [Act.put,xL4,xL5,xL6])
          refine xT 4 (v := ?_) (hy := Or.inl ⟨by rfl,?_⟩) (h := ?_)
          rotate_left
          ·(intro w hSw; (try dsimp only at hSw); go_simp; (try with_reducible rfl))
          (try simp only [Act.put,xL4,xL5,xL6])
          refine xT 5 (v := ?_) (hy := Or.inl ⟨by rfl,?_⟩) (h := ?_)
          rotate_left
          ·(intro w hSw; (try dsimp only at hSw); go_simp; (try with_reducible rfl))
          (try simp only [Act.put,xL4,xL5,xL6])
          refine xT 6 (v := ?_) (hy := Or.inl ⟨by rfl,?_⟩) (h := ?_)
          rotate_left
          ·(intro w hSw; (try dsimp only at hSw); go_simp; (try with_reducible rfl))
          (try simp only [Act.put,xL4,xL5,xL6])
          refine xT 7 (v := ?_) (hy := Or.inl ⟨by rfl,?_⟩) (h := ?_)
          rotate_left
          ·(intro w hSw; (try dsimp only at hSw); go_simp; (try with_reducible rfl))
          (try simp only [Act.put,xL4,xL5,xL6])
          refine xR [8] (h := ?_)
          refine xN (h := fun K hK => ?_)
          go_simp
          refine (qcmp_at _ _ (r k) x 2 _ Ha Xx (by omega) (by omega)).mono ?_
          rintro e w74 ⟨rfl,b74⟩
          rw [HC1.out]
          go_wp2_with fail
          replace Ha := Ha.below b74
          replace Xx := Xx.below b74
          replace Xy := Xy.below b74
          replace FP := FP.below b74
          replace XA := XA.below b74
          replace VX := VX.below b74
          replace VY := VY.below b74
          replace BB := BB.trans (b74.mono BB.size)
          clear b74
          refine hK.out _ _ ?_ (fun hH1 => ?_)
          ·exact ⟨XA.1,XA.2.1,XA.2.2,VX.1,VX.2.1,VX.2.2.1,VY.1,VY.2.1,VY.2.2.1⟩
          clear hK K hHeld
          (try simp only [Act.put,xL4,xL5,xL6])
          refine xT 9 (v := ?_) (hy := Or.inl ⟨by rfl,?_⟩) (h := ?_)
          rotate_left
          ·(intro w hSw; (try dsimp only at hSw); go_simp; (try with_reducible rfl))
          (try simp only [Act.put,xL4,xL5,xL6])
          refine xT 10 (v := ?_) (hy := Or.inl ⟨by rfl,?_⟩) (h := ?_)
          rotate_left
          ·(intro w hSw; (try dsimp only at hSw); go_simp; (try with_reducible rfl))
          (try simp only [Act.put,xL4,xL5,xL6])
          refine xT 11 (v := ?_) (hy := Or.inl ⟨by rfl,?_⟩) (h := ?_)
          rotate_left
          ·(intro w hSw; (try dsimp only at hSw); go_simp; (try with_reducible rfl))
          (try simp only [Act.put,xL4,xL5,xL6])
          refine xT 12 (v := ?_) (hy := Or.inl ⟨by rfl,?_⟩) (h := ?_)
          rotate_left
          ·(intro w hSw; (try dsimp only at hSw); go_simp; (try with_reducible rfl))
          (try simp only [Act.put,xL4,xL5,xL6])
          refine xT 13 (v := ?_) (hy := Or.inl ⟨by rfl,?_⟩) (h := ?_)
          rotate_left
          ·(intro w hSw; (try dsimp only at hSw); go_simp; (try with_reducible rfl))
          (try simp only [Act.put,xL4,xL5,xL6])
          refine xT 14 (v := ?_) (hy := Or.inl ⟨by rfl,?_⟩) (h := ?_)
          rotate_left
          ·(intro w hSw; (try dsimp only at hSw); go_simp; (try with_reducible rfl))
          (try simp only [Act.put,xL4,xL5,xL6])
          refine xT 15 (v := ?_) (hy := Or.inl ⟨by rfl,?_⟩) (h := ?_)
          rotate_left
          ·(intro w hSw; (try dsimp only at hSw); go_simp; (try with_reducible rfl))
          (try simp only [Act.put,xL4,xL5,xL6])
          refine xT 16 (v := ?_) (hy := Or.inl ⟨by rfl,?_⟩) (h := ?_)
          rotate_left
          ·(intro w hSw; (try dsimp only at hSw); go_simp; (try with_reducible rfl))
          (try simp only [Act.put,xL4,xL5,xL6])
          refine xR [17] (h := ?_)
          refine xN (h := fun K hK => ?_)
          go_simp
          refine (qcmp_at _ _ (r k) y 2 _ Ha Xy (by omega) (by omega)).mono ?_
          rintro e w75 ⟨rfl,b75⟩
          rw [HC2.out]
          go_wp2_with fail
          replace Ha := Ha.below b75
          replace Xx := Xx.below b75
          replace Xy := Xy.below b75
          replace FP := FP.below b75
          replace XA := XA.below b75
          replace VX := VX.below b75
          replace VY := VY.below b75
          replace BB := BB.trans (b75.mono BB.size)
          clear b75
          refine hK.out _ _ ?_ (fun hH2 => ?_)
          ·exact ⟨XA.1,XA.2.1,XA.2.2,VX.1,VX.2.1,VX.2.2.1,VY.1,VY.2.1,VY.2.2.1⟩
          clear hK K hH1
          (try simp only [Act.put,xL4,xL5,xL6])
          refine xT 18 (v := ?_) (hy := Or.inl ⟨by rfl,?_⟩) (h := ?_)
          rotate_left
          ·(intro w hSw; (try dsimp only at hSw); go_simp; (try with_reducible rfl))
          (try simp only [Act.put,xL4,xL5,xL6])
          refine xT 19 (v := ?_) (hy := Or.inl ⟨by rfl,?_⟩) (h := ?_)
          rotate_left
          ·(intro w hSw; (try dsimp only at hSw); go_simp; (try with_reducible rfl))
          (try simp only [Act.put,xL4,xL5,xL6])
          refine wpAnyH_done (by kernel_rfl) ?_ _
          clear hH2
          go_wp2
          go_roundw
          case rel => exact ⟨k + 1,l2,_,by omega,by go_num,by rw [dcnt_yes HSK.out (by rw [HC1.out]; exact h1) (by rw [HC2.out]; exact h2),HDC.out]; go_num,FP,HN,BB⟩
          case measure => simp [intOf]; omega
         ·have k1 : c1 > 0 := h1
          have k1b : decide (c1 > 0) = true := decide_eq_true k1
          have k2b : decide (c2 ≤ 0) = false := decide_eq_false h2
          go_wp2
          have hDr : Below wr.heap.size wr wr.drew := (Below.refl _ _).drew
          replace Ha := Ha.below hDr
          replace Xx := Xx.below hDr
          replace Xy := Xy.below hDr
          replace FP := FP.below hDr
          replace XA := XA.below hDr
          replace VX := VX.below hDr
          replace VY := VY.below hDr
          replace BB := BB.trans (hDr.mono BB.size)
          clear hDr
          refine wp_region_held_drew (S := (fun w' => w'.cell? ⟨b6,off + k * 3,none⟩ = some (.bool p6) ∧ w'.cell? ⟨b6,off + k * 3 + 1,none⟩ = some (.slice a6 n6 c6) ∧ w'.cell? ⟨b6,off + k * 3 + 2,none⟩ = some (.slice bo6 m6 d6) ∧ w'.cell? ⟨w.heap.size,0,none⟩ = some (.bool px) ∧ w'.cell? ⟨w.heap.size,1,none⟩ = some (.slice aox l4x cox) ∧ w'.cell? ⟨w.heap.size,2,none⟩ = some (.slice box k4x dox) ∧ w'.cell? ⟨w.heap.size + 1,0,none⟩ = some (.bool py) ∧ w'.cell? ⟨w.heap.size + 1,1,none⟩ = some (.slice aoy l4y coy) ∧ w'.cell? ⟨w.heap.size + 1,2,none⟩ = some (.slice boy k4y doy))) (by kernel_rfl) ?_ (fun hHeld => ?_)
          ·exact ⟨XA.1,XA.2.1,XA.2.2,VX.1,VX.2.1,VX.2.2.1,VY.1,VY.2.1,VY.2.2.1⟩
          generalize wr.drew = W72 at *
          refine xT 0 (v := ?_) (hy := Or.inl ⟨by rfl,?_⟩) (h := ?_)
          rotate_left
          ·(intro w hSw; (try dsimp only at hSw); go_simp; (try with_reducible rfl))
          (try simp only [Act.put,xL4,xL5,xL6])
          refine xT 1 (v := ?_) (hy := Or.inl ⟨by rfl,?_⟩) (h := ?_)
          rotate_left
          ·(intro w hSw; (try dsimp only at hSw); go_simp; (try with_reducible rfl))
          (try simp only [Act.put,xL4,xL5,xL6])
          refine xT 2 (v := ?_) (hy := Or.inl ⟨by rfl,?_⟩) (h := ?_)
          rotate_left
          ·(intro w hSw; (try dsimp only at hSw); go_simp; (try with_reducible rfl))
          (try simp only [Act.put,xL4,xL5,xL6])
          refine xT 3 (v := ?_) (hy := Or.inl ⟨by rfl,?_⟩) (h := ?_)
          rotate_left
          ·(intro w hSw; (try dsimp only at hSw); go_simp; (try with_reducible rfl))
          (try simp only [Act.put,xL4,xL5,xL6])
          refine xT 4 (v := ?_) (hy := Or.inl ⟨by rfl,?_⟩) (h := ?_)
          rotate_left
          ·(intro w hSw; (try dsimp only at hSw); go_simp; (try with_reducible rfl))
          (try simp only [Act.put,xL4,xL5,xL6])
          refine xT 5 (v := ?_) (hy := Or.inl ⟨by rfl,?_⟩) (h := ?_)
          rotate_left
          ·(intro w hSw; (try dsimp only at hSw); go_simp; (try with_reducible rfl))
          (try simp only [Act.put,xL4,xL5,xL6])
          refine xT 6 (v := ?_) (hy := Or.inl ⟨by rfl,?_⟩) (h := ?_)
          rotate_left
          ·(intro w hSw; (try dsimp only at hSw); go_simp; (try with_reducible rfl))
          (try simp only [Act.put,xL4,xL5,xL6])
          refine xT 7 (v := ?_) (hy := Or.inl ⟨by rfl,?_⟩) (h := ?_)
          rotate_left
          ·(intro w hSw; (try dsimp only at hSw); go_simp; (try with_reducible rfl))
          (try simp only [Act.put,xL4,xL5,xL6])
          refine xR [8] (h := ?_)
          refine xN (h := fun K hK => ?_)
          go_simp
          refine (qcmp_at _ _ (r k) x 2 _ Ha Xx (by omega) (by omega)).mono ?_
          rintro e w74 ⟨rfl,b74⟩
          rw [HC1.out]
          go_wp2_with fail
          replace Ha := Ha.below b74
          replace Xx := Xx.below b74
          replace Xy := Xy.below b74
          replace FP := FP.below b74
          replace XA := XA.below b74
          replace VX := VX.below b74
          replace VY := VY.below b74
          replace BB := BB.trans (b74.mono BB.size)
          clear b74
          refine hK.out _ _ ?_ (fun hH1 => ?_)
          ·exact ⟨XA.1,XA.2.1,XA.2.2,VX.1,VX.2.1,VX.2.2.1,VY.1,VY.2.1,VY.2.2.1⟩
          clear hK K hHeld
          (try simp only [Act.put,xL4,xL5,xL6])
          refine xT 9 (v := ?_) (hy := Or.inl ⟨by rfl,?_⟩) (h := ?_)
          rotate_left
          ·(intro w hSw; (try dsimp only at hSw); go_simp; (try with_reducible rfl))
          (try simp only [Act.put,xL4,xL5,xL6])
          refine xT 10 (v := ?_) (hy := Or.inl ⟨by rfl,?_⟩) (h := ?_)
          rotate_left
          ·(intro w hSw; (try dsimp only at hSw); go_simp; (try with_reducible rfl))
          (try simp only [Act.put,xL4,xL5,xL6])
          refine xT 11 (v := ?_) (hy := Or.inl ⟨by rfl,?_⟩) (h := ?_)
          rotate_left
          ·(intro w hSw; (try dsimp only at hSw); go_simp; (try with_reducible rfl))
          (try simp only [Act.put,xL4,xL5,xL6])
          refine xT 12 (v := ?_) (hy := Or.inl ⟨by rfl,?_⟩) (h := ?_)
          rotate_left
          ·(intro w hSw; (try dsimp only at hSw); go_simp; (try with_reducible rfl))
          (try simp only [Act.put,xL4,xL5,xL6])
          refine xT 13 (v := ?_) (hy := Or.inl ⟨by rfl,?_⟩) (h := ?_)
          rotate_left
          ·(intro w hSw; (try dsimp only at hSw); go_simp; (try with_reducible rfl))
          (try simp only [Act.put,xL4,xL5,xL6])
          refine xT 14 (v := ?_) (hy := Or.inl ⟨by rfl,?_⟩) (h := ?_)
          rotate_left
          ·(intro w hSw; (try dsimp only at hSw); go_simp; (try with_reducible rfl))
          (try simp only [Act.put,xL4,xL5,xL6])
          refine xT 15 (v := ?_) (hy := Or.inl ⟨by rfl,?_⟩) (h := ?_)
          rotate_left
          ·(intro w hSw; (try dsimp only at hSw); go_simp; (try with_reducible rfl))
          (try simp only [Act.put,xL4,xL5,xL6])
          refine xT 16 (v := ?_) (hy := Or.inl ⟨by rfl,?_⟩) (h := ?_)
          rotate_left
          ·(intro w hSw; (try dsimp only at hSw); go_simp; (try with_reducible rfl))
          (try simp only [Act.put,xL4,xL5,xL6])
          refine xR [17] (h := ?_)
          refine xN (h := fun K hK => ?_)
          go_simp
          refine (qcmp_at _ _ (r k) y 2 _ Ha Xy (by omega) (by omega)).mono ?_
          rintro e w75 ⟨rfl,b75⟩
          rw [HC2.out]
          go_wp2_with fail
          replace Ha := Ha.below b75
          replace Xx := Xx.below b75
          replace Xy := Xy.below b75
          replace FP := FP.below b75
          replace XA := XA.below b75
          replace VX := VX.below b75
          replace VY := VY.below b75
          replace BB := BB.trans (b75.mono BB.size)
          clear b75
          refine hK.out _ _ ?_ (fun hH2 => ?_)
          ·exact ⟨XA.1,XA.2.1,XA.2.2,VX.1,VX.2.1,VX.2.2.1,VY.1,VY.2.1,VY.2.2.1⟩
          clear hK K hH1
          (try simp only [Act.put,xL4,xL5,xL6])
          refine xT 18 (v := ?_) (hy := Or.inl ⟨by rfl,?_⟩) (h := ?_)
          rotate_left
          ·(intro w hSw; (try dsimp only at hSw); go_simp; (try with_reducible rfl))
          (try simp only [Act.put,xL4,xL5,xL6])
          refine xT 19 (v := ?_) (hy := Or.inl ⟨by rfl,?_⟩) (h := ?_)
          rotate_left
          ·(intro w hSw; (try dsimp only at hSw); go_simp; (try with_reducible rfl))
          (try simp only [Act.put,xL4,xL5,xL6])
          refine wpAnyH_done (by kernel_rfl) ?_ _
          clear hH2
          go_wp2
          go_roundw
          case rel => exact ⟨k + 1,l2,_,by omega,by go_num,by rw [dcnt_no (fun hh => by have hx := hh.2.2; rw [HC2.out] at hx; omega),HDC.out],FP,HN,BB⟩
          case measure => simp [intOf]; omega
        ·have k1 : ¬ c1 > 0 := h1
         have k1b : decide (c1 > 0) = false := decide_eq_false k1
         go_wp2
         have hDr : Below wr.heap.size wr wr.drew := (Below.refl _ _).drew
         replace Ha := Ha.below hDr
         replace Xx := Xx.below hDr
         replace Xy := Xy.below hDr
         replace FP := FP.below hDr
         replace XA := XA.below hDr
         replace VX := VX.below hDr
         replace VY := VY.below hDr
         replace BB := BB.trans (hDr.mono BB.size)
         clear hDr
         refine wp_region_held_drew (S := (fun w' => w'.cell? ⟨b6,off + k * 3,none⟩ = some (.bool p6) ∧ w'.cell? ⟨b6,off + k * 3 + 1,none⟩ = some (.slice a6 n6 c6) ∧ w'.cell? ⟨b6,off + k * 3 + 2,none⟩ = some (.slice bo6 m6 d6) ∧ w'.cell? ⟨w.heap.size,0,none⟩ = some (.bool px) ∧ w'.cell? ⟨w.heap.size,1,none⟩ = some (.slice aox l4x cox) ∧ w'.cell? ⟨w.heap.size,2,none⟩ = some (.slice box k4x dox) ∧ w'.cell? ⟨w.heap.size + 1,0,none⟩ = some (.bool py) ∧ w'.cell? ⟨w.heap.size + 1,1,none⟩ = some (.slice aoy l4y coy) ∧ w'.cell? ⟨w.heap.size + 1,2,none⟩ = some (.slice boy k4y doy))) (by kernel_rfl) ?_ (fun hHeld => ?_)
         ·exact ⟨XA.1,XA.2.1,XA.2.2,VX.1,VX.2.1,VX.2.2.1,VY.1,VY.2.1,VY.2.2.1⟩
         generalize wr.drew = W72 at *
         refine xT 0 (v := ?_) (hy := Or.inl ⟨by rfl,?_⟩) (h := ?_)
         rotate_left
         ·(intro w hSw; (try dsimp only at hSw); go_simp; (try with_reducible rfl))
         (try simp only [Act.put,xL4,xL5,xL6])
         refine xT 1 (v := ?_) (hy := Or.inl ⟨by rfl,?_⟩) (h := ?_)
         rotate_left
         ·(intro w hSw; (try dsimp only at hSw); go_simp; (try with_reducible rfl))
         (try simp only [Act.put,xL4,xL5,xL6])
         refine xT 2 (v := ?_) (hy := Or.inl ⟨by rfl,?_⟩) (h := ?_)
         rotate_left
         ·(intro w hSw; (try dsimp only at hSw); go_simp; (try with_reducible rfl))
         (try simp only [Act.put,xL4,xL5,xL6])
         refine xT 3 (v := ?_) (hy := Or.inl ⟨by rfl,?_⟩) (h := ?_)
         rotate_left
         ·(intro w hSw; (try dsimp only at hSw); go_simp; (try with_reducible rfl))
         (try simp only [Act.put,xL4,xL5,xL6])
         refine xT 4 (v := ?_) (hy := Or.inl ⟨by rfl,?_⟩) (h := ?_)
         rotate_left
         ·(intro w hSw; (try dsimp only at hSw); go_simp; (try with_reducible rfl))
         (try simp only [Act.put,xL4,xL5,xL6])
         refine xT 5 (v := ?_) (hy := Or.inl ⟨by rfl,?_⟩) (h := ?_)
         rotate_left
         ·(intro w hSw; (try dsimp only at hSw); go_simp; (try with_reducible rfl))
         (try simp only [Act.put,xL4,xL5,xL6])
         refine xT 6 (v := ?_) (hy := Or.inl ⟨by rfl,?_⟩) (h := ?_)
         rotate_left
         ·(intro w hSw; (try dsimp only at hSw); go_simp; (try with_reducible rfl))
         (try simp only [Act.put,xL4,xL5,xL6])
         refine xT 7 (v := ?_) (hy := Or.inl ⟨by rfl,?_⟩) (h := ?_)
         rotate_left
         ·(intro w hSw; (try dsimp only at hSw); go_simp; (try with_reducible rfl))
         (try simp only [Act.put,xL4,xL5,xL6])
         refine xR [8] (h := ?_)
         refine xN (h := fun K hK => ?_)
         go_simp
         refine (qcmp_at _ _ (r k) x 2 _ Ha Xx (by omega) (by omega)).mono ?_
         rintro e w74 ⟨rfl,b74⟩
         rw [HC1.out]
         go_wp2_with fail
         replace Ha := Ha.below b74
         replace Xx := Xx.below b74
         replace Xy := Xy.below b74
         replace FP := FP.below b74
         replace XA := XA.below b74
         replace VX := VX.below b74
         replace VY := VY.below b74
         replace BB := BB.trans (b74.mono BB.size)
         clear b74
         refine hK.out _ _ ?_ (fun hH1 => ?_)
         ·exact ⟨XA.1,XA.2.1,XA.2.2,VX.1,VX.2.1,VX.2.2.1,VY.1,VY.2.1,VY.2.2.1⟩
         clear hK K hHeld
         (try simp only [Act.put,xL4,xL5,xL6])
         refine xT 9 (v := ?_) (hy := Or.inl ⟨by rfl,?_⟩) (h := ?_)
         rotate_left
         ·(intro w hSw; (try dsimp only at hSw); go_simp; (try with_reducible rfl))
         (try simp only [Act.put,xL4,xL5,xL6])
         refine xT 10 (v := ?_) (hy := Or.inl ⟨by rfl,?_⟩) (h := ?_)
         rotate_left
         ·(intro w hSw; (try dsimp only at hSw); go_simp; (try with_reducible rfl))
         (try simp only [Act.put,xL4,xL5,xL6])
         refine xT 11 (v := ?_) (hy := Or.inl ⟨by rfl,?_⟩) (h := ?_)
         rotate_left
         ·(intro w hSw; (try dsimp only at hSw); go_simp; (try with_reducible rfl))
         (try simp only [Act.put,xL4,xL5,xL6])
         refine xT 12 (v := undef) (hy := Or.inr ⟨by rfl,rfl⟩) (h := ?_)
         (try simp only [Act.put,xL4,xL5,xL6])
         refine xT 13 (v := undef) (hy := Or.inr ⟨by rfl,rfl⟩) (h := ?_)
         (try simp only [Act.put,xL4,xL5,xL6])
         refine xT 14 (v := undef) (hy := Or.inr ⟨by rfl,rfl⟩) (h := ?_)
         (try simp only [Act.put,xL4,xL5,xL6])
         refine xT 15 (v := undef) (hy := Or.inr ⟨by rfl,rfl⟩) (h := ?_)
         (try simp only [Act.put,xL4,xL5,xL6])
         refine xT 16 (v := undef) (hy := Or.inr ⟨by rfl,rfl⟩) (h := ?_)
         (try simp only [Act.put,xL4,xL5,xL6])
         refine xT 17 (v := undef) (hy := Or.inr ⟨by rfl,rfl⟩) (h := ?_)
         (try simp only [Act.put,xL4,xL5,xL6])
         refine xT 18 (v := undef) (hy := Or.inr ⟨by rfl,rfl⟩) (h := ?_)
         (try simp only [Act.put,xL4,xL5,xL6])
         refine xT 19 (v := ?_) (hy := Or.inl ⟨by rfl,?_⟩) (h := ?_)
         rotate_left
         ·(intro w hSw; (try dsimp only at hSw); go_simp; (try with_reducible rfl))
         (try simp only [Act.put,xL4,xL5,xL6])
         refine wpAnyH_done (by kernel_rfl) ?_ _
         clear hH1
         go_wp2
         go_roundw
         case rel => exact ⟨k + 1,l2,_,by omega,by go_num,by rw [dcnt_no (fun hh => by have hx := hh.2.1; rw [HC1.out] at hx; omega),HDC.out],FP,HN,BB⟩
         case measure => simp [intOf]; omega
       ·obtain rfl : sk = true := by cases sk; exact absurd rfl hss; rfl
        go_wp2
        have hDr : Below wr.heap.size wr wr.drew := (Below.refl _ _).drew
        replace Ha := Ha.below hDr
        replace Xx := Xx.below hDr
        replace Xy := Xy.below hDr
        replace FP := FP.below hDr
        replace XA := XA.below hDr
        replace VX := VX.below hDr
        replace VY := VY.below hDr
        replace BB := BB.trans (hDr.mono BB.size)
        clear hDr
        refine wp_region_held_drew (S := (fun w' => w'.cell? ⟨b6,off + k * 3,none⟩ = some (.bool p6) ∧ w'.cell? ⟨b6,off + k * 3 + 1,none⟩ = some (.slice a6 n6 c6) ∧ w'.cell? ⟨b6,off + k * 3 + 2,none⟩ = some (.slice bo6 m6 d6) ∧ w'.cell? ⟨w.heap.size,0,none⟩ = some (.bool px) ∧ w'.cell? ⟨w.heap.size,1,none⟩ = some (.slice aox l4x cox) ∧ w'.cell? ⟨w.heap.size,2,none⟩ = some (.slice box k4x dox) ∧ w'.cell? ⟨w.heap.size + 1,0,none⟩ = some (.bool py) ∧ w'.cell? ⟨w.heap.size + 1,1,none⟩ = some (.slice aoy l4y coy) ∧ w'.cell? ⟨w.heap.size + 1,2,none⟩ = some (.slice boy k4y doy))) (by kernel_rfl) ?_ (fun hHeld => ?_)
        ·exact ⟨XA.1,XA.2.1,XA.2.2,VX.1,VX.2.1,VX.2.2.1,VY.1,VY.2.1,VY.2.2.1⟩
        generalize wr.drew = W72 at *
        refine xT 0 (v := ?_) (hy := Or.inl ⟨by rfl,?_⟩) (h := ?_)
        rotate_left
        ·(intro w hSw; (try dsimp only at hSw); go_simp; (try with_reducible rfl))
        (try simp only [Act.put,xL4,xL5,xL6])
        refine xT 1 (v := ?_) (hy := Or.inl ⟨by rfl,?_⟩) (h := ?_)
        rotate_left
        ·(intro w hSw; (try dsimp only at hSw); go_simp; (try with_reducible rfl))
        (try simp only [Act.put,xL4,xL5,xL6])
        refine xT 2 (v := ?_) (hy := Or.inl ⟨by rfl,?_⟩) (h := ?_)
        rotate_left
        ·(intro w hSw; (try dsimp only at hSw); go_simp; (try with_reducible rfl))
        (try simp only [Act.put,xL4,xL5,xL6])
        refine xT 3 (v := undef) (hy := Or.inr ⟨by rfl,rfl⟩) (h := ?_)
        (try simp only [Act.put,xL4,xL5,xL6])
        refine xT 4 (v := undef) (hy := Or.inr ⟨by rfl,rfl⟩) (h := ?_)
        (try simp only [Act.put,xL4,xL5,xL6])
        refine xT 5 (v := undef) (hy := Or.inr ⟨by rfl,rfl⟩) (h := ?_)
        (try simp only [Act.put,xL4,xL5,xL6])
        refine xT 6 (v := undef) (hy := Or.inr ⟨by rfl,rfl⟩) (h := ?_)
        (try simp only [Act.put,xL4,xL5,xL6])
        refine xT 7 (v := undef) (hy := Or.inr ⟨by rfl,rfl⟩) (h := ?_)
        (try simp only [Act.put,xL4,xL5,xL6])
        refine xT 8 (v := undef) (hy := Or.inr ⟨by rfl,rfl⟩) (h := ?_)
        (try simp only [Act.put,xL4,xL5,xL6])
        refine xT 9 (v := undef) (hy := Or.inr ⟨by rfl,rfl⟩) (h := ?_)
        (try simp only [Act.put,xL4,xL5,xL6])
        refine xT 10 (v := ?_) (hy := Or.inl ⟨by rfl,?_⟩) (h := ?_)
        rotate_left
        ·(intro w hSw; (try dsimp only at hSw); go_simp; (try with_reducible rfl))
        (try simp only [Act.put,xL4,xL5,xL6])
        refine xT 11 (v := ?_) (hy := Or.inl ⟨by rfl,?_⟩) (h := ?_)
        rotate_left
        ·(intro w hSw; (try dsimp only at hSw); go_simp; (try with_reducible rfl))
        (try simp only [Act.put,xL4,xL5,xL6])
        refine xT 12 (v := undef) (hy := Or.inr ⟨by rfl,rfl⟩) (h := ?_)
        (try simp only [Act.put,xL4,xL5,xL6])
        refine xT 13 (v := undef) (hy := Or.inr ⟨by rfl,rfl⟩) (h := ?_)
        (try simp only [Act.put,xL4,xL5,xL6])
        refine xT 14 (v := undef) (hy := Or.inr ⟨by rfl,rfl⟩) (h := ?_)
        (try simp only [Act.put,xL4,xL5,xL6])
        refine xT 15 (v := undef) (hy := Or.inr ⟨by rfl,rfl⟩) (h := ?_)
        (try simp only [Act.put,xL4,xL5,xL6])
        refine xT 16 (v := undef) (hy := Or.inr ⟨by rfl,rfl⟩) (h := ?_)
        (try simp only [Act.put,xL4,xL5,xL6])
        refine xT 17 (v := undef) (hy := Or.inr ⟨by rfl,rfl⟩) (h := ?_)
        (try simp only [Act.put,xL4,xL5,xL6])
        refine xT 18 (v := undef) (hy := Or.inr ⟨by rfl,rfl⟩) (h := ?_)
        (try simp only [Act.put,xL4,xL5,xL6])
        refine xT 19 (v := ?_) (hy := Or.inl ⟨by rfl,?_⟩) (h := ?_)
        rotate_left
        ·(intro w hSw; (try dsimp only at hSw); go_simp; (try with_reducible rfl))
        (try simp only [Act.put,xL4,xL5,xL6])
        refine wpAnyH_done (by kernel_rfl) ?_ _
        clear hHeld
        go_wp2
        go_roundw
        case rel => exact ⟨k + 1,l2,_,by omega,by go_num,by rw [dcnt_no (fun hh => by rw [HSK.out] at hh; exact absurd hh.1 (by decide)),HDC.out],FP,HN,BB⟩
        case measure => simp [intOf]; omega
   ·obtain rfl : i = n := by omega
    have g1 : ¬ (i : Int) < (i : Int) := by omega
    obtain ⟨hl9,hl0,e0,fq,hM⟩ := HST.out.roots hc0 hn5 (HTW.out i) sr x y
    have VX := VX0.below BB
    have VY := VY0.below BB
    have Xx := Xx0.below BB
    have Xy := Xy0.below BB
    have ht := ht0.below BB
    replace BB := BWC.out.trans (BB.mono BWC.out.size)
    clear VX0 VY0 Xx0 Xy0 ht0 QR0 HST HCX HTW BWC
    have HFQ : Hid (IForm l P 22) := fq
    have HM : Hid (RootsM l P x y (dcnt r x y (seenF r) i)) := hM
    have HE0 : Hid (trimN P l = l) := e0
    have HSQ : Hid (∀ j,j < l → qsz (P j) ≤ 17000) := fun j hj => Nat.le_trans (fq.sz (by omega) j hj) (by omega)
    clear fq hM e0
    obtain ⟨cnt,hcn⟩ : ∃ z,dcnt r x y (seenF r) i = z := ⟨_,rfl⟩
    rw [hcn] at hcl HM ⊢
    clear hcn
    by_cases hxy : x ≤ y
    ·have hc : cmpQ x y ≤ 0 := of_decide_eq_true ((cmpQ_le x y).trans (decide_eq_true hxy))
     have hc2 : ¬ cmpQ x y > 0 := by omega
     have hc3 : decide (cmpQ x y > 0) = false := decide_eq_false hc2
     have HC : Hid (cmpQ x y ≤ 0) := hc
     obtain ⟨VX_0,VX_1,VX_2,VX_3,VX_4,VX_5⟩ := id VX
     obtain ⟨VY_0,VY_1,VY_2,VY_3,VY_4,VY_5⟩ := id VY
     go_wp2_with fail
     clear VX_0 VX_1 VX_2 VX_3 VX_4 VX_5 VY_0 VY_1 VY_2 VY_3 VY_4 VY_5
     refine (proots2_at _ _ _ l P x y _ Xx Xy ht cnt FP hl9 hl0 HE0.out HFQ.out HM.out hxy HC.out).mono ?_
     rintro e w201 ⟨rfl,b201⟩
     replace Xx := Xx.below b201
     replace Xy := Xy.below b201
     replace ht := ht.below b201
     replace FP := FP.below b201
     replace VX := VX.below b201
     replace VY := VY.below b201
     replace BB := BB.trans (b201.mono BB.size)
     clear b201
     obtain ⟨VX_0,VX_1,VX_2,VX_3,VX_4,VX_5⟩ := id VX
     obtain ⟨VY_0,VY_1,VY_2,VY_3,VY_4,VY_5⟩ := id VY
     go_wp2_with fail
     clear VX_0 VX_1 VX_2 VX_3 VX_4 VX_5 VY_0 VY_1 VY_2 VY_3 VY_4 VY_5
     refine (proots_zero _ _ x y _ Xx Xy ht).mono ?_
     rintro e w202 ⟨rfl,b202⟩
     replace Xx := Xx.below b202
     replace Xy := Xy.below b202
     replace ht := ht.below b202
     replace FP := FP.below b202
     replace VX := VX.below b202
     replace VY := VY.below b202
     replace BB := BB.trans (b202.mono BB.size)
     clear b202
     obtain ⟨VX_0,VX_1,VX_2,VX_3,VX_4,VX_5⟩ := id VX
     obtain ⟨VY_0,VY_1,VY_2,VY_3,VY_4,VY_5⟩ := id VY
     go_wp2_with fail
     clear VX_0 VX_1 VX_2 VX_3 VX_4 VX_5 VY_0 VY_1 VY_2 VY_3 VY_4 VY_5
     refine (qcmp_at _ _ x y 2 _ Xx Xy (by omega) (by omega)).mono ?_
     rintro e w203 ⟨rfl,b203⟩
     replace Xx := Xx.below b203
     replace Xy := Xy.below b203
     replace ht := ht.below b203
     replace FP := FP.below b203
     replace VX := VX.below b203
     replace VY := VY.below b203
     replace BB := BB.trans (b203.mono BB.size)
     clear b203
     go_wp2_with fail
     refine (awake4_at _ ht).mono ?_
     rintro e w204 ⟨rfl,b204⟩
     replace Xx := Xx.below b204
     replace Xy := Xy.below b204
     replace ht := ht.below b204
     replace FP := FP.below b204
     replace VX := VX.below b204
     replace VY := VY.below b204
     replace BB := BB.trans (b204.mono BB.size)
     clear b204
     go_wp2
     go_ret
     exact ⟨rfl,BB⟩
    ·have hc : 0 < cmpQ x y := by have := mt (fun h => of_decide_eq_true ((cmpQ_le x y).symm.trans (decide_eq_true h))) hxy; omega
     have hc2 : cmpQ x y > 0 := hc
     have hc3 : decide (cmpQ x y > 0) = true := decide_eq_true hc2
     have HC : Hid (0 < cmpQ x y) := hc
     obtain ⟨VX_0,VX_1,VX_2,VX_3,VX_4,VX_5⟩ := id VX
     obtain ⟨VY_0,VY_1,VY_2,VY_3,VY_4,VY_5⟩ := id VY
     go_wp2_with fail
     clear VX_0 VX_1 VX_2 VX_3 VX_4 VX_5 VY_0 VY_1 VY_2 VY_3 VY_4 VY_5
     refine (proots_range _ _ _ l P x y _ Xx Xy ht FP (by omega) hl0 HE0.out HSQ.out HC.out).mono ?_
     rintro e w201 ⟨rfl,b201⟩
     replace Xx := Xx.below b201
     replace Xy := Xy.below b201
     replace ht := ht.below b201
     replace FP := FP.below b201
     replace VX := VX.below b201
     replace VY := VY.below b201
     replace BB := BB.trans (b201.mono BB.size)
     clear b201
     obtain ⟨VX_0,VX_1,VX_2,VX_3,VX_4,VX_5⟩ := id VX
     obtain ⟨VY_0,VY_1,VY_2,VY_3,VY_4,VY_5⟩ := id VY
     go_wp2_with fail
     clear VX_0 VX_1 VX_2 VX_3 VX_4 VX_5 VY_0 VY_1 VY_2 VY_3 VY_4 VY_5
     refine (proots_zero _ _ x y _ Xx Xy ht).mono ?_
     rintro e w202 ⟨rfl,b202⟩
     replace Xx := Xx.below b202
     replace Xy := Xy.below b202
     replace ht := ht.below b202
     replace FP := FP.below b202
     replace VX := VX.below b202
     replace VY := VY.below b202
     replace BB := BB.trans (b202.mono BB.size)
     clear b202
     obtain ⟨VX_0,VX_1,VX_2,VX_3,VX_4,VX_5⟩ := id VX
     obtain ⟨VY_0,VY_1,VY_2,VY_3,VY_4,VY_5⟩ := id VY
     go_wp2_with fail
     clear VX_0 VX_1 VX_2 VX_3 VX_4 VX_5 VY_0 VY_1 VY_2 VY_3 VY_4 VY_5
     refine (qcmp_at _ _ x y 2 _ Xx Xy (by omega) (by omega)).mono ?_
     rintro e w203 ⟨rfl,b203⟩
     replace Xx := Xx.below b203
     replace Xy := Xy.below b203
     replace ht := ht.below b203
     replace FP := FP.below b203
     replace VX := VX.below b203
     replace VY := VY.below b203
     replace BB := BB.trans (b203.mono BB.size)
     clear b203
     go_wp2_with fail
     refine (awake4_at _ ht).mono ?_
     rintro e w204 ⟨rfl,b204⟩
     replace Xx := Xx.below b204
     replace Xy := Xy.below b204
     replace ht := ht.below b204
     replace FP := FP.below b204
     replace VX := VX.below b204
     replace VY := VY.below b204
     replace BB := BB.trans (b204.mono BB.size)
     clear b204
     go_wp2
     go_ret
     exact ⟨rfl,BB⟩

theorem own : ownKnob Tryz.prog.godebug = none := by kernel_rfl
theorem laidOut : laidOutB Tryz.prog = true := by kernel_rfl

abbrev laid1 : List (String × DataW Unit) := [("math/bits.deBruijn64tab",Rows.laid_math_bits_deBruijn64tab)]
theorem gTab : Tryz.prog.globalNamed "math/bits.deBruijn64tab" = some 0 := by kernel_rfl
theorem gTabType : (Tryz.prog.globals[0]?).map (·.type) = some 113 := by kernel_rfl
theorem uTab : Tryz.prog.underlying 113 = some (.array 64 5) := by kernel_rfl
theorem uCell : Tryz.prog.underlying 5 = some (.int .u8) := by kernel_rfl
theorem cCell : Tryz.prog.cellsOf 5 = 1 := by kernel_rfl
theorem cTab : Tryz.prog.cellsOf 113 = 64 := by kernel_rfl
/-- The listed table lies in its cells. -/
theorem tab_of {W : World} (h : laidMetH Tryz.prog laid1 W) : Tab W := by
 rw [MakeChecks.laidMetH_plain _ _ _ (by kernel_rfl)] at h
 have hd : laid1 = [("math/bits.deBruijn64tab",Lib.tabData .u8 (Lib.deBruijn64tab.map fun (n : Nat) => Int.ofNat n))] := rfl
 rw [hd] at h
 have hT := Lib.tabIs_of_head gTab gTabType uTab uCell cCell cTab h
 intro i hi
 have hc := hT.cell gTab i (by rw [List.length_map]; exact hi)
 rw [hc]
 congr 2
 rw [List.getD_eq_getElem?_getD,List.getElem?_map,List.getD_eq_getElem?_getD]
 cases Lib.deBruijn64tab[i]? <;> rfl
/-- A start for the witness: the heap that the run of the program's own initialisers leaves. -/
noncomputable def startW (os : Os) : World := { World.holding Tryz.prog os ⟨#[],#[],[]⟩ with heap := (varsWorld Tryz.prog 400 (varsId Tryz.prog) os (fun _ _ => 0)).heap }
theorem start_met (os : Os) (args : Array Value) : laidMetH Tryz.prog laid1 ((startW os).forCall (fun _ _ => 0) ⟨#[],args,[]⟩).memory :=
 laidMetH_of_parts3 (fuel := 8) (laidMet_of_run' 8 (by kernel_rfl) (by kernel_rfl)) (by kernel_rfl) (by kernel_rfl)

set_option maxRecDepth 100000 in
theorem lifted (os : Os) (started : os.Started) (H : Type) (enc : TypeId × Value → H) :
  ReturnsInHanded {} Tryz.checked os 3 .any (fun w args => (Rows.polyRootsSpec.pre enc Tryz.prog Tryz.f3 [] false w args ∧ laidMetH Tryz.prog laid1 w) ∧ sizedMet enc Tryz.prog Tryz.f3 (OpenSpec.ofChange Rows.polyRootsSpec) false w args) (Rows.polyRootsSpec.post enc Tryz.prog Tryz.f3 false true false false) := by
 refine returnsInHanded_of_change_and (C := Tryz.checked) (X := fun w _ => laidMetH Tryz.prog laid1 w) (fun _ _ _ hh h => h.of_heap hh) own started (by kernel_rfl) Tryz.func3
  (ChangeSpec.witness_shaped (enc := enc) (C := Tryz.checked) (os := os) (X := fun w _ => laidMetH Tryz.prog laid1 w) false (startW os) #[.slice none 0 0,.int .i64 0,.agg #[.bool false,.slice none 0 0,.slice none 0 0],.agg #[.bool false,.slice none 0 0,.slice none 0 0],.agg #[.bool false,.slice none 0 0,.slice none 0 0]] 8 rfl (World.shaped_of_RefB (by kernel_rfl) (by kernel_rfl)) (by kernel_rfl) (by kernel_rfl) (by kernel_rfl) (start_met os _)) ?_
 intro W base args ds gs before hval0 hW _ _ hL _
 have hval : ∀ (j : Nat) t v,Tryz.f3.params[j]? = some t → args[j]? = some v → Value.okWide Tryz.prog W .any base t v := hval0
 have hW' := hW
 obtain ⟨p,q,hA0,hV,rfl,hfz,hnd⟩ := hW
 have hA : DataW.TrodAll enc Tryz.prog W 0 (fun _ => true) true Tryz.f3.params.toList args.toList ds p := hA0
 rw [Tryz.params3] at hA hval
 obtain ⟨v0,vs0,d0,ds0,p0,q0,hargs,rfl,rfl,h0,r0⟩ := trodAll_cons hA
 obtain ⟨v1,vs1,d1,ds1,p1,q1,rfl,rfl,rfl,h1,r1⟩ := trodAll_cons r0
 obtain ⟨v2,vs2,d2,ds2,p2,q2,rfl,rfl,rfl,h2,r2⟩ := trodAll_cons r1
 obtain ⟨v3,vs3,d3,ds3,p3,q3,rfl,rfl,rfl,h3,r3⟩ := trodAll_cons r2
 obtain ⟨v4,vs4,d4,ds4,p4,q4,rfl,rfl,rfl,h4,r4⟩ := trodAll_cons r3
 obtain ⟨rfl,rfl,rfl⟩ := trodAll_nil r4
 obtain rfl : args = #[v0,v1,v2,v3,v4] := by cases args; simp_all
 obtain ⟨rfl,rfl⟩ := trodVars_none hV
 have k0 := h0
 have lt0 : ∀ x ∈ p0,x.block < W.heap.size := by obtain ⟨m,hm⟩ := k0; exact DataW.trod_lt m _ _ _ hm
 obtain ⟨n0,z0,w0⟩ := open_wrats KLIST (hval 0 22 v0 rfl rfl) h0
 obtain ⟨a1,rfl,rfl,rfl,w1⟩ := open_int Tryz.underlying3 (hval 1 3 v1 rfl rfl) h1
 have k2 := h2
 have lt2 : ∀ x ∈ p2,x.block < W.heap.size := by obtain ⟨m,hm⟩ := k2; exact DataW.trod_lt m _ _ _ hm
 obtain ⟨neg2,ao2,n2,c2,bo2,m2,d2,f2,g2,rfl,w2,x2⟩ := open_wrat (hval 2 28 v2 rfl rfl) h2
 have k3 := h3
 have lt3 : ∀ x ∈ p3,x.block < W.heap.size := by obtain ⟨m,hm⟩ := k3; exact DataW.trod_lt m _ _ _ hm
 obtain ⟨neg3,ao3,n3,c3,bo3,m3,d3,f3,g3,rfl,w3,x3⟩ := open_wrat (hval 3 28 v3 rfl rfl) h3
 have k4 := h4
 have lt4 : ∀ x ∈ p4,x.block < W.heap.size := by obtain ⟨m,hm⟩ := k4; exact DataW.trod_lt m _ _ _ hm
 obtain ⟨neg4,ao4,n4,c4,bo4,m4,d4,f4,g4,rfl,w4,x4⟩ := open_wrat (hval 4 28 v4 rfl rfl) h4
 clear hA0 hval0
 refine (walk _ _ _ a1 _ _ _ _ _ _ _ _ _ _ _ _ _ _ _ _ _ _ _ _ _ _ _ _ _ _ _ W w0 w1 w2 x2 w3 x3 w4 x4 (tab_of hL)).mono fun e W' ⟨he,bel⟩ => ?_
 subst he
 exact ⟨_,rfl,_,_,_,[],_,[],hW',trodAll_mk1 (shut_bool Tryz.underlying4 _),(trodAll_cons_mk (Below.trod laidOut (by kernel_rfl) (of_decide_eq_true (by kernel_rfl)) k0 bel lt0) (trodAll_cons_mk (shut_int Tryz.underlying3 w1) (trodAll_cons_mk (Below.trod laidOut (by kernel_rfl) (of_decide_eq_true (by kernel_rfl)) k2 bel lt2) (trodAll_cons_mk (Below.trod laidOut (by kernel_rfl) (of_decide_eq_true (by kernel_rfl)) k3 bel lt3) (trodAll_cons_mk (Below.trod laidOut (by kernel_rfl) (of_decide_eq_true (by kernel_rfl)) k4 bel lt4) trodAll_mk0))))),rfl,bel.frame _,fun h => by cases h⟩

theorem over : Rows.polyRootsRow.holds Tryz.pinned (OpenSpec.ofChange Rows.polyRootsSpec) :=
 OpenClaim.holds_of_wide 3 Tryz.f3 rfl rfl rfl rfl rfl rfl rfl ⟨rfl,rfl,rfl,rfl,rfl⟩ rfl rfl rfl rfl rfl (by kernel_rfl) Tryz.func3 (by kernel_rfl)
  (of_decide_eq_true (by kernel_rfl)) (by unfold Func.isWrapper; first | (rw [if_pos (by decide +kernel)]; kernel_rfl) | (rw [if_neg (by decide +kernel)]; exact ⟨rfl,rfl⟩))
  (fun os started H enc _ => lifted os started H enc)

end Go.Proofs.YtieeneaebjihlaaGreatDoor.polyRoots
namespace Go.Proofs.YtieeneaebjihlaaGreatDoor
/-- The statement: the row, tied to the text of the program. -/
theorem polyRoots_holds : Rows.PolyRootsCardSaid :=
 Claim7.holds_tied_plain_at .later [] [.data] true (true,"946d23f3729168903cb858ee17e7682a0a240083c88a55935055be2fe346e902") false
  polyRoots.over (fun _ h => by cases h) (by kernel_rfl) (fun _ h => by cases h) polyRoots_row_tie rfl ⟨rfl,rfl⟩ (by kernel_rfl) rfl
  (fun f fn hf hfn => by
   obtain rfl : f = 3 := Option.some.inj ((show Tryz.prog.funcNamed "dendron/dendronlaw04.PolyRoots" = some 3 by kernel_rfl).symm.trans hf) |>.symm
   obtain rfl : fn = Tryz.f3 := (Option.some.inj (Tryz.func3.symm.trans hfn)).symm
   exact ⟨by kernel_rfl,fun j t ht => by
    rw [Tryz.params3] at ht
    have hm : t ∈ [22,3,28,28,28] := by simpa using Array.mem_of_getElem? ht
    have hall : ([22,3,28,28,28].all fun u => !Tryz.prog.wantsStandIn u) = true := by kernel_rfl
    exact (show Tryz.prog.wantsStandIn t = false by simpa using List.all_eq_true.1 hall t hm)⟩)
  (by kernel_rfl)
end Go.Proofs.YtieeneaebjihlaaGreatDoor
