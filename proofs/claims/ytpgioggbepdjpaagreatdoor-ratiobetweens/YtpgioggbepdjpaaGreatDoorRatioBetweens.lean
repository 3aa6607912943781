/-
 Proves that Between answers all numbers from one number of up to 2 limbs to another one,at most 20 apart,of divisors of up to 8,rising,just as many as there are,or that there is none beyond the limits (the statement RatioBetweens,its tied card); the table of math/bits lies as the program's text lays it; no other condition.
-/
import Derived.Test.YtpgioggbepdjpaaGreatDoorJc6147c59cf
import Derived.Test.YtpgioggbepdjpaaGreatDoorRows
import Derived.Test.YtpgioggbepdjpaaGreatDoorJe0912aca50
import Derived.Test.YtpgioggbepdjpaaGreatDoorJ199d4e0890
import Derived.Test.YtpgioggbepdjpaaGreatDoorJd91f892d91
import Derived.Test.YtpgioggbepdjpaaGreatDoorJ8c1c578905
import Derived.WalkKit
import Derived.ProofKit
import Derived.OpenShut
import Derived.ShutString
import Derived.ChangeOld
import Derived.Below
import Derived.Test.YtpgioggbepdjpaaGreatDoorTie
import Derived.Test.YtpgioggbepdjpaaGreatDoorCards
import Derived.LaidByTextLater
import Derived.LaidHandle
import Derived.Lib.LaidTab
import Derived.SevenTiedAt
namespace Go.Proofs.YtpgioggbepdjpaaGreatDoor.ratioBetweens
open Go.ChangeShapes Go.WideShapes Go.ChangeAt Go.RowKit
open Go.ChangeMaps (open_string shut_string)
set_option linter.unusedVariables false
set_option linter.unusedSimpArgs false

set_option linter.unusedSimpArgs false
theorem nl10_small (d : Nat) (h : d ≤ 8) : nl 10000 d ≤ 400000 := Nat.le_trans (nl_le 10000 d 1 (by decide) (by omega)) (by omega)
theorem nl10_of6 {z : Int} (h : nl W32 z.natAbs ≤ 6) : nl 10000 z.natAbs ≤ 400000 := Nat.le_trans (nl10_le _ _ h) (by omega)
set_option maxRecDepth 100000 in
set_option maxHeartbeats 32000000 in
theorem walk (p : Bool) (ao0 : Option Addr) (n0 c0 : Nat) (bo0 : Option Addr) (m0 d0 : Nat) (f g : Nat → Int) (p2 : Bool) (ao2 : Option Addr) (n2 c2 : Nat) (bo2 : Option Addr) (m2 d2 : Nat) (f2 g2 : Nat → Int) (k : Int) (w : World) (ha1 : Raw w (.slice ao0 n0 c0) n0 f) (ha2 : Raw w (.slice bo0 m0 d0) m0 g) (hb1 : Raw w (.slice ao2 n2 c2) n2 f2) (hb2 : Raw w (.slice bo2 m2 d2) m2 g2) (wk : (Lit.int .i64 k).wf = true) (ht : Tab w) :
  Calls Tryz.prog 4 #[.agg #[.bool p,.slice ao0 n0 c0,.slice bo0 m0 d0],.agg #[.bool p2,.slice ao2 n2 c2,.slice bo2 m2 d2],.int .i64 k] w fun e w' => e = .returned (.bool true) ∧ Below w.heap.size w w' := by
 have hkb := bounds_i64 wk
 clear wk
 have BB : Below w.heap.size w w := Below.refl _ _
 obtain ⟨Wb0,hW0,hS0,hL0,VA⟩ := V3.lay w 27 (.bool p) (.slice ao0 n0 c0) (.slice bo0 m0 d0)
 replace ha1 := ha1.below hL0
 replace ha2 := ha2.below hL0
 replace hb1 := hb1.below hL0
 replace hb2 := hb2.below hL0
 replace ht := ht.below hL0
 replace BB := BB.trans (hL0.mono BB.size)
 clear hL0
 obtain ⟨Wb1,hW1,hS1,hL1,VB⟩ := V3.lay Wb0 27 (.bool p2) (.slice ao2 n2 c2) (.slice bo2 m2 d2)
 rw [hS0] at VB hS1
 replace ha1 := ha1.below hL1
 replace ha2 := ha2.below hL1
 replace hb1 := hb1.below hL1
 replace hb2 := hb2.below hL1
 replace ht := ht.below hL1
 replace VA := VA.below hL1
 replace BB := BB.trans (hL1.mono BB.size)
 clear hL1
 go_enter Tryz.func4,Tryz.ntmps4
 go_wp2_with fail
 rw [← hW0]
 rw [← hW1]
 clear hW0 hW1 hS0 hS1
 refine (tiny_at _ _ _ _ _ _ _ _ ha1 ha2).mono ?_
 rintro e w1 ⟨ao,c,bo,d,rfl,u1,u2,u3,u4,b1⟩
 replace ha1 := ha1.below b1
 replace ha2 := ha2.below b1
 replace hb1 := hb1.below b1
 replace hb2 := hb2.below b1
 replace ht := ht.below b1
 replace VA := VA.below b1
 replace VB := VB.below b1
 replace BB := BB.trans (b1.mono BB.size)
 clear b1
 have k1 : min n0 2 ≤ 2 := Nat.min_le_right _ _
 have k2 : min m0 2 ≤ 2 := Nat.min_le_right _ _
 generalize min n0 2 = n at *
 generalize min m0 2 = m at *
 clear ha1 ha2
 have hKp := VA.keepJ (.bool p) (.slice ao n c) (.slice bo m d)
 have VB_n := VB.other3 (R := w.heap.size) (by omega) (.bool p) (.slice ao n c) (.slice bo m d)
 have VA_n := VA.same (.bool p) (.slice ao n c) (.slice bo m d)
 have hb1_n := hb1.keep hKp
 have hb2_n := hb2.keep hKp
 have ht_n := ht.keep hKp
 have u1_n := u1.keep hKp
 have u3_n := u3.keep hKp
 have BB_n := below_store3 (R := w.heap.size) BB (by omega) (.bool p) (.slice ao n c) (.slice bo m d)
 clear hKp
 obtain ⟨VA_0,VA_1,VA_2,VA_3,VA_4,VA_5⟩ := id VA
 obtain ⟨VB_n0,VB_n1,VB_n2,VB_n3,VB_n4,VB_n5⟩ := id VB_n
 go_wp2_with fail
 clear VA_0 VA_1 VA_2 VA_3 VA_4 VA_5 VB_n0 VB_n1 VB_n2 VB_n3 VB_n4 VB_n5
 clear BB hb1 hb2 ht u1 u3 VA VB
 generalize ((w1.setCell ⟨w.heap.size,0,none⟩ (.bool p)).setCell ⟨w.heap.size,1,none⟩ (.slice ao n c)).setCell ⟨w.heap.size,2,none⟩ (.slice bo m d) = W1 at *
 have BB := BB_n
 have hb1 := hb1_n
 have hb2 := hb2_n
 have ht := ht_n
 have u1 := u1_n
 have u3 := u3_n
 have VA := VA_n
 have VB := VB_n
 clear BB_n hb1_n hb2_n ht_n u1_n u3_n VA_n VB_n
 have Ia : RatAt W1 _ _ 2 := RatAt.raw (p := p) u1 u2 u3 u4 k1 k2
 clear u1 u3
 clear k1 k2 u2 u4
 generalize mkRat (zof p (num f n)) (num g m) = a at *
 refine (tiny_at _ _ _ _ _ _ _ _ hb1 hb2).mono ?_
 rintro e w2 ⟨ao3,c3,bo3,d3,rfl,u1,u2,u3,u4,b2⟩
 replace hb1 := hb1.below b2
 replace hb2 := hb2.below b2
 replace ht := ht.below b2
 replace Ia := Ia.below b2
 replace VA := VA.below b2
 replace VB := VB.below b2
 replace BB := BB.trans (b2.mono BB.size)
 clear b2
 have k1 : min n2 2 ≤ 2 := Nat.min_le_right _ _
 have k2 : min m2 2 ≤ 2 := Nat.min_le_right _ _
 generalize min n2 2 = n3 at *
 generalize min m2 2 = m3 at *
 clear hb1 hb2
 have hKp := VB.keepJ (.bool p2) (.slice ao3 n3 c3) (.slice bo3 m3 d3)
 have VA_n := VA.other3 (R := w.heap.size + 1) (by omega) (.bool p2) (.slice ao3 n3 c3) (.slice bo3 m3 d3)
 have VB_n := VB.same (.bool p2) (.slice ao3 n3 c3) (.slice bo3 m3 d3)
 have ht_n := ht.keep hKp
 have Ia_n := Ia.keep hKp
 have u1_n := u1.keep hKp
 have u3_n := u3.keep hKp
 have BB_n := below_store3 (R := w.heap.size + 1) BB (by omega) (.bool p2) (.slice ao3 n3 c3) (.slice bo3 m3 d3)
 clear hKp
 obtain ⟨VB_0,VB_1,VB_2,VB_3,VB_4,VB_5⟩ := id VB
 obtain ⟨VA_n0,VA_n1,VA_n2,VA_n3,VA_n4,VA_n5⟩ := id VA_n
 go_wp2_with fail
 clear VB_0 VB_1 VB_2 VB_3 VB_4 VB_5 VA_n0 VA_n1 VA_n2 VA_n3 VA_n4 VA_n5
 clear BB ht Ia u1 u3 VA VB
 generalize ((w2.setCell ⟨w.heap.size + 1,0,none⟩ (.bool p2)).setCell ⟨w.heap.size + 1,1,none⟩ (.slice ao3 n3 c3)).setCell ⟨w.heap.size + 1,2,none⟩ (.slice bo3 m3 d3) = W2 at *
 have BB := BB_n
 have ht := ht_n
 have Ia := Ia_n
 have u1 := u1_n
 have u3 := u3_n
 have VA := VA_n
 have VB := VB_n
 clear BB_n ht_n Ia_n u1_n u3_n VA_n VB_n
 have Ib : RatAt W2 _ _ 2 := RatAt.raw (p := p2) u1 u2 u3 u4 k1 k2
 clear u1 u3
 clear k1 k2 u2 u4
 generalize mkRat (zof p2 (num f2 n3)) (num g2 m3) = b at *
 have sa := Ia.qsz (by omega)
 have sb := Ib.qsz (by omega)
 refine (jfrom_at _ a 2 _ Ia (by omega) (by omega)).mono ?_
 rintro e w3 ⟨vx,rfl,Jx,b3⟩
 replace ht := ht.below b3
 replace Ia := Ia.below b3
 replace Ib := Ib.below b3
 replace VA := VA.below b3
 replace VB := VB.below b3
 replace BB := BB.trans (b3.mono BB.size)
 clear b3
 obtain ⟨px,ax,nx,cx,bx_,mx,dx,rfl⟩ := Jx.open
 have hZ3 : w.heap.size ≤ w3.heap.size := BB.size
 have hN3VA : w.heap.size ≠ w3.heap.size := Nat.ne_of_lt VA.lt
 have hN3VB : w.heap.size + 1 ≠ w3.heap.size := Nat.ne_of_lt VB.lt
 obtain ⟨W3,hW3,hS3,hL3,VX⟩ := V3.lay w3 35 (.bool px) (.slice ax nx cx) (.slice bx_ mx dx)
 replace ht := ht.below hL3
 replace Ia := Ia.below hL3
 replace Ib := Ib.below hL3
 replace Jx := Jx.below hL3
 replace VA := VA.below hL3
 replace VB := VB.below hL3
 replace BB := BB.trans (hL3.mono BB.size)
 clear hL3
 obtain ⟨VB_0,VB_1,VB_2,VB_3,VB_4,VB_5⟩ := id VB
 rw [hW3] at VB_0 VB_1 VB_2 VB_3 VB_4 VB_5
 go_wp2_with fail
 clear VB_0 VB_1 VB_2 VB_3 VB_4 VB_5
 rw [← hW3]
 generalize w3.heap.size = R3 at *
 clear hW3 hS3
 refine (jfrom_at _ b 2 _ Ib (by omega) (by omega)).mono ?_
 rintro e w4 ⟨vy,rfl,Jy,b4⟩
 replace ht := ht.below b4
 replace Ia := Ia.below b4
 replace Ib := Ib.below b4
 replace Jx := Jx.below b4
 replace VA := VA.below b4
 replace VB := VB.below b4
 replace VX := VX.below b4
 replace BB := BB.trans (b4.mono BB.size)
 clear b4
 obtain ⟨py,ay,ny,cy,b_y,my,dy,rfl⟩ := Jy.open
 have hZ4 : w.heap.size ≤ w4.heap.size := BB.size
 have hN4VA : w.heap.size ≠ w4.heap.size := Nat.ne_of_lt VA.lt
 have hN4VB : w.heap.size + 1 ≠ w4.heap.size := Nat.ne_of_lt VB.lt
 have hN4VX : R3 ≠ w4.heap.size := Nat.ne_of_lt VX.lt
 obtain ⟨W4,hW4,hS4,hL4,VY⟩ := V3.lay w4 35 (.bool py) (.slice ay ny cy) (.slice b_y my dy)
 replace ht := ht.below hL4
 replace Ia := Ia.below hL4
 replace Ib := Ib.below hL4
 replace Jx := Jx.below hL4
 replace Jy := Jy.below hL4
 replace VA := VA.below hL4
 replace VB := VB.below hL4
 replace VX := VX.below hL4
 replace BB := BB.trans (hL4.mono BB.size)
 clear hL4
 obtain ⟨VA_0,VA_1,VA_2,VA_3,VA_4,VA_5⟩ := id VA
 obtain ⟨VB_0,VB_1,VB_2,VB_3,VB_4,VB_5⟩ := id VB
 rw [hW4] at VA_0 VA_1 VA_2 VA_3 VA_4 VA_5 VB_0 VB_1 VB_2 VB_3 VB_4 VB_5
 go_wp2
 clear VA_0 VA_1 VA_2 VA_3 VA_4 VA_5 VB_0 VB_1 VB_2 VB_3 VB_4 VB_5
 rw [← hW4]
 generalize w4.heap.size = R4 at *
 clear hW4 hS4
 have HCQ : Hid (cmpQ (b + -a) (mkRat 20 1) > 0 ↔ mkRat 20 1 < b + -a) := (cmpQ_twoB _ _).1
 by_cases h1 : 8 < k ∧ k ≤ 64
 ·have c1 : (8 : Int) < k := h1.1
  have c2 : k ≤ 64 := h1.2
  generalize hcq : cmpQ (b + -a) (mkRat 20 1) = cc at *
  have hDr : Below W4.heap.size W4 W4.drew := (Below.refl _ _).drew
  replace ht := ht.below hDr
  replace Ia := Ia.below hDr
  replace Ib := Ib.below hDr
  replace Jx := Jx.below hDr
  replace Jy := Jy.below hDr
  replace VA := VA.below hDr
  replace VB := VB.below hDr
  replace VX := VX.below hDr
  replace VY := VY.below hDr
  replace BB := BB.trans (hDr.mono BB.size)
  clear hDr
  refine wp_region_held_drew (S := (fun w' => w'.cell? ⟨R3,0,none⟩ = some (.bool px) ∧ w'.cell? ⟨R3,1,none⟩ = some (.slice ax nx cx) ∧ w'.cell? ⟨R3,2,none⟩ = some (.slice bx_ mx dx) ∧ w'.cell? ⟨R4,0,none⟩ = some (.bool py) ∧ w'.cell? ⟨R4,1,none⟩ = some (.slice ay ny cy) ∧ w'.cell? ⟨R4,2,none⟩ = some (.slice b_y my dy))) (by kernel_rfl) ?_ (fun hHeld => ?_)
  ·exact ⟨VX.1,VX.2.1,VX.2.2.1,VY.1,VY.2.1,VY.2.2.1⟩
  generalize W4.drew = W165 at *
  refine xT 0 (v := ?_) (hy := Or.inl ⟨by rfl,?_⟩) (h := ?_)
  rotate_left
  ·(intro w hSw; (try dsimp only at hSw); go_simp; (try with_reducible rfl))
  (try simp only [Act.put,xL4,xL5,xL6])
  refine xT 1 (v := ?_) (hy := Or.inl ⟨by rfl,?_⟩) (h := ?_)
  rotate_left
  ·(intro w hSw; (try dsimp only at hSw); go_simp; (try with_reducible rfl))
  (try simp only [Act.put,xL4,xL5,xL6])
  refine xT 2 (v := ?_) (hy := Or.inl ⟨by rfl,?_⟩) (h := ?_)
  rotate_left
  ·(intro w hSw; (try dsimp only at hSw); go_simp; (try with_reducible rfl))
  (try simp only [Act.put,xL4,xL5,xL6])
  refine xT 3 (v := ?_) (hy := Or.inl ⟨by rfl,?_⟩) (h := ?_)
  rotate_left
  ·(intro w hSw; (try dsimp only at hSw); go_simp; (try with_reducible rfl))
  (try simp only [Act.put,xL4,xL5,xL6])
  refine xT 4 (v := ?_) (hy := Or.inl ⟨by rfl,?_⟩) (h := ?_)
  rotate_left
  ·(intro w hSw; (try dsimp only at hSw); go_simp; (try with_reducible rfl))
  (try simp only [Act.put,xL4,xL5,xL6])
  refine xT 5 (v := ?_) (hy := Or.inl ⟨by rfl,?_⟩) (h := ?_)
  rotate_left
  ·(intro w hSw; (try dsimp only at hSw); go_simp; (try with_reducible rfl))
  (try simp only [Act.put,xL4,xL5,xL6])
  refine xT 6 (v := ?_) (hy := Or.inl ⟨by rfl,?_⟩) (h := ?_)
  rotate_left
  ·(intro w hSw; (try dsimp only at hSw); go_simp; (try with_reducible rfl))
  (try simp only [Act.put,xL4,xL5,xL6])
  refine xT 7 (v := undef) (hy := Or.inr ⟨by rfl,rfl⟩) (h := ?_)
  (try simp only [Act.put,xL4,xL5,xL6])
  refine xT 8 (v := undef) (hy := Or.inr ⟨by rfl,rfl⟩) (h := ?_)
  (try simp only [Act.put,xL4,xL5,xL6])
  refine xT 9 (v := undef) (hy := Or.inr ⟨by rfl,rfl⟩) (h := ?_)
  (try simp only [Act.put,xL4,xL5,xL6])
  refine xT 10 (v := undef) (hy := Or.inr ⟨by rfl,rfl⟩) (h := ?_)
  (try simp only [Act.put,xL4,xL5,xL6])
  refine xT 11 (v := undef) (hy := Or.inr ⟨by rfl,rfl⟩) (h := ?_)
  (try simp only [Act.put,xL4,xL5,xL6])
  refine xT 12 (v := undef) (hy := Or.inr ⟨by rfl,rfl⟩) (h := ?_)
  (try simp only [Act.put,xL4,xL5,xL6])
  refine xT 13 (v := undef) (hy := Or.inr ⟨by rfl,rfl⟩) (h := ?_)
  (try simp only [Act.put,xL4,xL5,xL6])
  refine xT 14 (v := ?_) (hy := Or.inl ⟨by rfl,?_⟩) (h := ?_)
  rotate_left
  ·(intro w hSw; (try dsimp only at hSw); go_simp; (try with_reducible rfl))
  (try simp only [Act.put,xL4,xL5,xL6])
  refine wpAnyH_done (by kernel_rfl) ?_ _
  clear hHeld
  clear hcq
  go_wp2_with fail
  refine (qawake_at _ ht).mono ?_
  rintro e w165 ⟨rfl,b165⟩
  replace ht := ht.below b165
  replace Ia := Ia.below b165
  replace Ib := Ib.below b165
  replace Jx := Jx.below b165
  replace Jy := Jy.below b165
  replace VA := VA.below b165
  replace VB := VB.below b165
  replace VX := VX.below b165
  replace VY := VY.below b165
  replace BB := BB.trans (b165.mono BB.size)
  clear b165
  go_wp2
  go_ret
  exact ⟨rfl,BB⟩
 by_cases h2 : 64 < k
 ·have c1 : (8 : Int) < k := by omega
  have c2 : ¬ k ≤ 64 := by omega
  have c3 : ¬ k < 1 := by omega
  have c4 : (64 : Int) < k := h2
  have HK : Hid (k < 1 ∨ 64 < k) := Or.inr h2
  generalize hcq : cmpQ (b + -a) (mkRat 20 1) = cc at *
  have hDr : Below W4.heap.size W4 W4.drew := (Below.refl _ _).drew
  replace ht := ht.below hDr
  replace Ia := Ia.below hDr
  replace Ib := Ib.below hDr
  replace Jx := Jx.below hDr
  replace Jy := Jy.below hDr
  replace VA := VA.below hDr
  replace VB := VB.below hDr
  replace VX := VX.below hDr
  replace VY := VY.below hDr
  replace BB := BB.trans (hDr.mono BB.size)
  clear hDr
  refine wp_region_held_drew (S := (fun w' => w'.cell? ⟨R3,0,none⟩ = some (.bool px) ∧ w'.cell? ⟨R3,1,none⟩ = some (.slice ax nx cx) ∧ w'.cell? ⟨R3,2,none⟩ = some (.slice bx_ mx dx) ∧ w'.cell? ⟨R4,0,none⟩ = some (.bool py) ∧ w'.cell? ⟨R4,1,none⟩ = some (.slice ay ny cy) ∧ w'.cell? ⟨R4,2,none⟩ = some (.slice b_y my dy))) (by kernel_rfl) ?_ (fun hHeld => ?_)
  ·exact ⟨VX.1,VX.2.1,VX.2.2.1,VY.1,VY.2.1,VY.2.2.1⟩
  generalize W4.drew = W45 at *
  refine xT 0 (v := ?_) (hy := Or.inl ⟨by rfl,?_⟩) (h := ?_)
  rotate_left
  ·(intro w hSw; (try dsimp only at hSw); go_simp; (try with_reducible rfl))
  (try simp only [Act.put,xL4,xL5,xL6])
  refine xT 1 (v := ?_) (hy := Or.inl ⟨by rfl,?_⟩) (h := ?_)
  rotate_left
  ·(intro w hSw; (try dsimp only at hSw); go_simp; (try with_reducible rfl))
  (try simp only [Act.put,xL4,xL5,xL6])
  refine xT 2 (v := ?_) (hy := Or.inl ⟨by rfl,?_⟩) (h := ?_)
  rotate_left
  ·(intro w hSw; (try dsimp only at hSw); go_simp; (try with_reducible rfl))
  (try simp only [Act.put,xL4,xL5,xL6])
  refine xT 3 (v := ?_) (hy := Or.inl ⟨by rfl,?_⟩) (h := ?_)
  rotate_left
  ·(intro w hSw; (try dsimp only at hSw); go_simp; (try with_reducible rfl))
  (try simp only [Act.put,xL4,xL5,xL6])
  refine xT 4 (v := ?_) (hy := Or.inl ⟨by rfl,?_⟩) (h := ?_)
  rotate_left
  ·(intro w hSw; (try dsimp only at hSw); go_simp; (try with_reducible rfl))
  (try simp only [Act.put,xL4,xL5,xL6])
  refine xT 5 (v := ?_) (hy := Or.inl ⟨by rfl,?_⟩) (h := ?_)
  rotate_left
  ·(intro w hSw; (try dsimp only at hSw); go_simp; (try with_reducible rfl))
  (try simp only [Act.put,xL4,xL5,xL6])
  refine xT 6 (v := ?_) (hy := Or.inl ⟨by rfl,?_⟩) (h := ?_)
  rotate_left
  ·(intro w hSw; (try dsimp only at hSw); go_simp; (try with_reducible rfl))
  (try simp only [Act.put,xL4,xL5,xL6])
  refine xT 7 (v := ?_) (hy := Or.inl ⟨by rfl,?_⟩) (h := ?_)
  rotate_left
  ·(intro w hSw; (try dsimp only at hSw); go_simp; (try with_reducible rfl))
  (try simp only [Act.put,xL4,xL5,xL6])
  refine xT 8 (v := ?_) (hy := Or.inl ⟨by rfl,?_⟩) (h := ?_)
  rotate_left
  ·(intro w hSw; (try dsimp only at hSw); go_simp; (try with_reducible rfl))
  (try simp only [Act.put,xL4,xL5,xL6])
  refine xR [9] (h := ?_)
  refine xN (h := fun K hK => ?_)
  go_simp
  refine (jminus_at _ a 2 _ Jx (by omega)).mono ?_
  rintro e w45 ⟨t1,rfl,h1,b45⟩
  go_wp2_with fail
  replace ht := ht.below b45
  replace Ia := Ia.below b45
  replace Ib := Ib.below b45
  replace Jx := Jx.below b45
  replace Jy := Jy.below b45
  replace VA := VA.below b45
  replace VB := VB.below b45
  replace VX := VX.below b45
  replace VY := VY.below b45
  replace BB := BB.trans (b45.mono BB.size)
  clear b45
  refine hK.out _ _ ?_ (fun hH1 => ?_)
  ·exact ⟨VX.1,VX.2.1,VX.2.2.1,VY.1,VY.2.1,VY.2.2.1⟩
  clear hK K hHeld
  (try simp only [Act.put,xL4,xL5,xL6])
  refine xR [10] (h := ?_)
  refine xN (h := fun K hK => ?_)
  go_simp
  refine (jplus_at _ _ b (-a) 2 2 _ Jy h1 (by omega)).mono ?_
  rintro e w46 ⟨t2,rfl,h2,b46⟩
  go_wp2_with fail
  replace ht := ht.below b46
  replace Ia := Ia.below b46
  replace Ib := Ib.below b46
  replace Jx := Jx.below b46
  replace Jy := Jy.below b46
  replace h1 := h1.below b46
  replace VA := VA.below b46
  replace VB := VB.below b46
  replace VX := VX.below b46
  replace VY := VY.below b46
  replace BB := BB.trans (b46.mono BB.size)
  clear b46
  refine hK.out _ _ ?_ (fun hH2 => ?_)
  ·exact ⟨VX.1,VX.2.1,VX.2.2.1,VY.1,VY.2.1,VY.2.2.1⟩
  clear hK K hH1
  (try simp only [Act.put,xL4,xL5,xL6])
  refine xR [11] (h := ?_)
  refine xN (h := fun K hK => ?_)
  go_simp
  refine (jsmall_at 20 1 _ (by omega) (by omega) (by omega) (by omega)).mono ?_
  rintro e w47 ⟨t3,rfl,h3,b47⟩
  go_wp2_with fail
  replace ht := ht.below b47
  replace Ia := Ia.below b47
  replace Ib := Ib.below b47
  replace Jx := Jx.below b47
  replace Jy := Jy.below b47
  replace h1 := h1.below b47
  replace h2 := h2.below b47
  replace VA := VA.below b47
  replace VB := VB.below b47
  replace VX := VX.below b47
  replace VY := VY.below b47
  replace BB := BB.trans (b47.mono BB.size)
  clear b47
  refine hK.out _ _ ?_ (fun hH3 => ?_)
  ·exact ⟨VX.1,VX.2.1,VX.2.2.1,VY.1,VY.2.1,VY.2.2.1⟩
  clear hK K hH2
  (try simp only [Act.put,xL4,xL5,xL6])
  refine xR [12] (h := ?_)
  refine xN (h := fun K hK => ?_)
  go_simp
  refine (jorder_at _ _ (b + -a) (mkRat 20 1) 5 2 _ h2 h3 (by omega)).mono ?_
  rintro e w48 ⟨rfl,b48⟩
  rw [hcq]
  go_wp2_with fail
  replace ht := ht.below b48
  replace Ia := Ia.below b48
  replace Ib := Ib.below b48
  replace Jx := Jx.below b48
  replace Jy := Jy.below b48
  replace h1 := h1.below b48
  replace h2 := h2.below b48
  replace h3 := h3.below b48
  replace VA := VA.below b48
  replace VB := VB.below b48
  replace VX := VX.below b48
  replace VY := VY.below b48
  replace BB := BB.trans (b48.mono BB.size)
  clear b48
  refine hK.out _ _ ?_ (fun hH4 => ?_)
  ·exact ⟨VX.1,VX.2.1,VX.2.2.1,VY.1,VY.2.1,VY.2.2.1⟩
  clear hK K hH3
  (try simp only [Act.put,xL4,xL5,xL6])
  refine xT 13 (v := ?_) (hy := Or.inl ⟨by rfl,?_⟩) (h := ?_)
  rotate_left
  ·(intro w hSw; (try dsimp only at hSw); go_simp; (try with_reducible rfl))
  (try simp only [Act.put,xL4,xL5,xL6])
  refine xT 14 (v := ?_) (hy := Or.inl ⟨by rfl,?_⟩) (h := ?_)
  rotate_left
  ·(intro w hSw; (try dsimp only at hSw); go_simp; (try with_reducible rfl))
  (try simp only [Act.put,xL4,xL5,xL6])
  refine wpAnyH_done (by kernel_rfl) ?_ _
  clear hH4
  clear h1 h2 h3
  clear hcq
  by_cases hfar : mkRat 20 1 < b + -a
  ·have hcc : cc > 0 := HCQ.out.2 hfar
   clear HCQ hfar
   go_wp2_with fail
   refine (qawake_at _ ht).mono ?_
   rintro e w49 ⟨rfl,b49⟩
   replace ht := ht.below b49
   replace Ia := Ia.below b49
   replace Ib := Ib.below b49
   replace Jx := Jx.below b49
   replace Jy := Jy.below b49
   replace VA := VA.below b49
   replace VB := VB.below b49
   replace VX := VX.below b49
   replace VY := VY.below b49
   replace BB := BB.trans (b49.mono BB.size)
   clear b49
   go_wp2
   go_ret
   exact ⟨rfl,BB⟩
  ·have hcc : ¬ cc > 0 := fun g => hfar (HCQ.out.1 g)
   clear HCQ
   obtain ⟨VA_0,VA_1,VA_2,VA_3,VA_4,VA_5⟩ := id VA
   obtain ⟨VB_0,VB_1,VB_2,VB_3,VB_4,VB_5⟩ := id VB
   go_wp2_with fail
   clear VA_0 VA_1 VA_2 VA_3 VA_4 VA_5 VB_0 VB_1 VB_2 VB_3 VB_4 VB_5
   refine (between_range _ _ a b 2 k _ Ia Ib HK.out).mono ?_
   rintro e w59 ⟨rfl,b59⟩
   replace ht := ht.below b59
   replace Ia := Ia.below b59
   replace Ib := Ib.below b59
   replace Jx := Jx.below b59
   replace Jy := Jy.below b59
   replace VA := VA.below b59
   replace VB := VB.below b59
   replace VX := VX.below b59
   replace VY := VY.below b59
   replace BB := BB.trans (b59.mono BB.size)
   clear b59
   go_wp2_with fail
   refine (qawake_at _ ht).mono ?_
   rintro e w60 ⟨rfl,b60⟩
   replace ht := ht.below b60
   replace Ia := Ia.below b60
   replace Ib := Ib.below b60
   replace Jx := Jx.below b60
   replace Jy := Jy.below b60
   replace VA := VA.below b60
   replace VB := VB.below b60
   replace VX := VX.below b60
   replace VY := VY.below b60
   replace BB := BB.trans (b60.mono BB.size)
   clear b60
   go_wp2
   go_ret
   exact ⟨rfl,BB⟩
 by_cases h3 : k < 1
 ·have c1 : ¬ (8 : Int) < k := by omega
  have HK : Hid (k < 1 ∨ 64 < k) := Or.inl h3
  generalize hcq : cmpQ (b + -a) (mkRat 20 1) = cc at *
  have hDr : Below W4.heap.size W4 W4.drew := (Below.refl _ _).drew
  replace ht := ht.below hDr
  replace Ia := Ia.below hDr
  replace Ib := Ib.below hDr
  replace Jx := Jx.below hDr
  replace Jy := Jy.below hDr
  replace VA := VA.below hDr
  replace VB := VB.below hDr
  replace VX := VX.below hDr
  replace VY := VY.below hDr
  replace BB := BB.trans (hDr.mono BB.size)
  clear hDr
  refine wp_region_held_drew (S := (fun w' => w'.cell? ⟨R3,0,none⟩ = some (.bool px) ∧ w'.cell? ⟨R3,1,none⟩ = some (.slice ax nx cx) ∧ w'.cell? ⟨R3,2,none⟩ = some (.slice bx_ mx dx) ∧ w'.cell? ⟨R4,0,none⟩ = some (.bool py) ∧ w'.cell? ⟨R4,1,none⟩ = some (.slice ay ny cy) ∧ w'.cell? ⟨R4,2,none⟩ = some (.slice b_y my dy))) (by kernel_rfl) ?_ (fun hHeld => ?_)
  ·exact ⟨VX.1,VX.2.1,VX.2.2.1,VY.1,VY.2.1,VY.2.2.1⟩
  generalize W4.drew = W85 at *
  refine xT 0 (v := ?_) (hy := Or.inl ⟨by rfl,?_⟩) (h := ?_)
  rotate_left
  ·(intro w hSw; (try dsimp only at hSw); go_simp; (try with_reducible rfl))
  (try simp only [Act.put,xL4,xL5,xL6])
  refine xT 1 (v := ?_) (hy := Or.inl ⟨by rfl,?_⟩) (h := ?_)
  rotate_left
  ·(intro w hSw; (try dsimp only at hSw); go_simp; (try with_reducible rfl))
  (try simp only [Act.put,xL4,xL5,xL6])
  refine xT 2 (v := ?_) (hy := Or.inl ⟨by rfl,?_⟩) (h := ?_)
  rotate_left
  ·(intro w hSw; (try dsimp only at hSw); go_simp; (try with_reducible rfl))
  (try simp only [Act.put,xL4,xL5,xL6])
  refine xT 3 (v := undef) (hy := Or.inr ⟨by rfl,rfl⟩) (h := ?_)
  (try simp only [Act.put,xL4,xL5,xL6])
  refine xT 4 (v := undef) (hy := Or.inr ⟨by rfl,rfl⟩) (h := ?_)
  (try simp only [Act.put,xL4,xL5,xL6])
  refine xT 5 (v := ?_) (hy := Or.inl ⟨by rfl,?_⟩) (h := ?_)
  rotate_left
  ·(intro w hSw; (try dsimp only at hSw); go_simp; (try with_reducible rfl))
  (try simp only [Act.put,xL4,xL5,xL6])
  refine xT 6 (v := ?_) (hy := Or.inl ⟨by rfl,?_⟩) (h := ?_)
  rotate_left
  ·(intro w hSw; (try dsimp only at hSw); go_simp; (try with_reducible rfl))
  (try simp only [Act.put,xL4,xL5,xL6])
  refine xT 7 (v := ?_) (hy := Or.inl ⟨by rfl,?_⟩) (h := ?_)
  rotate_left
  ·(intro w hSw; (try dsimp only at hSw); go_simp; (try with_reducible rfl))
  (try simp only [Act.put,xL4,xL5,xL6])
  refine xT 8 (v := ?_) (hy := Or.inl ⟨by rfl,?_⟩) (h := ?_)
  rotate_left
  ·(intro w hSw; (try dsimp only at hSw); go_simp; (try with_reducible rfl))
  (try simp only [Act.put,xL4,xL5,xL6])
  refine xR [9] (h := ?_)
  refine xN (h := fun K hK => ?_)
  go_simp
  refine (jminus_at _ a 2 _ Jx (by omega)).mono ?_
  rintro e w85 ⟨t1,rfl,h1,b85⟩
  go_wp2_with fail
  replace ht := ht.below b85
  replace Ia := Ia.below b85
  replace Ib := Ib.below b85
  replace Jx := Jx.below b85
  replace Jy := Jy.below b85
  replace VA := VA.below b85
  replace VB := VB.below b85
  replace VX := VX.below b85
  replace VY := VY.below b85
  replace BB := BB.trans (b85.mono BB.size)
  clear b85
  refine hK.out _ _ ?_ (fun hH1 => ?_)
  ·exact ⟨VX.1,VX.2.1,VX.2.2.1,VY.1,VY.2.1,VY.2.2.1⟩
  clear hK K hHeld
  (try simp only [Act.put,xL4,xL5,xL6])
  refine xR [10] (h := ?_)
  refine xN (h := fun K hK => ?_)
  go_simp
  refine (jplus_at _ _ b (-a) 2 2 _ Jy h1 (by omega)).mono ?_
  rintro e w86 ⟨t2,rfl,h2,b86⟩
  go_wp2_with fail
  replace ht := ht.below b86
  replace Ia := Ia.below b86
  replace Ib := Ib.below b86
  replace Jx := Jx.below b86
  replace Jy := Jy.below b86
  replace h1 := h1.below b86
  replace VA := VA.below b86
  replace VB := VB.below b86
  replace VX := VX.below b86
  replace VY := VY.below b86
  replace BB := BB.trans (b86.mono BB.size)
  clear b86
  refine hK.out _ _ ?_ (fun hH2 => ?_)
  ·exact ⟨VX.1,VX.2.1,VX.2.2.1,VY.1,VY.2.1,VY.2.2.1⟩
  clear hK K hH1
  (try simp only [Act.put,xL4,xL5,xL6])
  refine xR [11] (h := ?_)
  refine xN (h := fun K hK => ?_)
  go_simp
  refine (jsmall_at 20 1 _ (by omega) (by omega) (by omega) (by omega)).mono ?_
  rintro e w87 ⟨t3,rfl,h3,b87⟩
  go_wp2_with fail
  replace ht := ht.below b87
  replace Ia := Ia.below b87
  replace Ib := Ib.below b87
  replace Jx := Jx.below b87
  replace Jy := Jy.below b87
  replace h1 := h1.below b87
  replace h2 := h2.below b87
  replace VA := VA.below b87
  replace VB := VB.below b87
  replace VX := VX.below b87
  replace VY := VY.below b87
  replace BB := BB.trans (b87.mono BB.size)
  clear b87
  refine hK.out _ _ ?_ (fun hH3 => ?_)
  ·exact ⟨VX.1,VX.2.1,VX.2.2.1,VY.1,VY.2.1,VY.2.2.1⟩
  clear hK K hH2
  (try simp only [Act.put,xL4,xL5,xL6])
  refine xR [12] (h := ?_)
  refine xN (h := fun K hK => ?_)
  go_simp
  refine (jorder_at _ _ (b + -a) (mkRat 20 1) 5 2 _ h2 h3 (by omega)).mono ?_
  rintro e w88 ⟨rfl,b88⟩
  rw [hcq]
  go_wp2_with fail
  replace ht := ht.below b88
  replace Ia := Ia.below b88
  replace Ib := Ib.below b88
  replace Jx := Jx.below b88
  replace Jy := Jy.below b88
  replace h1 := h1.below b88
  replace h2 := h2.below b88
  replace h3 := h3.below b88
  replace VA := VA.below b88
  replace VB := VB.below b88
  replace VX := VX.below b88
  replace VY := VY.below b88
  replace BB := BB.trans (b88.mono BB.size)
  clear b88
  refine hK.out _ _ ?_ (fun hH4 => ?_)
  ·exact ⟨VX.1,VX.2.1,VX.2.2.1,VY.1,VY.2.1,VY.2.2.1⟩
  clear hK K hH3
  (try simp only [Act.put,xL4,xL5,xL6])
  refine xT 13 (v := ?_) (hy := Or.inl ⟨by rfl,?_⟩) (h := ?_)
  rotate_left
  ·(intro w hSw; (try dsimp only at hSw); go_simp; (try with_reducible rfl))
  (try simp only [Act.put,xL4,xL5,xL6])
  refine xT 14 (v := ?_) (hy := Or.inl ⟨by rfl,?_⟩) (h := ?_)
  rotate_left
  ·(intro w hSw; (try dsimp only at hSw); go_simp; (try with_reducible rfl))
  (try simp only [Act.put,xL4,xL5,xL6])
  refine wpAnyH_done (by kernel_rfl) ?_ _
  clear hH4
  clear h1 h2 h3
  clear hcq
  by_cases hfar : mkRat 20 1 < b + -a
  ·have hcc : cc > 0 := HCQ.out.2 hfar
   clear HCQ hfar
   go_wp2_with fail
   refine (qawake_at _ ht).mono ?_
   rintro e w89 ⟨rfl,b89⟩
   replace ht := ht.below b89
   replace Ia := Ia.below b89
   replace Ib := Ib.below b89
   replace Jx := Jx.below b89
   replace Jy := Jy.below b89
   replace VA := VA.below b89
   replace VB := VB.below b89
   replace VX := VX.below b89
   replace VY := VY.below b89
   replace BB := BB.trans (b89.mono BB.size)
   clear b89
   go_wp2
   go_ret
   exact ⟨rfl,BB⟩
  ·have hcc : ¬ cc > 0 := fun g => hfar (HCQ.out.1 g)
   clear HCQ
   obtain ⟨VA_0,VA_1,VA_2,VA_3,VA_4,VA_5⟩ := id VA
   obtain ⟨VB_0,VB_1,VB_2,VB_3,VB_4,VB_5⟩ := id VB
   go_wp2_with fail
   clear VA_0 VA_1 VA_2 VA_3 VA_4 VA_5 VB_0 VB_1 VB_2 VB_3 VB_4 VB_5
   refine (between_range _ _ a b 2 k _ Ia Ib HK.out).mono ?_
   rintro e w99 ⟨rfl,b99⟩
   replace ht := ht.below b99
   replace Ia := Ia.below b99
   replace Ib := Ib.below b99
   replace Jx := Jx.below b99
   replace Jy := Jy.below b99
   replace VA := VA.below b99
   replace VB := VB.below b99
   replace VX := VX.below b99
   replace VY := VY.below b99
   replace BB := BB.trans (b99.mono BB.size)
   clear b99
   go_wp2_with fail
   refine (qawake_at _ ht).mono ?_
   rintro e w100 ⟨rfl,b100⟩
   replace ht := ht.below b100
   replace Ia := Ia.below b100
   replace Ib := Ib.below b100
   replace Jx := Jx.below b100
   replace Jy := Jy.below b100
   replace VA := VA.below b100
   replace VB := VB.below b100
   replace VX := VX.below b100
   replace VY := VY.below b100
   replace BB := BB.trans (b100.mono BB.size)
   clear b100
   go_wp2
   go_ret
   exact ⟨rfl,BB⟩
 ·obtain ⟨M,rfl⟩ : ∃ M : Nat,k = (M : Int) := ⟨k.toNat,by omega⟩
  have c1 : ¬ (8 : Int) < (M : Int) := by omega
  have c2 : ¬ (M : Int) < 1 := by omega
  have c3 : ¬ (64 : Int) < (M : Int) := by omega
  have hM1 : 1 ≤ M := by omega
  have hM8 : M ≤ 8 := by omega
  generalize hcq : cmpQ (b + -a) (mkRat 20 1) = cc at *
  have hDr : Below W4.heap.size W4 W4.drew := (Below.refl _ _).drew
  replace ht := ht.below hDr
  replace Ia := Ia.below hDr
  replace Ib := Ib.below hDr
  replace Jx := Jx.below hDr
  replace Jy := Jy.below hDr
  replace VA := VA.below hDr
  replace VB := VB.below hDr
  replace VX := VX.below hDr
  replace VY := VY.below hDr
  replace BB := BB.trans (hDr.mono BB.size)
  clear hDr
  refine wp_region_held_drew (S := (fun w' => w'.cell? ⟨R3,0,none⟩ = some (.bool px) ∧ w'.cell? ⟨R3,1,none⟩ = some (.slice ax nx cx) ∧ w'.cell? ⟨R3,2,none⟩ = some (.slice bx_ mx dx) ∧ w'.cell? ⟨R4,0,none⟩ = some (.bool py) ∧ w'.cell? ⟨R4,1,none⟩ = some (.slice ay ny cy) ∧ w'.cell? ⟨R4,2,none⟩ = some (.slice b_y my dy))) (by kernel_rfl) ?_ (fun hHeld => ?_)
  ·exact ⟨VX.1,VX.2.1,VX.2.2.1,VY.1,VY.2.1,VY.2.2.1⟩
  generalize W4.drew = W125 at *
  refine xT 0 (v := ?_) (hy := Or.inl ⟨by rfl,?_⟩) (h := ?_)
  rotate_left
  ·(intro w hSw; (try dsimp only at hSw); go_simp; (try with_reducible rfl))
  (try simp only [Act.put,xL4,xL5,xL6])
  refine xT 1 (v := ?_) (hy := Or.inl ⟨by rfl,?_⟩) (h := ?_)
  rotate_left
  ·(intro w hSw; (try dsimp only at hSw); go_simp; (try with_reducible rfl))
  (try simp only [Act.put,xL4,xL5,xL6])
  refine xT 2 (v := ?_) (hy := Or.inl ⟨by rfl,?_⟩) (h := ?_)
  rotate_left
  ·(intro w hSw; (try dsimp only at hSw); go_simp; (try with_reducible rfl))
  (try simp only [Act.put,xL4,xL5,xL6])
  refine xT 3 (v := undef) (hy := Or.inr ⟨by rfl,rfl⟩) (h := ?_)
  (try simp only [Act.put,xL4,xL5,xL6])
  refine xT 4 (v := undef) (hy := Or.inr ⟨by rfl,rfl⟩) (h := ?_)
  (try simp only [Act.put,xL4,xL5,xL6])
  refine xT 5 (v := ?_) (hy := Or.inl ⟨by rfl,?_⟩) (h := ?_)
  rotate_left
  ·(intro w hSw; (try dsimp only at hSw); go_simp; (try with_reducible rfl))
  (try simp only [Act.put,xL4,xL5,xL6])
  refine xT 6 (v := ?_) (hy := Or.inl ⟨by rfl,?_⟩) (h := ?_)
  rotate_left
  ·(intro w hSw; (try dsimp only at hSw); go_simp; (try with_reducible rfl))
  (try simp only [Act.put,xL4,xL5,xL6])
  refine xT 7 (v := ?_) (hy := Or.inl ⟨by rfl,?_⟩) (h := ?_)
  rotate_left
  ·(intro w hSw; (try dsimp only at hSw); go_simp; (try with_reducible rfl))
  (try simp only [Act.put,xL4,xL5,xL6])
  refine xT 8 (v := ?_) (hy := Or.inl ⟨by rfl,?_⟩) (h := ?_)
  rotate_left
  ·(intro w hSw; (try dsimp only at hSw); go_simp; (try with_reducible rfl))
  (try simp only [Act.put,xL4,xL5,xL6])
  refine xR [9] (h := ?_)
  refine xN (h := fun K hK => ?_)
  go_simp
  refine (jminus_at _ a 2 _ Jx (by omega)).mono ?_
  rintro e w125 ⟨t1,rfl,h1,b125⟩
  go_wp2_with fail
  replace ht := ht.below b125
  replace Ia := Ia.below b125
  replace Ib := Ib.below b125
  replace Jx := Jx.below b125
  replace Jy := Jy.below b125
  replace VA := VA.below b125
  replace VB := VB.below b125
  replace VX := VX.below b125
  replace VY := VY.below b125
  replace BB := BB.trans (b125.mono BB.size)
  clear b125
  refine hK.out _ _ ?_ (fun hH1 => ?_)
  ·exact ⟨VX.1,VX.2.1,VX.2.2.1,VY.1,VY.2.1,VY.2.2.1⟩
  clear hK K hHeld
  (try simp only [Act.put,xL4,xL5,xL6])
  refine xR [10] (h := ?_)
  refine xN (h := fun K hK => ?_)
  go_simp
  refine (jplus_at _ _ b (-a) 2 2 _ Jy h1 (by omega)).mono ?_
  rintro e w126 ⟨t2,rfl,h2,b126⟩
  go_wp2_with fail
  replace ht := ht.below b126
  replace Ia := Ia.below b126
  replace Ib := Ib.below b126
  replace Jx := Jx.below b126
  replace Jy := Jy.below b126
  replace h1 := h1.below b126
  replace VA := VA.below b126
  replace VB := VB.below b126
  replace VX := VX.below b126
  replace VY := VY.below b126
  replace BB := BB.trans (b126.mono BB.size)
  clear b126
  refine hK.out _ _ ?_ (fun hH2 => ?_)
  ·exact ⟨VX.1,VX.2.1,VX.2.2.1,VY.1,VY.2.1,VY.2.2.1⟩
  clear hK K hH1
  (try simp only [Act.put,xL4,xL5,xL6])
  refine xR [11] (h := ?_)
  refine xN (h := fun K hK => ?_)
  go_simp
  refine (jsmall_at 20 1 _ (by omega) (by omega) (by omega) (by omega)).mono ?_
  rintro e w127 ⟨t3,rfl,h3,b127⟩
  go_wp2_with fail
  replace ht := ht.below b127
  replace Ia := Ia.below b127
  replace Ib := Ib.below b127
  replace Jx := Jx.below b127
  replace Jy := Jy.below b127
  replace h1 := h1.below b127
  replace h2 := h2.below b127
  replace VA := VA.below b127
  replace VB := VB.below b127
  replace VX := VX.below b127
  replace VY := VY.below b127
  replace BB := BB.trans (b127.mono BB.size)
  clear b127
  refine hK.out _ _ ?_ (fun hH3 => ?_)
  ·exact ⟨VX.1,VX.2.1,VX.2.2.1,VY.1,VY.2.1,VY.2.2.1⟩
  clear hK K hH2
  (try simp only [Act.put,xL4,xL5,xL6])
  refine xR [12] (h := ?_)
  refine xN (h := fun K hK => ?_)
  go_simp
  refine (jorder_at _ _ (b + -a) (mkRat 20 1) 5 2 _ h2 h3 (by omega)).mono ?_
  rintro e w128 ⟨rfl,b128⟩
  rw [hcq]
  go_wp2_with fail
  replace ht := ht.below b128
  replace Ia := Ia.below b128
  replace Ib := Ib.below b128
  replace Jx := Jx.below b128
  replace Jy := Jy.below b128
  replace h1 := h1.below b128
  replace h2 := h2.below b128
  replace h3 := h3.below b128
  replace VA := VA.below b128
  replace VB := VB.below b128
  replace VX := VX.below b128
  replace VY := VY.below b128
  replace BB := BB.trans (b128.mono BB.size)
  clear b128
  refine hK.out _ _ ?_ (fun hH4 => ?_)
  ·exact ⟨VX.1,VX.2.1,VX.2.2.1,VY.1,VY.2.1,VY.2.2.1⟩
  clear hK K hH3
  (try simp only [Act.put,xL4,xL5,xL6])
  refine xT 13 (v := ?_) (hy := Or.inl ⟨by rfl,?_⟩) (h := ?_)
  rotate_left
  ·(intro w hSw; (try dsimp only at hSw); go_simp; (try with_reducible rfl))
  (try simp only [Act.put,xL4,xL5,xL6])
  refine xT 14 (v := ?_) (hy := Or.inl ⟨by rfl,?_⟩) (h := ?_)
  rotate_left
  ·(intro w hSw; (try dsimp only at hSw); go_simp; (try with_reducible rfl))
  (try simp only [Act.put,xL4,xL5,xL6])
  refine wpAnyH_done (by kernel_rfl) ?_ _
  clear hH4
  clear h1 h2 h3
  clear hcq
  by_cases hfar : mkRat 20 1 < b + -a
  ·have hcc : cc > 0 := HCQ.out.2 hfar
   clear HCQ hfar
   go_wp2_with fail
   refine (qawake_at _ ht).mono ?_
   rintro e w129 ⟨rfl,b129⟩
   replace ht := ht.below b129
   replace Ia := Ia.below b129
   replace Ib := Ib.below b129
   replace Jx := Jx.below b129
   replace Jy := Jy.below b129
   replace VA := VA.below b129
   replace VB := VB.below b129
   replace VX := VX.below b129
   replace VY := VY.below b129
   replace BB := BB.trans (b129.mono BB.size)
   clear b129
   go_wp2
   go_ret
   exact ⟨rfl,BB⟩
  ·have hcc : ¬ cc > 0 := fun g => hfar (HCQ.out.1 g)
   clear HCQ
   have hba : b + -a ≤ 20 := by
    have := Rat.not_lt.1 hfar
    rw [show mkRat 20 1 = (20 : Rat) by decide +kernel] at this
    exact this
   clear hfar
   obtain ⟨F,HF⟩ : ∃ F : Int,Hid (a.floor = F) := ⟨_,rfl⟩
   obtain ⟨S,HS⟩ : ∃ S : Rat,Hid (a - (F : Rat) = S) := ⟨_,rfl⟩
   have hFa : a < (F : Rat) + 1 := by rw [← HF.out]; exact (floor_twoB a).2
   have sF : qsz ((F : Int) : Rat) ≤ 3 := by
    have := qsz_floorB a sa
    rw [HF.out] at this
    exact qsz_int _ this (by omega)
   obtain ⟨fA,fC,fD,fE,hab⟩ : ∃ A C D E,aboutN S M (M + 1) 0 1 1 1 = (A,C,D,E) := ⟨_,_,_,_,rfl⟩
   have hsd : Sides S M fA fC fD fE ∧ fA ≤ fC ∧ fD ≤ fE := by
    rw [← HS.out,← HF.out] at hab ⊢
    exact sides_aboutB a M hM1 fA fC fD fE hab
   obtain ⟨VA_0,VA_1,VA_2,VA_3,VA_4,VA_5⟩ := id VA
   obtain ⟨VB_0,VB_1,VB_2,VB_3,VB_4,VB_5⟩ := id VB
   go_wp2_with fail
   clear VA_0 VA_1 VA_2 VA_3 VA_4 VA_5 VB_0 VB_1 VB_2 VB_3 VB_4 VB_5
   refine (between_any _ _ a b 2 M F S _ Ia Ib ht (by omega) (by omega) hM1 hM8 HF HS hFa hba fA fC fD fE hab hsd.1 hsd.2.1 hsd.2.2).mono ?_
   rintro e w139 ⟨vl,ml,sv,rfl,hst,FR,hend,hle,hm721,b139⟩
   replace ht := ht.below b139
   replace Ia := Ia.below b139
   replace Ib := Ib.below b139
   replace Jx := Jx.below b139
   replace Jy := Jy.below b139
   replace VA := VA.below b139
   replace VB := VB.below b139
   replace VX := VX.below b139
   replace VY := VY.below b139
   replace BB := BB.trans (b139.mono BB.size)
   clear b139
   have HG : Hid (BetGood a b M ml (fun j => bx F (bst M sv j))) := bet_good hst hend hle hM8 hFa hba sF
   generalize (fun j => bx F (bst M sv j)) = X at *
   clear hst hend hle hsd hab HF HS hFa sF
   obtain ⟨al,cl,rfl⟩ := FR.open
   replace FR := FR.ffar
   go_wp2
   clear Ia Ib
   clear VA VB
   refine wp_region_until 4 #[true,true,true,true,false] (fun aF lsd a' w' => ∃ vu0 vu1 vu2 vu3 : Value,a' = (((aF.put (some 66) vu0).put (some 67) vu1).put (some 68) vu2).put (some 11) vu3 ∧ Below w139.heap.size w139 w' ∧ (lsd.getD 0 false = true → vu0 = .agg #[.bool px,.slice ax nx cx,.slice bx_ mx dx]) ∧ (lsd.getD 1 false = true → DocQ w' vu1 (mkRat (-1) 1) 2) ∧ (lsd.getD 2 false = true → DocQ w' vu2 (a + mkRat (-1) 1) 5) ∧ (lsd.getD 3 false = true → New3 w139.heap.size w' vu3 (.bool false) (.slice none 0 0) (.slice none 0 0))) (by kernel_rfl) (by decide) (by kernel_rfl) (by rfl) (by kernel_rfl) ?_ ?_ ?_
   ·exact ⟨_,_,_,_,by simp only [Act.put,xL4,xL5,xL6]; rfl,(Below.refl _ _).drew,fun h => absurd h (fun h => mark_none h),fun h => absurd h (fun h => mark_none h),fun h => absurd h (fun h => mark_none h),fun h => absurd h (fun h => mark_none h)⟩
   ·rintro lsd au wn iu hszu ⟨vu0,vu1,vu2,vu3,rfl,hbu,fu0,fu1,fu2,fu3⟩ himu hru
    rcases (show iu = 0 ∨ iu = 1 ∨ iu = 2 ∨ iu = 3 by omega) with rfl | rfl | rfl | rfl
    ·refine wpOp_shut (by rfl) (fun K hK => ?_)
     simp only [Act.put,xL4,xL5,xL6]
     obtain ⟨VX_0,VX_1,VX_2,VX_3,VX_4,VX_5⟩ := VX.below hbu
     go_simp
     exact hK.out _ _ ⟨(.agg #[.bool px,.slice ax nx cx,.slice bx_ mx dx]),vu1,vu2,vu3,by simp only [Act.put,xL4,xL5,xL6],hbu,fun _ => rfl,fun h => fu1 (mark_of (by decide) h),fun h => fu2 (mark_of (by decide) h),fun h => fu3 (mark_of (by decide) h)⟩
    ·refine wpOp_shut (by rfl) (fun K hK => ?_)
     simp only [Act.put,xL4,xL5,xL6]
     go_simp
     refine (jsmall_at (-1) 1 _ (by omega) (by omega) (by omega) (by omega)).mono ?_
     rintro eu wx ⟨t1,rfl,h1,bu⟩
     go_wp2_with fail
     have hbu2 := hbu.trans (bu.mono hbu.size)
     exact hK.out _ _ ⟨vu0,_,vu2,vu3,by simp only [Act.put,xL4,xL5,xL6],hbu2,fun h => fu0 (mark_of (by decide) h),fun _ => h1,fun h => (fu2 (mark_of (by decide) h)).below bu,fun h => (fu3 (mark_of (by decide) h)).below bu⟩
    ·have eu0 := fu0 (dep_of 0 hru rfl (by kernel_rfl))
     replace eu0 := eu0.symm
     subst eu0
     have h1 := fu1 (dep_of 1 hru rfl (by kernel_rfl))
     refine wpOp_shut (by rfl) (fun K hK => ?_)
     simp only [Act.put,xL4,xL5,xL6]
     have Jx := Jx.below hbu
     go_simp
     refine (jplus_at _ _ a (mkRat (-1) 1) 2 2 _ Jx h1 (by omega)).mono ?_
     rintro eu wx ⟨t2,rfl,Jt,bu⟩
     go_wp2_with fail
     have hbu2 := hbu.trans (bu.mono hbu.size)
     exact hK.out _ _ ⟨(.agg #[.bool px,.slice ax nx cx,.slice bx_ mx dx]),vu1,_,vu3,by simp only [Act.put,xL4,xL5,xL6],hbu2,fun _ => rfl,fun h => (fu1 (mark_of (by decide) h)).below bu,fun _ => Jt,fun h => (fu3 (mark_of (by decide) h)).below bu⟩
    ·refine wpOp_shut (by rfl) (fun K hK => ?_)
     simp only [Act.put,xL4,xL5,xL6]
     go_simp
     obtain ⟨wx,hWx,hSx,bu,VXu⟩ := V3.lay wn 35 (.bool false) (.slice none 0 0) (.slice none 0 0)
     rw [← hWx]
     have hbu2 := hbu.trans (bu.mono hbu.size)
     exact hK.out _ _ ⟨vu0,vu1,vu2,_,by simp only [Act.put,xL4,xL5,xL6],hbu2,fun h => fu0 (mark_of (by decide) h),fun h => (fu1 (mark_of (by decide) h)).below bu,fun h => (fu2 (mark_of (by decide) h)).below bu,fun _ => ⟨_,rfl,hbu.size,VXu⟩⟩
   rintro au Wu136 ⟨vu0,vu1,vu2,vu3,rfl,hbu,fu0,fu1,fu2,fu3⟩
   have eu0 := (fu0 rfl).symm
   subst eu0
   have h1 := fu1 rfl
   have Jt := fu2 rfl
   obtain ⟨RVt,rfl,hRVt,Vt⟩ := fu3 rfl
   clear fu0 fu1 fu2 fu3
   have hlVX : R3 < w139.heap.size := VX.lt
   have hlVY : R4 < w139.heap.size := VY.lt
   obtain ⟨px_,ax_,nx_,cx_,bx0,mx_,dx_,rfl⟩ := Jt.open
   simp only [Act.put,xL4,xL5,xL6]
   refine xR [4] (h := ?_)
   refine AllReadyH.cons (by rfl) (fun K hK => ?_) AllReadyH.nil
   have hKp := Vt.keepJ (.bool px_) (.slice ax_ nx_ cx_) (.slice bx0 mx_ dx_)
   have Vt_n := Vt.same (.bool px_) (.slice ax_ nx_ cx_) (.slice bx0 mx_ dx_)
   have h1_n := h1.keep hKp
   have Jt_n := Jt.keep hKp
   have hbu_n := below_store3 (R := RVt) hbu (by omega) (.bool px_) (.slice ax_ nx_ cx_) (.slice bx0 mx_ dx_)
   clear hKp
   obtain ⟨Vt_0,Vt_1,Vt_2,Vt_3,Vt_4,Vt_5⟩ := id Vt
   go_simp
   clear Vt_0 Vt_1 Vt_2 Vt_3 Vt_4 Vt_5
   clear hbu h1 Jt Vt
   generalize ((Wu136.setCell ⟨RVt,0,none⟩ (.bool px_)).setCell ⟨RVt,1,none⟩ (.slice ax_ nx_ cx_)).setCell ⟨RVt,2,none⟩ (.slice bx0 mx_ dx_) = W137 at *
   have hbu := hbu_n
   have h1 := h1_n
   have Jt := Jt_n
   have Vt := Vt_n
   clear hbu_n h1_n Jt_n Vt_n
   refine hK.out _ _ trivial (fun _ => ?_)
   clear hK K
   simp only [Act.put,xL4,xL5,xL6]
   replace ht := ht.below hbu
   replace Jx := Jx.below hbu
   replace Jy := Jy.below hbu
   replace FR := FR.below hbu
   replace VX := VX.below hbu
   replace VY := VY.below hbu
   replace BB := BB.trans (hbu.mono BB.size)
   clear hbu
   refine wpAnyH_done (by kernel_rfl) ?_ _
   clear h1
   go_wp2
   go_loopw [13] (fun vi wr => ∃ (i : Nat) (pt : Bool) (at_ : Option Addr) (nt ct : Nat) (bt : Option Addr) (mt dt : Nat),i ≤ ml ∧ vi = .int .i64 (i : Int) ∧ V3 wr RVt (.bool pt) (.slice at_ nt ct) (.slice bt mt dt) ∧ DocQ wr (.agg #[.bool pt,.slice at_ nt ct,.slice bt mt dt]) (lastQ a X i) 6 ∧ V3 wr R3 (.bool px) (.slice ax nx cx) (.slice bx_ mx dx) ∧ V3 wr R4 (.bool py) (.slice ay ny cy) (.slice b_y my dy) ∧ DocQ wr (.agg #[.bool px,.slice ax nx cx,.slice bx_ mx dx]) a 2 ∧ DocQ wr (.agg #[.bool py,.slice ay ny cy,.slice b_y my dy]) b 2 ∧ FFar w139.heap.size wr (.slice al ml cl) ml X ∧ Tab wr ∧ Below w.heap.size w wr) (fun vi _ => (722 - intOf vi).toNat)
   case atStart => exact ⟨0,px_,ax_,nx_,cx_,bx0,mx_,dx_,by omega,rfl,Vt,Jt.le (by omega),VX,VY,Jx,Jy,FR,ht,BB⟩
   case round =>
    clear Vt Jt VX VY Jx Jy FR ht BB
    obtain ⟨i,pt,at_,nt,ct,bt,mt,dt,him,rfl,Vt,Jt,VX,VY,Jx,Jy,FR,ht,BB⟩ := hrel
    by_cases hlt : i < ml
    ·have c3 : (i : Int) < (ml : Int) := by omega
     have i0 : (0 : Int) ≤ (i : Int) := by omega
     have xs := last_sz HG.out i hlt
     have q0 : ¬ cmpQ (X i) (lastQ a X i) ≤ 0 := fun h => absurd (last_lt HG.out i hlt) (Rat.not_lt.2 (of_decide_eq_true ((cmpQ_le _ _).symm.trans (decide_eq_true h))))
     have q1 : ¬ cmpQ (X i) a < 0 := fun h => absurd ((cmpQ_belowB _ _).1 h) (Rat.not_lt.2 (HG.out.1 i hlt).1)
     have q2 : ¬ cmpQ (X i) b > 0 := cmpQ_not_gt (HG.out.1 i hlt).2.1
     have q3 : ¬ cmpI ((X i).den : Int) (M : Int) > 0 := by
      have := (HG.out.1 i hlt).2.2.1
      unfold cmpI; split
      ·omega
      ·split <;> omega
     obtain ⟨eb,eo,ec,s1,ao1,l1,d1,bo1,k1,e1,hvv,hcc2,XC,Hi⟩ := FR.1.at i hlt
     cases hvv
     have HLA : Hid (lastQ a X (i + 1) = X i) := rfl
     generalize hxi : X i = xi at *
     have HXI : Hid (X i = xi) := hxi
     clear hxi
     generalize hla : lastQ a X i = la at *
     clear hla
     obtain ⟨_,HX⟩ := Hi.parts
     obtain ⟨XC_0,XC_1,XC_2⟩ := id XC
     go_wp2_with fail
     clear XC_0 XC_1 XC_2
     refine (jfrom_at _ xi 6 _ (Hi.at 6 xs) (by omega) (by omega)).mono ?_
     rintro e w140 ⟨vz,rfl,Jz,b140⟩
     replace Jt := Jt.below b140
     replace Jx := Jx.below b140
     replace Jy := Jy.below b140
     replace FR := FR.below b140
     replace ht := ht.below b140
     replace Hi := Hi.below b140
     replace HX := HX.below b140
     replace Vt := Vt.below b140
     replace VX := VX.below b140
     replace VY := VY.below b140
     replace XC := XC.below b140
     replace BB := BB.trans (b140.mono BB.size)
     clear b140
     obtain ⟨pz,az,nz,cz,bz,mz,dz,rfl⟩ := Jz.open
     generalize hg0 : cmpQ xi la = cd0 at *
     generalize hg1 : cmpQ xi a = cd1 at *
     generalize hg2 : cmpQ xi b = cd2 at *
     generalize hg3 : cmpI (xi.den : Int) (M : Int) = cd3 at *
     have hZ138 : w.heap.size ≤ w140.heap.size := BB.size
     have hN138Vt : RVt ≠ w140.heap.size := Nat.ne_of_lt Vt.lt
     have hN138VX : R3 ≠ w140.heap.size := Nat.ne_of_lt VX.lt
     have hN138VY : R4 ≠ w140.heap.size := Nat.ne_of_lt VY.lt
     have hN138XC : eb ≠ w140.heap.size := Nat.ne_of_lt XC.lt
     obtain ⟨W138,hW138,hS138,hL138,VZ⟩ := V3.lay w140 35 (.bool pz) (.slice az nz cz) (.slice bz mz dz)
     replace Jt := Jt.below hL138
     replace Jx := Jx.below hL138
     replace Jy := Jy.below hL138
     replace FR := FR.below hL138
     replace ht := ht.below hL138
     replace Hi := Hi.below hL138
     replace HX := HX.below hL138
     replace Jz := Jz.below hL138
     replace Vt := Vt.below hL138
     replace VX := VX.below hL138
     replace VY := VY.below hL138
     replace XC := XC.below hL138
     replace BB := BB.trans (hL138.mono BB.size)
     clear hL138
     obtain ⟨XC_0,XC_1,XC_2⟩ := id XC
     rw [hW138] at XC_0 XC_1 XC_2
     go_wp2_with fail
     clear XC_0 XC_1 XC_2
     rw [← hW138]
     generalize w140.heap.size = R138 at *
     clear hW138 hS138
     refine (jright_rep _ xi 6 _ Hi xs (by omega)).mono ?_
     rintro e w141 ⟨rfl,b141⟩
     replace Jt := Jt.below b141
     replace Jx := Jx.below b141
     replace Jy := Jy.below b141
     replace FR := FR.below b141
     replace ht := ht.below b141
     replace Hi := Hi.below b141
     replace HX := HX.below b141
     replace Jz := Jz.below b141
     replace Vt := Vt.below b141
     replace VX := VX.below b141
     replace VY := VY.below b141
     replace XC := XC.below b141
     replace VZ := VZ.below b141
     replace BB := BB.trans (b141.mono BB.size)
     clear b141
     obtain ⟨VZ_0,VZ_1,VZ_2,VZ_3,VZ_4,VZ_5⟩ := id VZ
     obtain ⟨Vt_0,Vt_1,Vt_2,Vt_3,Vt_4,Vt_5⟩ := id Vt
     go_wp2_with fail
     clear VZ_0 VZ_1 VZ_2 VZ_3 VZ_4 VZ_5 Vt_0 Vt_1 Vt_2 Vt_3 Vt_4 Vt_5
     refine (jorder_at _ _ xi la 6 6 _ Jz Jt (by omega)).mono ?_
     rintro e w142 ⟨rfl,b142⟩
     replace Jt := Jt.below b142
     replace Jx := Jx.below b142
     replace Jy := Jy.below b142
     replace FR := FR.below b142
     replace ht := ht.below b142
     replace Hi := Hi.below b142
     replace HX := HX.below b142
     replace Jz := Jz.below b142
     replace Vt := Vt.below b142
     replace VX := VX.below b142
     replace VY := VY.below b142
     replace XC := XC.below b142
     replace VZ := VZ.below b142
     replace BB := BB.trans (b142.mono BB.size)
     clear b142
     rw [hg0]
     clear hg0
     obtain ⟨VZ_0,VZ_1,VZ_2,VZ_3,VZ_4,VZ_5⟩ := id VZ
     obtain ⟨VX_0,VX_1,VX_2,VX_3,VX_4,VX_5⟩ := id VX
     go_wp2_with fail
     clear VZ_0 VZ_1 VZ_2 VZ_3 VZ_4 VZ_5 VX_0 VX_1 VX_2 VX_3 VX_4 VX_5
     refine (jorder_at _ _ xi a 6 2 _ Jz Jx (by omega)).mono ?_
     rintro e w143 ⟨rfl,b143⟩
     replace Jt := Jt.below b143
     replace Jx := Jx.below b143
     replace Jy := Jy.below b143
     replace FR := FR.below b143
     replace ht := ht.below b143
     replace Hi := Hi.below b143
     replace HX := HX.below b143
     replace Jz := Jz.below b143
     replace Vt := Vt.below b143
     replace VX := VX.below b143
     replace VY := VY.below b143
     replace XC := XC.below b143
     replace VZ := VZ.below b143
     replace BB := BB.trans (b143.mono BB.size)
     clear b143
     rw [hg1]
     clear hg1
     obtain ⟨VZ_0,VZ_1,VZ_2,VZ_3,VZ_4,VZ_5⟩ := id VZ
     obtain ⟨VY_0,VY_1,VY_2,VY_3,VY_4,VY_5⟩ := id VY
     go_wp2_with fail
     clear VZ_0 VZ_1 VZ_2 VZ_3 VZ_4 VZ_5 VY_0 VY_1 VY_2 VY_3 VY_4 VY_5
     refine (jorder_at _ _ xi b 6 2 _ Jz Jy (by omega)).mono ?_
     rintro e w144 ⟨rfl,b144⟩
     replace Jt := Jt.below b144
     replace Jx := Jx.below b144
     replace Jy := Jy.below b144
     replace FR := FR.below b144
     replace ht := ht.below b144
     replace Hi := Hi.below b144
     replace HX := HX.below b144
     replace Jz := Jz.below b144
     replace Vt := Vt.below b144
     replace VX := VX.below b144
     replace VY := VY.below b144
     replace XC := XC.below b144
     replace VZ := VZ.below b144
     replace BB := BB.trans (b144.mono BB.size)
     clear b144
     rw [hg2]
     clear hg2
     obtain ⟨XC_0,XC_1,XC_2⟩ := id XC
     go_wp2_with fail
     clear XC_0 XC_1 XC_2
     refine (nfrom_at _ xi.den 6 _ (HX.at 6 (Nat.le_trans (qsz_den xi) xs)) (by omega)).mono ?_
     rintro e w145 ⟨v1,rfl,D1,b145⟩
     replace Jt := Jt.below b145
     replace Jx := Jx.below b145
     replace Jy := Jy.below b145
     replace FR := FR.below b145
     replace ht := ht.below b145
     replace Hi := Hi.below b145
     replace HX := HX.below b145
     replace Jz := Jz.below b145
     replace Vt := Vt.below b145
     replace VX := VX.below b145
     replace VY := VY.below b145
     replace XC := XC.below b145
     replace VZ := VZ.below b145
     replace BB := BB.trans (b145.mono BB.size)
     clear b145
     go_wp2_with fail
     refine (small_any M _ (by omega)).mono ?_
     rintro e w146 ⟨v2,rfl,D2,b146⟩
     replace Jt := Jt.below b146
     replace Jx := Jx.below b146
     replace Jy := Jy.below b146
     replace FR := FR.below b146
     replace ht := ht.below b146
     replace Hi := Hi.below b146
     replace HX := HX.below b146
     replace Jz := Jz.below b146
     replace D1 := D1.below b146
     replace Vt := Vt.below b146
     replace VX := VX.below b146
     replace VY := VY.below b146
     replace XC := XC.below b146
     replace VZ := VZ.below b146
     replace BB := BB.trans (b146.mono BB.size)
     clear b146
     go_wp2_with fail
     refine (order_any _ _ xi.den M _ D1 D2).mono ?_
     rintro e w147 ⟨rfl,b147⟩
     replace Jt := Jt.below b147
     replace Jx := Jx.below b147
     replace Jy := Jy.below b147
     replace FR := FR.below b147
     replace ht := ht.below b147
     replace Hi := Hi.below b147
     replace HX := HX.below b147
     replace Jz := Jz.below b147
     replace D1 := D1.below b147
     replace D2 := D2.below b147
     replace Vt := Vt.below b147
     replace VX := VX.below b147
     replace VY := VY.below b147
     replace XC := XC.below b147
     replace VZ := VZ.below b147
     replace BB := BB.trans (b147.mono BB.size)
     clear b147
     rw [hg3]
     clear hg3
     clear D1 D2 Hi HX XC
     obtain ⟨i0_,i1_,i2_,i3_,i4_,i5_⟩ := id VZ
     have hKp := Vt.keepJ (.bool pz) (.slice az nz cz) (.slice bz mz dz)
     have VX_n := VX.other3 (R := RVt) (by omega) (.bool pz) (.slice az nz cz) (.slice bz mz dz)
     have VY_n := VY.other3 (R := RVt) (by omega) (.bool pz) (.slice az nz cz) (.slice bz mz dz)
     have VZ_n := VZ.other3 (R := RVt) (by omega) (.bool pz) (.slice az nz cz) (.slice bz mz dz)
     have Vt_n := Vt.same (.bool pz) (.slice az nz cz) (.slice bz mz dz)
     have Jt_n := Jt.keep hKp
     have Jx_n := Jx.keep hKp
     have Jy_n := Jy.keep hKp
     have FR_n := FR.other (grown_set3 w147 (RVt) (.bool pz) (.slice az nz cz) (.slice bz mz dz)) hKp (fun g hg => by cases hg; omega)
     have ht_n := ht.keep hKp
     have Jz_n := Jz.keep hKp
     have BB_n := below_store3 (R := RVt) BB (by omega) (.bool pz) (.slice az nz cz) (.slice bz mz dz)
     clear hKp
     obtain ⟨Vt_0,Vt_1,Vt_2,Vt_3,Vt_4,Vt_5⟩ := id Vt
     go_wp2
     clear Vt_0 Vt_1 Vt_2 Vt_3 Vt_4 Vt_5
     clear BB Jt Jx Jy FR ht Jz Vt VX VY VZ
     generalize ((w147.setCell ⟨RVt,0,none⟩ (.bool pz)).setCell ⟨RVt,1,none⟩ (.slice az nz cz)).setCell ⟨RVt,2,none⟩ (.slice bz mz dz) = W139 at *
     have BB := BB_n
     have Jt := Jt_n
     have Jx := Jx_n
     have Jy := Jy_n
     have FR := FR_n
     have ht := ht_n
     have Jz := Jz_n
     have Vt := Vt_n
     have VX := VX_n
     have VY := VY_n
     have VZ := VZ_n
     clear BB_n Jt_n Jx_n Jy_n FR_n ht_n Jz_n Vt_n VX_n VY_n VZ_n
     clear i0_ i1_ i2_ i3_ i4_ i5_
     go_roundw
     case rel => exact ⟨i + 1,pz,az,nz,cz,bz,mz,dz,by omega,by go_num,Vt,by rw [HLA.out]; exact Jz,VX,VY,Jx,Jy,FR,ht,BB⟩
     case measure => simp [intOf]; omega
    ·obtain rfl : i = ml := by omega
     have c3 : ¬ (i : Int) < (i : Int) := by omega
     clear Vt Jt FR
     have HU : Hid (upto_ a b M = i) := HG.out.2.2
     clear HG
     go_wp2
     go_loopw [12,15] (fun vc vd wr => ∃ (d T : Nat),d ≤ M ∧ T ≤ 200 * d ∧ vd = .int .i64 ((d + 1 : Nat) : Int) ∧ vc = .int .i64 (T : Int) ∧ Hid (tot (fd a b) d = T) ∧ V3 wr R3 (.bool px) (.slice ax nx cx) (.slice bx_ mx dx) ∧ V3 wr R4 (.bool py) (.slice ay ny cy) (.slice b_y my dy) ∧ DocQ wr (.agg #[.bool px,.slice ax nx cx,.slice bx_ mx dx]) a 2 ∧ DocQ wr (.agg #[.bool py,.slice ay ny cy,.slice b_y my dy]) b 2 ∧ Tab wr ∧ Below w.heap.size w wr) (fun _ vd _ => (10 - intOf vd).toNat)
     case atStart => exact ⟨0,0,by omega,by omega,rfl,rfl,rfl,VX,VY,Jx,Jy,ht,BB⟩
     case round =>
      clear VX VY Jx Jy ht BB
      obtain ⟨d_,T,hdM,hT,rfl,rfl,HT,VX,VY,Jx,Jy,ht,BB⟩ := hrel
      by_cases hlt2 : d_ < M
      ·obtain ⟨dd,hdd⟩ : ∃ dd,dd = d_ + 1 := ⟨_,rfl⟩
       have HDD : Hid (dd = d_ + 1) := hdd
       have hd1 : 1 ≤ dd := by omega
       have hd8 : dd ≤ 8 := by omega
       have c4 : (dd : Int) ≤ (M : Int) := by omega
       rw [← hdd]
       clear hdd
       go_wp2
       refine wp_region_until 8 #[true,true,true,true,true,true,true,true,false] (fun aF lsd a' w' => ∃ vu0 vu1 vu2 vu3 vu4 vu5 vu6 vu7 : Value,a' = (((((((aF.put (some 122) vu0).put (some 123) vu1).put (some 124) vu2).put (some 125) vu3).put (some 126) vu4).put (some 127) vu5).put (some 128) vu6).put (some 16) vu7 ∧ Below wr.heap.size wr w' ∧ (lsd.getD 0 false = true → vu0 = .agg #[.bool px,.slice ax nx cx,.slice bx_ mx dx]) ∧ (lsd.getD 1 false = true → vu1 = .int .i64 (dd : Int)) ∧ (lsd.getD 2 false = true → DocQ w' vu2 (mkRat dd 1) 2) ∧ (lsd.getD 3 false = true → DocQ w' vu3 (a * mkRat dd 1) 4) ∧ (lsd.getD 4 false = true → DocQ w' vu4 (-(a * mkRat dd 1)) 4) ∧ (lsd.getD 5 false = true → RepJ w' vu5 (-(a * mkRat dd 1)).floor) ∧ (lsd.getD 6 false = true → RepJ w' vu6 (ceilQ (a * mkRat dd 1))) ∧ (lsd.getD 7 false = true → New2 wr.heap.size w' vu7 (.bool false) (.slice none 0 0))) (by kernel_rfl) (by decide) (by kernel_rfl) (by rfl) (by kernel_rfl) ?_ ?_ ?_
       ·exact ⟨_,_,_,_,_,_,_,_,by simp only [Act.put,xL4,xL5,xL6]; rfl,(Below.refl _ _).drew,fun h => absurd h (fun h => mark_none h),fun h => absurd h (fun h => mark_none h),fun h => absurd h (fun h => mark_none h),fun h => absurd h (fun h => mark_none h),fun h => absurd h (fun h => mark_none h),fun h => absurd h (fun h => mark_none h),fun h => absurd h (fun h => mark_none h),fun h => absurd h (fun h => mark_none h)⟩
       ·rintro lsd au wn iu hszu ⟨vu0,vu1,vu2,vu3,vu4,vu5,vu6,vu7,rfl,hbu,fu0,fu1,fu2,fu3,fu4,fu5,fu6,fu7⟩ himu hru
        rcases (show iu = 0 ∨ iu = 1 ∨ iu = 2 ∨ iu = 3 ∨ iu = 4 ∨ iu = 5 ∨ iu = 6 ∨ iu = 7 by omega) with rfl | rfl | rfl | rfl | rfl | rfl | rfl | rfl
        ·refine wpOp_shut (by rfl) (fun K hK => ?_)
         simp only [Act.put,xL4,xL5,xL6]
         obtain ⟨VX_0,VX_1,VX_2,VX_3,VX_4,VX_5⟩ := VX.below hbu
         go_simp
         exact hK.out _ _ ⟨(.agg #[.bool px,.slice ax nx cx,.slice bx_ mx dx]),vu1,vu2,vu3,vu4,vu5,vu6,vu7,by simp only [Act.put,xL4,xL5,xL6],hbu,fun _ => rfl,fun h => fu1 (mark_of (by decide) h),fun h => fu2 (mark_of (by decide) h),fun h => fu3 (mark_of (by decide) h),fun h => fu4 (mark_of (by decide) h),fun h => fu5 (mark_of (by decide) h),fun h => fu6 (mark_of (by decide) h),fun h => fu7 (mark_of (by decide) h)⟩
        ·refine wpOp_shut (by rfl) (fun K hK => ?_)
         simp only [Act.put,xL4,xL5,xL6]
         go_simp
         exact hK.out _ _ ⟨vu0,(.int .i64 (dd : Int)),vu2,vu3,vu4,vu5,vu6,vu7,by simp only [Act.put,xL4,xL5,xL6],hbu,fun h => fu0 (mark_of (by decide) h),fun _ => rfl,fun h => fu2 (mark_of (by decide) h),fun h => fu3 (mark_of (by decide) h),fun h => fu4 (mark_of (by decide) h),fun h => fu5 (mark_of (by decide) h),fun h => fu6 (mark_of (by decide) h),fun h => fu7 (mark_of (by decide) h)⟩
        ·have eu1 := fu1 (dep_of 1 hru rfl (by kernel_rfl))
         replace eu1 := eu1.symm
         subst eu1
         refine wpOp_shut (by rfl) (fun K hK => ?_)
         simp only [Act.put,xL4,xL5,xL6]
         go_simp
         refine (jsmall_at (dd : Int) 1 _ (by omega) (by omega) (by omega) (by omega)).mono ?_
         rintro eu wx ⟨t1,rfl,h1,bu⟩
         go_wp2_with fail
         have hbu2 := hbu.trans (bu.mono hbu.size)
         exact hK.out _ _ ⟨vu0,(.int .i64 (dd : Int)),_,vu3,vu4,vu5,vu6,vu7,by simp only [Act.put,xL4,xL5,xL6],hbu2,fun h => fu0 (mark_of (by decide) h),fun _ => rfl,fun _ => h1,fun h => (fu3 (mark_of (by decide) h)).below bu,fun h => (fu4 (mark_of (by decide) h)).below bu,fun h => (fu5 (mark_of (by decide) h)).below bu,fun h => (fu6 (mark_of (by decide) h)).below bu,fun h => (fu7 (mark_of (by decide) h)).below bu⟩
        ·have eu0 := fu0 (dep_of 0 hru rfl (by kernel_rfl))
         replace eu0 := eu0.symm
         subst eu0
         have h1 := fu2 (dep_of 2 hru rfl (by kernel_rfl))
         refine wpOp_shut (by rfl) (fun K hK => ?_)
         simp only [Act.put,xL4,xL5,xL6]
         have Jx := Jx.below hbu
         go_simp
         refine (jtimes_at _ _ a (mkRat dd 1) 2 2 _ Jx h1 (by omega)).mono ?_
         rintro eu wx ⟨t2,rfl,h2,bu⟩
         go_wp2_with fail
         have hbu2 := hbu.trans (bu.mono hbu.size)
         exact hK.out _ _ ⟨(.agg #[.bool px,.slice ax nx cx,.slice bx_ mx dx]),vu1,vu2,_,vu4,vu5,vu6,vu7,by simp only [Act.put,xL4,xL5,xL6],hbu2,fun _ => rfl,fun h => fu1 (mark_of (by decide) h),fun h => (fu2 (mark_of (by decide) h)).below bu,fun _ => h2,fun h => (fu4 (mark_of (by decide) h)).below bu,fun h => (fu5 (mark_of (by decide) h)).below bu,fun h => (fu6 (mark_of (by decide) h)).below bu,fun h => (fu7 (mark_of (by decide) h)).below bu⟩
        ·have h2 := fu3 (dep_of 3 hru rfl (by kernel_rfl))
         refine wpOp_shut (by rfl) (fun K hK => ?_)
         simp only [Act.put,xL4,xL5,xL6]
         go_simp
         refine (jminus_at _ (a * mkRat dd 1) 4 _ h2 (by omega)).mono ?_
         rintro eu wx ⟨t3,rfl,h3,bu⟩
         go_wp2_with fail
         have hbu2 := hbu.trans (bu.mono hbu.size)
         exact hK.out _ _ ⟨vu0,vu1,vu2,vu3,_,vu5,vu6,vu7,by simp only [Act.put,xL4,xL5,xL6],hbu2,fun h => fu0 (mark_of (by decide) h),fun h => fu1 (mark_of (by decide) h),fun h => (fu2 (mark_of (by decide) h)).below bu,fun h => (fu3 (mark_of (by decide) h)).below bu,fun _ => h3,fun h => (fu5 (mark_of (by decide) h)).below bu,fun h => (fu6 (mark_of (by decide) h)).below bu,fun h => (fu7 (mark_of (by decide) h)).below bu⟩
        ·have h3 := fu4 (dep_of 4 hru rfl (by kernel_rfl))
         refine wpOp_shut (by rfl) (fun K hK => ?_)
         simp only [Act.put,xL4,xL5,xL6]
         go_simp
         refine (jfloor_at _ (-(a * mkRat dd 1)) 4 _ h3 (by omega)).mono ?_
         rintro eu wx ⟨t4,rfl,h4,bu⟩
         go_wp2_with fail
         have hbu2 := hbu.trans (bu.mono hbu.size)
         exact hK.out _ _ ⟨vu0,vu1,vu2,vu3,vu4,_,vu6,vu7,by simp only [Act.put,xL4,xL5,xL6],hbu2,fun h => fu0 (mark_of (by decide) h),fun h => fu1 (mark_of (by decide) h),fun h => (fu2 (mark_of (by decide) h)).below bu,fun h => (fu3 (mark_of (by decide) h)).below bu,fun h => (fu4 (mark_of (by decide) h)).below bu,fun _ => h4,fun h => (fu6 (mark_of (by decide) h)).below bu,fun h => (fu7 (mark_of (by decide) h)).below bu⟩
        ·have h4 := fu5 (dep_of 5 hru rfl (by kernel_rfl))
         refine wpOp_shut (by rfl) (fun K hK => ?_)
         simp only [Act.put,xL4,xL5,xL6]
         go_simp
         refine (rminus_any _ _ _ h4).mono ?_
         rintro eu wx ⟨t5,rfl,Jo,bu⟩
         go_wp2_with fail
         have hbu2 := hbu.trans (bu.mono hbu.size)
         exact hK.out _ _ ⟨vu0,vu1,vu2,vu3,vu4,vu5,_,vu7,by simp only [Act.put,xL4,xL5,xL6],hbu2,fun h => fu0 (mark_of (by decide) h),fun h => fu1 (mark_of (by decide) h),fun h => (fu2 (mark_of (by decide) h)).below bu,fun h => (fu3 (mark_of (by decide) h)).below bu,fun h => (fu4 (mark_of (by decide) h)).below bu,fun h => (fu5 (mark_of (by decide) h)).below bu,fun _ => Jo,fun h => (fu7 (mark_of (by decide) h)).below bu⟩
        ·refine wpOp_shut (by rfl) (fun K hK => ?_)
         simp only [Act.put,xL4,xL5,xL6]
         go_simp
         obtain ⟨wx,hWx,hSx,bu,VXu⟩ := V2.lay wn 33 (.bool false) (.slice none 0 0)
         rw [← hWx]
         have hbu2 := hbu.trans (bu.mono hbu.size)
         exact hK.out _ _ ⟨vu0,vu1,vu2,vu3,vu4,vu5,vu6,_,by simp only [Act.put,xL4,xL5,xL6],hbu2,fun h => fu0 (mark_of (by decide) h),fun h => fu1 (mark_of (by decide) h),fun h => (fu2 (mark_of (by decide) h)).below bu,fun h => (fu3 (mark_of (by decide) h)).below bu,fun h => (fu4 (mark_of (by decide) h)).below bu,fun h => (fu5 (mark_of (by decide) h)).below bu,fun h => (fu6 (mark_of (by decide) h)).below bu,fun _ => ⟨_,rfl,hbu.size,VXu⟩⟩
       rintro au Wu178 ⟨vu0,vu1,vu2,vu3,vu4,vu5,vu6,vu7,rfl,hbu,fu0,fu1,fu2,fu3,fu4,fu5,fu6,fu7⟩
       have eu0 := (fu0 rfl).symm
       subst eu0
       have eu1 := (fu1 rfl).symm
       subst eu1
       have h1 := fu2 rfl
       have h2 := fu3 rfl
       have h3 := fu4 rfl
       have h4 := fu5 rfl
       have Jo := fu6 rfl
       obtain ⟨RVo,rfl,hRVo,Vo⟩ := fu7 rfl
       clear fu0 fu1 fu2 fu3 fu4 fu5 fu6 fu7
       have hlVX : R3 < wr.heap.size := VX.lt
       have hlVY : R4 < wr.heap.size := VY.lt
       obtain ⟨po,ao_,no,co_,rfl⟩ := Jo.open
       simp only [Act.put,xL4,xL5,xL6]
       refine xR [8] (h := ?_)
       refine AllReadyH.cons (by rfl) (fun K hK => ?_) AllReadyH.nil
       have hKp := Vo.keepJ (.bool po) (.slice ao_ no co_)
       have Vo_n := Vo.same (.bool po) (.slice ao_ no co_)
       have h1_n := h1.keep hKp
       have h2_n := h2.keep hKp
       have h3_n := h3.keep hKp
       have h4_n := h4.keep hKp
       have Jo_n := Jo.keep hKp
       have hbu_n := below_store2 (R := RVo) hbu (by omega) (.bool po) (.slice ao_ no co_)
       clear hKp
       obtain ⟨Vo_0,Vo_1,Vo_2,Vo_3⟩ := id Vo
       go_simp
       clear Vo_0 Vo_1 Vo_2 Vo_3
       clear hbu h1 h2 h3 h4 Jo Vo
       generalize (Wu178.setCell ⟨RVo,0,none⟩ (.bool po)).setCell ⟨RVo,1,none⟩ (.slice ao_ no co_) = W179 at *
       have hbu := hbu_n
       have h1 := h1_n
       have h2 := h2_n
       have h3 := h3_n
       have h4 := h4_n
       have Jo := Jo_n
       have Vo := Vo_n
       clear hbu_n h1_n h2_n h3_n h4_n Jo_n Vo_n
       refine hK.out _ _ trivial (fun _ => ?_)
       clear hK K
       simp only [Act.put,xL4,xL5,xL6]
       replace Jx := Jx.below hbu
       replace Jy := Jy.below hbu
       replace ht := ht.below hbu
       replace VX := VX.below hbu
       replace VY := VY.below hbu
       replace BB := BB.trans (hbu.mono BB.size)
       clear hbu
       refine wpAnyH_done (by kernel_rfl) ?_ _
       clear h1 h2 h3 h4
       go_wp2
       refine wp_region_until 6 #[true,true,true,true,true,true,false] (fun aF lsd a' w' => ∃ vu0 vu1 vu2 vu3 vu4 vu5 : Value,a' = (((((aF.put (some 129) vu0).put (some 130) vu1).put (some 131) vu2).put (some 132) vu3).put (some 133) vu4).put (some 17) vu5 ∧ Below W179.heap.size W179 w' ∧ (lsd.getD 0 false = true → vu0 = .agg #[.bool py,.slice ay ny cy,.slice b_y my dy]) ∧ (lsd.getD 1 false = true → vu1 = .int .i64 (dd : Int)) ∧ (lsd.getD 2 false = true → DocQ w' vu2 (mkRat dd 1) 2) ∧ (lsd.getD 3 false = true → DocQ w' vu3 (b * mkRat dd 1) 4) ∧ (lsd.getD 4 false = true → RepJ w' vu4 (b * mkRat dd 1).floor) ∧ (lsd.getD 5 false = true → New2 W179.heap.size w' vu5 (.bool false) (.slice none 0 0))) (by kernel_rfl) (by decide) (by kernel_rfl) (by rfl) (by kernel_rfl) ?_ ?_ ?_
       ·exact ⟨_,_,_,_,_,_,by simp only [Act.put,xL4,xL5,xL6]; rfl,(Below.refl _ _).drew,fun h => absurd h (fun h => mark_none h),fun h => absurd h (fun h => mark_none h),fun h => absurd h (fun h => mark_none h),fun h => absurd h (fun h => mark_none h),fun h => absurd h (fun h => mark_none h),fun h => absurd h (fun h => mark_none h)⟩
       ·rintro lsd au wn iu hszu ⟨vu0,vu1,vu2,vu3,vu4,vu5,rfl,hbu,fu0,fu1,fu2,fu3,fu4,fu5⟩ himu hru
        rcases (show iu = 0 ∨ iu = 1 ∨ iu = 2 ∨ iu = 3 ∨ iu = 4 ∨ iu = 5 by omega) with rfl | rfl | rfl | rfl | rfl | rfl
        ·refine wpOp_shut (by rfl) (fun K hK => ?_)
         simp only [Act.put,xL4,xL5,xL6]
         obtain ⟨VY_0,VY_1,VY_2,VY_3,VY_4,VY_5⟩ := VY.below hbu
         go_simp
         exact hK.out _ _ ⟨(.agg #[.bool py,.slice ay ny cy,.slice b_y my dy]),vu1,vu2,vu3,vu4,vu5,by simp only [Act.put,xL4,xL5,xL6],hbu,fun _ => rfl,fun h => fu1 (mark_of (by decide) h),fun h => fu2 (mark_of (by decide) h),fun h => fu3 (mark_of (by decide) h),fun h => fu4 (mark_of (by decide) h),fun h => fu5 (mark_of (by decide) h)⟩
        ·refine wpOp_shut (by rfl) (fun K hK => ?_)
         simp only [Act.put,xL4,xL5,xL6]
         go_simp
         exact hK.out _ _ ⟨vu0,(.int .i64 (dd : Int)),vu2,vu3,vu4,vu5,by simp only [Act.put,xL4,xL5,xL6],hbu,fun h => fu0 (mark_of (by decide) h),fun _ => rfl,fun h => fu2 (mark_of (by decide) h),fun h => fu3 (mark_of (by decide) h),fun h => fu4 (mark_of (by decide) h),fun h => fu5 (mark_of (by decide) h)⟩
        ·have eu1 := fu1 (dep_of 1 hru rfl (by kernel_rfl))
         replace eu1 := eu1.symm
         subst eu1
         refine wpOp_shut (by rfl) (fun K hK => ?_)
         simp only [Act.put,xL4,xL5,xL6]
         go_simp
         refine (jsmall_at (dd : Int) 1 _ (by omega) (by omega) (by omega) (by omega)).mono ?_
         rintro eu wx ⟨t1,rfl,h1,bu⟩
         go_wp2_with fail
         have hbu2 := hbu.trans (bu.mono hbu.size)
         exact hK.out _ _ ⟨vu0,(.int .i64 (dd : Int)),_,vu3,vu4,vu5,by simp only [Act.put,xL4,xL5,xL6],hbu2,fun h => fu0 (mark_of (by decide) h),fun _ => rfl,fun _ => h1,fun h => (fu3 (mark_of (by decide) h)).below bu,fun h => (fu4 (mark_of (by decide) h)).below bu,fun h => (fu5 (mark_of (by decide) h)).below bu⟩
        ·have eu0 := fu0 (dep_of 0 hru rfl (by kernel_rfl))
         replace eu0 := eu0.symm
         subst eu0
         have h1 := fu2 (dep_of 2 hru rfl (by kernel_rfl))
         refine wpOp_shut (by rfl) (fun K hK => ?_)
         simp only [Act.put,xL4,xL5,xL6]
         have Jy := Jy.below hbu
         go_simp
         refine (jtimes_at _ _ b (mkRat dd 1) 2 2 _ Jy h1 (by omega)).mono ?_
         rintro eu wx ⟨t2,rfl,h2,bu⟩
         go_wp2_with fail
         have hbu2 := hbu.trans (bu.mono hbu.size)
         exact hK.out _ _ ⟨(.agg #[.bool py,.slice ay ny cy,.slice b_y my dy]),vu1,vu2,_,vu4,vu5,by simp only [Act.put,xL4,xL5,xL6],hbu2,fun _ => rfl,fun h => fu1 (mark_of (by decide) h),fun h => (fu2 (mark_of (by decide) h)).below bu,fun _ => h2,fun h => (fu4 (mark_of (by decide) h)).below bu,fun h => (fu5 (mark_of (by decide) h)).below bu⟩
        ·have h2 := fu3 (dep_of 3 hru rfl (by kernel_rfl))
         refine wpOp_shut (by rfl) (fun K hK => ?_)
         simp only [Act.put,xL4,xL5,xL6]
         go_simp
         refine (jfloor_at _ (b * mkRat dd 1) 4 _ h2 (by omega)).mono ?_
         rintro eu wx ⟨t3,rfl,Jh,bu⟩
         go_wp2_with fail
         have hbu2 := hbu.trans (bu.mono hbu.size)
         exact hK.out _ _ ⟨vu0,vu1,vu2,vu3,_,vu5,by simp only [Act.put,xL4,xL5,xL6],hbu2,fun h => fu0 (mark_of (by decide) h),fun h => fu1 (mark_of (by decide) h),fun h => (fu2 (mark_of (by decide) h)).below bu,fun h => (fu3 (mark_of (by decide) h)).below bu,fun _ => Jh,fun h => (fu5 (mark_of (by decide) h)).below bu⟩
        ·refine wpOp_shut (by rfl) (fun K hK => ?_)
         simp only [Act.put,xL4,xL5,xL6]
         go_simp
         obtain ⟨wx,hWx,hSx,bu,VXu⟩ := V2.lay wn 33 (.bool false) (.slice none 0 0)
         rw [← hWx]
         have hbu2 := hbu.trans (bu.mono hbu.size)
         exact hK.out _ _ ⟨vu0,vu1,vu2,vu3,vu4,_,by simp only [Act.put,xL4,xL5,xL6],hbu2,fun h => fu0 (mark_of (by decide) h),fun h => fu1 (mark_of (by decide) h),fun h => (fu2 (mark_of (by decide) h)).below bu,fun h => (fu3 (mark_of (by decide) h)).below bu,fun h => (fu4 (mark_of (by decide) h)).below bu,fun _ => ⟨_,rfl,hbu.size,VXu⟩⟩
       rintro au Wu180 ⟨vu0,vu1,vu2,vu3,vu4,vu5,rfl,hbu,fu0,fu1,fu2,fu3,fu4,fu5⟩
       have eu0 := (fu0 rfl).symm
       subst eu0
       have eu1 := (fu1 rfl).symm
       subst eu1
       have h1 := fu2 rfl
       have h2 := fu3 rfl
       have Jh := fu4 rfl
       obtain ⟨RVh,rfl,hRVh,Vh⟩ := fu5 rfl
       clear fu0 fu1 fu2 fu3 fu4 fu5
       have hlVX : R3 < W179.heap.size := VX.lt
       have hlVY : R4 < W179.heap.size := VY.lt
       have hlVo : RVo < W179.heap.size := Vo.lt
       obtain ⟨ph,ah,nh,ch,rfl⟩ := Jh.open
       simp only [Act.put,xL4,xL5,xL6]
       refine xR [6] (h := ?_)
       refine AllReadyH.cons (by rfl) (fun K hK => ?_) AllReadyH.nil
       have hKp := Vh.keepJ (.bool ph) (.slice ah nh ch)
       have Vh_n := Vh.same (.bool ph) (.slice ah nh ch)
       have h1_n := h1.keep hKp
       have h2_n := h2.keep hKp
       have Jh_n := Jh.keep hKp
       have hbu_n := below_store2 (R := RVh) hbu (by omega) (.bool ph) (.slice ah nh ch)
       clear hKp
       obtain ⟨Vh_0,Vh_1,Vh_2,Vh_3⟩ := id Vh
       go_simp
       clear Vh_0 Vh_1 Vh_2 Vh_3
       clear hbu h1 h2 Jh Vh
       generalize (Wu180.setCell ⟨RVh,0,none⟩ (.bool ph)).setCell ⟨RVh,1,none⟩ (.slice ah nh ch) = W181 at *
       have hbu := hbu_n
       have h1 := h1_n
       have h2 := h2_n
       have Jh := Jh_n
       have Vh := Vh_n
       clear hbu_n h1_n h2_n Jh_n Vh_n
       refine hK.out _ _ trivial (fun _ => ?_)
       clear hK K
       simp only [Act.put,xL4,xL5,xL6]
       replace Jx := Jx.below hbu
       replace Jy := Jy.below hbu
       replace ht := ht.below hbu
       replace Jo := Jo.below hbu
       replace VX := VX.below hbu
       replace VY := VY.below hbu
       replace Vo := Vo.below hbu
       replace BB := BB.trans (hbu.mono BB.size)
       clear hbu
       refine wpAnyH_done (by kernel_rfl) ?_ _
       clear h1 h2
       have lfl : nl W32 (ceilQ (a * mkRat dd 1)).natAbs ≤ 4 := nlceil a dd 2 sa (by omega)
       have hwd := fd_width hba dd hd1
       have HFD : Hid (fd a b dd = cn dd (ceilQ (a * mkRat dd 1)) ((b * mkRat dd 1).floor - ceilQ (a * mkRat dd 1) + 1).toNat) := rfl
       generalize ceilQ (a * mkRat dd 1) = lo at *
       generalize (b * mkRat dd 1).floor = hi at *
       obtain ⟨K,hK⟩ : ∃ K,K = (hi - lo + 1).toNat := ⟨_,rfl⟩
       have hK2 : K ≤ 161 := by omega
       have hKI : ∀ j : Nat,j ≤ K → (lo + (j : Int) ≤ hi ↔ j < K) := fun j hj => by omega
       have HKI : Hid (∀ j : Nat,j ≤ K → (lo + (j : Int) ≤ hi ↔ j < K)) := hKI
       rw [← hK] at HFD
       clear hK hKI hwd
       obtain ⟨o0_,o1_,o2_,o3_⟩ := id Vo
       have hZ182 : w.heap.size ≤ W181.heap.size := BB.size
       have hN182VX : R3 ≠ W181.heap.size := Nat.ne_of_lt VX.lt
       have hN182VY : R4 ≠ W181.heap.size := Nat.ne_of_lt VY.lt
       have hN182Vo : RVo ≠ W181.heap.size := Nat.ne_of_lt Vo.lt
       have hN182Vh : RVh ≠ W181.heap.size := Nat.ne_of_lt Vh.lt
       obtain ⟨W182,hW182,hS182,hL182,VN⟩ := V2.lay W181 33 (.bool po) (.slice ao_ no co_)
       replace Jx := Jx.below hL182
       replace Jy := Jy.below hL182
       replace ht := ht.below hL182
       replace Jo := Jo.below hL182
       replace Jh := Jh.below hL182
       replace VX := VX.below hL182
       replace VY := VY.below hL182
       replace Vo := Vo.below hL182
       replace Vh := Vh.below hL182
       replace BB := BB.trans (hL182.mono BB.size)
       clear hL182
       go_wp2
       rw [← hW182]
       generalize W181.heap.size = R182 at *
       clear hW182 hS182
       clear o0_ o1_ o2_ o3_
       clear Vo
       go_loopg [12,18] (K + 1) (fun k vc vn wr => ∃ (j C RN : Nat) (pn : Bool) (an : Option Addr) (nn cn_ : Nat),j + k = K + 1 ∧ 0 < k ∧ C ≤ T + j ∧ vc = .int .i64 (C : Int) ∧ Hid (T + cn dd lo j = C) ∧ vn = .pointer (some ⟨RN,0,none⟩) ∧ V2 wr RN (.bool pn) (.slice an nn cn_) ∧ RepJ wr (.agg #[.bool pn,.slice an nn cn_]) (lo + (j : Int)) ∧ V3 wr R3 (.bool px) (.slice ax nx cx) (.slice bx_ mx dx) ∧ V3 wr R4 (.bool py) (.slice ay ny cy) (.slice b_y my dy) ∧ DocQ wr (.agg #[.bool px,.slice ax nx cx,.slice bx_ mx dx]) a 2 ∧ DocQ wr (.agg #[.bool py,.slice ay ny cy,.slice b_y my dy]) b 2 ∧ Tab wr ∧ Below w.heap.size w wr ∧ V2 wr RVh (.bool ph) (.slice ah nh ch) ∧ RepJ wr (.agg #[.bool ph,.slice ah nh ch]) hi)
       case atStart => exact ⟨0,T,R182,po,ao_,no,co_,by omega,by omega,by omega,rfl,rfl,rfl,VN,by rw [show lo + ((0 : Nat) : Int) = lo by omega]; exact Jo,VX,VY,Jx,Jy,ht,BB,Vh,Jh⟩
       case round =>
        clear VN Jo VX VY Jx Jy ht BB Vh Jh
        obtain ⟨j,C,RN,pn,an,nn,cn_,hjk,hk0,hC,rfl,HC,rfl,VN,JN,VX,VY,Jx,Jy,ht,BB,Vh,Jh⟩ := hrel
        have HJ : Hid (lo + (j : Int) ≤ hi ↔ j < K) := HKI.out j (by omega)
        have lj : nl W32 ((j : Int)).natAbs ≤ 1 := by rw [Int.natAbs_natCast]; exact nl_small7 _ (by omega)
        have ln : nl W32 (lo + (j : Int)).natAbs ≤ 6 := nlz_add lfl lj (by omega) (by omega)
        have HNX : Hid (lo + (j : Int) + 1 = lo + ((j + 1 : Nat) : Int)) := by show _ = _; omega
        generalize hzz : lo + (j : Int) = zz at *
        have HZZ : Hid (lo + (j : Int) = zz) := hzz
        clear hzz
        obtain ⟨VN_0,VN_1,VN_2,VN_3⟩ := id VN
        obtain ⟨Vh_0,Vh_1,Vh_2,Vh_3⟩ := id Vh
        go_wp2_with fail
        clear VN_0 VN_1 VN_2 VN_3 Vh_0 Vh_1 Vh_2 Vh_3
        refine (rorder_any _ _ zz hi _ JN Jh).mono ?_
        rintro e w180 ⟨rfl,b180⟩
        replace JN := JN.below b180
        replace Jx := Jx.below b180
        replace Jy := Jy.below b180
        replace ht := ht.below b180
        replace Jh := Jh.below b180
        replace VN := VN.below b180
        replace VX := VX.below b180
        replace VY := VY.below b180
        replace Vh := Vh.below b180
        replace BB := BB.trans (b180.mono BB.size)
        clear b180
        have HO : Hid (cmpI zz hi ≤ 0 ↔ zz ≤ hi) := cmp_neg_iff zz hi
        generalize cmpI zz hi = co at *
        by_cases hj : j < K
        ·have hco : co ≤ 0 := HO.out.2 (HJ.out.2 hj)
         clear HO HJ
         have DN := JN.num
         have HG1 : Hid (cmpI ((Nat.gcd zz.natAbs dd : Nat) : Int) ((1 : Nat) : Int) = 0 ↔ Nat.gcd zz.natAbs dd = 1) := cmp_one_iff _
         have HST : Hid (cn dd lo (j + 1) = cn dd lo j + (if Nat.gcd zz.natAbs dd = 1 then 1 else 0)) := by show cn dd lo j + _ = _; rw [HZZ.out]
         generalize hgg : cmpI ((Nat.gcd zz.natAbs dd : Nat) : Int) ((1 : Nat) : Int) = cg at *
         go_wp2
         have hDr : Below w180.heap.size w180 w180.drew := (Below.refl _ _).drew
         replace JN := JN.below hDr
         replace Jx := Jx.below hDr
         replace Jy := Jy.below hDr
         replace ht := ht.below hDr
         replace Jh := Jh.below hDr
         replace DN := DN.below hDr
         replace VN := VN.below hDr
         replace VX := VX.below hDr
         replace VY := VY.below hDr
         replace Vh := Vh.below hDr
         replace BB := BB.trans (hDr.mono BB.size)
         clear hDr
         refine wp_region_held_drew (S := (fun w' => w'.cell? ⟨RN,0,none⟩ = some (.bool pn) ∧ w'.cell? ⟨RN,1,none⟩ = some (.slice an nn cn_))) (by kernel_rfl) ?_ (fun hHeld => ?_)
         ·exact ⟨VN.1,VN.2.1⟩
         generalize w180.drew = W183 at *
         refine xT 0 (v := ?_) (hy := Or.inl ⟨by rfl,?_⟩) (h := ?_)
         rotate_left
         ·(intro w hSw; (try dsimp only at hSw); go_simp; (try with_reducible rfl))
         (try simp only [Act.put,xL4,xL5,xL6])
         refine xT 1 (v := ?_) (hy := Or.inl ⟨by rfl,?_⟩) (h := ?_)
         rotate_left
         ·(intro w hSw; (try dsimp only at hSw); go_simp; (try with_reducible rfl))
         (try simp only [Act.put,xL4,xL5,xL6])
         refine xT 2 (v := ?_) (hy := Or.inl ⟨by rfl,?_⟩) (h := ?_)
         rotate_left
         ·(intro w hSw; (try dsimp only at hSw); go_simp; (try with_reducible rfl))
         (try simp only [Act.put,xL4,xL5,xL6])
         refine xR [3] (h := ?_)
         refine xN (h := fun K hK => ?_)
         go_simp
         refine (small_any dd _ (by omega)).mono ?_
         rintro e w181 ⟨g1,rfl,D1,b181⟩
         go_wp2_with fail
         replace JN := JN.below b181
         replace Jx := Jx.below b181
         replace Jy := Jy.below b181
         replace ht := ht.below b181
         replace Jh := Jh.below b181
         replace DN := DN.below b181
         replace VN := VN.below b181
         replace VX := VX.below b181
         replace VY := VY.below b181
         replace Vh := Vh.below b181
         replace BB := BB.trans (b181.mono BB.size)
         clear b181
         refine hK.out _ _ ?_ (fun hH1 => ?_)
         ·exact ⟨VN.1,VN.2.1⟩
         clear hK K hHeld
         (try simp only [Act.put,xL4,xL5,xL6])
         refine xR [4] (h := ?_)
         refine xN (h := fun K hK => ?_)
         go_simp
         refine (rgcd_any _ _ zz.natAbs dd _ DN D1 (nl10_of6 ln) (nl10_small dd (by omega))).mono ?_
         rintro e w182 ⟨g2,rfl,D2,b182⟩
         go_wp2_with fail
         replace JN := JN.below b182
         replace Jx := Jx.below b182
         replace Jy := Jy.below b182
         replace ht := ht.below b182
         replace Jh := Jh.below b182
         replace DN := DN.below b182
         replace D1 := D1.below b182
         replace VN := VN.below b182
         replace VX := VX.below b182
         replace VY := VY.below b182
         replace Vh := Vh.below b182
         replace BB := BB.trans (b182.mono BB.size)
         clear b182
         refine hK.out _ _ ?_ (fun hH2 => ?_)
         ·exact ⟨VN.1,VN.2.1⟩
         clear hK K hH1
         (try simp only [Act.put,xL4,xL5,xL6])
         refine xR [5] (h := ?_)
         refine xN (h := fun K hK => ?_)
         go_simp
         refine (small_any 1 _ (by omega)).mono ?_
         rintro e w183 ⟨g3,rfl,D3,b183⟩
         go_wp2_with fail
         replace JN := JN.below b183
         replace Jx := Jx.below b183
         replace Jy := Jy.below b183
         replace ht := ht.below b183
         replace Jh := Jh.below b183
         replace DN := DN.below b183
         replace D1 := D1.below b183
         replace D2 := D2.below b183
         replace VN := VN.below b183
         replace VX := VX.below b183
         replace VY := VY.below b183
         replace Vh := Vh.below b183
         replace BB := BB.trans (b183.mono BB.size)
         clear b183
         refine hK.out _ _ ?_ (fun hH3 => ?_)
         ·exact ⟨VN.1,VN.2.1⟩
         clear hK K hH2
         (try simp only [Act.put,xL4,xL5,xL6])
         refine xR [6] (h := ?_)
         refine xN (h := fun K hK => ?_)
         go_simp
         refine (order_any _ _ (Nat.gcd zz.natAbs dd) 1 _ D2 D3).mono ?_
         rintro e w184 ⟨rfl,b184⟩
         rw [hgg]
         go_wp2_with fail
         replace JN := JN.below b184
         replace Jx := Jx.below b184
         replace Jy := Jy.below b184
         replace ht := ht.below b184
         replace Jh := Jh.below b184
         replace DN := DN.below b184
         replace D1 := D1.below b184
         replace D2 := D2.below b184
         replace D3 := D3.below b184
         replace VN := VN.below b184
         replace VX := VX.below b184
         replace VY := VY.below b184
         replace Vh := Vh.below b184
         replace BB := BB.trans (b184.mono BB.size)
         clear b184
         refine hK.out _ _ ?_ (fun hH4 => ?_)
         ·exact ⟨VN.1,VN.2.1⟩
         clear hK K hH3
         (try simp only [Act.put,xL4,xL5,xL6])
         refine xT 7 (v := ?_) (hy := Or.inl ⟨by rfl,?_⟩) (h := ?_)
         rotate_left
         ·(intro w hSw; (try dsimp only at hSw); go_simp; (try with_reducible rfl))
         (try simp only [Act.put,xL4,xL5,xL6])
         refine wpAnyH_done (by kernel_rfl) ?_ _
         clear hH4
         clear D1 D2 D3 DN
         clear hgg
         by_cases hg : Nat.gcd zz.natAbs dd = 1
         ·have hcg : (cg == 0) = true := by simp; exact HG1.out.2 hg
          have HC2 : Hid (T + cn dd lo (j + 1) = C + 1) := by show _ = _; rw [HST.out,if_pos hg,← HC.out]; omega
          clear HG1 HST hg HC HZZ
          obtain ⟨n0_,n1_,n2_,n3_⟩ := id VN
          have hZ184 : w.heap.size ≤ w184.heap.size := BB.size
          have hN184VN : RN ≠ w184.heap.size := Nat.ne_of_lt VN.lt
          have hN184VX : R3 ≠ w184.heap.size := Nat.ne_of_lt VX.lt
          have hN184VY : R4 ≠ w184.heap.size := Nat.ne_of_lt VY.lt
          have hN184Vh : RVh ≠ w184.heap.size := Nat.ne_of_lt Vh.lt
          obtain ⟨W184,hW184,hS184,hL184,VM⟩ := V2.lay w184 33 (.bool pn) (.slice an nn cn_)
          replace JN := JN.below hL184
          replace Jx := Jx.below hL184
          replace Jy := Jy.below hL184
          replace ht := ht.below hL184
          replace Jh := Jh.below hL184
          replace VN := VN.below hL184
          replace VX := VX.below hL184
          replace VY := VY.below hL184
          replace Vh := Vh.below hL184
          replace BB := BB.trans (hL184.mono BB.size)
          clear hL184
          go_wp2
          rw [← hW184]
          generalize w184.heap.size = R184 at *
          clear hW184 hS184
          clear n0_ n1_ n2_ n3_
          clear VN
          (try simp only [hco,decide_true])
          (try simp only [hcg])
          refine wp_region_until 3 #[true,true,true,false] (fun aF lsd a' w' => ∃ vu0 vu1 vu2 : Value,a' = ((aF.put (some 139) vu0).put (some 140) vu1).put (some 141) vu2 ∧ Below W184.heap.size W184 w' ∧ (lsd.getD 0 false = true → vu0 = .agg #[.bool pn,.slice an nn cn_]) ∧ (lsd.getD 1 false = true → RepJ w' vu1 1) ∧ (lsd.getD 2 false = true → RepJ w' vu2 (zz + 1))) (by kernel_rfl) (by decide) (by kernel_rfl) (by rfl) (by kernel_rfl) ?_ ?_ ?_
          ·exact ⟨_,_,_,by simp only [Act.put,xL4,xL5,xL6]; rfl,(Below.refl _ _).drew,fun h => absurd h (fun h => mark_none h),fun h => absurd h (fun h => mark_none h),fun h => absurd h (fun h => mark_none h)⟩
          ·rintro lsd au wn iu hszu ⟨vu0,vu1,vu2,rfl,hbu,fu0,fu1,fu2⟩ himu hru
           rcases (show iu = 0 ∨ iu = 1 ∨ iu = 2 by omega) with rfl | rfl | rfl
           ·refine wpOp_shut (by rfl) (fun K hK => ?_)
            simp only [Act.put,xL4,xL5,xL6]
            obtain ⟨VM_0,VM_1,VM_2,VM_3⟩ := VM.below hbu
            go_simp
            exact hK.out _ _ ⟨(.agg #[.bool pn,.slice an nn cn_]),vu1,vu2,by simp only [Act.put,xL4,xL5,xL6],hbu,fun _ => rfl,fun h => fu1 (mark_of (by decide) h),fun h => fu2 (mark_of (by decide) h)⟩
           ·refine wpOp_shut (by rfl) (fun K hK => ?_)
            simp only [Act.put,xL4,xL5,xL6]
            go_simp
            refine (rsmall_any 1 _ (by omega) (by omega)).mono ?_
            rintro eu wx ⟨g4,rfl,J6,bu⟩
            go_wp2_with fail
            have hbu2 := hbu.trans (bu.mono hbu.size)
            exact hK.out _ _ ⟨vu0,_,vu2,by simp only [Act.put,xL4,xL5,xL6],hbu2,fun h => fu0 (mark_of (by decide) h),fun _ => J6,fun h => (fu2 (mark_of (by decide) h)).below bu⟩
           ·have eu0 := fu0 (dep_of 0 hru rfl (by kernel_rfl))
            replace eu0 := eu0.symm
            subst eu0
            have J6 := fu1 (dep_of 1 hru rfl (by kernel_rfl))
            refine wpOp_shut (by rfl) (fun K hK => ?_)
            simp only [Act.put,xL4,xL5,xL6]
            have JN := JN.below hbu
            go_simp
            refine (rplus_any _ _ zz 1 _ JN J6 (nl10_of (by omega)) (by decide)).mono ?_
            rintro eu wx ⟨g5,rfl,J7,bu⟩
            go_wp2_with fail
            have hbu2 := hbu.trans (bu.mono hbu.size)
            exact hK.out _ _ ⟨(.agg #[.bool pn,.slice an nn cn_]),vu1,_,by simp only [Act.put,xL4,xL5,xL6],hbu2,fun _ => rfl,fun h => (fu1 (mark_of (by decide) h)).below bu,fun _ => J7⟩
          rintro au Wu185 ⟨vu0,vu1,vu2,rfl,hbu,fu0,fu1,fu2⟩
          have eu0 := (fu0 rfl).symm
          subst eu0
          have J6 := fu1 rfl
          have J7 := fu2 rfl
          clear fu0 fu1 fu2
          have hlVX : R3 < W184.heap.size := VX.lt
          have hlVY : R4 < W184.heap.size := VY.lt
          have hlVh : RVh < W184.heap.size := Vh.lt
          have hlVM : R184 < W184.heap.size := VM.lt
          replace JN := JN.below hbu
          replace Jx := Jx.below hbu
          replace Jy := Jy.below hbu
          replace ht := ht.below hbu
          replace Jh := Jh.below hbu
          replace VX := VX.below hbu
          replace VY := VY.below hbu
          replace Vh := Vh.below hbu
          replace VM := VM.below hbu
          replace BB := BB.trans (hbu.mono BB.size)
          clear hbu
          obtain ⟨p7,a7,n7,c7,rfl⟩ := J7.open
          simp only [Act.put,xL4,xL5,xL6]
          refine xR [3] (h := ?_)
          refine AllReadyH.cons (by rfl) (fun K hK => ?_) AllReadyH.nil
          have hKp := VM.keepJ (.bool p7) (.slice a7 n7 c7)
          have VX_n := VX.other2 (R := R184) (by omega) (.bool p7) (.slice a7 n7 c7)
          have VY_n := VY.other2 (R := R184) (by omega) (.bool p7) (.slice a7 n7 c7)
          have Vh_n := Vh.other (R := R184) (by omega) (.bool p7) (.slice a7 n7 c7)
          have VM_n := VM.same (.bool p7) (.slice a7 n7 c7)
          have JN_n := JN.keep hKp
          have Jx_n := Jx.keep hKp
          have Jy_n := Jy.keep hKp
          have ht_n := ht.keep hKp
          have Jh_n := Jh.keep hKp
          have J6_n := J6.keep hKp
          have J7_n := J7.keep hKp
          have BB_n := below_store2 (R := R184) BB (by omega) (.bool p7) (.slice a7 n7 c7)
          clear hKp
          obtain ⟨VM_0,VM_1,VM_2,VM_3⟩ := id VM
          go_simp
          clear VM_0 VM_1 VM_2 VM_3
          clear BB JN Jx Jy ht Jh J6 J7 VX VY Vh VM
          generalize (Wu185.setCell ⟨R184,0,none⟩ (.bool p7)).setCell ⟨R184,1,none⟩ (.slice a7 n7 c7) = W186 at *
          have BB := BB_n
          have JN := JN_n
          have Jx := Jx_n
          have Jy := Jy_n
          have ht := ht_n
          have Jh := Jh_n
          have J6 := J6_n
          have J7 := J7_n
          have VX := VX_n
          have VY := VY_n
          have Vh := Vh_n
          have VM := VM_n
          clear BB_n JN_n Jx_n Jy_n ht_n Jh_n J6_n J7_n VX_n VY_n Vh_n VM_n
          refine hK.out _ _ trivial (fun _ => ?_)
          clear hK K
          simp only [Act.put,xL4,xL5,xL6]
          refine wpAnyH_done (by kernel_rfl) ?_ _
          clear J6
          rw [HNX.out] at J7
          go_wp2
          go_roundg (gk - 1)
          case measure => omega
          case rel => exact ⟨j + 1,C + 1,R184,p7,a7,n7,c7,by omega,by omega,by omega,by first | rfl | go_num,HC2,rfl,VM,J7,VX,VY,Jx,Jy,ht,BB,Vh,Jh⟩
         ·have hcg : (cg == 0) = false := by simp; exact fun h => hg (HG1.out.1 h)
          have HC2 : Hid (T + cn dd lo (j + 1) = C) := by show _ = _; rw [HST.out,if_neg hg,← HC.out]; omega
          clear HG1 HST hg HC HZZ
          obtain ⟨n0_,n1_,n2_,n3_⟩ := id VN
          have hZ194 : w.heap.size ≤ w184.heap.size := BB.size
          have hN194VN : RN ≠ w184.heap.size := Nat.ne_of_lt VN.lt
          have hN194VX : R3 ≠ w184.heap.size := Nat.ne_of_lt VX.lt
          have hN194VY : R4 ≠ w184.heap.size := Nat.ne_of_lt VY.lt
          have hN194Vh : RVh ≠ w184.heap.size := Nat.ne_of_lt Vh.lt
          obtain ⟨W194,hW194,hS194,hL194,VM⟩ := V2.lay w184 33 (.bool pn) (.slice an nn cn_)
          replace JN := JN.below hL194
          replace Jx := Jx.below hL194
          replace Jy := Jy.below hL194
          replace ht := ht.below hL194
          replace Jh := Jh.below hL194
          replace VN := VN.below hL194
          replace VX := VX.below hL194
          replace VY := VY.below hL194
          replace Vh := Vh.below hL194
          replace BB := BB.trans (hL194.mono BB.size)
          clear hL194
          go_wp2
          rw [← hW194]
          generalize w184.heap.size = R194 at *
          clear hW194 hS194
          clear n0_ n1_ n2_ n3_
          clear VN
          (try simp only [hco,decide_true])
          (try simp only [hcg])
          refine wp_region_until 3 #[true,true,true,false] (fun aF lsd a' w' => ∃ vu0 vu1 vu2 : Value,a' = ((aF.put (some 139) vu0).put (some 140) vu1).put (some 141) vu2 ∧ Below W194.heap.size W194 w' ∧ (lsd.getD 0 false = true → vu0 = .agg #[.bool pn,.slice an nn cn_]) ∧ (lsd.getD 1 false = true → RepJ w' vu1 1) ∧ (lsd.getD 2 false = true → RepJ w' vu2 (zz + 1))) (by kernel_rfl) (by decide) (by kernel_rfl) (by rfl) (by kernel_rfl) ?_ ?_ ?_
          ·exact ⟨_,_,_,by simp only [Act.put,xL4,xL5,xL6]; rfl,(Below.refl _ _).drew,fun h => absurd h (fun h => mark_none h),fun h => absurd h (fun h => mark_none h),fun h => absurd h (fun h => mark_none h)⟩
          ·rintro lsd au wn iu hszu ⟨vu0,vu1,vu2,rfl,hbu,fu0,fu1,fu2⟩ himu hru
           rcases (show iu = 0 ∨ iu = 1 ∨ iu = 2 by omega) with rfl | rfl | rfl
           ·refine wpOp_shut (by rfl) (fun K hK => ?_)
            simp only [Act.put,xL4,xL5,xL6]
            obtain ⟨VM_0,VM_1,VM_2,VM_3⟩ := VM.below hbu
            go_simp
            exact hK.out _ _ ⟨(.agg #[.bool pn,.slice an nn cn_]),vu1,vu2,by simp only [Act.put,xL4,xL5,xL6],hbu,fun _ => rfl,fun h => fu1 (mark_of (by decide) h),fun h => fu2 (mark_of (by decide) h)⟩
           ·refine wpOp_shut (by rfl) (fun K hK => ?_)
            simp only [Act.put,xL4,xL5,xL6]
            go_simp
            refine (rsmall_any 1 _ (by omega) (by omega)).mono ?_
            rintro eu wx ⟨g4,rfl,J6,bu⟩
            go_wp2_with fail
            have hbu2 := hbu.trans (bu.mono hbu.size)
            exact hK.out _ _ ⟨vu0,_,vu2,by simp only [Act.put,xL4,xL5,xL6],hbu2,fun h => fu0 (mark_of (by decide) h),fun _ => J6,fun h => (fu2 (mark_of (by decide) h)).below bu⟩
           ·have eu0 := fu0 (dep_of 0 hru rfl (by kernel_rfl))
            replace eu0 := eu0.symm
            subst eu0
            have J6 := fu1 (dep_of 1 hru rfl (by kernel_rfl))
            refine wpOp_shut (by rfl) (fun K hK => ?_)
            simp only [Act.put,xL4,xL5,xL6]
            have JN := JN.below hbu
            go_simp
            refine (rplus_any _ _ zz 1 _ JN J6 (nl10_of (by omega)) (by decide)).mono ?_
            rintro eu wx ⟨g5,rfl,J7,bu⟩
            go_wp2_with fail
            have hbu2 := hbu.trans (bu.mono hbu.size)
            exact hK.out _ _ ⟨(.agg #[.bool pn,.slice an nn cn_]),vu1,_,by simp only [Act.put,xL4,xL5,xL6],hbu2,fun _ => rfl,fun h => (fu1 (mark_of (by decide) h)).below bu,fun _ => J7⟩
          rintro au Wu195 ⟨vu0,vu1,vu2,rfl,hbu,fu0,fu1,fu2⟩
          have eu0 := (fu0 rfl).symm
          subst eu0
          have J6 := fu1 rfl
          have J7 := fu2 rfl
          clear fu0 fu1 fu2
          have hlVX : R3 < W194.heap.size := VX.lt
          have hlVY : R4 < W194.heap.size := VY.lt
          have hlVh : RVh < W194.heap.size := Vh.lt
          have hlVM : R194 < W194.heap.size := VM.lt
          replace JN := JN.below hbu
          replace Jx := Jx.below hbu
          replace Jy := Jy.below hbu
          replace ht := ht.below hbu
          replace Jh := Jh.below hbu
          replace VX := VX.below hbu
          replace VY := VY.below hbu
          replace Vh := Vh.below hbu
          replace VM := VM.below hbu
          replace BB := BB.trans (hbu.mono BB.size)
          clear hbu
          obtain ⟨p7,a7,n7,c7,rfl⟩ := J7.open
          simp only [Act.put,xL4,xL5,xL6]
          refine xR [3] (h := ?_)
          refine AllReadyH.cons (by rfl) (fun K hK => ?_) AllReadyH.nil
          have hKp := VM.keepJ (.bool p7) (.slice a7 n7 c7)
          have VX_n := VX.other2 (R := R194) (by omega) (.bool p7) (.slice a7 n7 c7)
          have VY_n := VY.other2 (R := R194) (by omega) (.bool p7) (.slice a7 n7 c7)
          have Vh_n := Vh.other (R := R194) (by omega) (.bool p7) (.slice a7 n7 c7)
          have VM_n := VM.same (.bool p7) (.slice a7 n7 c7)
          have JN_n := JN.keep hKp
          have Jx_n := Jx.keep hKp
          have Jy_n := Jy.keep hKp
          have ht_n := ht.keep hKp
          have Jh_n := Jh.keep hKp
          have J6_n := J6.keep hKp
          have J7_n := J7.keep hKp
          have BB_n := below_store2 (R := R194) BB (by omega) (.bool p7) (.slice a7 n7 c7)
          clear hKp
          obtain ⟨VM_0,VM_1,VM_2,VM_3⟩ := id VM
          go_simp
          clear VM_0 VM_1 VM_2 VM_3
          clear BB JN Jx Jy ht Jh J6 J7 VX VY Vh VM
          generalize (Wu195.setCell ⟨R194,0,none⟩ (.bool p7)).setCell ⟨R194,1,none⟩ (.slice a7 n7 c7) = W196 at *
          have BB := BB_n
          have JN := JN_n
          have Jx := Jx_n
          have Jy := Jy_n
          have ht := ht_n
          have Jh := Jh_n
          have J6 := J6_n
          have J7 := J7_n
          have VX := VX_n
          have VY := VY_n
          have Vh := Vh_n
          have VM := VM_n
          clear BB_n JN_n Jx_n Jy_n ht_n Jh_n J6_n J7_n VX_n VY_n Vh_n VM_n
          refine hK.out _ _ trivial (fun _ => ?_)
          clear hK K
          simp only [Act.put,xL4,xL5,xL6]
          refine wpAnyH_done (by kernel_rfl) ?_ _
          clear J6
          rw [HNX.out] at J7
          go_wp2
          go_roundg (gk - 1)
          case measure => omega
          case rel => exact ⟨j + 1,C,R194,p7,a7,n7,c7,by omega,by omega,by omega,by first | rfl | go_num,HC2,rfl,VM,J7,VX,VY,Jx,Jy,ht,BB,Vh,Jh⟩
        ·have hco : ¬ co ≤ 0 := fun h => hj (HJ.out.1 (HO.out.1 h))
         obtain rfl : j = K := by omega
         have HT2 : Hid (tot (fd a b) (d_ + 1) = C) := by show tot (fd a b) d_ + fd a b (d_ + 1) = C; rw [HT.out,← HDD.out,HFD.out]; exact HC.out
         clear HO HJ
         have HDI : Hid ((dd : Int) + 1 = ((d_ + 1 + 1 : Nat) : Int)) := by show _ = _; have := HDD.out; omega
         go_wp2
         go_roundw
         case rel => exact ⟨d_ + 1,C,by omega,by omega,by first | go_num | (rw [← HDI.out]),rfl,HT2,VX,VY,Jx,Jy,ht,BB⟩
         case measure => have := HDD.out; simp [intOf]; omega
      ·obtain rfl : d_ = M := by omega
       have c4 : ¬ ((d_ + 1 : Nat) : Int) ≤ (d_ : Int) := by omega
       have c5 : ¬ (d_ : Int) + 1 ≤ (d_ : Int) := by omega
       have hTi : T = i := by rw [← HT.out,← HU.out]; rfl
       subst hTi
       clear HT HU
       go_wp2_with fail
       refine (qawake_at _ ht).mono ?_
       rintro e w270 ⟨rfl,b270⟩
       replace Jx := Jx.below b270
       replace Jy := Jy.below b270
       replace ht := ht.below b270
       replace VX := VX.below b270
       replace VY := VY.below b270
       replace BB := BB.trans (b270.mono BB.size)
       clear b270
       go_wp2
       go_ret
       exact ⟨rfl,BB⟩

theorem own : ownKnob Tryz.prog.godebug = none := by kernel_rfl
theorem laidOut : laidOutB Tryz.prog = true := by kernel_rfl

abbrev laid1 : List (String × DataW Unit) := [("math/bits.deBruijn64tab",Rows.laid_math_bits_deBruijn64tab)]
theorem gTab : Tryz.prog.globalNamed "math/bits.deBruijn64tab" = some 1 := by kernel_rfl
theorem gTabType : (Tryz.prog.globals[1]?).map (·.type) = some 182 := by kernel_rfl
theorem uTab : Tryz.prog.underlying 182 = some (.array 64 5) := by kernel_rfl
theorem uCell : Tryz.prog.underlying 5 = some (.int .u8) := by kernel_rfl
theorem cCell : Tryz.prog.cellsOf 5 = 1 := by kernel_rfl
theorem cTab : Tryz.prog.cellsOf 182 = 64 := by kernel_rfl
/-- The listed table lies in its cells. -/
theorem tab_of {W : World} (h : laidMetH Tryz.prog laid1 W) : Tab W := by
 rw [MakeChecks.laidMetH_plain _ _ _ (by kernel_rfl)] at h
 have hd : laid1 = [("math/bits.deBruijn64tab",Lib.tabData .u8 (Lib.deBruijn64tab.map fun (n : Nat) => Int.ofNat n))] := rfl
 rw [hd] at h
 have hT := Lib.tabIs_of_head gTab gTabType uTab uCell cCell cTab h
 intro i hi
 have hc := hT.cell gTab i (by rw [List.length_map]; exact hi)
 rw [hc]
 congr 2
 rw [List.getD_eq_getElem?_getD,List.getElem?_map,List.getD_eq_getElem?_getD]
 cases Lib.deBruijn64tab[i]? <;> rfl
/-- A start for the witness: the heap that the run of the program's own initialisers leaves. -/
noncomputable def startW (os : Os) : World := { World.holding Tryz.prog os ⟨#[],#[],[]⟩ with heap := (varsWorld Tryz.prog 400 (varsId Tryz.prog) os (fun _ _ => 0)).heap }
theorem start_met (os : Os) (args : Array Value) : laidMetH Tryz.prog laid1 ((startW os).forCall (fun _ _ => 0) ⟨#[],args,[]⟩).memory :=
 laidMetH_of_parts3 (fuel := 8) (laidMet_of_run' 8 (by kernel_rfl) (by kernel_rfl)) (by kernel_rfl) (by kernel_rfl)

set_option maxRecDepth 100000 in
theorem lifted (os : Os) (started : os.Started) (H : Type) (enc : TypeId × Value → H) :
  ReturnsInHanded {} Tryz.checked os 4 .any (fun w args => (Rows.ratioBetweensSpec.pre enc Tryz.prog Tryz.f4 [] false w args ∧ laidMetH Tryz.prog laid1 w) ∧ sizedMet enc Tryz.prog Tryz.f4 (OpenSpec.ofChange Rows.ratioBetweensSpec) false w args) (Rows.ratioBetweensSpec.post enc Tryz.prog Tryz.f4 false true false false) := by
 refine returnsInHanded_of_change_and (C := Tryz.checked) (X := fun w _ => laidMetH Tryz.prog laid1 w) (fun _ _ _ hh h => h.of_heap hh) own started (by kernel_rfl) Tryz.func4
  (ChangeSpec.witness_shaped (enc := enc) (C := Tryz.checked) (os := os) (X := fun w _ => laidMetH Tryz.prog laid1 w) false (startW os) #[.agg #[.bool false,.slice none 0 0,.slice none 0 0],.agg #[.bool false,.slice none 0 0,.slice none 0 0],.int .i64 0] 8 rfl (World.shaped_of_RefB (by kernel_rfl) (by kernel_rfl)) (by kernel_rfl) (by kernel_rfl) (by kernel_rfl) (start_met os _)) ?_
 intro W base args ds gs before hval0 hW _ _ hL _
 have hval : ∀ (j : Nat) t v,Tryz.f4.params[j]? = some t → args[j]? = some v → Value.okWide Tryz.prog W .any base t v := hval0
 have hW' := hW
 obtain ⟨p,q,hA0,hV,rfl,hfz,hnd⟩ := hW
 have hA : DataW.TrodAll enc Tryz.prog W 0 (fun _ => true) true Tryz.f4.params.toList args.toList ds p := hA0
 rw [Tryz.params4] at hA hval
 obtain ⟨v0,vs0,d0,ds0,p0,q0,hargs,rfl,rfl,h0,r0⟩ := trodAll_cons hA
 obtain ⟨v1,vs1,d1,ds1,p1,q1,rfl,rfl,rfl,h1,r1⟩ := trodAll_cons r0
 obtain ⟨v2,vs2,d2,ds2,p2,q2,rfl,rfl,rfl,h2,r2⟩ := trodAll_cons r1
 obtain ⟨rfl,rfl,rfl⟩ := trodAll_nil r2
 obtain rfl : args = #[v0,v1,v2] := by cases args; simp_all
 obtain ⟨rfl,rfl⟩ := trodVars_none hV
 have k0 := h0
 have lt0 : ∀ x ∈ p0,x.block < W.heap.size := by obtain ⟨m,hm⟩ := k0; exact DataW.trod_lt m _ _ _ hm
 obtain ⟨neg0,ao0,n0,c0,bo0,m0,d0,f0,g0,rfl,w0,x0⟩ := open_wrat (hval 0 27 v0 rfl rfl) h0
 have k1 := h1
 have lt1 : ∀ x ∈ p1,x.block < W.heap.size := by obtain ⟨m,hm⟩ := k1; exact DataW.trod_lt m _ _ _ hm
 obtain ⟨neg1,ao1,n1,c1,bo1,m1,d1,f1,g1,rfl,w1,x1⟩ := open_wrat (hval 1 27 v1 rfl rfl) h1
 obtain ⟨a2,rfl,rfl,rfl,w2⟩ := open_int Tryz.underlying3 (hval 2 3 v2 rfl rfl) h2
 clear hA0 hval0
 refine (walk _ _ _ _ _ _ _ _ _ _ _ _ _ _ _ _ _ _ a2 W w0 x0 w1 x1 w2 (tab_of hL)).mono fun e W' ⟨he,bel⟩ => ?_
 subst he
 exact ⟨_,rfl,_,_,_,[],_,[],hW',trodAll_mk1 (shut_bool Tryz.underlying4 _),(trodAll_cons_mk (Below.trod laidOut (by kernel_rfl) (of_decide_eq_true (by kernel_rfl)) k0 bel lt0) (trodAll_cons_mk (Below.trod laidOut (by kernel_rfl) (of_decide_eq_true (by kernel_rfl)) k1 bel lt1) (trodAll_cons_mk (shut_int Tryz.underlying3 w2) trodAll_mk0))),rfl,bel.frame _,fun h => by cases h⟩

theorem over : Rows.ratioBetweensRow.holds Tryz.pinned (OpenSpec.ofChange Rows.ratioBetweensSpec) :=
 OpenClaim.holds_of_wide 4 Tryz.f4 rfl rfl rfl rfl rfl rfl rfl ⟨rfl,rfl,rfl,rfl,rfl⟩ rfl rfl rfl rfl rfl (by kernel_rfl) Tryz.func4 (by kernel_rfl)
  (of_decide_eq_true (by kernel_rfl)) (by unfold Func.isWrapper; first | (rw [if_pos (by decide +kernel)]; kernel_rfl) | (rw [if_neg (by decide +kernel)]; exact ⟨rfl,rfl⟩))
  (fun os started H enc _ => lifted os started H enc)

end Go.Proofs.YtpgioggbepdjpaaGreatDoor.ratioBetweens
namespace Go.Proofs.YtpgioggbepdjpaaGreatDoor
/-- The statement: the row, tied to the text of the program. -/
theorem ratioBetweens_holds : Rows.RatioBetweensCardSaid :=
 Claim7.holds_tied_plain_at .later [] [.data] true (true,"51394e755401dc49060e326d79ca5809954e3cac7b87752ebd6f82bbdd028512") false
  ratioBetweens.over (fun _ h => by cases h) (by kernel_rfl) (fun _ h => by cases h) ratioBetweens_row_tie rfl ⟨rfl,rfl⟩ (by kernel_rfl) rfl
  (fun f fn hf hfn => by
   obtain rfl : f = 4 := Option.some.inj ((show Tryz.prog.funcNamed "dendron/dendronlaw03.RatioBetweens" = some 4 by kernel_rfl).symm.trans hf) |>.symm
   obtain rfl : fn = Tryz.f4 := (Option.some.inj (Tryz.func4.symm.trans hfn)).symm
   exact ⟨by kernel_rfl,fun j t ht => by
    rw [Tryz.params4] at ht
    have hm : t ∈ [27,27,3] := by simpa using Array.mem_of_getElem? ht
    have hall : ([27,27,3].all fun u => !Tryz.prog.wantsStandIn u) = true := by kernel_rfl
    exact (show Tryz.prog.wantsStandIn t = false by simpa using List.all_eq_true.1 hall t hm)⟩)
  (by kernel_rfl)
end Go.Proofs.YtpgioggbepdjpaaGreatDoor
