/-
 Proves that Eval and Compose answer any polynomial of up to 5 coefficients of up to 2 limbs at any number,and one of another one at it,whatever comes in (the statement PolyValues,its tied card); the table of math/bits lies as the program's text lays it; no other condition.
-/
import Derived.Test.YtnbocjbfieklhaaGreatDoorJb016ad185a
import Derived.Test.YtnbocjbfieklhaaGreatDoorRows
import Derived.Test.YtnbocjbfieklhaaGreatDoorJff1c7caaac
import Derived.Test.YtnbocjbfieklhaaGreatDoorJ804b67139d
import Derived.Test.YtnbocjbfieklhaaGreatDoorJ1a324685d2
import Derived.Test.YtnbocjbfieklhaaGreatDoorJ3c12b2c2a0
import Derived.Test.YtnbocjbfieklhaaGreatDoorJ06af5f0dba
import Derived.WalkKit
import Derived.ProofKit
import Derived.OpenShut
import Derived.ShutString
import Derived.ChangeOld
import Derived.Below
import Derived.Test.YtnbocjbfieklhaaGreatDoorTie
import Derived.Test.YtnbocjbfieklhaaGreatDoorCards
import Derived.LaidByTextLater
import Derived.LaidHandle
import Derived.Lib.LaidTab
import Derived.SevenTiedAt
namespace Go.Proofs.YtnbocjbfieklhaaGreatDoor.polyValues
open Go.ChangeShapes Go.WideShapes Go.ChangeAt Go.RowKit
open Go.ChangeMaps (open_string shut_string)
set_option linter.unusedVariables false
set_option linter.unusedSimpArgs false

def KLIST : Nat := 2

set_option maxRecDepth 100000 in
set_option maxHeartbeats 32000000 in
theorem walk (v1 : Value) (n1 : Nat) (q : Nat → Rat) (v2 : Value) (n2 : Nat) (r : Nat → Rat) (px : Bool) (ax : Option Addr) (lx cx : Nat) (bx : Option Addr) (kx dx : Nat) (fx gx : Nat → Int) (w : World) (h1 : RawQ w v1 n1 q KLIST) (h2 : RawQ w v2 n2 r KLIST) (h3 : Raw w (.slice ax lx cx) lx fx) (h4 : Raw w (.slice bx kx dx) kx gx) (ht : Tab w) :
  Calls Tryz.prog 6 #[v1,v2,.agg #[.bool px,.slice ax lx cx,.slice bx kx dx]] w fun e w' => e = .returned (.bool true) ∧ Below w.heap.size w w' := by
 unfold KLIST at h1 h2
 have BB : Below w.heap.size w w := Below.refl _ _
 obtain ⟨Wb0,hW0,hS0,hL0,VX⟩ := V3.lay w 35 (.bool px) (.slice ax lx cx) (.slice bx kx dx)
 replace h1 := h1.below hL0
 replace h2 := h2.below hL0
 replace h3 := h3.below hL0
 replace h4 := h4.below hL0
 replace ht := ht.below hL0
 replace BB := BB.trans (hL0.mono BB.size)
 clear hL0
 go_enter Tryz.func6,Tryz.ntmps6
 go_wp2_with fail
 rw [← hW0]
 clear hW0 hS0
 have hB0 := VX.lt
 refine (few4_at _ n1 5 q _ h1 (by omega)).mono ?_
 rintro e w1 ⟨ra,rfl,QAo,b1⟩
 replace h1 := h1.below b1
 replace h2 := h2.below b1
 replace h3 := h3.below b1
 replace h4 := h4.below b1
 replace ht := ht.below b1
 replace VX := VX.below b1
 replace BB := BB.trans (b1.mono BB.size)
 clear b1
 have hB1 := VX.lt
 go_wp2_with fail
 refine (few4_at _ n2 4 r _ h2 (by omega)).mono ?_
 rintro e w2 ⟨rb,rfl,QBo,b2⟩
 replace h1 := h1.below b2
 replace h2 := h2.below b2
 replace h3 := h3.below b2
 replace h4 := h4.below b2
 replace ht := ht.below b2
 replace QAo := QAo.below b2
 replace VX := VX.below b2
 replace BB := BB.trans (b2.mono BB.size)
 clear b2
 clear h1 h2
 obtain ⟨n,hn⟩ : ∃ n,n = min n1 5 := ⟨_,rfl⟩
 rw [← hn] at QAo
 have hn5 : n ≤ 5 := by omega
 obtain ⟨m,hm⟩ : ∃ m,m = min n2 4 := ⟨_,rfl⟩
 rw [← hm] at QBo
 have hm4 : m ≤ 4 := by omega
 clear hn hm
 obtain ⟨aa,ca,rfl,_,_,_⟩ := QAo.row.open
 obtain ⟨ab,cb,rfl,_,_,_⟩ := QBo.row.open
 obtain ⟨VX_0,VX_1,VX_2,VX_3,VX_4,VX_5⟩ := id VX
 go_wp2_with fail
 clear VX_0 VX_1 VX_2 VX_3 VX_4 VX_5
 refine (number4_at _ _ _ _ _ _ _ _ h3 h4).mono ?_
 rintro e w3 ⟨aox,cox,box,dox,rfl,hu4,uf4,hv4,vf4,b3⟩
 replace h3 := h3.below b3
 replace h4 := h4.below b3
 replace ht := ht.below b3
 replace QAo := QAo.below b3
 replace QBo := QBo.below b3
 replace VX := VX.below b3
 replace BB := BB.trans (b3.mono BB.size)
 clear b3
 clear h3 h4
 obtain ⟨x,hs⟩ : ∃ s,s = mkRat (zof px (num fx (min lx 2))) (num gx (min kx 2)) := ⟨_,rfl⟩
 have Xx : RatAt w3 (.agg #[.bool px,.slice aox (min lx 2) cox,.slice box (min kx 2) dox]) x 2 := by rw [hs]; exact RatAt.raw hu4 uf4 hv4 vf4 (Nat.min_le_right _ _) (Nat.min_le_right _ _)
 clear hu4 uf4 hv4 vf4 hs
 generalize min lx 2 = l4x at Xx ⊢
 generalize min kx 2 = k4x at Xx ⊢
 have hKp := VX.keepJ (.bool px) (.slice aox l4x cox) (.slice box k4x dox)
 have VX_n := VX.same (.bool px) (.slice aox l4x cox) (.slice box k4x dox)
 have ht_n := ht.keep hKp
 have QAo_n := QAo.other (grown_set3 w3 (w.heap.size) (.bool px) (.slice aox l4x cox) (.slice box k4x dox)) hKp (fun g hg => by cases hg; omega)
 have QBo_n := QBo.other (grown_set3 w3 (w.heap.size) (.bool px) (.slice aox l4x cox) (.slice box k4x dox)) hKp (fun g hg => by cases hg; omega)
 have Xx_n := Xx.keep hKp
 have BB_n := below_store3 (R := w.heap.size) BB (by omega) (.bool px) (.slice aox l4x cox) (.slice box k4x dox)
 clear hKp
 obtain ⟨VX_0,VX_1,VX_2,VX_3,VX_4,VX_5⟩ := id VX
 go_wp2_with fail
 clear VX_0 VX_1 VX_2 VX_3 VX_4 VX_5
 clear BB ht QAo QBo Xx VX
 generalize ((w3.setCell ⟨w.heap.size,0,none⟩ (.bool px)).setCell ⟨w.heap.size,1,none⟩ (.slice aox l4x cox)).setCell ⟨w.heap.size,2,none⟩ (.slice box k4x dox) = W1 at *
 have BB := BB_n
 have ht := ht_n
 have QAo := QAo_n
 have QBo := QBo_n
 have Xx := Xx_n
 have VX := VX_n
 clear BB_n ht_n QAo_n QBo_n Xx_n VX_n
 have QP := QAo.row
 have QQ := QBo.row
 clear QAo QBo
 refine (pcompose_at _ _ n m q r _ QP QQ ht hn5 hm4).mono ?_
 rintro e w4 ⟨c,rfl,PC,b4⟩
 replace ht := ht.below b4
 replace Xx := Xx.below b4
 replace QP := QP.below b4
 replace QQ := QQ.below b4
 replace VX := VX.below b4
 replace BB := BB.trans (b4.mono BB.size)
 clear b4
 obtain ⟨mc,RC,FC,hmc,hsC,htC,heC⟩ := PC
 obtain ⟨ac,cc_,rfl⟩ := FC.open
 have HTC : Hid (0 < mc → RC (mc - 1) ≠ 0) := htC
 have sx := Xx.qsz (by omega)
 have sQ : ∀ i,i < n → qsz (q i) ≤ 2 := fun i hi => QP.sz (by omega) i hi
 have sR : ∀ i,i < m → qsz (r i) ≤ 2 := fun i hi => QQ.sz (by omega) i hi
 obtain ⟨e1,he1⟩ : ∃ z,evN q x n = z := ⟨_,rfl⟩
 have HE1 : Hid (evN q x n = e1) := he1
 have s1 : qsz e1 ≤ 71 := he1 ▸ Nat.le_trans (qsz_evN q x 2 2 sx n sQ) (Nat.succ_le_succ (Nat.le_trans (Nat.mul_le_mul hn5 (show 2 + 2 * n + 2 ≤ 14 by omega)) (by omega)))
 obtain ⟨e2,he2⟩ : ∃ z,evN r x m = z := ⟨_,rfl⟩
 have HE2 : Hid (evN r x m = e2) := he2
 have s2 : qsz e2 ≤ 49 := he2 ▸ Nat.le_trans (qsz_evN r x 2 2 sx m sR) (Nat.succ_le_succ (Nat.le_trans (Nat.mul_le_mul hm4 (show 2 + 2 * m + 2 ≤ 12 by omega)) (by omega)))
 obtain ⟨e3,he3⟩ : ∃ z,evN q e2 n = z := ⟨_,rfl⟩
 have HE3 : Hid (evN q e2 n = e3) := he3
 have s3 : qsz e3 ≤ 1246 := he3 ▸ Nat.le_trans (qsz_evN q e2 2 49 s2 n sQ) (Nat.succ_le_succ (Nat.le_trans (Nat.mul_le_mul hn5 (show 2 + 49 * n + 2 ≤ 249 by omega)) (by omega)))
 have HE4 : Hid (evN RC x mc = e3) := by rw [Hid,heC x]; show evN q (evN r x m) n = e3; rw [he2,he3]
 clear he1 he2 he3 htC heC
 have hP1 : n * (2 + 2 * n + 2) + 2 + 2 * n + 3 ≤ 90000 := Nat.le_trans (Nat.add_le_add_right (Nat.add_le_add (Nat.add_le_add_right (Nat.mul_le_mul hn5 (show 2 + 2 * n + 2 ≤ 14 by omega)) 2) (show 2 * n ≤ 10 by omega)) 3) (by omega)
 have hP2 : m * (2 + 2 * m + 2) + 2 + 2 * m + 3 ≤ 90000 := Nat.le_trans (Nat.add_le_add_right (Nat.add_le_add (Nat.add_le_add_right (Nat.mul_le_mul hm4 (show 2 + 2 * m + 2 ≤ 12 by omega)) 2) (show 2 * m ≤ 8 by omega)) 3) (by omega)
 have hP3 : n * (2 + 49 * n + 2) + 2 + 49 * n + 3 ≤ 90000 := Nat.le_trans (Nat.add_le_add_right (Nat.add_le_add (Nat.add_le_add_right (Nat.mul_le_mul hn5 (show 2 + 49 * n + 2 ≤ 249 by omega)) 2) (show 49 * n ≤ 245 by omega)) 3) (by omega)
 have hP4 : mc * (520 + 2 * mc + 2) + 520 + 2 * mc + 3 ≤ 90000 := Nat.le_trans (Nat.add_le_add_right (Nat.add_le_add (Nat.add_le_add_right (Nat.mul_le_mul hmc (show 520 + 2 * mc + 2 ≤ 562 by omega)) 520) (show 2 * mc ≤ 40 by omega)) 3) (by omega)
 go_wp2
 have hDr : Below w4.heap.size w4 w4.drew := (Below.refl _ _).drew
 replace ht := ht.below hDr
 replace Xx := Xx.below hDr
 replace QP := QP.below hDr
 replace QQ := QQ.below hDr
 replace FC := FC.below hDr
 replace VX := VX.below hDr
 replace BB := BB.trans (hDr.mono BB.size)
 clear hDr
 refine wp_region_held_drew (S := (fun w' => w'.cell? ⟨w.heap.size,0,none⟩ = some (.bool px) ∧ w'.cell? ⟨w.heap.size,1,none⟩ = some (.slice aox l4x cox) ∧ w'.cell? ⟨w.heap.size,2,none⟩ = some (.slice box k4x dox))) (by kernel_rfl) ?_ (fun hHeld => ?_)
 ·exact ⟨VX.1,VX.2.1,VX.2.2.1⟩
 generalize w4.drew = W2 at *
 refine xT 0 (v := ?_) (hy := Or.inl ⟨by rfl,?_⟩) (h := ?_)
 rotate_left
 ·(intro w hSw; (try dsimp only at hSw); go_simp; (try with_reducible rfl))
 (try simp only [Act.put,xL4,xL5,xL6])
 refine xT 1 (v := ?_) (hy := Or.inl ⟨by rfl,?_⟩) (h := ?_)
 rotate_left
 ·(intro w hSw; (try dsimp only at hSw); go_simp; (try with_reducible rfl))
 (try simp only [Act.put,xL4,xL5,xL6])
 refine xT 3 (v := ?_) (hy := Or.inl ⟨by rfl,?_⟩) (h := ?_)
 rotate_left
 ·(intro w hSw; (try dsimp only at hSw); go_simp; (try with_reducible rfl))
 (try simp only [Act.put,xL4,xL5,xL6])
 refine xT 4 (v := ?_) (hy := Or.inl ⟨by rfl,?_⟩) (h := ?_)
 rotate_left
 ·(intro w hSw; (try dsimp only at hSw); go_simp; (try with_reducible rfl))
 (try simp only [Act.put,xL4,xL5,xL6])
 refine xR [2] (h := ?_)
 refine xN (h := fun K hK => ?_)
 go_simp
 refine (peval_raw _ _ n 2 2 3 q x _ QP Xx ht (by omega) (by omega) (by omega) (by omega) (by decide)).mono ?_
 rintro e w5 ⟨r2,rfl,h2,b5⟩
 rw [HE1.out] at h2
 go_wp2_with fail
 replace ht := ht.below b5
 replace Xx := Xx.below b5
 replace QP := QP.below b5
 replace QQ := QQ.below b5
 replace FC := FC.below b5
 replace VX := VX.below b5
 replace BB := BB.trans (b5.mono BB.size)
 clear b5
 refine hK.out _ _ ?_ (fun hH1 => ?_)
 ·exact ⟨VX.1,VX.2.1,VX.2.2.1⟩
 clear hK K hHeld
 (try simp only [Act.put,xL4,xL5,xL6])
 refine xR [5] (h := ?_)
 refine xN (h := fun K hK => ?_)
 go_simp
 refine (value4_at _ _ n q x 2 2 _ QP Xx ht (by omega) (by omega) (by omega) hP1).mono ?_
 rintro e w6 ⟨r5,rfl,h5,b6⟩
 rw [HE1.out] at h5
 go_wp2_with fail
 replace ht := ht.below b6
 replace Xx := Xx.below b6
 replace QP := QP.below b6
 replace QQ := QQ.below b6
 replace FC := FC.below b6
 replace h2 := h2.below b6
 replace VX := VX.below b6
 replace BB := BB.trans (b6.mono BB.size)
 clear b6
 refine hK.out _ _ ?_ (fun hH2 => ?_)
 ·exact ⟨VX.1,VX.2.1,VX.2.2.1⟩
 clear hK K hH1
 (try simp only [Act.put,xL4,xL5,xL6])
 refine xR [6] (h := ?_)
 refine xN (h := fun K hK => ?_)
 go_simp
 refine (qsame_at _ _ e1 e1 71 _ (h2.at _ s1) (h5.at _ s1) (by omega) (by omega)).mono ?_
 rintro e w7 ⟨rfl,b7⟩
 rw [decide_eq_true (rfl : e1 = e1)]
 go_wp2_with fail
 replace ht := ht.below b7
 replace Xx := Xx.below b7
 replace QP := QP.below b7
 replace QQ := QQ.below b7
 replace FC := FC.below b7
 replace h2 := h2.below b7
 replace h5 := h5.below b7
 replace VX := VX.below b7
 replace BB := BB.trans (b7.mono BB.size)
 clear b7
 refine hK.out _ _ ?_ (fun hH3 => ?_)
 ·exact ⟨VX.1,VX.2.1,VX.2.2.1⟩
 clear hK K hH2
 (try simp only [Act.put,xL4,xL5,xL6])
 refine xT 7 (v := ?_) (hy := Or.inl ⟨by rfl,?_⟩) (h := ?_)
 rotate_left
 ·(intro w hSw; (try dsimp only at hSw); go_simp; (try with_reducible rfl))
 (try simp only [Act.put,xL4,xL5,xL6])
 refine xT 8 (v := ?_) (hy := Or.inl ⟨by rfl,?_⟩) (h := ?_)
 rotate_left
 ·(intro w hSw; (try dsimp only at hSw); go_simp; (try with_reducible rfl))
 (try simp only [Act.put,xL4,xL5,xL6])
 refine xT 9 (v := ?_) (hy := Or.inl ⟨by rfl,?_⟩) (h := ?_)
 rotate_left
 ·(intro w hSw; (try dsimp only at hSw); go_simp; (try with_reducible rfl))
 (try simp only [Act.put,xL4,xL5,xL6])
 refine xR [10] (h := ?_)
 refine xN (h := fun K hK => ?_)
 go_simp
 refine (peval_raw _ _ n 2 2 3 q x _ QP Xx ht (by omega) (by omega) (by omega) (by omega) (by decide)).mono ?_
 rintro e w8 ⟨r10,rfl,h10,b8⟩
 rw [HE1.out] at h10
 go_wp2_with fail
 replace ht := ht.below b8
 replace Xx := Xx.below b8
 replace QP := QP.below b8
 replace QQ := QQ.below b8
 replace FC := FC.below b8
 replace h2 := h2.below b8
 replace h5 := h5.below b8
 replace VX := VX.below b8
 replace BB := BB.trans (b8.mono BB.size)
 clear b8
 refine hK.out _ _ ?_ (fun hH4 => ?_)
 ·exact ⟨VX.1,VX.2.1,VX.2.2.1⟩
 clear hK K hH3
 (try simp only [Act.put,xL4,xL5,xL6])
 refine xR [11] (h := ?_)
 refine xN (h := fun K hK => ?_)
 go_simp
 refine (qright_rep _ e1 _ h10 (by omega) ht).mono ?_
 rintro e w9 ⟨rfl,b9⟩
 go_wp2_with fail
 replace ht := ht.below b9
 replace Xx := Xx.below b9
 replace QP := QP.below b9
 replace QQ := QQ.below b9
 replace FC := FC.below b9
 replace h2 := h2.below b9
 replace h5 := h5.below b9
 replace h10 := h10.below b9
 replace VX := VX.below b9
 replace BB := BB.trans (b9.mono BB.size)
 clear b9
 refine hK.out _ _ ?_ (fun hH5 => ?_)
 ·exact ⟨VX.1,VX.2.1,VX.2.2.1⟩
 clear hK K hH4
 (try simp only [Act.put,xL4,xL5,xL6])
 refine xT 12 (v := ?_) (hy := Or.inl ⟨by rfl,?_⟩) (h := ?_)
 rotate_left
 ·(intro w hSw; (try dsimp only at hSw); go_simp; (try with_reducible rfl))
 (try simp only [Act.put,xL4,xL5,xL6])
 refine xT 13 (v := ?_) (hy := Or.inl ⟨by rfl,?_⟩) (h := ?_)
 rotate_left
 ·(intro w hSw; (try dsimp only at hSw); go_simp; (try with_reducible rfl))
 (try simp only [Act.put,xL4,xL5,xL6])
 refine xT 14 (v := ?_) (hy := Or.inl ⟨by rfl,?_⟩) (h := ?_)
 rotate_left
 ·(intro w hSw; (try dsimp only at hSw); go_simp; (try with_reducible rfl))
 (try simp only [Act.put,xL4,xL5,xL6])
 refine xR [15] (h := ?_)
 refine xN (h := fun K hK => ?_)
 go_simp
 refine (right4_at _ mc RC _ FC (fun i hi => Nat.le_trans (hsC i hi) (by omega)) ht (by omega) HTC.out).mono ?_
 rintro e w10 ⟨rfl,b10⟩
 go_wp2_with fail
 replace ht := ht.below b10
 replace Xx := Xx.below b10
 replace QP := QP.below b10
 replace QQ := QQ.below b10
 replace FC := FC.below b10
 replace h2 := h2.below b10
 replace h5 := h5.below b10
 replace h10 := h10.below b10
 replace VX := VX.below b10
 replace BB := BB.trans (b10.mono BB.size)
 clear b10
 refine hK.out _ _ ?_ (fun hH6 => ?_)
 ·exact ⟨VX.1,VX.2.1,VX.2.2.1⟩
 clear hK K hH5
 (try simp only [Act.put,xL4,xL5,xL6])
 refine xT 16 (v := ?_) (hy := Or.inl ⟨by rfl,?_⟩) (h := ?_)
 rotate_left
 ·(intro w hSw; (try dsimp only at hSw); go_simp; (try with_reducible rfl))
 (try simp only [Act.put,xL4,xL5,xL6])
 refine xT 17 (v := ?_) (hy := Or.inl ⟨by rfl,?_⟩) (h := ?_)
 rotate_left
 ·(intro w hSw; (try dsimp only at hSw); go_simp; (try with_reducible rfl))
 (try simp only [Act.put,xL4,xL5,xL6])
 refine xT 18 (v := ?_) (hy := Or.inl ⟨by rfl,?_⟩) (h := ?_)
 rotate_left
 ·(intro w hSw; (try dsimp only at hSw); go_simp; (try with_reducible rfl))
 (try simp only [Act.put,xL4,xL5,xL6])
 refine xT 19 (v := ?_) (hy := Or.inl ⟨by rfl,?_⟩) (h := ?_)
 rotate_left
 ·(intro w hSw; (try dsimp only at hSw); go_simp; (try with_reducible rfl))
 (try simp only [Act.put,xL4,xL5,xL6])
 refine xT 21 (v := ?_) (hy := Or.inl ⟨by rfl,?_⟩) (h := ?_)
 rotate_left
 ·(intro w hSw; (try dsimp only at hSw); go_simp; (try with_reducible rfl))
 (try simp only [Act.put,xL4,xL5,xL6])
 refine xT 22 (v := ?_) (hy := Or.inl ⟨by rfl,?_⟩) (h := ?_)
 rotate_left
 ·(intro w hSw; (try dsimp only at hSw); go_simp; (try with_reducible rfl))
 (try simp only [Act.put,xL4,xL5,xL6])
 refine xT 23 (v := ?_) (hy := Or.inl ⟨by rfl,?_⟩) (h := ?_)
 rotate_left
 ·(intro w hSw; (try dsimp only at hSw); go_simp; (try with_reducible rfl))
 (try simp only [Act.put,xL4,xL5,xL6])
 refine xR [20] (h := ?_)
 refine xN (h := fun K hK => ?_)
 go_simp
 refine (value4_at _ _ mc RC x 520 2 _ (FC.q 520 hsC) Xx ht (by omega) (by omega) (by omega) hP4).mono ?_
 rintro e w11 ⟨r20,rfl,h20,b11⟩
 rw [HE4.out] at h20
 go_wp2_with fail
 replace ht := ht.below b11
 replace Xx := Xx.below b11
 replace QP := QP.below b11
 replace QQ := QQ.below b11
 replace FC := FC.below b11
 replace h2 := h2.below b11
 replace h5 := h5.below b11
 replace h10 := h10.below b11
 replace VX := VX.below b11
 replace BB := BB.trans (b11.mono BB.size)
 clear b11
 refine hK.out _ _ ?_ (fun hH7 => ?_)
 ·exact ⟨VX.1,VX.2.1,VX.2.2.1⟩
 clear hK K hH6
 (try simp only [Act.put,xL4,xL5,xL6])
 refine xR [24] (h := ?_)
 refine xN (h := fun K hK => ?_)
 go_simp
 refine (value4_at _ _ m r x 2 2 _ QQ Xx ht (by omega) (by omega) (by omega) hP2).mono ?_
 rintro e w12 ⟨r24,rfl,h24,b12⟩
 rw [HE2.out] at h24
 go_wp2_with fail
 replace ht := ht.below b12
 replace Xx := Xx.below b12
 replace QP := QP.below b12
 replace QQ := QQ.below b12
 replace FC := FC.below b12
 replace h2 := h2.below b12
 replace h5 := h5.below b12
 replace h10 := h10.below b12
 replace h20 := h20.below b12
 replace VX := VX.below b12
 replace BB := BB.trans (b12.mono BB.size)
 clear b12
 refine hK.out _ _ ?_ (fun hH8 => ?_)
 ·exact ⟨VX.1,VX.2.1,VX.2.2.1⟩
 clear hK K hH7
 (try simp only [Act.put,xL4,xL5,xL6])
 refine xR [25] (h := ?_)
 refine xN (h := fun K hK => ?_)
 go_simp
 refine (value4_at _ _ n q e2 2 49 _ QP (h24.at _ s2) ht (by omega) (by omega) (by omega) hP3).mono ?_
 rintro e w13 ⟨r25,rfl,h25,b13⟩
 rw [HE3.out] at h25
 go_wp2_with fail
 replace ht := ht.below b13
 replace Xx := Xx.below b13
 replace QP := QP.below b13
 replace QQ := QQ.below b13
 replace FC := FC.below b13
 replace h2 := h2.below b13
 replace h5 := h5.below b13
 replace h10 := h10.below b13
 replace h20 := h20.below b13
 replace h24 := h24.below b13
 replace VX := VX.below b13
 replace BB := BB.trans (b13.mono BB.size)
 clear b13
 refine hK.out _ _ ?_ (fun hH9 => ?_)
 ·exact ⟨VX.1,VX.2.1,VX.2.2.1⟩
 clear hK K hH8
 (try simp only [Act.put,xL4,xL5,xL6])
 refine xR [26] (h := ?_)
 refine xN (h := fun K hK => ?_)
 go_simp
 refine (qsame_at _ _ e3 e3 1246 _ (h20.at _ s3) (h25.at _ s3) (by omega) (by omega)).mono ?_
 rintro e w14 ⟨rfl,b14⟩
 rw [decide_eq_true (rfl : e3 = e3)]
 go_wp2_with fail
 replace ht := ht.below b14
 replace Xx := Xx.below b14
 replace QP := QP.below b14
 replace QQ := QQ.below b14
 replace FC := FC.below b14
 replace h2 := h2.below b14
 replace h5 := h5.below b14
 replace h10 := h10.below b14
 replace h20 := h20.below b14
 replace h24 := h24.below b14
 replace h25 := h25.below b14
 replace VX := VX.below b14
 replace BB := BB.trans (b14.mono BB.size)
 clear b14
 refine hK.out _ _ ?_ (fun hH10 => ?_)
 ·exact ⟨VX.1,VX.2.1,VX.2.2.1⟩
 clear hK K hH9
 (try simp only [Act.put,xL4,xL5,xL6])
 refine xT 27 (v := ?_) (hy := Or.inl ⟨by rfl,?_⟩) (h := ?_)
 rotate_left
 ·(intro w hSw; (try dsimp only at hSw); go_simp; (try with_reducible rfl))
 (try simp only [Act.put,xL4,xL5,xL6])
 refine xT 28 (v := ?_) (hy := Or.inl ⟨by rfl,?_⟩) (h := ?_)
 rotate_left
 ·(intro w hSw; (try dsimp only at hSw); go_simp; (try with_reducible rfl))
 (try simp only [Act.put,xL4,xL5,xL6])
 refine xR [29] (h := ?_)
 refine xN (h := fun K hK => ?_)
 go_simp
 refine (awake4_at _ ht).mono ?_
 rintro e w15 ⟨rfl,b15⟩
 go_wp2_with fail
 replace ht := ht.below b15
 replace Xx := Xx.below b15
 replace QP := QP.below b15
 replace QQ := QQ.below b15
 replace FC := FC.below b15
 replace h2 := h2.below b15
 replace h5 := h5.below b15
 replace h10 := h10.below b15
 replace h20 := h20.below b15
 replace h24 := h24.below b15
 replace h25 := h25.below b15
 replace VX := VX.below b15
 replace BB := BB.trans (b15.mono BB.size)
 clear b15
 refine hK.out _ _ ?_ (fun hH11 => ?_)
 ·exact ⟨VX.1,VX.2.1,VX.2.2.1⟩
 clear hK K hH10
 (try simp only [Act.put,xL4,xL5,xL6])
 refine xT 30 (v := ?_) (hy := Or.inl ⟨by rfl,?_⟩) (h := ?_)
 rotate_left
 ·(intro w hSw; (try dsimp only at hSw); go_simp; (try with_reducible rfl))
 (try simp only [Act.put,xL4,xL5,xL6])
 refine xT 31 (v := ?_) (hy := Or.inl ⟨by rfl,?_⟩) (h := ?_)
 rotate_left
 ·(intro w hSw; (try dsimp only at hSw); go_simp; (try with_reducible rfl))
 (try simp only [Act.put,xL4,xL5,xL6])
 refine wpAnyH_done (by kernel_rfl) ?_ _
 clear hH11
 go_wp2
 go_ret
 exact ⟨rfl,BB⟩

theorem own : ownKnob Tryz.prog.godebug = none := by kernel_rfl
theorem laidOut : laidOutB Tryz.prog = true := by kernel_rfl

abbrev laid1 : List (String × DataW Unit) := [("math/bits.deBruijn64tab",Rows.laid_math_bits_deBruijn64tab)]
theorem gTab : Tryz.prog.globalNamed "math/bits.deBruijn64tab" = some 0 := by kernel_rfl
theorem gTabType : (Tryz.prog.globals[0]?).map (·.type) = some 137 := by kernel_rfl
theorem uTab : Tryz.prog.underlying 137 = some (.array 64 5) := by kernel_rfl
theorem uCell : Tryz.prog.underlying 5 = some (.int .u8) := by kernel_rfl
theorem cCell : Tryz.prog.cellsOf 5 = 1 := by kernel_rfl
theorem cTab : Tryz.prog.cellsOf 137 = 64 := by kernel_rfl
/-- The listed table lies in its cells. -/
theorem tab_of {W : World} (h : laidMetH Tryz.prog laid1 W) : Tab W := by
 rw [MakeChecks.laidMetH_plain _ _ _ (by kernel_rfl)] at h
 have hd : laid1 = [("math/bits.deBruijn64tab",Lib.tabData .u8 (Lib.deBruijn64tab.map fun (n : Nat) => Int.ofNat n))] := rfl
 rw [hd] at h
 have hT := Lib.tabIs_of_head gTab gTabType uTab uCell cCell cTab h
 intro i hi
 have hc := hT.cell gTab i (by rw [List.length_map]; exact hi)
 rw [hc]
 congr 2
 rw [List.getD_eq_getElem?_getD,List.getElem?_map,List.getD_eq_getElem?_getD]
 cases Lib.deBruijn64tab[i]? <;> rfl
/-- A start for the witness: the heap that the run of the program's own initialisers leaves. -/
noncomputable def startW (os : Os) : World := { World.holding Tryz.prog os ⟨#[],#[],[]⟩ with heap := (varsWorld Tryz.prog 400 (varsId Tryz.prog) os (fun _ _ => 0)).heap }
theorem start_met (os : Os) (args : Array Value) : laidMetH Tryz.prog laid1 ((startW os).forCall (fun _ _ => 0) ⟨#[],args,[]⟩).memory :=
 laidMetH_of_parts3 (fuel := 8) (laidMet_of_run' 8 (by kernel_rfl) (by kernel_rfl)) (by kernel_rfl) (by kernel_rfl)

set_option maxRecDepth 100000 in
theorem lifted (os : Os) (started : os.Started) (H : Type) (enc : TypeId × Value → H) :
  ReturnsInHanded {} Tryz.checked os 6 .any (fun w args => (Rows.polyValuesSpec.pre enc Tryz.prog Tryz.f6 [] false w args ∧ laidMetH Tryz.prog laid1 w) ∧ sizedMet enc Tryz.prog Tryz.f6 (OpenSpec.ofChange Rows.polyValuesSpec) false w args) (Rows.polyValuesSpec.post enc Tryz.prog Tryz.f6 false true false false) := by
 refine returnsInHanded_of_change_and (C := Tryz.checked) (X := fun w _ => laidMetH Tryz.prog laid1 w) (fun _ _ _ hh h => h.of_heap hh) own started (by kernel_rfl) Tryz.func6
  (ChangeSpec.witness_shaped (enc := enc) (C := Tryz.checked) (os := os) (X := fun w _ => laidMetH Tryz.prog laid1 w) false (startW os) #[.slice none 0 0,.slice none 0 0,.agg #[.bool false,.slice none 0 0,.slice none 0 0]] 8 rfl (World.shaped_of_RefB (by kernel_rfl) (by kernel_rfl)) (by kernel_rfl) (by kernel_rfl) (by kernel_rfl) (start_met os _)) ?_
 intro W base args ds gs before hval0 hW _ _ hL _
 have hval : ∀ (j : Nat) t v,Tryz.f6.params[j]? = some t → args[j]? = some v → Value.okWide Tryz.prog W .any base t v := hval0
 have hW' := hW
 obtain ⟨p,q,hA0,hV,rfl,hfz,hnd⟩ := hW
 have hA : DataW.TrodAll enc Tryz.prog W 0 (fun _ => true) true Tryz.f6.params.toList args.toList ds p := hA0
 rw [Tryz.params6] at hA hval
 obtain ⟨v0,vs0,d0,ds0,p0,q0,hargs,rfl,rfl,h0,r0⟩ := trodAll_cons hA
 obtain ⟨v1,vs1,d1,ds1,p1,q1,rfl,rfl,rfl,h1,r1⟩ := trodAll_cons r0
 obtain ⟨v2,vs2,d2,ds2,p2,q2,rfl,rfl,rfl,h2,r2⟩ := trodAll_cons r1
 obtain ⟨rfl,rfl,rfl⟩ := trodAll_nil r2
 obtain rfl : args = #[v0,v1,v2] := by cases args; simp_all
 obtain ⟨rfl,rfl⟩ := trodVars_none hV
 have k0 := h0
 have lt0 : ∀ x ∈ p0,x.block < W.heap.size := by obtain ⟨m,hm⟩ := k0; exact DataW.trod_lt m _ _ _ hm
 obtain ⟨n0,z0,w0⟩ := open_wrats KLIST (hval 0 22 v0 rfl rfl) h0
 have k1 := h1
 have lt1 : ∀ x ∈ p1,x.block < W.heap.size := by obtain ⟨m,hm⟩ := k1; exact DataW.trod_lt m _ _ _ hm
 obtain ⟨n1,z1,w1⟩ := open_wrats KLIST (hval 1 22 v1 rfl rfl) h1
 have k2 := h2
 have lt2 : ∀ x ∈ p2,x.block < W.heap.size := by obtain ⟨m,hm⟩ := k2; exact DataW.trod_lt m _ _ _ hm
 obtain ⟨neg2,ao2,n2,c2,bo2,m2,d2,f2,g2,rfl,w2,x2⟩ := open_wrat (hval 2 35 v2 rfl rfl) h2
 clear hA0 hval0
 refine (walk _ _ _ _ _ _ _ _ _ _ _ _ _ _ _ W w0 w1 w2 x2 (tab_of hL)).mono fun e W' ⟨he,bel⟩ => ?_
 subst he
 exact ⟨_,rfl,_,_,_,[],_,[],hW',trodAll_mk1 (shut_bool Tryz.underlying4 _),(trodAll_cons_mk (Below.trod laidOut (by kernel_rfl) (of_decide_eq_true (by kernel_rfl)) k0 bel lt0) (trodAll_cons_mk (Below.trod laidOut (by kernel_rfl) (of_decide_eq_true (by kernel_rfl)) k1 bel lt1) (trodAll_cons_mk (Below.trod laidOut (by kernel_rfl) (of_decide_eq_true (by kernel_rfl)) k2 bel lt2) trodAll_mk0))),rfl,bel.frame _,fun h => by cases h⟩

theorem over : Rows.polyValuesRow.holds Tryz.pinned (OpenSpec.ofChange Rows.polyValuesSpec) :=
 OpenClaim.holds_of_wide 6 Tryz.f6 rfl rfl rfl rfl rfl rfl rfl ⟨rfl,rfl,rfl,rfl,rfl⟩ rfl rfl rfl rfl rfl (by kernel_rfl) Tryz.func6 (by kernel_rfl)
  (of_decide_eq_true (by kernel_rfl)) (by unfold Func.isWrapper; first | (rw [if_pos (by decide +kernel)]; kernel_rfl) | (rw [if_neg (by decide +kernel)]; exact ⟨rfl,rfl⟩))
  (fun os started H enc _ => lifted os started H enc)

end Go.Proofs.YtnbocjbfieklhaaGreatDoor.polyValues
namespace Go.Proofs.YtnbocjbfieklhaaGreatDoor
/-- The statement: the row, tied to the text of the program. -/
theorem polyValues_holds : Rows.PolyValuesCardSaid :=
 Claim7.holds_tied_plain_at .later [] [.data] true (true,"bbc665b88dfdf00f59a32d7f70012164447cbec1d4343b32efd05aa9803691dc") false
  polyValues.over (fun _ h => by cases h) (by kernel_rfl) (fun _ h => by cases h) polyValues_row_tie rfl ⟨rfl,rfl⟩ (by kernel_rfl) rfl
  (fun f fn hf hfn => by
   obtain rfl : f = 6 := Option.some.inj ((show Tryz.prog.funcNamed "dendron/dendronlaw04.PolyValues" = some 6 by kernel_rfl).symm.trans hf) |>.symm
   obtain rfl : fn = Tryz.f6 := (Option.some.inj (Tryz.func6.symm.trans hfn)).symm
   exact ⟨by kernel_rfl,fun j t ht => by
    rw [Tryz.params6] at ht
    have hm : t ∈ [22,22,35] := by simpa using Array.mem_of_getElem? ht
    have hall : ([22,22,35].all fun u => !Tryz.prog.wantsStandIn u) = true := by kernel_rfl
    exact (show Tryz.prog.wantsStandIn t = false by simpa using List.all_eq_true.1 hall t hm)⟩)
  (by kernel_rfl)
end Go.Proofs.YtnbocjbfieklhaaGreatDoor
