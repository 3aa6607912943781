/-
  Texts of mine, joined: what lies beneath the statement.
-/
import Derived.Test.YtpgioggbepdjpaaGreatDoorJc6147c59cf
import Derived.Test.YtpgioggbepdjpaaGreatDoorJaa957d5392
import Derived.Test.YtpgioggbepdjpaaGreatDoorJ5d56089f73
import Derived.Test.YtpgioggbepdjpaaGreatDoorJe9b0c7e062
import Derived.Test.YtpgioggbepdjpaaGreatDoorJ31e4bc19d4
namespace Go.Proofs.YtpgioggbepdjpaaGreatDoor
open Go.RowKit
set_option linter.unusedVariables false
set_option linter.unusedSimpArgs false
theorem qsz_floor (q : Rat) {L : Nat} (h : qsz q ≤ L) : nl W32 q.floor.natAbs ≤ L + 1 := by
 rw [← Rat.mkRat_self q,floor_mkRat _ _ (Nat.pos_of_ne_zero q.den_nz)]
 exact fdiv_nl _ _ _ (Nat.le_trans (qsz_num q) h)
def nearQ (q : Rat) (A C D E : Nat) : Rat := if ((D : Int) : Rat) / ((E : Int) : Rat) - (q - (q.floor : Rat)) < q - (q.floor : Rat) - ((A : Int) : Rat) / ((C : Int) : Rat) ∨ (q - (q.floor : Rat) - ((A : Int) : Rat) / ((C : Int) : Rat) = ((D : Int) : Rat) / ((E : Int) : Rat) - (q - (q.floor : Rat)) ∧ E < C) then (q.floor : Rat) + ((D : Int) : Rat) / ((E : Int) : Rat) else (q.floor : Rat) + ((A : Int) : Rat) / ((C : Int) : Rat)
theorem cmpQ_two (a b : Rat) : (cmpQ a b > 0 ↔ b < a) ∧ (cmpQ a b = 0 ↔ a = b) := by
 have h0 := cmpQ_zero a b
 have h1 := cmpQ_pos a b
 refine ⟨?_,?_⟩
 ·rw [gt_iff_lt,← decide_eq_true_iff (p := 0 < cmpQ a b),h1,decide_eq_true_iff]
 ·rw [← beq_iff_eq,h0,decide_eq_true_iff]
set_option maxRecDepth 20000 in
set_option maxHeartbeats 8000000 in
theorem near_any (v : Value) (q : Rat) (L most : Nat) (w : World) (hv : RatAt w v q L) (ht : Tab w) (hL : 2 ≤ L) (hM : L ≤ 30000) (hm0 : 1 ≤ most) (hm : most ≤ 4096) (A C D E : Nat) (hA : A ≤ 4096) (hC : C ≤ 4096) (hD : D ≤ 4096) (hE : E ≤ 4096) (hab : aboutN (q - (q.floor : Rat)) most (most + 1) 0 1 1 1 = (A,C,D,E)) :
  Calls Tryz.prog 8 #[v,.int .i64 (most : Int)] w fun e w' => ∃ r,e = .returned (.tuple #[r,.int .i64 0]) ∧ RepQ w' r (nearQ q A C D E) ∧ Below w.heap.size w w' := by
 obtain ⟨p,ao,n,c,bo,m,d,rfl⟩ := hv.open
 have hqs := hv.qsz (by omega)
 have hfl := qsz_floor q hqs
 have hsf : qsz (q.floor : Rat) ≤ L + 1 := qsz_int _ hfl (by omega)
 have hsr : qsz (q - (q.floor : Rat)) ≤ L + (L + 1) + 1 := qsz_sub _ _ hqs hsf
 have hsa := qsz_frac (A : Int) (C : Int) (by omega) (by omega)
 have hsd := qsz_frac (D : Int) (E : Int) (by omega) (by omega)
 have j1 : ¬ (most : Int) < 1 := by omega
 have j2 : ¬ (most : Int) > 4096 := by omega
 have HN : Hid (nearQ q A C D E = if ((D : Int) : Rat) / ((E : Int) : Rat) - (q - (q.floor : Rat)) < q - (q.floor : Rat) - ((A : Int) : Rat) / ((C : Int) : Rat) ∨ (q - (q.floor : Rat) - ((A : Int) : Rat) / ((C : Int) : Rat) = ((D : Int) : Rat) / ((E : Int) : Rat) - (q - (q.floor : Rat)) ∧ E < C) then (q.floor : Rat) + ((D : Int) : Rat) / ((E : Int) : Rat) else (q.floor : Rat) + ((A : Int) : Rat) / ((C : Int) : Rat)) := rfl
 have BB : Below w.heap.size w w := Below.refl _ _
 obtain ⟨Wb0,hW0,hS0,hL0,VA⟩ := V3.lay w 27 (.bool p) (.slice ao n c) (.slice bo m d)
 replace hv := hv.below hL0
 replace ht := ht.below hL0
 replace BB := BB.trans (hL0.mono BB.size)
 clear hL0
 obtain ⟨Wb1,hW1,hS1,hL1,VR⟩ := V3.lay Wb0 27 (.bool false) (.slice none 0 0) (.slice none 0 0)
 rw [hS0] at VR hS1
 replace hv := hv.below hL1
 replace ht := ht.below hL1
 replace VA := VA.below hL1
 replace BB := BB.trans (hL1.mono BB.size)
 clear hL1
 go_enter Tryz.func8,Tryz.ntmps8
 go_wp2_with fail
 rw [← hW0]
 rw [← hW1]
 clear hW0 hW1 hS0 hS1
 refine (qfloor_at _ _ _ _ hv (by omega) (by omega)).mono ?_
 rintro e w1 ⟨fv,rfl,hf,b1⟩
 replace hv := hv.below b1
 replace ht := ht.below b1
 replace VA := VA.below b1
 replace VR := VR.below b1
 replace BB := BB.trans (b1.mono BB.size)
 clear b1
 go_wp2_with fail
 refine (qint_at _ _ _ _ (hf.at _ hfl)).mono ?_
 rintro e w2 ⟨gv,rfl,hg,b2⟩
 replace hv := hv.below b2
 replace ht := ht.below b2
 replace hf := hf.below b2
 replace VA := VA.below b2
 replace VR := VR.below b2
 replace BB := BB.trans (b2.mono BB.size)
 clear b2
 obtain ⟨pg,ag,ng,cg,bg,mg,dg_,rfl⟩ := hg.open
 clear hf
 have hZ1 : w.heap.size ≤ w2.heap.size := BB.size
 have hN1VA : w.heap.size ≠ w2.heap.size := Nat.ne_of_lt VA.lt
 have hN1VR : w.heap.size + 1 ≠ w2.heap.size := Nat.ne_of_lt VR.lt
 obtain ⟨W1,hW1,hS1,hL1,VF⟩ := V3.lay w2 27 (.bool pg) (.slice ag ng cg) (.slice bg mg dg_)
 replace hv := hv.below hL1
 replace ht := ht.below hL1
 replace hg := hg.below hL1
 replace VA := VA.below hL1
 replace VR := VR.below hL1
 replace BB := BB.trans (hL1.mono BB.size)
 clear hL1
 obtain ⟨VA_0,VA_1,VA_2,VA_3,VA_4,VA_5⟩ := id VA
 rw [hW1] at VA_0 VA_1 VA_2 VA_3 VA_4 VA_5
 go_wp2_with fail
 clear VA_0 VA_1 VA_2 VA_3 VA_4 VA_5
 rw [← hW1]
 generalize w2.heap.size = R1 at *
 clear hW1 hS1
 have hgf := hg.at (L + 1) hsf
 refine (qsub_at _ _ q (q.floor : Rat) (L + 1) _ (hv.le (by omega)) hgf (by omega) (by omega) ht).mono ?_
 rintro e w3 ⟨rv,rfl,hr0,b3⟩
 replace hv := hv.below b3
 replace ht := ht.below b3
 replace hg := hg.below b3
 replace hgf := hgf.below b3
 replace VA := VA.below b3
 replace VR := VR.below b3
 replace VF := VF.below b3
 replace BB := BB.trans (b3.mono BB.size)
 clear b3
 obtain ⟨pe,ae,ne,ce,be,me,de,rfl⟩ := hr0.open
 generalize hF : (q.floor : Rat) = F at *
 generalize hSS : q - F = S at *
 clear hg hv
 have hZ2 : w.heap.size ≤ w3.heap.size := BB.size
 have hN2VA : w.heap.size ≠ w3.heap.size := Nat.ne_of_lt VA.lt
 have hN2VR : w.heap.size + 1 ≠ w3.heap.size := Nat.ne_of_lt VR.lt
 have hN2VF : R1 ≠ w3.heap.size := Nat.ne_of_lt VF.lt
 obtain ⟨W2,hW2,hS2,hL2,VS⟩ := V3.lay w3 27 (.bool pe) (.slice ae ne ce) (.slice be me de)
 replace ht := ht.below hL2
 replace hgf := hgf.below hL2
 replace hr0 := hr0.below hL2
 replace VA := VA.below hL2
 replace VR := VR.below hL2
 replace VF := VF.below hL2
 replace BB := BB.trans (hL2.mono BB.size)
 clear hL2
 go_wp2_with fail
 rw [← hW2]
 generalize w3.heap.size = R2 at *
 clear hW2 hS2
 have hS := hr0.at (L + (L + 1) + 1) hsr
 clear hr0
 refine (about_at _ S (L + (L + 1) + 1) most _ hS ht (by omega) (by omega) (by omega) A C D E hab).mono ?_
 rintro e w4 ⟨rfl,b4⟩
 replace ht := ht.below b4
 replace hgf := hgf.below b4
 replace hS := hS.below b4
 replace VA := VA.below b4
 replace VR := VR.below b4
 replace VF := VF.below b4
 replace VS := VS.below b4
 replace BB := BB.trans (b4.mono BB.size)
 clear b4
 have hZ3 : w.heap.size ≤ w4.heap.size := BB.size
 have hN3VA : w.heap.size < w4.heap.size := VA.lt
 have hN3VR : w.heap.size + 1 < w4.heap.size := VR.lt
 have hN3VF : R1 < w4.heap.size := VF.lt
 have hN3VS : R2 < w4.heap.size := VS.lt
 obtain ⟨W4,hW4,hS4,hL4,VL⟩ := V2.lay w4 72 (.int .i64 (A : Int)) (.int .i64 (C : Int))
 replace ht := ht.below hL4
 replace hgf := hgf.below hL4
 replace hS := hS.below hL4
 replace VA := VA.below hL4
 replace VR := VR.below hL4
 replace VF := VF.below hL4
 replace VS := VS.below hL4
 replace BB := BB.trans (hL4.mono BB.size)
 clear hL4
 obtain ⟨W5,hW5,hS5,hL5,VH⟩ := V2.lay W4 72 (.int .i64 (D : Int)) (.int .i64 (E : Int))
 replace ht := ht.below hL5
 replace hgf := hgf.below hL5
 replace hS := hS.below hL5
 replace VA := VA.below hL5
 replace VR := VR.below hL5
 replace VF := VF.below hL5
 replace VS := VS.below hL5
 replace VL := VL.below hL5
 replace BB := BB.trans (hL5.mono BB.size)
 clear hL5
 obtain ⟨W6,hW6,hS6,hL6,VM⟩ := V2.lay W5 72 (.int .i64 (A : Int)) (.int .i64 (C : Int))
 replace ht := ht.below hL6
 replace hgf := hgf.below hL6
 replace hS := hS.below hL6
 replace VA := VA.below hL6
 replace VR := VR.below hL6
 replace VF := VF.below hL6
 replace VS := VS.below hL6
 replace VL := VL.below hL6
 replace VH := VH.below hL6
 replace BB := BB.trans (hL6.mono BB.size)
 clear hL6
 rw [hS4] at VH
 rw [hS5,hS4] at VM
 go_wp2
 rw [← hW4]
 rw [← hW5]
 rw [← hW6]
 generalize w4.heap.size = R3 at *
 clear hW4 hS4 hW5 hS5 hW6 hS6
 clear VA
 generalize hqa : ((A : Int) : Rat) / ((C : Int) : Rat) = qa at *
 generalize hqd : ((D : Int) : Rat) / ((E : Int) : Rat) = qd at *
 have h1s : qsz (S - qa) ≤ L + (L + 1) + 1 + 2 + 1 := by have := qsz_sub _ _ hsr hsa; omega
 have h2s : qsz (qd - S) ≤ L + (L + 1) + 1 + 2 + 1 := by have := qsz_sub _ _ hsd hsr; omega
 refine wp_region_until 10 #[true,true,true,true,true,true,true,true,true,true,false,false] (fun aF lsd a' w' => ∃ vu0 vu1 vu2 vu3 vu4 vu5 vu6 vu7 vu8 vu9 : Value,a' = (((((((((aF.put (some 34) vu0).put (some 35) vu1).put (some 36) vu2).put (some 37) vu3).put (some 38) vu4).put (some 39) vu5).put (some 40) vu6).put (some 41) vu7).put (some 11) vu8).put (some 12) vu9 ∧ Below W6.heap.size W6 w' ∧ (lsd.getD 0 false = true → vu0 = .agg #[.bool pe,.slice ae ne ce,.slice be me de]) ∧ (lsd.getD 1 false = true → vu1 = .agg #[.int .i64 (A : Int),.int .i64 (C : Int)]) ∧ (lsd.getD 2 false = true → RepQ w' vu2 (qa)) ∧ (lsd.getD 3 false = true → RepQ w' vu3 (S - qa)) ∧ (lsd.getD 4 false = true → vu4 = .agg #[.int .i64 (D : Int),.int .i64 (E : Int)]) ∧ (lsd.getD 5 false = true → RepQ w' vu5 (qd)) ∧ (lsd.getD 6 false = true → vu6 = .agg #[.bool pe,.slice ae ne ce,.slice be me de]) ∧ (lsd.getD 7 false = true → RepQ w' vu7 (qd - S)) ∧ (lsd.getD 8 false = true → New3 W6.heap.size w' vu8 (.bool false) (.slice none 0 0) (.slice none 0 0)) ∧ (lsd.getD 9 false = true → New3 W6.heap.size w' vu9 (.bool false) (.slice none 0 0) (.slice none 0 0)) ∧ (lsd.getD 8 false = true → lsd.getD 9 false = true → vu8 ≠ vu9)) (by kernel_rfl) (by decide) (by kernel_rfl) (by rfl) (by kernel_rfl) ?_ ?_ ?_
 ·exact ⟨_,_,_,_,_,_,_,_,_,_,by simp only [Act.put,xL4,xL5,xL6]; rfl,(Below.refl _ _).drew,fun h => absurd h (fun h => mark_none h),fun h => absurd h (fun h => mark_none h),fun h => absurd h (fun h => mark_none h),fun h => absurd h (fun h => mark_none h),fun h => absurd h (fun h => mark_none h),fun h => absurd h (fun h => mark_none h),fun h => absurd h (fun h => mark_none h),fun h => absurd h (fun h => mark_none h),fun h => absurd h (fun h => mark_none h),fun h => absurd h (fun h => mark_none h),fun h => absurd h (fun h => mark_none h)⟩
 ·rintro lsd au wn iu hszu ⟨vu0,vu1,vu2,vu3,vu4,vu5,vu6,vu7,vu8,vu9,rfl,hbu,fu0,fu1,fu2,fu3,fu4,fu5,fu6,fu7,fu8,fu9,gu8_9⟩ himu hru
  rcases (show iu = 0 ∨ iu = 1 ∨ iu = 2 ∨ iu = 3 ∨ iu = 4 ∨ iu = 5 ∨ iu = 6 ∨ iu = 7 ∨ iu = 8 ∨ iu = 9 by omega) with rfl | rfl | rfl | rfl | rfl | rfl | rfl | rfl | rfl | rfl
  ·refine wpOp_shut (by rfl) (fun K hK => ?_)
   simp only [Act.put,xL4,xL5,xL6]
   obtain ⟨VS_0,VS_1,VS_2,VS_3,VS_4,VS_5⟩ := VS.below hbu
   go_simp
   exact hK.out _ _ ⟨(.agg #[.bool pe,.slice ae ne ce,.slice be me de]),vu1,vu2,vu3,vu4,vu5,vu6,vu7,vu8,vu9,by simp only [Act.put,xL4,xL5,xL6],hbu,fun _ => rfl,fun h => fu1 (mark_of (by decide) h),fun h => fu2 (mark_of (by decide) h),fun h => fu3 (mark_of (by decide) h),fun h => fu4 (mark_of (by decide) h),fun h => fu5 (mark_of (by decide) h),fun h => fu6 (mark_of (by decide) h),fun h => fu7 (mark_of (by decide) h),fun h => fu8 (mark_of (by decide) h),fun h => fu9 (mark_of (by decide) h),fun h1 h2 => gu8_9 (mark_of (by decide) h1) (mark_of (by decide) h2)⟩
  ·refine wpOp_shut (by rfl) (fun K hK => ?_)
   simp only [Act.put,xL4,xL5,xL6]
   obtain ⟨VL_0,VL_1,VL_2,VL_3⟩ := VL.below hbu
   go_simp
   exact hK.out _ _ ⟨vu0,(.agg #[.int .i64 (A : Int),.int .i64 (C : Int)]),vu2,vu3,vu4,vu5,vu6,vu7,vu8,vu9,by simp only [Act.put,xL4,xL5,xL6],hbu,fun h => fu0 (mark_of (by decide) h),fun _ => rfl,fun h => fu2 (mark_of (by decide) h),fun h => fu3 (mark_of (by decide) h),fun h => fu4 (mark_of (by decide) h),fun h => fu5 (mark_of (by decide) h),fun h => fu6 (mark_of (by decide) h),fun h => fu7 (mark_of (by decide) h),fun h => fu8 (mark_of (by decide) h),fun h => fu9 (mark_of (by decide) h),fun h1 h2 => gu8_9 (mark_of (by decide) h1) (mark_of (by decide) h2)⟩
  ·have eu1 := fu1 (dep_of 1 hru rfl (by kernel_rfl))
   replace eu1 := eu1.symm
   subst eu1
   refine wpOp_shut (by rfl) (fun K hK => ?_)
   simp only [Act.put,xL4,xL5,xL6]
   have ht := ht.below hbu
   go_simp
   refine (number_at (A : Int) (C : Int) _ (by omega) (by omega) (by omega) (by omega) ht).mono ?_
   rintro eu wx ⟨na,rfl,hna,bu⟩
   rw [hqa] at hna
   go_wp2_with fail
   have hbu2 := hbu.trans (bu.mono hbu.size)
   exact hK.out _ _ ⟨vu0,(.agg #[.int .i64 (A : Int),.int .i64 (C : Int)]),_,vu3,vu4,vu5,vu6,vu7,vu8,vu9,by simp only [Act.put,xL4,xL5,xL6],hbu2,fun h => fu0 (mark_of (by decide) h),fun _ => rfl,fun _ => hna,fun h => (fu3 (mark_of (by decide) h)).below bu,fun h => fu4 (mark_of (by decide) h),fun h => (fu5 (mark_of (by decide) h)).below bu,fun h => fu6 (mark_of (by decide) h),fun h => (fu7 (mark_of (by decide) h)).below bu,fun h => (fu8 (mark_of (by decide) h)).below bu,fun h => (fu9 (mark_of (by decide) h)).below bu,fun h1 h2 => gu8_9 (mark_of (by decide) h1) (mark_of (by decide) h2)⟩
  ·have eu0 := fu0 (dep_of 0 hru rfl (by kernel_rfl))
   replace eu0 := eu0.symm
   subst eu0
   have hna := fu2 (dep_of 2 hru rfl (by kernel_rfl))
   refine wpOp_shut (by rfl) (fun K hK => ?_)
   simp only [Act.put,xL4,xL5,xL6]
   have ht := ht.below hbu
   have hS := hS.below hbu
   go_simp
   refine (qsub_at _ _ S qa (L + (L + 1) + 1) _ hS (hna.at _ (by omega)) (by omega) (by omega) ht).mono ?_
   rintro eu wx ⟨x1,rfl,h1,bu⟩
   go_wp2_with fail
   have hbu2 := hbu.trans (bu.mono hbu.size)
   exact hK.out _ _ ⟨(.agg #[.bool pe,.slice ae ne ce,.slice be me de]),vu1,vu2,_,vu4,vu5,vu6,vu7,vu8,vu9,by simp only [Act.put,xL4,xL5,xL6],hbu2,fun _ => rfl,fun h => fu1 (mark_of (by decide) h),fun h => (fu2 (mark_of (by decide) h)).below bu,fun _ => h1,fun h => fu4 (mark_of (by decide) h),fun h => (fu5 (mark_of (by decide) h)).below bu,fun h => fu6 (mark_of (by decide) h),fun h => (fu7 (mark_of (by decide) h)).below bu,fun h => (fu8 (mark_of (by decide) h)).below bu,fun h => (fu9 (mark_of (by decide) h)).below bu,fun h1 h2 => gu8_9 (mark_of (by decide) h1) (mark_of (by decide) h2)⟩
  ·refine wpOp_shut (by rfl) (fun K hK => ?_)
   simp only [Act.put,xL4,xL5,xL6]
   obtain ⟨VH_0,VH_1,VH_2,VH_3⟩ := VH.below hbu
   go_simp
   exact hK.out _ _ ⟨vu0,vu1,vu2,vu3,(.agg #[.int .i64 (D : Int),.int .i64 (E : Int)]),vu5,vu6,vu7,vu8,vu9,by simp only [Act.put,xL4,xL5,xL6],hbu,fun h => fu0 (mark_of (by decide) h),fun h => fu1 (mark_of (by decide) h),fun h => fu2 (mark_of (by decide) h),fun h => fu3 (mark_of (by decide) h),fun _ => rfl,fun h => fu5 (mark_of (by decide) h),fun h => fu6 (mark_of (by decide) h),fun h => fu7 (mark_of (by decide) h),fun h => fu8 (mark_of (by decide) h),fun h => fu9 (mark_of (by decide) h),fun h1 h2 => gu8_9 (mark_of (by decide) h1) (mark_of (by decide) h2)⟩
  ·have eu4 := fu4 (dep_of 4 hru rfl (by kernel_rfl))
   replace eu4 := eu4.symm
   subst eu4
   have h1 := fu3 (dep_of 3 hru rfl (by kernel_rfl))
   refine wpOp_shut (by rfl) (fun K hK => ?_)
   simp only [Act.put,xL4,xL5,xL6]
   have ht := ht.below hbu
   go_simp
   refine (number_at (D : Int) (E : Int) _ (by omega) (by omega) (by omega) (by omega) ht).mono ?_
   rintro eu wx ⟨nd,rfl,hnd,bu⟩
   rw [hqd] at hnd
   go_wp2_with fail
   have hbu2 := hbu.trans (bu.mono hbu.size)
   exact hK.out _ _ ⟨vu0,vu1,vu2,vu3,(.agg #[.int .i64 (D : Int),.int .i64 (E : Int)]),_,vu6,vu7,vu8,vu9,by simp only [Act.put,xL4,xL5,xL6],hbu2,fun h => fu0 (mark_of (by decide) h),fun h => fu1 (mark_of (by decide) h),fun h => (fu2 (mark_of (by decide) h)).below bu,fun h => (fu3 (mark_of (by decide) h)).below bu,fun _ => rfl,fun _ => hnd,fun h => fu6 (mark_of (by decide) h),fun h => (fu7 (mark_of (by decide) h)).below bu,fun h => (fu8 (mark_of (by decide) h)).below bu,fun h => (fu9 (mark_of (by decide) h)).below bu,fun h1 h2 => gu8_9 (mark_of (by decide) h1) (mark_of (by decide) h2)⟩
  ·refine wpOp_shut (by rfl) (fun K hK => ?_)
   simp only [Act.put,xL4,xL5,xL6]
   obtain ⟨VS_0,VS_1,VS_2,VS_3,VS_4,VS_5⟩ := VS.below hbu
   go_simp
   exact hK.out _ _ ⟨vu0,vu1,vu2,vu3,vu4,vu5,(.agg #[.bool pe,.slice ae ne ce,.slice be me de]),vu7,vu8,vu9,by simp only [Act.put,xL4,xL5,xL6],hbu,fun h => fu0 (mark_of (by decide) h),fun h => fu1 (mark_of (by decide) h),fun h => fu2 (mark_of (by decide) h),fun h => fu3 (mark_of (by decide) h),fun h => fu4 (mark_of (by decide) h),fun h => fu5 (mark_of (by decide) h),fun _ => rfl,fun h => fu7 (mark_of (by decide) h),fun h => fu8 (mark_of (by decide) h),fun h => fu9 (mark_of (by decide) h),fun h1 h2 => gu8_9 (mark_of (by decide) h1) (mark_of (by decide) h2)⟩
  ·have eu6 := fu6 (dep_of 6 hru rfl (by kernel_rfl))
   replace eu6 := eu6.symm
   subst eu6
   have hnd := fu5 (dep_of 5 hru rfl (by kernel_rfl))
   refine wpOp_shut (by rfl) (fun K hK => ?_)
   simp only [Act.put,xL4,xL5,xL6]
   have ht := ht.below hbu
   have hS := hS.below hbu
   go_simp
   refine (qsub_at _ _ qd S (L + (L + 1) + 1) _ (hnd.at _ (by omega)) hS (by omega) (by omega) ht).mono ?_
   rintro eu wx ⟨x2,rfl,h2,bu⟩
   go_wp2_with fail
   have hbu2 := hbu.trans (bu.mono hbu.size)
   exact hK.out _ _ ⟨vu0,vu1,vu2,vu3,vu4,vu5,(.agg #[.bool pe,.slice ae ne ce,.slice be me de]),_,vu8,vu9,by simp only [Act.put,xL4,xL5,xL6],hbu2,fun h => fu0 (mark_of (by decide) h),fun h => fu1 (mark_of (by decide) h),fun h => (fu2 (mark_of (by decide) h)).below bu,fun h => (fu3 (mark_of (by decide) h)).below bu,fun h => fu4 (mark_of (by decide) h),fun h => (fu5 (mark_of (by decide) h)).below bu,fun _ => rfl,fun _ => h2,fun h => (fu8 (mark_of (by decide) h)).below bu,fun h => (fu9 (mark_of (by decide) h)).below bu,fun h1 h2 => gu8_9 (mark_of (by decide) h1) (mark_of (by decide) h2)⟩
  ·refine wpOp_shut (by rfl) (fun K hK => ?_)
   simp only [Act.put,xL4,xL5,xL6]
   go_simp
   obtain ⟨wx,hWx,hSx,bu,VXu⟩ := V3.lay wn 27 (.bool false) (.slice none 0 0) (.slice none 0 0)
   rw [← hWx]
   have hbu2 := hbu.trans (bu.mono hbu.size)
   exact hK.out _ _ ⟨vu0,vu1,vu2,vu3,vu4,vu5,vu6,vu7,_,vu9,by simp only [Act.put,xL4,xL5,xL6],hbu2,fun h => fu0 (mark_of (by decide) h),fun h => fu1 (mark_of (by decide) h),fun h => (fu2 (mark_of (by decide) h)).below bu,fun h => (fu3 (mark_of (by decide) h)).below bu,fun h => fu4 (mark_of (by decide) h),fun h => (fu5 (mark_of (by decide) h)).below bu,fun h => fu6 (mark_of (by decide) h),fun h => (fu7 (mark_of (by decide) h)).below bu,fun _ => ⟨_,rfl,hbu.size,VXu⟩,fun h => (fu9 (mark_of (by decide) h)).below bu,fun _ h => ((fu9 (mark_of (by decide) h)).ne).symm⟩
  ·refine wpOp_shut (by rfl) (fun K hK => ?_)
   simp only [Act.put,xL4,xL5,xL6]
   go_simp
   obtain ⟨wx,hWx,hSx,bu,VXu⟩ := V3.lay wn 27 (.bool false) (.slice none 0 0) (.slice none 0 0)
   rw [← hWx]
   have hbu2 := hbu.trans (bu.mono hbu.size)
   exact hK.out _ _ ⟨vu0,vu1,vu2,vu3,vu4,vu5,vu6,vu7,vu8,_,by simp only [Act.put,xL4,xL5,xL6],hbu2,fun h => fu0 (mark_of (by decide) h),fun h => fu1 (mark_of (by decide) h),fun h => (fu2 (mark_of (by decide) h)).below bu,fun h => (fu3 (mark_of (by decide) h)).below bu,fun h => fu4 (mark_of (by decide) h),fun h => (fu5 (mark_of (by decide) h)).below bu,fun h => fu6 (mark_of (by decide) h),fun h => (fu7 (mark_of (by decide) h)).below bu,fun h => (fu8 (mark_of (by decide) h)).below bu,fun _ => ⟨_,rfl,hbu.size,VXu⟩,fun h _ => (fu8 (mark_of (by decide) h)).ne⟩
 rintro au Wu7 ⟨vu0,vu1,vu2,vu3,vu4,vu5,vu6,vu7,vu8,vu9,rfl,hbu,fu0,fu1,fu2,fu3,fu4,fu5,fu6,fu7,fu8,fu9,gu8_9⟩
 have eu0 := (fu0 rfl).symm
 subst eu0
 have eu1 := (fu1 rfl).symm
 subst eu1
 have hna := fu2 rfl
 have h1 := fu3 rfl
 have eu4 := (fu4 rfl).symm
 subst eu4
 have hnd := fu5 rfl
 have eu6 := (fu6 rfl).symm
 subst eu6
 have h2 := fu7 rfl
 have gu8_9 := gu8_9 rfl rfl
 obtain ⟨RVD,rfl,hRVD,VD⟩ := fu8 rfl
 obtain ⟨RVU,rfl,hRVU,VU⟩ := fu9 rfl
 have hN8_9 : RVD ≠ RVU := fun e => gu8_9 (by rw [e])
 clear gu8_9
 clear fu0 fu1 fu2 fu3 fu4 fu5 fu6 fu7 fu8 fu9
 have hlVR : w.heap.size + 1 < W6.heap.size := VR.lt
 have hlVF : R1 < W6.heap.size := VF.lt
 have hlVS : R2 < W6.heap.size := VS.lt
 have hlVL : R3 < W6.heap.size := VL.lt
 have hlVH : R3 + 1 < W6.heap.size := VH.lt
 have hlVM : R3 + 1 + 1 < W6.heap.size := VM.lt
 obtain ⟨p1,a1,n1,c1,b1,m1,d1,rfl⟩ := h1.open
 obtain ⟨p2,a2,n2,c2,b2,m2,d2,rfl⟩ := h2.open
 simp only [Act.put,xL4,xL5,xL6]
 refine xR [10] (h := ?_)
 refine AllReadyH.cons (by rfl) (fun K hK => ?_) AllReadyH.nil
 have hKp := VD.keepJ (.bool p1) (.slice a1 n1 c1) (.slice b1 m1 d1)
 have VU_n := VU.other3 (R := RVD) (by omega) (.bool p1) (.slice a1 n1 c1) (.slice b1 m1 d1)
 have VD_n := VD.same (.bool p1) (.slice a1 n1 c1) (.slice b1 m1 d1)
 have hna_n := hna.keep hKp
 have h1_n := h1.keep hKp
 have hnd_n := hnd.keep hKp
 have h2_n := h2.keep hKp
 have hbu_n := below_store3 (R := RVD) hbu (by omega) (.bool p1) (.slice a1 n1 c1) (.slice b1 m1 d1)
 clear hKp
 obtain ⟨VD_0,VD_1,VD_2,VD_3,VD_4,VD_5⟩ := id VD
 go_simp
 clear VD_0 VD_1 VD_2 VD_3 VD_4 VD_5
 clear hbu hna h1 hnd h2 VD VU
 generalize ((Wu7.setCell ⟨RVD,0,none⟩ (.bool p1)).setCell ⟨RVD,1,none⟩ (.slice a1 n1 c1)).setCell ⟨RVD,2,none⟩ (.slice b1 m1 d1) = W8 at *
 have hbu := hbu_n
 have hna := hna_n
 have h1 := h1_n
 have hnd := hnd_n
 have h2 := h2_n
 have VD := VD_n
 have VU := VU_n
 clear hbu_n hna_n h1_n hnd_n h2_n VD_n VU_n
 refine hK.out _ _ trivial (fun _ => ?_)
 clear hK K
 simp only [Act.put,xL4,xL5,xL6]
 refine xR [11] (h := ?_)
 refine AllReadyH.cons (by rfl) (fun K hK => ?_) AllReadyH.nil
 have hKp := VU.keepJ (.bool p2) (.slice a2 n2 c2) (.slice b2 m2 d2)
 have VD_n := VD.other3 (R := RVU) (by omega) (.bool p2) (.slice a2 n2 c2) (.slice b2 m2 d2)
 have VU_n := VU.same (.bool p2) (.slice a2 n2 c2) (.slice b2 m2 d2)
 have hna_n := hna.keep hKp
 have h1_n := h1.keep hKp
 have hnd_n := hnd.keep hKp
 have h2_n := h2.keep hKp
 have hbu_n := below_store3 (R := RVU) hbu (by omega) (.bool p2) (.slice a2 n2 c2) (.slice b2 m2 d2)
 clear hKp
 obtain ⟨VU_0,VU_1,VU_2,VU_3,VU_4,VU_5⟩ := id VU
 go_simp
 clear VU_0 VU_1 VU_2 VU_3 VU_4 VU_5
 clear hbu hna h1 hnd h2 VD VU
 generalize ((W8.setCell ⟨RVU,0,none⟩ (.bool p2)).setCell ⟨RVU,1,none⟩ (.slice a2 n2 c2)).setCell ⟨RVU,2,none⟩ (.slice b2 m2 d2) = W9 at *
 have hbu := hbu_n
 have hna := hna_n
 have h1 := h1_n
 have hnd := hnd_n
 have h2 := h2_n
 have VD := VD_n
 have VU := VU_n
 clear hbu_n hna_n h1_n hnd_n h2_n VD_n VU_n
 refine hK.out _ _ trivial (fun _ => ?_)
 clear hK K
 simp only [Act.put,xL4,xL5,xL6]
 replace ht := ht.below hbu
 replace hgf := hgf.below hbu
 replace hS := hS.below hbu
 replace VR := VR.below hbu
 replace VF := VF.below hbu
 replace VS := VS.below hbu
 replace VL := VL.below hbu
 replace VH := VH.below hbu
 replace VM := VM.below hbu
 replace BB := BB.trans (hbu.mono BB.size)
 clear hbu
 refine wpAnyH_done (by kernel_rfl) ?_ _
 clear hna hnd
 obtain ⟨VD_0,VD_1,VD_2,VD_3,VD_4,VD_5⟩ := id VD
 obtain ⟨VU_0,VU_1,VU_2,VU_3,VU_4,VU_5⟩ := id VU
 go_wp2_with fail
 clear VD_0 VD_1 VD_2 VD_3 VD_4 VD_5 VU_0 VU_1 VU_2 VU_3 VU_4 VU_5
 refine (qcmp_at _ _ (S - qa) (qd - S) (L + (L + 1) + 1 + 2 + 1) _ (h1.at _ h1s) (h2.at _ h2s) (by omega) (by omega)).mono ?_
 rintro e w5 ⟨rfl,b5⟩
 replace ht := ht.below b5
 replace hgf := hgf.below b5
 replace hS := hS.below b5
 replace h1 := h1.below b5
 replace h2 := h2.below b5
 replace VR := VR.below b5
 replace VF := VF.below b5
 replace VS := VS.below b5
 replace VL := VL.below b5
 replace VH := VH.below b5
 replace VM := VM.below b5
 replace VD := VD.below b5
 replace VU := VU.below b5
 replace BB := BB.trans (b5.mono BB.size)
 clear b5
 clear h1 h2 VD VU
 have HC : Hid ((cmpQ (S - qa) (qd - S) > 0 ↔ qd - S < S - qa) ∧ (cmpQ (S - qa) (qd - S) = 0 ↔ S - qa = qd - S)) := cmpQ_two _ _
 generalize cmpQ (S - qa) (qd - S) = cc at *
 by_cases hc : qd - S < S - qa ∨ (S - qa = qd - S ∧ E < C)
 ·have HI : Hid (nearQ q A C D E = F + qd) := by show _ = _; rw [HN.out,if_pos hc]
  clear HN
  by_cases hz : cc = 0
  ·have hce : (E : Int) < (C : Int) := by
    rcases hc with g | g
    ·exact absurd (HC.out.1.2 g) (by omega)
    ·have := g.2; omega
   subst hz
   clear HC
   clear hc
   obtain ⟨i0,i1,i2,i3⟩ := id VL
   obtain ⟨j0,j1_,j2_,j3⟩ := id VH
   have hKp := VM.keepF (.int .i64 (D : Int)) (.int .i64 (E : Int))
   have VR_n := VR.other2 (R := R3 + 1 + 1) (by omega) (.int .i64 (D : Int)) (.int .i64 (E : Int))
   have VF_n := VF.other2 (R := R3 + 1 + 1) (by omega) (.int .i64 (D : Int)) (.int .i64 (E : Int))
   have VS_n := VS.other2 (R := R3 + 1 + 1) (by omega) (.int .i64 (D : Int)) (.int .i64 (E : Int))
   have VL_n := VL.other (R := R3 + 1 + 1) (by omega) (.int .i64 (D : Int)) (.int .i64 (E : Int))
   have VH_n := VH.other (R := R3 + 1 + 1) (by omega) (.int .i64 (D : Int)) (.int .i64 (E : Int))
   have VM_n := VM.same (.int .i64 (D : Int)) (.int .i64 (E : Int))
   have ht_n := ht.keepL hKp
   have hgf_n := hgf.keepL hKp
   have hS_n := hS.keepL hKp
   have BB_n := below_store2 (R := R3 + 1 + 1) BB (by omega) (.int .i64 (D : Int)) (.int .i64 (E : Int))
   clear hKp
   obtain ⟨VM_0,VM_1,VM_2,VM_3⟩ := id VM
   go_wp2
   clear VM_0 VM_1 VM_2 VM_3
   clear BB ht hgf hS VR VF VS VL VH VM
   generalize (w5.setCell ⟨R3 + 1 + 1,0,none⟩ (.int .i64 (D : Int))).setCell ⟨R3 + 1 + 1,1,none⟩ (.int .i64 (E : Int)) = W10 at *
   have BB := BB_n
   have ht := ht_n
   have hgf := hgf_n
   have hS := hS_n
   have VR := VR_n
   have VF := VF_n
   have VS := VS_n
   have VL := VL_n
   have VH := VH_n
   have VM := VM_n
   clear BB_n ht_n hgf_n hS_n VR_n VF_n VS_n VL_n VH_n VM_n
   clear i0 i1 i2 i3 j0 j1_ j2_ j3
   have hDr : Below W10.heap.size W10 W10.drew := (Below.refl _ _).drew
   replace ht := ht.below hDr
   replace hgf := hgf.below hDr
   replace hS := hS.below hDr
   replace VR := VR.below hDr
   replace VF := VF.below hDr
   replace VS := VS.below hDr
   replace VL := VL.below hDr
   replace VH := VH.below hDr
   replace VM := VM.below hDr
   replace BB := BB.trans (hDr.mono BB.size)
   clear hDr
   refine wp_region_held_drew (S := (fun w' => w'.cell? ⟨R1,0,none⟩ = some (.bool pg) ∧ w'.cell? ⟨R1,1,none⟩ = some (.slice ag ng cg) ∧ w'.cell? ⟨R1,2,none⟩ = some (.slice bg mg dg_) ∧ w'.cell? ⟨R3 + 1 + 1,0,none⟩ = some (.int .i64 (D : Int)) ∧ w'.cell? ⟨R3 + 1 + 1,1,none⟩ = some (.int .i64 (E : Int)))) (by kernel_rfl) ?_ (fun hHeld => ?_)
   ·exact ⟨VF.1,VF.2.1,VF.2.2.1,VM.1,VM.2.1⟩
   generalize W10.drew = W11 at *
   refine xT 0 (v := ?_) (hy := Or.inl ⟨by rfl,?_⟩) (h := ?_)
   rotate_left
   ·(intro w hSw; (try dsimp only at hSw); go_simp; (try with_reducible rfl))
   (try simp only [Act.put,xL4,xL5,xL6])
   refine xT 1 (v := ?_) (hy := Or.inl ⟨by rfl,?_⟩) (h := ?_)
   rotate_left
   ·(intro w hSw; (try dsimp only at hSw); go_simp; (try with_reducible rfl))
   (try simp only [Act.put,xL4,xL5,xL6])
   refine xR [2] (h := ?_)
   refine xN (h := fun K hK => ?_)
   go_simp
   refine (number_at (D : Int) (E : Int) _ (by omega) (by omega) (by omega) (by omega) ht).mono ?_
   rintro e w6 ⟨na,rfl,hna,b6⟩
   rw [hqd] at hna
   go_wp2_with fail
   replace ht := ht.below b6
   replace hgf := hgf.below b6
   replace hS := hS.below b6
   replace VR := VR.below b6
   replace VF := VF.below b6
   replace VS := VS.below b6
   replace VL := VL.below b6
   replace VH := VH.below b6
   replace VM := VM.below b6
   replace BB := BB.trans (b6.mono BB.size)
   clear b6
   refine hK.out _ _ ?_ (fun hH1 => ?_)
   ·exact ⟨VF.1,VF.2.1,VF.2.2.1,VM.1,VM.2.1⟩
   clear hK K hHeld
   (try simp only [Act.put,xL4,xL5,xL6])
   refine xR [3] (h := ?_)
   refine xN (h := fun K hK => ?_)
   go_simp
   refine (qadd_at _ _ F qd (L + 1) _ hgf (hna.at _ (by omega)) (by omega) (by omega) ht).mono ?_
   rintro e w7 ⟨xx,rfl,hr,b7⟩
   obtain ⟨pr,ar,nr,cr,br,mr,dr,rfl⟩ := hr.open
   go_wp2_with fail
   replace ht := ht.below b7
   replace hgf := hgf.below b7
   replace hS := hS.below b7
   replace hna := hna.below b7
   replace VR := VR.below b7
   replace VF := VF.below b7
   replace VS := VS.below b7
   replace VL := VL.below b7
   replace VH := VH.below b7
   replace VM := VM.below b7
   replace BB := BB.trans (b7.mono BB.size)
   clear b7
   refine hK.out _ _ ?_ (fun hH2 => ?_)
   ·exact ⟨VF.1,VF.2.1,VF.2.2.1,VM.1,VM.2.1⟩
   clear hK K hH1
   (try simp only [Act.put,xL4,xL5,xL6])
   refine xR [4] (h := ?_)
   refine xN (h := fun K hK => ?_)
   have hKp := VR.keepJ (.bool pr) (.slice ar nr cr) (.slice br mr dr)
   have VF_n := VF.other3 (R := w.heap.size + 1) (by omega) (.bool pr) (.slice ar nr cr) (.slice br mr dr)
   have VS_n := VS.other3 (R := w.heap.size + 1) (by omega) (.bool pr) (.slice ar nr cr) (.slice br mr dr)
   have VL_n := VL.other3 (R := w.heap.size + 1) (by omega) (.bool pr) (.slice ar nr cr) (.slice br mr dr)
   have VH_n := VH.other3 (R := w.heap.size + 1) (by omega) (.bool pr) (.slice ar nr cr) (.slice br mr dr)
   have VM_n := VM.other3 (R := w.heap.size + 1) (by omega) (.bool pr) (.slice ar nr cr) (.slice br mr dr)
   have VR_n := VR.same (.bool pr) (.slice ar nr cr) (.slice br mr dr)
   have ht_n := ht.keep hKp
   have hgf_n := hgf.keep hKp
   have hS_n := hS.keep hKp
   have hna_n := hna.keep hKp
   have hr_n := hr.keep hKp
   have BB_n := below_store3 (R := w.heap.size + 1) BB (by omega) (.bool pr) (.slice ar nr cr) (.slice br mr dr)
   clear hKp
   obtain ⟨VR_0,VR_1,VR_2,VR_3,VR_4,VR_5⟩ := id VR
   go_simp
   clear VR_0 VR_1 VR_2 VR_3 VR_4 VR_5
   clear BB ht hgf hS hna hr VR VF VS VL VH VM
   generalize ((w7.setCell ⟨w.heap.size + 1,0,none⟩ (.bool pr)).setCell ⟨w.heap.size + 1,1,none⟩ (.slice ar nr cr)).setCell ⟨w.heap.size + 1,2,none⟩ (.slice br mr dr) = W12 at *
   have BB := BB_n
   have ht := ht_n
   have hgf := hgf_n
   have hS := hS_n
   have hna := hna_n
   have hr := hr_n
   have VR := VR_n
   have VF := VF_n
   have VS := VS_n
   have VL := VL_n
   have VH := VH_n
   have VM := VM_n
   clear BB_n ht_n hgf_n hS_n hna_n hr_n VR_n VF_n VS_n VL_n VH_n VM_n
   refine hK.out _ _ ?_ (fun hH3 => ?_)
   ·exact ⟨VF.1,VF.2.1,VF.2.2.1,VM.1,VM.2.1⟩
   clear hK K hH2
   (try simp only [Act.put,xL4,xL5,xL6])
   refine xT 5 (v := ?_) (hy := Or.inl ⟨by rfl,?_⟩) (h := ?_)
   rotate_left
   ·(intro w hSw; (try dsimp only at hSw); go_simp; (try with_reducible rfl))
   (try simp only [Act.put,xL4,xL5,xL6])
   refine wpAnyH_done (by kernel_rfl) ?_ _
   clear hH3
   rw [← HI.out] at hr
   clear hqa hqd hF hSS HI hsa hsd hsr hqs hfl hsf h1s h2s hab hgf hS
   obtain ⟨q1,q2,q3,q4,q5,q6⟩ := id VR
   go_wp2
   (try simp only [Exit.inBlock,Exit.then])
   refine bodyPost_ret (v := .tuple #[.agg #[.bool pr,.slice ar nr cr,.slice br mr dr],.int .i64 0]) (by simp [results,go_sem,q1,q2,q3]) rfl ?_
   exact ⟨_,rfl,hr,BB⟩
  ·have hcp : cc > 0 := by
    rcases hc with g | g
    ·exact HC.out.1.2 g
    ·exact absurd (HC.out.2.2 g.1) hz
   clear HC hz
   clear hc
   obtain ⟨i0,i1,i2,i3⟩ := id VL
   obtain ⟨j0,j1_,j2_,j3⟩ := id VH
   have hKp := VM.keepF (.int .i64 (D : Int)) (.int .i64 (E : Int))
   have VR_n := VR.other2 (R := R3 + 1 + 1) (by omega) (.int .i64 (D : Int)) (.int .i64 (E : Int))
   have VF_n := VF.other2 (R := R3 + 1 + 1) (by omega) (.int .i64 (D : Int)) (.int .i64 (E : Int))
   have VS_n := VS.other2 (R := R3 + 1 + 1) (by omega) (.int .i64 (D : Int)) (.int .i64 (E : Int))
   have VL_n := VL.other (R := R3 + 1 + 1) (by omega) (.int .i64 (D : Int)) (.int .i64 (E : Int))
   have VH_n := VH.other (R := R3 + 1 + 1) (by omega) (.int .i64 (D : Int)) (.int .i64 (E : Int))
   have VM_n := VM.same (.int .i64 (D : Int)) (.int .i64 (E : Int))
   have ht_n := ht.keepL hKp
   have hgf_n := hgf.keepL hKp
   have hS_n := hS.keepL hKp
   have BB_n := below_store2 (R := R3 + 1 + 1) BB (by omega) (.int .i64 (D : Int)) (.int .i64 (E : Int))
   clear hKp
   obtain ⟨VM_0,VM_1,VM_2,VM_3⟩ := id VM
   go_wp2
   clear VM_0 VM_1 VM_2 VM_3
   clear BB ht hgf hS VR VF VS VL VH VM
   generalize (w5.setCell ⟨R3 + 1 + 1,0,none⟩ (.int .i64 (D : Int))).setCell ⟨R3 + 1 + 1,1,none⟩ (.int .i64 (E : Int)) = W30 at *
   have BB := BB_n
   have ht := ht_n
   have hgf := hgf_n
   have hS := hS_n
   have VR := VR_n
   have VF := VF_n
   have VS := VS_n
   have VL := VL_n
   have VH := VH_n
   have VM := VM_n
   clear BB_n ht_n hgf_n hS_n VR_n VF_n VS_n VL_n VH_n VM_n
   clear i0 i1 i2 i3 j0 j1_ j2_ j3
   have hDr : Below W30.heap.size W30 W30.drew := (Below.refl _ _).drew
   replace ht := ht.below hDr
   replace hgf := hgf.below hDr
   replace hS := hS.below hDr
   replace VR := VR.below hDr
   replace VF := VF.below hDr
   replace VS := VS.below hDr
   replace VL := VL.below hDr
   replace VH := VH.below hDr
   replace VM := VM.below hDr
   replace BB := BB.trans (hDr.mono BB.size)
   clear hDr
   refine wp_region_held_drew (S := (fun w' => w'.cell? ⟨R1,0,none⟩ = some (.bool pg) ∧ w'.cell? ⟨R1,1,none⟩ = some (.slice ag ng cg) ∧ w'.cell? ⟨R1,2,none⟩ = some (.slice bg mg dg_) ∧ w'.cell? ⟨R3 + 1 + 1,0,none⟩ = some (.int .i64 (D : Int)) ∧ w'.cell? ⟨R3 + 1 + 1,1,none⟩ = some (.int .i64 (E : Int)))) (by kernel_rfl) ?_ (fun hHeld => ?_)
   ·exact ⟨VF.1,VF.2.1,VF.2.2.1,VM.1,VM.2.1⟩
   generalize W30.drew = W31 at *
   refine xT 0 (v := ?_) (hy := Or.inl ⟨by rfl,?_⟩) (h := ?_)
   rotate_left
   ·(intro w hSw; (try dsimp only at hSw); go_simp; (try with_reducible rfl))
   (try simp only [Act.put,xL4,xL5,xL6])
   refine xT 1 (v := ?_) (hy := Or.inl ⟨by rfl,?_⟩) (h := ?_)
   rotate_left
   ·(intro w hSw; (try dsimp only at hSw); go_simp; (try with_reducible rfl))
   (try simp only [Act.put,xL4,xL5,xL6])
   refine xR [2] (h := ?_)
   refine xN (h := fun K hK => ?_)
   go_simp
   refine (number_at (D : Int) (E : Int) _ (by omega) (by omega) (by omega) (by omega) ht).mono ?_
   rintro e w26 ⟨na,rfl,hna,b26⟩
   rw [hqd] at hna
   go_wp2_with fail
   replace ht := ht.below b26
   replace hgf := hgf.below b26
   replace hS := hS.below b26
   replace VR := VR.below b26
   replace VF := VF.below b26
   replace VS := VS.below b26
   replace VL := VL.below b26
   replace VH := VH.below b26
   replace VM := VM.below b26
   replace BB := BB.trans (b26.mono BB.size)
   clear b26
   refine hK.out _ _ ?_ (fun hH1 => ?_)
   ·exact ⟨VF.1,VF.2.1,VF.2.2.1,VM.1,VM.2.1⟩
   clear hK K hHeld
   (try simp only [Act.put,xL4,xL5,xL6])
   refine xR [3] (h := ?_)
   refine xN (h := fun K hK => ?_)
   go_simp
   refine (qadd_at _ _ F qd (L + 1) _ hgf (hna.at _ (by omega)) (by omega) (by omega) ht).mono ?_
   rintro e w27 ⟨xx,rfl,hr,b27⟩
   obtain ⟨pr,ar,nr,cr,br,mr,dr,rfl⟩ := hr.open
   go_wp2_with fail
   replace ht := ht.below b27
   replace hgf := hgf.below b27
   replace hS := hS.below b27
   replace hna := hna.below b27
   replace VR := VR.below b27
   replace VF := VF.below b27
   replace VS := VS.below b27
   replace VL := VL.below b27
   replace VH := VH.below b27
   replace VM := VM.below b27
   replace BB := BB.trans (b27.mono BB.size)
   clear b27
   refine hK.out _ _ ?_ (fun hH2 => ?_)
   ·exact ⟨VF.1,VF.2.1,VF.2.2.1,VM.1,VM.2.1⟩
   clear hK K hH1
   (try simp only [Act.put,xL4,xL5,xL6])
   refine xR [4] (h := ?_)
   refine xN (h := fun K hK => ?_)
   have hKp := VR.keepJ (.bool pr) (.slice ar nr cr) (.slice br mr dr)
   have VF_n := VF.other3 (R := w.heap.size + 1) (by omega) (.bool pr) (.slice ar nr cr) (.slice br mr dr)
   have VS_n := VS.other3 (R := w.heap.size + 1) (by omega) (.bool pr) (.slice ar nr cr) (.slice br mr dr)
   have VL_n := VL.other3 (R := w.heap.size + 1) (by omega) (.bool pr) (.slice ar nr cr) (.slice br mr dr)
   have VH_n := VH.other3 (R := w.heap.size + 1) (by omega) (.bool pr) (.slice ar nr cr) (.slice br mr dr)
   have VM_n := VM.other3 (R := w.heap.size + 1) (by omega) (.bool pr) (.slice ar nr cr) (.slice br mr dr)
   have VR_n := VR.same (.bool pr) (.slice ar nr cr) (.slice br mr dr)
   have ht_n := ht.keep hKp
   have hgf_n := hgf.keep hKp
   have hS_n := hS.keep hKp
   have hna_n := hna.keep hKp
   have hr_n := hr.keep hKp
   have BB_n := below_store3 (R := w.heap.size + 1) BB (by omega) (.bool pr) (.slice ar nr cr) (.slice br mr dr)
   clear hKp
   obtain ⟨VR_0,VR_1,VR_2,VR_3,VR_4,VR_5⟩ := id VR
   go_simp
   clear VR_0 VR_1 VR_2 VR_3 VR_4 VR_5
   clear BB ht hgf hS hna hr VR VF VS VL VH VM
   generalize ((w27.setCell ⟨w.heap.size + 1,0,none⟩ (.bool pr)).setCell ⟨w.heap.size + 1,1,none⟩ (.slice ar nr cr)).setCell ⟨w.heap.size + 1,2,none⟩ (.slice br mr dr) = W32 at *
   have BB := BB_n
   have ht := ht_n
   have hgf := hgf_n
   have hS := hS_n
   have hna := hna_n
   have hr := hr_n
   have VR := VR_n
   have VF := VF_n
   have VS := VS_n
   have VL := VL_n
   have VH := VH_n
   have VM := VM_n
   clear BB_n ht_n hgf_n hS_n hna_n hr_n VR_n VF_n VS_n VL_n VH_n VM_n
   refine hK.out _ _ ?_ (fun hH3 => ?_)
   ·exact ⟨VF.1,VF.2.1,VF.2.2.1,VM.1,VM.2.1⟩
   clear hK K hH2
   (try simp only [Act.put,xL4,xL5,xL6])
   refine xT 5 (v := ?_) (hy := Or.inl ⟨by rfl,?_⟩) (h := ?_)
   rotate_left
   ·(intro w hSw; (try dsimp only at hSw); go_simp; (try with_reducible rfl))
   (try simp only [Act.put,xL4,xL5,xL6])
   refine wpAnyH_done (by kernel_rfl) ?_ _
   clear hH3
   rw [← HI.out] at hr
   clear hqa hqd hF hSS HI hsa hsd hsr hqs hfl hsf h1s h2s hab hgf hS
   obtain ⟨q1,q2,q3,q4,q5,q6⟩ := id VR
   go_wp2
   (try simp only [Exit.inBlock,Exit.then])
   refine bodyPost_ret (v := .tuple #[.agg #[.bool pr,.slice ar nr cr,.slice br mr dr],.int .i64 0]) (by simp [results,go_sem,q1,q2,q3]) rfl ?_
   exact ⟨_,rfl,hr,BB⟩
 ·have HI : Hid (nearQ q A C D E = F + qa) := by show _ = _; rw [HN.out,if_neg hc]
  clear HN
  by_cases hz : cc = 0
  ·have hce : ¬ (E : Int) < (C : Int) := fun g => hc (Or.inr ⟨HC.out.2.1 hz,by omega⟩)
   subst hz
   clear HC
   clear hc
   obtain ⟨i0,i1,i2,i3⟩ := id VL
   obtain ⟨j0,j1_,j2_,j3⟩ := id VH
   obtain ⟨VM_0,VM_1,VM_2,VM_3⟩ := id VM
   go_wp2
   clear VM_0 VM_1 VM_2 VM_3
   clear i0 i1 i2 i3 j0 j1_ j2_ j3
   have hDr : Below w5.heap.size w5 w5.drew := (Below.refl _ _).drew
   replace ht := ht.below hDr
   replace hgf := hgf.below hDr
   replace hS := hS.below hDr
   replace VR := VR.below hDr
   replace VF := VF.below hDr
   replace VS := VS.below hDr
   replace VL := VL.below hDr
   replace VH := VH.below hDr
   replace VM := VM.below hDr
   replace BB := BB.trans (hDr.mono BB.size)
   clear hDr
   refine wp_region_held_drew (S := (fun w' => w'.cell? ⟨R1,0,none⟩ = some (.bool pg) ∧ w'.cell? ⟨R1,1,none⟩ = some (.slice ag ng cg) ∧ w'.cell? ⟨R1,2,none⟩ = some (.slice bg mg dg_) ∧ w'.cell? ⟨R3 + 1 + 1,0,none⟩ = some (.int .i64 (A : Int)) ∧ w'.cell? ⟨R3 + 1 + 1,1,none⟩ = some (.int .i64 (C : Int)))) (by kernel_rfl) ?_ (fun hHeld => ?_)
   ·exact ⟨VF.1,VF.2.1,VF.2.2.1,VM.1,VM.2.1⟩
   generalize w5.drew = W10 at *
   refine xT 0 (v := ?_) (hy := Or.inl ⟨by rfl,?_⟩) (h := ?_)
   rotate_left
   ·(intro w hSw; (try dsimp only at hSw); go_simp; (try with_reducible rfl))
   (try simp only [Act.put,xL4,xL5,xL6])
   refine xT 1 (v := ?_) (hy := Or.inl ⟨by rfl,?_⟩) (h := ?_)
   rotate_left
   ·(intro w hSw; (try dsimp only at hSw); go_simp; (try with_reducible rfl))
   (try simp only [Act.put,xL4,xL5,xL6])
   refine xR [2] (h := ?_)
   refine xN (h := fun K hK => ?_)
   go_simp
   refine (number_at (A : Int) (C : Int) _ (by omega) (by omega) (by omega) (by omega) ht).mono ?_
   rintro e w6 ⟨na,rfl,hna,b6⟩
   rw [hqa] at hna
   go_wp2_with fail
   replace ht := ht.below b6
   replace hgf := hgf.below b6
   replace hS := hS.below b6
   replace VR := VR.below b6
   replace VF := VF.below b6
   replace VS := VS.below b6
   replace VL := VL.below b6
   replace VH := VH.below b6
   replace VM := VM.below b6
   replace BB := BB.trans (b6.mono BB.size)
   clear b6
   refine hK.out _ _ ?_ (fun hH1 => ?_)
   ·exact ⟨VF.1,VF.2.1,VF.2.2.1,VM.1,VM.2.1⟩
   clear hK K hHeld
   (try simp only [Act.put,xL4,xL5,xL6])
   refine xR [3] (h := ?_)
   refine xN (h := fun K hK => ?_)
   go_simp
   refine (qadd_at _ _ F qa (L + 1) _ hgf (hna.at _ (by omega)) (by omega) (by omega) ht).mono ?_
   rintro e w7 ⟨xx,rfl,hr,b7⟩
   obtain ⟨pr,ar,nr,cr,br,mr,dr,rfl⟩ := hr.open
   go_wp2_with fail
   replace ht := ht.below b7
   replace hgf := hgf.below b7
   replace hS := hS.below b7
   replace hna := hna.below b7
   replace VR := VR.below b7
   replace VF := VF.below b7
   replace VS := VS.below b7
   replace VL := VL.below b7
   replace VH := VH.below b7
   replace VM := VM.below b7
   replace BB := BB.trans (b7.mono BB.size)
   clear b7
   refine hK.out _ _ ?_ (fun hH2 => ?_)
   ·exact ⟨VF.1,VF.2.1,VF.2.2.1,VM.1,VM.2.1⟩
   clear hK K hH1
   (try simp only [Act.put,xL4,xL5,xL6])
   refine xR [4] (h := ?_)
   refine xN (h := fun K hK => ?_)
   have hKp := VR.keepJ (.bool pr) (.slice ar nr cr) (.slice br mr dr)
   have VF_n := VF.other3 (R := w.heap.size + 1) (by omega) (.bool pr) (.slice ar nr cr) (.slice br mr dr)
   have VS_n := VS.other3 (R := w.heap.size + 1) (by omega) (.bool pr) (.slice ar nr cr) (.slice br mr dr)
   have VL_n := VL.other3 (R := w.heap.size + 1) (by omega) (.bool pr) (.slice ar nr cr) (.slice br mr dr)
   have VH_n := VH.other3 (R := w.heap.size + 1) (by omega) (.bool pr) (.slice ar nr cr) (.slice br mr dr)
   have VM_n := VM.other3 (R := w.heap.size + 1) (by omega) (.bool pr) (.slice ar nr cr) (.slice br mr dr)
   have VR_n := VR.same (.bool pr) (.slice ar nr cr) (.slice br mr dr)
   have ht_n := ht.keep hKp
   have hgf_n := hgf.keep hKp
   have hS_n := hS.keep hKp
   have hna_n := hna.keep hKp
   have hr_n := hr.keep hKp
   have BB_n := below_store3 (R := w.heap.size + 1) BB (by omega) (.bool pr) (.slice ar nr cr) (.slice br mr dr)
   clear hKp
   obtain ⟨VR_0,VR_1,VR_2,VR_3,VR_4,VR_5⟩ := id VR
   go_simp
   clear VR_0 VR_1 VR_2 VR_3 VR_4 VR_5
   clear BB ht hgf hS hna hr VR VF VS VL VH VM
   generalize ((w7.setCell ⟨w.heap.size + 1,0,none⟩ (.bool pr)).setCell ⟨w.heap.size + 1,1,none⟩ (.slice ar nr cr)).setCell ⟨w.heap.size + 1,2,none⟩ (.slice br mr dr) = W11 at *
   have BB := BB_n
   have ht := ht_n
   have hgf := hgf_n
   have hS := hS_n
   have hna := hna_n
   have hr := hr_n
   have VR := VR_n
   have VF := VF_n
   have VS := VS_n
   have VL := VL_n
   have VH := VH_n
   have VM := VM_n
   clear BB_n ht_n hgf_n hS_n hna_n hr_n VR_n VF_n VS_n VL_n VH_n VM_n
   refine hK.out _ _ ?_ (fun hH3 => ?_)
   ·exact ⟨VF.1,VF.2.1,VF.2.2.1,VM.1,VM.2.1⟩
   clear hK K hH2
   (try simp only [Act.put,xL4,xL5,xL6])
   refine xT 5 (v := ?_) (hy := Or.inl ⟨by rfl,?_⟩) (h := ?_)
   rotate_left
   ·(intro w hSw; (try dsimp only at hSw); go_simp; (try with_reducible rfl))
   (try simp only [Act.put,xL4,xL5,xL6])
   refine wpAnyH_done (by kernel_rfl) ?_ _
   clear hH3
   rw [← HI.out] at hr
   clear hqa hqd hF hSS HI hsa hsd hsr hqs hfl hsf h1s h2s hab hgf hS
   obtain ⟨q1,q2,q3,q4,q5,q6⟩ := id VR
   go_wp2
   (try simp only [Exit.inBlock,Exit.then])
   refine bodyPost_ret (v := .tuple #[.agg #[.bool pr,.slice ar nr cr,.slice br mr dr],.int .i64 0]) (by simp [results,go_sem,q1,q2,q3]) rfl ?_
   exact ⟨_,rfl,hr,BB⟩
  ·have hcp : ¬ cc > 0 := fun g => hc (Or.inl (HC.out.1.1 g))
   have hcz : (cc == 0) = false := by simp; exact hz
   clear HC hz
   clear hc
   obtain ⟨i0,i1,i2,i3⟩ := id VL
   obtain ⟨j0,j1_,j2_,j3⟩ := id VH
   obtain ⟨VM_0,VM_1,VM_2,VM_3⟩ := id VM
   go_wp2
   clear VM_0 VM_1 VM_2 VM_3
   clear i0 i1 i2 i3 j0 j1_ j2_ j3
   have hDr : Below w5.heap.size w5 w5.drew := (Below.refl _ _).drew
   replace ht := ht.below hDr
   replace hgf := hgf.below hDr
   replace hS := hS.below hDr
   replace VR := VR.below hDr
   replace VF := VF.below hDr
   replace VS := VS.below hDr
   replace VL := VL.below hDr
   replace VH := VH.below hDr
   replace VM := VM.below hDr
   replace BB := BB.trans (hDr.mono BB.size)
   clear hDr
   refine wp_region_held_drew (S := (fun w' => w'.cell? ⟨R1,0,none⟩ = some (.bool pg) ∧ w'.cell? ⟨R1,1,none⟩ = some (.slice ag ng cg) ∧ w'.cell? ⟨R1,2,none⟩ = some (.slice bg mg dg_) ∧ w'.cell? ⟨R3 + 1 + 1,0,none⟩ = some (.int .i64 (A : Int)) ∧ w'.cell? ⟨R3 + 1 + 1,1,none⟩ = some (.int .i64 (C : Int)))) (by kernel_rfl) ?_ (fun hHeld => ?_)
   ·exact ⟨VF.1,VF.2.1,VF.2.2.1,VM.1,VM.2.1⟩
   generalize w5.drew = W30 at *
   refine xT 0 (v := ?_) (hy := Or.inl ⟨by rfl,?_⟩) (h := ?_)
   rotate_left
   ·(intro w hSw; (try dsimp only at hSw); go_simp; (try with_reducible rfl))
   (try simp only [Act.put,xL4,xL5,xL6])
   refine xT 1 (v := ?_) (hy := Or.inl ⟨by rfl,?_⟩) (h := ?_)
   rotate_left
   ·(intro w hSw; (try dsimp only at hSw); go_simp; (try with_reducible rfl))
   (try simp only [Act.put,xL4,xL5,xL6])
   refine xR [2] (h := ?_)
   refine xN (h := fun K hK => ?_)
   go_simp
   refine (number_at (A : Int) (C : Int) _ (by omega) (by omega) (by omega) (by omega) ht).mono ?_
   rintro e w26 ⟨na,rfl,hna,b26⟩
   rw [hqa] at hna
   go_wp2_with fail
   replace ht := ht.below b26
   replace hgf := hgf.below b26
   replace hS := hS.below b26
   replace VR := VR.below b26
   replace VF := VF.below b26
   replace VS := VS.below b26
   replace VL := VL.below b26
   replace VH := VH.below b26
   replace VM := VM.below b26
   replace BB := BB.trans (b26.mono BB.size)
   clear b26
   refine hK.out _ _ ?_ (fun hH1 => ?_)
   ·exact ⟨VF.1,VF.2.1,VF.2.2.1,VM.1,VM.2.1⟩
   clear hK K hHeld
   (try simp only [Act.put,xL4,xL5,xL6])
   refine xR [3] (h := ?_)
   refine xN (h := fun K hK => ?_)
   go_simp
   refine (qadd_at _ _ F qa (L + 1) _ hgf (hna.at _ (by omega)) (by omega) (by omega) ht).mono ?_
   rintro e w27 ⟨xx,rfl,hr,b27⟩
   obtain ⟨pr,ar,nr,cr,br,mr,dr,rfl⟩ := hr.open
   go_wp2_with fail
   replace ht := ht.below b27
   replace hgf := hgf.below b27
   replace hS := hS.below b27
   replace hna := hna.below b27
   replace VR := VR.below b27
   replace VF := VF.below b27
   replace VS := VS.below b27
   replace VL := VL.below b27
   replace VH := VH.below b27
   replace VM := VM.below b27
   replace BB := BB.trans (b27.mono BB.size)
   clear b27
   refine hK.out _ _ ?_ (fun hH2 => ?_)
   ·exact ⟨VF.1,VF.2.1,VF.2.2.1,VM.1,VM.2.1⟩
   clear hK K hH1
   (try simp only [Act.put,xL4,xL5,xL6])
   refine xR [4] (h := ?_)
   refine xN (h := fun K hK => ?_)
   have hKp := VR.keepJ (.bool pr) (.slice ar nr cr) (.slice br mr dr)
   have VF_n := VF.other3 (R := w.heap.size + 1) (by omega) (.bool pr) (.slice ar nr cr) (.slice br mr dr)
   have VS_n := VS.other3 (R := w.heap.size + 1) (by omega) (.bool pr) (.slice ar nr cr) (.slice br mr dr)
   have VL_n := VL.other3 (R := w.heap.size + 1) (by omega) (.bool pr) (.slice ar nr cr) (.slice br mr dr)
   have VH_n := VH.other3 (R := w.heap.size + 1) (by omega) (.bool pr) (.slice ar nr cr) (.slice br mr dr)
   have VM_n := VM.other3 (R := w.heap.size + 1) (by omega) (.bool pr) (.slice ar nr cr) (.slice br mr dr)
   have VR_n := VR.same (.bool pr) (.slice ar nr cr) (.slice br mr dr)
   have ht_n := ht.keep hKp
   have hgf_n := hgf.keep hKp
   have hS_n := hS.keep hKp
   have hna_n := hna.keep hKp
   have hr_n := hr.keep hKp
   have BB_n := below_store3 (R := w.heap.size + 1) BB (by omega) (.bool pr) (.slice ar nr cr) (.slice br mr dr)
   clear hKp
   obtain ⟨VR_0,VR_1,VR_2,VR_3,VR_4,VR_5⟩ := id VR
   go_simp
   clear VR_0 VR_1 VR_2 VR_3 VR_4 VR_5
   clear BB ht hgf hS hna hr VR VF VS VL VH VM
   generalize ((w27.setCell ⟨w.heap.size + 1,0,none⟩ (.bool pr)).setCell ⟨w.heap.size + 1,1,none⟩ (.slice ar nr cr)).setCell ⟨w.heap.size + 1,2,none⟩ (.slice br mr dr) = W31 at *
   have BB := BB_n
   have ht := ht_n
   have hgf := hgf_n
   have hS := hS_n
   have hna := hna_n
   have hr := hr_n
   have VR := VR_n
   have VF := VF_n
   have VS := VS_n
   have VL := VL_n
   have VH := VH_n
   have VM := VM_n
   clear BB_n ht_n hgf_n hS_n hna_n hr_n VR_n VF_n VS_n VL_n VH_n VM_n
   refine hK.out _ _ ?_ (fun hH3 => ?_)
   ·exact ⟨VF.1,VF.2.1,VF.2.2.1,VM.1,VM.2.1⟩
   clear hK K hH2
   (try simp only [Act.put,xL4,xL5,xL6])
   refine xT 5 (v := ?_) (hy := Or.inl ⟨by rfl,?_⟩) (h := ?_)
   rotate_left
   ·(intro w hSw; (try dsimp only at hSw); go_simp; (try with_reducible rfl))
   (try simp only [Act.put,xL4,xL5,xL6])
   refine wpAnyH_done (by kernel_rfl) ?_ _
   clear hH3
   rw [← HI.out] at hr
   clear hqa hqd hF hSS HI hsa hsd hsr hqs hfl hsf h1s h2s hab hgf hS
   obtain ⟨q1,q2,q3,q4,q5,q6⟩ := id VR
   go_wp2
   (try simp only [Exit.inBlock,Exit.then])
   refine bodyPost_ret (v := .tuple #[.agg #[.bool pr,.slice ar nr cr,.slice br mr dr],.int .i64 0]) (by simp [results,go_sem,q1,q2,q3]) rfl ?_
   exact ⟨_,rfl,hr,BB⟩
theorem near_low (v : Value) (q : Rat) (L most : Nat) (w : World) (hv : RatAt w v q L) (ht : Tab w) (hL : 2 ≤ L) (hM : L ≤ 30000) (hm0 : 1 ≤ most) (hm : most ≤ 4096) (A C D E : Nat) (hA : A ≤ 4096) (hC : C ≤ 4096) (hD : D ≤ 4096) (hE : E ≤ 4096) (hab : aboutN (q - (q.floor : Rat)) most (most + 1) 0 1 1 1 = (A,C,D,E)) (hlt : q - (q.floor : Rat) - ((A : Int) : Rat) / ((C : Int) : Rat) < ((D : Int) : Rat) / ((E : Int) : Rat) - (q - (q.floor : Rat))) :
  Calls Tryz.prog 8 #[v,.int .i64 (most : Int)] w fun e w' => ∃ r,e = .returned (.tuple #[r,.int .i64 0]) ∧ RepQ w' r ((q.floor : Rat) + ((A : Int) : Rat) / ((C : Int) : Rat)) ∧ Below w.heap.size w w' := by
 refine (near_any v q L most w hv ht hL hM hm0 hm A C D E hA hC hD hE hab).mono ?_
 rintro e w1 ⟨r,rfl,h1,h2⟩
 unfold nearQ at h1
 rw [if_neg] at h1
 ·exact ⟨r,rfl,h1,h2⟩
 ·rintro (g | g)
  ·exact absurd (Rat.le_of_lt g) (Rat.not_le.2 hlt)
  ·rw [g.1] at hlt; exact Rat.lt_irrefl hlt



def QRow (w : World) (v : Value) (n : Nat) (q : Nat → Rat) (L : Nat) : Prop := ∃ el,RowAt 3 w v n el ∧ ∀ i,i < n → RatAt w (.agg #[el i 0,el i 1,el i 2]) (q i) L
theorem QRow.below {w w' : World} {v : Value} {n : Nat} {q : Nat → Rat} {L : Nat} (h : QRow w v n q L) (hb : Below w.heap.size w w') : QRow w' v n q L := by
 obtain ⟨el,h1,h2⟩ := h
 exact ⟨el,h1.below hb,fun i hi => (h2 i hi).below hb⟩
theorem QRow.cut {w : World} {v : Value} {n : Nat} {q : Nat → Rat} {L : Nat} (h : QRow w v n q L) (m : Nat) (h0 : 0 < m) (hm : m < n) :
  ∃ b off c,v = .slice (some ⟨b,off,none⟩) n c ∧ n ≤ c ∧ c ≤ 9223372036854775807 ∧ QRow w (.slice (some ⟨b,off,none⟩) m c) m q L ∧ QRow w (.slice (some ⟨b,off + m * 3,none⟩) (n - m) (c - m)) (n - m) (fun i => q (m + i)) L := by
 obtain ⟨el,h1,h2⟩ := h
 obtain ⟨b,off,c,e,hc,hM,p1,p2⟩ := h1.cut m h0 hm
 exact ⟨b,off,c,e,hc,hM,⟨el,p1,fun i hi => h2 i (by omega)⟩,⟨_,p2,fun i hi => h2 (m + i) (by omega)⟩⟩
theorem QRow.sz {w : World} {v : Value} {n : Nat} {q : Nat → Rat} {L : Nat} (h : QRow w v n q L) (hL : 1 ≤ L) (i : Nat) (hi : i < n) : qsz (q i) ≤ L := by
 obtain ⟨el,_,h2⟩ := h; exact (h2 i hi).qsz hL
end Go.Proofs.YtpgioggbepdjpaaGreatDoor
