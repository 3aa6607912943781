/-
  Texts of mine, joined: what lies beneath the statement.
-/
import Derived.Test.YtpgioggbepdjpaaGreatDoorJc6147c59cf
import Derived.Test.YtpgioggbepdjpaaGreatDoorJ199d4e0890
import Derived.Test.YtpgioggbepdjpaaGreatDoorJ5d56089f73
import Derived.Test.YtpgioggbepdjpaaGreatDoorJa27005a2f6
import Derived.Deep.Cut
import Derived.Deep.CutRange
import Derived.Deep.LoopGhost
namespace Go.Proofs.YtpgioggbepdjpaaGreatDoor
open Go.RowKit
set_option linter.unusedVariables false
set_option linter.unusedSimpArgs false
theorem bx_eq (F : Int) (t1 t2 t3 t4 : Nat) (h : 0 < t2) : (F : Rat) + ((t1 : Int) : Rat) / ((t2 : Int) : Rat) = bx F (t1,t2,t3,t4) := bx_sum F t1 t2 h t3 t4
theorem bx_sz (F : Int) (t1 t2 t3 t4 L : Nat) (h : 0 < t2) (hF : qsz ((F : Int) : Rat) ≤ L + 1) (h1 : t1 < 4294967296) (h2 : t2 < 4294967296) : qsz (bx F (t1,t2,t3,t4)) ≤ L + 4 := by
 rw [← bx_eq F t1 t2 t3 t4 h]
 exact Nat.le_trans (qsz_add _ _ hF (qsz_frac (t1 : Int) (t2 : Int) (by omega) (by omega))) (by omega)
def BetOut (a b : Rat) (most : Nat) (F : Int) (w : World) (e : Ending) (w' : World) : Prop :=
 ∃ (r : Value) (m : Nat) (s : Nat × Nat × Nat × Nat),e = .returned (.tuple #[r,.int .i64 0]) ∧ Start a most F s ∧ FRow w' r m (fun j => bx F (bst most s j)) ∧ b < bx F (bst most s m) ∧ (∀ j,j < m → bx F (bst most s j) ≤ b) ∧ m ≤ 721 ∧ Below w.heap.size w w'
set_option maxRecDepth 20000 in
set_option maxHeartbeats 16000000 in
theorem between_any (u v : Value) (a b : Rat) (L most : Nat) (F : Int) (S : Rat) (w : World) (hu : RatAt w u a L) (hv : RatAt w v b L) (ht : Tab w) (hL : 2 ≤ L) (hM : L ≤ 20000) (hm0 : 1 ≤ most) (hm : most ≤ 8) (hF : Hid (a.floor = F)) (hSS : Hid (a - (F : Rat) = S)) (hFa : a < (F : Rat) + 1) (hba : b + -a ≤ 20) (A C D E : Nat) (hab : aboutN S most (most + 1) 0 1 1 1 = (A,C,D,E)) (hsd : Sides S most A C D E) (hAC : A ≤ C) (hDE : D ≤ E) :
  Calls Tryz.prog 21 #[u,v,.int .i64 (most : Int)] w fun e w' => BetOut a b most F w e w' := by
 obtain ⟨p,ao,n,c,bo,m,d,rfl⟩ := hu.open
 obtain ⟨p2,ao2,n2,c2,bo2,m2,d2,rfl⟩ := hv.open
 have hqs := hu.qsz (by omega)
 have hqb := hv.qsz (by omega)
 have hfl := qsz_floorB a hqs
 rw [hF.out] at hfl
 have hsf : qsz ((F : Int) : Rat) ≤ L + 1 := qsz_int _ hfl (by omega)
 have hsr : qsz (a - (F : Rat)) ≤ L + (L + 1) + 1 := qsz_sub _ _ hqs hsf
 rw [hSS.out] at hsr
 have HSD : Hid (Sides S most A C D E) := hsd
 have hC0 := hsd.2.2.1
 have hE0 := hsd.2.2.2.1
 have hCm := hsd.2.2.2.2.1
 have hEm := hsd.2.2.2.2.2.1
 clear hsd
 have hsa := qsz_frac (A : Int) (C : Int) (by omega) (by omega)
 rw [int_mkB] at hsa
 have j1 : ¬ (most : Int) < 1 := by omega
 have j2 : ¬ (most : Int) > 64 := by omega
 have BB : Below w.heap.size w w := Below.refl _ _
 obtain ⟨Wb0,hW0,hS0,hL0,VA⟩ := V3.lay w 27 (.bool p) (.slice ao n c) (.slice bo m d)
 replace hu := hu.below hL0
 replace hv := hv.below hL0
 replace ht := ht.below hL0
 replace BB := BB.trans (hL0.mono BB.size)
 clear hL0
 obtain ⟨Wb1,hW1,hS1,hL1,VB⟩ := V3.lay Wb0 27 (.bool p2) (.slice ao2 n2 c2) (.slice bo2 m2 d2)
 rw [hS0] at VB hS1
 replace hu := hu.below hL1
 replace hv := hv.below hL1
 replace ht := ht.below hL1
 replace VA := VA.below hL1
 replace BB := BB.trans (hL1.mono BB.size)
 clear hL1
 go_enter Tryz.func21,Tryz.ntmps21
 go_wp2_with fail
 rw [← hW0]
 rw [← hW1]
 clear hW0 hW1 hS0 hS1
 refine (qfloor_at _ _ _ _ hu (by omega) (by omega)).mono ?_
 rintro e w1 ⟨fv,rfl,hf,b1⟩
 replace hu := hu.below b1
 replace hv := hv.below b1
 replace ht := ht.below b1
 replace VA := VA.below b1
 replace VB := VB.below b1
 replace BB := BB.trans (b1.mono BB.size)
 clear b1
 rw [hF.out] at hf
 go_wp2_with fail
 refine (qint_at _ _ _ _ (hf.at _ hfl)).mono ?_
 rintro e w2 ⟨gv,rfl,hg,b2⟩
 replace hu := hu.below b2
 replace hv := hv.below b2
 replace ht := ht.below b2
 replace hf := hf.below b2
 replace VA := VA.below b2
 replace VB := VB.below b2
 replace BB := BB.trans (b2.mono BB.size)
 clear b2
 obtain ⟨pg,ag,ng,cg,bg,mg,dg_,rfl⟩ := hg.open
 clear hf
 have hZ1 : w.heap.size ≤ w2.heap.size := BB.size
 have hN1VA : w.heap.size ≠ w2.heap.size := Nat.ne_of_lt VA.lt
 have hN1VB : w.heap.size + 1 ≠ w2.heap.size := Nat.ne_of_lt VB.lt
 obtain ⟨W1,hW1,hS1,hL1,VF⟩ := V3.lay w2 27 (.bool pg) (.slice ag ng cg) (.slice bg mg dg_)
 replace hu := hu.below hL1
 replace hv := hv.below hL1
 replace ht := ht.below hL1
 replace hg := hg.below hL1
 replace VA := VA.below hL1
 replace VB := VB.below hL1
 replace BB := BB.trans (hL1.mono BB.size)
 clear hL1
 obtain ⟨VA_0,VA_1,VA_2,VA_3,VA_4,VA_5⟩ := id VA
 rw [hW1] at VA_0 VA_1 VA_2 VA_3 VA_4 VA_5
 go_wp2_with fail
 clear VA_0 VA_1 VA_2 VA_3 VA_4 VA_5
 rw [← hW1]
 generalize w2.heap.size = R1 at *
 clear hW1 hS1
 have hgf := hg.at (L + 1) hsf
 refine (qsub_at _ _ a (F : Rat) (L + 1) _ (hu.le (by omega)) hgf (by omega) (by omega) ht).mono ?_
 rintro e w3 ⟨rv,rfl,hr0,b3⟩
 replace hu := hu.below b3
 replace hv := hv.below b3
 replace ht := ht.below b3
 replace hg := hg.below b3
 replace hgf := hgf.below b3
 replace VA := VA.below b3
 replace VB := VB.below b3
 replace VF := VF.below b3
 replace BB := BB.trans (b3.mono BB.size)
 clear b3
 rw [hSS.out] at hr0
 obtain ⟨pe,ae,ne,ce,be,me,de,rfl⟩ := hr0.open
 clear hg hu
 have hZ2 : w.heap.size ≤ w3.heap.size := BB.size
 have hN2VA : w.heap.size ≠ w3.heap.size := Nat.ne_of_lt VA.lt
 have hN2VB : w.heap.size + 1 ≠ w3.heap.size := Nat.ne_of_lt VB.lt
 have hN2VF : R1 ≠ w3.heap.size := Nat.ne_of_lt VF.lt
 obtain ⟨W2,hW2,hS2,hL2,VS⟩ := V3.lay w3 27 (.bool pe) (.slice ae ne ce) (.slice be me de)
 replace hv := hv.below hL2
 replace ht := ht.below hL2
 replace hgf := hgf.below hL2
 replace hr0 := hr0.below hL2
 replace VA := VA.below hL2
 replace VB := VB.below hL2
 replace VF := VF.below hL2
 replace BB := BB.trans (hL2.mono BB.size)
 clear hL2
 go_wp2_with fail
 rw [← hW2]
 generalize w3.heap.size = R2 at *
 clear hW2 hS2
 have hS := hr0.at (L + (L + 1) + 1) hsr
 clear hr0
 refine (about_at _ S (L + (L + 1) + 1) most _ hS ht (by omega) (by omega) (by omega) A C D E hab).mono ?_
 rintro e w4 ⟨rfl,b4⟩
 replace hv := hv.below b4
 replace ht := ht.below b4
 replace hgf := hgf.below b4
 replace hS := hS.below b4
 replace VA := VA.below b4
 replace VB := VB.below b4
 replace VF := VF.below b4
 replace VS := VS.below b4
 replace BB := BB.trans (b4.mono BB.size)
 clear b4
 have hZ3 : w.heap.size ≤ w4.heap.size := BB.size
 have hN3VA : w.heap.size < w4.heap.size := VA.lt
 have hN3VB : w.heap.size + 1 < w4.heap.size := VB.lt
 have hN3VF : R1 < w4.heap.size := VF.lt
 have hN3VS : R2 < w4.heap.size := VS.lt
 obtain ⟨W4,hW4,hS4,hL4,VL⟩ := V2.lay w4 72 (.int .i64 (A : Int)) (.int .i64 (C : Int))
 replace hv := hv.below hL4
 replace ht := ht.below hL4
 replace hgf := hgf.below hL4
 replace hS := hS.below hL4
 replace VA := VA.below hL4
 replace VB := VB.below hL4
 replace VF := VF.below hL4
 replace VS := VS.below hL4
 replace BB := BB.trans (hL4.mono BB.size)
 clear hL4
 obtain ⟨W5,hW5,hS5,hL5,VH⟩ := V2.lay W4 72 (.int .i64 (D : Int)) (.int .i64 (E : Int))
 replace hv := hv.below hL5
 replace ht := ht.below hL5
 replace hgf := hgf.below hL5
 replace hS := hS.below hL5
 replace VA := VA.below hL5
 replace VB := VB.below hL5
 replace VF := VF.below hL5
 replace VS := VS.below hL5
 replace VL := VL.below hL5
 replace BB := BB.trans (hL5.mono BB.size)
 clear hL5
 rw [hS4] at VH
 go_wp2
 rw [← hW4]
 rw [← hW5]
 generalize w4.heap.size = R3 at *
 clear hW4 hS4 hW5 hS5
 clear VA hab
 have hDr : Below W5.heap.size W5 W5.drew := (Below.refl _ _).drew
 replace hv := hv.below hDr
 replace ht := ht.below hDr
 replace hgf := hgf.below hDr
 replace hS := hS.below hDr
 replace VB := VB.below hDr
 replace VF := VF.below hDr
 replace VS := VS.below hDr
 replace VL := VL.below hDr
 replace VH := VH.below hDr
 replace BB := BB.trans (hDr.mono BB.size)
 clear hDr
 refine wp_region_held_drew (S := (fun w' => w'.cell? ⟨R3,0,none⟩ = some (.int .i64 (A : Int)) ∧ w'.cell? ⟨R3,1,none⟩ = some (.int .i64 (C : Int)) ∧ w'.cell? ⟨R2,0,none⟩ = some (.bool pe) ∧ w'.cell? ⟨R2,1,none⟩ = some (.slice ae ne ce) ∧ w'.cell? ⟨R2,2,none⟩ = some (.slice be me de))) (by kernel_rfl) ?_ (fun hHeld => ?_)
 ·exact ⟨VL.1,VL.2.1,VS.1,VS.2.1,VS.2.2.1⟩
 generalize W5.drew = W6 at *
 refine xT 0 (v := ?_) (hy := Or.inl ⟨by rfl,?_⟩) (h := ?_)
 rotate_left
 ·(intro w hSw; (try dsimp only at hSw); go_simp; (try with_reducible rfl))
 (try simp only [Act.put,xL4,xL5,xL6])
 refine xT 2 (v := ?_) (hy := Or.inl ⟨by rfl,?_⟩) (h := ?_)
 rotate_left
 ·(intro w hSw; (try dsimp only at hSw); go_simp; (try with_reducible rfl))
 (try simp only [Act.put,xL4,xL5,xL6])
 refine xR [1] (h := ?_)
 refine xN (h := fun K hK => ?_)
 go_simp
 refine (number_at (A : Int) (C : Int) _ (by omega) (by omega) (by omega) (by omega) ht).mono ?_
 rintro e w5 ⟨na,rfl,hna,b5⟩
 rw [int_mkB] at hna
 go_wp2_with fail
 replace hv := hv.below b5
 replace ht := ht.below b5
 replace hgf := hgf.below b5
 replace hS := hS.below b5
 replace VB := VB.below b5
 replace VF := VF.below b5
 replace VS := VS.below b5
 replace VL := VL.below b5
 replace VH := VH.below b5
 replace BB := BB.trans (b5.mono BB.size)
 clear b5
 refine hK.out _ _ ?_ (fun hH1 => ?_)
 ·exact ⟨VL.1,VL.2.1,VS.1,VS.2.1,VS.2.2.1⟩
 clear hK K hHeld
 (try simp only [Act.put,xL4,xL5,xL6])
 refine xR [3] (h := ?_)
 refine xN (h := fun K hK => ?_)
 go_simp
 refine (qcmp_at _ _ (mkRat (A : Int) C) S (L + (L + 1) + 1) _ (hna.at _ (by omega)) hS (by omega) (by omega)).mono ?_
 rintro e w6 ⟨rfl,b6⟩
 go_wp2_with fail
 replace hv := hv.below b6
 replace ht := ht.below b6
 replace hgf := hgf.below b6
 replace hS := hS.below b6
 replace hna := hna.below b6
 replace VB := VB.below b6
 replace VF := VF.below b6
 replace VS := VS.below b6
 replace VL := VL.below b6
 replace VH := VH.below b6
 replace BB := BB.trans (b6.mono BB.size)
 clear b6
 refine hK.out _ _ ?_ (fun hH2 => ?_)
 ·exact ⟨VL.1,VL.2.1,VS.1,VS.2.1,VS.2.2.1⟩
 clear hK K hH1
 (try simp only [Act.put,xL4,xL5,xL6])
 refine xT 4 (v := ?_) (hy := Or.inl ⟨by rfl,?_⟩) (h := ?_)
 rotate_left
 ·(intro w hSw; (try dsimp only at hSw); go_simp; (try with_reducible rfl))
 (try simp only [Act.put,xL4,xL5,xL6])
 refine wpAnyH_done (by kernel_rfl) ?_ _
 clear hH2
 clear hna
 have HCQ : Hid (cmpQ (mkRat (A : Int) C) S < 0 ↔ mkRat (A : Int) C < S) := cmpQ_belowB _ _
 generalize cmpQ (mkRat (A : Int) C) S = cc at *
 clear VS hS
 go_upto_if 36 with (fail)
 go_cut [] from 14 (fun wc => ∃ s1 s2 s3 s4 : Nat,Hid (Start a most F (s1,s2,s3,s4)) ∧ s1 ≤ 1345 ∧ V2 wc R3 (.int .i64 (s1 : Int)) (.int .i64 (s2 : Int)) ∧ V2 wc (R3 + 1) (.int .i64 (s3 : Int)) (.int .i64 (s4 : Int)) ∧ V3 wc (w.heap.size + 1) (.bool p2) (.slice ao2 n2 c2) (.slice bo2 m2 d2) ∧ V3 wc R1 (.bool pg) (.slice ag ng cg) (.slice bg mg dg_) ∧ RatAt wc (.agg #[.bool p2,.slice ao2 n2 c2,.slice bo2 m2 d2]) b L ∧ RatAt wc (.agg #[.bool pg,.slice ag ng cg,.slice bg mg dg_]) ((F : Int) : Rat) (L + 1) ∧ Tab wc ∧ Below w.heap.size w wc)
 case first =>
  by_cases he : mkRat (A : Int) C < S
  ·have hcc : cc < 0 := HCQ.out.2 he
   clear HCQ
   have HST : Hid (Start a most F (bst most (A,C,D,E) 1)) := start_high (by rw [hSS.out]; exact HSD.out) (by rw [hSS.out]; exact he)
   obtain ⟨g1,g2⟩ := (bst_step (most := most) (t := (A,C,D,E)) ⟨hC0,hE0,hCm,hEm,HSD.out.2.2.2.2.2.2.1,HSD.out.2.2.2.2.2.2.2⟩).2
   simp only at g1 g2
   clear HSD he
   go_wp2
   simp only [hcc,decide_true]
   refine wp_region_until 5 #[true,true,true,true,true,false,false] (fun aF lsd a' w' => ∃ vu0 vu1 vu2 vu3 vu4 : Value,a' = ((((aF.put (some 37) vu0).put (some 38) vu1).put (some 39) vu2).put (some 40) vu3).put (some 41) vu4 ∧ Below w6.heap.size w6 w' ∧ (lsd.getD 0 false = true → vu0 = .agg #[.int .i64 (D : Int),.int .i64 (E : Int)]) ∧ (lsd.getD 1 false = true → vu1 = .agg #[.int .i64 (A : Int),.int .i64 (C : Int)]) ∧ (lsd.getD 2 false = true → vu2 = .agg #[.int .i64 (D : Int),.int .i64 (E : Int)]) ∧ (lsd.getD 3 false = true → vu3 = .int .i64 (most : Int)) ∧ (lsd.getD 4 false = true → vu4 = .agg #[.int .i64 (((most + C) / E * D - A : Nat) : Int),.int .i64 (((most + C) / E * E - C : Nat) : Int)])) (by kernel_rfl) (by decide) (by kernel_rfl) (by rfl) (by kernel_rfl) ?_ ?_ ?_
   ·exact ⟨_,_,_,_,_,by simp only [Act.put,xL4,xL5,xL6]; rfl,(Below.refl _ _).drew,fun h => absurd h (fun h => mark_none h),fun h => absurd h (fun h => mark_none h),fun h => absurd h (fun h => mark_none h),fun h => absurd h (fun h => mark_none h),fun h => absurd h (fun h => mark_none h)⟩
   ·rintro lsd au wn iu hszu ⟨vu0,vu1,vu2,vu3,vu4,rfl,hbu,fu0,fu1,fu2,fu3,fu4⟩ himu hru
    rcases (show iu = 0 ∨ iu = 1 ∨ iu = 2 ∨ iu = 3 ∨ iu = 4 by omega) with rfl | rfl | rfl | rfl | rfl
    ·refine wpOp_shut (by rfl) (fun K hK => ?_)
     simp only [Act.put,xL4,xL5,xL6]
     obtain ⟨VH_0,VH_1,VH_2,VH_3⟩ := VH.below hbu
     go_simp
     exact hK.out _ _ ⟨(.agg #[.int .i64 (D : Int),.int .i64 (E : Int)]),vu1,vu2,vu3,vu4,by simp only [Act.put,xL4,xL5,xL6],hbu,fun _ => rfl,fun h => fu1 (mark_of (by decide) h),fun h => fu2 (mark_of (by decide) h),fun h => fu3 (mark_of (by decide) h),fun h => fu4 (mark_of (by decide) h)⟩
    ·refine wpOp_shut (by rfl) (fun K hK => ?_)
     simp only [Act.put,xL4,xL5,xL6]
     obtain ⟨VL_0,VL_1,VL_2,VL_3⟩ := VL.below hbu
     go_simp
     exact hK.out _ _ ⟨vu0,(.agg #[.int .i64 (A : Int),.int .i64 (C : Int)]),vu2,vu3,vu4,by simp only [Act.put,xL4,xL5,xL6],hbu,fun h => fu0 (mark_of (by decide) h),fun _ => rfl,fun h => fu2 (mark_of (by decide) h),fun h => fu3 (mark_of (by decide) h),fun h => fu4 (mark_of (by decide) h)⟩
    ·refine wpOp_shut (by rfl) (fun K hK => ?_)
     simp only [Act.put,xL4,xL5,xL6]
     obtain ⟨VH_0,VH_1,VH_2,VH_3⟩ := VH.below hbu
     go_simp
     exact hK.out _ _ ⟨vu0,vu1,(.agg #[.int .i64 (D : Int),.int .i64 (E : Int)]),vu3,vu4,by simp only [Act.put,xL4,xL5,xL6],hbu,fun h => fu0 (mark_of (by decide) h),fun h => fu1 (mark_of (by decide) h),fun _ => rfl,fun h => fu3 (mark_of (by decide) h),fun h => fu4 (mark_of (by decide) h)⟩
    ·refine wpOp_shut (by rfl) (fun K hK => ?_)
     simp only [Act.put,xL4,xL5,xL6]
     go_simp
     exact hK.out _ _ ⟨vu0,vu1,vu2,(.int .i64 (most : Int)),vu4,by simp only [Act.put,xL4,xL5,xL6],hbu,fun h => fu0 (mark_of (by decide) h),fun h => fu1 (mark_of (by decide) h),fun h => fu2 (mark_of (by decide) h),fun _ => rfl,fun h => fu4 (mark_of (by decide) h)⟩
    ·have eu1 := fu1 (dep_of 1 hru rfl (by kernel_rfl))
     have eu2 := fu2 (dep_of 2 hru rfl (by kernel_rfl))
     have eu3 := fu3 (dep_of 3 hru rfl (by kernel_rfl))
     subst eu1
     subst eu2
     subst eu3
     refine wpOp_shut (by rfl) (fun K hK => ?_)
     simp only [Act.put,xL4,xL5,xL6]
     go_simp
     refine (behind_at A C D E most _ hE0 (by omega) (by omega) (by omega) (by omega) (by omega) g1 g2).mono ?_
     rintro eu wx ⟨rfl,bu⟩
     go_wp2_with fail
     have hbu2 := hbu.trans (bu.mono hbu.size)
     exact hK.out _ _ ⟨vu0,(.agg #[.int .i64 (A : Int),.int .i64 (C : Int)]),(.agg #[.int .i64 (D : Int),.int .i64 (E : Int)]),(.int .i64 (most : Int)),(.agg #[.int .i64 (((most + C) / E * D - A : Nat) : Int),.int .i64 (((most + C) / E * E - C : Nat) : Int)]),by simp only [Act.put,xL4,xL5,xL6],hbu2,fun h => fu0 (mark_of (by decide) h),fun _ => rfl,fun _ => rfl,fun _ => rfl,fun _ => rfl⟩
   rintro au Wu7 ⟨vu0,vu1,vu2,vu3,vu4,rfl,hbu,fu0,fu1,fu2,fu3,fu4⟩
   have eu0 := fu0 rfl
   subst eu0
   have eu1 := fu1 rfl
   subst eu1
   have eu2 := fu2 rfl
   subst eu2
   have eu3 := fu3 rfl
   subst eu3
   have eu4 := fu4 rfl
   subst eu4
   clear fu0 fu1 fu2 fu3 fu4
   have hlVB : w.heap.size + 1 < w6.heap.size := VB.lt
   have hlVF : R1 < w6.heap.size := VF.lt
   have hlVL : R3 < w6.heap.size := VL.lt
   have hlVH : R3 + 1 < w6.heap.size := VH.lt
   replace hv := hv.below hbu
   replace ht := ht.below hbu
   replace hgf := hgf.below hbu
   replace VB := VB.below hbu
   replace VF := VF.below hbu
   replace VL := VL.below hbu
   replace VH := VH.below hbu
   replace BB := BB.trans (hbu.mono BB.size)
   clear hbu
   simp only [Act.put,xL4,xL5,xL6]
   refine xR [5] (h := ?_)
   refine AllReadyH.cons (by rfl) (fun K hK => ?_) AllReadyH.nil
   have hKp := VL.keepF (.int .i64 (D : Int)) (.int .i64 (E : Int))
   have VB_n := VB.other2 (R := R3) (by omega) (.int .i64 (D : Int)) (.int .i64 (E : Int))
   have VF_n := VF.other2 (R := R3) (by omega) (.int .i64 (D : Int)) (.int .i64 (E : Int))
   have VH_n := VH.other (R := R3) (by omega) (.int .i64 (D : Int)) (.int .i64 (E : Int))
   have VL_n := VL.same (.int .i64 (D : Int)) (.int .i64 (E : Int))
   have hv_n := hv.keepL hKp
   have ht_n := ht.keepL hKp
   have hgf_n := hgf.keepL hKp
   have BB_n := below_store2 (R := R3) BB (by omega) (.int .i64 (D : Int)) (.int .i64 (E : Int))
   clear hKp
   obtain ⟨VL_0,VL_1,VL_2,VL_3⟩ := id VL
   go_simp
   clear VL_0 VL_1 VL_2 VL_3
   clear BB hv ht hgf VB VF VL VH
   generalize (Wu7.setCell ⟨R3,0,none⟩ (.int .i64 (D : Int))).setCell ⟨R3,1,none⟩ (.int .i64 (E : Int)) = W8 at *
   have BB := BB_n
   have hv := hv_n
   have ht := ht_n
   have hgf := hgf_n
   have VB := VB_n
   have VF := VF_n
   have VL := VL_n
   have VH := VH_n
   clear BB_n hv_n ht_n hgf_n VB_n VF_n VL_n VH_n
   refine hK.out _ _ trivial (fun _ => ?_)
   clear hK K
   simp only [Act.put,xL4,xL5,xL6]
   refine xR [6] (h := ?_)
   refine AllReadyH.cons (by rfl) (fun K hK => ?_) AllReadyH.nil
   have hKp := VH.keepF (.int .i64 (((most + C) / E * D - A : Nat) : Int)) (.int .i64 (((most + C) / E * E - C : Nat) : Int))
   have VB_n := VB.other2 (R := R3 + 1) (by omega) (.int .i64 (((most + C) / E * D - A : Nat) : Int)) (.int .i64 (((most + C) / E * E - C : Nat) : Int))
   have VF_n := VF.other2 (R := R3 + 1) (by omega) (.int .i64 (((most + C) / E * D - A : Nat) : Int)) (.int .i64 (((most + C) / E * E - C : Nat) : Int))
   have VL_n := VL.other (R := R3 + 1) (by omega) (.int .i64 (((most + C) / E * D - A : Nat) : Int)) (.int .i64 (((most + C) / E * E - C : Nat) : Int))
   have VH_n := VH.same (.int .i64 (((most + C) / E * D - A : Nat) : Int)) (.int .i64 (((most + C) / E * E - C : Nat) : Int))
   have hv_n := hv.keepL hKp
   have ht_n := ht.keepL hKp
   have hgf_n := hgf.keepL hKp
   have BB_n := below_store2 (R := R3 + 1) BB (by omega) (.int .i64 (((most + C) / E * D - A : Nat) : Int)) (.int .i64 (((most + C) / E * E - C : Nat) : Int))
   clear hKp
   obtain ⟨VH_0,VH_1,VH_2,VH_3⟩ := id VH
   go_simp
   clear VH_0 VH_1 VH_2 VH_3
   clear BB hv ht hgf VB VF VL VH
   generalize (W8.setCell ⟨R3 + 1,0,none⟩ (.int .i64 (((most + C) / E * D - A : Nat) : Int))).setCell ⟨R3 + 1,1,none⟩ (.int .i64 (((most + C) / E * E - C : Nat) : Int)) = W9 at *
   have BB := BB_n
   have hv := hv_n
   have ht := ht_n
   have hgf := hgf_n
   have VB := VB_n
   have VF := VF_n
   have VL := VL_n
   have VH := VH_n
   clear BB_n hv_n ht_n hgf_n VB_n VF_n VL_n VH_n
   refine hK.out _ _ trivial (fun _ => ?_)
   clear hK K
   simp only [Act.put,xL4,xL5,xL6]
   refine wpAnyH_done (by kernel_rfl) ?_ _
   go_wp2_with fail
   go_meet
   exact ⟨D,E,_,_,HST,by omega,VL,VH,VB,VF,hv,hgf,ht,BB⟩
  ·have hcc : ¬ cc < 0 := fun g => he (HCQ.out.1 g)
   clear HCQ
   have HST : Hid (Start a most F (A,C,D,E)) := start_low (by rw [hSS.out]; exact HSD.out) (by rw [hSS.out]; exact he)
   clear HSD he
   go_wp2
   go_meet
   exact ⟨A,C,D,E,HST,by omega,VL,VH,VB,VF,hv,hgf,ht,BB⟩
 case rest =>
  clear VL VH VB VF hv hgf ht BB HSD HCQ
  obtain ⟨s1,s2,s3,s4,HST,hs1,VL,VH,VB,VF,hv,hgf,ht,BB⟩ := hcut
  rename World => Wc
  generalize hSv : (s1,s2,s3,s4) = sv at *
  have HS0 : Hid (bst most sv 0 = (s1,s2,s3,s4)) := hSv.symm
  clear hSv
  have hB0 : Hid (R3 < Wc.heap.size ∧ (R3 + 1) < Wc.heap.size ∧ (w.heap.size + 1) < Wc.heap.size ∧ R1 < Wc.heap.size) := ⟨VL.lt,VH.lt,VB.lt,VF.lt⟩
  obtain ⟨BO,hBO⟩ : ∃ BO,BO = Wc.heap.size := ⟨_,rfl⟩
  rw [← hBO] at hB0
  have hBw : Hid (w.heap.size ≤ BO) := by show _ ≤ _; rw [hBO]; exact BB.size
  have hBle : BO ≤ Wc.heap.size := by omega
  clear hBO
  go_wp2
  go_loopg [12] 722 (fun k vo wr => ∃ (i t1 t2 t3 t4 : Nat),i + k = 722 ∧ 0 < k ∧ t1 ≤ 1345 ∧ Hid (bst most sv i = (t1,t2,t3,t4)) ∧ Hid (∀ j,j < i → bx F (bst most sv j) ≤ b) ∧ BO ≤ wr.heap.size ∧ FOwn BO wr vo i (fun j => bx F (bst most sv j)) ∧ V2 wr R3 (.int .i64 (t1 : Int)) (.int .i64 (t2 : Int)) ∧ V2 wr (R3 + 1) (.int .i64 (t3 : Int)) (.int .i64 (t4 : Int)) ∧ V3 wr (w.heap.size + 1) (.bool p2) (.slice ao2 n2 c2) (.slice bo2 m2 d2) ∧ V3 wr R1 (.bool pg) (.slice ag ng cg) (.slice bg mg dg_) ∧ RatAt wr (.agg #[.bool p2,.slice ao2 n2 c2,.slice bo2 m2 d2]) b L ∧ RatAt wr (.agg #[.bool pg,.slice ag ng cg,.slice bg mg dg_]) ((F : Int) : Rat) (L + 1) ∧ Tab wr ∧ Below w.heap.size w wr)
  case atStart => exact ⟨0,s1,s2,s3,s4,by omega,by omega,hs1,HS0,fun j hj => absurd hj (by omega),hBle,FOwn.nil _ _ _,VL,VH,VB,VF,hv,hgf,ht,BB⟩
  case round =>
   clear VL VH VB VF hv hgf ht BB hBle HS0 hs1
   obtain ⟨i,t1,t2,t3,t4,hik,hk0,ht1,HT,HLE,hBle,O,VL,VH,VB,VF,hv,hgf,ht,BB⟩ := hrel
   have HA : Hid (AdjN most (t1,t2,t3,t4)) := by show AdjN most (t1,t2,t3,t4); rw [← HT.out]; exact bst_adj HST.out.1 i
   obtain ⟨y1,y2,y3,y4,y5,y6⟩ := id HA.out
   simp only at y1 y2 y3 y4 y5 y6
   have ht3 : t3 ≤ 20000 := by
    have k1 : t3 * 1 ≤ t3 * t2 := Nat.mul_le_mul_left _ y1
    have k2 : t1 * t4 ≤ 1345 * 8 := Nat.mul_le_mul ht1 (by omega)
    omega
   clear y5 y6
   have HX : Hid ((F : Rat) + ((t1 : Int) : Rat) / ((t2 : Int) : Rat) = bx F (t1,t2,t3,t4)) := bx_eq F t1 t2 t3 t4 y1
   have hq2 := qsz_frac (t1 : Int) (t2 : Int) (by omega) (by omega)
   have hxs := bx_sz F t1 t2 t3 t4 L y1 hsf (by omega) (by omega)
   have HXT : Hid (bx F (t1,t2,t3,t4) = bx F (bst most sv i)) := by show _ = _; rw [HT.out]
   generalize bx F (t1,t2,t3,t4) = X at *
   go_wp2
   refine wp_region_until 5 #[true,true,true,true,true,false] (fun aF lsd a' w' => ∃ vu0 vu1 vu2 vu3 vu4 : Value,a' = ((((aF.put (some 42) vu0).put (some 43) vu1).put (some 44) vu2).put (some 45) vu3).put (some 13) vu4 ∧ Below wr.heap.size wr w' ∧ (lsd.getD 0 false = true → vu0 = .agg #[.bool pg,.slice ag ng cg,.slice bg mg dg_]) ∧ (lsd.getD 1 false = true → vu1 = .agg #[.int .i64 (t1 : Int),.int .i64 (t2 : Int)]) ∧ (lsd.getD 2 false = true → RepQ w' vu2 (((t1 : Int) : Rat) / ((t2 : Int) : Rat))) ∧ (lsd.getD 3 false = true → RepQ w' vu3 X) ∧ (lsd.getD 4 false = true → New3 wr.heap.size w' vu4 (.bool false) (.slice none 0 0) (.slice none 0 0))) (by kernel_rfl) (by decide) (by kernel_rfl) (by rfl) (by kernel_rfl) ?_ ?_ ?_
   ·exact ⟨_,_,_,_,_,by simp only [Act.put,xL4,xL5,xL6]; rfl,(Below.refl _ _).drew,fun h => absurd h (fun h => mark_none h),fun h => absurd h (fun h => mark_none h),fun h => absurd h (fun h => mark_none h),fun h => absurd h (fun h => mark_none h),fun h => absurd h (fun h => mark_none h)⟩
   ·rintro lsd au wn iu hszu ⟨vu0,vu1,vu2,vu3,vu4,rfl,hbu,fu0,fu1,fu2,fu3,fu4⟩ himu hru
    rcases (show iu = 0 ∨ iu = 1 ∨ iu = 2 ∨ iu = 3 ∨ iu = 4 by omega) with rfl | rfl | rfl | rfl | rfl
    ·refine wpOp_shut (by rfl) (fun K hK => ?_)
     simp only [Act.put,xL4,xL5,xL6]
     obtain ⟨VF_0,VF_1,VF_2,VF_3,VF_4,VF_5⟩ := VF.below hbu
     go_simp
     exact hK.out _ _ ⟨(.agg #[.bool pg,.slice ag ng cg,.slice bg mg dg_]),vu1,vu2,vu3,vu4,by simp only [Act.put,xL4,xL5,xL6],hbu,fun _ => rfl,fun h => fu1 (mark_of (by decide) h),fun h => fu2 (mark_of (by decide) h),fun h => fu3 (mark_of (by decide) h),fun h => fu4 (mark_of (by decide) h)⟩
    ·refine wpOp_shut (by rfl) (fun K hK => ?_)
     simp only [Act.put,xL4,xL5,xL6]
     obtain ⟨VL_0,VL_1,VL_2,VL_3⟩ := VL.below hbu
     go_simp
     exact hK.out _ _ ⟨vu0,(.agg #[.int .i64 (t1 : Int),.int .i64 (t2 : Int)]),vu2,vu3,vu4,by simp only [Act.put,xL4,xL5,xL6],hbu,fun h => fu0 (mark_of (by decide) h),fun _ => rfl,fun h => fu2 (mark_of (by decide) h),fun h => fu3 (mark_of (by decide) h),fun h => fu4 (mark_of (by decide) h)⟩
    ·have eu1 := fu1 (dep_of 1 hru rfl (by kernel_rfl))
     subst eu1
     refine wpOp_shut (by rfl) (fun K hK => ?_)
     simp only [Act.put,xL4,xL5,xL6]
     have ht := ht.below hbu
     go_simp
     refine (number_at (t1 : Int) (t2 : Int) _ (by omega) (by omega) (by omega) (by omega) ht).mono ?_
     rintro eu wx ⟨na,rfl,hna,bu⟩
     go_wp2_with fail
     have hbu2 := hbu.trans (bu.mono hbu.size)
     exact hK.out _ _ ⟨vu0,(.agg #[.int .i64 (t1 : Int),.int .i64 (t2 : Int)]),_,vu3,vu4,by simp only [Act.put,xL4,xL5,xL6],hbu2,fun h => fu0 (mark_of (by decide) h),fun _ => rfl,fun _ => hna,fun h => (fu3 (mark_of (by decide) h)).below bu,fun h => (fu4 (mark_of (by decide) h)).below bu⟩
    ·have eu0 := fu0 (dep_of 0 hru rfl (by kernel_rfl))
     subst eu0
     have hna := fu2 (dep_of 2 hru rfl (by kernel_rfl))
     refine wpOp_shut (by rfl) (fun K hK => ?_)
     simp only [Act.put,xL4,xL5,xL6]
     have hgf := hgf.below hbu
     have ht := ht.below hbu
     go_simp
     refine (qadd_at _ _ (F : Rat) (((t1 : Int) : Rat) / ((t2 : Int) : Rat)) (L + 1) _ hgf (hna.at _ (by omega)) (by omega) (by omega) ht).mono ?_
     rintro eu wx ⟨xv,rfl,Jx,bu⟩
     rw [HX.out] at Jx
     go_wp2_with fail
     have hbu2 := hbu.trans (bu.mono hbu.size)
     exact hK.out _ _ ⟨(.agg #[.bool pg,.slice ag ng cg,.slice bg mg dg_]),vu1,vu2,_,vu4,by simp only [Act.put,xL4,xL5,xL6],hbu2,fun _ => rfl,fun h => fu1 (mark_of (by decide) h),fun h => (fu2 (mark_of (by decide) h)).below bu,fun _ => Jx,fun h => (fu4 (mark_of (by decide) h)).below bu⟩
    ·refine wpOp_shut (by rfl) (fun K hK => ?_)
     simp only [Act.put,xL4,xL5,xL6]
     go_simp
     obtain ⟨wx,hWx,hSx,bu,VXu⟩ := V3.lay wn 27 (.bool false) (.slice none 0 0) (.slice none 0 0)
     rw [← hWx]
     have hbu2 := hbu.trans (bu.mono hbu.size)
     exact hK.out _ _ ⟨vu0,vu1,vu2,vu3,_,by simp only [Act.put,xL4,xL5,xL6],hbu2,fun h => fu0 (mark_of (by decide) h),fun h => fu1 (mark_of (by decide) h),fun h => (fu2 (mark_of (by decide) h)).below bu,fun h => (fu3 (mark_of (by decide) h)).below bu,fun _ => ⟨_,rfl,hbu.size,VXu⟩⟩
   rintro au Wu67 ⟨vu0,vu1,vu2,vu3,vu4,rfl,hbu,fu0,fu1,fu2,fu3,fu4⟩
   have eu0 := fu0 rfl
   subst eu0
   have eu1 := fu1 rfl
   subst eu1
   have hna := fu2 rfl
   have Jx := fu3 rfl
   obtain ⟨RVx,rfl,hRVx,Vx⟩ := fu4 rfl
   clear fu0 fu1 fu2 fu3 fu4
   have hlVL : R3 < wr.heap.size := VL.lt
   have hlVH : (R3 + 1) < wr.heap.size := VH.lt
   have hlVB : (w.heap.size + 1) < wr.heap.size := VB.lt
   have hlVF : R1 < wr.heap.size := VF.lt
   obtain ⟨pxx,axx,nxx,cxx,bxx,mxx,dxx,rfl⟩ := Jx.open
   simp only [Act.put,xL4,xL5,xL6]
   refine xR [5] (h := ?_)
   refine AllReadyH.cons (by rfl) (fun K hK => ?_) AllReadyH.nil
   have hKp := Vx.keepJ (.bool pxx) (.slice axx nxx cxx) (.slice bxx mxx dxx)
   have Vx_n := Vx.same (.bool pxx) (.slice axx nxx cxx) (.slice bxx mxx dxx)
   have hna_n := hna.keep hKp
   have Jx_n := Jx.keep hKp
   have hbu_n := below_store3 (R := RVx) hbu (by omega) (.bool pxx) (.slice axx nxx cxx) (.slice bxx mxx dxx)
   clear hKp
   obtain ⟨Vx_0,Vx_1,Vx_2,Vx_3,Vx_4,Vx_5⟩ := id Vx
   go_simp
   clear Vx_0 Vx_1 Vx_2 Vx_3 Vx_4 Vx_5
   clear hbu hna Jx Vx
   generalize ((Wu67.setCell ⟨RVx,0,none⟩ (.bool pxx)).setCell ⟨RVx,1,none⟩ (.slice axx nxx cxx)).setCell ⟨RVx,2,none⟩ (.slice bxx mxx dxx) = W68 at *
   have hbu := hbu_n
   have hna := hna_n
   have Jx := Jx_n
   have Vx := Vx_n
   clear hbu_n hna_n Jx_n Vx_n
   refine hK.out _ _ trivial (fun _ => ?_)
   clear hK K
   simp only [Act.put,xL4,xL5,xL6]
   replace hv := hv.below hbu
   replace hgf := hgf.below hbu
   replace ht := ht.below hbu
   replace O := O.below hbu
   replace VL := VL.below hbu
   replace VH := VH.below hbu
   replace VB := VB.below hbu
   replace VF := VF.below hbu
   replace BB := BB.trans (hbu.mono BB.size)
   clear hbu
   refine wpAnyH_done (by kernel_rfl) ?_ _
   clear hna
   obtain ⟨Vx_0,Vx_1,Vx_2,Vx_3,Vx_4,Vx_5⟩ := id Vx
   obtain ⟨VB_0,VB_1,VB_2,VB_3,VB_4,VB_5⟩ := id VB
   go_wp2_with fail
   clear Vx_0 Vx_1 Vx_2 Vx_3 Vx_4 Vx_5 VB_0 VB_1 VB_2 VB_3 VB_4 VB_5
   refine (qcmp_at _ _ X b (L + 4) _ (Jx.at _ hxs) (hv.le (by omega)) (by omega) (by omega)).mono ?_
   rintro e w67 ⟨rfl,b67⟩
   replace hv := hv.below b67
   replace hgf := hgf.below b67
   replace ht := ht.below b67
   replace O := O.below b67
   replace Jx := Jx.below b67
   replace VL := VL.below b67
   replace VH := VH.below b67
   replace VB := VB.below b67
   replace VF := VF.below b67
   replace Vx := Vx.below b67
   replace BB := BB.trans (b67.mono BB.size)
   clear b67
   have hBle2 : BO ≤ w67.heap.size := by have := Vx.lt; omega
   have HC : Hid ((cmpQ X b > 0 ↔ b < X)) := (cmpQ_twoB _ _).1
   generalize cmpQ X b = cd at *
   obtain ⟨am,cm,rfl⟩ : ∃ am cm,u12 = .slice am i cm := O.row.open
   by_cases hgt : b < X
   ·have hcd : cd > 0 := HC.out.2 hgt
    clear HC
    have OR := O.row
    go_wp2
    go_ret2
    exact ⟨_,i,sv,rfl,HST.out,OR,by rw [← HXT.out]; exact hgt,HLE.out,by omega,BB⟩
   ·have hcd : ¬ cd > 0 := fun g => hgt (HC.out.1 g)
    clear HC
    have hXb := Rat.not_lt.1 hgt
    have hi720 : i ≤ 720 := bx_few HST.out (by omega) hba i (by rw [← HXT.out]; exact hXb)
    have hi1000 : ((i : Int) == 1000) = false := by simp; omega
    have hnum := bx_num (most := most) (F := F) (a := a) (b := b) HA.out (by omega) hFa hba (by rw [show bx F (t1,t2,t3,t4) = X from by rw [← HT.out,← HXT.out]]; exact hXb)
    simp only at hnum
    obtain ⟨g1,g2⟩ := (bst_step HA.out).2
    simp only at g1 g2
    have HLE2 : Hid (∀ j,j < i + 1 → bx F (bst most sv j) ≤ b) := fun j hj => by
     by_cases hji : j < i
     ·exact HLE.out j hji
     ·obtain rfl : j = i := by omega
      rw [← HXT.out]; exact hXb
    have HT2 : Hid (bst most sv (i + 1) = (t3,t4,(most + t2) / t4 * t3 - t1,(most + t2) / t4 * t4 - t2)) := by show _ = _; rw [bst_succ,HT.out]; rfl
    clear hgt hXb HLE HT HA
    rw [HXT.out] at Jx
    obtain ⟨us,el',o1,o2,o3,o4⟩ := O
    have hul : us.length = i * 3 := o1.1
    have HO3 : Hid (∀ i',i' < i → ∀ j,j < 3 → us[i' * 3 + j]? = some (el' i' j)) := o3
    have HO4 : Hid (∀ i',i' < i → RepQ w67 (.agg #[el' i' 0,el' i' 1,el' i' 2]) (bx F (bst most sv i'))) := o4
    have b4' : Below w67.heap.size w67 (w67.alloc (.cells #[.bool pxx,.slice axx nxx cxx,.slice bxx mxx dxx] 27)) := (Below.refl _ _).alloc (Nat.le_refl _) _
    have hPO : Hid (∀ g0,Value.ownBlock (.slice am i cm) = some g0 → PureB IsNum (w67.alloc (.cells #[.bool pxx,.slice axx nxx cxx,.slice bxx mxx dxx] 27)) g0) := fun g0 hg0 => (o2 g0 hg0).below b4' (o1.lt g0 hg0).2
    have hlt : Hid (∀ g0,Value.ownBlock (.slice am i cm) = some g0 → BO ≤ g0) := fun g0 hg0 => (o1.lt g0 hg0).1
    clear o2 o3 o4
    obtain ⟨z0,z1,z2,z3,z4,z5⟩ := id Vx
    go_wp2_with (at_builtin; refine wpList_append_pure (Q' := IsNum) rfl _ _ _ rfl BO 27 (.agg #[.bool false,.slice none 0 0,.slice none 0 0]) 3 56 Tryz.underlying51 info_wrat rfl (by omega) (.slice am i cm) rfl i us (o1.alloc _) hPO.out ⟨w67.heap.size,0,none⟩ 1 rfl [.bool pxx,.slice axx nxx cxx,.slice bxx mxx dxx] rfl (news_block (heap_alloc_new _ _)) (by simp [Value.oneCell']) (by simp [num_slice,num_bool]) (by simp [Value.cells,num_slice,num_bool]) (by omega) (by omega) (by have := b4'.size; simp at this ⊢; omega) ?_)
    intro g5 cap5 w5 ho5 hg5 hat5 hp5 hk5
    have E : FOwn BO w5 (.slice (some ⟨g5,0,none⟩) (i + 1) cap5) (i + 1) (fun j => bx F (bst most sv j)) := FOwn.more ho5 hp5 hul HO3.out (fun i' hi' => (HO4.out i' hi').below b4') (Jx.below b4') hk5
    have B4 := BB.trans (b4'.mono BB.size)
    have BB : Below w.heap.size w w5 := below_grownB B4 hg5 (by have := B4.size; omega) (fun g0 hg0 => by have := hlt.out g0 hg0; have := hBw.out; omega)
    have hB0_ := hB0.out
    replace VL := (VL.below b4').grown hg5 (fun e => by have := hlt.out _ e.symm; omega)
    replace VH := (VH.below b4').grown hg5 (fun e => by have := hlt.out _ e.symm; omega)
    replace VB := (VB.below b4').grown hg5 (fun e => by have := hlt.out _ e.symm; omega)
    replace VF := (VF.below b4').grown hg5 (fun e => by have := hlt.out _ e.symm; omega)
    replace hv := (hv.below b4').keep hk5
    replace hgf := (hgf.below b4').keep hk5
    replace ht := (ht.below b4').keep hk5
    have hBle5 : BO ≤ w5.heap.size := Nat.le_trans hBle2 (Nat.le_trans b4'.size hg5.size)
    clear o1 hPO hlt HO3 HO4 b4' ho5 hg5 hat5 hp5 hk5 B4 hul z0 z1 z2 z3 z4 z5 Vx Jx hBle hBle2
    go_wp2
    clear hcd hi1000
    refine wp_region_until 5 #[true,true,true,true,true,false,false] (fun aF lsd a' w' => ∃ vu0 vu1 vu2 vu3 vu4 : Value,a' = ((((aF.put (some 58) vu0).put (some 59) vu1).put (some 60) vu2).put (some 61) vu3).put (some 62) vu4 ∧ Below w5.heap.size w5 w' ∧ (lsd.getD 0 false = true → vu0 = .agg #[.int .i64 (t3 : Int),.int .i64 (t4 : Int)]) ∧ (lsd.getD 1 false = true → vu1 = .agg #[.int .i64 (t1 : Int),.int .i64 (t2 : Int)]) ∧ (lsd.getD 2 false = true → vu2 = .agg #[.int .i64 (t3 : Int),.int .i64 (t4 : Int)]) ∧ (lsd.getD 3 false = true → vu3 = .int .i64 (most : Int)) ∧ (lsd.getD 4 false = true → vu4 = .agg #[.int .i64 (((most + t2) / t4 * t3 - t1 : Nat) : Int),.int .i64 (((most + t2) / t4 * t4 - t2 : Nat) : Int)])) (by kernel_rfl) (by decide) (by kernel_rfl) (by rfl) (by kernel_rfl) ?_ ?_ ?_
    ·exact ⟨_,_,_,_,_,by simp only [Act.put,xL4,xL5,xL6]; rfl,(Below.refl _ _).drew,fun h => absurd h (fun h => mark_none h),fun h => absurd h (fun h => mark_none h),fun h => absurd h (fun h => mark_none h),fun h => absurd h (fun h => mark_none h),fun h => absurd h (fun h => mark_none h)⟩
    ·rintro lsd au wn iu hszu ⟨vu0,vu1,vu2,vu3,vu4,rfl,hbu,fu0,fu1,fu2,fu3,fu4⟩ himu hru
     rcases (show iu = 0 ∨ iu = 1 ∨ iu = 2 ∨ iu = 3 ∨ iu = 4 by omega) with rfl | rfl | rfl | rfl | rfl
     ·refine wpOp_shut (by rfl) (fun K hK => ?_)
      simp only [Act.put,xL4,xL5,xL6]
      obtain ⟨VH_0,VH_1,VH_2,VH_3⟩ := VH.below hbu
      go_simp
      exact hK.out _ _ ⟨(.agg #[.int .i64 (t3 : Int),.int .i64 (t4 : Int)]),vu1,vu2,vu3,vu4,by simp only [Act.put,xL4,xL5,xL6],hbu,fun _ => rfl,fun h => fu1 (mark_of (by decide) h),fun h => fu2 (mark_of (by decide) h),fun h => fu3 (mark_of (by decide) h),fun h => fu4 (mark_of (by decide) h)⟩
     ·refine wpOp_shut (by rfl) (fun K hK => ?_)
      simp only [Act.put,xL4,xL5,xL6]
      obtain ⟨VL_0,VL_1,VL_2,VL_3⟩ := VL.below hbu
      go_simp
      exact hK.out _ _ ⟨vu0,(.agg #[.int .i64 (t1 : Int),.int .i64 (t2 : Int)]),vu2,vu3,vu4,by simp only [Act.put,xL4,xL5,xL6],hbu,fun h => fu0 (mark_of (by decide) h),fun _ => rfl,fun h => fu2 (mark_of (by decide) h),fun h => fu3 (mark_of (by decide) h),fun h => fu4 (mark_of (by decide) h)⟩
     ·refine wpOp_shut (by rfl) (fun K hK => ?_)
      simp only [Act.put,xL4,xL5,xL6]
      obtain ⟨VH_0,VH_1,VH_2,VH_3⟩ := VH.below hbu
      go_simp
      exact hK.out _ _ ⟨vu0,vu1,(.agg #[.int .i64 (t3 : Int),.int .i64 (t4 : Int)]),vu3,vu4,by simp only [Act.put,xL4,xL5,xL6],hbu,fun h => fu0 (mark_of (by decide) h),fun h => fu1 (mark_of (by decide) h),fun _ => rfl,fun h => fu3 (mark_of (by decide) h),fun h => fu4 (mark_of (by decide) h)⟩
     ·refine wpOp_shut (by rfl) (fun K hK => ?_)
      simp only [Act.put,xL4,xL5,xL6]
      go_simp
      exact hK.out _ _ ⟨vu0,vu1,vu2,(.int .i64 (most : Int)),vu4,by simp only [Act.put,xL4,xL5,xL6],hbu,fun h => fu0 (mark_of (by decide) h),fun h => fu1 (mark_of (by decide) h),fun h => fu2 (mark_of (by decide) h),fun _ => rfl,fun h => fu4 (mark_of (by decide) h)⟩
     ·have eu1 := fu1 (dep_of 1 hru rfl (by kernel_rfl))
      have eu2 := fu2 (dep_of 2 hru rfl (by kernel_rfl))
      have eu3 := fu3 (dep_of 3 hru rfl (by kernel_rfl))
      subst eu1
      subst eu2
      subst eu3
      refine wpOp_shut (by rfl) (fun K hK => ?_)
      simp only [Act.put,xL4,xL5,xL6]
      go_simp
      refine (behind_at t1 t2 t3 t4 most _ y2 (by omega) (by omega) (by omega) (by omega) (by omega) g1 g2).mono ?_
      rintro eu wx ⟨rfl,bu⟩
      go_wp2_with fail
      have hbu2 := hbu.trans (bu.mono hbu.size)
      exact hK.out _ _ ⟨vu0,(.agg #[.int .i64 (t1 : Int),.int .i64 (t2 : Int)]),(.agg #[.int .i64 (t3 : Int),.int .i64 (t4 : Int)]),(.int .i64 (most : Int)),(.agg #[.int .i64 (((most + t2) / t4 * t3 - t1 : Nat) : Int),.int .i64 (((most + t2) / t4 * t4 - t2 : Nat) : Int)]),by simp only [Act.put,xL4,xL5,xL6],hbu2,fun h => fu0 (mark_of (by decide) h),fun _ => rfl,fun _ => rfl,fun _ => rfl,fun _ => rfl⟩
    rintro au Wu89 ⟨vu0,vu1,vu2,vu3,vu4,rfl,hbu,fu0,fu1,fu2,fu3,fu4⟩
    have eu0 := fu0 rfl
    subst eu0
    have eu1 := fu1 rfl
    subst eu1
    have eu2 := fu2 rfl
    subst eu2
    have eu3 := fu3 rfl
    subst eu3
    have eu4 := fu4 rfl
    subst eu4
    clear fu0 fu1 fu2 fu3 fu4
    have hlVL : R3 < w5.heap.size := VL.lt
    have hlVH : (R3 + 1) < w5.heap.size := VH.lt
    have hlVB : (w.heap.size + 1) < w5.heap.size := VB.lt
    have hlVF : R1 < w5.heap.size := VF.lt
    replace hv := hv.below hbu
    replace hgf := hgf.below hbu
    replace ht := ht.below hbu
    replace E := E.below hbu
    replace VL := VL.below hbu
    replace VH := VH.below hbu
    replace VB := VB.below hbu
    replace VF := VF.below hbu
    replace BB := BB.trans (hbu.mono BB.size)
    clear hbu
    simp only [Act.put,xL4,xL5,xL6]
    refine xR [5] (h := ?_)
    refine AllReadyH.cons (by rfl) (fun K hK => ?_) AllReadyH.nil
    have hKp := VL.keepF (.int .i64 (t3 : Int)) (.int .i64 (t4 : Int))
    have VH_n := VH.other (R := R3) (by omega) (.int .i64 (t3 : Int)) (.int .i64 (t4 : Int))
    have VB_n := VB.other2 (R := R3) (by omega) (.int .i64 (t3 : Int)) (.int .i64 (t4 : Int))
    have VF_n := VF.other2 (R := R3) (by omega) (.int .i64 (t3 : Int)) (.int .i64 (t4 : Int))
    have VL_n := VL.same (.int .i64 (t3 : Int)) (.int .i64 (t4 : Int))
    have hv_n := hv.keepL hKp
    have hgf_n := hgf.keepL hKp
    have ht_n := ht.keepL hKp
    have E_n := E.otherL (grown_set2 Wu89 R3 (.int .i64 (t3 : Int)) (.int .i64 (t4 : Int))) hKp (fun g hg => by cases hg; omega)
    have BB_n := below_store2 (R := R3) BB (by omega) (.int .i64 (t3 : Int)) (.int .i64 (t4 : Int))
    clear hKp
    obtain ⟨VL_0,VL_1,VL_2,VL_3⟩ := id VL
    go_simp
    clear VL_0 VL_1 VL_2 VL_3
    clear BB hv hgf ht E VL VH VB VF
    generalize (Wu89.setCell ⟨R3,0,none⟩ (.int .i64 (t3 : Int))).setCell ⟨R3,1,none⟩ (.int .i64 (t4 : Int)) = W90 at *
    have BB := BB_n
    have hv := hv_n
    have hgf := hgf_n
    have ht := ht_n
    have E := E_n
    have VL := VL_n
    have VH := VH_n
    have VB := VB_n
    have VF := VF_n
    clear BB_n hv_n hgf_n ht_n E_n VL_n VH_n VB_n VF_n
    refine hK.out _ _ trivial (fun _ => ?_)
    clear hK K
    simp only [Act.put,xL4,xL5,xL6]
    refine xR [6] (h := ?_)
    refine AllReadyH.cons (by rfl) (fun K hK => ?_) AllReadyH.nil
    have hKp := VH.keepF (.int .i64 (((most + t2) / t4 * t3 - t1 : Nat) : Int)) (.int .i64 (((most + t2) / t4 * t4 - t2 : Nat) : Int))
    have VL_n := VL.other (R := (R3 + 1)) (by omega) (.int .i64 (((most + t2) / t4 * t3 - t1 : Nat) : Int)) (.int .i64 (((most + t2) / t4 * t4 - t2 : Nat) : Int))
    have VB_n := VB.other2 (R := (R3 + 1)) (by omega) (.int .i64 (((most + t2) / t4 * t3 - t1 : Nat) : Int)) (.int .i64 (((most + t2) / t4 * t4 - t2 : Nat) : Int))
    have VF_n := VF.other2 (R := (R3 + 1)) (by omega) (.int .i64 (((most + t2) / t4 * t3 - t1 : Nat) : Int)) (.int .i64 (((most + t2) / t4 * t4 - t2 : Nat) : Int))
    have VH_n := VH.same (.int .i64 (((most + t2) / t4 * t3 - t1 : Nat) : Int)) (.int .i64 (((most + t2) / t4 * t4 - t2 : Nat) : Int))
    have hv_n := hv.keepL hKp
    have hgf_n := hgf.keepL hKp
    have ht_n := ht.keepL hKp
    have E_n := E.otherL (grown_set2 W90 (R3 + 1) (.int .i64 (((most + t2) / t4 * t3 - t1 : Nat) : Int)) (.int .i64 (((most + t2) / t4 * t4 - t2 : Nat) : Int))) hKp (fun g hg => by cases hg; omega)
    have BB_n := below_store2 (R := (R3 + 1)) BB (by omega) (.int .i64 (((most + t2) / t4 * t3 - t1 : Nat) : Int)) (.int .i64 (((most + t2) / t4 * t4 - t2 : Nat) : Int))
    clear hKp
    obtain ⟨VH_0,VH_1,VH_2,VH_3⟩ := id VH
    go_simp
    clear VH_0 VH_1 VH_2 VH_3
    clear BB hv hgf ht E VL VH VB VF
    generalize (W90.setCell ⟨(R3 + 1),0,none⟩ (.int .i64 (((most + t2) / t4 * t3 - t1 : Nat) : Int))).setCell ⟨(R3 + 1),1,none⟩ (.int .i64 (((most + t2) / t4 * t4 - t2 : Nat) : Int)) = W91 at *
    have BB := BB_n
    have hv := hv_n
    have hgf := hgf_n
    have ht := ht_n
    have E := E_n
    have VL := VL_n
    have VH := VH_n
    have VB := VB_n
    have VF := VF_n
    clear BB_n hv_n hgf_n ht_n E_n VL_n VH_n VB_n VF_n
    refine hK.out _ _ trivial (fun _ => ?_)
    clear hK K
    simp only [Act.put,xL4,xL5,xL6]
    refine wpAnyH_done (by kernel_rfl) ?_ _
    go_wp2
    go_roundg (gk - 1)
    case measure => omega
    case rel => exact ⟨i + 1,t3,t4,_,_,by omega,by omega,by omega,HT2,HLE2,(by have := E.both g5 rfl; omega),E,VL,VH,VB,VF,hv,hgf,ht,BB⟩

def BetGood (a b : Rat) (most m : Nat) (X : Nat → Rat) : Prop :=
 (∀ i,i < m → a ≤ X i ∧ X i ≤ b ∧ (X i).den ≤ most ∧ qsz (X i) ≤ 6) ∧ (∀ i,i + 1 < m → X i < X (i + 1)) ∧ upto_ a b most = m
theorem bet_good {a b : Rat} {most m : Nat} {F : Int} {s : Nat × Nat × Nat × Nat} (hs : Start a most F s) (h1 : b < bx F (bst most s m)) (h2 : ∀ j,j < m → bx F (bst most s j) ≤ b) (hm : most ≤ 8) (hFa : a < (F : Rat) + 1) (hba : b + -a ≤ 20) (hF : qsz ((F : Int) : Rat) ≤ 3) : BetGood a b most m (fun j => bx F (bst most s j)) := by
 refine ⟨fun i hi => ⟨bx_ge hs i,h2 i hi,bx_den hs i,?_⟩,fun i hi => bx_lt hs i,bx_end hs m h1 h2⟩
 have hA := bst_adj hs.1 i
 have hn := bx_num hA hm hFa hba (h2 i hi)
 obtain ⟨g1,g2,g3,_⟩ := hA
 exact bx_sz F (bst most s i).1 (bst most s i).2.1 (bst most s i).2.2.1 (bst most s i).2.2.2 2 g1 (by omega) (by omega) (by omega)
def lastQ (a : Rat) (X : Nat → Rat) : Nat → Rat
 | 0 => a + mkRat (-1) 1
 | i + 1 => X i
theorem last_lt {a b : Rat} {most m : Nat} {X : Nat → Rat} (h : BetGood a b most m X) (i : Nat) (hi : i < m) : lastQ a X i < X i := by
 cases i with
 | zero =>
  have := (h.1 0 hi).1
  show a + mkRat (-1) 1 < X 0
  rw [show mkRat (-1) 1 = (-1 : Rat) by decide +kernel]; grind
 | succ i => exact h.2.1 i hi
theorem last_sz {a b : Rat} {most m : Nat} {X : Nat → Rat} (h : BetGood a b most m X) (i : Nat) (hi : i < m) : qsz (X i) ≤ 6 := (h.1 i hi).2.2.2
def fd (a b : Rat) (d : Nat) : Nat := cn d (ceilQ (a * mkRat d 1)) ((b * mkRat d 1).floor - ceilQ (a * mkRat d 1) + 1).toNat
theorem fd_width {a b : Rat} (h : b + -a ≤ 20) (d : Nat) (hd : 0 < d) : (b * mkRat d 1).floor - ceilQ (a * mkRat d 1) ≤ 20 * (d : Int) := by
 have hb : b ≤ a + 20 := by grind
 have g1 : mkRat ((b * mkRat d 1).floor) d ≤ a + 20 := Rat.le_trans ((le_floorM b _ d hd).1 (Int.le_refl _)) hb
 have g2 : mkRat ((b * mkRat d 1).floor - 20 * (d : Int)) d ≤ a := by
  rw [shift_mk _ 20 d hd]; grind
 have g3 := (ceil_leM a (ceilQ (a * mkRat d 1)) d hd).1 (Int.le_refl _)
 have g4 := Rat.le_trans g2 g3
 rw [mkRat_leI _ _ _ _ hd hd] at g4
 have := Int.le_of_mul_le_mul_right g4 (by omega)
 omega
theorem cmp_neg_iff (x y : Int) : cmpI x y ≤ 0 ↔ x ≤ y := by
 unfold cmpI; split
 ·exact ⟨fun _ => by omega,fun _ => by omega⟩
 ·split
  ·exact ⟨fun h => by omega,fun h => by omega⟩
  ·exact ⟨fun _ => by omega,fun _ => by omega⟩
theorem cmp_one_iff (x : Nat) : cmpI (x : Int) ((1 : Nat) : Int) = 0 ↔ x = 1 := by
 unfold cmpI; split
 ·exact ⟨fun h => by omega,fun h => by omega⟩
 ·split
  ·exact ⟨fun h => by omega,fun h => by omega⟩
  ·exact ⟨fun _ => by omega,fun _ => rfl⟩
set_option maxRecDepth 20000 in
set_option maxHeartbeats 1000000 in
theorem between_range (u v : Value) (a b : Rat) (L : Nat) (k : Int) (w : World) (hu : RatAt w u a L) (hv : RatAt w v b L) (hk : k < 1 ∨ 64 < k) :
  Calls Tryz.prog 21 #[u,v,.int .i64 k] w fun e w' => e = .returned (.tuple #[.slice none 0 0,.int .i64 8]) ∧ Below w.heap.size w w' := by
 obtain ⟨p,ao,n,c,bo,m,d,rfl⟩ := hu.open
 obtain ⟨p2,ao2,n2,c2,bo2,m2,d2,rfl⟩ := hv.open
 rcases hk with hk | hk
 ·have BB : Below w.heap.size w w := Below.refl _ _
  obtain ⟨Wb0,hW0,hS0,hL0,VA⟩ := V3.lay w 27 (.bool p) (.slice ao n c) (.slice bo m d)
  replace BB := BB.trans (hL0.mono BB.size)
  obtain ⟨Wb1,hW1,hS1,hL1,VR⟩ := V3.lay Wb0 27 (.bool p2) (.slice ao2 n2 c2) (.slice bo2 m2 d2)
  replace BB := BB.trans (hL1.mono BB.size)
  rw [hW1,hW0] at BB
  clear hL0 hL1 VA VR hW0 hW1 hS0 hS1
  go_enter Tryz.func21,Tryz.ntmps21
  go_wp2
  go_ret2
  exact ⟨rfl,BB⟩
 ·have hk2 : ¬ k < 1 := by omega
  have BB : Below w.heap.size w w := Below.refl _ _
  obtain ⟨Wb0,hW0,hS0,hL0,VA⟩ := V3.lay w 27 (.bool p) (.slice ao n c) (.slice bo m d)
  replace BB := BB.trans (hL0.mono BB.size)
  obtain ⟨Wb1,hW1,hS1,hL1,VR⟩ := V3.lay Wb0 27 (.bool p2) (.slice ao2 n2 c2) (.slice bo2 m2 d2)
  replace BB := BB.trans (hL1.mono BB.size)
  rw [hW1,hW0] at BB
  clear hL0 hL1 VA VR hW0 hW1 hS0 hS1
  go_enter Tryz.func21,Tryz.ntmps21
  go_wp2
  go_ret2
  exact ⟨rfl,BB⟩
end Go.Proofs.YtpgioggbepdjpaaGreatDoor
