/-
  Texts of mine, joined: what lies beneath the statement.
-/
import Derived.Test.YtnbocjbfieklhaaGreatDoorJb016ad185a
import Derived.Test.YtnbocjbfieklhaaGreatDoorJ49a743ce96
import Derived.Test.YtnbocjbfieklhaaGreatDoorJ341681c3a9
namespace Go.Proofs.YtnbocjbfieklhaaGreatDoor
open Go.RowKit
set_option linter.unusedVariables false
set_option linter.unusedSimpArgs false
set_option maxRecDepth 20000 in
set_option maxHeartbeats 8000000 in
theorem pbetween_at (u v1 v2 : Value) (n : Nat) (q : Nat → Rat) (x y : Rat) (L X j E : Nat) (w : World) (hu : QRow w u n q L) (hx : RatAt w v1 x X) (hy : RatAt w v2 y X) (ht : Tab w) (hn : n ≤ 900) (hL : 4 ≤ L) (hM : L ≤ 40000) (hX : 1 ≤ X) (hnj : n + 1 ≤ 2 ^ j) (hS : vsz j (L + 4) X ≤ 40000) (hE1 : 1 ≤ E) (hE2 : E ≤ 100000) (hE : (n + 1) * (L + 4 + X * (n + 1) + 2) + 1 ≤ E) :
  Calls Tryz.prog 36 #[u,v1,v2] w fun e w' => ∃ r,e = .returned r ∧ RepQ w' r (evN (areaQ q) y (n + 1) - evN (areaQ q) x (n + 1)) ∧ Below w.heap.size w w' := by
 have sA : ∀ i,i < n + 1 → qsz (areaQ q i) ≤ L + 4 := by
  intro i hi
  unfold areaQ
  split
  ·exact Nat.le_trans (show qsz 0 ≤ 1 by decide +kernel) (by omega)
  ·exact qsz_mul _ _ (hu.sz (by omega) _ (by omega)) (qsz_one_over i (by omega))
 have sx := hx.qsz hX
 have sy := hy.qsz hX
 obtain ⟨px,ax,nx,cx,bx,mx,dx,rfl⟩ := hx.open
 obtain ⟨py,ay,ny,cy,by_,my,dy,rfl⟩ := hy.open
 have HEX : Hid (∀ z,evN (areaQ q) z (trimN (areaQ q) (n + 1)) = evN (areaQ q) z (n + 1)) := fun z => evN_trim _ z _
 have tl := trimN_le (areaQ q) (n + 1)
 have HSE : Hid (∀ z,qsz z ≤ X → qsz (evN (areaQ q) z (n + 1)) ≤ E) := fun z hz => Nat.le_trans (qsz_evN (areaQ q) z (L + 4) X hz (n + 1) sA) hE
 obtain ⟨eX,heX⟩ : ∃ z,evN (areaQ q) x (n + 1) = z := ⟨_,rfl⟩
 obtain ⟨eY,heY⟩ : ∃ z,evN (areaQ q) y (n + 1) = z := ⟨_,rfl⟩
 rw [heX,heY]
 have HX0 : Hid (evN (areaQ q) x (n + 1) = eX) := heX
 have HY0 : Hid (evN (areaQ q) y (n + 1) = eY) := heY
 clear heX heY
 have BB : Below w.heap.size w w := Below.refl _ _
 obtain ⟨Wb0,hW0,hS0,hL0,VX⟩ := V3.lay w 35 (.bool px) (.slice ax nx cx) (.slice bx mx dx)
 replace hu := hu.below hL0
 replace hx := hx.below hL0
 replace hy := hy.below hL0
 replace ht := ht.below hL0
 replace BB := BB.trans (hL0.mono BB.size)
 clear hL0
 obtain ⟨Wb1,hW1,hS1,hL1,VY⟩ := V3.lay Wb0 35 (.bool py) (.slice ay ny cy) (.slice by_ my dy)
 rw [hS0] at VY hS1
 replace hu := hu.below hL1
 replace hx := hx.below hL1
 replace hy := hy.below hL1
 replace ht := ht.below hL1
 replace VX := VX.below hL1
 replace BB := BB.trans (hL1.mono BB.size)
 clear hL1
 obtain ⟨Wb2,hW2,hS2,hL2,VR⟩ := V3.lay Wb1 35 (.bool false) (.slice none 0 0) (.slice none 0 0)
 rw [hS1] at VR hS2
 replace hu := hu.below hL2
 replace hx := hx.below hL2
 replace hy := hy.below hL2
 replace ht := ht.below hL2
 replace VX := VX.below hL2
 replace VY := VY.below hL2
 replace BB := BB.trans (hL2.mono BB.size)
 clear hL2
 go_enter Tryz.func36,Tryz.ntmps36
 go_wp2_with fail
 rw [← hW0]
 rw [← hW1]
 rw [← hW2]
 clear hW0 hW1 hW2 hS0 hS1 hS2
 refine (parea_at _ n q L _ hu ht (by omega) hL (by omega)).mono ?_
 rintro e w1 ⟨ra,rfl,FA,b1⟩
 replace hu := hu.below b1
 replace hx := hx.below b1
 replace hy := hy.below b1
 replace ht := ht.below b1
 replace VX := VX.below b1
 replace VY := VY.below b1
 replace VR := VR.below b1
 replace BB := BB.trans (b1.mono BB.size)
 clear b1
 have QA := FA.1.q (L + 4) (fun i hi => sA i (by omega))
 clear FA
 generalize trimN (areaQ q) (n + 1) = la at *
 obtain ⟨aa,ca,rfl,hac1,hac2,_⟩ := QA.open
 clear hu
 have HX2 : Hid (evN (areaQ q) x la = eX) := (HEX.out x).trans HX0.out
 have HY2 : Hid (evN (areaQ q) y la = eY) := (HEX.out y).trans HY0.out
 have seX : qsz eX ≤ E := HX0.out ▸ HSE.out x sx
 have seY : qsz eY ≤ E := HY0.out ▸ HSE.out y sy
 clear HEX HSE HX0 HY0
 have hla2 : la ≤ 2 ^ j := Nat.le_trans (by omega) hnj
 go_wp2
 have QA0 := QA
 have hx0 := hx
 have hy0 := hy
 have ht0 := ht
 clear QA hx hy ht
 refine wp_region_until 7 #[true,true,true,true,true,true,true,false] (fun aF lsd a' w' => ∃ vu0 vu1 vu2 vu3 vu4 vu5 vu6 : Value,a' = ((((((aF.put (some 10) vu0).put (some 11) vu1).put (some 12) vu2).put (some 13) vu3).put (some 14) vu4).put (some 15) vu5).put (some 16) vu6 ∧ Below w1.heap.size w1 w' ∧ (lsd.getD 0 false = true → vu0 = .slice aa la ca) ∧ (lsd.getD 1 false = true → vu1 = .agg #[.bool py,.slice ay ny cy,.slice by_ my dy]) ∧ (lsd.getD 2 false = true → RepQ w' vu2 eY) ∧ (lsd.getD 3 false = true → vu3 = .slice aa la ca) ∧ (lsd.getD 4 false = true → vu4 = .agg #[.bool px,.slice ax nx cx,.slice bx mx dx]) ∧ (lsd.getD 5 false = true → RepQ w' vu5 eX) ∧ (lsd.getD 6 false = true → RepQ w' vu6 (eY - eX))) (by kernel_rfl) (by decide) (by kernel_rfl) (by rfl) (by kernel_rfl) ?_ ?_ ?_
 ·exact ⟨_,_,_,_,_,_,_,by simp only [Act.put,xL4,xL5,xL6]; rfl,(Below.refl _ _).drew,fun h => absurd h (fun h => mark_none h),fun h => absurd h (fun h => mark_none h),fun h => absurd h (fun h => mark_none h),fun h => absurd h (fun h => mark_none h),fun h => absurd h (fun h => mark_none h),fun h => absurd h (fun h => mark_none h),fun h => absurd h (fun h => mark_none h)⟩
 ·rintro lsd au wn iu hszu ⟨vu0,vu1,vu2,vu3,vu4,vu5,vu6,rfl,hbu,fu0,fu1,fu2,fu3,fu4,fu5,fu6⟩ himu hru
  rcases (show iu = 0 ∨ iu = 1 ∨ iu = 2 ∨ iu = 3 ∨ iu = 4 ∨ iu = 5 ∨ iu = 6 by omega) with rfl | rfl | rfl | rfl | rfl | rfl | rfl
  ·refine wpOp_shut (by rfl) (fun K hK => ?_)
   simp only [Act.put,xL4,xL5,xL6]
   go_simp
   exact hK.out _ _ ⟨(.slice aa la ca),vu1,vu2,vu3,vu4,vu5,vu6,by simp only [Act.put,xL4,xL5,xL6],hbu,fun _ => rfl,fun h => fu1 (mark_of (by decide) h),fun h => fu2 (mark_of (by decide) h),fun h => fu3 (mark_of (by decide) h),fun h => fu4 (mark_of (by decide) h),fun h => fu5 (mark_of (by decide) h),fun h => fu6 (mark_of (by decide) h)⟩
  ·refine wpOp_shut (by rfl) (fun K hK => ?_)
   simp only [Act.put,xL4,xL5,xL6]
   obtain ⟨VY_0,VY_1,VY_2,VY_3,VY_4,VY_5⟩ := VY.below hbu
   go_simp
   exact hK.out _ _ ⟨vu0,(.agg #[.bool py,.slice ay ny cy,.slice by_ my dy]),vu2,vu3,vu4,vu5,vu6,by simp only [Act.put,xL4,xL5,xL6],hbu,fun h => fu0 (mark_of (by decide) h),fun _ => rfl,fun h => fu2 (mark_of (by decide) h),fun h => fu3 (mark_of (by decide) h),fun h => fu4 (mark_of (by decide) h),fun h => fu5 (mark_of (by decide) h),fun h => fu6 (mark_of (by decide) h)⟩
  ·have eu0 := fu0 (dep_of 0 hru rfl (by kernel_rfl))
   have eu1 := fu1 (dep_of 1 hru rfl (by kernel_rfl))
   replace eu0 := eu0.symm
   subst eu0
   replace eu1 := eu1.symm
   subst eu1
   refine wpOp_shut (by rfl) (fun K hK => ?_)
   simp only [Act.put,xL4,xL5,xL6]
   go_simp
   refine (peval_raw _ _ la (L + 4) X j (areaQ q) y _ (QA0.below hbu) (hy0.below hbu) (ht0.below hbu) (by omega) hX hla2 (by omega) hS).mono ?_
   rintro eu wx ⟨r1,rfl,h2,bu⟩
   rw [HY2.out] at h2
   go_wp2_with fail
   have hbu2 := hbu.trans (bu.mono hbu.size)
   exact hK.out _ _ ⟨(.slice aa la ca),(.agg #[.bool py,.slice ay ny cy,.slice by_ my dy]),_,vu3,vu4,vu5,vu6,by simp only [Act.put,xL4,xL5,xL6],hbu2,fun _ => rfl,fun _ => rfl,fun _ => h2,fun h => fu3 (mark_of (by decide) h),fun h => fu4 (mark_of (by decide) h),fun h => (fu5 (mark_of (by decide) h)).below bu,fun h => (fu6 (mark_of (by decide) h)).below bu⟩
  ·refine wpOp_shut (by rfl) (fun K hK => ?_)
   simp only [Act.put,xL4,xL5,xL6]
   go_simp
   exact hK.out _ _ ⟨vu0,vu1,vu2,(.slice aa la ca),vu4,vu5,vu6,by simp only [Act.put,xL4,xL5,xL6],hbu,fun h => fu0 (mark_of (by decide) h),fun h => fu1 (mark_of (by decide) h),fun h => fu2 (mark_of (by decide) h),fun _ => rfl,fun h => fu4 (mark_of (by decide) h),fun h => fu5 (mark_of (by decide) h),fun h => fu6 (mark_of (by decide) h)⟩
  ·refine wpOp_shut (by rfl) (fun K hK => ?_)
   simp only [Act.put,xL4,xL5,xL6]
   obtain ⟨VX_0,VX_1,VX_2,VX_3,VX_4,VX_5⟩ := VX.below hbu
   go_simp
   exact hK.out _ _ ⟨vu0,vu1,vu2,vu3,(.agg #[.bool px,.slice ax nx cx,.slice bx mx dx]),vu5,vu6,by simp only [Act.put,xL4,xL5,xL6],hbu,fun h => fu0 (mark_of (by decide) h),fun h => fu1 (mark_of (by decide) h),fun h => fu2 (mark_of (by decide) h),fun h => fu3 (mark_of (by decide) h),fun _ => rfl,fun h => fu5 (mark_of (by decide) h),fun h => fu6 (mark_of (by decide) h)⟩
  ·have eu3 := fu3 (dep_of 3 hru rfl (by kernel_rfl))
   have eu4 := fu4 (dep_of 4 hru rfl (by kernel_rfl))
   replace eu3 := eu3.symm
   subst eu3
   replace eu4 := eu4.symm
   subst eu4
   have h2 := fu2 (dep_of 2 hru rfl (by kernel_rfl))
   refine wpOp_shut (by rfl) (fun K hK => ?_)
   simp only [Act.put,xL4,xL5,xL6]
   go_simp
   refine (peval_raw _ _ la (L + 4) X j (areaQ q) x _ (QA0.below hbu) (hx0.below hbu) (ht0.below hbu) (by omega) hX hla2 (by omega) hS).mono ?_
   rintro eu wx ⟨r2,rfl,h5,bu⟩
   rw [HX2.out] at h5
   go_wp2_with fail
   have hbu2 := hbu.trans (bu.mono hbu.size)
   exact hK.out _ _ ⟨vu0,vu1,vu2,(.slice aa la ca),(.agg #[.bool px,.slice ax nx cx,.slice bx mx dx]),_,vu6,by simp only [Act.put,xL4,xL5,xL6],hbu2,fun h => fu0 (mark_of (by decide) h),fun h => fu1 (mark_of (by decide) h),fun h => (fu2 (mark_of (by decide) h)).below bu,fun _ => rfl,fun _ => rfl,fun _ => h5,fun h => (fu6 (mark_of (by decide) h)).below bu⟩
  ·have h2 := fu2 (dep_of 2 hru rfl (by kernel_rfl))
   have h5 := fu5 (dep_of 5 hru rfl (by kernel_rfl))
   refine wpOp_shut (by rfl) (fun K hK => ?_)
   simp only [Act.put,xL4,xL5,xL6]
   go_simp
   refine (qsub_at _ _ eY eX E _ (h2.at _ seY) (h5.at _ seX) (by omega) (by omega) (ht0.below hbu)).mono ?_
   rintro eu wx ⟨r3,rfl,hr,bu⟩
   go_wp2_with fail
   have hbu2 := hbu.trans (bu.mono hbu.size)
   exact hK.out _ _ ⟨vu0,vu1,vu2,vu3,vu4,vu5,_,by simp only [Act.put,xL4,xL5,xL6],hbu2,fun h => fu0 (mark_of (by decide) h),fun h => fu1 (mark_of (by decide) h),fun h => (fu2 (mark_of (by decide) h)).below bu,fun h => fu3 (mark_of (by decide) h),fun h => fu4 (mark_of (by decide) h),fun h => (fu5 (mark_of (by decide) h)).below bu,fun _ => hr⟩
 rintro au Wu1 ⟨vu0,vu1,vu2,vu3,vu4,vu5,vu6,rfl,hbu,fu0,fu1,fu2,fu3,fu4,fu5,fu6⟩
 have eu0 := (fu0 rfl).symm
 subst eu0
 have eu1 := (fu1 rfl).symm
 subst eu1
 have h2 := fu2 rfl
 have eu3 := (fu3 rfl).symm
 subst eu3
 have eu4 := (fu4 rfl).symm
 subst eu4
 have h5 := fu5 rfl
 have hr := fu6 rfl
 clear fu0 fu1 fu2 fu3 fu4 fu5 fu6
 have hlVX : w.heap.size < w1.heap.size := VX.lt
 have hlVY : w.heap.size + 1 < w1.heap.size := VY.lt
 have hlVR : w.heap.size + 1 + 1 < w1.heap.size := VR.lt
 replace VX := VX.below hbu
 replace VY := VY.below hbu
 replace VR := VR.below hbu
 replace BB := BB.trans (hbu.mono BB.size)
 clear hbu
 obtain ⟨p3,a3,n3,c3,bo3,m3,d3,rfl⟩ := hr.open
 simp only [Act.put,xL4,xL5,xL6]
 refine xR [7] (h := ?_)
 refine AllReadyH.cons (by rfl) (fun K hK => ?_) AllReadyH.nil
 have hKp := VR.keepJ (.bool p3) (.slice a3 n3 c3) (.slice bo3 m3 d3)
 have VX_n := VX.other3 (R := w.heap.size + 1 + 1) (by omega) (.bool p3) (.slice a3 n3 c3) (.slice bo3 m3 d3)
 have VY_n := VY.other3 (R := w.heap.size + 1 + 1) (by omega) (.bool p3) (.slice a3 n3 c3) (.slice bo3 m3 d3)
 have VR_n := VR.same (.bool p3) (.slice a3 n3 c3) (.slice bo3 m3 d3)
 have h2_n := h2.keep hKp
 have h5_n := h5.keep hKp
 have hr_n := hr.keep hKp
 have BB_n := below_store3 (R := w.heap.size + 1 + 1) BB (by omega) (.bool p3) (.slice a3 n3 c3) (.slice bo3 m3 d3)
 clear hKp
 obtain ⟨VR_0,VR_1,VR_2,VR_3,VR_4,VR_5⟩ := id VR
 go_simp
 clear VR_0 VR_1 VR_2 VR_3 VR_4 VR_5
 clear BB h2 h5 hr VX VY VR
 generalize ((Wu1.setCell ⟨w.heap.size + 1 + 1,0,none⟩ (.bool p3)).setCell ⟨w.heap.size + 1 + 1,1,none⟩ (.slice a3 n3 c3)).setCell ⟨w.heap.size + 1 + 1,2,none⟩ (.slice bo3 m3 d3) = W2 at *
 have BB := BB_n
 have h2 := h2_n
 have h5 := h5_n
 have hr := hr_n
 have VX := VX_n
 have VY := VY_n
 have VR := VR_n
 clear BB_n h2_n h5_n hr_n VX_n VY_n VR_n
 refine hK.out _ _ trivial (fun _ => ?_)
 clear hK K
 simp only [Act.put,xL4,xL5,xL6]
 refine wpAnyH_done (by kernel_rfl) ?_ _
 obtain ⟨q1,q2,q3,q4,q5,q6⟩ := id VR
 go_wp2
 (try simp only [Exit.inBlock,Exit.then])
 refine bodyPost_ret (v := .agg #[.bool p3,.slice a3 n3 c3,.slice bo3 m3 d3]) (by simp [results,go_sem,q1,q2,q3]) rfl ?_
 exact ⟨_,rfl,hr,BB⟩
end Go.Proofs.YtnbocjbfieklhaaGreatDoor
