/-
  Texts of mine, joined: what lies beneath the statement.
-/
import Derived.Test.YtgddiimnpliolaaGreatDoorJb82b0d9242
import Derived.Test.YtgddiimnpliolaaGreatDoorJ7d96a1daa2
import Derived.Test.YtgddiimnpliolaaGreatDoorJc5553ab2ab
import Derived.Test.YtgddiimnpliolaaGreatDoorJf33a02ba81
namespace Go.Proofs.YtgddiimnpliolaaGreatDoor
open Go.RowKit
set_option linter.unusedVariables false
set_option linter.unusedSimpArgs false
theorem set1_v2 {w : World} {R : Nat} {x y : Value} (h : V2 w R x y) (y' : Value) : V2 (w.setCell ⟨R,1,none⟩ y') R x y' := by
 obtain ⟨h1,h2,h3,h4⟩ := h
 exact ⟨cell_set_by h1 (by omega),World.cell?_setCell_same _ _ _ h2,by simp [h3],by simp [h4]⟩
theorem set1_v2o {w : World} {R R' : Nat} {x y : Value} (h : V2 w R' x y) (hne : R' ≠ R) (y' : Value) : V2 (w.setCell ⟨R,1,none⟩ y') R' x y := by
 obtain ⟨h1,h2,h3,h4⟩ := h
 exact ⟨set_cell_block h1 hne,set_cell_block h2 hne,by simp [h3],by simp [h4]⟩
theorem MRow.cut11 {w : World} {a : Option Addr} {k c m : Nat} {N : Nat → Nat} {T : Nat → Nat → Nd} {L : Nat} (h : MRow w (.slice a k c) k N T L) (hm : m ≤ k) : MRow w (.slice a m c) m N T L := by
 obtain ⟨el,⟨a',c',e,h1,h2,h3⟩,h4⟩ := h
 cases e
 exact ⟨el,⟨_,_,rfl,by omega,h2,fun h0 => by
  obtain ⟨b,off,e,hc⟩ := h3 (by omega)
  exact ⟨b,off,e,fun i hi j hj => hc i (by omega) j hj⟩⟩,fun i hi => h4 i (by omega)⟩
set_option maxRecDepth 100000 in
set_option maxHeartbeats 8000000 in
theorem small11_at (F : Int) (v : Value) (k : Nat) (N : Nat → Nat) (T : Nat → Nat → Nd) (vr : Value) (nr : Nat) (r : Nat → Cl) (w : World) (hv : MRaw w v k N T 4) (hr : CRaw w vr nr r 3) :
  Calls Tryz.prog 13 #[.agg #[.int .i64 F,v],vr] w fun e w' => ∃ am cm au cu,e = .returned (.tuple #[.agg #[.int .i64 F,.slice am (min (min k 6) 3) cm],.slice au (min nr 70) cu]) ∧ MOwn w.heap.size w' (.slice am (min k 6) cm) (min k 6) (fun i => min (N i) 15) T 4 ∧ COwn w.heap.size w' (.slice au (min nr 70) cu) (min nr 70) r 3 ∧ Below w.heap.size w w' := by
 obtain ⟨ao,c,rfl,hnc,hc63⟩ := hv.open
 obtain ⟨ar,cr,rfl,hrc,hr63⟩ := hr.open
 have BB : Below w.heap.size w w := Below.refl _ _
 have HR0 : Hid (CRaw w (.slice ar nr cr) nr r 3) := hr
 clear hr
 obtain ⟨Wb0,hW0,hS0,hL0,VM⟩ := V2.lay w 24 (.int .i64 F) (.slice ao k c)
 replace BB := BB.trans (hL0.mono BB.size)
 have hv1 := hv.below hL0
 clear hL0
 obtain ⟨Wb1,hW1,hS1,hL1,VQ⟩ := V2.lay Wb0 24 (.int .i64 0) (.slice none 0 0)
 replace BB := BB.trans (hL1.mono BB.size)
 replace hv1 := hv1.below hL1
 replace VM := VM.below hL1
 clear hL1
 rw [hS0] at VQ hS1
 go_enter Tryz.func13,Tryz.ntmps13
 go_wp2_with fail
 rw [← hW0,← hW1]
 clear hW0 hW1
 refine (few7_at F _ k N T _ hv1).mono ?_
 rintro e w1 ⟨r_,rfl,MO,b1⟩
 replace VM := VM.below b1
 replace VQ := VQ.below b1
 replace BB := BB.trans (b1.mono BB.size)
 rw [hS1] at MO
 have hsz : w.heap.size + 1 + 1 ≤ w1.heap.size := by have := b1.size; omega
 clear b1 hv1 hv hS0 hS1
 obtain ⟨am,cm,rfl⟩ := MO.form
 obtain ⟨am_,cm_,ham,hamc,hcm63⟩ := MO.row.open
 cases ham
 have hk6 : min k 6 ≤ 6 := Nat.min_le_right _ _
 obtain ⟨kk,hkk⟩ : ∃ kk,min k 6 = kk := ⟨_,rfl⟩
 have HKK : Hid (min k 6 = kk) := hkk
 obtain ⟨NN,hNN⟩ : ∃ NN,(fun i => min (N i) 15) = NN := ⟨_,rfl⟩
 have HNN : Hid ((fun i => min (N i) 15) = NN) := hNN
 rw [hkk,hNN] at MO
 rw [hkk] at hamc hk6 ⊢
 clear hkk hNN
 obtain ⟨q1,q2,q3,q4⟩ := id VM
 have K1 : KeepQ IsLimb w1 (w1.setCell ⟨w.heap.size,0,none⟩ (.int .i64 F)) := keepL_set q1 (limb_int _) _
 have K2 := keepL_set (cell_set_by (u := .int .i64 F) (j := 0) q2 (by omega)) (limb_slice _ _ _) (.slice am kk cm)
 have MO_n := (MO.set (a := ⟨w.heap.size,0,none⟩) (show w.heap.size < w.heap.size + 1 + 1 by omega) _ K1).set (a := ⟨w.heap.size,1,none⟩) (show w.heap.size < w.heap.size + 1 + 1 by omega) _ K2
 have VM_n := VM.same (.int .i64 F) (.slice am kk cm)
 have VQ_n := VQ.other (R := w.heap.size) (by omega) (.int .i64 F) (.slice am kk cm)
 have BB_n := below_store2 (R := w.heap.size) BB (Nat.le_refl _) (.int .i64 F) (.slice am kk cm)
 obtain ⟨z1,z2,z3,z4⟩ := id VM_n
 by_cases hk : 3 < kk
 ·have g1 : (kk : Int) > 3 := by omega
  have g2 : (3 : Int) ≤ (cm : Int) := by omega
  have g3 : ¬ cm = 0 := by omega
  have K3 := keepL_set z2 (limb_slice _ _ _) (.slice am 3 cm)
  have MO_m := MO_n.set (a := ⟨w.heap.size,1,none⟩) (show w.heap.size < w.heap.size + 1 + 1 by omega) _ K3
  have VM_m : V2 (((w1.setCell ⟨w.heap.size,0,none⟩ (.int .i64 F)).setCell ⟨w.heap.size,1,none⟩ (.slice am kk cm)).setCell ⟨w.heap.size,1,none⟩ (.slice am 3 cm)) w.heap.size (.int .i64 F) (.slice am 3 cm) := set1_v2 VM_n _
  have VQ_m : V2 (((w1.setCell ⟨w.heap.size,0,none⟩ (.int .i64 F)).setCell ⟨w.heap.size,1,none⟩ (.slice am kk cm)).setCell ⟨w.heap.size,1,none⟩ (.slice am 3 cm)) (w.heap.size + 1) (.int .i64 0) (.slice none 0 0) := set1_v2o VQ_n (by omega) _
  have BB_m := BB_n.setCell (p := ⟨w.heap.size,1,none⟩) (Nat.le_refl _) (.slice am 3 cm)
  obtain ⟨u1,u2,u3,u4⟩ := id VM_m
  go_wp2
  clear q1 q2 q3 q4 z1 z2 z3 z4 u1 u2 u3 u4 K1 K2 K3 MO VM VQ BB MO_n VM_n VQ_n BB_n g1 g2 g3
  generalize ((w1.setCell ⟨w.heap.size,0,none⟩ (.int .i64 F)).setCell ⟨w.heap.size,1,none⟩ (.slice am kk cm)).setCell ⟨w.heap.size,1,none⟩ (.slice am 3 cm) = W4 at *
  have VM := VM_m
  have VQ := VQ_m
  have MO := MO_m
  have BB := BB_m
  clear VM_m VQ_m MO_m BB_m
  have hsz4 : w.heap.size + 1 + 1 ≤ W4.heap.size := by have := VQ.lt; omega
  have hr := HR0.out.below BB
  refine wp_region_until 3 #[true,true,true,false,false] (fun aF lsd a' w' => ∃ vu0 vu1 vu2 : Value,a' = ((aF.put (some 16) vu0).put (some 17) vu1).put (some 18) vu2 ∧ Below W4.heap.size W4 w' ∧ (lsd.getD 0 false = true → vu0 = .agg #[.int .i64 F,.slice am 3 cm]) ∧ (lsd.getD 1 false = true → vu1 = .slice ar nr cr) ∧ (lsd.getD 2 false = true → COwn (w.heap.size + 1 + 1) w' vu2 (min nr 70) r 3)) (by kernel_rfl) (by decide) (by kernel_rfl) (by rfl) (by kernel_rfl) ?_ ?_ ?_
  ·exact ⟨_,_,_,by simp only [Act.put,xL4,xL5,xL6]; rfl,(Below.refl _ _).drew,fun h => absurd h (fun h => mark_none h),fun h => absurd h (fun h => mark_none h),fun h => absurd h (fun h => mark_none h)⟩
  ·rintro lsd au wn iu hszu ⟨vu0,vu1,vu2,rfl,hbu,fu0,fu1,fu2⟩ himu hru
   rcases (show iu = 0 ∨ iu = 1 ∨ iu = 2 by omega) with rfl | rfl | rfl
   ·refine wpOp_shut (by rfl) (fun K hK => ?_)
    simp only [Act.put,xL4,xL5,xL6]
    obtain ⟨VM_0,VM_1,VM_2,VM_3⟩ := VM.below hbu
    go_simp
    exact hK.out _ _ ⟨(.agg #[.int .i64 F,.slice am 3 cm]),vu1,vu2,by simp only [Act.put,xL4,xL5,xL6],hbu,fun _ => rfl,fun h => fu1 (mark_of (by decide) h),fun h => fu2 (mark_of (by decide) h)⟩
   ·refine wpOp_shut (by rfl) (fun K hK => ?_)
    simp only [Act.put,xL4,xL5,xL6]
    go_simp
    exact hK.out _ _ ⟨vu0,(.slice ar nr cr),vu2,by simp only [Act.put,xL4,xL5,xL6],hbu,fun h => fu0 (mark_of (by decide) h),fun _ => rfl,fun h => fu2 (mark_of (by decide) h)⟩
   ·have eu1 := fu1 (dep_of 1 hru rfl (by kernel_rfl))
    replace eu1 := eu1.symm
    subst eu1
    refine wpOp_shut (by rfl) (fun K hK => ?_)
    simp only [Act.put,xL4,xL5,xL6]
    have hr := hr.below hbu
    go_simp
    refine (few9_at _ nr 70 r _ hr (by omega)).mono ?_
    rintro eu wx ⟨vu,rfl,CO,bu⟩
    replace CO := CO.le (show w.heap.size + 1 + 1 ≤ _ from Nat.le_trans hsz4 hbu.size)
    go_wp2_with fail
    have hbu2 := hbu.trans (bu.mono hbu.size)
    exact hK.out _ _ ⟨vu0,(.slice ar nr cr),_,by simp only [Act.put,xL4,xL5,xL6],hbu2,fun h => fu0 (mark_of (by decide) h),fun _ => rfl,fun _ => CO⟩
  rintro au Wu61 ⟨vu0,vu1,vu2,rfl,hbu,fu0,fu1,fu2⟩
  have eu0 := (fu0 rfl).symm
  subst eu0
  have eu1 := (fu1 rfl).symm
  subst eu1
  have CO := fu2 rfl
  clear fu0 fu1 fu2
  have hlVM : w.heap.size < W4.heap.size := VM.lt
  have hlVQ : w.heap.size + 1 < W4.heap.size := VQ.lt
  replace MO := MO.below hbu
  replace hr := hr.below hbu
  replace VM := VM.below hbu
  replace VQ := VQ.below hbu
  replace BB := BB.trans (hbu.mono BB.size)
  clear hbu
  simp only [Act.put,xL4,xL5,xL6]
  refine xR [3] (h := ?_)
  refine AllReadyH.cons (by rfl) (fun K hK => ?_) AllReadyH.nil
  obtain ⟨au,cu,rfl⟩ := CO.form
  obtain ⟨q1,q2,q3,q4⟩ := id VQ
  have K1 : KeepQ IsLimb Wu61 (Wu61.setCell ⟨w.heap.size + 1,0,none⟩ (.int .i64 F)) := keepL_set q1 (limb_int _) _
  have K2 := keepL_set (cell_set_by (u := .int .i64 F) (j := 0) q2 (by omega)) (limb_slice _ _ _) (.slice am 3 cm)
  have MO_n := (MO.set (a := ⟨w.heap.size + 1,0,none⟩) (show w.heap.size + 1 < w.heap.size + 1 + 1 by omega) _ K1).set (a := ⟨w.heap.size + 1,1,none⟩) (show w.heap.size + 1 < w.heap.size + 1 + 1 by omega) _ K2
  have CO_n := (CO.set (a := ⟨w.heap.size + 1,0,none⟩) (show w.heap.size + 1 < w.heap.size + 1 + 1 by omega) _ K1).set (a := ⟨w.heap.size + 1,1,none⟩) (show w.heap.size + 1 < w.heap.size + 1 + 1 by omega) _ K2
  have VQ_n := VQ.same (.int .i64 F) (.slice am 3 cm)
  have BB_n := below_store2 (R := w.heap.size + 1) BB (by omega) (.int .i64 F) (.slice am 3 cm)
  go_simp
  refine hK.out _ _ trivial (fun _ => ?_)
  clear hK K
  simp only [Act.put,xL4,xL5,xL6]
  refine xR [4] (h := ?_)
  refine AllReadyH.cons (by rfl) (fun K hK => ?_) AllReadyH.nil
  go_simp
  refine hK.out _ _ trivial (fun _ => ?_)
  clear hK K
  simp only [Act.put,xL4,xL5,xL6]
  refine wpAnyH_done (by kernel_rfl) ?_ _
  obtain ⟨y1,y2,y3,y4⟩ := id VQ_n
  clear MO CO VQ VM BB hr q1 q2 q3 q4 K1 K2
  go_wp2
  (try simp only [Exit.inBlock,Exit.then])
  refine bodyPost_ret (v := .tuple #[.agg #[.int .i64 F,.slice am 3 cm],.slice au (min nr 70) cu]) (by simp [results,go_sem,y1,y2]) rfl ?_
  exact ⟨am,cm,au,cu,by rw [HKK.out,show min kk 3 = 3 by omega],by rw [HKK.out,HNN.out]; exact MO_n.le (by omega),CO_n.le (by omega),BB_n⟩
 ·have g1 : ¬ (kk : Int) > 3 := by omega
  go_wp2
  clear q1 q2 q3 q4 z1 z2 z3 z4 K1 K2 MO VM VQ BB g1
  generalize (w1.setCell ⟨w.heap.size,0,none⟩ (.int .i64 F)).setCell ⟨w.heap.size,1,none⟩ (.slice am kk cm) = W4 at *
  have VM := VM_n
  have VQ := VQ_n
  have MO := MO_n
  have BB := BB_n
  clear VM_n VQ_n MO_n BB_n
  have hsz4 : w.heap.size + 1 + 1 ≤ W4.heap.size := by have := VQ.lt; omega
  have hr := HR0.out.below BB
  refine wp_region_until 3 #[true,true,true,false,false] (fun aF lsd a' w' => ∃ vu0 vu1 vu2 : Value,a' = ((aF.put (some 16) vu0).put (some 17) vu1).put (some 18) vu2 ∧ Below W4.heap.size W4 w' ∧ (lsd.getD 0 false = true → vu0 = .agg #[.int .i64 F,.slice am kk cm]) ∧ (lsd.getD 1 false = true → vu1 = .slice ar nr cr) ∧ (lsd.getD 2 false = true → COwn (w.heap.size + 1 + 1) w' vu2 (min nr 70) r 3)) (by kernel_rfl) (by decide) (by kernel_rfl) (by rfl) (by kernel_rfl) ?_ ?_ ?_
  ·exact ⟨_,_,_,by simp only [Act.put,xL4,xL5,xL6]; rfl,(Below.refl _ _).drew,fun h => absurd h (fun h => mark_none h),fun h => absurd h (fun h => mark_none h),fun h => absurd h (fun h => mark_none h)⟩
  ·rintro lsd au wn iu hszu ⟨vu0,vu1,vu2,rfl,hbu,fu0,fu1,fu2⟩ himu hru
   rcases (show iu = 0 ∨ iu = 1 ∨ iu = 2 by omega) with rfl | rfl | rfl
   ·refine wpOp_shut (by rfl) (fun K hK => ?_)
    simp only [Act.put,xL4,xL5,xL6]
    obtain ⟨VM_0,VM_1,VM_2,VM_3⟩ := VM.below hbu
    go_simp
    exact hK.out _ _ ⟨(.agg #[.int .i64 F,.slice am kk cm]),vu1,vu2,by simp only [Act.put,xL4,xL5,xL6],hbu,fun _ => rfl,fun h => fu1 (mark_of (by decide) h),fun h => fu2 (mark_of (by decide) h)⟩
   ·refine wpOp_shut (by rfl) (fun K hK => ?_)
    simp only [Act.put,xL4,xL5,xL6]
    go_simp
    exact hK.out _ _ ⟨vu0,(.slice ar nr cr),vu2,by simp only [Act.put,xL4,xL5,xL6],hbu,fun h => fu0 (mark_of (by decide) h),fun _ => rfl,fun h => fu2 (mark_of (by decide) h)⟩
   ·have eu1 := fu1 (dep_of 1 hru rfl (by kernel_rfl))
    replace eu1 := eu1.symm
    subst eu1
    refine wpOp_shut (by rfl) (fun K hK => ?_)
    simp only [Act.put,xL4,xL5,xL6]
    have hr := hr.below hbu
    go_simp
    refine (few9_at _ nr 70 r _ hr (by omega)).mono ?_
    rintro eu wx ⟨vu,rfl,CO,bu⟩
    replace CO := CO.le (show w.heap.size + 1 + 1 ≤ _ from Nat.le_trans hsz4 hbu.size)
    go_wp2_with fail
    have hbu2 := hbu.trans (bu.mono hbu.size)
    exact hK.out _ _ ⟨vu0,(.slice ar nr cr),_,by simp only [Act.put,xL4,xL5,xL6],hbu2,fun h => fu0 (mark_of (by decide) h),fun _ => rfl,fun _ => CO⟩
  rintro au Wu61 ⟨vu0,vu1,vu2,rfl,hbu,fu0,fu1,fu2⟩
  have eu0 := (fu0 rfl).symm
  subst eu0
  have eu1 := (fu1 rfl).symm
  subst eu1
  have CO := fu2 rfl
  clear fu0 fu1 fu2
  have hlVM : w.heap.size < W4.heap.size := VM.lt
  have hlVQ : w.heap.size + 1 < W4.heap.size := VQ.lt
  replace MO := MO.below hbu
  replace hr := hr.below hbu
  replace VM := VM.below hbu
  replace VQ := VQ.below hbu
  replace BB := BB.trans (hbu.mono BB.size)
  clear hbu
  simp only [Act.put,xL4,xL5,xL6]
  refine xR [3] (h := ?_)
  refine AllReadyH.cons (by rfl) (fun K hK => ?_) AllReadyH.nil
  obtain ⟨au,cu,rfl⟩ := CO.form
  obtain ⟨q1,q2,q3,q4⟩ := id VQ
  have K1 : KeepQ IsLimb Wu61 (Wu61.setCell ⟨w.heap.size + 1,0,none⟩ (.int .i64 F)) := keepL_set q1 (limb_int _) _
  have K2 := keepL_set (cell_set_by (u := .int .i64 F) (j := 0) q2 (by omega)) (limb_slice _ _ _) (.slice am kk cm)
  have MO_n := (MO.set (a := ⟨w.heap.size + 1,0,none⟩) (show w.heap.size + 1 < w.heap.size + 1 + 1 by omega) _ K1).set (a := ⟨w.heap.size + 1,1,none⟩) (show w.heap.size + 1 < w.heap.size + 1 + 1 by omega) _ K2
  have CO_n := (CO.set (a := ⟨w.heap.size + 1,0,none⟩) (show w.heap.size + 1 < w.heap.size + 1 + 1 by omega) _ K1).set (a := ⟨w.heap.size + 1,1,none⟩) (show w.heap.size + 1 < w.heap.size + 1 + 1 by omega) _ K2
  have VQ_n := VQ.same (.int .i64 F) (.slice am kk cm)
  have BB_n := below_store2 (R := w.heap.size + 1) BB (by omega) (.int .i64 F) (.slice am kk cm)
  go_simp
  refine hK.out _ _ trivial (fun _ => ?_)
  clear hK K
  simp only [Act.put,xL4,xL5,xL6]
  refine xR [4] (h := ?_)
  refine AllReadyH.cons (by rfl) (fun K hK => ?_) AllReadyH.nil
  go_simp
  refine hK.out _ _ trivial (fun _ => ?_)
  clear hK K
  simp only [Act.put,xL4,xL5,xL6]
  refine wpAnyH_done (by kernel_rfl) ?_ _
  obtain ⟨y1,y2,y3,y4⟩ := id VQ_n
  clear MO CO VQ VM BB hr q1 q2 q3 q4 K1 K2
  go_wp2
  (try simp only [Exit.inBlock,Exit.then])
  refine bodyPost_ret (v := .tuple #[.agg #[.int .i64 F,.slice am kk cm],.slice au (min nr 70) cu]) (by simp [results,go_sem,y1,y2]) rfl ?_
  exact ⟨am,cm,au,cu,by rw [HKK.out,show min kk 3 = kk by omega],by rw [HKK.out,HNN.out]; exact MO_n.le (by omega),CO_n.le (by omega),BB_n⟩
end Go.Proofs.YtgddiimnpliolaaGreatDoor
