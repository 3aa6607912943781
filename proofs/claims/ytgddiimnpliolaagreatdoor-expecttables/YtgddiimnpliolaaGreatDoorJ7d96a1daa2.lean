/-
  Texts of mine, joined: what lies beneath the statement.
-/
import Derived.Test.YtgddiimnpliolaaGreatDoorJ28fca6d81b
namespace Go.Proofs.YtgddiimnpliolaaGreatDoor
open Go.RowKit
set_option linter.unusedVariables false
set_option linter.unusedSimpArgs false
set_option maxRecDepth 20000 in
set_option maxHeartbeats 1000000 in
theorem number7_at (p : Bool) (s t : Value) (n m : Nat) (f g : Nat → Int) (w : World) (h : Raw w s n f) (k : Raw w t m g) :
  Calls Tryz.prog 60 #[.agg #[.bool p,s,t]] w fun e w' => FewOut p (min n 4) (min m 4) f g w e w' := by
 have hA : ∀ o o',Below w.heap.size w ((w.alloc o).alloc o') := fun o o' => ((Below.refl _ _).alloc (Nat.le_refl _) _).alloc (by simp) _
 obtain ⟨ao,c,rfl,hnil,hnc,hcm,hu,h4⟩ := h
 obtain ⟨bo,d,rfl,knil,knc,kcm,ku,k4⟩ := k
 unfold maxLen at hcm kcm
 by_cases hlt : 4 < n
 ·obtain ⟨b1,off1,rfl,hc⟩ := h4 (by omega)
  have hN : Nums .u64 w (.slice (some ⟨b1,off1,none⟩) 4 c) 4 f := ⟨_,_,rfl,by omega,by unfold LIM; omega,fun _ => ⟨_,_,rfl,hc.mono (by omega)⟩⟩
  have hi : (n : Int) > 4 := by omega
  rw [show min n 4 = 4 by omega]
  by_cases klt : 4 < m
  ·obtain ⟨b2,off2,rfl,kc⟩ := k4 (by omega)
   have kN : Nums .u64 w (.slice (some ⟨b2,off2,none⟩) 4 d) 4 g := ⟨_,_,rfl,by omega,by unfold LIM; omega,fun _ => ⟨_,_,rfl,kc.mono (by omega)⟩⟩
   have ki : (m : Int) > 4 := by omega
   rw [show min m 4 = 4 by omega]
   go_enter Tryz.func60,Tryz.ntmps60
   go_wp2
   refine bodyPost_ret (v := .agg #[.bool p,.slice (some ⟨b1,off1,none⟩) 4 c,.slice (some ⟨b2,off2,none⟩) 4 d]) (by simp [results,go_sem]) rfl ?_
   exact ⟨_,_,_,_,rfl,hN.below (hA _ _),fun i hi => hu i (by omega),kN.below (hA _ _),fun i hi => ku i (by omega),hA _ _⟩
  ·have kN : Nums .u64 w (.slice bo m d) m g := ⟨_,_,rfl,knc,by unfold LIM; omega,k4⟩
   have ki : ¬ (m : Int) > 4 := by omega
   rw [show min m 4 = m by omega]
   go_enter Tryz.func60,Tryz.ntmps60
   go_wp2
   refine bodyPost_ret (v := .agg #[.bool p,.slice (some ⟨b1,off1,none⟩) 4 c,.slice bo m d]) (by simp [results,go_sem]) rfl ?_
   exact ⟨_,_,_,_,rfl,hN.below (hA _ _),fun i hi => hu i (by omega),kN.below (hA _ _),fun i hi => ku i (by omega),hA _ _⟩
 ·have hN : Nums .u64 w (.slice ao n c) n f := ⟨_,_,rfl,hnc,by unfold LIM; omega,h4⟩
  have hi : ¬ (n : Int) > 4 := by omega
  rw [show min n 4 = n by omega]
  by_cases klt : 4 < m
  ·obtain ⟨b2,off2,rfl,kc⟩ := k4 (by omega)
   have kN : Nums .u64 w (.slice (some ⟨b2,off2,none⟩) 4 d) 4 g := ⟨_,_,rfl,by omega,by unfold LIM; omega,fun _ => ⟨_,_,rfl,kc.mono (by omega)⟩⟩
   have ki : (m : Int) > 4 := by omega
   rw [show min m 4 = 4 by omega]
   go_enter Tryz.func60,Tryz.ntmps60
   go_wp2
   refine bodyPost_ret (v := .agg #[.bool p,.slice ao n c,.slice (some ⟨b2,off2,none⟩) 4 d]) (by simp [results,go_sem]) rfl ?_
   exact ⟨_,_,_,_,rfl,hN.below (hA _ _),fun i hi => hu i (by omega),kN.below (hA _ _),fun i hi => ku i (by omega),hA _ _⟩
  ·have kN : Nums .u64 w (.slice bo m d) m g := ⟨_,_,rfl,knc,by unfold LIM; omega,k4⟩
   have ki : ¬ (m : Int) > 4 := by omega
   rw [show min m 4 = m by omega]
   go_enter Tryz.func60,Tryz.ntmps60
   go_wp2
   refine bodyPost_ret (v := .agg #[.bool p,.slice ao n c,.slice bo m d]) (by simp [results,go_sem]) rfl ?_
   exact ⟨_,_,_,_,rfl,hN.below (hA _ _),fun i hi => hu i (by omega),kN.below (hA _ _),fun i hi => ku i (by omega),hA _ _⟩

set_option maxRecDepth 100000 in
set_option maxHeartbeats 8000000 in
theorem few7_at (F : Int) (v : Value) (k : Nat) (N : Nat → Nat) (T : Nat → Nat → Nd) (w : World) (hv : MRaw w v k N T 4) :
    Calls Tryz.prog 20 #[.agg #[.int .i64 F,v]] w fun e w' => ∃ r,e = .returned (.agg #[.int .i64 F,r]) ∧ MOwn w.heap.size w' r (min k 6) (fun i => min (N i) 15) T 4 ∧ Below w.heap.size w w' := by
  obtain ⟨ao,c,rfl,hnc,hc63⟩ := hv.open
  have BB : Below w.heap.size w w := Below.refl _ _
  obtain ⟨Wb0,hW0,hS0,hL0,VM⟩ := V2.lay w 24 (.int .i64 F) (.slice ao k c)
  replace BB := BB.trans (hL0.mono BB.size)
  clear hL0
  obtain ⟨Wb1,hW1,hS1,hL1,VR⟩ := V2.lay Wb0 24 (.int .i64 0) (.slice none 0 0)
  rw [hS0] at VR hS1
  replace VM := VM.below hL1
  replace BB := BB.trans (hL1.mono BB.size)
  clear hL1
  go_enter Tryz.func20,Tryz.ntmps20
  obtain ⟨W2,hW2,hS2,hL2,VO⟩ := V2.lay Wb1 24 (.int .i64 F) (.slice none 0 0)
  obtain ⟨VM_0,VM_1,VM_2,VM_3⟩ := id VM
  rw [hW1,hW0] at VM_0 VM_1 VM_2 VM_3
  obtain ⟨VO_0,VO_1,VO_2,VO_3⟩ := id VO
  rw [hW2,hW1,hW0] at VO_0 VO_1 VO_2 VO_3
  go_wp2
  clear VM_0 VM_1 VM_2 VM_3 VO_0 VO_1 VO_2 VO_3
  rw [← hW0]
  rw [← hW1]
  rw [← hW2]
  have HS : Hid (Wb1.heap.size = w.heap.size + 1 + 1) := hS1
  have hR3 : w.heap.size + 1 < Wb1.heap.size := by omega
  rw [hS1] at VO
  clear hW0 hW1 hW2 hS0 hS1
  have VM0 := VM
  have VR0 := VR
  have BB0 : Hid (Below w.heap.size w Wb1) := BB
  clear VM VR BB
  go_loopw [4] (fun vi wr => ∃ (i : Nat) (tr : Value),i ≤ min k 6 ∧ vi = .int .i64 (i : Int) ∧ V2 wr (w.heap.size + 1 + 1) (.int .i64 F) tr ∧ MOwn (w.heap.size + 1 + 1 + 1) wr tr i (fun i => min (N i) 15) T 4 ∧ Below Wb1.heap.size Wb1 wr) (fun vi _ => min k 6 - (intOf vi).toNat)
  case atStart => exact ⟨0,_,by omega,rfl,VO,MOwn.nil _ _ _ _ _,hL2⟩
  case round =>
    clear VO hL2
    obtain ⟨i,tr,hi,rfl,VO,MO,BL⟩ := hrel
    obtain ⟨at3,ct3,rfl⟩ := MO.form
    obtain ⟨VM_0,VM_1,VM_2,VM_3⟩ := VM0.below BL
    by_cases hlt : i < min k 6
    · have hik : i < k := by omega
      have h6 : i < 6 := by omega
      have g1 : (i : Int) < (k : Int) := by omega
      have g2 : (i : Int) < 6 := by omega
      have g0 : (0 : Int) ≤ (i : Int) := by omega
      obtain ⟨bT,oT,cT,aT,dT,hvv,hcc,XT0,TR⟩ := hv.at hik
      cases hvv
      go_wp2
      clear VM_0 VM_1 VM_2 VM_3
      obtain ⟨wo,rfl⟩ : ∃ wo,wo = wr := ⟨_,rfl⟩
      have hwo : Wb1.heap.size ≤ wo.heap.size := BL.size
      have HNi : Hid (N i ≤ dT ∧ dT ≤ 9223372036854775807) := by obtain ⟨_,_,e9,l9,m9⟩ := TR.open; cases e9; exact ⟨l9,m9⟩
      have hNd := HNi.out.1
      obtain ⟨ni,hni⟩ : ∃ ni,N i = ni := ⟨_,rfl⟩
      have HNI : Hid (N i = ni) := hni
      rw [hni] at XT0 TR hNd
      clear hni
      go_loopw [5,6] (fun vt vq wr => ∃ q : Nat,q ≤ min ni 15 ∧ vq = .int .i64 (q : Int) ∧ NOwn wo.heap.size wr vt q (T i) 4 ∧ Below wo.heap.size wo wr) (fun _ vq _ => min ni 15 - (intOf vq).toNat)
      case atStart => exact ⟨0,by omega,rfl,NOwn.nil _ _ _ _,Below.refl _ _⟩
      case round =>
        obtain ⟨q,hq,rfl,TO,BI⟩ := hrel
        have BW := BL.trans (BI.mono BL.size)
        have BB := BB0.out.trans (BW.mono BB0.out.size)
        obtain ⟨VM_0,VM_1,VM_2,VM_3⟩ := VM0.below BW
        have XT : wr.cell? ⟨bT,oT + i,none⟩ = some (.slice aT ni dT) := (BB.cell (World.block_lt_of_cell? _ _ XT0)).trans XT0
        obtain ⟨avt,cvt,rfl⟩ := TO.form
        by_cases hlq : q < min ni 15
        · have hqN : q < ni := by omega
          have e1 : (q : Int) < (ni : Int) := by omega
          have e2 : (q : Int) < 15 := by omega
          have e0 : (0 : Int) ≤ (q : Int) := by omega
          have hq15 : q ≤ 15 := by omega
          obtain ⟨b,off,cc,p1,a1,n1,c1,b1,m1,d1,f1,g1_,p2,a2,n2,c2,b2,m2,d2,f2,g2_,p3,a3,n3,c3,b3,m3,d3,f3,g3_,hvv,hcc2,hc6,NN0,⟨u1,v1,E1⟩,⟨u2,v2,E2⟩,⟨u3,v3,E3_⟩,i1,i2,i3⟩ := TR.at hqN
          cases hvv
          have NN := NN0.low BB
          clear NN0
          have HE1 : Hid ((T i q).cut = mkRat (zof p1 (num f1 (min n1 4))) (num g1_ (min m1 4))) := E1
          have HE2 : Hid ((T i q).val = mkRat (zof p2 (num f2 (min n2 4))) (num g2_ (min m2 4))) := E2
          have HE3 : Hid ((T i q).cov = mkRat (zof p3 (num f3 (min n3 4))) (num g3_ (min m3 4))) := E3_
          clear E1 E2 E3_
          obtain ⟨lf,hlf⟩ : ∃ z,(T i q).leaf = z := ⟨_,rfl⟩
          obtain ⟨ft,hft⟩ : ∃ z,(T i q).feat = z := ⟨_,rfl⟩
          obtain ⟨ll,hll⟩ : ∃ z,(T i q).left = z := ⟨_,rfl⟩
          obtain ⟨rr,hrr⟩ : ∃ z,(T i q).right = z := ⟨_,rfl⟩
          obtain ⟨ms,hms⟩ : ∃ z,(T i q).miss = z := ⟨_,rfl⟩
          rw [hlf,hft,hll,hrr,hms] at NN
          have HI3 : Hid (I64 (T i q).feat ∧ I64 (T i q).left ∧ I64 (T i q).right) := ⟨i1,i2,i3⟩
          have HLE : Hid ((T i q).leaf = lf ∧ (T i q).feat = ft ∧ (T i q).left = ll ∧ (T i q).right = rr ∧ (T i q).miss = ms) := ⟨hlf,hft,hll,hrr,hms⟩
          clear hlf hft hll hrr hms i1 i2 i3
          obtain ⟨N_0,N_1,N_2,N_3,N_4,N_5,N_6,N_7,N_8,N_9,N_10,N_11,N_12,N_13⟩ := id NN
          have hRb : wo.heap.size ≤ wr.heap.size := BI.size
          have HRT : Hid (∀ g,(Value.slice avt q cvt).ownBlock = some g → g ≠ wr.heap.size) := fun g hg => Nat.ne_of_lt (TO.blocks g hg).2
          obtain ⟨W9,hW9,hS9,hL9,VN,FN⟩ := V14.lay wr 57 (.bool lf) (.int .i64 ft) (.bool p1) (.slice a1 n1 c1) (.slice b1 m1 d1) (.int .i64 ll) (.int .i64 rr) (.bool ms) (.bool p2) (.slice a2 n2 c2) (.slice b2 m2 d2) (.bool p3) (.slice a3 n3 c3) (.slice b3 m3 d3)
          replace TO := TO.later hL9
          replace BB := BB.trans (hL9.mono BB.size)
          replace BI := BI.trans (hL9.mono BI.size)
          obtain ⟨V_0,V_1,V_2,V_3,V_4,V_5,V_6,V_7,V_8,V_9,V_10,V_11,V_12,V_13⟩ := id VN
          rw [hW9] at V_0 V_1 V_2 V_3 V_4 V_5 V_6 V_7 V_8 V_9 V_10 V_11 V_12 V_13
          go_wp2_with fail
          clear V_0 V_1 V_2 V_3 V_4 V_5 V_6 V_7 V_8 V_9 V_10 V_11 V_12 V_13 N_0 N_1 N_2 N_3 N_4 N_5 N_6 N_7 N_8 N_9 N_10 N_11 N_12 N_13 VM_0 VM_1 VM_2 VM_3 XT
          rw [← hW9]
          have hRw : w.heap.size ≤ wr.heap.size := by have := BB0.out.size; omega
          generalize wr.heap.size = R at *
          clear hW9 hS9 hL9 NN
          refine (number7_at _ _ _ _ _ _ _ _ (u1.below BB) (v1.below BB)).mono ?_
          rintro e wn1 ⟨ao1,co1,bo1,do1,rfl,hu1,uf1,hv1,vf1,bn1⟩
          have X1 : RatAt wn1 (.agg #[.bool p1,.slice ao1 (min n1 4) co1,.slice bo1 (min m1 4) do1]) (T i q).cut 4 := by rw [HE1.out]; exact RatAt.raw hu1 uf1 hv1 vf1 (Nat.min_le_right _ _) (Nat.min_le_right _ _)
          clear hu1 uf1 hv1 vf1 HE1
          replace FN := soft_below FN VN.lt bn1
          replace VN := VN.below bn1
          replace TO := TO.later bn1
          replace BB := BB.trans (bn1.mono BB.size)
          replace BI := BI.trans (bn1.mono BI.size)
          generalize min n1 4 = k1 at *
          generalize min m1 4 = l1 at *
          clear bn1
          have KK := VN.keep2 (limb_bool _) (limb_slice _ _ _) (limb_slice _ _ _) (.bool p1) (.slice ao1 k1 co1) (.slice bo1 l1 do1)
          have FN_n : ∀ j,((((wn1).setCell ⟨R,2,none⟩ (.bool p1)).setCell ⟨R,3,none⟩ (.slice ao1 k1 co1)).setCell ⟨R,4,none⟩ (.slice bo1 l1 do1)).frozen? ⟨R,j,none⟩ = false := soft_set (soft_set (soft_set FN _ _) _ _) _ _
          have VN_n := VN.set2 (.bool p1) (.slice ao1 k1 co1) (.slice bo1 l1 do1)
          have X1_n := X1.keepL KK
          have BB_n : Below w.heap.size w ((((wn1).setCell ⟨R,2,none⟩ (.bool p1)).setCell ⟨R,3,none⟩ (.slice ao1 k1 co1)).setCell ⟨R,4,none⟩ (.slice bo1 l1 do1)) := ((BB.setCell hRw _).setCell hRw _).setCell hRw _
          have BI_n : Below wo.heap.size wo ((((wn1).setCell ⟨R,2,none⟩ (.bool p1)).setCell ⟨R,3,none⟩ (.slice ao1 k1 co1)).setCell ⟨R,4,none⟩ (.slice bo1 l1 do1)) := ((BI.setCell hRb _).setCell hRb _).setCell hRb _
          have TO_n := TO.apart2 HRT.out VN.c2 VN.c3 VN.c4 (limb_bool _) (limb_slice _ _ _) (limb_slice _ _ _) (.bool p1) (.slice ao1 k1 co1) (.slice bo1 l1 do1)
          obtain ⟨V_0,V_1,V_2,V_3,V_4,V_5,V_6,V_7,V_8,V_9,V_10,V_11,V_12,V_13⟩ := id VN
          have f0_ := FN 2
          have f1_ := FN 3
          have f2_ := FN 4
          clear FN
          obtain ⟨Z_0,Z_1,Z_2,Z_3,Z_4,Z_5,Z_6,Z_7,Z_8,Z_9,Z_10,Z_11,Z_12,Z_13⟩ := id VN_n
          go_wp2_with fail
          clear KK f0_ f1_ f2_ VN TO BB BI X1 V_0 V_1 V_2 V_3 V_4 V_5 V_6 V_7 V_8 V_9 V_10 V_11 V_12 V_13 Z_0 Z_1 Z_2 Z_3 Z_4 Z_5 Z_6 Z_7 Z_8 Z_9 Z_10 Z_11 Z_12 Z_13
          generalize (((wn1).setCell ⟨R,2,none⟩ (.bool p1)).setCell ⟨R,3,none⟩ (.slice ao1 k1 co1)).setCell ⟨R,4,none⟩ (.slice bo1 l1 do1) = ws1 at *
          have FN := FN_n
          have VN := VN_n
          have BB := BB_n
          have BI := BI_n
          have TO := TO_n
          have X1 := X1_n
          clear FN_n VN_n BB_n BI_n TO_n X1_n
          refine (number7_at _ _ _ _ _ _ _ _ (u2.below BB) (v2.below BB)).mono ?_
          rintro e wn2 ⟨ao2,co2,bo2,do2,rfl,hu2,uf2,hv2,vf2,bn2⟩
          have X2 : RatAt wn2 (.agg #[.bool p2,.slice ao2 (min n2 4) co2,.slice bo2 (min m2 4) do2]) (T i q).val 4 := by rw [HE2.out]; exact RatAt.raw hu2 uf2 hv2 vf2 (Nat.min_le_right _ _) (Nat.min_le_right _ _)
          clear hu2 uf2 hv2 vf2 HE2
          replace FN := soft_below FN VN.lt bn2
          replace VN := VN.below bn2
          replace TO := TO.later bn2
          replace BB := BB.trans (bn2.mono BB.size)
          replace BI := BI.trans (bn2.mono BI.size)
          generalize min n2 4 = k2 at *
          generalize min m2 4 = l2 at *
          replace X1 := X1.below bn2
          clear bn2
          have KK := VN.keep8 (limb_bool _) (limb_slice _ _ _) (limb_slice _ _ _) (.bool p2) (.slice ao2 k2 co2) (.slice bo2 l2 do2)
          have FN_n : ∀ j,((((wn2).setCell ⟨R,8,none⟩ (.bool p2)).setCell ⟨R,9,none⟩ (.slice ao2 k2 co2)).setCell ⟨R,10,none⟩ (.slice bo2 l2 do2)).frozen? ⟨R,j,none⟩ = false := soft_set (soft_set (soft_set FN _ _) _ _) _ _
          have VN_n := VN.set8 (.bool p2) (.slice ao2 k2 co2) (.slice bo2 l2 do2)
          have X1_n := X1.keepL KK
          have X2_n := X2.keepL KK
          have BB_n : Below w.heap.size w ((((wn2).setCell ⟨R,8,none⟩ (.bool p2)).setCell ⟨R,9,none⟩ (.slice ao2 k2 co2)).setCell ⟨R,10,none⟩ (.slice bo2 l2 do2)) := ((BB.setCell hRw _).setCell hRw _).setCell hRw _
          have BI_n : Below wo.heap.size wo ((((wn2).setCell ⟨R,8,none⟩ (.bool p2)).setCell ⟨R,9,none⟩ (.slice ao2 k2 co2)).setCell ⟨R,10,none⟩ (.slice bo2 l2 do2)) := ((BI.setCell hRb _).setCell hRb _).setCell hRb _
          have TO_n := TO.apart8 HRT.out VN.c8 VN.c9 VN.c10 (limb_bool _) (limb_slice _ _ _) (limb_slice _ _ _) (.bool p2) (.slice ao2 k2 co2) (.slice bo2 l2 do2)
          obtain ⟨V_0,V_1,V_2,V_3,V_4,V_5,V_6,V_7,V_8,V_9,V_10,V_11,V_12,V_13⟩ := id VN
          have f0_ := FN 8
          have f1_ := FN 9
          have f2_ := FN 10
          clear FN
          obtain ⟨Z_0,Z_1,Z_2,Z_3,Z_4,Z_5,Z_6,Z_7,Z_8,Z_9,Z_10,Z_11,Z_12,Z_13⟩ := id VN_n
          go_wp2_with fail
          clear KK f0_ f1_ f2_ VN TO BB BI X1 X2 V_0 V_1 V_2 V_3 V_4 V_5 V_6 V_7 V_8 V_9 V_10 V_11 V_12 V_13 Z_0 Z_1 Z_2 Z_3 Z_4 Z_5 Z_6 Z_7 Z_8 Z_9 Z_10 Z_11 Z_12 Z_13
          generalize (((wn2).setCell ⟨R,8,none⟩ (.bool p2)).setCell ⟨R,9,none⟩ (.slice ao2 k2 co2)).setCell ⟨R,10,none⟩ (.slice bo2 l2 do2) = ws2 at *
          have FN := FN_n
          have VN := VN_n
          have BB := BB_n
          have BI := BI_n
          have TO := TO_n
          have X1 := X1_n
          have X2 := X2_n
          clear FN_n VN_n BB_n BI_n TO_n X1_n X2_n
          refine (number7_at _ _ _ _ _ _ _ _ (u3.below BB) (v3.below BB)).mono ?_
          rintro e wn3 ⟨ao3,co3,bo3,do3,rfl,hu3,uf3,hv3,vf3,bn3⟩
          have X3 : RatAt wn3 (.agg #[.bool p3,.slice ao3 (min n3 4) co3,.slice bo3 (min m3 4) do3]) (T i q).cov 4 := by rw [HE3.out]; exact RatAt.raw hu3 uf3 hv3 vf3 (Nat.min_le_right _ _) (Nat.min_le_right _ _)
          clear hu3 uf3 hv3 vf3 HE3
          replace FN := soft_below FN VN.lt bn3
          replace VN := VN.below bn3
          replace TO := TO.later bn3
          replace BB := BB.trans (bn3.mono BB.size)
          replace BI := BI.trans (bn3.mono BI.size)
          generalize min n3 4 = k3 at *
          generalize min m3 4 = l3 at *
          replace X1 := X1.below bn3
          replace X2 := X2.below bn3
          clear bn3
          have KK := VN.keep11 (limb_bool _) (limb_slice _ _ _) (limb_slice _ _ _) (.bool p3) (.slice ao3 k3 co3) (.slice bo3 l3 do3)
          have FN_n : ∀ j,((((wn3).setCell ⟨R,11,none⟩ (.bool p3)).setCell ⟨R,12,none⟩ (.slice ao3 k3 co3)).setCell ⟨R,13,none⟩ (.slice bo3 l3 do3)).frozen? ⟨R,j,none⟩ = false := soft_set (soft_set (soft_set FN _ _) _ _) _ _
          have VN_n := VN.set11 (.bool p3) (.slice ao3 k3 co3) (.slice bo3 l3 do3)
          have X1_n := X1.keepL KK
          have X2_n := X2.keepL KK
          have X3_n := X3.keepL KK
          have BB_n : Below w.heap.size w ((((wn3).setCell ⟨R,11,none⟩ (.bool p3)).setCell ⟨R,12,none⟩ (.slice ao3 k3 co3)).setCell ⟨R,13,none⟩ (.slice bo3 l3 do3)) := ((BB.setCell hRw _).setCell hRw _).setCell hRw _
          have BI_n : Below wo.heap.size wo ((((wn3).setCell ⟨R,11,none⟩ (.bool p3)).setCell ⟨R,12,none⟩ (.slice ao3 k3 co3)).setCell ⟨R,13,none⟩ (.slice bo3 l3 do3)) := ((BI.setCell hRb _).setCell hRb _).setCell hRb _
          have TO_n := TO.apart11 HRT.out VN.c11 VN.c12 VN.c13 (limb_bool _) (limb_slice _ _ _) (limb_slice _ _ _) (.bool p3) (.slice ao3 k3 co3) (.slice bo3 l3 do3)
          obtain ⟨V_0,V_1,V_2,V_3,V_4,V_5,V_6,V_7,V_8,V_9,V_10,V_11,V_12,V_13⟩ := id VN
          have f0_ := FN 11
          have f1_ := FN 12
          have f2_ := FN 13
          clear FN
          obtain ⟨Z_0,Z_1,Z_2,Z_3,Z_4,Z_5,Z_6,Z_7,Z_8,Z_9,Z_10,Z_11,Z_12,Z_13⟩ := id VN_n
          have hA : Below ((((wn3).setCell ⟨R,11,none⟩ (.bool p3)).setCell ⟨R,12,none⟩ (.slice ao3 k3 co3)).setCell ⟨R,13,none⟩ (.slice bo3 l3 do3)).heap.size ((((wn3).setCell ⟨R,11,none⟩ (.bool p3)).setCell ⟨R,12,none⟩ (.slice ao3 k3 co3)).setCell ⟨R,13,none⟩ (.slice bo3 l3 do3)) (((((wn3).setCell ⟨R,11,none⟩ (.bool p3)).setCell ⟨R,12,none⟩ (.slice ao3 k3 co3)).setCell ⟨R,13,none⟩ (.slice bo3 l3 do3)).alloc (.cells #[.bool lf,.int .i64 ft,.bool p1,.slice ao1 k1 co1,.slice bo1 l1 do1,.int .i64 ll,.int .i64 rr,.bool ms,.bool p2,.slice ao2 k2 co2,.slice bo2 l2 do2,.bool p3,.slice ao3 k3 co3,.slice bo3 l3 do3] 57)) := (Below.refl _ _).alloc (Nat.le_refl _) _
          have TO2 := TO_n.later hA
          have BI2 := BI_n.trans (hA.mono BI_n.size)
          have Y1 := X1_n.below hA
          have Y2 := X2_n.below hA
          have Y3 := X3_n.below hA
          obtain ⟨cs,hcl,hco,hcp,hcn⟩ := TO2.parts
          have hsz2 := BI2.size
          have hbk := TO2.blocks
          have HND : Hid (NodeAt (((((wn3).setCell ⟨R,11,none⟩ (.bool p3)).setCell ⟨R,12,none⟩ (.slice ao3 k3 co3)).setCell ⟨R,13,none⟩ (.slice bo3 l3 do3)).alloc (.cells #[.bool lf,.int .i64 ft,.bool p1,.slice ao1 k1 co1,.slice bo1 l1 do1,.int .i64 ll,.int .i64 rr,.bool ms,.bool p2,.slice ao2 k2 co2,.slice bo2 l2 do2,.bool p3,.slice ao3 k3 co3,.slice bo3 l3 do3] 57)) (fun j => [.bool lf,.int .i64 ft,.bool p1,.slice ao1 k1 co1,.slice bo1 l1 do1,.int .i64 ll,.int .i64 rr,.bool ms,.bool p2,.slice ao2 k2 co2,.slice bo2 l2 do2,.bool p3,.slice ao3 k3 co3,.slice bo3 l3 do3].getD j undef) (T i q) 4) := by
            obtain ⟨z1,z2,z3,z4,z5⟩ := HLE.out
            obtain ⟨y1,y2,y3⟩ := HI3.out
            exact ⟨by rw [z1]; rfl,by rw [z2]; rfl,⟨_,_,_,_,_,_,_,rfl,rfl,rfl,Y1⟩,by rw [z3]; rfl,by rw [z4]; rfl,by rw [z5]; rfl,⟨_,_,_,_,_,_,_,rfl,rfl,rfl,Y2⟩,⟨_,_,_,_,_,_,_,rfl,rfl,rfl,Y3⟩,y1,y2,y3⟩
          have HCN : Hid (∀ j,j < q → NodeAt (((((wn3).setCell ⟨R,11,none⟩ (.bool p3)).setCell ⟨R,12,none⟩ (.slice ao3 k3 co3)).setCell ⟨R,13,none⟩ (.slice bo3 l3 do3)).alloc (.cells #[.bool lf,.int .i64 ft,.bool p1,.slice ao1 k1 co1,.slice bo1 l1 do1,.int .i64 ll,.int .i64 rr,.bool ms,.bool p2,.slice ao2 k2 co2,.slice bo2 l2 do2,.bool p3,.slice ao3 k3 co3,.slice bo3 l3 do3] 57)) (fun x => cs.getD (j * 14 + x) undef) (T i j) 4) := hcn
          have HCL : Hid (cs.length = q * 14) := hcl
          have hws : ((((wn3).setCell ⟨R,11,none⟩ (.bool p3)).setCell ⟨R,12,none⟩ (.slice ao3 k3 co3)).setCell ⟨R,13,none⟩ (.slice bo3 l3 do3)).heap.size = wn3.heap.size := by simp
          have hnb := news_block (heap_alloc_new ((((wn3).setCell ⟨R,11,none⟩ (.bool p3)).setCell ⟨R,12,none⟩ (.slice ao3 k3 co3)).setCell ⟨R,13,none⟩ (.slice bo3 l3 do3)) (.cells #[.bool lf,.int .i64 ft,.bool p1,.slice ao1 k1 co1,.slice bo1 l1 do1,.int .i64 ll,.int .i64 rr,.bool ms,.bool p2,.slice ao2 k2 co2,.slice bo2 l2 do2,.bool p3,.slice ao3 k3 co3,.slice bo3 l3 do3] 57))
          rw [hws] at hnb
          clear hws
          clear hcn hcl TO2 Y1 Y2 Y3 TO_n TO BB BI X1 X2 X3 X1_n X2_n X3_n HLE HI3 KK VN
          go_wp2_with (first
            | (at_builtin
               refine wpList_append_pure (Q' := IsLimb) rfl _ _ _ rfl wo.heap.size 57 (.agg #[.bool false,.int .i64 0,.bool false,.slice none 0 0,.slice none 0 0,.int .i64 0,.int .i64 0,.bool false,.bool false,.slice none 0 0,.slice none 0 0,.bool false,.slice none 0 0,.slice none 0 0]) 14 208 Tryz.underlying44 info_node rfl (by omega) (.slice avt q cvt) rfl q cs hco hcp ⟨wn3.heap.size,0,none⟩ 1 rfl [.bool lf,.int .i64 ft,.bool p1,.slice ao1 k1 co1,.slice bo1 l1 do1,.int .i64 ll,.int .i64 rr,.bool ms,.bool p2,.slice ao2 k2 co2,.slice bo2 l2 do2,.bool p3,.slice ao3 k3 co3,.slice bo3 l3 do3] rfl ?g14 ?g15 ?g16 ?g17 (by omega) (by omega) hsz2 ?_
               case g14 => exact hnb
               case g15 => simp [Value.oneCell']
               case g16 => simp [limb_bool,limb_slice,limb_int]
               case g17 => simp [Value.cells,limb_bool,limb_slice,limb_int]
               intro gN cN w5 ho5 hg5 _ hp5 hk5
               have NO5 : NOwn wo.heap.size w5 (.slice (some ⟨gN,0,none⟩) (q + 1) cN) (q + 1) (T i) 4 := NOwn.more (v := .slice none 0 0) ho5 HCL.out (fun g hg => by cases hg; exact hp5) hk5 HCN.out HND.out
               have BI5 : Below wo.heap.size wo w5 := below_grownB BI2 hg5 hsz2 (fun g hg => (hbk g hg).1)
               clear ho5 hg5 hp5 hk5 hco hcp BI2 hbk hA HCN HND HCL))
          go_roundw
          case rel => exact ⟨q + 1,by omega,by go_num,NO5,BI5⟩
          case measure => simp [intOf]; omega
        · have hqe : q = min ni 15 := by omega
          have HQ : Hid (q = min (N i) 15) := by rw [HNI.out]; exact hqe
          have MO2 : MOwn (w.heap.size + 1 + 1 + 1) wr (.slice at3 i ct3) i (fun i => min (N i) 15) T 4 := MO.later BI
          have TO2 : NOwn (w.heap.size + 1 + 1 + 1) wr (.slice avt q cvt) q (T i) 4 := TO.le (by have := VO.lt; omega)
          have VO2 := VO.below BI
          clear BI TO MO VO BB
          have HSZ : Hid (Wb1.heap.size = w.heap.size + 1 + 1) := HS
          have hsz1 : w.heap.size + 1 + 1 + 1 ≤ wr.heap.size := by have := BW.size; have := VO2.lt; omega
          have hA : Below wr.heap.size wr (wr.alloc (.cells #[.slice avt q cvt] 44)) := (Below.refl _ _).alloc (Nat.le_refl _) _
          replace MO2 := MO2.later hA
          replace TO2 := TO2.later hA
          have VO3 := VO2.below hA
          have BW2 := BW.trans (hA.mono BW.size)
          obtain ⟨us,huo,hup⟩ := MO2.parts
          have hbk := MO2.blocks
          have hsz2 : w.heap.size + 1 + 1 + 1 ≤ (wr.alloc (.cells #[.slice avt q cvt] 44)).heap.size := Nat.le_trans hsz1 hA.size
          obtain ⟨VO_0,VO_1,VO_2,VO_3⟩ := id VO2
          have hqm : ¬ ((q : Int) < (ni : Int) ∧ (q : Int) < 15) := by omega
          have hbl : w.heap.size + 1 + 1 < wr.heap.size := by omega
          clear hqe hq hlq
          by_cases hqn : q < ni
          · have c1 : (q : Int) < (ni : Int) := by omega
            have c2 : ¬ (q : Int) < 15 := by omega
            go_wp2_with (first
              | (at_builtin
                 refine wpList_append_pure (Q' := IsLimb) rfl _ _ _ rfl (w.heap.size + 1 + 1 + 1) 44 (.slice none 0 0) 1 24 Tryz.underlying22 info_tree rfl (by omega) (.slice at3 i ct3) rfl i us huo hup ⟨wr.heap.size,0,none⟩ 1 rfl [.slice avt q cvt] rfl ?g14 ?g15 ?g16 ?g17 (by omega) (by omega) hsz2 ?_
                 case g14 => exact news_block (heap_alloc_new _ _)
                 case g15 => simp [Value.oneCell']
                 case g16 => simp [limb_slice]
                 case g17 => simp [Value.cells,limb_slice]
                 intro gN cN w5 ho5 hg5 _ hp5 hk5
                 have MO5 : MOwn (w.heap.size + 1 + 1 + 1) w5 (.slice (some ⟨gN,0,none⟩) (i + 1) cN) (i + 1) (fun i => min (N i) 15) T 4 := MO2.more1 huo (by rw [← HQ.out]; exact TO2) ho5 hg5 (fun g hg => by cases hg; exact hp5) hk5
                 have hlow : Below (w.heap.size + 1 + 1 + 1) (wr.alloc (.cells #[.slice avt q cvt] 44)) w5 := below_grownB (Below.refl _ _) hg5 hsz2 (fun g hg => (hbk g hg).1)
                 have VO5 : V2 w5 (w.heap.size + 1 + 1) (.int .i64 F) (.slice at3 i ct3) := ⟨(hlow.cell (p := ⟨_,0,none⟩) (by show w.heap.size + 1 + 1 < _; omega)).trans VO3.1,(hlow.cell (p := ⟨_,1,none⟩) (by show w.heap.size + 1 + 1 < _; omega)).trans VO3.2.1,(hlow.frozen (p := ⟨_,0,none⟩) (by show w.heap.size + 1 + 1 < _; omega)).trans VO3.2.2.1,(hlow.frozen (p := ⟨_,1,none⟩) (by show w.heap.size + 1 + 1 < _; omega)).trans VO3.2.2.2⟩
                 have BW5 : Below Wb1.heap.size Wb1 w5 := BW2.trans (hlow.mono (by have := HSZ.out; omega))
                 obtain ⟨U_0,U_1,U_2,U_3⟩ := id VO5
                 have K5 : KeepQ IsLimb w5 (w5.setCell ⟨w.heap.size + 1 + 1,1,none⟩ (.slice (some ⟨gN,0,none⟩) (i + 1) cN)) := keepL_set U_1 (limb_slice _ _ _) _
                 have MO6 := MO5.set (a := ⟨w.heap.size + 1 + 1,1,none⟩) (by show w.heap.size + 1 + 1 < _; omega) _ K5
                 have VO6 : V2 (w5.setCell ⟨w.heap.size + 1 + 1,1,none⟩ (.slice (some ⟨gN,0,none⟩) (i + 1) cN)) (w.heap.size + 1 + 1) (.int .i64 F) (.slice (some ⟨gN,0,none⟩) (i + 1) cN) := ⟨cell_set_by U_0 (by omega),cell_set_at U_1,by simp [U_2],by simp [U_3]⟩
                 have BW6 := BW5.setCell (p := ⟨w.heap.size + 1 + 1,1,none⟩) (by show Wb1.heap.size ≤ w.heap.size + 1 + 1; have := HSZ.out; omega) (.slice (some ⟨gN,0,none⟩) (i + 1) cN)
                 clear ho5 hg5 hp5 hk5 huo hup hbk hlow hA MO5 MO2 TO2 K5 VO5 VO3 BW5 BW2))
            go_roundw
            case rel => exact ⟨i + 1,_,by omega,by go_num,VO6,MO6,BW6⟩
            case measure => simp [intOf]; omega
          · have c1 : ¬ (q : Int) < (ni : Int) := by omega
            have c1b : decide ((q : Int) < (ni : Int)) = false := decide_eq_false c1
            go_wp2_with (first
              | (at_builtin
                 refine wpList_append_pure (Q' := IsLimb) rfl _ _ _ rfl (w.heap.size + 1 + 1 + 1) 44 (.slice none 0 0) 1 24 Tryz.underlying22 info_tree rfl (by omega) (.slice at3 i ct3) rfl i us huo hup ⟨wr.heap.size,0,none⟩ 1 rfl [.slice avt q cvt] rfl ?g14 ?g15 ?g16 ?g17 (by omega) (by omega) hsz2 ?_
                 case g14 => exact news_block (heap_alloc_new _ _)
                 case g15 => simp [Value.oneCell']
                 case g16 => simp [limb_slice]
                 case g17 => simp [Value.cells,limb_slice]
                 intro gN cN w5 ho5 hg5 _ hp5 hk5
                 have MO5 : MOwn (w.heap.size + 1 + 1 + 1) w5 (.slice (some ⟨gN,0,none⟩) (i + 1) cN) (i + 1) (fun i => min (N i) 15) T 4 := MO2.more1 huo (by rw [← HQ.out]; exact TO2) ho5 hg5 (fun g hg => by cases hg; exact hp5) hk5
                 have hlow : Below (w.heap.size + 1 + 1 + 1) (wr.alloc (.cells #[.slice avt q cvt] 44)) w5 := below_grownB (Below.refl _ _) hg5 hsz2 (fun g hg => (hbk g hg).1)
                 have VO5 : V2 w5 (w.heap.size + 1 + 1) (.int .i64 F) (.slice at3 i ct3) := ⟨(hlow.cell (p := ⟨_,0,none⟩) (by show w.heap.size + 1 + 1 < _; omega)).trans VO3.1,(hlow.cell (p := ⟨_,1,none⟩) (by show w.heap.size + 1 + 1 < _; omega)).trans VO3.2.1,(hlow.frozen (p := ⟨_,0,none⟩) (by show w.heap.size + 1 + 1 < _; omega)).trans VO3.2.2.1,(hlow.frozen (p := ⟨_,1,none⟩) (by show w.heap.size + 1 + 1 < _; omega)).trans VO3.2.2.2⟩
                 have BW5 : Below Wb1.heap.size Wb1 w5 := BW2.trans (hlow.mono (by have := HSZ.out; omega))
                 obtain ⟨U_0,U_1,U_2,U_3⟩ := id VO5
                 have K5 : KeepQ IsLimb w5 (w5.setCell ⟨w.heap.size + 1 + 1,1,none⟩ (.slice (some ⟨gN,0,none⟩) (i + 1) cN)) := keepL_set U_1 (limb_slice _ _ _) _
                 have MO6 := MO5.set (a := ⟨w.heap.size + 1 + 1,1,none⟩) (by show w.heap.size + 1 + 1 < _; omega) _ K5
                 have VO6 : V2 (w5.setCell ⟨w.heap.size + 1 + 1,1,none⟩ (.slice (some ⟨gN,0,none⟩) (i + 1) cN)) (w.heap.size + 1 + 1) (.int .i64 F) (.slice (some ⟨gN,0,none⟩) (i + 1) cN) := ⟨cell_set_by U_0 (by omega),cell_set_at U_1,by simp [U_2],by simp [U_3]⟩
                 have BW6 := BW5.setCell (p := ⟨w.heap.size + 1 + 1,1,none⟩) (by show Wb1.heap.size ≤ w.heap.size + 1 + 1; have := HSZ.out; omega) (.slice (some ⟨gN,0,none⟩) (i + 1) cN)
                 clear ho5 hg5 hp5 hk5 huo hup hbk hlow hA MO5 MO2 TO2 K5 VO5 VO3 BW5 BW2))
            go_roundw
            case rel => exact ⟨i + 1,_,by omega,by go_num,VO6,MO6,BW6⟩
            case measure => simp [intOf]; omega
    · have hik : i = min k 6 := by omega
      have VR := VR0.below BL
      have BB := BB0.out.trans (BL.mono BB0.out.size)
      obtain ⟨VO_0,VO_1,VO_2,VO_3⟩ := id VO
      obtain ⟨q1,q2,q3,q4⟩ := id VR
      have HIK : Hid (i = min k 6) := hik
      clear hik
      have K1 : KeepQ IsLimb wr (wr.setCell ⟨w.heap.size + 1,0,none⟩ (.int .i64 F)) := keepL_set q1 (limb_int 0) _
      have K2 := keepL_set (cell_set_by (u := .int .i64 F) (j := 0) q2 (by omega)) (limb_slice _ _ _) (.slice at3 i ct3)
      have MO2 := (MO.set (a := ⟨w.heap.size + 1,0,none⟩) (by show w.heap.size + 1 < _; omega) _ K1).set (a := ⟨w.heap.size + 1,1,none⟩) (by show w.heap.size + 1 < _; omega) _ K2
      have HMR : Hid (MOwn w.heap.size _ (.slice at3 i ct3) i (fun i => min (N i) 15) T 4) := MO2.le (by omega)
      have BB2 := (BB.setCell (p := ⟨w.heap.size + 1,0,none⟩) (by show w.heap.size ≤ w.heap.size + 1; omega) (.int .i64 F)).setCell (p := ⟨w.heap.size + 1,1,none⟩) (by show w.heap.size ≤ w.heap.size + 1; omega) (.slice at3 i ct3)
      clear MO2 K1 K2 MO
      by_cases hk6 : i < k
      · have g1 : (i : Int) < (k : Int) := by omega
        have g2 : ¬ (i : Int) < 6 := by have := HIK.out; omega
        go_wp2
        (try simp only [Exit.inBlock,Exit.then])
        refine bodyPost_ret (v := .agg #[.int .i64 F,.slice at3 i ct3]) (by simp [results,go_sem,q1,q2]) rfl ?_
        have h9 := HMR.out
        have h8 := HIK.out
        exact ⟨_,rfl,by rw [← h8]; exact h9,BB2⟩
      · have g1 : ¬ (i : Int) < (k : Int) := by omega
        have g1b : decide ((i : Int) < (k : Int)) = false := decide_eq_false g1
        go_wp2
        (try simp only [Exit.inBlock,Exit.then])
        refine bodyPost_ret (v := .agg #[.int .i64 F,.slice at3 i ct3]) (by simp [results,go_sem,q1,q2]) rfl ?_
        have h9 := HMR.out
        have h8 := HIK.out
        exact ⟨_,rfl,by rw [← h8]; exact h9,BB2⟩
end Go.Proofs.YtgddiimnpliolaaGreatDoor

namespace Go.Proofs.YtgddiimnpliolaaGreatDoor
set_option linter.unusedVariables false
set_option linter.unusedSimpArgs false
theorem inS_bit (s f : Nat) : inS s f = s.testBit f := by
 unfold inS
 rw [Nat.testBit_eq_decide_div_mod_eq]
theorem inS_and (s a f : Nat) : inS (s &&& a) f = (inS s f && inS a f) := by
 rw [inS_bit,inS_bit,inS_bit,Nat.testBit_and]
theorem MayT.say_and {F : Int} {t : Nat → Nd} {n : Nat} (h : MayT F t n) (r : Nat → Cl) (s a : Nat) (ha : ∀ x,x < n → (t x).leaf = false → inS a (t x).feat.toNat = true) {x : Nat} (hx : x < n) : say t n r (s &&& a) x = say t n r s x :=
 h.by_tree (P := fun x => say t n r (s &&& a) x = say t n r s x) (fun x hx hl => by rw [say_leaf hl,say_leaf hl]) (fun x hx hl i1 i2 => by
  have e : inS (s &&& a) (t x).feat.toNat = inS s (t x).feat.toNat := by rw [inS_and,ha x hx hl,Bool.and_true]
  cases hi : inS s (t x).feat.toNat with
  | true =>
   rw [h.say_in r hx hl (e.trans hi),h.say_in r hx hl hi]
   have : Go.Proofs.YtgddiimnpliolaaGreatDoor.nxt (t x) r = kl t x ∨ Go.Proofs.YtgddiimnpliolaaGreatDoor.nxt (t x) r = kr t x := by
    unfold Go.Proofs.YtgddiimnpliolaaGreatDoor.nxt kl kr
    by_cases g : goL (t x) (r (t x).feat.toNat) = true
    ·rw [if_pos g]; exact .inl rfl
    ·rw [if_neg g]; exact .inr rfl
   rcases this with e | e
   ·rw [e]; exact i1
   ·rw [e]; exact i2
  | false => rw [h.say_out r hx hl (e.trans hi),h.say_out r hx hl hi,i1,i2]) hx
def askN (t : Nat → Nd) : Nat → Nat
 | 0 => 0
 | i + 1 => if (t i).leaf = true then askN t i else askN t i ||| 2 ^ (t i).feat.toNat
theorem askN_lt {t : Nat → Nd} {n m : Nat} (h : ∀ x,x < n → (t x).leaf = false → (t x).feat.toNat < m) : ∀ i,i ≤ n → askN t i < 2 ^ m
 | 0,_ => Nat.two_pow_pos m
 | i + 1,hi => by
  have ih := askN_lt h i (by omega)
  unfold askN
  by_cases e : (t i).leaf = true
  ·rw [if_pos e]; exact ih
  ·rw [if_neg e]
   exact Nat.or_lt_two_pow ih (Nat.pow_lt_pow_right (by omega) (h i (by omega) (by simpa using e)))
theorem inS_or (s a f : Nat) : inS (s ||| a) f = (inS s f || inS a f) := by
 rw [inS_bit,inS_bit,inS_bit,Nat.testBit_or]
theorem askN_has {t : Nat → Nd} : ∀ i x,x < i → (t x).leaf = false → inS (askN t i) (t x).feat.toNat = true
 | 0,x,hx,_ => by omega
 | i + 1,x,hx,hl => by
  unfold askN
  by_cases e : x = i
  ·subst e
   rw [if_neg (by rw [hl]; simp),inS_or,inS_bit (2 ^ _),Nat.testBit_two_pow_self,Bool.or_true]
  ·have ih := askN_has i x (by omega) hl
   by_cases g : (t i).leaf = true
   ·rw [if_pos g]; exact ih
   ·rw [if_neg g,inS_or,ih,Bool.true_or]
theorem MayT.say_asked {F : Int} {t : Nat → Nd} {n : Nat} (h : MayT F t n) (r : Nat → Cl) (s : Nat) : say t n r (s &&& askN t n) 0 = say t n r s 0 :=
 h.say_and r s _ (fun x hx hl => askN_has n x hx hl) h.pos
end Go.Proofs.YtgddiimnpliolaaGreatDoor
