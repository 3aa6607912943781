/-
 Proves that Values tells what all splits by each feature add,of any model of up to 3 trees of up to 15 nodes and any row,or why nothing,whatever comes in (the statement SaabasValues,its tied card); the table of math/bits lies as the program's text lays it; no other condition.
-/
import Derived.Test.YtjmagcgobhaenaaGreatDoorJc66f179fb5
import Derived.Test.YtjmagcgobhaenaaGreatDoorRows
import Derived.Test.YtjmagcgobhaenaaGreatDoorJ4315464581
import Derived.Test.YtjmagcgobhaenaaGreatDoorJ23ef0c569e
import Derived.Test.YtjmagcgobhaenaaGreatDoorJ911a996173
import Derived.WalkKit
import Derived.ProofKit
import Derived.OpenShut
import Derived.ShutString
import Derived.ChangeOld
import Derived.Below
import Derived.Test.YtjmagcgobhaenaaGreatDoorTie
import Derived.Test.YtjmagcgobhaenaaGreatDoorCards
import Derived.LaidByTextLater
import Derived.LaidHandle
import Derived.Lib.LaidTab
import Derived.SevenTiedAt
namespace Go.Proofs.YtjmagcgobhaenaaGreatDoor.saabasValues
open Go.ChangeShapes Go.WideShapes Go.ChangeAt Go.RowKit
open Go.ChangeMaps (open_string shut_string)
set_option linter.unusedVariables false
set_option linter.unusedSimpArgs false

set_option maxRecDepth 100000 in
set_option maxHeartbeats 16000000 in
theorem walk (F : Int) (ao : Option Addr) (c k : Nat) (N : Nat → Nat) (T : Nat → Nat → Nd) (v2 : Value) (nr : Nat) (r : Nat → Cl) (w : World) (hF : I64 F) (hv : MRaw w (.slice ao k c) k N T 4) (hr : CRaw w v2 nr r 3) (ht : Tab w) :
  Calls Tryz.prog 10 #[.agg #[.int .i64 F,.slice ao k c],v2] w fun e w' => e = .returned (.bool true) ∧ Below w.heap.size w w' := by
 obtain ⟨ar,cr,rfl,hrc,hr63⟩ := hr.open
 have BB : Below w.heap.size w w := Below.refl _ _
 obtain ⟨Wb0,hW0,hS0,hL0,VM⟩ := V2.lay w 24 (.int .i64 F) (.slice ao k c)
 replace ht := ht.below hL0
 have hv1 := hv.below hL0
 have hr1 := hr.below hL0
 replace BB := BB.trans (hL0.mono BB.size)
 clear hL0
 go_enter Tryz.func10,Tryz.ntmps10
 obtain ⟨VM_0,VM_1,VM_2,VM_3⟩ := id VM
 rw [hW0] at VM_0 VM_1 VM_2 VM_3
 go_wp2_with fail
 clear VM_0 VM_1 VM_2 VM_3
 rw [← hW0]
 have hsz : w.heap.size < Wb0.heap.size := VM.lt
 clear hW0 hS0
 refine (small11_at F _ k N T _ nr r _ hv1 hr1).mono ?_
 rintro e w1 ⟨am,cm,au,cu,rfl,MO,CO,b1⟩
 replace ht := ht.below b1
 replace VM := VM.below b1
 replace BB := BB.trans (b1.mono BB.size)
 clear b1 hv1 hr1 hv hr
 obtain ⟨q1,q2,q3,q4⟩ := id VM
 have K1 : KeepQ IsLimb w1 (w1.setCell ⟨w.heap.size,0,none⟩ (.int .i64 F)) := keepL_set q1 (limb_int _) _
 have K2 := keepL_set (cell_set_by (u := .int .i64 F) (j := 0) q2 (by omega)) (limb_slice _ _ _) (.slice am (min (min k 6) 3) cm)
 have MO_n := (MO.set (a := ⟨w.heap.size,0,none⟩) hsz _ K1).set (a := ⟨w.heap.size,1,none⟩) hsz _ K2
 have CO_n := (CO.set (a := ⟨w.heap.size,0,none⟩) hsz _ K1).set (a := ⟨w.heap.size,1,none⟩) hsz _ K2
 have VM_n := VM.same (.int .i64 F) (.slice am (min (min k 6) 3) cm)
 have ht_n := (ht.keepL K1).keepL K2
 have BB_n := below_store2 (R := w.heap.size) BB (Nat.le_refl _) (.int .i64 F) (.slice am (min (min k 6) 3) cm)
 have MR_n := MO_n.row.cut11 (Nat.min_le_left (min k 6) 3)
 have CR_n := CO_n.row.mono (show 3 ≤ 4 by omega)
 have hk3 : min (min k 6) 3 ≤ 3 := Nat.min_le_right _ _
 have HNN : Hid (∀ i,(fun i => min (N i) 15) i ≤ 15) := fun i => Nat.min_le_right _ _
 have hm70 : min nr 70 ≤ 70 := Nat.min_le_right _ _
 clear K1 K2 MO CO MO_n CO_n
 generalize min (min k 6) 3 = k3 at *
 generalize (fun i => min (N i) 15) = NN at *
 generalize min nr 70 = m at *
 obtain ⟨z1,z2,z3,z4⟩ := id VM_n
 go_wp2_with fail
 clear q1 q2 q3 q4 z1 z2 z3 z4 VM ht BB hsz
 generalize (w1.setCell ⟨w.heap.size,0,none⟩ (.int .i64 F)).setCell ⟨w.heap.size,1,none⟩ (.slice am k3 cm) = W3 at *
 have VM := VM_n
 have ht := ht_n
 have BB := BB_n
 have MR := MR_n
 have CR := CR_n
 clear VM_n ht_n BB_n MR_n CR_n
 by_cases h0 : whyI F k3 NN T m = 0
 ·obtain ⟨hB,hmF⟩ := whyI_zero11 h0
  have HB : Hid (whyI (m : Int) k3 NN T m = 0) := by rw [hmF]; exact h0
  subst hmF
  have HBM : Hid (mayB (m : Int) k3 NN T = true) := hB
  have HMF := mayB_may hB
  have HMY : Hid (∀ i,i < k3 → MayT (m : Int) (T i) (NN i)) := HMF.2.2.2
  have hm64 : (m : Int) ≤ 64 := HMF.2.1
  clear hB h0 hF HMF
  have HSZ0 : Hid (∀ i,i < k3 → ∀ j,j < NN i → qsz (T i j).val ≤ 4 ∧ qsz (T i j).cov ≤ 4) := fun i hi => MR.sz11 (by omega) hi
  have HAD : Hid (∀ s ∈ spA T NN r k3,qsz s.add ≤ 151) := spA_sz HMY.out HSZ0.out HNN.out k3 (Nat.le_refl _)
  have HLN : Hid ((spA T NN r k3).length ≤ 21) := Nat.le_trans (spA_few HMY.out HNN.out k3 (Nat.le_refl _)) (by omega)
  have HWS : Hid (∀ i,i < k3 → ∀ x,x < NN i → qsz (ws (T i) (NN i) x) ≤ 150) := fun i hi x hx => ws_sz (C := 10) (HMY.out i hi) (HSZ0.out i hi) (by omega) (by have := HNN.out i; omega) hx
  refine (svalues_yes _ _ k3 m NN T r 4 10 _ MR CR ht (by omega) (by omega) (by omega) HB.out HBM.out (by omega) 151 (by omega) HAD.out (by have := HLN.out; omega)).mono ?_
  rintro e w6 ⟨v1,rfl,hl,b6⟩
  replace ht := ht.below b6
  replace MR := MR.below b6
  replace CR := CR.below b6
  replace VM := VM.below b6
  replace BB := BB.trans (b6.mono BB.size)
  clear b6
  obtain ⟨al,cl,rfl⟩ := hl.open
  obtain ⟨VM_0,VM_1,VM_2,VM_3⟩ := id VM
  go_wp2_with fail
  clear VM_0 VM_1 VM_2 VM_3
  refine (lwhy_at (m : Int) _ _ k3 m NN T r 4 _ MR CR ht (by omega) (by omega)).mono ?_
  rintro e w7 ⟨rfl,b7⟩
  replace ht := ht.below b7
  replace MR := MR.below b7
  replace CR := CR.below b7
  replace hl := hl.below b7
  replace VM := VM.below b7
  replace BB := BB.trans (b7.mono BB.size)
  clear b7
  rw [HB.out]
  obtain ⟨VM_0,VM_1,VM_2,VM_3⟩ := id VM
  go_wp2_with fail
  clear VM_0 VM_1 VM_2 VM_3
  refine (lsteps12_at (m : Int) _ _ k3 m NN T r 4 150 _ MR CR ht (by omega) (by omega) (by omega) (by omega) HMY.out HWS.out).mono ?_
  rintro e w8 ⟨v2,rfl,OS,b8⟩
  replace ht := ht.below b8
  replace MR := MR.below b8
  replace CR := CR.below b8
  replace hl := hl.below b8
  replace VM := VM.below b8
  replace BB := BB.trans (b8.mono BB.size)
  clear b8
  have SR := OS.row
  clear OS
  have HVZ : Hid (∀ q,qsz (valS (spA T NN r k3) q) ≤ 3193) := fun q => valS_sz HAD.out HLN.out q
  obtain ⟨l,hle⟩ : ∃ l,spA T NN r k3 = l := ⟨_,rfl⟩
  rw [hle] at hl SR HAD HLN HVZ
  clear hle
  obtain ⟨as_,cs_,rfl,hsc,hs63⟩ := GRow.open SR
  obtain ⟨len,hlen⟩ : ∃ len,l.length = len := ⟨_,rfl⟩
  have HLE : Hid (l.length = len) := hlen
  rw [hlen] at HLN hsc SR
  have hl21 : len ≤ 21 := HLN.out
  clear hlen HLN
  rw [HLE.out]
  obtain ⟨VM_0,VM_1,VM_2,VM_3⟩ := id VM
  go_wp2
  clear VM_0 VM_1 VM_2 VM_3
  have ht0 : Hid (Tab w8) := ht
  have hl0 : Hid (FRow w8 (.slice al m cl) m (valS l)) := hl
  have SR0 : Hid (SRow12 w8 (.slice as_ len cs_) l) := SR
  clear ht hl SR MR CR VM
  go_loopw [9] (fun vi wr => ∃ i : Nat,i ≤ m ∧ vi = .int .i64 (i : Int) ∧ Below w8.heap.size w8 wr) (fun vi _ => m - (intOf vi).toNat)
  case atStart => exact ⟨0,by omega,rfl,Below.refl _ _⟩
  case round =>
   obtain ⟨i,hi,rfl,BL⟩ := hrel
   by_cases hlt : i < m
   ·have g0 : (0 : Int) ≤ (i : Int) := by omega
    have g1_ : (i : Int) < (m : Int) := by omega
    have wi : IntKind.i64.wrap ((i : Int) + 1) = (i : Int) + 1 := by rw [IntKind.wrap_i64]; omega
    have BB0 : Hid (Below w.heap.size w w8) := BB
    clear BB
    have BB : Below w8.heap.size w8 wr := BL
    go_wp2_with fail
    refine (qzero_at _).mono ?_
    rintro e w21 ⟨v2,rfl,hs,b21⟩
    replace BB := BB.trans (b21.mono BB.size)
    clear b21
    obtain ⟨p2,a2,n2,c2,y2,m2,d2,rfl⟩ := hs.open
    obtain ⟨W9,hW9,hS9,hL9,VS⟩ := V3.lay w21 34 (.bool p2) (.slice a2 n2 c2) (.slice y2 m2 d2)
    have hszz : w8.heap.size ≤ w21.heap.size := BB.size
    replace hs := hs.below hL9
    replace BB := BB.trans (hL9.mono BB.size)
    clear hL9
    obtain ⟨s1,s2,s3,s4,s5,s6⟩ := id VS
    rw [hW9] at s1 s2 s3 s4 s5 s6
    go_wp2
    clear s1 s2 s3 s4 s5 s6
    rw [← hW9]
    generalize w21.heap.size = RS at *
    clear hW9 hS9
    have hs : RepQ W9 (.agg #[.bool p2,.slice a2 n2 c2,.slice y2 m2 d2]) (sumL (adds (l.take 0) i)) := hs
    go_loopw [11] (fun vk w2 => ∃ (j : Nat) (p5 : Bool) (a5 : Option Addr) (n5 c5 : Nat) (y5 : Option Addr) (m5 d5 : Nat),j ≤ len ∧ vk = .int .i64 (j : Int) ∧ V3 w2 RS (.bool p5) (.slice a5 n5 c5) (.slice y5 m5 d5) ∧ RepQ w2 (.agg #[.bool p5,.slice a5 n5 c5,.slice y5 m5 d5]) (sumL (adds (l.take j) i)) ∧ Below w8.heap.size w8 w2) (fun vk _ => len - (intOf vk).toNat)
    case atStart => exact ⟨0,_,_,_,_,_,_,_,by omega,rfl,VS,hs,BB⟩
    case round =>
     clear VS hs BB
     obtain ⟨j,p5,a5,n5,c5,y5,m5,d5,hj,rfl,VS,hs,BB⟩ := hrel
     by_cases hjl : j < len
     ·have f0 : (0 : Int) ≤ (j : Int) := by omega
      have f1 : (j : Int) < (len : Int) := by omega
      have wj : IntKind.i64.wrap ((j : Int) + 1) = (j : Int) + 1 := by rw [IntKind.wrap_i64]; omega
      obtain ⟨s,hs9⟩ : ∃ s,l[j]? = some s := ⟨_,List.getElem?_eq_getElem (by have := HLE.out; omega)⟩
      have HSA : Hid (qsz s.add ≤ 151) := HAD.out s (List.mem_of_getElem? hs9)
      have HTK : Hid (l.take (j + 1) = l.take j ++ [s]) := by
       show l.take (j + 1) = _
       rw [List.take_add_one,hs9]
       rfl
      have HSJ : Hid (qsz (sumL (adds (l.take j) i)) ≤ 3193) := by
       have h9 := valS_sz (l := l.take j) (M := 151) (n := 21) (fun s hs => HAD.out s (List.mem_of_mem_take hs)) (Nat.le_trans (List.length_take_le _ _) (by omega)) i
       exact h9
      obtain ⟨bs,os,cc,p1,a1,n1,c1,b1,m1,d1,hvv,hcc,X0,X1,X2,X3,X4,X5,rs⟩ := (SR0.out.below BB).at hs9
      rw [HLE.out] at hvv
      cases hvv
      have hbR : bs ≠ RS := by
       obtain ⟨b8,o8,c8,_,_,_,_,_,_,_,hv8,_,x8,_⟩ := SR0.out.at hs9
       rw [HLE.out] at hv8
       cases hv8
       have h9 := World.block_lt_of_cell? _ _ x8
       have h8 : bs < w8.heap.size := h9
       omega
      clear hs9 hcc
      have XV : E3 wr bs (os + j * 6 + 3) _ _ _ := ⟨X3,X4,X5⟩
      by_cases hfi : s.feat = i
      ·have HAE : Hid (sumL (adds (l.take (j + 1)) i) = sumL (adds (l.take j) i) + s.add) := by
        show sumL _ = _
        rw [HTK.out,adds_app,sumL_app,← hfi,adds_here]
        show _ + (s.add + 0) = _
        rw [Rat.add_zero]
       have ef : decide ((s.feat : Int) = (i : Int)) = true := decide_eq_true (by omega)
       have ht := ht0.out.below BB
       rw [hfi] at X2
       clear X0 X1 X3 X4 X5
       go_wp2
       clear X2
       refine wp_region_until 7 #[true,true,true,true,true,true,true,false] (fun aF lsd a' w' => ∃ vu0 vu1 vu2 vu3 vu4 vu5 vu6 : Value,a' = ((((((aF.put (some 72) vu0).put (some 73) vu1).put (some 74) vu2).put (some 75) vu3).put (some 76) vu4).put (some 77) vu5).put (some 78) vu6 ∧ Below wr.heap.size wr w' ∧ (lsd.getD 0 false = true → vu0 = .agg #[.bool p5,.slice a5 n5 c5,.slice y5 m5 d5]) ∧ (lsd.getD 1 false = true → vu1 = .slice (some ⟨bs,os,none⟩) len cs_) ∧ (lsd.getD 2 false = true → vu2 = .int .i64 (j : Int)) ∧ (lsd.getD 3 false = true → vu3 = .pointer (some ⟨bs,os + j * 6,none⟩)) ∧ (lsd.getD 4 false = true → vu4 = .pointer (some ⟨bs,os + j * 6 + 3,none⟩)) ∧ (lsd.getD 5 false = true → vu5 = .agg #[.bool p1,.slice a1 n1 c1,.slice b1 m1 d1]) ∧ (lsd.getD 6 false = true → RepQ w' vu6 (sumL (adds (l.take j) i) + s.add))) (by kernel_rfl) (by decide) (by kernel_rfl) (by rfl) (by kernel_rfl) ?_ ?_ ?_
       ·exact ⟨_,_,_,_,_,_,_,by simp only [Act.put,xL4,xL5,xL6]; rfl,(Below.refl _ _).drew,fun h => absurd h (fun h => mark_none h),fun h => absurd h (fun h => mark_none h),fun h => absurd h (fun h => mark_none h),fun h => absurd h (fun h => mark_none h),fun h => absurd h (fun h => mark_none h),fun h => absurd h (fun h => mark_none h),fun h => absurd h (fun h => mark_none h)⟩
       ·rintro lsd au wn iu hszu ⟨vu0,vu1,vu2,vu3,vu4,vu5,vu6,rfl,hbu,fu0,fu1,fu2,fu3,fu4,fu5,fu6⟩ himu hru
        rcases (show iu = 0 ∨ iu = 1 ∨ iu = 2 ∨ iu = 3 ∨ iu = 4 ∨ iu = 5 ∨ iu = 6 by omega) with rfl | rfl | rfl | rfl | rfl | rfl | rfl
        ·refine wpOp_shut (by rfl) (fun K hK => ?_)
         simp only [Act.put,xL4,xL5,xL6]
         obtain ⟨VS_0,VS_1,VS_2,VS_3,VS_4,VS_5⟩ := VS.below hbu
         go_simp
         exact hK.out _ _ ⟨(.agg #[.bool p5,.slice a5 n5 c5,.slice y5 m5 d5]),vu1,vu2,vu3,vu4,vu5,vu6,by simp only [Act.put,xL4,xL5,xL6],hbu,fun _ => rfl,fun h => fu1 (mark_of (by decide) h),fun h => fu2 (mark_of (by decide) h),fun h => fu3 (mark_of (by decide) h),fun h => fu4 (mark_of (by decide) h),fun h => fu5 (mark_of (by decide) h),fun h => fu6 (mark_of (by decide) h)⟩
        ·refine wpOp_shut (by rfl) (fun K hK => ?_)
         simp only [Act.put,xL4,xL5,xL6]
         go_simp
         exact hK.out _ _ ⟨vu0,(.slice (some ⟨bs,os,none⟩) len cs_),vu2,vu3,vu4,vu5,vu6,by simp only [Act.put,xL4,xL5,xL6],hbu,fun h => fu0 (mark_of (by decide) h),fun _ => rfl,fun h => fu2 (mark_of (by decide) h),fun h => fu3 (mark_of (by decide) h),fun h => fu4 (mark_of (by decide) h),fun h => fu5 (mark_of (by decide) h),fun h => fu6 (mark_of (by decide) h)⟩
        ·refine wpOp_shut (by rfl) (fun K hK => ?_)
         simp only [Act.put,xL4,xL5,xL6]
         go_simp
         exact hK.out _ _ ⟨vu0,vu1,(.int .i64 (j : Int)),vu3,vu4,vu5,vu6,by simp only [Act.put,xL4,xL5,xL6],hbu,fun h => fu0 (mark_of (by decide) h),fun h => fu1 (mark_of (by decide) h),fun _ => rfl,fun h => fu3 (mark_of (by decide) h),fun h => fu4 (mark_of (by decide) h),fun h => fu5 (mark_of (by decide) h),fun h => fu6 (mark_of (by decide) h)⟩
        ·have eu1 := fu1 (dep_of 1 hru rfl (by kernel_rfl))
         have eu2 := fu2 (dep_of 2 hru rfl (by kernel_rfl))
         replace eu1 := eu1.symm
         subst eu1
         replace eu2 := eu2.symm
         subst eu2
         refine wpOp_shut (by rfl) (fun K hK => ?_)
         simp only [Act.put,xL4,xL5,xL6]
         go_simp
         exact hK.out _ _ ⟨vu0,(.slice (some ⟨bs,os,none⟩) len cs_),(.int .i64 (j : Int)),(.pointer (some ⟨bs,os + j * 6,none⟩)),vu4,vu5,vu6,by simp only [Act.put,xL4,xL5,xL6],hbu,fun h => fu0 (mark_of (by decide) h),fun _ => rfl,fun _ => rfl,fun _ => rfl,fun h => fu4 (mark_of (by decide) h),fun h => fu5 (mark_of (by decide) h),fun h => fu6 (mark_of (by decide) h)⟩
        ·have eu3 := fu3 (dep_of 3 hru rfl (by kernel_rfl))
         replace eu3 := eu3.symm
         subst eu3
         refine wpOp_shut (by rfl) (fun K hK => ?_)
         simp only [Act.put,xL4,xL5,xL6]
         go_simp
         exact hK.out _ _ ⟨vu0,vu1,vu2,(.pointer (some ⟨bs,os + j * 6,none⟩)),(.pointer (some ⟨bs,os + j * 6 + 3,none⟩)),vu5,vu6,by simp only [Act.put,xL4,xL5,xL6],hbu,fun h => fu0 (mark_of (by decide) h),fun h => fu1 (mark_of (by decide) h),fun h => fu2 (mark_of (by decide) h),fun _ => rfl,fun _ => rfl,fun h => fu5 (mark_of (by decide) h),fun h => fu6 (mark_of (by decide) h)⟩
        ·have eu4 := fu4 (dep_of 4 hru rfl (by kernel_rfl))
         replace eu4 := eu4.symm
         subst eu4
         refine wpOp_shut (by rfl) (fun K hK => ?_)
         simp only [Act.put,xL4,xL5,xL6]
         obtain ⟨XV_0,XV_1,XV_2⟩ := XV.below hbu
         go_simp
         exact hK.out _ _ ⟨vu0,vu1,vu2,vu3,(.pointer (some ⟨bs,os + j * 6 + 3,none⟩)),(.agg #[.bool p1,.slice a1 n1 c1,.slice b1 m1 d1]),vu6,by simp only [Act.put,xL4,xL5,xL6],hbu,fun h => fu0 (mark_of (by decide) h),fun h => fu1 (mark_of (by decide) h),fun h => fu2 (mark_of (by decide) h),fun h => fu3 (mark_of (by decide) h),fun _ => rfl,fun _ => rfl,fun h => fu6 (mark_of (by decide) h)⟩
        ·have eu0 := fu0 (dep_of 0 hru rfl (by kernel_rfl))
         have eu5 := fu5 (dep_of 5 hru rfl (by kernel_rfl))
         replace eu0 := eu0.symm
         subst eu0
         replace eu5 := eu5.symm
         subst eu5
         refine wpOp_shut (by rfl) (fun K hK => ?_)
         simp only [Act.put,xL4,xL5,xL6]
         have hs := hs.below hbu
         have rs := rs.below hbu
         have ht := ht.below hbu
         go_simp
         refine (qadd_at _ _ (sumL (adds (l.take j) i)) s.add 3193 _ (hs.at _ HSJ.out) (rs.at _ (Nat.le_trans HSA.out (by omega))) (by omega) (by omega) ht).mono ?_
         rintro eu wx ⟨v6,rfl,h6,bu⟩
         go_wp2_with fail
         have hbu2 := hbu.trans (bu.mono hbu.size)
         exact hK.out _ _ ⟨(.agg #[.bool p5,.slice a5 n5 c5,.slice y5 m5 d5]),vu1,vu2,vu3,vu4,(.agg #[.bool p1,.slice a1 n1 c1,.slice b1 m1 d1]),_,by simp only [Act.put,xL4,xL5,xL6],hbu2,fun _ => rfl,fun h => fu1 (mark_of (by decide) h),fun h => fu2 (mark_of (by decide) h),fun h => fu3 (mark_of (by decide) h),fun h => fu4 (mark_of (by decide) h),fun _ => rfl,fun _ => h6⟩
       rintro au Wu91 ⟨vu0,vu1,vu2,vu3,vu4,vu5,vu6,rfl,hbu,fu0,fu1,fu2,fu3,fu4,fu5,fu6⟩
       have eu0 := (fu0 rfl).symm
       subst eu0
       have eu1 := (fu1 rfl).symm
       subst eu1
       have eu2 := (fu2 rfl).symm
       subst eu2
       have eu3 := (fu3 rfl).symm
       subst eu3
       have eu4 := (fu4 rfl).symm
       subst eu4
       have eu5 := (fu5 rfl).symm
       subst eu5
       have h6 := fu6 rfl
       clear fu0 fu1 fu2 fu3 fu4 fu5 fu6
       have hlVS : RS < wr.heap.size := VS.lt
       have hlXV : bs < wr.heap.size := XV.lt
       replace hs := hs.below hbu
       replace rs := rs.below hbu
       replace ht := ht.below hbu
       replace VS := VS.below hbu
       replace XV := XV.below hbu
       replace BB := BB.trans (hbu.mono BB.size)
       clear hbu
       obtain ⟨p6,a6,n6,c6,y6,m6,d6,rfl⟩ := h6.open
       rw [← HAE.out] at h6
       simp only [Act.put,xL4,xL5,xL6]
       refine xR [7] (h := ?_)
       refine AllReadyH.cons (by rfl) (fun K hK => ?_) AllReadyH.nil
       have hKp := VS.keepJ (.bool p6) (.slice a6 n6 c6) (.slice y6 m6 d6)
       have XV_n := XV.other3 (R := RS) (by omega) (.bool p6) (.slice a6 n6 c6) (.slice y6 m6 d6)
       have VS_n := VS.same (.bool p6) (.slice a6 n6 c6) (.slice y6 m6 d6)
       have hs_n := hs.keep hKp
       have rs_n := rs.keep hKp
       have ht_n := ht.keep hKp
       have h6_n := h6.keep hKp
       have BB_n := below_store3 (R := RS) BB (by omega) (.bool p6) (.slice a6 n6 c6) (.slice y6 m6 d6)
       clear hKp
       obtain ⟨VS_0,VS_1,VS_2,VS_3,VS_4,VS_5⟩ := id VS
       go_simp
       clear VS_0 VS_1 VS_2 VS_3 VS_4 VS_5
       clear BB hs rs ht h6 VS XV
       generalize ((Wu91.setCell ⟨RS,0,none⟩ (.bool p6)).setCell ⟨RS,1,none⟩ (.slice a6 n6 c6)).setCell ⟨RS,2,none⟩ (.slice y6 m6 d6) = W92 at *
       have BB := BB_n
       have hs := hs_n
       have rs := rs_n
       have ht := ht_n
       have h6 := h6_n
       have VS := VS_n
       have XV := XV_n
       clear BB_n hs_n rs_n ht_n h6_n VS_n XV_n
       refine hK.out _ _ trivial (fun _ => ?_)
       clear hK K
       simp only [Act.put,xL4,xL5,xL6]
       refine wpAnyH_done (by kernel_rfl) ?_ _
       go_wp2
       go_roundw
       case rel => exact ⟨j + 1,_,_,_,_,_,_,_,by omega,by go_num,VS,h6,BB⟩
       case measure => simp [intOf]; omega
      ·have HAE : Hid (sumL (adds (l.take (j + 1)) i) = sumL (adds (l.take j) i)) := by
        show sumL _ = _
        rw [HTK.out,adds_app,adds_other s (fun e => hfi e.symm),List.append_nil]
       rw [← HAE.out] at hs
       have ef : ((s.feat : Int) == (i : Int)) = false := by simpa using (show ¬ (s.feat : Int) = (i : Int) by omega)
       have ef2 : decide ((s.feat : Int) = (i : Int)) = false := decide_eq_false (by omega)
       have ef3 : ¬ (s.feat : Int) = (i : Int) := by omega
       clear X0 X1 X3 X4 X5 rs XV
       go_wp2
       go_roundw
       case rel => exact ⟨j + 1,_,_,_,_,_,_,_,by omega,by go_num,VS,hs,BB⟩
       case measure => simp [intOf]; omega
     ·obtain rfl : j = len := by omega
      have f1 : ¬ (j : Int) < (j : Int) := by omega
      have HVL : Hid (sumL (adds (l.take j) i) = valS l i) := by
       show sumL _ = _
       rw [← HLE.out,List.take_length]
       rfl
      rw [HVL.out] at hs
      obtain ⟨bl,ol,cl_,p4,a4,n4,c4,y4,m4,d4,hv4,hlc4,E4,r4⟩ := (hl0.out.below BB).at i hlt
      cases hv4
      go_wp2
      have hDr : Below wr.heap.size wr wr.drew := (Below.refl _ _).drew
      replace hs := hs.below hDr
      replace r4 := r4.below hDr
      replace VS := VS.below hDr
      replace E4 := E4.below hDr
      replace BB := BB.trans (hDr.mono BB.size)
      clear hDr
      refine wp_region_held_drew (S := (fun w' => w'.cell? ⟨bl,ol + i * 3,none⟩ = some (.bool p4) ∧ w'.cell? ⟨bl,ol + i * 3 + 1,none⟩ = some (.slice a4 n4 c4) ∧ w'.cell? ⟨bl,ol + i * 3 + 2,none⟩ = some (.slice y4 m4 d4) ∧ w'.cell? ⟨RS,0,none⟩ = some (.bool p5) ∧ w'.cell? ⟨RS,1,none⟩ = some (.slice a5 n5 c5) ∧ w'.cell? ⟨RS,2,none⟩ = some (.slice y5 m5 d5))) (by kernel_rfl) ?_ (fun hHeld => ?_)
      ·exact ⟨E4.1,E4.2.1,E4.2.2,VS.1,VS.2.1,VS.2.2.1⟩
      generalize wr.drew = W121 at *
      refine xT 0 (v := ?_) (hy := Or.inl ⟨by rfl,?_⟩) (h := ?_)
      rotate_left
      ·(intro w hSw; (try dsimp only at hSw); go_simp; (try with_reducible rfl))
      (try simp only [Act.put,xL4,xL5,xL6])
      refine xT 1 (v := ?_) (hy := Or.inl ⟨by rfl,?_⟩) (h := ?_)
      rotate_left
      ·(intro w hSw; (try dsimp only at hSw); go_simp; (try with_reducible rfl))
      (try simp only [Act.put,xL4,xL5,xL6])
      refine xT 2 (v := ?_) (hy := Or.inl ⟨by rfl,?_⟩) (h := ?_)
      rotate_left
      ·(intro w hSw; (try dsimp only at hSw); go_simp; (try with_reducible rfl))
      (try simp only [Act.put,xL4,xL5,xL6])
      refine xT 3 (v := ?_) (hy := Or.inl ⟨by rfl,?_⟩) (h := ?_)
      rotate_left
      ·(intro w hSw; (try dsimp only at hSw); go_simp; (try with_reducible rfl))
      (try simp only [Act.put,xL4,xL5,xL6])
      refine xT 4 (v := ?_) (hy := Or.inl ⟨by rfl,?_⟩) (h := ?_)
      rotate_left
      ·(intro w hSw; (try dsimp only at hSw); go_simp; (try with_reducible rfl))
      (try simp only [Act.put,xL4,xL5,xL6])
      refine xR [5] (h := ?_)
      refine xN (h := fun K hK => ?_)
      go_simp
      refine (is10_atB _ _ (valS l i) 3193 3193 _ r4 (HVZ.out i) (hs.at _ (HVZ.out i)) (by omega) (by omega)).mono ?_
      rintro e w61 ⟨rfl,b61⟩
      go_wp2_with fail
      replace hs := hs.below b61
      replace r4 := r4.below b61
      replace VS := VS.below b61
      replace E4 := E4.below b61
      replace BB := BB.trans (b61.mono BB.size)
      clear b61
      refine hK.out _ _ ?_ (fun hH1 => ?_)
      ·exact ⟨E4.1,E4.2.1,E4.2.2,VS.1,VS.2.1,VS.2.2.1⟩
      clear hK K hHeld
      (try simp only [Act.put,xL4,xL5,xL6])
      refine xT 6 (v := ?_) (hy := Or.inl ⟨by rfl,?_⟩) (h := ?_)
      rotate_left
      ·(intro w hSw; (try dsimp only at hSw); go_simp; (try with_reducible rfl))
      (try simp only [Act.put,xL4,xL5,xL6])
      refine wpAnyH_done (by kernel_rfl) ?_ _
      clear hH1
      go_wp2
      go_roundw
      case rel => exact ⟨i + 1,by omega,by go_num,BB⟩
      case measure => simp [intOf]; omega
   ·obtain rfl : i = m := by omega
    have g1_ : ¬ (i : Int) < (i : Int) := by omega
    go_wp2_with fail
    refine (awake12_at _ (ht0.out.below BL)).mono ?_
    rintro e w9 ⟨rfl,b9⟩
    go_wp2
    go_ret
    exact ⟨rfl,(BB.trans (BL.mono BB.size)).trans (b9.mono (by have := BB.size; have := BL.size; omega))⟩
 ·obtain ⟨e1,he1⟩ : ∃ e1,whyI F k3 NN T m = e1 := ⟨_,rfl⟩
  have HE : Hid (whyI F k3 NN T m = e1) := he1
  have HN : Hid (whyI F k3 NN T m ≠ 0) := h0
  rw [he1] at h0
  clear he1
  have g2 : (e1 != 0) = true := by simpa using h0
  have g3 : decide (e1 = 0) = false := decide_eq_false h0
  refine (svalues_no F _ _ k3 m NN T r 4 10 _ MR CR ht (by omega) (by omega) (by omega) HN.out).mono ?_
  rintro e w6 ⟨rfl,b6⟩
  replace ht := ht.below b6
  replace MR := MR.below b6
  replace CR := CR.below b6
  replace VM := VM.below b6
  replace BB := BB.trans (b6.mono BB.size)
  clear b6
  rw [HE.out]
  obtain ⟨VM_0,VM_1,VM_2,VM_3⟩ := id VM
  go_wp2_with fail
  clear VM_0 VM_1 VM_2 VM_3
  refine (lwhy_at F _ _ k3 m NN T r 4 _ MR CR ht (by omega) (by omega)).mono ?_
  rintro e w7 ⟨rfl,b7⟩
  replace ht := ht.below b7
  replace MR := MR.below b7
  replace CR := CR.below b7
  replace VM := VM.below b7
  replace BB := BB.trans (b7.mono BB.size)
  clear b7
  rw [HE.out]
  obtain ⟨VM_0,VM_1,VM_2,VM_3⟩ := id VM
  go_wp2_with fail
  clear VM_0 VM_1 VM_2 VM_3
  refine (awake12_at _ ht).mono ?_
  rintro e w8 ⟨rfl,b8⟩
  replace ht := ht.below b8
  replace MR := MR.below b8
  replace CR := CR.below b8
  replace VM := VM.below b8
  replace BB := BB.trans (b8.mono BB.size)
  clear b8
  go_wp2
  go_ret
  exact ⟨rfl,BB⟩
theorem own : ownKnob Tryz.prog.godebug = none := by kernel_rfl
theorem laidOut : laidOutB Tryz.prog = true := by kernel_rfl

abbrev laid1 : List (String × DataW Unit) := [("math/bits.deBruijn64tab",Rows.laid_math_bits_deBruijn64tab)]
theorem gTab : Tryz.prog.globalNamed "math/bits.deBruijn64tab" = some 0 := by kernel_rfl
theorem gTabType : (Tryz.prog.globals[0]?).map (·.type) = some 213 := by kernel_rfl
theorem uTab : Tryz.prog.underlying 213 = some (.array 64 5) := by kernel_rfl
theorem uCell : Tryz.prog.underlying 5 = some (.int .u8) := by kernel_rfl
theorem cCell : Tryz.prog.cellsOf 5 = 1 := by kernel_rfl
theorem cTab : Tryz.prog.cellsOf 213 = 64 := by kernel_rfl
/-- The listed table lies in its cells. -/
theorem tab_of {W : World} (h : laidMetH Tryz.prog laid1 W) : Tab W := by
 rw [MakeChecks.laidMetH_plain _ _ _ (by kernel_rfl)] at h
 have hd : laid1 = [("math/bits.deBruijn64tab",Lib.tabData .u8 (Lib.deBruijn64tab.map fun (n : Nat) => Int.ofNat n))] := rfl
 rw [hd] at h
 have hT := Lib.tabIs_of_head gTab gTabType uTab uCell cCell cTab h
 intro i hi
 have hc := hT.cell gTab i (by rw [List.length_map]; exact hi)
 rw [hc]
 congr 2
 rw [List.getD_eq_getElem?_getD,List.getElem?_map,List.getD_eq_getElem?_getD]
 cases Lib.deBruijn64tab[i]? <;> rfl
/-- A start for the witness: the heap that the run of the program's own initialisers leaves. -/
noncomputable def startW (os : Os) : World := { World.holding Tryz.prog os ⟨#[],#[],[]⟩ with heap := (varsWorld Tryz.prog 400 (varsId Tryz.prog) os (fun _ _ => 0)).heap }
theorem start_met (os : Os) (args : Array Value) : laidMetH Tryz.prog laid1 ((startW os).forCall (fun _ _ => 0) ⟨#[],args,[]⟩).memory :=
 laidMetH_of_parts3 (fuel := 8) (laidMet_of_run' 8 (by kernel_rfl) (by kernel_rfl)) (by kernel_rfl) (by kernel_rfl)

set_option maxRecDepth 100000 in
theorem lifted (os : Os) (started : os.Started) (H : Type) (enc : TypeId × Value → H) :
  ReturnsInHanded {} Tryz.checked os 10 .any (fun w args => (Rows.saabasValuesSpec.pre enc Tryz.prog Tryz.f10 [] false w args ∧ laidMetH Tryz.prog laid1 w) ∧ sizedMet enc Tryz.prog Tryz.f10 (OpenSpec.ofChange Rows.saabasValuesSpec) false w args) (Rows.saabasValuesSpec.post enc Tryz.prog Tryz.f10 false true false false) := by
 refine returnsInHanded_of_change_and (C := Tryz.checked) (X := fun w _ => laidMetH Tryz.prog laid1 w) (fun _ _ _ hh h => h.of_heap hh) own started (by kernel_rfl) Tryz.func10
  (ChangeSpec.witness_shaped (enc := enc) (C := Tryz.checked) (os := os) (X := fun w _ => laidMetH Tryz.prog laid1 w) false (startW os) #[.agg #[.int .i64 0,.slice none 0 0],.slice none 0 0] 8 rfl (World.shaped_of_RefB (by kernel_rfl) (by kernel_rfl)) (by kernel_rfl) (by kernel_rfl) (by kernel_rfl) (start_met os _)) ?_
 intro W base args ds gs before hval0 hW _ _ hL _
 have hval : ∀ (j : Nat) t v,Tryz.f10.params[j]? = some t → args[j]? = some v → Value.okWide Tryz.prog W .any base t v := hval0
 have hW' := hW
 obtain ⟨p,q,hA0,hV,rfl,hfz,hnd⟩ := hW
 have hA : DataW.TrodAll enc Tryz.prog W 0 (fun _ => true) true Tryz.f10.params.toList args.toList ds p := hA0
 rw [Tryz.params10] at hA hval
 obtain ⟨v0,vs0,d0,ds0,p0,q0,hargs,rfl,rfl,h0,r0⟩ := trodAll_cons hA
 obtain ⟨v1,vs1,d1,ds1,p1,q1,rfl,rfl,rfl,h1,r1⟩ := trodAll_cons r0
 obtain ⟨rfl,rfl,rfl⟩ := trodAll_nil r1
 obtain rfl : args = #[v0,v1] := by cases args; simp_all
 obtain ⟨rfl,rfl⟩ := trodVars_none hV
 have k0 := h0
 have lt0 : ∀ x ∈ p0,x.block < W.heap.size := by obtain ⟨m,hm⟩ := k0; exact DataW.trod_lt m _ _ _ hm
 obtain ⟨F0,a0,c0,n0,N0,z0,rfl,f0,w0⟩ := open_model 4 (hval 0 24 v0 rfl rfl) h0
 have k1 := h1
 have lt1 : ∀ x ∈ p1,x.block < W.heap.size := by obtain ⟨m,hm⟩ := k1; exact DataW.trod_lt m _ _ _ hm
 obtain ⟨n1,z1,w1⟩ := open_cells 3 (hval 1 25 v1 rfl rfl) h1
 clear hA0 hval0
 refine (walk _ _ _ _ _ _ _ _ _ W f0 w0 w1 (tab_of hL)).mono fun e W' ⟨he,bel⟩ => ?_
 subst he
 exact ⟨_,rfl,_,_,_,[],_,[],hW',trodAll_mk1 (shut_bool Tryz.underlying4 _),(trodAll_cons_mk (Below.trod laidOut (by kernel_rfl) (of_decide_eq_true (by kernel_rfl)) k0 bel lt0) (trodAll_cons_mk (Below.trod laidOut (by kernel_rfl) (of_decide_eq_true (by kernel_rfl)) k1 bel lt1) trodAll_mk0)),rfl,bel.frame _,fun h => by cases h⟩

theorem over : Rows.saabasValuesRow.holds Tryz.pinned (OpenSpec.ofChange Rows.saabasValuesSpec) :=
 OpenClaim.holds_of_wide 10 Tryz.f10 rfl rfl rfl rfl rfl rfl rfl ⟨rfl,rfl,rfl,rfl,rfl⟩ rfl rfl rfl rfl rfl (by kernel_rfl) Tryz.func10 (by kernel_rfl)
  (of_decide_eq_true (by kernel_rfl)) (by unfold Func.isWrapper; first | (rw [if_pos (by decide +kernel)]; kernel_rfl) | (rw [if_neg (by decide +kernel)]; exact ⟨rfl,rfl⟩))
  (fun os started H enc _ => lifted os started H enc)

end Go.Proofs.YtjmagcgobhaenaaGreatDoor.saabasValues
namespace Go.Proofs.YtjmagcgobhaenaaGreatDoor
/-- The statement: the row, tied to the text of the program. -/
theorem saabasValues_holds : Rows.SaabasValuesCardSaid :=
 Claim7.holds_tied_plain_at .later [] [.data] true (true,"96e10479682fd2d0092d6d8080c64f56979f34b188a27a43367f1dfae78bc047") false
  saabasValues.over (fun _ h => by cases h) (by kernel_rfl) (fun _ h => by cases h) saabasValues_row_tie rfl ⟨rfl,rfl⟩ (by kernel_rfl) rfl
  (fun f fn hf hfn => by
   obtain rfl : f = 10 := Option.some.inj ((show Tryz.prog.funcNamed "dendron/dendronlaw12.SaabasValues" = some 10 by kernel_rfl).symm.trans hf) |>.symm
   obtain rfl : fn = Tryz.f10 := (Option.some.inj (Tryz.func10.symm.trans hfn)).symm
   exact ⟨by kernel_rfl,fun j t ht => by
    rw [Tryz.params10] at ht
    have hm : t ∈ [24,25] := by simpa using Array.mem_of_getElem? ht
    have hall : ([24,25].all fun u => !Tryz.prog.wantsStandIn u) = true := by kernel_rfl
    exact (show Tryz.prog.wantsStandIn t = false by simpa using List.all_eq_true.1 hall t hm)⟩)
  (by kernel_rfl)
end Go.Proofs.YtjmagcgobhaenaaGreatDoor
