/-
 Proves that all values come to what is predicted,less the base,and that a feature that no split asks for has 0,of any model of up to 3 trees of up to 15 nodes and any row,whatever comes in (the statement SaabasAdds,its tied card); the table of math/bits lies as the program's text lays it; no other condition.
-/
import Derived.Test.YtjmagcgobhaenaaGreatDoorJc66f179fb5
import Derived.Test.YtjmagcgobhaenaaGreatDoorRows
import Derived.Test.YtjmagcgobhaenaaGreatDoorJ1737163f57
import Derived.Test.YtjmagcgobhaenaaGreatDoorJ543c981e4c
import Derived.Test.YtjmagcgobhaenaaGreatDoorJ9de1911563
import Derived.Test.YtjmagcgobhaenaaGreatDoorJ66360d58eb
import Derived.Test.YtjmagcgobhaenaaGreatDoorJ2bfab7a6c1
import Derived.Test.YtjmagcgobhaenaaGreatDoorJ536c50a913
import Derived.WalkKit
import Derived.ProofKit
import Derived.OpenShut
import Derived.ShutString
import Derived.ChangeOld
import Derived.Below
import Derived.Test.YtjmagcgobhaenaaGreatDoorTie
import Derived.Test.YtjmagcgobhaenaaGreatDoorCards
import Derived.LaidByTextLater
import Derived.LaidHandle
import Derived.Lib.LaidTab
import Derived.SevenTiedAt
namespace Go.Proofs.YtjmagcgobhaenaaGreatDoor.saabasAdds
open Go.ChangeShapes Go.WideShapes Go.ChangeAt Go.RowKit
open Go.ChangeMaps (open_string shut_string)
set_option linter.unusedVariables false
set_option linter.unusedSimpArgs false

set_option maxRecDepth 100000 in
set_option maxHeartbeats 16000000 in
theorem walk (F : Int) (ao : Option Addr) (c k : Nat) (N : Nat → Nat) (T : Nat → Nat → Nd) (v2 : Value) (nr : Nat) (r : Nat → Cl) (w : World) (hF : I64 F) (hv : MRaw w (.slice ao k c) k N T 4) (hr : CRaw w v2 nr r 3) (ht : Tab w) :
  Calls Tryz.prog 11 #[.agg #[.int .i64 F,.slice ao k c],v2] w fun e w' => e = .returned (.bool true) ∧ Below w.heap.size w w' := by
 obtain ⟨ar,cr,rfl,hrc,hr63⟩ := hr.open
 have BB : Below w.heap.size w w := Below.refl _ _
 obtain ⟨Wb0,hW0,hS0,hL0,VM⟩ := V2.lay w 24 (.int .i64 F) (.slice ao k c)
 replace ht := ht.below hL0
 have hv1 := hv.below hL0
 have hr1 := hr.below hL0
 replace BB := BB.trans (hL0.mono BB.size)
 clear hL0
 go_enter Tryz.func11,Tryz.ntmps11
 obtain ⟨VM_0,VM_1,VM_2,VM_3⟩ := id VM
 rw [hW0] at VM_0 VM_1 VM_2 VM_3
 go_wp2_with fail
 clear VM_0 VM_1 VM_2 VM_3
 rw [← hW0]
 have hsz : w.heap.size < Wb0.heap.size := VM.lt
 clear hW0 hS0
 refine (small11_at F _ k N T _ nr r _ hv1 hr1).mono ?_
 rintro e w1 ⟨am,cm,au,cu,rfl,MO,CO,b1⟩
 replace ht := ht.below b1
 replace VM := VM.below b1
 replace BB := BB.trans (b1.mono BB.size)
 clear b1 hv1 hr1 hv hr
 obtain ⟨q1,q2,q3,q4⟩ := id VM
 have K1 : KeepQ IsLimb w1 (w1.setCell ⟨w.heap.size,0,none⟩ (.int .i64 F)) := keepL_set q1 (limb_int _) _
 have K2 := keepL_set (cell_set_by (u := .int .i64 F) (j := 0) q2 (by omega)) (limb_slice _ _ _) (.slice am (min (min k 6) 3) cm)
 have MO_n := (MO.set (a := ⟨w.heap.size,0,none⟩) hsz _ K1).set (a := ⟨w.heap.size,1,none⟩) hsz _ K2
 have CO_n := (CO.set (a := ⟨w.heap.size,0,none⟩) hsz _ K1).set (a := ⟨w.heap.size,1,none⟩) hsz _ K2
 have VM_n := VM.same (.int .i64 F) (.slice am (min (min k 6) 3) cm)
 have ht_n := (ht.keepL K1).keepL K2
 have BB_n := below_store2 (R := w.heap.size) BB (Nat.le_refl _) (.int .i64 F) (.slice am (min (min k 6) 3) cm)
 have MR_n := MO_n.row.cut11 (Nat.min_le_left (min k 6) 3)
 have CR_n := CO_n.row.mono (show 3 ≤ 4 by omega)
 have hk3 : min (min k 6) 3 ≤ 3 := Nat.min_le_right _ _
 have HNN : Hid (∀ i,(fun i => min (N i) 15) i ≤ 15) := fun i => Nat.min_le_right _ _
 have hm70 : min nr 70 ≤ 70 := Nat.min_le_right _ _
 clear K1 K2 MO CO MO_n CO_n
 generalize min (min k 6) 3 = k3 at *
 generalize (fun i => min (N i) 15) = NN at *
 generalize min nr 70 = m at *
 obtain ⟨z1,z2,z3,z4⟩ := id VM_n
 go_wp2_with fail
 clear q1 q2 q3 q4 z1 z2 z3 z4 VM ht BB hsz
 generalize (w1.setCell ⟨w.heap.size,0,none⟩ (.int .i64 F)).setCell ⟨w.heap.size,1,none⟩ (.slice am k3 cm) = W3 at *
 have VM := VM_n
 have ht := ht_n
 have BB := BB_n
 have MR := MR_n
 have CR := CR_n
 clear VM_n ht_n BB_n MR_n CR_n
 by_cases h0 : whyI F k3 NN T m = 0
 ·obtain ⟨hB,hmF⟩ := whyI_zero11 h0
  have HB : Hid (whyI (m : Int) k3 NN T m = 0) := by rw [hmF]; exact h0
  subst hmF
  have HBM : Hid (mayB (m : Int) k3 NN T = true) := hB
  have HMF := mayB_may hB
  have HMY : Hid (∀ i,i < k3 → MayT (m : Int) (T i) (NN i)) := HMF.2.2.2
  have hm64 : (m : Int) ≤ 64 := HMF.2.1
  clear hB h0 hF HMF
  have HSZ0 : Hid (∀ i,i < k3 → ∀ j,j < NN i → qsz (T i j).val ≤ 4 ∧ qsz (T i j).cov ≤ 4) := fun i hi => MR.sz11 (by omega) hi
  have HAD : Hid (∀ s ∈ spA T NN r k3,qsz s.add ≤ 151) := spA_sz HMY.out HSZ0.out HNN.out k3 (Nat.le_refl _)
  have HLN : Hid ((spA T NN r k3).length ≤ 21) := Nat.le_trans (spA_few HMY.out HNN.out k3 (Nat.le_refl _)) (by omega)
  have HWS : Hid (∀ i,i < k3 → ∀ x,x < NN i → qsz (ws (T i) (NN i) x) ≤ 150) := fun i hi x hx => ws_sz (C := 10) (HMY.out i hi) (HSZ0.out i hi) (by omega) (by have := HNN.out i; omega) hx
  have HTL : Hid (sumq (valS (spA T NN r k3)) m = sumq (leafV T NN r) k3 - sumq (mean0 T NN) k3) := by
   show sumq _ m = _
   rw [sum_vals m _ (spA_feat HMY.out k3 (Nat.le_refl _)),tele_spA HMY.out k3 (Nat.le_refl _)]
  have HUN : Hid (∀ f,usedB T NN k3 f = false → valS (spA T NN r k3) f = 0) := fun f hf => valS_unasked HMY.out hf
  have HSG : Hid (∀ a n,a + n ≤ m → qsz (sumq (fun i => valS (spA T NN r k3) (a + i)) n) ≤ 3193) := fun a n _ => seg_sz HAD.out HLN.out a n
  have HVZ : Hid (∀ q,q < m → qsz (valS (spA T NN r k3) q) ≤ 3193) := fun q _ => valS_sz HAD.out HLN.out q
  have HSP : Hid (qsz (sumq (leafV T NN r) k3) ≤ 229) := by
   have h1 := qsz_sumq (leafV T NN r) 4 k3 (leafV_sz MR (by omega) HMY.out r)
   show qsz _ ≤ 229
   omega
  have HSB : Hid (qsz (sumq (mean0 T NN) k3) ≤ 229) := by
   have h1 := qsz_sumq (mean0 T NN) 75 k3 (fun i hi => meanN_few (HMY.out i hi) (HSZ0.out i hi) (HNN.out i) (HMY.out i hi).pos)
   show qsz _ ≤ 229
   omega
  refine (svalues_yes _ _ k3 m NN T r 4 10 _ MR CR ht (by omega) (by omega) (by omega) HB.out HBM.out (by omega) 151 (by omega) HAD.out (by have := HLN.out; omega)).mono ?_
  rintro e w6 ⟨v1,rfl,hl,b6⟩
  replace ht := ht.below b6
  replace MR := MR.below b6
  replace CR := CR.below b6
  replace VM := VM.below b6
  replace BB := BB.trans (b6.mono BB.size)
  clear b6
  obtain ⟨al,cl,rfl⟩ := hl.open
  obtain ⟨VM_0,VM_1,VM_2,VM_3⟩ := id VM
  go_wp2_with fail
  clear VM_0 VM_1 VM_2 VM_3
  refine (rpredict_yes (m : Int) _ _ k3 m NN T r 4 _ MR CR ht (by omega) (by omega) HB.out (by omega) HMY.out (by omega)).mono ?_
  rintro e w7 ⟨v2,rfl,hx,b7⟩
  replace ht := ht.below b7
  replace MR := MR.below b7
  replace CR := CR.below b7
  replace hl := hl.below b7
  replace VM := VM.below b7
  replace BB := BB.trans (b7.mono BB.size)
  clear b7
  obtain ⟨p2,a2,n2,c2,y2,m2,d2,rfl⟩ := hx.open
  have hZ31 : w.heap.size ≤ w7.heap.size := BB.size
  have hN31VM : w.heap.size ≠ w7.heap.size := Nat.ne_of_lt VM.lt
  obtain ⟨W31,hW31,hS31,hL31,VX⟩ := V3.lay w7 34 (.bool p2) (.slice a2 n2 c2) (.slice y2 m2 d2)
  replace ht := ht.below hL31
  replace MR := MR.below hL31
  replace CR := CR.below hL31
  replace hl := hl.below hL31
  replace hx := hx.below hL31
  replace VM := VM.below hL31
  replace BB := BB.trans (hL31.mono BB.size)
  clear hL31
  obtain ⟨VX_0,VX_1,VX_2,VX_3,VX_4,VX_5⟩ := id VX
  obtain ⟨VM_0,VM_1,VM_2,VM_3⟩ := id VM
  rw [hW31] at VX_0 VX_1 VX_2 VX_3 VX_4 VX_5 VM_0 VM_1 VM_2 VM_3
  go_wp2_with fail
  clear VX_0 VX_1 VX_2 VX_3 VX_4 VX_5 VM_0 VM_1 VM_2 VM_3
  rw [← hW31]
  generalize w7.heap.size = R31 at *
  clear hW31 hS31
  refine (base_yes (m : Int) _ k3 NN T 4 10 _ MR ht (by omega) (by omega) (by omega) HBM.out (by omega)).mono ?_
  rintro e w8 ⟨v3,rfl,hb,b8⟩
  replace ht := ht.below b8
  replace MR := MR.below b8
  replace CR := CR.below b8
  replace hl := hl.below b8
  replace hx := hx.below b8
  replace VM := VM.below b8
  replace VX := VX.below b8
  replace BB := BB.trans (b8.mono BB.size)
  clear b8
  obtain ⟨p3,a3,n3,c3,y3,m3,d3,rfl⟩ := hb.open
  have hZ32 : w.heap.size ≤ w8.heap.size := BB.size
  have hN32VM : w.heap.size ≠ w8.heap.size := Nat.ne_of_lt VM.lt
  have hN32VX : R31 ≠ w8.heap.size := Nat.ne_of_lt VX.lt
  obtain ⟨W32,hW32,hS32,hL32,VB⟩ := V3.lay w8 34 (.bool p3) (.slice a3 n3 c3) (.slice y3 m3 d3)
  replace ht := ht.below hL32
  replace MR := MR.below hL32
  replace CR := CR.below hL32
  replace hl := hl.below hL32
  replace hx := hx.below hL32
  replace hb := hb.below hL32
  replace VM := VM.below hL32
  replace VX := VX.below hL32
  replace BB := BB.trans (hL32.mono BB.size)
  clear hL32
  obtain ⟨VB_0,VB_1,VB_2,VB_3,VB_4,VB_5⟩ := id VB
  obtain ⟨VX_0,VX_1,VX_2,VX_3,VX_4,VX_5⟩ := id VX
  obtain ⟨VM_0,VM_1,VM_2,VM_3⟩ := id VM
  rw [hW32] at VB_0 VB_1 VB_2 VB_3 VB_4 VB_5 VX_0 VX_1 VX_2 VX_3 VX_4 VX_5 VM_0 VM_1 VM_2 VM_3
  go_wp2_with fail
  clear VB_0 VB_1 VB_2 VB_3 VB_4 VB_5 VX_0 VX_1 VX_2 VX_3 VX_4 VX_5 VM_0 VM_1 VM_2 VM_3
  rw [← hW32]
  generalize w8.heap.size = R32 at *
  clear hW32 hS32
  refine (used_yes _ k3 m NN T 4 _ MR ht (by omega) (by omega) HBM.out).mono ?_
  rintro e w9 ⟨gu,rfl,hgu,BA,b9⟩
  replace ht := ht.below b9
  replace MR := MR.below b9
  replace CR := CR.below b9
  replace hl := hl.below b9
  replace hx := hx.below b9
  replace hb := hb.below b9
  replace VM := VM.below b9
  replace VX := VX.below b9
  replace VB := VB.below b9
  replace BB := BB.trans (b9.mono BB.size)
  clear b9
  clear hgu
  go_wp2
  have ht0 : Hid (Tab w9) := ht
  have hl0 : Hid (FRow w9 (.slice al m cl) m (valS (spA T NN r k3))) := hl
  have BA0 : Hid (BAr w9 gu m (usedB T NN k3)) := BA
  have hx0 : Hid (RepQ w9 (.agg #[.bool p2,.slice a2 n2 c2,.slice y2 m2 d2]) (sumq (leafV T NN r) k3)) := hx
  have hb0 : Hid (RepQ w9 (.agg #[.bool p3,.slice a3 n3 c3,.slice y3 m3 d3]) (sumq (mean0 T NN) k3)) := hb
  have VX0 : Hid (V3 w9 R31 (.bool p2) (.slice a2 n2 c2) (.slice y2 m2 d2)) := VX
  have VB0 : Hid (V3 w9 R32 (.bool p3) (.slice a3 n3 c3) (.slice y3 m3 d3)) := VB
  clear ht hl BA hx hb VX VB MR CR VM
  go_loopw [12] (fun vi wr => ∃ i : Nat,i ≤ m ∧ vi = .int .i64 (i : Int) ∧ Below w9.heap.size w9 wr) (fun vi _ => m - (intOf vi).toNat)
  case atStart => exact ⟨0,by omega,rfl,Below.refl _ _⟩
  case round =>
   obtain ⟨i,hi,rfl,BL⟩ := hrel
   by_cases hlt : i < m
   ·have g0 : (0 : Int) ≤ (i : Int) := by omega
    have g1_ : (i : Int) < (m : Int) := by omega
    have wi : IntKind.i64.wrap ((i : Int) + 1) = (i : Int) + 1 := by rw [IntKind.wrap_i64]; omega
    have cU := (BA0.out.below BL).cell i hlt
    have HUI : Hid (usedB T NN k3 i = false → valS (spA T NN r k3) i = 0) := HUN.out i
    obtain ⟨u,hu⟩ : ∃ u,usedB T NN k3 i = u := ⟨_,rfl⟩
    rw [hu] at cU HUI
    clear hu
    cases u
    ·have HV0 : Hid (valS (spA T NN r k3) i = 0) := HUI.out rfl
     obtain ⟨bl,ol,cl_,p4,a4,n4,c4,y4,m4,d4,hv4,hlc4,E4,r4⟩ := (hl0.out.below BL).at i hlt
     cases hv4
     rw [HV0.out] at r4
     obtain ⟨x0,x1,x2⟩ := E4
     go_wp2_with fail
     refine (qsign_at _ 0 2 _ (r4.at 2 (by decide +kernel)) (by omega) (by omega)).mono ?_
     rintro e w9 ⟨rfl,b9⟩
     have hsg : cmpQ (0 : Rat) 0 = 0 := by decide +kernel
     rw [hsg]
     clear hsg x0 x1 x2 cU
     have BL2 := BL.trans (b9.mono BL.size)
     clear b9 BL
     go_wp2
     go_roundw
     case rel => exact ⟨i + 1,by omega,by go_num,BL2⟩
     case measure => simp [intOf]; omega
    ·go_wp2
     go_roundw
     case rel => exact ⟨i + 1,by omega,by go_num,BL⟩
     case measure => simp [intOf]; omega
   ·obtain rfl : i = m := by omega
    have g1_ : ¬ (i : Int) < (i : Int) := by omega
    have BB0 : Hid (Below w.heap.size w w9) := BB
    clear BB
    have BB : Below w9.heap.size w9 wr := BL
    have VX := VX0.out.below BL
    have VB := VB0.out.below BL
    have hx := hx0.out.below BL
    have hb := hb0.out.below BL
    have hl := hl0.out.below BL
    have ht := ht0.out.below BL
    go_wp2
    have hDr : Below wr.heap.size wr wr.drew := (Below.refl _ _).drew
    replace hx := hx.below hDr
    replace hb := hb.below hDr
    replace hl := hl.below hDr
    replace ht := ht.below hDr
    replace VX := VX.below hDr
    replace VB := VB.below hDr
    replace BB := BB.trans (hDr.mono BB.size)
    clear hDr
    refine wp_region_held_drew (S := (fun w' => w'.cell? ⟨R31,0,none⟩ = some (.bool p2) ∧ w'.cell? ⟨R31,1,none⟩ = some (.slice a2 n2 c2) ∧ w'.cell? ⟨R31,2,none⟩ = some (.slice y2 m2 d2) ∧ w'.cell? ⟨R32,0,none⟩ = some (.bool p3) ∧ w'.cell? ⟨R32,1,none⟩ = some (.slice a3 n3 c3) ∧ w'.cell? ⟨R32,2,none⟩ = some (.slice y3 m3 d3))) (by kernel_rfl) ?_ (fun hHeld => ?_)
    ·exact ⟨VX.1,VX.2.1,VX.2.2.1,VB.1,VB.2.1,VB.2.2.1⟩
    generalize wr.drew = W121 at *
    refine xT 0 (v := ?_) (hy := Or.inl ⟨by rfl,?_⟩) (h := ?_)
    rotate_left
    ·(intro w hSw; (try dsimp only at hSw); go_simp; (try with_reducible rfl))
    (try simp only [Act.put,xL4,xL5,xL6])
    refine xT 2 (v := ?_) (hy := Or.inl ⟨by rfl,?_⟩) (h := ?_)
    rotate_left
    ·(intro w hSw; (try dsimp only at hSw); go_simp; (try with_reducible rfl))
    (try simp only [Act.put,xL4,xL5,xL6])
    refine xT 3 (v := ?_) (hy := Or.inl ⟨by rfl,?_⟩) (h := ?_)
    rotate_left
    ·(intro w hSw; (try dsimp only at hSw); go_simp; (try with_reducible rfl))
    (try simp only [Act.put,xL4,xL5,xL6])
    refine xR [1] (h := ?_)
    refine xN (h := fun K hK => ?_)
    go_simp
    refine (qsum_seg 3193 3193 (by omega) (by omega) (by omega) i _ _ _ (hl.q 3193 HVZ.out) ht HSG.out).mono ?_
    rintro e w61 ⟨v5,rfl,h5,b61⟩
    rw [HTL.out] at h5
    obtain ⟨p5,a5,n5,c5,y5,m5,d5,rfl⟩ := h5.open
    go_wp2_with fail
    replace hx := hx.below b61
    replace hb := hb.below b61
    replace hl := hl.below b61
    replace ht := ht.below b61
    replace VX := VX.below b61
    replace VB := VB.below b61
    replace BB := BB.trans (b61.mono BB.size)
    clear b61
    refine hK.out _ _ ?_ (fun hH1 => ?_)
    ·exact ⟨VX.1,VX.2.1,VX.2.2.1,VB.1,VB.2.1,VB.2.2.1⟩
    clear hK K hHeld
    (try simp only [Act.put,xL4,xL5,xL6])
    refine xR [4] (h := ?_)
    refine xN (h := fun K hK => ?_)
    go_simp
    refine (qsub_at _ _ (sumq (leafV T NN r) k3) (sumq (mean0 T NN) k3) 229 _ (hx.at _ HSP.out) (hb.at _ HSB.out) (by omega) (by omega) ht).mono ?_
    rintro e w62 ⟨v6,rfl,h6,b62⟩
    obtain ⟨p6,a6,n6,c6,y6,m6,d6,rfl⟩ := h6.open
    go_wp2_with fail
    replace hx := hx.below b62
    replace hb := hb.below b62
    replace hl := hl.below b62
    replace ht := ht.below b62
    replace h5 := h5.below b62
    replace VX := VX.below b62
    replace VB := VB.below b62
    replace BB := BB.trans (b62.mono BB.size)
    clear b62
    refine hK.out _ _ ?_ (fun hH2 => ?_)
    ·exact ⟨VX.1,VX.2.1,VX.2.2.1,VB.1,VB.2.1,VB.2.2.1⟩
    clear hK K hH1
    (try simp only [Act.put,xL4,xL5,xL6])
    refine xR [5] (h := ?_)
    refine xN (h := fun K hK => ?_)
    go_simp
    refine (qsame_at _ _ _ _ 459 _ (h5.at _ (qsz_sub _ _ HSP.out HSB.out)) (h6.at _ (qsz_sub _ _ HSP.out HSB.out)) (by omega) (by omega)).mono ?_
    rintro e w63 ⟨rfl,b63⟩
    rw [decide_eq_true rfl]
    go_wp2_with fail
    replace hx := hx.below b63
    replace hb := hb.below b63
    replace hl := hl.below b63
    replace ht := ht.below b63
    replace h5 := h5.below b63
    replace h6 := h6.below b63
    replace VX := VX.below b63
    replace VB := VB.below b63
    replace BB := BB.trans (b63.mono BB.size)
    clear b63
    refine hK.out _ _ ?_ (fun hH3 => ?_)
    ·exact ⟨VX.1,VX.2.1,VX.2.2.1,VB.1,VB.2.1,VB.2.2.1⟩
    clear hK K hH2
    (try simp only [Act.put,xL4,xL5,xL6])
    refine xT 6 (v := ?_) (hy := Or.inl ⟨by rfl,?_⟩) (h := ?_)
    rotate_left
    ·(intro w hSw; (try dsimp only at hSw); go_simp; (try with_reducible rfl))
    (try simp only [Act.put,xL4,xL5,xL6])
    refine xR [7] (h := ?_)
    refine xN (h := fun K hK => ?_)
    go_simp
    refine (awake12_at _ ht).mono ?_
    rintro e w64 ⟨rfl,b64⟩
    go_wp2_with fail
    replace hx := hx.below b64
    replace hb := hb.below b64
    replace hl := hl.below b64
    replace ht := ht.below b64
    replace h5 := h5.below b64
    replace h6 := h6.below b64
    replace VX := VX.below b64
    replace VB := VB.below b64
    replace BB := BB.trans (b64.mono BB.size)
    clear b64
    refine hK.out _ _ ?_ (fun hH4 => ?_)
    ·exact ⟨VX.1,VX.2.1,VX.2.2.1,VB.1,VB.2.1,VB.2.2.1⟩
    clear hK K hH3
    (try simp only [Act.put,xL4,xL5,xL6])
    refine xT 8 (v := ?_) (hy := Or.inl ⟨by rfl,?_⟩) (h := ?_)
    rotate_left
    ·(intro w hSw; (try dsimp only at hSw); go_simp; (try with_reducible rfl))
    (try simp only [Act.put,xL4,xL5,xL6])
    refine xT 9 (v := ?_) (hy := Or.inl ⟨by rfl,?_⟩) (h := ?_)
    rotate_left
    ·(intro w hSw; (try dsimp only at hSw); go_simp; (try with_reducible rfl))
    (try simp only [Act.put,xL4,xL5,xL6])
    refine wpAnyH_done (by kernel_rfl) ?_ _
    clear hH4
    go_wp2
    go_ret
    exact ⟨rfl,BB0.out.trans (BB.mono BB0.out.size)⟩
 ·obtain ⟨e1,he1⟩ : ∃ e1,whyI F k3 NN T m = e1 := ⟨_,rfl⟩
  have HE : Hid (whyI F k3 NN T m = e1) := he1
  have HN : Hid (whyI F k3 NN T m ≠ 0) := h0
  rw [he1] at h0
  clear he1
  have g2 : (e1 != 0) = true := by simpa using h0
  have g3 : decide (e1 = 0) = false := decide_eq_false h0
  refine (svalues_no F _ _ k3 m NN T r 4 10 _ MR CR ht (by omega) (by omega) (by omega) HN.out).mono ?_
  rintro e w6 ⟨rfl,b6⟩
  replace ht := ht.below b6
  replace MR := MR.below b6
  replace CR := CR.below b6
  replace VM := VM.below b6
  replace BB := BB.trans (b6.mono BB.size)
  clear b6
  rw [HE.out]
  obtain ⟨VM_0,VM_1,VM_2,VM_3⟩ := id VM
  go_wp2_with fail
  clear VM_0 VM_1 VM_2 VM_3
  refine (lwhy_at F _ _ k3 m NN T r 4 _ MR CR ht (by omega) (by omega)).mono ?_
  rintro e w7 ⟨rfl,b7⟩
  replace ht := ht.below b7
  replace MR := MR.below b7
  replace CR := CR.below b7
  replace VM := VM.below b7
  replace BB := BB.trans (b7.mono BB.size)
  clear b7
  rw [HE.out]
  go_wp2_with fail
  refine (awake12_at _ ht).mono ?_
  rintro e w8 ⟨rfl,b8⟩
  replace ht := ht.below b8
  replace MR := MR.below b8
  replace CR := CR.below b8
  replace VM := VM.below b8
  replace BB := BB.trans (b8.mono BB.size)
  clear b8
  go_wp2
  go_ret
  exact ⟨rfl,BB⟩
theorem own : ownKnob Tryz.prog.godebug = none := by kernel_rfl
theorem laidOut : laidOutB Tryz.prog = true := by kernel_rfl

abbrev laid1 : List (String × DataW Unit) := [("math/bits.deBruijn64tab",Rows.laid_math_bits_deBruijn64tab)]
theorem gTab : Tryz.prog.globalNamed "math/bits.deBruijn64tab" = some 0 := by kernel_rfl
theorem gTabType : (Tryz.prog.globals[0]?).map (·.type) = some 213 := by kernel_rfl
theorem uTab : Tryz.prog.underlying 213 = some (.array 64 5) := by kernel_rfl
theorem uCell : Tryz.prog.underlying 5 = some (.int .u8) := by kernel_rfl
theorem cCell : Tryz.prog.cellsOf 5 = 1 := by kernel_rfl
theorem cTab : Tryz.prog.cellsOf 213 = 64 := by kernel_rfl
/-- The listed table lies in its cells. -/
theorem tab_of {W : World} (h : laidMetH Tryz.prog laid1 W) : Tab W := by
 rw [MakeChecks.laidMetH_plain _ _ _ (by kernel_rfl)] at h
 have hd : laid1 = [("math/bits.deBruijn64tab",Lib.tabData .u8 (Lib.deBruijn64tab.map fun (n : Nat) => Int.ofNat n))] := rfl
 rw [hd] at h
 have hT := Lib.tabIs_of_head gTab gTabType uTab uCell cCell cTab h
 intro i hi
 have hc := hT.cell gTab i (by rw [List.length_map]; exact hi)
 rw [hc]
 congr 2
 rw [List.getD_eq_getElem?_getD,List.getElem?_map,List.getD_eq_getElem?_getD]
 cases Lib.deBruijn64tab[i]? <;> rfl
/-- A start for the witness: the heap that the run of the program's own initialisers leaves. -/
noncomputable def startW (os : Os) : World := { World.holding Tryz.prog os ⟨#[],#[],[]⟩ with heap := (varsWorld Tryz.prog 400 (varsId Tryz.prog) os (fun _ _ => 0)).heap }
theorem start_met (os : Os) (args : Array Value) : laidMetH Tryz.prog laid1 ((startW os).forCall (fun _ _ => 0) ⟨#[],args,[]⟩).memory :=
 laidMetH_of_parts3 (fuel := 8) (laidMet_of_run' 8 (by kernel_rfl) (by kernel_rfl)) (by kernel_rfl) (by kernel_rfl)

set_option maxRecDepth 100000 in
theorem lifted (os : Os) (started : os.Started) (H : Type) (enc : TypeId × Value → H) :
  ReturnsInHanded {} Tryz.checked os 11 .any (fun w args => (Rows.saabasAddsSpec.pre enc Tryz.prog Tryz.f11 [] false w args ∧ laidMetH Tryz.prog laid1 w) ∧ sizedMet enc Tryz.prog Tryz.f11 (OpenSpec.ofChange Rows.saabasAddsSpec) false w args) (Rows.saabasAddsSpec.post enc Tryz.prog Tryz.f11 false true false false) := by
 refine returnsInHanded_of_change_and (C := Tryz.checked) (X := fun w _ => laidMetH Tryz.prog laid1 w) (fun _ _ _ hh h => h.of_heap hh) own started (by kernel_rfl) Tryz.func11
  (ChangeSpec.witness_shaped (enc := enc) (C := Tryz.checked) (os := os) (X := fun w _ => laidMetH Tryz.prog laid1 w) false (startW os) #[.agg #[.int .i64 0,.slice none 0 0],.slice none 0 0] 8 rfl (World.shaped_of_RefB (by kernel_rfl) (by kernel_rfl)) (by kernel_rfl) (by kernel_rfl) (by kernel_rfl) (start_met os _)) ?_
 intro W base args ds gs before hval0 hW _ _ hL _
 have hval : ∀ (j : Nat) t v,Tryz.f11.params[j]? = some t → args[j]? = some v → Value.okWide Tryz.prog W .any base t v := hval0
 have hW' := hW
 obtain ⟨p,q,hA0,hV,rfl,hfz,hnd⟩ := hW
 have hA : DataW.TrodAll enc Tryz.prog W 0 (fun _ => true) true Tryz.f11.params.toList args.toList ds p := hA0
 rw [Tryz.params11] at hA hval
 obtain ⟨v0,vs0,d0,ds0,p0,q0,hargs,rfl,rfl,h0,r0⟩ := trodAll_cons hA
 obtain ⟨v1,vs1,d1,ds1,p1,q1,rfl,rfl,rfl,h1,r1⟩ := trodAll_cons r0
 obtain ⟨rfl,rfl,rfl⟩ := trodAll_nil r1
 obtain rfl : args = #[v0,v1] := by cases args; simp_all
 obtain ⟨rfl,rfl⟩ := trodVars_none hV
 have k0 := h0
 have lt0 : ∀ x ∈ p0,x.block < W.heap.size := by obtain ⟨m,hm⟩ := k0; exact DataW.trod_lt m _ _ _ hm
 obtain ⟨F0,a0,c0,n0,N0,z0,rfl,f0,w0⟩ := open_model 4 (hval 0 24 v0 rfl rfl) h0
 have k1 := h1
 have lt1 : ∀ x ∈ p1,x.block < W.heap.size := by obtain ⟨m,hm⟩ := k1; exact DataW.trod_lt m _ _ _ hm
 obtain ⟨n1,z1,w1⟩ := open_cells 3 (hval 1 25 v1 rfl rfl) h1
 clear hA0 hval0
 refine (walk _ _ _ _ _ _ _ _ _ W f0 w0 w1 (tab_of hL)).mono fun e W' ⟨he,bel⟩ => ?_
 subst he
 exact ⟨_,rfl,_,_,_,[],_,[],hW',trodAll_mk1 (shut_bool Tryz.underlying4 _),(trodAll_cons_mk (Below.trod laidOut (by kernel_rfl) (of_decide_eq_true (by kernel_rfl)) k0 bel lt0) (trodAll_cons_mk (Below.trod laidOut (by kernel_rfl) (of_decide_eq_true (by kernel_rfl)) k1 bel lt1) trodAll_mk0)),rfl,bel.frame _,fun h => by cases h⟩

theorem over : Rows.saabasAddsRow.holds Tryz.pinned (OpenSpec.ofChange Rows.saabasAddsSpec) :=
 OpenClaim.holds_of_wide 11 Tryz.f11 rfl rfl rfl rfl rfl rfl rfl ⟨rfl,rfl,rfl,rfl,rfl⟩ rfl rfl rfl rfl rfl (by kernel_rfl) Tryz.func11 (by kernel_rfl)
  (of_decide_eq_true (by kernel_rfl)) (by unfold Func.isWrapper; first | (rw [if_pos (by decide +kernel)]; kernel_rfl) | (rw [if_neg (by decide +kernel)]; exact ⟨rfl,rfl⟩))
  (fun os started H enc _ => lifted os started H enc)

end Go.Proofs.YtjmagcgobhaenaaGreatDoor.saabasAdds
namespace Go.Proofs.YtjmagcgobhaenaaGreatDoor
/-- The statement: the row, tied to the text of the program. -/
theorem saabasAdds_holds : Rows.SaabasAddsCardSaid :=
 Claim7.holds_tied_plain_at .later [] [.data] true (true,"96e10479682fd2d0092d6d8080c64f56979f34b188a27a43367f1dfae78bc047") false
  saabasAdds.over (fun _ h => by cases h) (by kernel_rfl) (fun _ h => by cases h) saabasAdds_row_tie rfl ⟨rfl,rfl⟩ (by kernel_rfl) rfl
  (fun f fn hf hfn => by
   obtain rfl : f = 11 := Option.some.inj ((show Tryz.prog.funcNamed "dendron/dendronlaw12.SaabasAdds" = some 11 by kernel_rfl).symm.trans hf) |>.symm
   obtain rfl : fn = Tryz.f11 := (Option.some.inj (Tryz.func11.symm.trans hfn)).symm
   exact ⟨by kernel_rfl,fun j t ht => by
    rw [Tryz.params11] at ht
    have hm : t ∈ [24,25] := by simpa using Array.mem_of_getElem? ht
    have hall : ([24,25].all fun u => !Tryz.prog.wantsStandIn u) = true := by kernel_rfl
    exact (show Tryz.prog.wantsStandIn t = false by simpa using List.all_eq_true.1 hall t hm)⟩)
  (by kernel_rfl)
end Go.Proofs.YtjmagcgobhaenaaGreatDoor
