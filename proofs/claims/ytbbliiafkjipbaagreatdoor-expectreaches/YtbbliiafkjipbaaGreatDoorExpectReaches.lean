/-
 Proves that what is said where any set is known is the sum,over all leaves,of what comes to them times their values,of any model of up to 3 trees of up to 15 nodes and any row,whatever comes in (the statement ExpectReaches,its tied card); the table of math/bits lies as the program's text lays it; no other condition.
-/
import Derived.Test.YtbbliiafkjipbaaGreatDoorJ186c30d767
import Derived.Test.YtbbliiafkjipbaaGreatDoorRows
import Derived.Test.YtbbliiafkjipbaaGreatDoorJc2057018de
import Derived.Test.YtbbliiafkjipbaaGreatDoorJaee94d0563
import Derived.Test.YtbbliiafkjipbaaGreatDoorJ81cd12256c
import Derived.Test.YtbbliiafkjipbaaGreatDoorJ1a0be964cd
import Derived.WalkKit
import Derived.ProofKit
import Derived.OpenShut
import Derived.ShutString
import Derived.ChangeOld
import Derived.Below
import Derived.Test.YtbbliiafkjipbaaGreatDoorTie
import Derived.Test.YtbbliiafkjipbaaGreatDoorCards
import Derived.LaidByTextLater
import Derived.LaidHandle
import Derived.Lib.LaidTab
import Derived.SevenTiedAt
namespace Go.Proofs.YtbbliiafkjipbaaGreatDoor.expectReaches
open Go.ChangeShapes Go.WideShapes Go.ChangeAt Go.RowKit
open Go.ChangeMaps (open_string shut_string)
set_option linter.unusedVariables false
set_option linter.unusedSimpArgs false

theorem whyI_zero11 {F : Int} {k : Nat} {N : Nat → Nat} {T : Nat → Nat → Nd} {nr : Nat} (h : whyI F k N T nr = 0) : mayB F k N T = true ∧ (nr : Int) = F := by
 unfold whyI at h
 by_cases a : mayB F k N T = true
 ·rw [if_pos a] at h
  by_cases b : (nr : Int) = F
  ·exact ⟨a,b⟩
  ·rw [if_neg b] at h; omega
 ·rw [if_neg a] at h; omega

set_option maxRecDepth 100000 in
set_option maxHeartbeats 16000000 in
theorem walk (F : Int) (ao : Option Addr) (c k : Nat) (N : Nat → Nat) (T : Nat → Nat → Nd) (v2 : Value) (nr : Nat) (r : Nat → Cl) (s0 : Int) (w : World) (hF : I64 F) (hv : MRaw w (.slice ao k c) k N T 4) (hr : CRaw w v2 nr r 3) (hs : (Lit.int .u64 s0).wf = true) (ht : Tab w) :
  Calls Tryz.prog 4 #[.agg #[.int .i64 F,.slice ao k c],v2,.int .u64 s0] w fun e w' => e = .returned (.bool true) ∧ Below w.heap.size w w' := by
 obtain ⟨s,rfl,hs64⟩ := u64_wf hs
 clear hs
 obtain ⟨ar,cr,rfl,hrc,hr63⟩ := hr.open
 have BB : Below w.heap.size w w := Below.refl _ _
 obtain ⟨Wb0,hW0,hS0,hL0,VM⟩ := V2.lay w 27 (.int .i64 F) (.slice ao k c)
 replace ht := ht.below hL0
 have hv1 := hv.below hL0
 have hr1 := hr.below hL0
 replace BB := BB.trans (hL0.mono BB.size)
 clear hL0
 go_enter Tryz.func4,Tryz.ntmps4
 obtain ⟨VM_0,VM_1,VM_2,VM_3⟩ := id VM
 rw [hW0] at VM_0 VM_1 VM_2 VM_3
 go_wp2_with fail
 clear VM_0 VM_1 VM_2 VM_3
 rw [← hW0]
 have hsz : w.heap.size < Wb0.heap.size := VM.lt
 clear hW0 hS0
 refine (small11_at F _ k N T _ nr r _ hv1 hr1).mono ?_
 rintro e w1 ⟨am,cm,au,cu,rfl,MO,CO,b1⟩
 replace ht := ht.below b1
 replace VM := VM.below b1
 replace BB := BB.trans (b1.mono BB.size)
 clear b1 hv1 hr1 hv hr
 obtain ⟨q1,q2,q3,q4⟩ := id VM
 have K1 : KeepQ IsLimb w1 (w1.setCell ⟨w.heap.size,0,none⟩ (.int .i64 F)) := keepL_set q1 (limb_int _) _
 have K2 := keepL_set (cell_set_by (u := .int .i64 F) (j := 0) q2 (by omega)) (limb_slice _ _ _) (.slice am (min (min k 6) 3) cm)
 have MO_n := (MO.set (a := ⟨w.heap.size,0,none⟩) hsz _ K1).set (a := ⟨w.heap.size,1,none⟩) hsz _ K2
 have CO_n := (CO.set (a := ⟨w.heap.size,0,none⟩) hsz _ K1).set (a := ⟨w.heap.size,1,none⟩) hsz _ K2
 have VM_n := VM.same (.int .i64 F) (.slice am (min (min k 6) 3) cm)
 have ht_n := (ht.keepL K1).keepL K2
 have BB_n := below_store2 (R := w.heap.size) BB (Nat.le_refl _) (.int .i64 F) (.slice am (min (min k 6) 3) cm)
 have MR_n := MO_n.row.cut11 (Nat.min_le_left (min k 6) 3)
 have CR_n := CO_n.row.mono (show 3 ≤ 4 by omega)
 have hk3 : min (min k 6) 3 ≤ 3 := Nat.min_le_right _ _
 have HNN : Hid (∀ i,(fun i => min (N i) 15) i ≤ 15) := fun i => Nat.min_le_right _ _
 have hm70 : min nr 70 ≤ 70 := Nat.min_le_right _ _
 clear K1 K2 MO CO MO_n CO_n
 generalize min (min k 6) 3 = k3 at *
 generalize (fun i => min (N i) 15) = NN at *
 generalize min nr 70 = m at *
 obtain ⟨z1,z2,z3,z4⟩ := id VM_n
 go_wp2_with fail
 clear q1 q2 q3 q4 z1 z2 z3 z4 VM ht BB hsz
 generalize (w1.setCell ⟨w.heap.size,0,none⟩ (.int .i64 F)).setCell ⟨w.heap.size,1,none⟩ (.slice am k3 cm) = W3 at *
 have VM := VM_n
 have ht := ht_n
 have BB := BB_n
 have MR := MR_n
 have CR := CR_n
 clear VM_n ht_n BB_n MR_n CR_n
 by_cases h0 : whyI F k3 NN T m = 0
 ·obtain ⟨hB,hmF⟩ := whyI_zero11 h0
  have HB : Hid (whyI (m : Int) k3 NN T m = 0) := by rw [hmF]; exact h0
  subst hmF
  have HBM : Hid (mayB (m : Int) k3 NN T = true) := hB
  have HMF := mayB_may hB
  have HMY : Hid (∀ i,i < k3 → MayT (m : Int) (T i) (NN i)) := HMF.2.2.2
  have hm64 : (m : Int) ≤ 64 := HMF.2.1
  clear hB h0 hF HMF
  have HSA : Hid (∀ i,i ≤ k3 → qsz (sumq (sayV T NN r s) i) ≤ 13774) := fun i hi => by
   have h1 := qsz_sumq (sayV T NN r s) 4590 i (fun j hj => say_few MR HMY.out r s j (by omega) 0 (HMY.out j (by omega)).pos)
   have h2 := Nat.mul_le_mul_right (4590 + 1) (Nat.le_trans hi hk3)
   omega
  refine (value_yes (m : Int) _ _ k3 m NN T r s 4 18 _ MR CR ht (by omega) (by omega) (by omega) hs64 HB.out (by omega) hm64 HMY.out).mono ?_
  rintro e w6 ⟨v1,rfl,hx,b6⟩
  replace ht := ht.below b6
  replace MR := MR.below b6
  replace CR := CR.below b6
  replace VM := VM.below b6
  replace BB := BB.trans (b6.mono BB.size)
  clear b6
  obtain ⟨p1,a1,n1,c1,y1,m1,d1,rfl⟩ := hx.open
  have hZ31 : w.heap.size ≤ w6.heap.size := BB.size
  have hN31VM : w.heap.size ≠ w6.heap.size := Nat.ne_of_lt VM.lt
  obtain ⟨W31,hW31,hS31,hL31,VX⟩ := V3.lay w6 42 (.bool p1) (.slice a1 n1 c1) (.slice y1 m1 d1)
  replace ht := ht.below hL31
  replace MR := MR.below hL31
  replace CR := CR.below hL31
  replace hx := hx.below hL31
  replace VM := VM.below hL31
  replace BB := BB.trans (hL31.mono BB.size)
  clear hL31
  obtain ⟨VX_0,VX_1,VX_2,VX_3,VX_4,VX_5⟩ := id VX
  obtain ⟨VM_0,VM_1,VM_2,VM_3⟩ := id VM
  rw [hW31] at VX_0 VX_1 VX_2 VX_3 VX_4 VX_5 VM_0 VM_1 VM_2 VM_3
  go_wp2_with fail
  clear VX_0 VX_1 VX_2 VX_3 VX_4 VX_5 VM_0 VM_1 VM_2 VM_3
  rw [← hW31]
  generalize w6.heap.size = R31 at *
  clear hW31 hS31
  refine (qzero_at _).mono ?_
  rintro e w7 ⟨v2,rfl,hz2,b7⟩
  replace ht := ht.below b7
  replace MR := MR.below b7
  replace CR := CR.below b7
  replace hx := hx.below b7
  replace VM := VM.below b7
  replace VX := VX.below b7
  replace BB := BB.trans (b7.mono BB.size)
  clear b7
  obtain ⟨p2,a2,n2,c2,y2,m2,d2,rfl⟩ := hz2.open
  have HMR : Hid (MRow w7 (.slice am k3 cm) k3 NN T 4) := MR
  have HCR : Hid (CRow w7 (.slice au m cu) m r 4) := CR
  have HTB : Hid (Tab w7) := ht
  have HVX : Hid (V3 w7 R31 (.bool p1) (.slice a1 n1 c1) (.slice y1 m1 d1)) := VX
  have HVM : Hid (V2 w7 w.heap.size (.int .i64 (m : Int)) (.slice am k3 cm)) := VM
  have HX : Hid (RepQ w7 (.agg #[.bool p1,.slice a1 n1 c1,.slice y1 m1 d1]) (sumq (sayV T NN r s) k3)) := hx
  have BX : BwR w7.heap.size w7 w7 := ⟨Below.refl _ _,Nat.le_refl _⟩
  have HWZ : Hid (w.heap.size ≤ w7.heap.size) := BB.size
  clear MR CR ht hx
  have hZ32 : w.heap.size ≤ w7.heap.size := BB.size
  have hN32VM : w.heap.size ≠ w7.heap.size := Nat.ne_of_lt VM.lt
  have hN32VX : R31 ≠ w7.heap.size := Nat.ne_of_lt VX.lt
  obtain ⟨W32,hW32,hS32,hL32,VS⟩ := V3.lay w7 42 (.bool p2) (.slice a2 n2 c2) (.slice y2 m2 d2)
  replace hz2 := hz2.below hL32
  replace BX := BX.below hL32
  replace VM := VM.below hL32
  replace VX := VX.below hL32
  replace BB := BB.trans (hL32.mono BB.size)
  clear hL32
  obtain ⟨VS_0,VS_1,VS_2,VS_3,VS_4,VS_5⟩ := id VS
  obtain ⟨VX_0,VX_1,VX_2,VX_3,VX_4,VX_5⟩ := id VX
  obtain ⟨VM_0,VM_1,VM_2,VM_3⟩ := id VM
  rw [hW32] at VS_0 VS_1 VS_2 VS_3 VS_4 VS_5 VX_0 VX_1 VX_2 VX_3 VX_4 VX_5 VM_0 VM_1 VM_2 VM_3
  go_wp2
  clear VS_0 VS_1 VS_2 VS_3 VS_4 VS_5 VX_0 VX_1 VX_2 VX_3 VX_4 VX_5 VM_0 VM_1 VM_2 VM_3
  rw [← hW32]
  generalize w7.heap.size = R32 at *
  clear hW32 hS32
  have SQ : SmQ W32 R32 (sumq (sayV T NN r s) 0) := ⟨_,_,_,_,_,_,_,VS,hz2⟩
  clear VS VX VM hz2
  go_loopw [10] (fun vi wr => ∃ i : Nat,i ≤ k3 ∧ vi = .int .i64 (i : Int) ∧ SmQ wr R32 (sumq (sayV T NN r s) i) ∧ BwR R32 w7 wr ∧ Below w.heap.size w wr) (fun vi _ => k3 - (intOf vi).toNat)
  case atStart => exact ⟨0,by omega,rfl,SQ,BX,BB⟩
  case round =>
   clear SQ BX BB
   obtain ⟨i,hi,rfl,SQ,BX,BB⟩ := hrel
   have HWR : Hid (w.heap.size ≤ R32) := HWZ.out
   obtain ⟨vm0,vm1,vm2,vm3⟩ := HVM.out.below BX.out
   clear vm0 vm2 vm3
   by_cases hlt : i < k3
   ·have g0 : (0 : Int) ≤ (i : Int) := by omega
    have g1 : (i : Int) < (k3 : Int) := by omega
    have wi : IntKind.i64.wrap ((i : Int) + 1) = (i : Int) + 1 := by rw [IntKind.wrap_i64]; omega
    obtain ⟨b,off,cc,a,d,hvv,hcc,XC0,TR0⟩ := HMR.out.at hlt
    cases hvv
    have XC := (BX.out.cell (p := ⟨b,off + i,none⟩) (World.block_lt_of_cell? _ _ XC0)).trans XC0
    have HTR : Hid (TRow w7 (.slice a (NN i) d) (NN i) (T i) 4) := TR0
    have HSZ : Hid (∀ j,j < NN i → qsz (T i j).val ≤ 4 ∧ qsz (T i j).cov ≤ 4) := fun j hj => TR0.sz11 (by omega) hj
    have HMI : Hid (MayT (m : Int) (T i) (NN i)) := HMY.out i hlt
    have hN15 := HNN.out i
    clear TR0 XC0
    go_wp2_with fail
    clear XC vm1
    refine (legs_yes _ _ (NN i) m (T i) r 4 _ (HTR.out.below BX.out) (HCR.out.below BX.out) (HTB.out.below BX.out) (by omega) (by omega) 8 128 (fun x z hx hz => qsz_div _ _ (HSZ.out x hx).2 (HSZ.out z hz).2) (by omega) (by omega) (by omega) (by omega) (mayB_tree HBM.out hlt)).mono ?_
    rintro e w5 ⟨g,mm,rfl,hgB,hmm,LI,b5⟩
    obtain ⟨B5,hB5⟩ : ∃ B5,B5 = wr.heap.size := ⟨_,rfl⟩
    rw [← hB5] at LI
    have hRB : R32 < wr.heap.size := by obtain ⟨p,a,n,c,b,m,d,h1,_⟩ := SQ; exact h1.lt
    replace SQ := SQ.below b5
    replace BX := BX.below b5
    replace BB := BB.trans (b5.mono BB.size)
    clear b5
    rw [← hB5] at hgB hRB
    have HGB : Hid (B5 ≤ g ∧ R32 < B5) := ⟨hgB,hRB⟩
    clear hB5
    obtain ⟨ys,hys⟩ : ∃ ys,lvs (T i) (NN i) 0 = ys := ⟨_,rfl⟩
    have HYS : Hid (lvs (T i) (NN i) 0 = ys) := hys
    have HYM : Hid (ys.length = mm ∧ mm ≤ 8) := by
     have h1 := HMI.out.count HMI.out.pos
     have h2 := HMI.out.pre_few HMI.out.pos
     rw [hys] at h1 hmm
     exact ⟨hmm.symm,by omega⟩
    have HYI : Hid (∀ x ∈ ys,x < NN i) := by
     rw [← hys]
     exact fun y hy => ((HMI.out.pre_sub HMI.out.pos) y ((List.mem_filter.1 hy).1)).1
    rw [hys] at LI
    have HFW : Hid (∀ y ∈ ys,(pl (T i) (NN i) r y).length ≤ 16 ∧ (∀ p ∈ pl (T i) (NN i) r y,p.feat < 64 ∧ qsz p.sh ≤ 120) ∧ qsz (rch s (pl (T i) (NN i) r y)) ≤ 1937 ∧ qsz (rch s (pl (T i) (NN i) r y) * (T i y).val) ≤ 1941) := fun y hy => leg_few HMI.out hm64 hN15 HSZ.out r s (HYI.out y hy)
    have HLS : Hid (∀ j,j ≤ mm → qsz (legS (T i) (NN i) r s (ys.take j)) ≤ 15537) := fun j hj => by
     have h1 := legS_sz (r := r) (s := s) (M := 1941) (ys.take j) (fun y hy => (HFW.out y (List.mem_of_mem_take hy)).2.2.2)
     have h2 : (ys.take j).length * (1941 + 1) ≤ 8 * 1942 := Nat.mul_le_mul_right 1942 (by have := List.length_take_le j ys; have := HYM.out; omega)
     omega
    have SQ0 : SmQ w5 R32 (sumq (sayV T NN r s) i + legS (T i) (NN i) r s (ys.take 0)) := by
     show SmQ w5 R32 (_ + 0)
     rw [Rat.add_zero]
     exact SQ
    clear SQ hys hmm hgB hRB
    go_wp2
    go_loopw [13] (fun vj wq => ∃ j : Nat,j ≤ mm ∧ vj = .int .i64 (j : Int) ∧ SmQ wq R32 (sumq (sayV T NN r s) i + legS (T i) (NN i) r s (ys.take j)) ∧ LegI wq B5 g mm mm ys (fun y => (T i y).val) (fun y => (pl (T i) (NN i) r y).map Pt.z) ∧ BwR R32 w7 wq ∧ Below w.heap.size w wq) (fun vj _ => mm - (intOf vj).toNat)
    case atStart => exact ⟨0,by omega,rfl,SQ0,LI,BX,BB⟩
    case round =>
     clear SQ0 LI BX BB
     obtain ⟨j,hj,rfl,SQ,LI,BX,BB⟩ := hrel
     by_cases hlj : j < mm
     ·have hm8 := HYM.out.2
      have j0 : (0 : Int) ≤ (j : Int) := by omega
      have j1 : (j : Int) < (mm : Int) := by omega
      have wj : IntKind.i64.wrap ((j : Int) + 1) = (j : Int) + 1 := by rw [IntKind.wrap_i64]; omega
      obtain ⟨y,hy⟩ : ∃ y,ys[j]? = some y := ⟨_,List.getElem?_eq_getElem (by have := HYM.out; omega)⟩
      have HYJ : Hid (legS (T i) (NN i) r s (ys.take (j + 1)) = legS (T i) (NN i) r s (ys.take j) + rch s (pl (T i) (NN i) r y) * (T i y).val) := legS_take hy
      have HF1 := HFW.out y (List.mem_of_getElem? hy)
      have HFY : Hid ((pl (T i) (NN i) r y).length ≤ 16 ∧ (∀ p ∈ pl (T i) (NN i) r y,p.feat < 64 ∧ qsz p.sh ≤ 120) ∧ qsz (rch s (pl (T i) (NN i) r y)) ≤ 1937 ∧ qsz (rch s (pl (T i) (NN i) r y) * (T i y).val) ≤ 1941) := HF1
      have HVS : Hid (qsz (T i y).val ≤ 4) := (HSZ.out y (HYI.out y (List.mem_of_getElem? hy))).1
      clear HF1
      obtain ⟨p5,a5,n5,c5,q5,m5,d5,u5,L0,L1,L2,L3,L4,hv5,hp5⟩ := LI.at hlj hy
      obtain ⟨av5,cv5,rfl,_,_⟩ := GRow.open hp5
      obtain ⟨k5,hk5⟩ : ∃ k5,((pl (T i) (NN i) r y).map Pt.z).length = k5 := ⟨_,rfl⟩
      rw [hk5] at L4 hp5
      clear hk5 hy
      have HPR : Hid (PRr wr (.slice av5 k5 cv5) ((pl (T i) (NN i) r y).map Pt.z)) := hp5
      have HV5 : Hid (RepQ wr (.agg #[.bool p5,.slice a5 n5 c5,.slice q5 m5 d5]) (T i y).val) := hv5
      have HLC : Hid (wr.cell? ⟨g,j * 5,none⟩ = some (.int .i64 (y : Int)) ∧ wr.cell? ⟨g,j * 5 + 1,none⟩ = some (.bool p5) ∧ wr.cell? ⟨g,j * 5 + 2,none⟩ = some (.slice a5 n5 c5) ∧ wr.cell? ⟨g,j * 5 + 3,none⟩ = some (.slice q5 m5 d5) ∧ wr.cell? ⟨g,j * 5 + 4,none⟩ = some (.slice av5 k5 cv5)) := ⟨L0,L1,L2,L3,L4⟩
      clear L0 L1 L2 L3 L4 hp5 hv5
      obtain ⟨p6,a6,n6,c6,q6,m6,d6,VS,hs6⟩ := SQ
      have BW : BwR wr.heap.size wr wr := ⟨Below.refl _ _,Nat.le_refl _⟩
      have HGL : Hid (g < wr.heap.size) := World.block_lt_of_cell? _ _ HLC.out.1
      go_wp2_with fail
      have HLL : Hid (((pl (T i) (NN i) r y).map Pt.z).length ≤ 16) := by show _ ≤ _; rw [List.length_map]; exact HFY.out.1
      have HRZ : Hid (rchZ s ((pl (T i) (NN i) r y).map Pt.z) = rch s (pl (T i) (NN i) r y)) := rchZ_pt s (fun p hp => (HFY.out.2.1 p hp).1)
      have HSU : Hid (qsz (sumq (sayV T NN r s) i + legS (T i) (NN i) r s (ys.take j)) ≤ 29312) := qsz_add _ _ (HSA.out i (by omega)) (HLS.out j (by omega))
      have PQ := HPR.out
      have V5 := HV5.out
      have Q0 : CelG wr g (j * 5) (.int .i64 (y : Int)) := HLC.out.1
      have Q1 : CelG wr g (j * 5 + 1) (.bool p5) := HLC.out.2.1
      have Q2 : CelG wr g (j * 5 + 2) (.slice a5 n5 c5) := HLC.out.2.2.1
      have Q3 : CelG wr g (j * 5 + 3) (.slice q5 m5 d5) := HLC.out.2.2.2.1
      have Q4 : CelG wr g (j * 5 + 4) (.slice av5 k5 cv5) := HLC.out.2.2.2.2
      clear HLC BW HPR HV5
      have hDr : Below wr.heap.size wr wr.drew := (Below.refl _ _).drew
      replace LI := LI.below hDr
      replace BX := BX.below hDr
      replace hs6 := hs6.below hDr
      replace PQ := PQ.below hDr
      replace V5 := V5.below hDr
      replace Q0 := Q0.below hDr
      replace Q1 := Q1.below hDr
      replace Q2 := Q2.below hDr
      replace Q3 := Q3.below hDr
      replace Q4 := Q4.below hDr
      replace VS := VS.below hDr
      replace BB := BB.trans (hDr.mono BB.size)
      clear hDr
      refine wp_region_held_drew (S := (fun w' => w'.cell? ⟨g,j * 5,none⟩ = some (.int .i64 (y : Int)) ∧ w'.cell? ⟨g,j * 5 + 1,none⟩ = some (.bool p5) ∧ w'.cell? ⟨g,j * 5 + 2,none⟩ = some (.slice a5 n5 c5) ∧ w'.cell? ⟨g,j * 5 + 3,none⟩ = some (.slice q5 m5 d5) ∧ w'.cell? ⟨g,j * 5 + 4,none⟩ = some (.slice av5 k5 cv5) ∧ w'.cell? ⟨g,j * 5 + 1 + 1,none⟩ = some (.slice a5 n5 c5) ∧ w'.cell? ⟨g,j * 5 + 1 + 2,none⟩ = some (.slice q5 m5 d5))) (by kernel_rfl) ?_ (fun hHeld => ?_)
      ·exact ⟨Q0,Q1,Q2,Q3,Q4,Q2,Q3⟩
      generalize wr.drew = W61 at *
      refine xT 1 (v := ?_) (hy := Or.inl ⟨by rfl,?_⟩) (h := ?_)
      rotate_left
      ·(intro w hSw; (try dsimp only at hSw); go_simp; (try with_reducible rfl))
      (try simp only [Act.put,xL4,xL5,xL6])
      refine xT 2 (v := ?_) (hy := Or.inl ⟨by rfl,?_⟩) (h := ?_)
      rotate_left
      ·(intro w hSw; (try dsimp only at hSw); go_simp; (try with_reducible rfl))
      (try simp only [Act.put,xL4,xL5,xL6])
      refine xT 3 (v := ?_) (hy := Or.inl ⟨by rfl,?_⟩) (h := ?_)
      rotate_left
      ·(intro w hSw; (try dsimp only at hSw); go_simp; (try with_reducible rfl))
      (try simp only [Act.put,xL4,xL5,xL6])
      refine xT 4 (v := ?_) (hy := Or.inl ⟨by rfl,?_⟩) (h := ?_)
      rotate_left
      ·(intro w hSw; (try dsimp only at hSw); go_simp; (try with_reducible rfl))
      (try simp only [Act.put,xL4,xL5,xL6])
      refine xT 5 (v := ?_) (hy := Or.inl ⟨by rfl,?_⟩) (h := ?_)
      rotate_left
      ·(intro w hSw; (try dsimp only at hSw); go_simp; (try with_reducible rfl))
      (try simp only [Act.put,xL4,xL5,xL6])
      refine xT 7 (v := ?_) (hy := Or.inl ⟨by rfl,?_⟩) (h := ?_)
      rotate_left
      ·(intro w hSw; (try dsimp only at hSw); go_simp; (try with_reducible rfl))
      (try simp only [Act.put,xL4,xL5,xL6])
      refine xT 8 (v := ?_) (hy := Or.inl ⟨by rfl,?_⟩) (h := ?_)
      rotate_left
      ·(intro w hSw; (try dsimp only at hSw); go_simp; (try with_reducible rfl))
      (try simp only [Act.put,xL4,xL5,xL6])
      refine xT 9 (v := ?_) (hy := Or.inl ⟨by rfl,?_⟩) (h := ?_)
      rotate_left
      ·(intro w hSw; (try dsimp only at hSw); go_simp; (try with_reducible rfl))
      (try simp only [Act.put,xL4,xL5,xL6])
      refine xT 10 (v := ?_) (hy := Or.inl ⟨by rfl,?_⟩) (h := ?_)
      rotate_left
      ·(intro w hSw; (try dsimp only at hSw); go_simp; (try with_reducible rfl))
      (try simp only [Act.put,xL4,xL5,xL6])
      refine xT 11 (v := ?_) (hy := Or.inl ⟨by rfl,?_⟩) (h := ?_)
      rotate_left
      ·(intro w hSw; (try dsimp only at hSw); go_simp; (try with_reducible rfl))
      (try simp only [Act.put,xL4,xL5,xL6])
      refine xR [0,6] (h := ?_)
      refine xC (h := fun K hK => ?_) (hs := ?_)
      ·
       obtain ⟨VS_0,VS_1,VS_2,VS_3,VS_4,VS_5⟩ := id VS
       go_simp
       clear VS_0 VS_1 VS_2 VS_3 VS_4 VS_5
       refine hK.out _ _ ?_ (fun hH1 => ?_)
       ·exact ⟨Q0,Q1,Q2,Q3,Q4,Q2,Q3⟩
       clear hK K hHeld
       (try simp only [Act.put,xL4,xL5,xL6])
       refine xR [6] (h := ?_)
       refine xN (h := fun K hK => ?_)
       go_simp
       refine (reach_at _ ((pl (T i) (NN i) r y).map Pt.z) (y : Int) p5 a5 q5 n5 c5 m5 d5 s 120 _ (PQ.at (fun d hd => by obtain ⟨p,hp,rfl⟩ := List.mem_map.1 hd; exact (HFY.out.2.1 p hp).2)) hs64 (HTB.out.below BX.out) (by omega) (by omega) (by have := HLL.out; omega) (by have := HLL.out; omega)).mono ?_
       rintro e w21 ⟨v7,rfl,h7,b21⟩
       rw [HRZ.out] at h7
       obtain ⟨p7,a7,n7,c7,q7,m7,d7,rfl⟩ := h7.open
       go_wp2_with fail
       replace LI := LI.below b21
       replace BX := BX.below b21
       replace hs6 := hs6.below b21
       replace PQ := PQ.below b21
       replace V5 := V5.below b21
       replace Q0 := Q0.below b21
       replace Q1 := Q1.below b21
       replace Q2 := Q2.below b21
       replace Q3 := Q3.below b21
       replace Q4 := Q4.below b21
       replace VS := VS.below b21
       replace BB := BB.trans (b21.mono BB.size)
       clear b21
       refine hK.out _ _ ?_ (fun hH2 => ?_)
       ·exact ⟨Q0,Q1,Q2,Q3,Q4,Q2,Q3⟩
       clear hK K hH1
       (try simp only [Act.put,xL4,xL5,xL6])
       refine xR [12] (h := ?_)
       refine xN (h := fun K hK => ?_)
       go_simp
       refine (qmul_at _ _ (rch s (pl (T i) (NN i) r y)) (T i y).val 2000 _ (h7.at 2000 (by have := HFY.out.2.2.1; omega)) (V5.at 2000 (by have := HVS.out; omega)) (by omega) (by omega) (HTB.out.below BX.out)).mono ?_
       rintro e w22 ⟨v8,rfl,h8,b22⟩
       obtain ⟨p8,a8,n8,c8,q8,m8,d8,rfl⟩ := h8.open
       go_wp2_with fail
       replace LI := LI.below b22
       replace BX := BX.below b22
       replace hs6 := hs6.below b22
       replace PQ := PQ.below b22
       replace V5 := V5.below b22
       replace Q0 := Q0.below b22
       replace Q1 := Q1.below b22
       replace Q2 := Q2.below b22
       replace Q3 := Q3.below b22
       replace Q4 := Q4.below b22
       replace h7 := h7.below b22
       replace VS := VS.below b22
       replace BB := BB.trans (b22.mono BB.size)
       clear b22
       refine hK.out _ _ ?_ (fun hH3 => ?_)
       ·exact ⟨Q0,Q1,Q2,Q3,Q4,Q2,Q3⟩
       clear hK K hH2
       (try simp only [Act.put,xL4,xL5,xL6])
       refine xR [13] (h := ?_)
       refine xN (h := fun K hK => ?_)
       go_simp
       refine (qadd_at _ _ _ _ 40000 _ (hs6.at 40000 (by have := HSU.out; omega)) (h8.at 40000 (by have := HFY.out.2.2.2; omega)) (by omega) (by omega) (HTB.out.below BX.out)).mono ?_
       rintro e w23 ⟨v9,rfl,h9,b23⟩
       obtain ⟨p9,a9,n9,c9,q9,m9,d9,rfl⟩ := h9.open
       go_wp2_with fail
       replace LI := LI.below b23
       replace BX := BX.below b23
       replace hs6 := hs6.below b23
       replace PQ := PQ.below b23
       replace V5 := V5.below b23
       replace Q0 := Q0.below b23
       replace Q1 := Q1.below b23
       replace Q2 := Q2.below b23
       replace Q3 := Q3.below b23
       replace Q4 := Q4.below b23
       replace h7 := h7.below b23
       replace h8 := h8.below b23
       replace VS := VS.below b23
       replace BB := BB.trans (b23.mono BB.size)
       clear b23
       refine hK.out _ _ ?_ (fun hH4 => ?_)
       ·exact ⟨Q0,Q1,Q2,Q3,Q4,Q2,Q3⟩
       clear hK K hH3
       (try simp only [Act.put,xL4,xL5,xL6])
       refine xR [14] (h := ?_)
       refine xN (h := fun K hK => ?_)
       have hKp := VS.keepJ (.bool p9) (.slice a9 n9 c9) (.slice q9 m9 d9)
       have SQ_n : SmQ (((w23.setCell ⟨R32,0,none⟩ (.bool p9)).setCell ⟨R32,1,none⟩ (.slice a9 n9 c9)).setCell ⟨R32,2,none⟩ (.slice q9 m9 d9)) R32 (sumq (sayV T NN r s) i + legS (T i) (NN i) r s (ys.take (j + 1))) := ⟨_,_,_,_,_,_,_,VS.same (.bool p9) (.slice a9 n9 c9) (.slice q9 m9 d9),by rw [HYJ.out,← Rat.add_assoc]; exact h9.keep hKp⟩
       have LI_n := LI.put3 HGB.out.1 HGB.out.2 VS (.bool p9) (.slice a9 n9 c9) (.slice q9 m9 d9)
       have BX_n := BX.put (.bool p9) (.slice a9 n9 c9) (.slice q9 m9 d9)
       have BB_n := below_store3 (R := R32) BB HWR.out (.bool p9) (.slice a9 n9 c9) (.slice q9 m9 d9)
       have hgr : g ≠ R32 := by have := HGB.out; omega
       have Q0_n := celg_put3 (x := .bool p9) (y := .slice a9 n9 c9) (z := .slice q9 m9 d9) Q0 hgr
       have Q1_n := celg_put3 (x := .bool p9) (y := .slice a9 n9 c9) (z := .slice q9 m9 d9) Q1 hgr
       have Q2_n := celg_put3 (x := .bool p9) (y := .slice a9 n9 c9) (z := .slice q9 m9 d9) Q2 hgr
       have Q3_n := celg_put3 (x := .bool p9) (y := .slice a9 n9 c9) (z := .slice q9 m9 d9) Q3 hgr
       have Q4_n := celg_put3 (x := .bool p9) (y := .slice a9 n9 c9) (z := .slice q9 m9 d9) Q4 hgr
       obtain ⟨x0,x1,x2,x3,x4,x5⟩ := id VS
       go_simp
       clear x0 x1 x2 x3 x4 x5 hKp hgr VS LI BX BB hs6 PQ V5 Q0 Q1 Q2 Q3 Q4 h7 h8 h9
       generalize (((w23.setCell ⟨R32,0,none⟩ (.bool p9)).setCell ⟨R32,1,none⟩ (.slice a9 n9 c9)).setCell ⟨R32,2,none⟩ (.slice q9 m9 d9)) = W9 at *
       have SQ := SQ_n
       have LI := LI_n
       have BX := BX_n
       have BB := BB_n
       have Q0 := Q0_n
       have Q1 := Q1_n
       have Q2 := Q2_n
       have Q3 := Q3_n
       have Q4 := Q4_n
       clear SQ_n LI_n BX_n BB_n Q0_n Q1_n Q2_n Q3_n Q4_n
       refine hK.out _ _ ?_ (fun hH5 => ?_)
       ·exact ⟨Q0,Q1,Q2,Q3,Q4,Q2,Q3⟩
       clear hK K hH4
       (try simp only [Act.put,xL4,xL5,xL6])
       refine wpAnyH_done (by kernel_rfl) ?_ _
       clear hH5
       clear Q0 Q1 Q2 Q3 Q4
       go_wp2
       go_roundw
       case rel => exact ⟨j + 1,by omega,by go_num,SQ,LI,BX,BB⟩
       case measure => simp [intOf]; omega
      refine xC (h := fun K hK => ?_) (hs := ?_)
      ·
       go_simp
       refine (reach_at _ ((pl (T i) (NN i) r y).map Pt.z) (y : Int) p5 a5 q5 n5 c5 m5 d5 s 120 _ (PQ.at (fun d hd => by obtain ⟨p,hp,rfl⟩ := List.mem_map.1 hd; exact (HFY.out.2.1 p hp).2)) hs64 (HTB.out.below BX.out) (by omega) (by omega) (by have := HLL.out; omega) (by have := HLL.out; omega)).mono ?_
       rintro e w24 ⟨v7,rfl,h7,b24⟩
       rw [HRZ.out] at h7
       obtain ⟨p7,a7,n7,c7,q7,m7,d7,rfl⟩ := h7.open
       go_wp2_with fail
       replace LI := LI.below b24
       replace BX := BX.below b24
       replace hs6 := hs6.below b24
       replace PQ := PQ.below b24
       replace V5 := V5.below b24
       replace Q0 := Q0.below b24
       replace Q1 := Q1.below b24
       replace Q2 := Q2.below b24
       replace Q3 := Q3.below b24
       replace Q4 := Q4.below b24
       replace VS := VS.below b24
       replace BB := BB.trans (b24.mono BB.size)
       clear b24
       refine hK.out _ _ ?_ (fun hH1 => ?_)
       ·exact ⟨Q0,Q1,Q2,Q3,Q4,Q2,Q3⟩
       clear hK K hHeld
       (try simp only [Act.put,xL4,xL5,xL6])
       refine xR [0,12] (h := ?_)
       refine xC (h := fun K hK => ?_) (hs := ?_)
       ·
        obtain ⟨VS_0,VS_1,VS_2,VS_3,VS_4,VS_5⟩ := id VS
        go_simp
        clear VS_0 VS_1 VS_2 VS_3 VS_4 VS_5
        refine hK.out _ _ ?_ (fun hH2 => ?_)
        ·exact ⟨Q0,Q1,Q2,Q3,Q4,Q2,Q3⟩
        clear hK K hH1
        (try simp only [Act.put,xL4,xL5,xL6])
        refine xR [12] (h := ?_)
        refine xN (h := fun K hK => ?_)
        go_simp
        refine (qmul_at _ _ (rch s (pl (T i) (NN i) r y)) (T i y).val 2000 _ (h7.at 2000 (by have := HFY.out.2.2.1; omega)) (V5.at 2000 (by have := HVS.out; omega)) (by omega) (by omega) (HTB.out.below BX.out)).mono ?_
        rintro e w25 ⟨v8,rfl,h8,b25⟩
        obtain ⟨p8,a8,n8,c8,q8,m8,d8,rfl⟩ := h8.open
        go_wp2_with fail
        replace LI := LI.below b25
        replace BX := BX.below b25
        replace hs6 := hs6.below b25
        replace PQ := PQ.below b25
        replace V5 := V5.below b25
        replace Q0 := Q0.below b25
        replace Q1 := Q1.below b25
        replace Q2 := Q2.below b25
        replace Q3 := Q3.below b25
        replace Q4 := Q4.below b25
        replace h7 := h7.below b25
        replace VS := VS.below b25
        replace BB := BB.trans (b25.mono BB.size)
        clear b25
        refine hK.out _ _ ?_ (fun hH3 => ?_)
        ·exact ⟨Q0,Q1,Q2,Q3,Q4,Q2,Q3⟩
        clear hK K hH2
        (try simp only [Act.put,xL4,xL5,xL6])
        refine xR [13] (h := ?_)
        refine xN (h := fun K hK => ?_)
        go_simp
        refine (qadd_at _ _ _ _ 40000 _ (hs6.at 40000 (by have := HSU.out; omega)) (h8.at 40000 (by have := HFY.out.2.2.2; omega)) (by omega) (by omega) (HTB.out.below BX.out)).mono ?_
        rintro e w26 ⟨v9,rfl,h9,b26⟩
        obtain ⟨p9,a9,n9,c9,q9,m9,d9,rfl⟩ := h9.open
        go_wp2_with fail
        replace LI := LI.below b26
        replace BX := BX.below b26
        replace hs6 := hs6.below b26
        replace PQ := PQ.below b26
        replace V5 := V5.below b26
        replace Q0 := Q0.below b26
        replace Q1 := Q1.below b26
        replace Q2 := Q2.below b26
        replace Q3 := Q3.below b26
        replace Q4 := Q4.below b26
        replace h7 := h7.below b26
        replace h8 := h8.below b26
        replace VS := VS.below b26
        replace BB := BB.trans (b26.mono BB.size)
        clear b26
        refine hK.out _ _ ?_ (fun hH4 => ?_)
        ·exact ⟨Q0,Q1,Q2,Q3,Q4,Q2,Q3⟩
        clear hK K hH3
        (try simp only [Act.put,xL4,xL5,xL6])
        refine xR [14] (h := ?_)
        refine xN (h := fun K hK => ?_)
        have hKp := VS.keepJ (.bool p9) (.slice a9 n9 c9) (.slice q9 m9 d9)
        have SQ_n : SmQ (((w26.setCell ⟨R32,0,none⟩ (.bool p9)).setCell ⟨R32,1,none⟩ (.slice a9 n9 c9)).setCell ⟨R32,2,none⟩ (.slice q9 m9 d9)) R32 (sumq (sayV T NN r s) i + legS (T i) (NN i) r s (ys.take (j + 1))) := ⟨_,_,_,_,_,_,_,VS.same (.bool p9) (.slice a9 n9 c9) (.slice q9 m9 d9),by rw [HYJ.out,← Rat.add_assoc]; exact h9.keep hKp⟩
        have LI_n := LI.put3 HGB.out.1 HGB.out.2 VS (.bool p9) (.slice a9 n9 c9) (.slice q9 m9 d9)
        have BX_n := BX.put (.bool p9) (.slice a9 n9 c9) (.slice q9 m9 d9)
        have BB_n := below_store3 (R := R32) BB HWR.out (.bool p9) (.slice a9 n9 c9) (.slice q9 m9 d9)
        have hgr : g ≠ R32 := by have := HGB.out; omega
        have Q0_n := celg_put3 (x := .bool p9) (y := .slice a9 n9 c9) (z := .slice q9 m9 d9) Q0 hgr
        have Q1_n := celg_put3 (x := .bool p9) (y := .slice a9 n9 c9) (z := .slice q9 m9 d9) Q1 hgr
        have Q2_n := celg_put3 (x := .bool p9) (y := .slice a9 n9 c9) (z := .slice q9 m9 d9) Q2 hgr
        have Q3_n := celg_put3 (x := .bool p9) (y := .slice a9 n9 c9) (z := .slice q9 m9 d9) Q3 hgr
        have Q4_n := celg_put3 (x := .bool p9) (y := .slice a9 n9 c9) (z := .slice q9 m9 d9) Q4 hgr
        obtain ⟨x0,x1,x2,x3,x4,x5⟩ := id VS
        go_simp
        clear x0 x1 x2 x3 x4 x5 hKp hgr VS LI BX BB hs6 PQ V5 Q0 Q1 Q2 Q3 Q4 h7 h8 h9
        generalize (((w26.setCell ⟨R32,0,none⟩ (.bool p9)).setCell ⟨R32,1,none⟩ (.slice a9 n9 c9)).setCell ⟨R32,2,none⟩ (.slice q9 m9 d9)) = W9 at *
        have SQ := SQ_n
        have LI := LI_n
        have BX := BX_n
        have BB := BB_n
        have Q0 := Q0_n
        have Q1 := Q1_n
        have Q2 := Q2_n
        have Q3 := Q3_n
        have Q4 := Q4_n
        clear SQ_n LI_n BX_n BB_n Q0_n Q1_n Q2_n Q3_n Q4_n
        refine hK.out _ _ ?_ (fun hH5 => ?_)
        ·exact ⟨Q0,Q1,Q2,Q3,Q4,Q2,Q3⟩
        clear hK K hH4
        (try simp only [Act.put,xL4,xL5,xL6])
        refine wpAnyH_done (by kernel_rfl) ?_ _
        clear hH5
        clear Q0 Q1 Q2 Q3 Q4
        go_wp2
        go_roundw
        case rel => exact ⟨j + 1,by omega,by go_num,SQ,LI,BX,BB⟩
        case measure => simp [intOf]; omega
       refine xC (h := fun K hK => ?_) (hs := ?_)
       ·
        go_simp
        refine (qmul_at _ _ (rch s (pl (T i) (NN i) r y)) (T i y).val 2000 _ (h7.at 2000 (by have := HFY.out.2.2.1; omega)) (V5.at 2000 (by have := HVS.out; omega)) (by omega) (by omega) (HTB.out.below BX.out)).mono ?_
        rintro e w27 ⟨v8,rfl,h8,b27⟩
        obtain ⟨p8,a8,n8,c8,q8,m8,d8,rfl⟩ := h8.open
        go_wp2_with fail
        replace LI := LI.below b27
        replace BX := BX.below b27
        replace hs6 := hs6.below b27
        replace PQ := PQ.below b27
        replace V5 := V5.below b27
        replace Q0 := Q0.below b27
        replace Q1 := Q1.below b27
        replace Q2 := Q2.below b27
        replace Q3 := Q3.below b27
        replace Q4 := Q4.below b27
        replace h7 := h7.below b27
        replace VS := VS.below b27
        replace BB := BB.trans (b27.mono BB.size)
        clear b27
        refine hK.out _ _ ?_ (fun hH2 => ?_)
        ·exact ⟨Q0,Q1,Q2,Q3,Q4,Q2,Q3⟩
        clear hK K hH1
        (try simp only [Act.put,xL4,xL5,xL6])
        refine xR [0] (h := ?_)
        refine xN (h := fun K hK => ?_)
        obtain ⟨VS_0,VS_1,VS_2,VS_3,VS_4,VS_5⟩ := id VS
        go_simp
        clear VS_0 VS_1 VS_2 VS_3 VS_4 VS_5
        refine hK.out _ _ ?_ (fun hH3 => ?_)
        ·exact ⟨Q0,Q1,Q2,Q3,Q4,Q2,Q3⟩
        clear hK K hH2
        (try simp only [Act.put,xL4,xL5,xL6])
        refine xR [13] (h := ?_)
        refine xN (h := fun K hK => ?_)
        go_simp
        refine (qadd_at _ _ _ _ 40000 _ (hs6.at 40000 (by have := HSU.out; omega)) (h8.at 40000 (by have := HFY.out.2.2.2; omega)) (by omega) (by omega) (HTB.out.below BX.out)).mono ?_
        rintro e w28 ⟨v9,rfl,h9,b28⟩
        obtain ⟨p9,a9,n9,c9,q9,m9,d9,rfl⟩ := h9.open
        go_wp2_with fail
        replace LI := LI.below b28
        replace BX := BX.below b28
        replace hs6 := hs6.below b28
        replace PQ := PQ.below b28
        replace V5 := V5.below b28
        replace Q0 := Q0.below b28
        replace Q1 := Q1.below b28
        replace Q2 := Q2.below b28
        replace Q3 := Q3.below b28
        replace Q4 := Q4.below b28
        replace h7 := h7.below b28
        replace h8 := h8.below b28
        replace VS := VS.below b28
        replace BB := BB.trans (b28.mono BB.size)
        clear b28
        refine hK.out _ _ ?_ (fun hH4 => ?_)
        ·exact ⟨Q0,Q1,Q2,Q3,Q4,Q2,Q3⟩
        clear hK K hH3
        (try simp only [Act.put,xL4,xL5,xL6])
        refine xR [14] (h := ?_)
        refine xN (h := fun K hK => ?_)
        have hKp := VS.keepJ (.bool p9) (.slice a9 n9 c9) (.slice q9 m9 d9)
        have SQ_n : SmQ (((w28.setCell ⟨R32,0,none⟩ (.bool p9)).setCell ⟨R32,1,none⟩ (.slice a9 n9 c9)).setCell ⟨R32,2,none⟩ (.slice q9 m9 d9)) R32 (sumq (sayV T NN r s) i + legS (T i) (NN i) r s (ys.take (j + 1))) := ⟨_,_,_,_,_,_,_,VS.same (.bool p9) (.slice a9 n9 c9) (.slice q9 m9 d9),by rw [HYJ.out,← Rat.add_assoc]; exact h9.keep hKp⟩
        have LI_n := LI.put3 HGB.out.1 HGB.out.2 VS (.bool p9) (.slice a9 n9 c9) (.slice q9 m9 d9)
        have BX_n := BX.put (.bool p9) (.slice a9 n9 c9) (.slice q9 m9 d9)
        have BB_n := below_store3 (R := R32) BB HWR.out (.bool p9) (.slice a9 n9 c9) (.slice q9 m9 d9)
        have hgr : g ≠ R32 := by have := HGB.out; omega
        have Q0_n := celg_put3 (x := .bool p9) (y := .slice a9 n9 c9) (z := .slice q9 m9 d9) Q0 hgr
        have Q1_n := celg_put3 (x := .bool p9) (y := .slice a9 n9 c9) (z := .slice q9 m9 d9) Q1 hgr
        have Q2_n := celg_put3 (x := .bool p9) (y := .slice a9 n9 c9) (z := .slice q9 m9 d9) Q2 hgr
        have Q3_n := celg_put3 (x := .bool p9) (y := .slice a9 n9 c9) (z := .slice q9 m9 d9) Q3 hgr
        have Q4_n := celg_put3 (x := .bool p9) (y := .slice a9 n9 c9) (z := .slice q9 m9 d9) Q4 hgr
        obtain ⟨x0,x1,x2,x3,x4,x5⟩ := id VS
        go_simp
        clear x0 x1 x2 x3 x4 x5 hKp hgr VS LI BX BB hs6 PQ V5 Q0 Q1 Q2 Q3 Q4 h7 h8 h9
        generalize (((w28.setCell ⟨R32,0,none⟩ (.bool p9)).setCell ⟨R32,1,none⟩ (.slice a9 n9 c9)).setCell ⟨R32,2,none⟩ (.slice q9 m9 d9)) = W9 at *
        have SQ := SQ_n
        have LI := LI_n
        have BX := BX_n
        have BB := BB_n
        have Q0 := Q0_n
        have Q1 := Q1_n
        have Q2 := Q2_n
        have Q3 := Q3_n
        have Q4 := Q4_n
        clear SQ_n LI_n BX_n BB_n Q0_n Q1_n Q2_n Q3_n Q4_n
        refine hK.out _ _ ?_ (fun hH5 => ?_)
        ·exact ⟨Q0,Q1,Q2,Q3,Q4,Q2,Q3⟩
        clear hK K hH4
        (try simp only [Act.put,xL4,xL5,xL6])
        refine wpAnyH_done (by kernel_rfl) ?_ _
        clear hH5
        clear Q0 Q1 Q2 Q3 Q4
        go_wp2
        go_roundw
        case rel => exact ⟨j + 1,by omega,by go_num,SQ,LI,BX,BB⟩
        case measure => simp [intOf]; omega
       exact AllReadyH.nil
      exact AllReadyH.nil
     ·obtain rfl : j = mm := by omega
      have j1 : ¬ (j : Int) < (j : Int) := by omega
      have SQ2 : SmQ wr R32 (sumq (sayV T NN r s) (i + 1)) := by
       have e1 : ys.take j = ys := List.take_of_length_le (by have := HYM.out; omega)
       rw [e1,← HYS.out,HMI.out.legS_all r s] at SQ
       exact SQ
      clear SQ LI
      go_wp2
      go_roundw
      case rel => exact ⟨i + 1,by omega,by go_num,SQ2,BX,BB⟩
      case measure => simp [intOf]; omega
   ·obtain rfl : i = k3 := by omega
    have g1 : ¬ (i : Int) < (i : Int) := by omega
    obtain ⟨p6,a6,n6,c6,q6,m6,d6,VS,hs6⟩ := SQ
    have hx := HX.out.below BX.out
    have HS1 : Hid (qsz (sumq (sayV T NN r s) i) ≤ 13774) := HSA.out i (Nat.le_refl _)
    obtain ⟨x0,x1,x2,x3,x4,x5⟩ := HVX.out.below BX.out
    obtain ⟨z0,z1,z2,z3,z4,z5⟩ := id VS
    clear x3 x4 x5 z3 z4 z5
    go_wp2_with fail
    clear x0 x1 x2 z0 z1 z2 vm1
    refine (qsame_at _ _ _ _ 20000 _ (hx.at 20000 (by have := HS1.out; omega)) (hs6.at 20000 (by have := HS1.out; omega)) (by omega) (by omega)).mono ?_
    rintro e w8 ⟨rfl,b8⟩
    replace BX := BX.below b8
    replace BB := BB.trans (b8.mono BB.size)
    clear b8 hx hs6 VS
    rw [decide_eq_true rfl]
    go_wp2_with fail
    refine (awake11_at _ (HTB.out.below BX.out)).mono ?_
    rintro e w9 ⟨rfl,b9⟩
    replace BB := BB.trans (b9.mono BB.size)
    clear b9
    go_wp2
    go_ret
    exact ⟨rfl,BB⟩
 ·obtain ⟨e1,he1⟩ : ∃ e1,whyI F k3 NN T m = e1 := ⟨_,rfl⟩
  have HE : Hid (whyI F k3 NN T m = e1) := he1
  have HN : Hid (whyI F k3 NN T m ≠ 0) := h0
  rw [he1] at h0
  clear he1
  have g2 : (e1 != 0) = true := by simpa using h0
  have g3 : decide (e1 = 0) = false := decide_eq_false h0
  refine (value_no F _ _ k3 m NN T r s 4 18 _ MR CR ht (by omega) (by omega) (by omega) hs64 HN.out).mono ?_
  rintro e w6 ⟨rfl,b6⟩
  replace ht := ht.below b6
  replace MR := MR.below b6
  replace CR := CR.below b6
  replace VM := VM.below b6
  replace BB := BB.trans (b6.mono BB.size)
  clear b6
  rw [HE.out]
  have hZ31 : w.heap.size ≤ w6.heap.size := BB.size
  have hN31VM : w.heap.size ≠ w6.heap.size := Nat.ne_of_lt VM.lt
  obtain ⟨W31,hW31,hS31,hL31,VX⟩ := V3.lay w6 42 (.bool false) (.slice none 0 0) (.slice none 0 0)
  replace ht := ht.below hL31
  replace MR := MR.below hL31
  replace CR := CR.below hL31
  replace VM := VM.below hL31
  replace BB := BB.trans (hL31.mono BB.size)
  clear hL31
  obtain ⟨VX_0,VX_1,VX_2,VX_3,VX_4,VX_5⟩ := id VX
  obtain ⟨VM_0,VM_1,VM_2,VM_3⟩ := id VM
  rw [hW31] at VX_0 VX_1 VX_2 VX_3 VX_4 VX_5 VM_0 VM_1 VM_2 VM_3
  go_wp2_with fail
  clear VX_0 VX_1 VX_2 VX_3 VX_4 VX_5 VM_0 VM_1 VM_2 VM_3
  rw [← hW31]
  generalize w6.heap.size = R31 at *
  clear hW31 hS31
  refine (lwhy_at F _ _ k3 m NN T r 4 _ MR CR ht (by omega) (by omega)).mono ?_
  rintro e w7 ⟨rfl,b7⟩
  replace ht := ht.below b7
  replace MR := MR.below b7
  replace CR := CR.below b7
  replace VM := VM.below b7
  replace VX := VX.below b7
  replace BB := BB.trans (b7.mono BB.size)
  clear b7
  rw [HE.out]
  go_wp2_with fail
  refine (awake11_at _ ht).mono ?_
  rintro e w8 ⟨rfl,b8⟩
  replace ht := ht.below b8
  replace MR := MR.below b8
  replace CR := CR.below b8
  replace VM := VM.below b8
  replace VX := VX.below b8
  replace BB := BB.trans (b8.mono BB.size)
  clear b8
  go_wp2
  go_ret
  exact ⟨rfl,BB⟩
theorem own : ownKnob Tryz.prog.godebug = none := by kernel_rfl
theorem laidOut : laidOutB Tryz.prog = true := by kernel_rfl

abbrev laid1 : List (String × DataW Unit) := [("math/bits.deBruijn64tab",Rows.laid_math_bits_deBruijn64tab)]
theorem gTab : Tryz.prog.globalNamed "math/bits.deBruijn64tab" = some 0 := by kernel_rfl
theorem gTabType : (Tryz.prog.globals[0]?).map (·.type) = some 181 := by kernel_rfl
theorem uTab : Tryz.prog.underlying 181 = some (.array 64 5) := by kernel_rfl
theorem uCell : Tryz.prog.underlying 5 = some (.int .u8) := by kernel_rfl
theorem cCell : Tryz.prog.cellsOf 5 = 1 := by kernel_rfl
theorem cTab : Tryz.prog.cellsOf 181 = 64 := by kernel_rfl
/-- The listed table lies in its cells. -/
theorem tab_of {W : World} (h : laidMetH Tryz.prog laid1 W) : Tab W := by
 rw [MakeChecks.laidMetH_plain _ _ _ (by kernel_rfl)] at h
 have hd : laid1 = [("math/bits.deBruijn64tab",Lib.tabData .u8 (Lib.deBruijn64tab.map fun (n : Nat) => Int.ofNat n))] := rfl
 rw [hd] at h
 have hT := Lib.tabIs_of_head gTab gTabType uTab uCell cCell cTab h
 intro i hi
 have hc := hT.cell gTab i (by rw [List.length_map]; exact hi)
 rw [hc]
 congr 2
 rw [List.getD_eq_getElem?_getD,List.getElem?_map,List.getD_eq_getElem?_getD]
 cases Lib.deBruijn64tab[i]? <;> rfl
/-- A start for the witness: the heap that the run of the program's own initialisers leaves. -/
noncomputable def startW (os : Os) : World := { World.holding Tryz.prog os ⟨#[],#[],[]⟩ with heap := (varsWorld Tryz.prog 400 (varsId Tryz.prog) os (fun _ _ => 0)).heap }
theorem start_met (os : Os) (args : Array Value) : laidMetH Tryz.prog laid1 ((startW os).forCall (fun _ _ => 0) ⟨#[],args,[]⟩).memory :=
 laidMetH_of_parts3 (fuel := 8) (laidMet_of_run' 8 (by kernel_rfl) (by kernel_rfl)) (by kernel_rfl) (by kernel_rfl)

set_option maxRecDepth 100000 in
theorem lifted (os : Os) (started : os.Started) (H : Type) (enc : TypeId × Value → H) :
  ReturnsInHanded {} Tryz.checked os 4 .any (fun w args => (Rows.expectReachesSpec.pre enc Tryz.prog Tryz.f4 [] false w args ∧ laidMetH Tryz.prog laid1 w) ∧ sizedMet enc Tryz.prog Tryz.f4 (OpenSpec.ofChange Rows.expectReachesSpec) false w args) (Rows.expectReachesSpec.post enc Tryz.prog Tryz.f4 false true false false) := by
 refine returnsInHanded_of_change_and (C := Tryz.checked) (X := fun w _ => laidMetH Tryz.prog laid1 w) (fun _ _ _ hh h => h.of_heap hh) own started (by kernel_rfl) Tryz.func4
  (ChangeSpec.witness_shaped (enc := enc) (C := Tryz.checked) (os := os) (X := fun w _ => laidMetH Tryz.prog laid1 w) false (startW os) #[.agg #[.int .i64 0,.slice none 0 0],.slice none 0 0,.int .u64 0] 8 rfl (World.shaped_of_RefB (by kernel_rfl) (by kernel_rfl)) (by kernel_rfl) (by kernel_rfl) (by kernel_rfl) (start_met os _)) ?_
 intro W base args ds gs before hval0 hW _ _ hL _
 have hval : ∀ (j : Nat) t v,Tryz.f4.params[j]? = some t → args[j]? = some v → Value.okWide Tryz.prog W .any base t v := hval0
 have hW' := hW
 obtain ⟨p,q,hA0,hV,rfl,hfz,hnd⟩ := hW
 have hA : DataW.TrodAll enc Tryz.prog W 0 (fun _ => true) true Tryz.f4.params.toList args.toList ds p := hA0
 rw [Tryz.params4] at hA hval
 obtain ⟨v0,vs0,d0,ds0,p0,q0,hargs,rfl,rfl,h0,r0⟩ := trodAll_cons hA
 obtain ⟨v1,vs1,d1,ds1,p1,q1,rfl,rfl,rfl,h1,r1⟩ := trodAll_cons r0
 obtain ⟨v2,vs2,d2,ds2,p2,q2,rfl,rfl,rfl,h2,r2⟩ := trodAll_cons r1
 obtain ⟨rfl,rfl,rfl⟩ := trodAll_nil r2
 obtain rfl : args = #[v0,v1,v2] := by cases args; simp_all
 obtain ⟨rfl,rfl⟩ := trodVars_none hV
 have k0 := h0
 have lt0 : ∀ x ∈ p0,x.block < W.heap.size := by obtain ⟨m,hm⟩ := k0; exact DataW.trod_lt m _ _ _ hm
 obtain ⟨F0,a0,c0,n0,N0,z0,rfl,f0,w0⟩ := open_model 4 (hval 0 27 v0 rfl rfl) h0
 have k1 := h1
 have lt1 : ∀ x ∈ p1,x.block < W.heap.size := by obtain ⟨m,hm⟩ := k1; exact DataW.trod_lt m _ _ _ hm
 obtain ⟨n1,z1,w1⟩ := open_cells 3 (hval 1 23 v1 rfl rfl) h1
 obtain ⟨a2,rfl,rfl,rfl,w2⟩ := open_int Tryz.underlying54 (hval 2 54 v2 rfl rfl) h2
 clear hA0 hval0
 refine (walk _ _ _ _ _ _ _ _ _ a2 W f0 w0 w1 w2 (tab_of hL)).mono fun e W' ⟨he,bel⟩ => ?_
 subst he
 exact ⟨_,rfl,_,_,_,[],_,[],hW',trodAll_mk1 (shut_bool Tryz.underlying4 _),(trodAll_cons_mk (Below.trod laidOut (by kernel_rfl) (of_decide_eq_true (by kernel_rfl)) k0 bel lt0) (trodAll_cons_mk (Below.trod laidOut (by kernel_rfl) (of_decide_eq_true (by kernel_rfl)) k1 bel lt1) (trodAll_cons_mk (shut_int Tryz.underlying54 w2) trodAll_mk0))),rfl,bel.frame _,fun h => by cases h⟩

theorem over : Rows.expectReachesRow.holds Tryz.pinned (OpenSpec.ofChange Rows.expectReachesSpec) :=
 OpenClaim.holds_of_wide 4 Tryz.f4 rfl rfl rfl rfl rfl rfl rfl ⟨rfl,rfl,rfl,rfl,rfl⟩ rfl rfl rfl rfl rfl (by kernel_rfl) Tryz.func4 (by kernel_rfl)
  (of_decide_eq_true (by kernel_rfl)) (by unfold Func.isWrapper; first | (rw [if_pos (by decide +kernel)]; kernel_rfl) | (rw [if_neg (by decide +kernel)]; exact ⟨rfl,rfl⟩))
  (fun os started H enc _ => lifted os started H enc)

end Go.Proofs.YtbbliiafkjipbaaGreatDoor.expectReaches
namespace Go.Proofs.YtbbliiafkjipbaaGreatDoor
/-- The statement: the row, tied to the text of the program. -/
theorem expectReaches_holds : Rows.ExpectReachesCardSaid :=
 Claim7.holds_tied_plain_at .later [] [.data] true (true,"58d71e1b5000b0e2587b5db2d71ea12029712d3cfea31691cab49e52e761c372") false
  expectReaches.over (fun _ h => by cases h) (by kernel_rfl) (fun _ h => by cases h) expectReaches_row_tie rfl ⟨rfl,rfl⟩ (by kernel_rfl) rfl
  (fun f fn hf hfn => by
   obtain rfl : f = 4 := Option.some.inj ((show Tryz.prog.funcNamed "dendron/dendronlaw11.ExpectReaches" = some 4 by kernel_rfl).symm.trans hf) |>.symm
   obtain rfl : fn = Tryz.f4 := (Option.some.inj (Tryz.func4.symm.trans hfn)).symm
   exact ⟨by kernel_rfl,fun j t ht => by
    rw [Tryz.params4] at ht
    have hm : t ∈ [27,23,54] := by simpa using Array.mem_of_getElem? ht
    have hall : ([27,23,54].all fun u => !Tryz.prog.wantsStandIn u) = true := by kernel_rfl
    exact (show Tryz.prog.wantsStandIn t = false by simpa using List.all_eq_true.1 hall t hm)⟩)
  (by kernel_rfl)
end Go.Proofs.YtbbliiafkjipbaaGreatDoor
