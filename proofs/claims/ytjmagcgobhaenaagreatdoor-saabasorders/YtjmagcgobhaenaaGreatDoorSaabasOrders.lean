/-
 Proves that Order tells the features that add something,the greatest amounts first,of these the first,of any model of up to 3 trees of up to 15 nodes and any row,or why nothing,whatever comes in (the statement SaabasOrders,its tied card); the table of math/bits lies as the program's text lays it; no other condition.
-/
import Derived.Test.YtjmagcgobhaenaaGreatDoorJc66f179fb5
import Derived.Test.YtjmagcgobhaenaaGreatDoorRows
import Derived.Test.YtjmagcgobhaenaaGreatDoorJ23b98788f0
import Derived.Test.YtjmagcgobhaenaaGreatDoorJ18e69cc39b
import Derived.Test.YtjmagcgobhaenaaGreatDoorJ581c8412ee
import Derived.WalkKit
import Derived.ProofKit
import Derived.OpenShut
import Derived.ShutString
import Derived.ChangeOld
import Derived.Below
import Derived.Test.YtjmagcgobhaenaaGreatDoorTie
import Derived.Test.YtjmagcgobhaenaaGreatDoorCards
import Derived.LaidByTextLater
import Derived.LaidHandle
import Derived.Lib.LaidTab
import Derived.SevenTiedAt
namespace Go.Proofs.YtjmagcgobhaenaaGreatDoor.saabasOrders
open Go.ChangeShapes Go.WideShapes Go.ChangeAt Go.RowKit
open Go.ChangeMaps (open_string shut_string)
set_option linter.unusedVariables false
set_option linter.unusedSimpArgs false

set_option maxRecDepth 100000 in
set_option maxHeartbeats 16000000 in
theorem walk (F : Int) (ao : Option Addr) (c k : Nat) (N : Nat → Nat) (T : Nat → Nat → Nd) (v2 : Value) (nr : Nat) (r : Nat → Cl) (w : World) (hF : I64 F) (hv : MRaw w (.slice ao k c) k N T 4) (hr : CRaw w v2 nr r 3) (ht : Tab w) :
  Calls Tryz.prog 12 #[.agg #[.int .i64 F,.slice ao k c],v2] w fun e w' => e = .returned (.bool true) ∧ Below w.heap.size w w' := by
 obtain ⟨ar,cr,rfl,hrc,hr63⟩ := hr.open
 have BB : Below w.heap.size w w := Below.refl _ _
 obtain ⟨Wb0,hW0,hS0,hL0,VM⟩ := V2.lay w 24 (.int .i64 F) (.slice ao k c)
 replace ht := ht.below hL0
 have hv1 := hv.below hL0
 have hr1 := hr.below hL0
 replace BB := BB.trans (hL0.mono BB.size)
 clear hL0
 go_enter Tryz.func12,Tryz.ntmps12
 obtain ⟨VM_0,VM_1,VM_2,VM_3⟩ := id VM
 rw [hW0] at VM_0 VM_1 VM_2 VM_3
 go_wp2_with fail
 clear VM_0 VM_1 VM_2 VM_3
 rw [← hW0]
 have hsz : w.heap.size < Wb0.heap.size := VM.lt
 clear hW0 hS0
 refine (small11_at F _ k N T _ nr r _ hv1 hr1).mono ?_
 rintro e w1 ⟨am,cm,au,cu,rfl,MO,CO,b1⟩
 replace ht := ht.below b1
 replace VM := VM.below b1
 replace BB := BB.trans (b1.mono BB.size)
 clear b1 hv1 hr1 hv hr
 obtain ⟨q1,q2,q3,q4⟩ := id VM
 have K1 : KeepQ IsLimb w1 (w1.setCell ⟨w.heap.size,0,none⟩ (.int .i64 F)) := keepL_set q1 (limb_int _) _
 have K2 := keepL_set (cell_set_by (u := .int .i64 F) (j := 0) q2 (by omega)) (limb_slice _ _ _) (.slice am (min (min k 6) 3) cm)
 have MO_n := (MO.set (a := ⟨w.heap.size,0,none⟩) hsz _ K1).set (a := ⟨w.heap.size,1,none⟩) hsz _ K2
 have CO_n := (CO.set (a := ⟨w.heap.size,0,none⟩) hsz _ K1).set (a := ⟨w.heap.size,1,none⟩) hsz _ K2
 have VM_n := VM.same (.int .i64 F) (.slice am (min (min k 6) 3) cm)
 have ht_n := (ht.keepL K1).keepL K2
 have BB_n := below_store2 (R := w.heap.size) BB (Nat.le_refl _) (.int .i64 F) (.slice am (min (min k 6) 3) cm)
 have MR_n := MO_n.row.cut11 (Nat.min_le_left (min k 6) 3)
 have CR_n := CO_n.row.mono (show 3 ≤ 4 by omega)
 have hk3 : min (min k 6) 3 ≤ 3 := Nat.min_le_right _ _
 have HNN : Hid (∀ i,(fun i => min (N i) 15) i ≤ 15) := fun i => Nat.min_le_right _ _
 have hm70 : min nr 70 ≤ 70 := Nat.min_le_right _ _
 clear K1 K2 MO CO MO_n CO_n
 generalize min (min k 6) 3 = k3 at *
 generalize (fun i => min (N i) 15) = NN at *
 generalize min nr 70 = m at *
 obtain ⟨z1,z2,z3,z4⟩ := id VM_n
 go_wp2_with fail
 clear q1 q2 q3 q4 z1 z2 z3 z4 VM ht BB hsz
 generalize (w1.setCell ⟨w.heap.size,0,none⟩ (.int .i64 F)).setCell ⟨w.heap.size,1,none⟩ (.slice am k3 cm) = W3 at *
 have VM := VM_n
 have ht := ht_n
 have BB := BB_n
 have MR := MR_n
 have CR := CR_n
 clear VM_n ht_n BB_n MR_n CR_n
 by_cases h0 : whyI F k3 NN T m = 0
 ·obtain ⟨hB,hmF⟩ := whyI_zero11 h0
  have HB : Hid (whyI (m : Int) k3 NN T m = 0) := by rw [hmF]; exact h0
  subst hmF
  have HBM : Hid (mayB (m : Int) k3 NN T = true) := hB
  have HMF := mayB_may hB
  have HMY : Hid (∀ i,i < k3 → MayT (m : Int) (T i) (NN i)) := HMF.2.2.2
  have hm64 : (m : Int) ≤ 64 := HMF.2.1
  clear hB h0 hF HMF
  have HSZ0 : Hid (∀ i,i < k3 → ∀ j,j < NN i → qsz (T i j).val ≤ 4 ∧ qsz (T i j).cov ≤ 4) := fun i hi => MR.sz11 (by omega) hi
  have HAD : Hid (∀ s ∈ spA T NN r k3,qsz s.add ≤ 151) := spA_sz HMY.out HSZ0.out HNN.out k3 (Nat.le_refl _)
  have HLN : Hid ((spA T NN r k3).length ≤ 21) := Nat.le_trans (spA_few HMY.out HNN.out k3 (Nat.le_refl _)) (by omega)
  have HWS : Hid (∀ i,i < k3 → ∀ x,x < NN i → qsz (ws (T i) (NN i) x) ≤ 150) := fun i hi x hx => ws_sz (C := 10) (HMY.out i hi) (HSZ0.out i hi) (by omega) (by have := HNN.out i; omega) hx
  have HVZ : Hid (∀ q,qsz (valS (spA T NN r k3) q) ≤ 3193) := fun q => valS_sz HAD.out HLN.out q
  refine (sorder_yes _ _ k3 m NN T r 4 10 _ MR CR ht (by omega) (by omega) (by omega) HB.out HBM.out (by omega) 151 (by omega) HAD.out (by have := HLN.out; omega) 3193 (by omega) (by omega) HVZ.out).mono ?_
  rintro e w6 ⟨v1,rfl,zs,OW,HI,b6⟩
  replace ht := ht.below b6
  replace MR := MR.below b6
  replace CR := CR.below b6
  replace VM := VM.below b6
  replace BB := BB.trans (b6.mono BB.size)
  clear b6
  have HOI : Hid (OrdI (valS (spA T NN r k3)) m zs) := HI
  clear HI
  obtain ⟨ao_,co_,rfl,hoc⟩ := GOwn.form OW
  obtain ⟨len,hlen⟩ : ∃ len,zs.length = len := ⟨_,rfl⟩
  have HLE : Hid (zs.length = len) := hlen
  rw [hlen] at OW hoc ⊢
  have hl64 : len ≤ 64 := by have h1 := HOI.out.len; have h2 := cntN_le (valS (spA T NN r k3)) m; omega
  clear hlen
  obtain ⟨VM_0,VM_1,VM_2,VM_3⟩ := id VM
  go_wp2_with fail
  clear VM_0 VM_1 VM_2 VM_3
  refine (svalues_yes _ _ k3 m NN T r 4 10 _ MR CR ht (by omega) (by omega) (by omega) HB.out HBM.out (by omega) 151 (by omega) HAD.out (by have := HLN.out; omega)).mono ?_
  rintro e w7 ⟨v2,rfl,hl,b7⟩
  replace ht := ht.below b7
  replace MR := MR.below b7
  replace CR := CR.below b7
  replace OW := OW.below b7
  replace VM := VM.below b7
  replace BB := BB.trans (b7.mono BB.size)
  clear b7
  obtain ⟨al,cl,rfl⟩ := hl.open
  obtain ⟨q,hq⟩ : ∃ q,valS (spA T NN r k3) = q := ⟨_,rfl⟩
  rw [hq] at hl HOI HVZ
  clear hq
  go_wp2
  have ht0 : Hid (Tab w7) := ht
  have hl0 : Hid (FRow w7 (.slice al m cl) m q) := hl
  have OW0 : Hid (IOw W3.heap.size w7 (.slice ao_ len co_) zs) := OW
  clear ht hl OW MR CR VM
  go_loopw [9,10] (fun vc vi wr => ∃ i : Nat,i ≤ m ∧ vi = .int .i64 (i : Int) ∧ vc = .int .i64 ((cntN q i : Nat) : Int) ∧ Below w7.heap.size w7 wr) (fun _ vi _ => m - (intOf vi).toNat)
  case atStart => exact ⟨0,by omega,rfl,rfl,Below.refl _ _⟩
  case round =>
   obtain ⟨i,hi,rfl,rfl,BL⟩ := hrel
   have hcl : cntN q i ≤ i := cntN_le q i
   by_cases hlt : i < m
   ·have g0 : (0 : Int) ≤ (i : Int) := by omega
    have g1_ : (i : Int) < (m : Int) := by omega
    have wi : IntKind.i64.wrap ((i : Int) + 1) = (i : Int) + 1 := by rw [IntKind.wrap_i64]; omega
    obtain ⟨bl,ol,cl_,p4,a4,n4,c4,y4,m4,d4,hv4,hlc4,E4,r4⟩ := (hl0.out.below BL).at i hlt
    cases hv4
    obtain ⟨x0,x1,x2⟩ := E4
    have HCN : Hid (cntN q (i + 1) = cntN q i + (if q i = 0 then 0 else 1)) := rfl
    go_wp2_with fail
    refine (qsign_at _ (q i) 3193 _ (r4.at _ (HVZ.out i)) (by omega) (by omega)).mono ?_
    rintro e w9 ⟨rfl,b9⟩
    have HSG := sign12 (q i)
    obtain ⟨cq,hcq⟩ : ∃ cq,cmpQ (q i) 0 = cq := ⟨_,rfl⟩
    rw [hcq] at HSG ⊢
    clear hcq x0 x1 x2 r4
    have BL2 := BL.trans (b9.mono BL.size)
    clear b9 BL
    obtain ⟨cn,hcn⟩ : ∃ cn,cntN q i = cn := ⟨_,rfl⟩
    rw [hcn] at hcl HCN ⊢
    clear hcn
    by_cases h0 : q i = 0
    ·have hc0 := HSG.2 h0
     subst hc0
     have HC2 : Hid (cntN q (i + 1) = cn) := by rw [if_pos h0] at HCN; exact HCN.out
     clear h0 HSG HCN
     go_wp2
     go_roundw
     case rel => exact ⟨i + 1,by omega,by go_num,by rw [HC2.out],BL2⟩
     case measure => simp [intOf]; omega
    ·have hc0 : (cq != 0) = true := by simpa using (fun e => h0 (HSG.1 e))
     have hc1 : ¬ cq = 0 := fun e => h0 (HSG.1 e)
     have HC2 : Hid (cntN q (i + 1) = cn + 1) := by rw [if_neg h0] at HCN; exact HCN.out
     have wc : IntKind.i64.wrap ((cn : Int) + 1) = (cn : Int) + 1 := by rw [IntKind.wrap_i64]; omega
     clear h0 HSG HCN
     go_wp2
     go_roundw
     case rel => exact ⟨i + 1,by omega,by go_num,by rw [HC2.out]; go_num,BL2⟩
     case measure => simp [intOf]; omega
   ·obtain rfl : i = m := by omega
    have g1_ : ¬ (i : Int) < (i : Int) := by omega
    have HLC : Hid (cntN q i = len) := HOI.out.len.symm.trans HLE.out
    rw [HLC.out]
    clear hcl
    go_wp2
    go_loopw [11] (fun vj wr => ∃ j : Nat,j ≤ len ∧ vj = .int .i64 (j : Int) ∧ Below w7.heap.size w7 wr) (fun vj _ => len - (intOf vj).toNat)
    case atStart => exact ⟨0,by omega,rfl,BL⟩
    case round =>
     clear BL
     obtain ⟨j,hj,rfl,BL⟩ := hrel
     by_cases hjl : j < len
     ·have f0 : (0 : Int) ≤ (j : Int) := by omega
      have f1 : (j : Int) < (len : Int) := by omega
      have wj : IntKind.i64.wrap ((j : Int) + 1) = (j : Int) + 1 := by rw [IntKind.wrap_i64]; omega
      obtain ⟨go,hgo⟩ : ∃ go,ao_ = some ⟨go,0,none⟩ := by
       obtain ⟨g9,c9,e9,_⟩ := GOwn.open OW0.out (by have := HLE.out; omega)
       injection e9 with e9
       exact ⟨g9,e9⟩
      subst hgo
      obtain ⟨x,hx⟩ : ∃ x,zs[j]? = some x := ⟨_,List.getElem?_eq_getElem (by have := HLE.out; omega)⟩
      have hxm := HOI.out.mem x (List.mem_of_getElem? hx)
      have hxi : x < i := hxm.1
      have HX0 : Hid (q x ≠ 0) := hxm.2
      have HX : Hid (zs[j]? = some x) := hx
      clear hxm hx
      have e0 : ¬ (x : Int) < 0 := by omega
      have e0b : (0 : Int) ≤ (x : Int) := by omega
      have e1 : ¬ (i : Int) ≤ (x : Int) := by omega
      have e1b : (x : Int) < (i : Int) := by omega
      have cX : wr.cell? ⟨go,j,none⟩ = some (.int .i64 (x : Int)) := (OW0.out.below BL).cell HLE.out HX.out
      obtain ⟨bl,ol,cl_,p4,a4,n4,c4,y4,m4,d4,hv4,hlc4,E4,r4⟩ := (hl0.out.below BL).at x hxi
      cases hv4
      obtain ⟨x0,x1,x2⟩ := E4
      go_wp2_with fail
      refine (qsign_at _ (q x) 3193 _ (r4.at _ (HVZ.out x)) (by omega) (by omega)).mono ?_
      rintro e w9 ⟨rfl,b9⟩
      have HSG := sign12 (q x)
      obtain ⟨cq,hcq⟩ : ∃ cq,cmpQ (q x) 0 = cq := ⟨_,rfl⟩
      rw [hcq] at HSG ⊢
      have hc1 : ¬ cq = 0 := fun e => HX0.out (HSG.1 e)
      have hc2 : (cq == 0) = false := by simpa using hc1
      clear hcq HSG cX x0 x1 x2 r4
      have BL2 := BL.trans (b9.mono BL.size)
      clear b9 BL
      by_cases hj0 : j = 0
      ·subst hj0
       go_wp2
       go_roundw
       case rel => exact ⟨0 + 1,by omega,by go_num,BL2⟩
       case measure => simp [intOf]; omega
      ·obtain ⟨j0,hj1⟩ : ∃ j0,j0 + 1 = j := ⟨j - 1,by omega⟩
       have hjz : ¬ (j : Int) = 0 := by omega
       have hjz2 : ((j : Int) == 0) = false := by simpa using hjz
       have wm : IntKind.i64.wrap ((j : Int) - 1) = (j0 : Int) := by rw [IntKind.wrap_i64]; omega
       have k0 : (0 : Int) ≤ (j0 : Int) := by omega
       have k1 : (j0 : Int) < (len : Int) := by omega
       obtain ⟨x9,hx9⟩ : ∃ x9,zs[j0]? = some x9 := ⟨_,List.getElem?_eq_getElem (by have := HLE.out; omega)⟩
       have HAH : Hid (Ahead q x9 x) := by
        have hl9 := HLE.out
        have h9 := List.pairwise_iff_getElem.1 HOI.out.ord j0 j (by omega) (by omega) (by omega)
        have e1 : zs[j0] = x9 := (List.getElem?_eq_some_iff.1 hx9).2
        have e2 : zs[j] = x := (List.getElem?_eq_some_iff.1 HX.out).2
        rw [e1,e2] at h9
        exact h9
       have hx9i : x9 < i := (HOI.out.mem x9 (List.mem_of_getElem? hx9)).1
       have HX9 : Hid (zs[j0]? = some x9) := hx9
       clear hx9
       have e2 : (0 : Int) ≤ (x9 : Int) := by omega
       have e3 : (x9 : Int) < (i : Int) := by omega
       have BB0 : Hid (Below w.heap.size w w7) := BB
       clear BB
       have BB : Below w7.heap.size w7 w9 := BL2
       have HBL : Hid (Below w7.heap.size w7 w9) := BL2
       clear BL2
       obtain ⟨bP,oP,cP_,pP,aP,nP,cP,yP,mP,dP,hvP,hlcP,EP,rP⟩ := hl0.out.at x9 hx9i
       cases hvP
       have KP0 : Hid (Cel10 w7 bl (ol + x9 * 3) (.bool pP)) := ⟨EP.1⟩
       have KP1 : Hid (Cel10 w7 bl (ol + x9 * 3 + 1) (.slice aP nP cP)) := ⟨EP.2.1⟩
       have KP2 : Hid (Cel10 w7 bl (ol + x9 * 3 + 2) (.slice yP mP dP)) := ⟨EP.2.2⟩
       have HRP : Hid (RepQ w7 (.agg #[.bool pP,.slice aP nP cP,.slice yP mP dP]) (q x9)) := rP
       clear EP rP
       obtain ⟨bQ,oQ,cQ_,pQ,aQ,nQ,cQ,yQ,mQ,dQ,hvQ,hlcQ,EQ,rQ⟩ := hl0.out.at x hxi
       cases hvQ
       have KQ0 : Hid (Cel10 w7 bl (ol + x * 3) (.bool pQ)) := ⟨EQ.1⟩
       have KQ1 : Hid (Cel10 w7 bl (ol + x * 3 + 1) (.slice aQ nQ cQ)) := ⟨EQ.2.1⟩
       have KQ2 : Hid (Cel10 w7 bl (ol + x * 3 + 2) (.slice yQ mQ dQ)) := ⟨EQ.2.2⟩
       have HRQ : Hid (RepQ w7 (.agg #[.bool pQ,.slice aQ nQ cQ,.slice yQ mQ dQ]) (q x)) := rQ
       clear EQ rQ
       have HAP : Hid (qsz (absQ (q x9)) ≤ 3193) := qsz_abs12 (HVZ.out x9)
       have HAQ : Hid (qsz (absQ (q x)) ≤ 3193) := qsz_abs12 (HVZ.out x)
       go_wp2
       have hDr : Below w9.heap.size w9 w9.drew := (Below.refl _ _).drew
       replace BB := BB.trans (hDr.mono BB.size)
       clear hDr
       refine wp_region_held_drew (S := (fun w' => w'.cell? ⟨go,j0,none⟩ = some (.int .i64 (x9 : Int)) ∧ w'.cell? ⟨go,j,none⟩ = some (.int .i64 (x : Int)) ∧ w'.cell? ⟨bl,ol + x9 * 3,none⟩ = some (.bool pP) ∧ w'.cell? ⟨bl,ol + x9 * 3 + 1,none⟩ = some (.slice aP nP cP) ∧ w'.cell? ⟨bl,ol + x9 * 3 + 2,none⟩ = some (.slice yP mP dP) ∧ w'.cell? ⟨bl,ol + x * 3,none⟩ = some (.bool pQ) ∧ w'.cell? ⟨bl,ol + x * 3 + 1,none⟩ = some (.slice aQ nQ cQ) ∧ w'.cell? ⟨bl,ol + x * 3 + 2,none⟩ = some (.slice yQ mQ dQ))) (by kernel_rfl) ?_ (fun hHeld => ?_)
       ·exact ⟨(OW0.out.below BB).cell HLE.out HX9.out,(OW0.out.below BB).cell HLE.out HX.out,(KP0.out.below BB).cell,(KP1.out.below BB).cell,(KP2.out.below BB).cell,(KQ0.out.below BB).cell,(KQ1.out.below BB).cell,(KQ2.out.below BB).cell⟩
       generalize w9.drew = W141 at *
       refine xT 0 (v := ?_) (hy := Or.inl ⟨by rfl,?_⟩) (h := ?_)
       rotate_left
       ·(intro w hSw; (try dsimp only at hSw); go_simp; (try with_reducible rfl))
       (try simp only [Act.put,xL4,xL5,xL6])
       refine xT 1 (v := ?_) (hy := Or.inl ⟨by rfl,?_⟩) (h := ?_)
       rotate_left
       ·(intro w hSw; (try dsimp only at hSw); go_simp; (try with_reducible rfl))
       (try simp only [Act.put,xL4,xL5,xL6])
       refine xT 2 (v := ?_) (hy := Or.inl ⟨by rfl,?_⟩) (h := ?_)
       rotate_left
       ·(intro w hSw; (try dsimp only at hSw); go_simp; (try with_reducible rfl))
       (try simp only [Act.put,xL4,xL5,xL6])
       refine xT 3 (v := ?_) (hy := Or.inl ⟨by rfl,?_⟩) (h := ?_)
       rotate_left
       ·(intro w hSw; (try dsimp only at hSw); go_simp; (try with_reducible rfl))
       (try simp only [Act.put,xL4,xL5,xL6])
       refine xT 4 (v := ?_) (hy := Or.inl ⟨by rfl,?_⟩) (h := ?_)
       rotate_left
       ·(intro w hSw; (try dsimp only at hSw); go_simp; (try with_reducible rfl))
       (try simp only [Act.put,xL4,xL5,xL6])
       refine xT 5 (v := ?_) (hy := Or.inl ⟨by rfl,?_⟩) (h := ?_)
       rotate_left
       ·(intro w hSw; (try dsimp only at hSw); go_simp; (try with_reducible rfl))
       (try simp only [Act.put,xL4,xL5,xL6])
       refine xT 6 (v := ?_) (hy := Or.inl ⟨by rfl,?_⟩) (h := ?_)
       rotate_left
       ·(intro w hSw; (try dsimp only at hSw); go_simp; (try with_reducible rfl))
       (try simp only [Act.put,xL4,xL5,xL6])
       refine xT 7 (v := ?_) (hy := Or.inl ⟨by rfl,?_⟩) (h := ?_)
       rotate_left
       ·(intro w hSw; (try dsimp only at hSw); go_simp; (try with_reducible rfl))
       (try simp only [Act.put,xL4,xL5,xL6])
       refine xT 9 (v := ?_) (hy := Or.inl ⟨by rfl,?_⟩) (h := ?_)
       rotate_left
       ·(intro w hSw; (try dsimp only at hSw); go_simp; (try with_reducible rfl))
       (try simp only [Act.put,xL4,xL5,xL6])
       refine xT 10 (v := ?_) (hy := Or.inl ⟨by rfl,?_⟩) (h := ?_)
       rotate_left
       ·(intro w hSw; (try dsimp only at hSw); go_simp; (try with_reducible rfl))
       (try simp only [Act.put,xL4,xL5,xL6])
       refine xT 11 (v := ?_) (hy := Or.inl ⟨by rfl,?_⟩) (h := ?_)
       rotate_left
       ·(intro w hSw; (try dsimp only at hSw); go_simp; (try with_reducible rfl))
       (try simp only [Act.put,xL4,xL5,xL6])
       refine xT 12 (v := ?_) (hy := Or.inl ⟨by rfl,?_⟩) (h := ?_)
       rotate_left
       ·(intro w hSw; (try dsimp only at hSw); go_simp; (try with_reducible rfl))
       (try simp only [Act.put,xL4,xL5,xL6])
       refine xT 13 (v := ?_) (hy := Or.inl ⟨by rfl,?_⟩) (h := ?_)
       rotate_left
       ·(intro w hSw; (try dsimp only at hSw); go_simp; (try with_reducible rfl))
       (try simp only [Act.put,xL4,xL5,xL6])
       refine xT 14 (v := ?_) (hy := Or.inl ⟨by rfl,?_⟩) (h := ?_)
       rotate_left
       ·(intro w hSw; (try dsimp only at hSw); go_simp; (try with_reducible rfl))
       (try simp only [Act.put,xL4,xL5,xL6])
       refine xT 15 (v := ?_) (hy := Or.inl ⟨by rfl,?_⟩) (h := ?_)
       rotate_left
       ·(intro w hSw; (try dsimp only at hSw); go_simp; (try with_reducible rfl))
       (try simp only [Act.put,xL4,xL5,xL6])
       refine xR [8] (h := ?_)
       refine xN (h := fun K hK => ?_)
       go_simp
       refine (qabs_at _ (q x9) 3193 _ ((HRP.out.below BB).at _ (HVZ.out x9)) (by omega) (by omega) (ht0.out.below BB)).mono ?_
       rintro e w81 ⟨v8,rfl,h8,b81⟩
       go_wp2_with fail
       replace BB := BB.trans (b81.mono BB.size)
       clear b81
       refine hK.out _ _ ?_ (fun hH1 => ?_)
       ·exact ⟨(OW0.out.below BB).cell HLE.out HX9.out,(OW0.out.below BB).cell HLE.out HX.out,(KP0.out.below BB).cell,(KP1.out.below BB).cell,(KP2.out.below BB).cell,(KQ0.out.below BB).cell,(KQ1.out.below BB).cell,(KQ2.out.below BB).cell⟩
       clear hK K hHeld
       (try simp only [Act.put,xL4,xL5,xL6])
       refine xR [16] (h := ?_)
       refine xN (h := fun K hK => ?_)
       go_simp
       refine (qabs_at _ (q x) 3193 _ ((HRQ.out.below BB).at _ (HVZ.out x)) (by omega) (by omega) (ht0.out.below BB)).mono ?_
       rintro e w82 ⟨v9,rfl,h9,b82⟩
       go_wp2_with fail
       replace h8 := h8.below b82
       replace BB := BB.trans (b82.mono BB.size)
       clear b82
       refine hK.out _ _ ?_ (fun hH2 => ?_)
       ·exact ⟨(OW0.out.below BB).cell HLE.out HX9.out,(OW0.out.below BB).cell HLE.out HX.out,(KP0.out.below BB).cell,(KP1.out.below BB).cell,(KP2.out.below BB).cell,(KQ0.out.below BB).cell,(KQ1.out.below BB).cell,(KQ2.out.below BB).cell⟩
       clear hK K hH1
       (try simp only [Act.put,xL4,xL5,xL6])
       refine xR [17] (h := ?_)
       refine xN (h := fun K hK => ?_)
       go_simp
       refine (qcmp_at _ _ (absQ (q x9)) (absQ (q x)) 3193 _ (h8.at _ HAP.out) (h9.at _ HAQ.out) (by omega) (by omega)).mono ?_
       rintro e w83 ⟨rfl,b83⟩
       go_wp2_with fail
       replace h8 := h8.below b83
       replace h9 := h9.below b83
       replace BB := BB.trans (b83.mono BB.size)
       clear b83
       refine hK.out _ _ ?_ (fun hH3 => ?_)
       ·exact ⟨(OW0.out.below BB).cell HLE.out HX9.out,(OW0.out.below BB).cell HLE.out HX.out,(KP0.out.below BB).cell,(KP1.out.below BB).cell,(KP2.out.below BB).cell,(KQ0.out.below BB).cell,(KQ1.out.below BB).cell,(KQ2.out.below BB).cell⟩
       clear hK K hH2
       (try simp only [Act.put,xL4,xL5,xL6])
       refine xT 18 (v := ?_) (hy := Or.inl ⟨by rfl,?_⟩) (h := ?_)
       rotate_left
       ·(intro w hSw; (try dsimp only at hSw); go_simp; (try with_reducible rfl))
       (try simp only [Act.put,xL4,xL5,xL6])
       refine wpAnyH_done (by kernel_rfl) ?_ _
       clear hH3
       clear h8 h9
       have HCC : Hid ((cmpQ (absQ (q x9)) (absQ (q x)) = 1) ∨ (cmpQ (absQ (q x9)) (absQ (q x)) = 0 ∧ x9 < x)) := by
        rcases HAH.out with h | h
        ·left
         unfold cmpQ
         rw [if_neg (by grind),if_pos h]
        ·right
         refine ⟨?_,h.2⟩
         unfold cmpQ
         rw [h.1,if_neg (by grind),if_neg (by grind)]
       obtain ⟨cc,hcc⟩ : ∃ cc,cmpQ (absQ (q x9)) (absQ (q x)) = cc := ⟨_,rfl⟩
       rw [hcc] at HCC ⊢
       clear hcc
       rcases HCC.out with hc9 | ⟨hc9,hxx⟩
       ·subst hc9
        go_wp2
        have hDr : Below w83.heap.size w83 w83.drew := (Below.refl _ _).drew
        replace BB := BB.trans (hDr.mono BB.size)
        clear hDr
        refine wp_region_held_drew (S := (fun w' => w'.cell? ⟨go,j0,none⟩ = some (.int .i64 (x9 : Int)) ∧ w'.cell? ⟨go,j,none⟩ = some (.int .i64 (x : Int)))) (by kernel_rfl) ?_ (fun hHeld => ?_)
        ·exact ⟨(OW0.out.below BB).cell HLE.out HX9.out,(OW0.out.below BB).cell HLE.out HX.out⟩
        generalize w83.drew = W142 at *
        refine xT 0 (v := ?_) (hy := Or.inl ⟨by rfl,?_⟩) (h := ?_)
        rotate_left
        ·(intro w hSw; (try dsimp only at hSw); go_simp; (try with_reducible rfl))
        (try simp only [Act.put,xL4,xL5,xL6])
        refine xT 1 (v := ?_) (hy := Or.inl ⟨by rfl,?_⟩) (h := ?_)
        rotate_left
        ·(intro w hSw; (try dsimp only at hSw); go_simp; (try with_reducible rfl))
        (try simp only [Act.put,xL4,xL5,xL6])
        refine xT 2 (v := ?_) (hy := Or.inl ⟨by rfl,?_⟩) (h := ?_)
        rotate_left
        ·(intro w hSw; (try dsimp only at hSw); go_simp; (try with_reducible rfl))
        (try simp only [Act.put,xL4,xL5,xL6])
        refine xT 3 (v := ?_) (hy := Or.inl ⟨by rfl,?_⟩) (h := ?_)
        rotate_left
        ·(intro w hSw; (try dsimp only at hSw); go_simp; (try with_reducible rfl))
        (try simp only [Act.put,xL4,xL5,xL6])
        refine xT 4 (v := ?_) (hy := Or.inl ⟨by rfl,?_⟩) (h := ?_)
        rotate_left
        ·(intro w hSw; (try dsimp only at hSw); go_simp; (try with_reducible rfl))
        (try simp only [Act.put,xL4,xL5,xL6])
        refine xT 5 (v := ?_) (hy := Or.inl ⟨by rfl,?_⟩) (h := ?_)
        rotate_left
        ·(intro w hSw; (try dsimp only at hSw); go_simp; (try with_reducible rfl))
        (try simp only [Act.put,xL4,xL5,xL6])
        refine xT 6 (v := undef) (hy := Or.inr ⟨by rfl,rfl⟩) (h := ?_)
        (try simp only [Act.put,xL4,xL5,xL6])
        refine xT 7 (v := undef) (hy := Or.inr ⟨by rfl,rfl⟩) (h := ?_)
        (try simp only [Act.put,xL4,xL5,xL6])
        refine xT 8 (v := undef) (hy := Or.inr ⟨by rfl,rfl⟩) (h := ?_)
        (try simp only [Act.put,xL4,xL5,xL6])
        refine xT 9 (v := undef) (hy := Or.inr ⟨by rfl,rfl⟩) (h := ?_)
        (try simp only [Act.put,xL4,xL5,xL6])
        refine xT 10 (v := undef) (hy := Or.inr ⟨by rfl,rfl⟩) (h := ?_)
        (try simp only [Act.put,xL4,xL5,xL6])
        refine xT 11 (v := undef) (hy := Or.inr ⟨by rfl,rfl⟩) (h := ?_)
        (try simp only [Act.put,xL4,xL5,xL6])
        refine xT 12 (v := undef) (hy := Or.inr ⟨by rfl,rfl⟩) (h := ?_)
        (try simp only [Act.put,xL4,xL5,xL6])
        refine xT 13 (v := undef) (hy := Or.inr ⟨by rfl,rfl⟩) (h := ?_)
        (try simp only [Act.put,xL4,xL5,xL6])
        refine xT 14 (v := undef) (hy := Or.inr ⟨by rfl,rfl⟩) (h := ?_)
        (try simp only [Act.put,xL4,xL5,xL6])
        refine xT 15 (v := undef) (hy := Or.inr ⟨by rfl,rfl⟩) (h := ?_)
        (try simp only [Act.put,xL4,xL5,xL6])
        refine xT 16 (v := ?_) (hy := Or.inl ⟨by rfl,?_⟩) (h := ?_)
        rotate_left
        ·(intro w hSw; (try dsimp only at hSw); go_simp; (try with_reducible rfl))
        (try simp only [Act.put,xL4,xL5,xL6])
        refine xT 17 (v := ?_) (hy := Or.inl ⟨by rfl,?_⟩) (h := ?_)
        rotate_left
        ·(intro w hSw; (try dsimp only at hSw); go_simp; (try with_reducible rfl))
        (try simp only [Act.put,xL4,xL5,xL6])
        refine wpAnyH_done (by kernel_rfl) ?_ _
        clear hHeld
        go_wp2
        go_roundw
        case rel => exact ⟨j + 1,by omega,by go_num,BB⟩
        case measure => simp [intOf]; omega
       ·subst hc9
        have hxi2 : ¬ (x : Int) ≤ (x9 : Int) := by omega
        go_wp2
        have hDr : Below w83.heap.size w83 w83.drew := (Below.refl _ _).drew
        replace BB := BB.trans (hDr.mono BB.size)
        clear hDr
        refine wp_region_held_drew (S := (fun w' => w'.cell? ⟨go,j0,none⟩ = some (.int .i64 (x9 : Int)) ∧ w'.cell? ⟨go,j,none⟩ = some (.int .i64 (x : Int)))) (by kernel_rfl) ?_ (fun hHeld => ?_)
        ·exact ⟨(OW0.out.below BB).cell HLE.out HX9.out,(OW0.out.below BB).cell HLE.out HX.out⟩
        generalize w83.drew = W142 at *
        refine xT 0 (v := ?_) (hy := Or.inl ⟨by rfl,?_⟩) (h := ?_)
        rotate_left
        ·(intro w hSw; (try dsimp only at hSw); go_simp; (try with_reducible rfl))
        (try simp only [Act.put,xL4,xL5,xL6])
        refine xT 1 (v := ?_) (hy := Or.inl ⟨by rfl,?_⟩) (h := ?_)
        rotate_left
        ·(intro w hSw; (try dsimp only at hSw); go_simp; (try with_reducible rfl))
        (try simp only [Act.put,xL4,xL5,xL6])
        refine xT 2 (v := ?_) (hy := Or.inl ⟨by rfl,?_⟩) (h := ?_)
        rotate_left
        ·(intro w hSw; (try dsimp only at hSw); go_simp; (try with_reducible rfl))
        (try simp only [Act.put,xL4,xL5,xL6])
        refine xT 3 (v := ?_) (hy := Or.inl ⟨by rfl,?_⟩) (h := ?_)
        rotate_left
        ·(intro w hSw; (try dsimp only at hSw); go_simp; (try with_reducible rfl))
        (try simp only [Act.put,xL4,xL5,xL6])
        refine xT 4 (v := ?_) (hy := Or.inl ⟨by rfl,?_⟩) (h := ?_)
        rotate_left
        ·(intro w hSw; (try dsimp only at hSw); go_simp; (try with_reducible rfl))
        (try simp only [Act.put,xL4,xL5,xL6])
        refine xT 5 (v := ?_) (hy := Or.inl ⟨by rfl,?_⟩) (h := ?_)
        rotate_left
        ·(intro w hSw; (try dsimp only at hSw); go_simp; (try with_reducible rfl))
        (try simp only [Act.put,xL4,xL5,xL6])
        refine xT 6 (v := ?_) (hy := Or.inl ⟨by rfl,?_⟩) (h := ?_)
        rotate_left
        ·(intro w hSw; (try dsimp only at hSw); go_simp; (try with_reducible rfl))
        (try simp only [Act.put,xL4,xL5,xL6])
        refine xT 7 (v := ?_) (hy := Or.inl ⟨by rfl,?_⟩) (h := ?_)
        rotate_left
        ·(intro w hSw; (try dsimp only at hSw); go_simp; (try with_reducible rfl))
        (try simp only [Act.put,xL4,xL5,xL6])
        refine xT 8 (v := ?_) (hy := Or.inl ⟨by rfl,?_⟩) (h := ?_)
        rotate_left
        ·(intro w hSw; (try dsimp only at hSw); go_simp; (try with_reducible rfl))
        (try simp only [Act.put,xL4,xL5,xL6])
        refine xT 9 (v := ?_) (hy := Or.inl ⟨by rfl,?_⟩) (h := ?_)
        rotate_left
        ·(intro w hSw; (try dsimp only at hSw); go_simp; (try with_reducible rfl))
        (try simp only [Act.put,xL4,xL5,xL6])
        refine xT 10 (v := ?_) (hy := Or.inl ⟨by rfl,?_⟩) (h := ?_)
        rotate_left
        ·(intro w hSw; (try dsimp only at hSw); go_simp; (try with_reducible rfl))
        (try simp only [Act.put,xL4,xL5,xL6])
        refine xT 11 (v := ?_) (hy := Or.inl ⟨by rfl,?_⟩) (h := ?_)
        rotate_left
        ·(intro w hSw; (try dsimp only at hSw); go_simp; (try with_reducible rfl))
        (try simp only [Act.put,xL4,xL5,xL6])
        refine xT 12 (v := ?_) (hy := Or.inl ⟨by rfl,?_⟩) (h := ?_)
        rotate_left
        ·(intro w hSw; (try dsimp only at hSw); go_simp; (try with_reducible rfl))
        (try simp only [Act.put,xL4,xL5,xL6])
        refine xT 13 (v := ?_) (hy := Or.inl ⟨by rfl,?_⟩) (h := ?_)
        rotate_left
        ·(intro w hSw; (try dsimp only at hSw); go_simp; (try with_reducible rfl))
        (try simp only [Act.put,xL4,xL5,xL6])
        refine xT 14 (v := ?_) (hy := Or.inl ⟨by rfl,?_⟩) (h := ?_)
        rotate_left
        ·(intro w hSw; (try dsimp only at hSw); go_simp; (try with_reducible rfl))
        (try simp only [Act.put,xL4,xL5,xL6])
        refine xT 15 (v := ?_) (hy := Or.inl ⟨by rfl,?_⟩) (h := ?_)
        rotate_left
        ·(intro w hSw; (try dsimp only at hSw); go_simp; (try with_reducible rfl))
        (try simp only [Act.put,xL4,xL5,xL6])
        refine xT 16 (v := ?_) (hy := Or.inl ⟨by rfl,?_⟩) (h := ?_)
        rotate_left
        ·(intro w hSw; (try dsimp only at hSw); go_simp; (try with_reducible rfl))
        (try simp only [Act.put,xL4,xL5,xL6])
        refine xT 17 (v := ?_) (hy := Or.inl ⟨by rfl,?_⟩) (h := ?_)
        rotate_left
        ·(intro w hSw; (try dsimp only at hSw); go_simp; (try with_reducible rfl))
        (try simp only [Act.put,xL4,xL5,xL6])
        refine wpAnyH_done (by kernel_rfl) ?_ _
        clear hHeld
        go_wp2
        go_roundw
        case rel => exact ⟨j + 1,by omega,by go_num,BB⟩
        case measure => simp [intOf]; omega
     ·obtain rfl : j = len := by omega
      have f1 : ¬ (j : Int) < (j : Int) := by omega
      go_wp2_with fail
      refine (awake12_at _ (ht0.out.below BL)).mono ?_
      rintro e w9 ⟨rfl,b9⟩
      go_wp2
      go_ret
      exact ⟨rfl,(BB.trans (BL.mono BB.size)).trans (b9.mono (by have := BB.size; have := BL.size; omega))⟩
 ·obtain ⟨e1,he1⟩ : ∃ e1,whyI F k3 NN T m = e1 := ⟨_,rfl⟩
  have HE : Hid (whyI F k3 NN T m = e1) := he1
  have HN : Hid (whyI F k3 NN T m ≠ 0) := h0
  rw [he1] at h0
  clear he1
  have g2 : (e1 != 0) = true := by simpa using h0
  have g3 : decide (e1 = 0) = false := decide_eq_false h0
  refine (sorder_no F _ _ k3 m NN T r 4 10 _ MR CR ht (by omega) (by omega) (by omega) HN.out).mono ?_
  rintro e w6 ⟨rfl,b6⟩
  replace ht := ht.below b6
  replace MR := MR.below b6
  replace CR := CR.below b6
  replace VM := VM.below b6
  replace BB := BB.trans (b6.mono BB.size)
  clear b6
  rw [HE.out]
  obtain ⟨VM_0,VM_1,VM_2,VM_3⟩ := id VM
  go_wp2_with fail
  clear VM_0 VM_1 VM_2 VM_3
  refine (svalues_no F _ _ k3 m NN T r 4 10 _ MR CR ht (by omega) (by omega) (by omega) HN.out).mono ?_
  rintro e w7 ⟨rfl,b7⟩
  replace ht := ht.below b7
  replace MR := MR.below b7
  replace CR := CR.below b7
  replace VM := VM.below b7
  replace BB := BB.trans (b7.mono BB.size)
  clear b7
  rw [HE.out]
  obtain ⟨VM_0,VM_1,VM_2,VM_3⟩ := id VM
  go_wp2_with fail
  clear VM_0 VM_1 VM_2 VM_3
  refine (awake12_at _ ht).mono ?_
  rintro e w8 ⟨rfl,b8⟩
  replace ht := ht.below b8
  replace MR := MR.below b8
  replace CR := CR.below b8
  replace VM := VM.below b8
  replace BB := BB.trans (b8.mono BB.size)
  clear b8
  go_wp2
  go_ret
  exact ⟨rfl,BB⟩
theorem own : ownKnob Tryz.prog.godebug = none := by kernel_rfl
theorem laidOut : laidOutB Tryz.prog = true := by kernel_rfl

abbrev laid1 : List (String × DataW Unit) := [("math/bits.deBruijn64tab",Rows.laid_math_bits_deBruijn64tab)]
theorem gTab : Tryz.prog.globalNamed "math/bits.deBruijn64tab" = some 0 := by kernel_rfl
theorem gTabType : (Tryz.prog.globals[0]?).map (·.type) = some 213 := by kernel_rfl
theorem uTab : Tryz.prog.underlying 213 = some (.array 64 5) := by kernel_rfl
theorem uCell : Tryz.prog.underlying 5 = some (.int .u8) := by kernel_rfl
theorem cCell : Tryz.prog.cellsOf 5 = 1 := by kernel_rfl
theorem cTab : Tryz.prog.cellsOf 213 = 64 := by kernel_rfl
/-- The listed table lies in its cells. -/
theorem tab_of {W : World} (h : laidMetH Tryz.prog laid1 W) : Tab W := by
 rw [MakeChecks.laidMetH_plain _ _ _ (by kernel_rfl)] at h
 have hd : laid1 = [("math/bits.deBruijn64tab",Lib.tabData .u8 (Lib.deBruijn64tab.map fun (n : Nat) => Int.ofNat n))] := rfl
 rw [hd] at h
 have hT := Lib.tabIs_of_head gTab gTabType uTab uCell cCell cTab h
 intro i hi
 have hc := hT.cell gTab i (by rw [List.length_map]; exact hi)
 rw [hc]
 congr 2
 rw [List.getD_eq_getElem?_getD,List.getElem?_map,List.getD_eq_getElem?_getD]
 cases Lib.deBruijn64tab[i]? <;> rfl
/-- A start for the witness: the heap that the run of the program's own initialisers leaves. -/
noncomputable def startW (os : Os) : World := { World.holding Tryz.prog os ⟨#[],#[],[]⟩ with heap := (varsWorld Tryz.prog 400 (varsId Tryz.prog) os (fun _ _ => 0)).heap }
theorem start_met (os : Os) (args : Array Value) : laidMetH Tryz.prog laid1 ((startW os).forCall (fun _ _ => 0) ⟨#[],args,[]⟩).memory :=
 laidMetH_of_parts3 (fuel := 8) (laidMet_of_run' 8 (by kernel_rfl) (by kernel_rfl)) (by kernel_rfl) (by kernel_rfl)

set_option maxRecDepth 100000 in
theorem lifted (os : Os) (started : os.Started) (H : Type) (enc : TypeId × Value → H) :
  ReturnsInHanded {} Tryz.checked os 12 .any (fun w args => (Rows.saabasOrdersSpec.pre enc Tryz.prog Tryz.f12 [] false w args ∧ laidMetH Tryz.prog laid1 w) ∧ sizedMet enc Tryz.prog Tryz.f12 (OpenSpec.ofChange Rows.saabasOrdersSpec) false w args) (Rows.saabasOrdersSpec.post enc Tryz.prog Tryz.f12 false true false false) := by
 refine returnsInHanded_of_change_and (C := Tryz.checked) (X := fun w _ => laidMetH Tryz.prog laid1 w) (fun _ _ _ hh h => h.of_heap hh) own started (by kernel_rfl) Tryz.func12
  (ChangeSpec.witness_shaped (enc := enc) (C := Tryz.checked) (os := os) (X := fun w _ => laidMetH Tryz.prog laid1 w) false (startW os) #[.agg #[.int .i64 0,.slice none 0 0],.slice none 0 0] 8 rfl (World.shaped_of_RefB (by kernel_rfl) (by kernel_rfl)) (by kernel_rfl) (by kernel_rfl) (by kernel_rfl) (start_met os _)) ?_
 intro W base args ds gs before hval0 hW _ _ hL _
 have hval : ∀ (j : Nat) t v,Tryz.f12.params[j]? = some t → args[j]? = some v → Value.okWide Tryz.prog W .any base t v := hval0
 have hW' := hW
 obtain ⟨p,q,hA0,hV,rfl,hfz,hnd⟩ := hW
 have hA : DataW.TrodAll enc Tryz.prog W 0 (fun _ => true) true Tryz.f12.params.toList args.toList ds p := hA0
 rw [Tryz.params12] at hA hval
 obtain ⟨v0,vs0,d0,ds0,p0,q0,hargs,rfl,rfl,h0,r0⟩ := trodAll_cons hA
 obtain ⟨v1,vs1,d1,ds1,p1,q1,rfl,rfl,rfl,h1,r1⟩ := trodAll_cons r0
 obtain ⟨rfl,rfl,rfl⟩ := trodAll_nil r1
 obtain rfl : args = #[v0,v1] := by cases args; simp_all
 obtain ⟨rfl,rfl⟩ := trodVars_none hV
 have k0 := h0
 have lt0 : ∀ x ∈ p0,x.block < W.heap.size := by obtain ⟨m,hm⟩ := k0; exact DataW.trod_lt m _ _ _ hm
 obtain ⟨F0,a0,c0,n0,N0,z0,rfl,f0,w0⟩ := open_model 4 (hval 0 24 v0 rfl rfl) h0
 have k1 := h1
 have lt1 : ∀ x ∈ p1,x.block < W.heap.size := by obtain ⟨m,hm⟩ := k1; exact DataW.trod_lt m _ _ _ hm
 obtain ⟨n1,z1,w1⟩ := open_cells 3 (hval 1 25 v1 rfl rfl) h1
 clear hA0 hval0
 refine (walk _ _ _ _ _ _ _ _ _ W f0 w0 w1 (tab_of hL)).mono fun e W' ⟨he,bel⟩ => ?_
 subst he
 exact ⟨_,rfl,_,_,_,[],_,[],hW',trodAll_mk1 (shut_bool Tryz.underlying4 _),(trodAll_cons_mk (Below.trod laidOut (by kernel_rfl) (of_decide_eq_true (by kernel_rfl)) k0 bel lt0) (trodAll_cons_mk (Below.trod laidOut (by kernel_rfl) (of_decide_eq_true (by kernel_rfl)) k1 bel lt1) trodAll_mk0)),rfl,bel.frame _,fun h => by cases h⟩

theorem over : Rows.saabasOrdersRow.holds Tryz.pinned (OpenSpec.ofChange Rows.saabasOrdersSpec) :=
 OpenClaim.holds_of_wide 12 Tryz.f12 rfl rfl rfl rfl rfl rfl rfl ⟨rfl,rfl,rfl,rfl,rfl⟩ rfl rfl rfl rfl rfl (by kernel_rfl) Tryz.func12 (by kernel_rfl)
  (of_decide_eq_true (by kernel_rfl)) (by unfold Func.isWrapper; first | (rw [if_pos (by decide +kernel)]; kernel_rfl) | (rw [if_neg (by decide +kernel)]; exact ⟨rfl,rfl⟩))
  (fun os started H enc _ => lifted os started H enc)

end Go.Proofs.YtjmagcgobhaenaaGreatDoor.saabasOrders
namespace Go.Proofs.YtjmagcgobhaenaaGreatDoor
/-- The statement: the row, tied to the text of the program. -/
theorem saabasOrders_holds : Rows.SaabasOrdersCardSaid :=
 Claim7.holds_tied_plain_at .later [] [.data] true (true,"96e10479682fd2d0092d6d8080c64f56979f34b188a27a43367f1dfae78bc047") false
  saabasOrders.over (fun _ h => by cases h) (by kernel_rfl) (fun _ h => by cases h) saabasOrders_row_tie rfl ⟨rfl,rfl⟩ (by kernel_rfl) rfl
  (fun f fn hf hfn => by
   obtain rfl : f = 12 := Option.some.inj ((show Tryz.prog.funcNamed "dendron/dendronlaw12.SaabasOrders" = some 12 by kernel_rfl).symm.trans hf) |>.symm
   obtain rfl : fn = Tryz.f12 := (Option.some.inj (Tryz.func12.symm.trans hfn)).symm
   exact ⟨by kernel_rfl,fun j t ht => by
    rw [Tryz.params12] at ht
    have hm : t ∈ [24,25] := by simpa using Array.mem_of_getElem? ht
    have hall : ([24,25].all fun u => !Tryz.prog.wantsStandIn u) = true := by kernel_rfl
    exact (show Tryz.prog.wantsStandIn t = false by simpa using List.all_eq_true.1 hall t hm)⟩)
  (by kernel_rfl)
end Go.Proofs.YtjmagcgobhaenaaGreatDoor
