/-
 Proves that Table tells what any model of up to 3 trees of up to 15 nodes says of any row for each set of its up to 5 features,that more than 12 are refused,or why nothing is told,whatever comes in (the statement ExpectTables,its tied card); the table of math/bits lies as the program's text lays it; no other condition.
-/
import Derived.Test.YtgddiimnpliolaaGreatDoorJb82b0d9242
import Derived.Test.YtgddiimnpliolaaGreatDoorRows
import Derived.Test.YtgddiimnpliolaaGreatDoorJ86f789ac4d
import Derived.Test.YtgddiimnpliolaaGreatDoorJ431e954cbc
import Derived.Test.YtgddiimnpliolaaGreatDoorJada406a342
import Derived.Test.YtgddiimnpliolaaGreatDoorJ2a46badc0a
import Derived.Test.YtgddiimnpliolaaGreatDoorJ301628d5e9
import Derived.WalkKit
import Derived.ProofKit
import Derived.OpenShut
import Derived.ShutString
import Derived.ChangeOld
import Derived.Below
import Derived.Test.YtgddiimnpliolaaGreatDoorTie
import Derived.Test.YtgddiimnpliolaaGreatDoorCards
import Derived.LaidByTextLater
import Derived.LaidHandle
import Derived.Lib.LaidTab
import Derived.SevenTiedAt
namespace Go.Proofs.YtgddiimnpliolaaGreatDoor.expectTables
open Go.ChangeShapes Go.WideShapes Go.ChangeAt Go.RowKit
open Go.ChangeMaps (open_string shut_string)
set_option linter.unusedVariables false
set_option linter.unusedSimpArgs false

set_option maxRecDepth 100000 in
set_option maxHeartbeats 16000000 in
theorem walk (F : Int) (ao : Option Addr) (c k : Nat) (N : Nat → Nat) (T : Nat → Nat → Nd) (v2 : Value) (nr : Nat) (r : Nat → Cl) (w : World) (hF : I64 F) (hv : MRaw w (.slice ao k c) k N T 4) (hr : CRaw w v2 nr r 3) (ht : Tab w) :
  Calls Tryz.prog 3 #[.agg #[.int .i64 F,.slice ao k c],v2] w fun e w' => e = .returned (.bool true) ∧ Below w.heap.size w w' := by
 obtain ⟨ar,cr,rfl,hrc,hr63⟩ := hr.open
 have BB : Below w.heap.size w w := Below.refl _ _
 obtain ⟨Wb0,hW0,hS0,hL0,VM⟩ := V2.lay w 24 (.int .i64 F) (.slice ao k c)
 replace ht := ht.below hL0
 have hv1 := hv.below hL0
 have hr1 := hr.below hL0
 replace BB := BB.trans (hL0.mono BB.size)
 clear hL0
 go_enter Tryz.func3,Tryz.ntmps3
 obtain ⟨VM_0,VM_1,VM_2,VM_3⟩ := id VM
 rw [hW0] at VM_0 VM_1 VM_2 VM_3
 go_wp2_with fail
 clear VM_0 VM_1 VM_2 VM_3
 rw [← hW0]
 have hsz : w.heap.size < Wb0.heap.size := VM.lt
 clear hW0 hS0
 refine (small11_at F _ k N T _ nr r _ hv1 hr1).mono ?_
 rintro e w1 ⟨am,cm,au,cu,rfl,MO,CO,b1⟩
 replace ht := ht.below b1
 replace VM := VM.below b1
 replace BB := BB.trans (b1.mono BB.size)
 clear b1 hv1 hr1 hv hr
 obtain ⟨q1,q2,q3,q4⟩ := id VM
 have K1 : KeepQ IsLimb w1 (w1.setCell ⟨w.heap.size,0,none⟩ (.int .i64 F)) := keepL_set q1 (limb_int _) _
 have K2 := keepL_set (cell_set_by (u := .int .i64 F) (j := 0) q2 (by omega)) (limb_slice _ _ _) (.slice am (min (min k 6) 3) cm)
 have MO_n := (MO.set (a := ⟨w.heap.size,0,none⟩) hsz _ K1).set (a := ⟨w.heap.size,1,none⟩) hsz _ K2
 have CO_n := (CO.set (a := ⟨w.heap.size,0,none⟩) hsz _ K1).set (a := ⟨w.heap.size,1,none⟩) hsz _ K2
 have VM_n := VM.same (.int .i64 F) (.slice am (min (min k 6) 3) cm)
 have ht_n := (ht.keepL K1).keepL K2
 have BB_n := below_store2 (R := w.heap.size) BB (Nat.le_refl _) (.int .i64 F) (.slice am (min (min k 6) 3) cm)
 have MR_n := MO_n.row.cut11 (Nat.min_le_left (min k 6) 3)
 have CR_n := CO_n.row.mono (show 3 ≤ 4 by omega)
 have hk3 : min (min k 6) 3 ≤ 3 := Nat.min_le_right _ _
 have HNN : Hid (∀ i,(fun i => min (N i) 15) i ≤ 15) := fun i => Nat.min_le_right _ _
 have hm70 : min nr 70 ≤ 70 := Nat.min_le_right _ _
 clear K1 K2 MO CO MO_n CO_n
 generalize min (min k 6) 3 = k3 at *
 generalize (fun i => min (N i) 15) = NN at *
 generalize min nr 70 = m at *
 obtain ⟨z1,z2,z3,z4⟩ := id VM_n
 go_wp2_with fail
 clear q1 q2 q3 q4 z1 z2 z3 z4 VM ht BB hsz
 generalize (w1.setCell ⟨w.heap.size,0,none⟩ (.int .i64 F)).setCell ⟨w.heap.size,1,none⟩ (.slice am k3 cm) = W3 at *
 have VM := VM_n
 have ht := ht_n
 have BB := BB_n
 have MR := MR_n
 have CR := CR_n
 clear VM_n ht_n BB_n MR_n CR_n
 by_cases h0 : whyI F k3 NN T m = 0
 ·obtain ⟨hB,hmF⟩ := whyI_zero11 h0
  have HB : Hid (whyI (m : Int) k3 NN T m = 0) := by rw [hmF]; exact h0
  subst hmF
  have HMF := mayB_may hB
  have HMY : Hid (∀ i,i < k3 → MayT (m : Int) (T i) (NN i)) := HMF.2.2.2
  have hm64 : (m : Int) ≤ 64 := HMF.2.1
  clear hB h0 hF HMF
  have HS : Hid (∀ s,qsz (sumq (sayV T NN r s) k3) ≤ 229) := fun s => sayV_few MR HMY.out HNN.out hk3 r s
  by_cases h5 : m ≤ 5
  ·have j1 : ¬ (5 : Int) < (m : Int) := by omega
   have j3 : ¬ (12 : Int) < (m : Int) := by omega
   have j4 : decide ((5 : Int) < (m : Int)) = false := decide_eq_false j1
   have j5 : decide (5 < m) = false := decide_eq_false (by omega)
   have j6 : decide ((12 : Int) < (m : Int)) = false := decide_eq_false j3
   have j7 : decide (12 < m) = false := decide_eq_false (by omega)
   obtain ⟨S,hS⟩ : ∃ S,S = 2 ^ m := ⟨_,rfl⟩
   have HSP : Hid (S = 2 ^ m) := hS
   clear hS
   refine (lwhy_at (m : Int) _ _ k3 m NN T r 4 _ MR CR ht (by omega) (by omega)).mono ?_
   rintro e w6 ⟨rfl,b6⟩
   replace ht := ht.below b6
   replace MR := MR.below b6
   replace CR := CR.below b6
   replace VM := VM.below b6
   replace BB := BB.trans (b6.mono BB.size)
   clear b6
   rw [HB.out]
   obtain ⟨VM_0,VM_1,VM_2,VM_3⟩ := id VM
   go_wp2_with fail
   clear VM_0 VM_1 VM_2 VM_3
   refine (table_yes _ _ k3 m NN T r 4 18 _ MR CR ht (by omega) (by omega) (by omega) S HSP.out HB.out (by omega) (by omega) HMY.out).mono ?_
   rintro e w7 ⟨u,rfl,FR,b7⟩
   replace ht := ht.below b7
   replace MR := MR.below b7
   replace CR := CR.below b7
   replace VM := VM.below b7
   replace BB := BB.trans (b7.mono BB.size)
   clear b7
   obtain ⟨al,cl,rfl⟩ := FR.open
   obtain ⟨VM_0,VM_1,VM_2,VM_3⟩ := id VM
   go_wp2_with fail
   clear VM_0 VM_1 VM_2 VM_3
   have ht0 : Hid (Tab w7) := ht
   have MR0 : Hid (MRow w7 (.slice am k3 cm) k3 NN T 4) := MR
   have CR0 : Hid (CRow w7 (.slice au m cu) m r 4) := CR
   have FR0 : Hid (FRow w7 (.slice al S cl) S (fun s => sumq (sayV T NN r s) k3)) := FR
   have VM0 : Hid (V2 w7 w.heap.size (.int .i64 (m : Int)) (.slice am k3 cm)) := VM
   clear ht MR CR FR VM
   have hS32 : S ≤ 32 := by rw [HSP.out]; exact Nat.le_trans (Nat.pow_le_pow_right (by omega) h5) (by decide)
   clear h5
   go_loopw [8,9] (fun vn vi wr => ∃ i P : Nat,i ≤ m ∧ vi = .int .i64 (i : Int) ∧ vn = .int .i64 (P : Int) ∧ Hid (P = 2 ^ i) ∧ P ≤ 32 ∧ Below w7.heap.size w7 wr) (fun _ vi _ => m - (intOf vi).toNat)
   case atStart => exact ⟨0,1,by omega,rfl,rfl,rfl,by omega,Below.refl _ _⟩
   case round =>
    obtain ⟨i,P,hi,rfl,rfl,HP,hP32,BL⟩ := hrel
    obtain ⟨m1,m2,m3,m4⟩ := VM0.out.below BL
    by_cases hlt : i < m
    ·have g0 : (0 : Int) ≤ (i : Int) := by omega
     have g1 : (i : Int) < (m : Int) := by omega
     have wi : IntKind.i64.wrap ((i : Int) + 1) = (i : Int) + 1 := by rw [IntKind.wrap_i64]; omega
     have HP2 : Hid (2 * P = 2 ^ (i + 1)) := by show 2 * P = 2 ^ (i + 1); rw [HP.out,Nat.pow_succ,Nat.mul_comm]
     have hP2 : 2 * P ≤ 32 := by have h9 := HP2.out; have h8 := HSP.out; have h7 : 2 ^ (i + 1) ≤ 2 ^ m := Nat.pow_le_pow_right (by omega) (by omega); omega
     have wp : IntKind.i64.wrap (2 * (P : Int)) = 2 * (P : Int) := by rw [IntKind.wrap_i64]; omega
     go_wp2
     go_roundw
     case rel => exact ⟨i + 1,2 * P,by omega,by go_num,by go_num,HP2,hP2,BL⟩
     case measure => simp [intOf]; omega
    ·obtain rfl : i = m := by omega
     have g1 : ¬ (i : Int) < (i : Int) := by omega
     obtain rfl : P = S := by have h9 := HP.out; have h8 := HSP.out; omega
     have g2 : ((P : Int) != (P : Int)) = false := by simp
     go_wp2
     clear m1 m2 m3 m4
     go_loopw [10] (fun vs wr => ∃ s : Nat,s ≤ P ∧ vs = .int .i64 (s : Int) ∧ Below w7.heap.size w7 wr) (fun vs _ => P - (intOf vs).toNat)
     case atStart => exact ⟨0,by omega,rfl,BL⟩
     case round =>
      clear BL
      obtain ⟨s,hs,rfl,BL⟩ := hrel
      by_cases hls : s < P
      ·have BB0 : Hid (Below w.heap.size w w7) := BB
       clear BB
       have BB : Below w7.heap.size w7 wr := BL
       clear BL
       have f0 : (0 : Int) ≤ (s : Int) := by omega
       have f1 : (s : Int) < (P : Int) := by omega
       have ws : IntKind.i64.wrap ((s : Int) + 1) = (s : Int) + 1 := by rw [IntKind.wrap_i64]; omega
       have wu : IntKind.u64.wrap (s : Int) = (s : Int) := by rw [IntKind.wrap_u64]; omega
       obtain ⟨bl,ol,cl_,p4,a4,n4,c4,y4,m4,d4,hv4,hlc4,E4,r4⟩ := FR0.out.at s hls
       cases hv4
       have K0 : Hid (Cel10 w7 bl (ol + s * 3) (.bool p4)) := ⟨E4.1⟩
       have K1 : Hid (Cel10 w7 bl (ol + s * 3 + 1) (.slice a4 n4 c4)) := ⟨E4.2.1⟩
       have K2 : Hid (Cel10 w7 bl (ol + s * 3 + 2) (.slice y4 m4 d4)) := ⟨E4.2.2⟩
       have HR4 : Hid (RepQ w7 (.agg #[.bool p4,.slice a4 n4 c4,.slice y4 m4 d4]) (sumq (sayV T NN r s) k3)) := r4
       clear E4 r4 hlc4
       go_wp2
       have hDr : Below wr.heap.size wr wr.drew := (Below.refl _ _).drew
       replace BB := BB.trans (hDr.mono BB.size)
       clear hDr
       refine wp_region_held_drew (S := (fun w' => w'.cell? ⟨bl,ol + s * 3,none⟩ = some (.bool p4) ∧ w'.cell? ⟨bl,ol + s * 3 + 1,none⟩ = some (.slice a4 n4 c4) ∧ w'.cell? ⟨bl,ol + s * 3 + 2,none⟩ = some (.slice y4 m4 d4) ∧ w'.cell? ⟨w.heap.size,0,none⟩ = some (.int .i64 (i : Int)) ∧ w'.cell? ⟨w.heap.size,1,none⟩ = some (.slice am k3 cm))) (by kernel_rfl) ?_ (fun hHeld => ?_)
       ·exact ⟨(K0.out.below BB).cell,(K1.out.below BB).cell,(K2.out.below BB).cell,(VM0.out.below BB).1,(VM0.out.below BB).2.1⟩
       generalize wr.drew = W81 at *
       refine xT 0 (v := ?_) (hy := Or.inl ⟨by rfl,?_⟩) (h := ?_)
       rotate_left
       ·(intro w hSw; (try dsimp only at hSw); go_simp; (try with_reducible rfl))
       (try simp only [Act.put,xL4,xL5,xL6])
       refine xT 1 (v := ?_) (hy := Or.inl ⟨by rfl,?_⟩) (h := ?_)
       rotate_left
       ·(intro w hSw; (try dsimp only at hSw); go_simp; (try with_reducible rfl))
       (try simp only [Act.put,xL4,xL5,xL6])
       refine xT 2 (v := ?_) (hy := Or.inl ⟨by rfl,?_⟩) (h := ?_)
       rotate_left
       ·(intro w hSw; (try dsimp only at hSw); go_simp; (try with_reducible rfl))
       (try simp only [Act.put,xL4,xL5,xL6])
       refine xT 3 (v := ?_) (hy := Or.inl ⟨by rfl,?_⟩) (h := ?_)
       rotate_left
       ·(intro w hSw; (try dsimp only at hSw); go_simp; (try with_reducible rfl))
       (try simp only [Act.put,xL4,xL5,xL6])
       refine xT 4 (v := ?_) (hy := Or.inl ⟨by rfl,?_⟩) (h := ?_)
       rotate_left
       ·(intro w hSw; (try dsimp only at hSw); go_simp; (try with_reducible rfl))
       (try simp only [Act.put,xL4,xL5,xL6])
       refine xT 5 (v := ?_) (hy := Or.inl ⟨by rfl,?_⟩) (h := ?_)
       rotate_left
       ·(intro w hSw; (try dsimp only at hSw); go_simp; (try with_reducible rfl))
       (try simp only [Act.put,xL4,xL5,xL6])
       refine xT 6 (v := ?_) (hy := Or.inl ⟨by rfl,?_⟩) (h := ?_)
       rotate_left
       ·(intro w hSw; (try dsimp only at hSw); go_simp; (try with_reducible rfl))
       (try simp only [Act.put,xL4,xL5,xL6])
       refine xT 7 (v := ?_) (hy := Or.inl ⟨by rfl,?_⟩) (h := ?_)
       rotate_left
       ·(intro w hSw; (try dsimp only at hSw); go_simp; (try with_reducible rfl))
       (try simp only [Act.put,xL4,xL5,xL6])
       refine xR [8] (h := ?_)
       refine xN (h := fun K hK => ?_)
       go_simp
       refine (lvalue11_at (i : Int) _ _ k3 i NN T r s 4 4590 _ (MR0.out.below BB) (CR0.out.below BB) (ht0.out.below BB) (by omega) (by omega) (by omega) (by omega) (by omega) (by omega) HMY.out (say_few MR0.out HMY.out r s)).mono ?_
       rintro e w61 ⟨v3,rfl,h3,b61⟩
       obtain ⟨p3,a3,n3,c3,y3,m3,d3,rfl⟩ := h3.open
       go_wp2_with fail
       replace BB := BB.trans (b61.mono BB.size)
       clear b61
       refine hK.out _ _ ?_ (fun hH1 => ?_)
       ·exact ⟨(K0.out.below BB).cell,(K1.out.below BB).cell,(K2.out.below BB).cell,(VM0.out.below BB).1,(VM0.out.below BB).2.1⟩
       clear hK K hHeld
       (try simp only [Act.put,xL4,xL5,xL6])
       refine xR [9] (h := ?_)
       refine xN (h := fun K hK => ?_)
       go_simp
       refine (is10_at _ _ _ 229 229 _ (HR4.out.below BB) (HS.out s) (h3.at 229 (HS.out s)) (by omega) (by omega)).mono ?_
       rintro e w62 ⟨rfl,b62⟩
       go_wp2_with fail
       replace h3 := h3.below b62
       replace BB := BB.trans (b62.mono BB.size)
       clear b62
       refine hK.out _ _ ?_ (fun hH2 => ?_)
       ·exact ⟨(K0.out.below BB).cell,(K1.out.below BB).cell,(K2.out.below BB).cell,(VM0.out.below BB).1,(VM0.out.below BB).2.1⟩
       clear hK K hH1
       (try simp only [Act.put,xL4,xL5,xL6])
       refine xT 10 (v := ?_) (hy := Or.inl ⟨by rfl,?_⟩) (h := ?_)
       rotate_left
       ·(intro w hSw; (try dsimp only at hSw); go_simp; (try with_reducible rfl))
       (try simp only [Act.put,xL4,xL5,xL6])
       refine wpAnyH_done (by kernel_rfl) ?_ _
       clear hH2
       go_wp2
       go_roundw
       case rel => exact ⟨s + 1,by omega,by go_num,BB⟩
       case measure => simp [intOf]; omega
      ·obtain rfl : s = P := by omega
       have f1 : ¬ (s : Int) < (s : Int) := by omega
       go_wp2_with fail
       refine (awake11_at _ (ht0.out.below BL)).mono ?_
       rintro e w9 ⟨rfl,b9⟩
       go_wp2
       go_ret
       exact ⟨rfl,(BB.trans (BL.mono BB.size)).trans (b9.mono (by have := BB.size; have := BL.size; omega))⟩
  ·have j1 : (5 : Int) < (m : Int) := by omega
   by_cases h12 : m ≤ 12
   ·have j2 : (m : Int) ≤ 12 := by omega
    clear h5 h12
    refine (lwhy_at (m : Int) _ _ k3 m NN T r 4 _ MR CR ht (by omega) (by omega)).mono ?_
    rintro e w6 ⟨rfl,b6⟩
    replace ht := ht.below b6
    replace MR := MR.below b6
    replace CR := CR.below b6
    replace VM := VM.below b6
    replace BB := BB.trans (b6.mono BB.size)
    clear b6
    rw [HB.out]
    obtain ⟨VM_0,VM_1,VM_2,VM_3⟩ := id VM
    go_wp2_with fail
    clear VM_0 VM_1 VM_2 VM_3
    refine (awake11_at _ ht).mono ?_
    rintro e w7 ⟨rfl,b7⟩
    replace ht := ht.below b7
    replace MR := MR.below b7
    replace CR := CR.below b7
    replace VM := VM.below b7
    replace BB := BB.trans (b7.mono BB.size)
    clear b7
    go_wp2
    go_ret
    exact ⟨rfl,BB⟩
   ·have j2 : ¬ (m : Int) ≤ 12 := by omega
    have j3 : (12 : Int) < (m : Int) := by omega
    have j4 : decide ((m : Int) ≤ 12) = false := decide_eq_false j2
    have j5 : decide (m ≤ 12) = false := decide_eq_false h12
    have j6 : 12 < m := by omega
    clear h5 h12
    refine (lwhy_at (m : Int) _ _ k3 m NN T r 4 _ MR CR ht (by omega) (by omega)).mono ?_
    rintro e w6 ⟨rfl,b6⟩
    replace ht := ht.below b6
    replace MR := MR.below b6
    replace CR := CR.below b6
    replace VM := VM.below b6
    replace BB := BB.trans (b6.mono BB.size)
    clear b6
    rw [HB.out]
    obtain ⟨VM_0,VM_1,VM_2,VM_3⟩ := id VM
    go_wp2_with fail
    clear VM_0 VM_1 VM_2 VM_3
    refine (table_limit _ _ k3 m NN T r 4 18 _ MR CR ht (by omega) (by omega) (by omega) HB.out j6).mono ?_
    rintro e w7 ⟨rfl,b7⟩
    replace ht := ht.below b7
    replace MR := MR.below b7
    replace CR := CR.below b7
    replace VM := VM.below b7
    replace BB := BB.trans (b7.mono BB.size)
    clear b7
    obtain ⟨VM_0,VM_1,VM_2,VM_3⟩ := id VM
    go_wp2_with fail
    clear VM_0 VM_1 VM_2 VM_3
    refine (awake11_at _ ht).mono ?_
    rintro e w8 ⟨rfl,b8⟩
    replace ht := ht.below b8
    replace MR := MR.below b8
    replace CR := CR.below b8
    replace VM := VM.below b8
    replace BB := BB.trans (b8.mono BB.size)
    clear b8
    go_wp2
    go_ret
    exact ⟨rfl,BB⟩
 ·obtain ⟨e1,he1⟩ : ∃ e1,whyI F k3 NN T m = e1 := ⟨_,rfl⟩
  have HE : Hid (whyI F k3 NN T m = e1) := he1
  have HN : Hid (whyI F k3 NN T m ≠ 0) := h0
  rw [he1] at h0
  clear he1
  have g2 : (e1 != 0) = true := by simpa using h0
  have g3 : decide (e1 = 0) = false := decide_eq_false h0
  have g4 : (e1 == 0) = false := by simpa using h0
  refine (lwhy_at F _ _ k3 m NN T r 4 _ MR CR ht (by omega) (by omega)).mono ?_
  rintro e w6 ⟨rfl,b6⟩
  replace ht := ht.below b6
  replace MR := MR.below b6
  replace CR := CR.below b6
  replace VM := VM.below b6
  replace BB := BB.trans (b6.mono BB.size)
  clear b6
  rw [HE.out]
  obtain ⟨VM_0,VM_1,VM_2,VM_3⟩ := id VM
  go_wp2_with fail
  clear VM_0 VM_1 VM_2 VM_3
  refine (table_no F _ _ k3 m NN T r 4 18 _ MR CR ht (by omega) (by omega) (by omega) HN.out).mono ?_
  rintro e w7 ⟨rfl,b7⟩
  replace ht := ht.below b7
  replace MR := MR.below b7
  replace CR := CR.below b7
  replace VM := VM.below b7
  replace BB := BB.trans (b7.mono BB.size)
  clear b7
  rw [HE.out]
  obtain ⟨VM_0,VM_1,VM_2,VM_3⟩ := id VM
  go_wp2_with fail
  clear VM_0 VM_1 VM_2 VM_3
  refine (awake11_at _ ht).mono ?_
  rintro e w8 ⟨rfl,b8⟩
  replace ht := ht.below b8
  replace MR := MR.below b8
  replace CR := CR.below b8
  replace VM := VM.below b8
  replace BB := BB.trans (b8.mono BB.size)
  clear b8
  go_wp2
  go_ret
  exact ⟨rfl,BB⟩
theorem own : ownKnob Tryz.prog.godebug = none := by kernel_rfl
theorem laidOut : laidOutB Tryz.prog = true := by kernel_rfl

abbrev laid1 : List (String × DataW Unit) := [("math/bits.deBruijn64tab",Rows.laid_math_bits_deBruijn64tab)]
theorem gTab : Tryz.prog.globalNamed "math/bits.deBruijn64tab" = some 0 := by kernel_rfl
theorem gTabType : (Tryz.prog.globals[0]?).map (·.type) = some 250 := by kernel_rfl
theorem uTab : Tryz.prog.underlying 250 = some (.array 64 5) := by kernel_rfl
theorem uCell : Tryz.prog.underlying 5 = some (.int .u8) := by kernel_rfl
theorem cCell : Tryz.prog.cellsOf 5 = 1 := by kernel_rfl
theorem cTab : Tryz.prog.cellsOf 250 = 64 := by kernel_rfl
/-- The listed table lies in its cells. -/
theorem tab_of {W : World} (h : laidMetH Tryz.prog laid1 W) : Tab W := by
 rw [MakeChecks.laidMetH_plain _ _ _ (by kernel_rfl)] at h
 have hd : laid1 = [("math/bits.deBruijn64tab",Lib.tabData .u8 (Lib.deBruijn64tab.map fun (n : Nat) => Int.ofNat n))] := rfl
 rw [hd] at h
 have hT := Lib.tabIs_of_head gTab gTabType uTab uCell cCell cTab h
 intro i hi
 have hc := hT.cell gTab i (by rw [List.length_map]; exact hi)
 rw [hc]
 congr 2
 rw [List.getD_eq_getElem?_getD,List.getElem?_map,List.getD_eq_getElem?_getD]
 cases Lib.deBruijn64tab[i]? <;> rfl
/-- A start for the witness: the heap that the run of the program's own initialisers leaves. -/
noncomputable def startW (os : Os) : World := { World.holding Tryz.prog os ⟨#[],#[],[]⟩ with heap := (varsWorld Tryz.prog 400 (varsId Tryz.prog) os (fun _ _ => 0)).heap }
theorem start_met (os : Os) (args : Array Value) : laidMetH Tryz.prog laid1 ((startW os).forCall (fun _ _ => 0) ⟨#[],args,[]⟩).memory :=
 laidMetH_of_parts3 (fuel := 8) (laidMet_of_run' 8 (by kernel_rfl) (by kernel_rfl)) (by kernel_rfl) (by kernel_rfl)

set_option maxRecDepth 100000 in
theorem lifted (os : Os) (started : os.Started) (H : Type) (enc : TypeId × Value → H) :
  ReturnsInHanded {} Tryz.checked os 3 .any (fun w args => (Rows.expectTablesSpec.pre enc Tryz.prog Tryz.f3 [] false w args ∧ laidMetH Tryz.prog laid1 w) ∧ sizedMet enc Tryz.prog Tryz.f3 (OpenSpec.ofChange Rows.expectTablesSpec) false w args) (Rows.expectTablesSpec.post enc Tryz.prog Tryz.f3 false true false false) := by
 refine returnsInHanded_of_change_and (C := Tryz.checked) (X := fun w _ => laidMetH Tryz.prog laid1 w) (fun _ _ _ hh h => h.of_heap hh) own started (by kernel_rfl) Tryz.func3
  (ChangeSpec.witness_shaped (enc := enc) (C := Tryz.checked) (os := os) (X := fun w _ => laidMetH Tryz.prog laid1 w) false (startW os) #[.agg #[.int .i64 0,.slice none 0 0],.slice none 0 0] 8 rfl (World.shaped_of_RefB (by kernel_rfl) (by kernel_rfl)) (by kernel_rfl) (by kernel_rfl) (by kernel_rfl) (start_met os _)) ?_
 intro W base args ds gs before hval0 hW _ _ hL _
 have hval : ∀ (j : Nat) t v,Tryz.f3.params[j]? = some t → args[j]? = some v → Value.okWide Tryz.prog W .any base t v := hval0
 have hW' := hW
 obtain ⟨p,q,hA0,hV,rfl,hfz,hnd⟩ := hW
 have hA : DataW.TrodAll enc Tryz.prog W 0 (fun _ => true) true Tryz.f3.params.toList args.toList ds p := hA0
 rw [Tryz.params3] at hA hval
 obtain ⟨v0,vs0,d0,ds0,p0,q0,hargs,rfl,rfl,h0,r0⟩ := trodAll_cons hA
 obtain ⟨v1,vs1,d1,ds1,p1,q1,rfl,rfl,rfl,h1,r1⟩ := trodAll_cons r0
 obtain ⟨rfl,rfl,rfl⟩ := trodAll_nil r1
 obtain rfl : args = #[v0,v1] := by cases args; simp_all
 obtain ⟨rfl,rfl⟩ := trodVars_none hV
 have k0 := h0
 have lt0 : ∀ x ∈ p0,x.block < W.heap.size := by obtain ⟨m,hm⟩ := k0; exact DataW.trod_lt m _ _ _ hm
 obtain ⟨F0,a0,c0,n0,N0,z0,rfl,f0,w0⟩ := open_model 4 (hval 0 24 v0 rfl rfl) h0
 have k1 := h1
 have lt1 : ∀ x ∈ p1,x.block < W.heap.size := by obtain ⟨m,hm⟩ := k1; exact DataW.trod_lt m _ _ _ hm
 obtain ⟨n1,z1,w1⟩ := open_cells 3 (hval 1 25 v1 rfl rfl) h1
 clear hA0 hval0
 refine (walk _ _ _ _ _ _ _ _ _ W f0 w0 w1 (tab_of hL)).mono fun e W' ⟨he,bel⟩ => ?_
 subst he
 exact ⟨_,rfl,_,_,_,[],_,[],hW',trodAll_mk1 (shut_bool Tryz.underlying4 _),(trodAll_cons_mk (Below.trod laidOut (by kernel_rfl) (of_decide_eq_true (by kernel_rfl)) k0 bel lt0) (trodAll_cons_mk (Below.trod laidOut (by kernel_rfl) (of_decide_eq_true (by kernel_rfl)) k1 bel lt1) trodAll_mk0)),rfl,bel.frame _,fun h => by cases h⟩

theorem over : Rows.expectTablesRow.holds Tryz.pinned (OpenSpec.ofChange Rows.expectTablesSpec) :=
 OpenClaim.holds_of_wide 3 Tryz.f3 rfl rfl rfl rfl rfl rfl rfl ⟨rfl,rfl,rfl,rfl,rfl⟩ rfl rfl rfl rfl rfl (by kernel_rfl) Tryz.func3 (by kernel_rfl)
  (of_decide_eq_true (by kernel_rfl)) (by unfold Func.isWrapper; first | (rw [if_pos (by decide +kernel)]; kernel_rfl) | (rw [if_neg (by decide +kernel)]; exact ⟨rfl,rfl⟩))
  (fun os started H enc _ => lifted os started H enc)

end Go.Proofs.YtgddiimnpliolaaGreatDoor.expectTables
namespace Go.Proofs.YtgddiimnpliolaaGreatDoor
/-- The statement: the row, tied to the text of the program. -/
theorem expectTables_holds : Rows.ExpectTablesCardSaid :=
 Claim7.holds_tied_plain_at .later [] [.data] true (true,"dcc389e807bc8d5f1a990ce784507b20bf5010e9b0176c6e9255f5a052bf5811") false
  expectTables.over (fun _ h => by cases h) (by kernel_rfl) (fun _ h => by cases h) expectTables_row_tie rfl ⟨rfl,rfl⟩ (by kernel_rfl) rfl
  (fun f fn hf hfn => by
   obtain rfl : f = 3 := Option.some.inj ((show Tryz.prog.funcNamed "dendron/dendronlaw11.ExpectTables" = some 3 by kernel_rfl).symm.trans hf) |>.symm
   obtain rfl : fn = Tryz.f3 := (Option.some.inj (Tryz.func3.symm.trans hfn)).symm
   exact ⟨by kernel_rfl,fun j t ht => by
    rw [Tryz.params3] at ht
    have hm : t ∈ [24,25] := by simpa using Array.mem_of_getElem? ht
    have hall : ([24,25].all fun u => !Tryz.prog.wantsStandIn u) = true := by kernel_rfl
    exact (show Tryz.prog.wantsStandIn t = false by simpa using List.all_eq_true.1 hall t hm)⟩)
  (by kernel_rfl)
end Go.Proofs.YtgddiimnpliolaaGreatDoor
