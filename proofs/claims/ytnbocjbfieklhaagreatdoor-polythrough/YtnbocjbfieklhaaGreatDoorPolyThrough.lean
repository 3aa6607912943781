/-
 Proves that Through answers a polynomial of a lower degree than there are points that goes through up to 6 points of up to 2 limbs,or why there is none,whatever comes in (the statement PolyThrough,its tied card); the table of math/bits lies as the program's text lays it; no other condition.
-/
import Derived.Test.YtnbocjbfieklhaaGreatDoorJb016ad185a
import Derived.Test.YtnbocjbfieklhaaGreatDoorRows
import Derived.Test.YtnbocjbfieklhaaGreatDoorJe065d50e49
import Derived.Test.YtnbocjbfieklhaaGreatDoorJ471360b889
import Derived.Test.YtnbocjbfieklhaaGreatDoorJ3c12b2c2a0
import Derived.Test.YtnbocjbfieklhaaGreatDoorJ06af5f0dba
import Derived.WalkKit
import Derived.ProofKit
import Derived.OpenShut
import Derived.ShutString
import Derived.ChangeOld
import Derived.Below
import Derived.Test.YtnbocjbfieklhaaGreatDoorTie
import Derived.Test.YtnbocjbfieklhaaGreatDoorCards
import Derived.LaidByTextLater
import Derived.LaidHandle
import Derived.Lib.LaidTab
import Derived.SevenTiedAt
namespace Go.Proofs.YtnbocjbfieklhaaGreatDoor.polyThrough
open Go.ChangeShapes Go.WideShapes Go.ChangeAt Go.RowKit
open Go.ChangeMaps (open_string shut_string)
set_option linter.unusedVariables false
set_option linter.unusedSimpArgs false

def KLIST : Nat := 2

set_option maxRecDepth 100000 in
set_option maxHeartbeats 32000000 in
theorem walk (v1 : Value) (n1 : Nat) (x : Nat → Rat) (v2 : Value) (n2 : Nat) (y : Nat → Rat) (w : World) (h1 : RawQ w v1 n1 x KLIST) (h2 : RawQ w v2 n2 y KLIST) (ht : Tab w) :
  Calls Tryz.prog 8 #[v1,v2] w fun e w' => e = .returned (.bool true) ∧ Below w.heap.size w w' := by
 unfold KLIST at h1 h2
 have BB : Below w.heap.size w w := Below.refl _ _
 go_enter Tryz.func8,Tryz.ntmps8
 go_wp2_with fail
 refine (few4_at _ n1 6 x _ h1 (by omega)).mono ?_
 rintro e w1 ⟨ra,rfl,QAo,b1⟩
 replace h1 := h1.below b1
 replace h2 := h2.below b1
 replace ht := ht.below b1
 replace BB := BB.trans (b1.mono BB.size)
 clear b1
 have QA := QAo.row
 clear QAo
 go_wp2_with fail
 refine (few4_at _ n2 6 y _ h2 (by omega)).mono ?_
 rintro e w2 ⟨rb,rfl,QBo,b2⟩
 replace h1 := h1.below b2
 replace h2 := h2.below b2
 replace ht := ht.below b2
 replace QA := QA.below b2
 replace BB := BB.trans (b2.mono BB.size)
 clear b2
 have QB := QBo.row
 clear QBo
 clear h1 h2
 obtain ⟨n,hn⟩ : ∃ n,n = min n1 6 := ⟨_,rfl⟩
 rw [← hn] at QA
 have hn6 : n ≤ 6 := by omega
 obtain ⟨m,hm⟩ : ∃ m,m = min n2 6 := ⟨_,rfl⟩
 rw [← hm] at QB
 have hm6 : m ≤ 6 := by omega
 clear hn hm
 obtain ⟨aa,ca,rfl,_,_,_⟩ := QA.open
 obtain ⟨ab,cb,rfl,_,_,_⟩ := QB.open
 go_wp2_with fail
 by_cases hnm : n = m
 ·subst hnm
  have sX : ∀ i,i < n → qsz (x i) ≤ 2 := fun i hi => QA.sz (by omega) i hi
  have sY : ∀ i,i < n → qsz (y i) ≤ 2 := fun i hi => QB.sz (by omega) i hi
  refine (through_at _ _ n x y _ QA QB ht hn6).mono ?_
  rintro e w9 hT
  obtain ⟨HD,p,l,R,rfl,FP,hl,htop,hsz,hev,b9⟩ | ⟨HD,rfl,b9⟩ := hT
  ·have FP0 := FP
   have HDD : Hid (Dist x n) := HD
   have HTOP : Hid (0 < l → R (l - 1) ≠ 0) := htop
   have HEV : Hid (∀ j,j < n → evN R (x j) l = y j) := fun j hj => by rw [hev (x j)]; exact newton_hit x y n j hj HD
   clear FP htop hev HD
   obtain ⟨pa,pc,rfl⟩ := FP0.open
   have QA0 := QA.below b9
   have QB0 := QB.below b9
   have ht0 := ht.below b9
   have BW : Hid (Below w.heap.size w w9) := BB.trans (b9.mono BB.size)
   clear QA QB ht BB b9
   go_wp2
   go_loopw [7] (fun vi wr => ∃ i : Nat,i ≤ n ∧ vi = .int .i64 (i : Int) ∧ Hid (∀ b,b < i → ∀ c,c < b → x b ≠ x c) ∧ Below w9.heap.size w9 wr) (fun vi _ => n - (intOf vi).toNat)
   case atStart => exact ⟨0,by omega,rfl,fun b hb => by omega,Below.refl _ _⟩
   case round =>
    obtain ⟨i,hi,rfl,HI,BB⟩ := hrel
    by_cases hlt : i < n
    ·have g1 : (i : Int) < (n : Int) := by omega
     have g0 : (0 : Int) ≤ (i : Int) := by omega
     go_wp2
     go_loopw [8] (fun vk wr => ∃ k : Nat,k ≤ i ∧ vk = .int .i64 (k : Int) ∧ Hid (∀ c,c < k → x i ≠ x c) ∧ Below w9.heap.size w9 wr) (fun vk _ => i - (intOf vk).toNat)
     case atStart => exact ⟨0,by omega,rfl,fun c hc => by omega,BB⟩
     case round =>
      clear BB
      obtain ⟨k,hk,rfl,HK,BB⟩ := hrel
      by_cases hlt2 : k < i
      ·have g2 : (k : Int) < (i : Int) := by omega
       have g3 : (0 : Int) ≤ (k : Int) := by omega
       have g4 : (k : Int) < (n : Int) := by omega
       obtain ⟨b6,off,cc6,p6,a6,n6,c6,bo6,m6,d6,hvv,hcc,XA0,Ha0⟩ := QA0.at i hlt
       cases hvv
       obtain ⟨b7,off7,cc7,p7,a7,n7,c7,bo7,m7,d7,hvv,hcc7,XB0,Hb0⟩ := QA0.at k (by omega)
       cases hvv
       have XA := XA0.below BB
       have XB := XB0.below BB
       have Ha := Ha0.below BB
       have Hb := Hb0.below BB
       clear XA0 XB0 Ha0 Hb0
       have hxx : ¬ x i = x k := HDD.out i hlt k hlt2
       go_wp2
       (try simp only [g2,decide_true])
       (try simp only [g1,decide_true])
       refine wp_region_until 9 #[true,true,true,true,true,true,true,true,true] (fun aF lsd a' w' => ∃ vu0 vu1 vu2 vu3 vu4 vu5 vu6 vu7 vu8 : Value,a' = ((((((((aF.put (some 46) vu0).put (some 47) vu1).put (some 48) vu2).put (some 49) vu3).put (some 50) vu4).put (some 51) vu5).put (some 52) vu6).put (some 53) vu7).put (some 54) vu8 ∧ Below wr.heap.size wr w' ∧ (lsd.getD 0 false = true → vu0 = .slice (some ⟨b6,off,none⟩) n ca) ∧ (lsd.getD 1 false = true → vu1 = .int .i64 (i : Int)) ∧ (lsd.getD 2 false = true → vu2 = .pointer (some ⟨b6,off + i * 3,none⟩)) ∧ (lsd.getD 3 false = true → vu3 = .agg #[.bool p6,.slice a6 n6 c6,.slice bo6 m6 d6]) ∧ (lsd.getD 4 false = true → vu4 = .slice (some ⟨b6,off,none⟩) n ca) ∧ (lsd.getD 5 false = true → vu5 = .int .i64 (k : Int)) ∧ (lsd.getD 6 false = true → vu6 = .pointer (some ⟨b6,off + k * 3,none⟩)) ∧ (lsd.getD 7 false = true → vu7 = .agg #[.bool p7,.slice a7 n7 c7,.slice bo7 m7 d7]) ∧ (lsd.getD 8 false = true → vu8 = .bool false)) (by kernel_rfl) (by decide) (by kernel_rfl) (by rfl) (by kernel_rfl) ?_ ?_ ?_
       ·exact ⟨_,_,_,_,_,_,_,_,_,by simp only [Act.put,xL4,xL5,xL6]; rfl,(Below.refl _ _).drew,fun h => absurd h (fun h => mark_none h),fun h => absurd h (fun h => mark_none h),fun h => absurd h (fun h => mark_none h),fun h => absurd h (fun h => mark_none h),fun h => absurd h (fun h => mark_none h),fun h => absurd h (fun h => mark_none h),fun h => absurd h (fun h => mark_none h),fun h => absurd h (fun h => mark_none h),fun h => absurd h (fun h => mark_none h)⟩
       ·rintro lsd au wn iu hszu ⟨vu0,vu1,vu2,vu3,vu4,vu5,vu6,vu7,vu8,rfl,hbu,fu0,fu1,fu2,fu3,fu4,fu5,fu6,fu7,fu8⟩ himu hru
        rcases (show iu = 0 ∨ iu = 1 ∨ iu = 2 ∨ iu = 3 ∨ iu = 4 ∨ iu = 5 ∨ iu = 6 ∨ iu = 7 ∨ iu = 8 by omega) with rfl | rfl | rfl | rfl | rfl | rfl | rfl | rfl | rfl
        ·refine wpOp_shut (by rfl) (fun K hK => ?_)
         simp only [Act.put,xL4,xL5,xL6]
         go_simp
         exact hK.out _ _ ⟨(.slice (some ⟨b6,off,none⟩) n ca),vu1,vu2,vu3,vu4,vu5,vu6,vu7,vu8,by simp only [Act.put,xL4,xL5,xL6],hbu,fun _ => rfl,fun h => fu1 (mark_of (by decide) h),fun h => fu2 (mark_of (by decide) h),fun h => fu3 (mark_of (by decide) h),fun h => fu4 (mark_of (by decide) h),fun h => fu5 (mark_of (by decide) h),fun h => fu6 (mark_of (by decide) h),fun h => fu7 (mark_of (by decide) h),fun h => fu8 (mark_of (by decide) h)⟩
        ·refine wpOp_shut (by rfl) (fun K hK => ?_)
         simp only [Act.put,xL4,xL5,xL6]
         go_simp
         exact hK.out _ _ ⟨vu0,(.int .i64 (i : Int)),vu2,vu3,vu4,vu5,vu6,vu7,vu8,by simp only [Act.put,xL4,xL5,xL6],hbu,fun h => fu0 (mark_of (by decide) h),fun _ => rfl,fun h => fu2 (mark_of (by decide) h),fun h => fu3 (mark_of (by decide) h),fun h => fu4 (mark_of (by decide) h),fun h => fu5 (mark_of (by decide) h),fun h => fu6 (mark_of (by decide) h),fun h => fu7 (mark_of (by decide) h),fun h => fu8 (mark_of (by decide) h)⟩
        ·have eu0 := fu0 (dep_of 0 hru rfl (by kernel_rfl))
         have eu1 := fu1 (dep_of 1 hru rfl (by kernel_rfl))
         replace eu0 := eu0.symm
         subst eu0
         replace eu1 := eu1.symm
         subst eu1
         refine wpOp_shut (by rfl) (fun K hK => ?_)
         simp only [Act.put,xL4,xL5,xL6]
         go_simp
         exact hK.out _ _ ⟨(.slice (some ⟨b6,off,none⟩) n ca),(.int .i64 (i : Int)),(.pointer (some ⟨b6,off + i * 3,none⟩)),vu3,vu4,vu5,vu6,vu7,vu8,by simp only [Act.put,xL4,xL5,xL6],hbu,fun _ => rfl,fun _ => rfl,fun _ => rfl,fun h => fu3 (mark_of (by decide) h),fun h => fu4 (mark_of (by decide) h),fun h => fu5 (mark_of (by decide) h),fun h => fu6 (mark_of (by decide) h),fun h => fu7 (mark_of (by decide) h),fun h => fu8 (mark_of (by decide) h)⟩
        ·have eu2 := fu2 (dep_of 2 hru rfl (by kernel_rfl))
         replace eu2 := eu2.symm
         subst eu2
         refine wpOp_shut (by rfl) (fun K hK => ?_)
         simp only [Act.put,xL4,xL5,xL6]
         obtain ⟨XA_0,XA_1,XA_2⟩ := XA.below hbu
         go_simp
         exact hK.out _ _ ⟨vu0,vu1,(.pointer (some ⟨b6,off + i * 3,none⟩)),(.agg #[.bool p6,.slice a6 n6 c6,.slice bo6 m6 d6]),vu4,vu5,vu6,vu7,vu8,by simp only [Act.put,xL4,xL5,xL6],hbu,fun h => fu0 (mark_of (by decide) h),fun h => fu1 (mark_of (by decide) h),fun _ => rfl,fun _ => rfl,fun h => fu4 (mark_of (by decide) h),fun h => fu5 (mark_of (by decide) h),fun h => fu6 (mark_of (by decide) h),fun h => fu7 (mark_of (by decide) h),fun h => fu8 (mark_of (by decide) h)⟩
        ·refine wpOp_shut (by rfl) (fun K hK => ?_)
         simp only [Act.put,xL4,xL5,xL6]
         go_simp
         exact hK.out _ _ ⟨vu0,vu1,vu2,vu3,(.slice (some ⟨b6,off,none⟩) n ca),vu5,vu6,vu7,vu8,by simp only [Act.put,xL4,xL5,xL6],hbu,fun h => fu0 (mark_of (by decide) h),fun h => fu1 (mark_of (by decide) h),fun h => fu2 (mark_of (by decide) h),fun h => fu3 (mark_of (by decide) h),fun _ => rfl,fun h => fu5 (mark_of (by decide) h),fun h => fu6 (mark_of (by decide) h),fun h => fu7 (mark_of (by decide) h),fun h => fu8 (mark_of (by decide) h)⟩
        ·refine wpOp_shut (by rfl) (fun K hK => ?_)
         simp only [Act.put,xL4,xL5,xL6]
         go_simp
         exact hK.out _ _ ⟨vu0,vu1,vu2,vu3,vu4,(.int .i64 (k : Int)),vu6,vu7,vu8,by simp only [Act.put,xL4,xL5,xL6],hbu,fun h => fu0 (mark_of (by decide) h),fun h => fu1 (mark_of (by decide) h),fun h => fu2 (mark_of (by decide) h),fun h => fu3 (mark_of (by decide) h),fun h => fu4 (mark_of (by decide) h),fun _ => rfl,fun h => fu6 (mark_of (by decide) h),fun h => fu7 (mark_of (by decide) h),fun h => fu8 (mark_of (by decide) h)⟩
        ·have eu4 := fu4 (dep_of 4 hru rfl (by kernel_rfl))
         have eu5 := fu5 (dep_of 5 hru rfl (by kernel_rfl))
         replace eu4 := eu4.symm
         subst eu4
         replace eu5 := eu5.symm
         subst eu5
         refine wpOp_shut (by rfl) (fun K hK => ?_)
         simp only [Act.put,xL4,xL5,xL6]
         go_simp
         exact hK.out _ _ ⟨vu0,vu1,vu2,vu3,(.slice (some ⟨b6,off,none⟩) n ca),(.int .i64 (k : Int)),(.pointer (some ⟨b6,off + k * 3,none⟩)),vu7,vu8,by simp only [Act.put,xL4,xL5,xL6],hbu,fun h => fu0 (mark_of (by decide) h),fun h => fu1 (mark_of (by decide) h),fun h => fu2 (mark_of (by decide) h),fun h => fu3 (mark_of (by decide) h),fun _ => rfl,fun _ => rfl,fun _ => rfl,fun h => fu7 (mark_of (by decide) h),fun h => fu8 (mark_of (by decide) h)⟩
        ·have eu6 := fu6 (dep_of 6 hru rfl (by kernel_rfl))
         replace eu6 := eu6.symm
         subst eu6
         refine wpOp_shut (by rfl) (fun K hK => ?_)
         simp only [Act.put,xL4,xL5,xL6]
         obtain ⟨XB_0,XB_1,XB_2⟩ := XB.below hbu
         go_simp
         exact hK.out _ _ ⟨vu0,vu1,vu2,vu3,vu4,vu5,(.pointer (some ⟨b6,off + k * 3,none⟩)),(.agg #[.bool p7,.slice a7 n7 c7,.slice bo7 m7 d7]),vu8,by simp only [Act.put,xL4,xL5,xL6],hbu,fun h => fu0 (mark_of (by decide) h),fun h => fu1 (mark_of (by decide) h),fun h => fu2 (mark_of (by decide) h),fun h => fu3 (mark_of (by decide) h),fun h => fu4 (mark_of (by decide) h),fun h => fu5 (mark_of (by decide) h),fun _ => rfl,fun _ => rfl,fun h => fu8 (mark_of (by decide) h)⟩
        ·have eu3 := fu3 (dep_of 3 hru rfl (by kernel_rfl))
         have eu7 := fu7 (dep_of 7 hru rfl (by kernel_rfl))
         replace eu3 := eu3.symm
         subst eu3
         replace eu7 := eu7.symm
         subst eu7
         refine wpOp_shut (by rfl) (fun K hK => ?_)
         simp only [Act.put,xL4,xL5,xL6]
         have Ha := Ha.below hbu
         have Hb := Hb.below hbu
         go_simp
         refine (qsame_at _ _ (x i) (x k) 2 _ Ha Hb (by omega) (by omega)).mono ?_
         rintro eu wx ⟨rfl,bu⟩
         rw [decide_eq_false hxx]
         go_wp2_with fail
         have hbu2 := hbu.trans (bu.mono hbu.size)
         exact hK.out _ _ ⟨vu0,vu1,vu2,(.agg #[.bool p6,.slice a6 n6 c6,.slice bo6 m6 d6]),vu4,vu5,vu6,(.agg #[.bool p7,.slice a7 n7 c7,.slice bo7 m7 d7]),(.bool false),by simp only [Act.put,xL4,xL5,xL6],hbu2,fun h => fu0 (mark_of (by decide) h),fun h => fu1 (mark_of (by decide) h),fun h => fu2 (mark_of (by decide) h),fun _ => rfl,fun h => fu4 (mark_of (by decide) h),fun h => fu5 (mark_of (by decide) h),fun h => fu6 (mark_of (by decide) h),fun _ => rfl,fun _ => rfl⟩
       rintro au Wu1 ⟨vu0,vu1,vu2,vu3,vu4,vu5,vu6,vu7,vu8,rfl,hbu,fu0,fu1,fu2,fu3,fu4,fu5,fu6,fu7,fu8⟩
       have eu0 := (fu0 rfl).symm
       subst eu0
       have eu1 := (fu1 rfl).symm
       subst eu1
       have eu2 := (fu2 rfl).symm
       subst eu2
       have eu3 := (fu3 rfl).symm
       subst eu3
       have eu4 := (fu4 rfl).symm
       subst eu4
       have eu5 := (fu5 rfl).symm
       subst eu5
       have eu6 := (fu6 rfl).symm
       subst eu6
       have eu7 := (fu7 rfl).symm
       subst eu7
       have eu8 := (fu8 rfl).symm
       subst eu8
       clear fu0 fu1 fu2 fu3 fu4 fu5 fu6 fu7 fu8
       have hlXA : b6 < wr.heap.size := XA.lt
       have hlXB : b6 < wr.heap.size := XB.lt
       simp only [Act.put,xL4,xL5,xL6]
       replace Ha := Ha.below hbu
       replace Hb := Hb.below hbu
       replace XA := XA.below hbu
       replace XB := XB.below hbu
       replace BB := BB.trans (hbu.mono BB.size)
       clear hbu
       refine wpAnyH_done (by kernel_rfl) ?_ _
       clear XA XB Ha Hb
       have HK2 : Hid (∀ c,c < k + 1 → x i ≠ x c) := fun c hc => by
        by_cases e : c = k
        ·subst e; exact hxx
        ·exact HK.out c (by omega)
       clear HK
       go_wp2
       go_roundw
       case rel => exact ⟨k + 1,by omega,by go_num,HK2,BB⟩
       case measure => simp [intOf]; omega
      ·obtain rfl : k = i := by omega
       have g2 : ¬ (k : Int) < (k : Int) := by omega
       have HI2 : Hid (∀ b,b < k + 1 → ∀ c,c < b → x b ≠ x c) := fun b hb c hc => by
        by_cases e : b = k
        ·subst e; exact HK.out c hc
        ·exact HI.out b (by omega) c hc
       clear HI HK
       go_wp2
       go_roundw
       case rel => exact ⟨k + 1,by omega,by go_num,HI2,BB⟩
       case measure => simp [intOf]; omega
    ·obtain rfl : i = n := by omega
     have g1 : ¬ (i : Int) < (i : Int) := by omega
     have g2 : ¬ (l : Int) > (i : Int) := by omega
     have g2n : decide (i < l) = false := decide_eq_false (by omega)
     have ht := ht0.below BB
     have FP := FP0.below BB
     clear HI
     go_wp2_with fail
     refine (right4_at _ l R _ FP (fun j hj => Nat.le_trans (hsz j hj) (by omega)) ht (by omega) HTOP.out).mono ?_
     rintro e wz ⟨rfl,bz⟩
     replace BB := BB.trans (bz.mono BB.size)
     clear FP ht bz
     go_wp2
     go_loopw [9] (fun vi wr => ∃ j : Nat,j ≤ i ∧ vi = .int .i64 (j : Int) ∧ Below w9.heap.size w9 wr) (fun vi _ => i - (intOf vi).toNat)
     case atStart => exact ⟨0,by omega,rfl,BB⟩
     case round =>
      clear BB
      obtain ⟨j,hj,rfl,BB⟩ := hrel
      by_cases hlt : j < i
      ·have g3 : (j : Int) < (i : Int) := by omega
       have g4 : (0 : Int) ≤ (j : Int) := by omega
       obtain ⟨b6,off,cc6,p6,a6,n6,c6,bo6,m6,d6,hvv,hcc,XA0,Ha0⟩ := QA0.at j hlt
       cases hvv
       obtain ⟨b7,off7,cc7,p7,a7,n7,c7,bo7,m7,d7,hvv,hcc7,XB0,Hb0⟩ := QB0.at j hlt
       cases hvv
       have XA := XA0.below BB
       have XB := XB0.below BB
       have Ha := Ha0.below BB
       have Hb := Hb0.below BB
       have FP := FP0.below BB
       have ht := ht0.below BB
       clear XA0 XB0 Ha0 Hb0
       have HE := HEV.out j hlt
       have syj := sY j hlt
       go_wp2
       (try simp only [g3,decide_true])
       (try simp only [g2n])
       refine wp_region_until 12 #[true,true,true,true,true,true,true,true,true,true,true,true] (fun aF lsd a' w' => ∃ vu0 vu1 vu2 vu3 vu4 vu5 vu6 vu7 vu8 vu9 vu10 vu11 : Value,a' = (((((((((((aF.put (some 85) vu0).put (some 86) vu1).put (some 87) vu2).put (some 88) vu3).put (some 89) vu4).put (some 90) vu5).put (some 91) vu6).put (some 92) vu7).put (some 93) vu8).put (some 94) vu9).put (some 95) vu10).put (some 96) vu11 ∧ Below wr.heap.size wr w' ∧ (lsd.getD 0 false = true → vu0 = .slice pa l pc) ∧ (lsd.getD 1 false = true → vu1 = .slice (some ⟨b6,off,none⟩) i ca) ∧ (lsd.getD 2 false = true → vu2 = .int .i64 (j : Int)) ∧ (lsd.getD 3 false = true → vu3 = .pointer (some ⟨b6,off + j * 3,none⟩)) ∧ (lsd.getD 4 false = true → vu4 = .agg #[.bool p6,.slice a6 n6 c6,.slice bo6 m6 d6]) ∧ (lsd.getD 5 false = true → RepQ w' vu5 (y j)) ∧ (lsd.getD 6 false = true → vu6 = .slice (some ⟨b7,off7,none⟩) i cb) ∧ (lsd.getD 7 false = true → vu7 = .int .i64 (j : Int)) ∧ (lsd.getD 8 false = true → vu8 = .pointer (some ⟨b7,off7 + j * 3,none⟩)) ∧ (lsd.getD 9 false = true → vu9 = .agg #[.bool p7,.slice a7 n7 c7,.slice bo7 m7 d7]) ∧ (lsd.getD 10 false = true → vu10 = .bool true) ∧ (lsd.getD 11 false = true → vu11 = .bool false)) (by kernel_rfl) (by decide) (by kernel_rfl) (by rfl) (by kernel_rfl) ?_ ?_ ?_
       ·exact ⟨_,_,_,_,_,_,_,_,_,_,_,_,by simp only [Act.put,xL4,xL5,xL6]; rfl,(Below.refl _ _).drew,fun h => absurd h (fun h => mark_none h),fun h => absurd h (fun h => mark_none h),fun h => absurd h (fun h => mark_none h),fun h => absurd h (fun h => mark_none h),fun h => absurd h (fun h => mark_none h),fun h => absurd h (fun h => mark_none h),fun h => absurd h (fun h => mark_none h),fun h => absurd h (fun h => mark_none h),fun h => absurd h (fun h => mark_none h),fun h => absurd h (fun h => mark_none h),fun h => absurd h (fun h => mark_none h),fun h => absurd h (fun h => mark_none h)⟩
       ·rintro lsd au wn iu hszu ⟨vu0,vu1,vu2,vu3,vu4,vu5,vu6,vu7,vu8,vu9,vu10,vu11,rfl,hbu,fu0,fu1,fu2,fu3,fu4,fu5,fu6,fu7,fu8,fu9,fu10,fu11⟩ himu hru
        rcases (show iu = 0 ∨ iu = 1 ∨ iu = 2 ∨ iu = 3 ∨ iu = 4 ∨ iu = 5 ∨ iu = 6 ∨ iu = 7 ∨ iu = 8 ∨ iu = 9 ∨ iu = 10 ∨ iu = 11 by omega) with rfl | rfl | rfl | rfl | rfl | rfl | rfl | rfl | rfl | rfl | rfl | rfl
        ·refine wpOp_shut (by rfl) (fun K hK => ?_)
         simp only [Act.put,xL4,xL5,xL6]
         go_simp
         exact hK.out _ _ ⟨(.slice pa l pc),vu1,vu2,vu3,vu4,vu5,vu6,vu7,vu8,vu9,vu10,vu11,by simp only [Act.put,xL4,xL5,xL6],hbu,fun _ => rfl,fun h => fu1 (mark_of (by decide) h),fun h => fu2 (mark_of (by decide) h),fun h => fu3 (mark_of (by decide) h),fun h => fu4 (mark_of (by decide) h),fun h => fu5 (mark_of (by decide) h),fun h => fu6 (mark_of (by decide) h),fun h => fu7 (mark_of (by decide) h),fun h => fu8 (mark_of (by decide) h),fun h => fu9 (mark_of (by decide) h),fun h => fu10 (mark_of (by decide) h),fun h => fu11 (mark_of (by decide) h)⟩
        ·refine wpOp_shut (by rfl) (fun K hK => ?_)
         simp only [Act.put,xL4,xL5,xL6]
         go_simp
         exact hK.out _ _ ⟨vu0,(.slice (some ⟨b6,off,none⟩) i ca),vu2,vu3,vu4,vu5,vu6,vu7,vu8,vu9,vu10,vu11,by simp only [Act.put,xL4,xL5,xL6],hbu,fun h => fu0 (mark_of (by decide) h),fun _ => rfl,fun h => fu2 (mark_of (by decide) h),fun h => fu3 (mark_of (by decide) h),fun h => fu4 (mark_of (by decide) h),fun h => fu5 (mark_of (by decide) h),fun h => fu6 (mark_of (by decide) h),fun h => fu7 (mark_of (by decide) h),fun h => fu8 (mark_of (by decide) h),fun h => fu9 (mark_of (by decide) h),fun h => fu10 (mark_of (by decide) h),fun h => fu11 (mark_of (by decide) h)⟩
        ·refine wpOp_shut (by rfl) (fun K hK => ?_)
         simp only [Act.put,xL4,xL5,xL6]
         go_simp
         exact hK.out _ _ ⟨vu0,vu1,(.int .i64 (j : Int)),vu3,vu4,vu5,vu6,vu7,vu8,vu9,vu10,vu11,by simp only [Act.put,xL4,xL5,xL6],hbu,fun h => fu0 (mark_of (by decide) h),fun h => fu1 (mark_of (by decide) h),fun _ => rfl,fun h => fu3 (mark_of (by decide) h),fun h => fu4 (mark_of (by decide) h),fun h => fu5 (mark_of (by decide) h),fun h => fu6 (mark_of (by decide) h),fun h => fu7 (mark_of (by decide) h),fun h => fu8 (mark_of (by decide) h),fun h => fu9 (mark_of (by decide) h),fun h => fu10 (mark_of (by decide) h),fun h => fu11 (mark_of (by decide) h)⟩
        ·have eu1 := fu1 (dep_of 1 hru rfl (by kernel_rfl))
         have eu2 := fu2 (dep_of 2 hru rfl (by kernel_rfl))
         replace eu1 := eu1.symm
         subst eu1
         replace eu2 := eu2.symm
         subst eu2
         refine wpOp_shut (by rfl) (fun K hK => ?_)
         simp only [Act.put,xL4,xL5,xL6]
         go_simp
         exact hK.out _ _ ⟨vu0,(.slice (some ⟨b6,off,none⟩) i ca),(.int .i64 (j : Int)),(.pointer (some ⟨b6,off + j * 3,none⟩)),vu4,vu5,vu6,vu7,vu8,vu9,vu10,vu11,by simp only [Act.put,xL4,xL5,xL6],hbu,fun h => fu0 (mark_of (by decide) h),fun _ => rfl,fun _ => rfl,fun _ => rfl,fun h => fu4 (mark_of (by decide) h),fun h => fu5 (mark_of (by decide) h),fun h => fu6 (mark_of (by decide) h),fun h => fu7 (mark_of (by decide) h),fun h => fu8 (mark_of (by decide) h),fun h => fu9 (mark_of (by decide) h),fun h => fu10 (mark_of (by decide) h),fun h => fu11 (mark_of (by decide) h)⟩
        ·have eu3 := fu3 (dep_of 3 hru rfl (by kernel_rfl))
         replace eu3 := eu3.symm
         subst eu3
         refine wpOp_shut (by rfl) (fun K hK => ?_)
         simp only [Act.put,xL4,xL5,xL6]
         obtain ⟨XA_0,XA_1,XA_2⟩ := XA.below hbu
         go_simp
         exact hK.out _ _ ⟨vu0,vu1,vu2,(.pointer (some ⟨b6,off + j * 3,none⟩)),(.agg #[.bool p6,.slice a6 n6 c6,.slice bo6 m6 d6]),vu5,vu6,vu7,vu8,vu9,vu10,vu11,by simp only [Act.put,xL4,xL5,xL6],hbu,fun h => fu0 (mark_of (by decide) h),fun h => fu1 (mark_of (by decide) h),fun h => fu2 (mark_of (by decide) h),fun _ => rfl,fun _ => rfl,fun h => fu5 (mark_of (by decide) h),fun h => fu6 (mark_of (by decide) h),fun h => fu7 (mark_of (by decide) h),fun h => fu8 (mark_of (by decide) h),fun h => fu9 (mark_of (by decide) h),fun h => fu10 (mark_of (by decide) h),fun h => fu11 (mark_of (by decide) h)⟩
        ·have eu0 := fu0 (dep_of 0 hru rfl (by kernel_rfl))
         have eu4 := fu4 (dep_of 4 hru rfl (by kernel_rfl))
         replace eu0 := eu0.symm
         subst eu0
         replace eu4 := eu4.symm
         subst eu4
         refine wpOp_shut (by rfl) (fun K hK => ?_)
         simp only [Act.put,xL4,xL5,xL6]
         have Ha := Ha.below hbu
         have FP := FP.below hbu
         have ht := ht.below hbu
         go_simp
         refine (value4_at _ _ l R (x j) 11110 2 _ (FP.q _ hsz) Ha ht (by omega) (by omega) (by omega) (Nat.le_trans (Nat.add_le_add_right (Nat.add_le_add (Nat.add_le_add (Nat.mul_le_mul (show l ≤ 6 by omega) (show 11110 + 2 * l + 2 ≤ 11124 by omega)) (Nat.le_refl 11110)) (show 2 * l ≤ 12 by omega)) 3) (by omega))).mono ?_
         rintro eu wx ⟨r5,rfl,h5,bu⟩
         rw [HE] at h5
         go_wp2_with fail
         have hbu2 := hbu.trans (bu.mono hbu.size)
         exact hK.out _ _ ⟨(.slice pa l pc),vu1,vu2,vu3,(.agg #[.bool p6,.slice a6 n6 c6,.slice bo6 m6 d6]),_,vu6,vu7,vu8,vu9,vu10,vu11,by simp only [Act.put,xL4,xL5,xL6],hbu2,fun _ => rfl,fun h => fu1 (mark_of (by decide) h),fun h => fu2 (mark_of (by decide) h),fun h => fu3 (mark_of (by decide) h),fun _ => rfl,fun _ => h5,fun h => fu6 (mark_of (by decide) h),fun h => fu7 (mark_of (by decide) h),fun h => fu8 (mark_of (by decide) h),fun h => fu9 (mark_of (by decide) h),fun h => fu10 (mark_of (by decide) h),fun h => fu11 (mark_of (by decide) h)⟩
        ·refine wpOp_shut (by rfl) (fun K hK => ?_)
         simp only [Act.put,xL4,xL5,xL6]
         go_simp
         exact hK.out _ _ ⟨vu0,vu1,vu2,vu3,vu4,vu5,(.slice (some ⟨b7,off7,none⟩) i cb),vu7,vu8,vu9,vu10,vu11,by simp only [Act.put,xL4,xL5,xL6],hbu,fun h => fu0 (mark_of (by decide) h),fun h => fu1 (mark_of (by decide) h),fun h => fu2 (mark_of (by decide) h),fun h => fu3 (mark_of (by decide) h),fun h => fu4 (mark_of (by decide) h),fun h => fu5 (mark_of (by decide) h),fun _ => rfl,fun h => fu7 (mark_of (by decide) h),fun h => fu8 (mark_of (by decide) h),fun h => fu9 (mark_of (by decide) h),fun h => fu10 (mark_of (by decide) h),fun h => fu11 (mark_of (by decide) h)⟩
        ·refine wpOp_shut (by rfl) (fun K hK => ?_)
         simp only [Act.put,xL4,xL5,xL6]
         go_simp
         exact hK.out _ _ ⟨vu0,vu1,vu2,vu3,vu4,vu5,vu6,(.int .i64 (j : Int)),vu8,vu9,vu10,vu11,by simp only [Act.put,xL4,xL5,xL6],hbu,fun h => fu0 (mark_of (by decide) h),fun h => fu1 (mark_of (by decide) h),fun h => fu2 (mark_of (by decide) h),fun h => fu3 (mark_of (by decide) h),fun h => fu4 (mark_of (by decide) h),fun h => fu5 (mark_of (by decide) h),fun h => fu6 (mark_of (by decide) h),fun _ => rfl,fun h => fu8 (mark_of (by decide) h),fun h => fu9 (mark_of (by decide) h),fun h => fu10 (mark_of (by decide) h),fun h => fu11 (mark_of (by decide) h)⟩
        ·have eu6 := fu6 (dep_of 6 hru rfl (by kernel_rfl))
         have eu7 := fu7 (dep_of 7 hru rfl (by kernel_rfl))
         replace eu6 := eu6.symm
         subst eu6
         replace eu7 := eu7.symm
         subst eu7
         refine wpOp_shut (by rfl) (fun K hK => ?_)
         simp only [Act.put,xL4,xL5,xL6]
         go_simp
         exact hK.out _ _ ⟨vu0,vu1,vu2,vu3,vu4,vu5,(.slice (some ⟨b7,off7,none⟩) i cb),(.int .i64 (j : Int)),(.pointer (some ⟨b7,off7 + j * 3,none⟩)),vu9,vu10,vu11,by simp only [Act.put,xL4,xL5,xL6],hbu,fun h => fu0 (mark_of (by decide) h),fun h => fu1 (mark_of (by decide) h),fun h => fu2 (mark_of (by decide) h),fun h => fu3 (mark_of (by decide) h),fun h => fu4 (mark_of (by decide) h),fun h => fu5 (mark_of (by decide) h),fun _ => rfl,fun _ => rfl,fun _ => rfl,fun h => fu9 (mark_of (by decide) h),fun h => fu10 (mark_of (by decide) h),fun h => fu11 (mark_of (by decide) h)⟩
        ·have eu8 := fu8 (dep_of 8 hru rfl (by kernel_rfl))
         replace eu8 := eu8.symm
         subst eu8
         refine wpOp_shut (by rfl) (fun K hK => ?_)
         simp only [Act.put,xL4,xL5,xL6]
         obtain ⟨XB_0,XB_1,XB_2⟩ := XB.below hbu
         go_simp
         exact hK.out _ _ ⟨vu0,vu1,vu2,vu3,vu4,vu5,vu6,vu7,(.pointer (some ⟨b7,off7 + j * 3,none⟩)),(.agg #[.bool p7,.slice a7 n7 c7,.slice bo7 m7 d7]),vu10,vu11,by simp only [Act.put,xL4,xL5,xL6],hbu,fun h => fu0 (mark_of (by decide) h),fun h => fu1 (mark_of (by decide) h),fun h => fu2 (mark_of (by decide) h),fun h => fu3 (mark_of (by decide) h),fun h => fu4 (mark_of (by decide) h),fun h => fu5 (mark_of (by decide) h),fun h => fu6 (mark_of (by decide) h),fun h => fu7 (mark_of (by decide) h),fun _ => rfl,fun _ => rfl,fun h => fu10 (mark_of (by decide) h),fun h => fu11 (mark_of (by decide) h)⟩
        ·have eu9 := fu9 (dep_of 9 hru rfl (by kernel_rfl))
         replace eu9 := eu9.symm
         subst eu9
         have h5 := fu5 (dep_of 5 hru rfl (by kernel_rfl))
         refine wpOp_shut (by rfl) (fun K hK => ?_)
         simp only [Act.put,xL4,xL5,xL6]
         have Hb := Hb.below hbu
         go_simp
         refine (qsame_at _ _ (y j) (y j) 2 _ (h5.at _ syj) Hb (by omega) (by omega)).mono ?_
         rintro eu wx ⟨rfl,bu⟩
         rw [decide_eq_true (rfl : y j = y j)]
         go_wp2_with fail
         have hbu2 := hbu.trans (bu.mono hbu.size)
         exact hK.out _ _ ⟨vu0,vu1,vu2,vu3,vu4,vu5,vu6,vu7,vu8,(.agg #[.bool p7,.slice a7 n7 c7,.slice bo7 m7 d7]),(.bool true),vu11,by simp only [Act.put,xL4,xL5,xL6],hbu2,fun h => fu0 (mark_of (by decide) h),fun h => fu1 (mark_of (by decide) h),fun h => fu2 (mark_of (by decide) h),fun h => fu3 (mark_of (by decide) h),fun h => fu4 (mark_of (by decide) h),fun h => (fu5 (mark_of (by decide) h)).below bu,fun h => fu6 (mark_of (by decide) h),fun h => fu7 (mark_of (by decide) h),fun h => fu8 (mark_of (by decide) h),fun _ => rfl,fun _ => rfl,fun h => fu11 (mark_of (by decide) h)⟩
        ·have eu10 := fu10 (dep_of 10 hru rfl (by kernel_rfl))
         replace eu10 := eu10.symm
         subst eu10
         refine wpOp_shut (by rfl) (fun K hK => ?_)
         simp only [Act.put,xL4,xL5,xL6]
         go_simp
         exact hK.out _ _ ⟨vu0,vu1,vu2,vu3,vu4,vu5,vu6,vu7,vu8,vu9,(.bool true),(.bool false),by simp only [Act.put,xL4,xL5,xL6],hbu,fun h => fu0 (mark_of (by decide) h),fun h => fu1 (mark_of (by decide) h),fun h => fu2 (mark_of (by decide) h),fun h => fu3 (mark_of (by decide) h),fun h => fu4 (mark_of (by decide) h),fun h => fu5 (mark_of (by decide) h),fun h => fu6 (mark_of (by decide) h),fun h => fu7 (mark_of (by decide) h),fun h => fu8 (mark_of (by decide) h),fun h => fu9 (mark_of (by decide) h),fun _ => rfl,fun _ => rfl⟩
       rintro au Wu1 ⟨vu0,vu1,vu2,vu3,vu4,vu5,vu6,vu7,vu8,vu9,vu10,vu11,rfl,hbu,fu0,fu1,fu2,fu3,fu4,fu5,fu6,fu7,fu8,fu9,fu10,fu11⟩
       have eu0 := (fu0 rfl).symm
       subst eu0
       have eu1 := (fu1 rfl).symm
       subst eu1
       have eu2 := (fu2 rfl).symm
       subst eu2
       have eu3 := (fu3 rfl).symm
       subst eu3
       have eu4 := (fu4 rfl).symm
       subst eu4
       have h5 := fu5 rfl
       have eu6 := (fu6 rfl).symm
       subst eu6
       have eu7 := (fu7 rfl).symm
       subst eu7
       have eu8 := (fu8 rfl).symm
       subst eu8
       have eu9 := (fu9 rfl).symm
       subst eu9
       have eu10 := (fu10 rfl).symm
       subst eu10
       have eu11 := (fu11 rfl).symm
       subst eu11
       clear fu0 fu1 fu2 fu3 fu4 fu5 fu6 fu7 fu8 fu9 fu10 fu11
       have hlXA : b6 < wr.heap.size := XA.lt
       have hlXB : b7 < wr.heap.size := XB.lt
       simp only [Act.put,xL4,xL5,xL6]
       replace Ha := Ha.below hbu
       replace Hb := Hb.below hbu
       replace FP := FP.below hbu
       replace ht := ht.below hbu
       replace XA := XA.below hbu
       replace XB := XB.below hbu
       replace BB := BB.trans (hbu.mono BB.size)
       clear hbu
       refine wpAnyH_done (by kernel_rfl) ?_ _
       clear XA XB Ha Hb FP ht
       go_wp2
       go_roundw
       case rel => exact ⟨j + 1,by omega,by go_num,BB⟩
       case measure => simp [intOf]; omega
      ·obtain rfl : j = i := by omega
       have g3 : ¬ (j : Int) < (j : Int) := by omega
       have ht := ht0.below BB
       replace BB := BW.out.trans (BB.mono BW.out.size)
       go_wp2_with fail
       refine (awake4_at _ ht).mono ?_
       rintro e wz ⟨rfl,bz⟩
       replace BB := BB.trans (bz.mono BB.size)
       go_wp2
       go_ret
       exact ⟨rfl,BB⟩
  ·have QA0 := QA.below b9
   have QB0 := QB.below b9
   have ht0 := ht.below b9
   have BW : Hid (Below w.heap.size w w9) := BB.trans (b9.mono BB.size)
   clear QA QB ht BB b9
   have HDD : Hid (¬ Dist x n) := HD
   clear HD
   go_wp2
   go_loopw [7] (fun vi wr => ∃ i : Nat,i ≤ n ∧ vi = .int .i64 (i : Int) ∧ Hid (∀ b,b < i → ∀ c,c < b → x b ≠ x c) ∧ Below w9.heap.size w9 wr) (fun vi _ => n - (intOf vi).toNat)
   case atStart => exact ⟨0,by omega,rfl,fun b hb => by omega,Below.refl _ _⟩
   case round =>
    obtain ⟨i,hi,rfl,HI,BB⟩ := hrel
    by_cases hlt : i < n
    ·have g1 : (i : Int) < (n : Int) := by omega
     have g0 : (0 : Int) ≤ (i : Int) := by omega
     go_wp2
     go_loopw [8] (fun vk wr => ∃ k : Nat,k ≤ i ∧ vk = .int .i64 (k : Int) ∧ Hid (∀ c,c < k → x i ≠ x c) ∧ Below w9.heap.size w9 wr) (fun vk _ => i - (intOf vk).toNat)
     case atStart => exact ⟨0,by omega,rfl,fun c hc => by omega,BB⟩
     case round =>
      clear BB
      obtain ⟨k,hk,rfl,HK,BB⟩ := hrel
      by_cases hlt2 : k < i
      ·have g2 : (k : Int) < (i : Int) := by omega
       have g3 : (0 : Int) ≤ (k : Int) := by omega
       have g4 : (k : Int) < (n : Int) := by omega
       obtain ⟨b6,off,cc6,p6,a6,n6,c6,bo6,m6,d6,hvv,hcc,XA0,Ha0⟩ := QA0.at i hlt
       cases hvv
       obtain ⟨b7,off7,cc7,p7,a7,n7,c7,bo7,m7,d7,hvv,hcc7,XB0,Hb0⟩ := QA0.at k (by omega)
       cases hvv
       have XA := XA0.below BB
       have XB := XB0.below BB
       have Ha := Ha0.below BB
       have Hb := Hb0.below BB
       clear XA0 XB0 Ha0 Hb0
       by_cases hxx : x i = x k
       ·go_wp2
        (try simp only [g2,decide_true])
        (try simp only [g1,decide_true])
        refine wp_region_until 9 #[true,true,true,true,true,true,true,true,true] (fun aF lsd a' w' => ∃ vu0 vu1 vu2 vu3 vu4 vu5 vu6 vu7 vu8 : Value,a' = ((((((((aF.put (some 46) vu0).put (some 47) vu1).put (some 48) vu2).put (some 49) vu3).put (some 50) vu4).put (some 51) vu5).put (some 52) vu6).put (some 53) vu7).put (some 54) vu8 ∧ Below wr.heap.size wr w' ∧ (lsd.getD 0 false = true → vu0 = .slice (some ⟨b6,off,none⟩) n ca) ∧ (lsd.getD 1 false = true → vu1 = .int .i64 (i : Int)) ∧ (lsd.getD 2 false = true → vu2 = .pointer (some ⟨b6,off + i * 3,none⟩)) ∧ (lsd.getD 3 false = true → vu3 = .agg #[.bool p6,.slice a6 n6 c6,.slice bo6 m6 d6]) ∧ (lsd.getD 4 false = true → vu4 = .slice (some ⟨b6,off,none⟩) n ca) ∧ (lsd.getD 5 false = true → vu5 = .int .i64 (k : Int)) ∧ (lsd.getD 6 false = true → vu6 = .pointer (some ⟨b6,off + k * 3,none⟩)) ∧ (lsd.getD 7 false = true → vu7 = .agg #[.bool p7,.slice a7 n7 c7,.slice bo7 m7 d7]) ∧ (lsd.getD 8 false = true → vu8 = .bool true)) (by kernel_rfl) (by decide) (by kernel_rfl) (by rfl) (by kernel_rfl) ?_ ?_ ?_
        ·exact ⟨_,_,_,_,_,_,_,_,_,by simp only [Act.put,xL4,xL5,xL6]; rfl,(Below.refl _ _).drew,fun h => absurd h (fun h => mark_none h),fun h => absurd h (fun h => mark_none h),fun h => absurd h (fun h => mark_none h),fun h => absurd h (fun h => mark_none h),fun h => absurd h (fun h => mark_none h),fun h => absurd h (fun h => mark_none h),fun h => absurd h (fun h => mark_none h),fun h => absurd h (fun h => mark_none h),fun h => absurd h (fun h => mark_none h)⟩
        ·rintro lsd au wn iu hszu ⟨vu0,vu1,vu2,vu3,vu4,vu5,vu6,vu7,vu8,rfl,hbu,fu0,fu1,fu2,fu3,fu4,fu5,fu6,fu7,fu8⟩ himu hru
         rcases (show iu = 0 ∨ iu = 1 ∨ iu = 2 ∨ iu = 3 ∨ iu = 4 ∨ iu = 5 ∨ iu = 6 ∨ iu = 7 ∨ iu = 8 by omega) with rfl | rfl | rfl | rfl | rfl | rfl | rfl | rfl | rfl
         ·refine wpOp_shut (by rfl) (fun K hK => ?_)
          simp only [Act.put,xL4,xL5,xL6]
          go_simp
          exact hK.out _ _ ⟨(.slice (some ⟨b6,off,none⟩) n ca),vu1,vu2,vu3,vu4,vu5,vu6,vu7,vu8,by simp only [Act.put,xL4,xL5,xL6],hbu,fun _ => rfl,fun h => fu1 (mark_of (by decide) h),fun h => fu2 (mark_of (by decide) h),fun h => fu3 (mark_of (by decide) h),fun h => fu4 (mark_of (by decide) h),fun h => fu5 (mark_of (by decide) h),fun h => fu6 (mark_of (by decide) h),fun h => fu7 (mark_of (by decide) h),fun h => fu8 (mark_of (by decide) h)⟩
         ·refine wpOp_shut (by rfl) (fun K hK => ?_)
          simp only [Act.put,xL4,xL5,xL6]
          go_simp
          exact hK.out _ _ ⟨vu0,(.int .i64 (i : Int)),vu2,vu3,vu4,vu5,vu6,vu7,vu8,by simp only [Act.put,xL4,xL5,xL6],hbu,fun h => fu0 (mark_of (by decide) h),fun _ => rfl,fun h => fu2 (mark_of (by decide) h),fun h => fu3 (mark_of (by decide) h),fun h => fu4 (mark_of (by decide) h),fun h => fu5 (mark_of (by decide) h),fun h => fu6 (mark_of (by decide) h),fun h => fu7 (mark_of (by decide) h),fun h => fu8 (mark_of (by decide) h)⟩
         ·have eu0 := fu0 (dep_of 0 hru rfl (by kernel_rfl))
          have eu1 := fu1 (dep_of 1 hru rfl (by kernel_rfl))
          replace eu0 := eu0.symm
          subst eu0
          replace eu1 := eu1.symm
          subst eu1
          refine wpOp_shut (by rfl) (fun K hK => ?_)
          simp only [Act.put,xL4,xL5,xL6]
          go_simp
          exact hK.out _ _ ⟨(.slice (some ⟨b6,off,none⟩) n ca),(.int .i64 (i : Int)),(.pointer (some ⟨b6,off + i * 3,none⟩)),vu3,vu4,vu5,vu6,vu7,vu8,by simp only [Act.put,xL4,xL5,xL6],hbu,fun _ => rfl,fun _ => rfl,fun _ => rfl,fun h => fu3 (mark_of (by decide) h),fun h => fu4 (mark_of (by decide) h),fun h => fu5 (mark_of (by decide) h),fun h => fu6 (mark_of (by decide) h),fun h => fu7 (mark_of (by decide) h),fun h => fu8 (mark_of (by decide) h)⟩
         ·have eu2 := fu2 (dep_of 2 hru rfl (by kernel_rfl))
          replace eu2 := eu2.symm
          subst eu2
          refine wpOp_shut (by rfl) (fun K hK => ?_)
          simp only [Act.put,xL4,xL5,xL6]
          obtain ⟨XA_0,XA_1,XA_2⟩ := XA.below hbu
          go_simp
          exact hK.out _ _ ⟨vu0,vu1,(.pointer (some ⟨b6,off + i * 3,none⟩)),(.agg #[.bool p6,.slice a6 n6 c6,.slice bo6 m6 d6]),vu4,vu5,vu6,vu7,vu8,by simp only [Act.put,xL4,xL5,xL6],hbu,fun h => fu0 (mark_of (by decide) h),fun h => fu1 (mark_of (by decide) h),fun _ => rfl,fun _ => rfl,fun h => fu4 (mark_of (by decide) h),fun h => fu5 (mark_of (by decide) h),fun h => fu6 (mark_of (by decide) h),fun h => fu7 (mark_of (by decide) h),fun h => fu8 (mark_of (by decide) h)⟩
         ·refine wpOp_shut (by rfl) (fun K hK => ?_)
          simp only [Act.put,xL4,xL5,xL6]
          go_simp
          exact hK.out _ _ ⟨vu0,vu1,vu2,vu3,(.slice (some ⟨b6,off,none⟩) n ca),vu5,vu6,vu7,vu8,by simp only [Act.put,xL4,xL5,xL6],hbu,fun h => fu0 (mark_of (by decide) h),fun h => fu1 (mark_of (by decide) h),fun h => fu2 (mark_of (by decide) h),fun h => fu3 (mark_of (by decide) h),fun _ => rfl,fun h => fu5 (mark_of (by decide) h),fun h => fu6 (mark_of (by decide) h),fun h => fu7 (mark_of (by decide) h),fun h => fu8 (mark_of (by decide) h)⟩
         ·refine wpOp_shut (by rfl) (fun K hK => ?_)
          simp only [Act.put,xL4,xL5,xL6]
          go_simp
          exact hK.out _ _ ⟨vu0,vu1,vu2,vu3,vu4,(.int .i64 (k : Int)),vu6,vu7,vu8,by simp only [Act.put,xL4,xL5,xL6],hbu,fun h => fu0 (mark_of (by decide) h),fun h => fu1 (mark_of (by decide) h),fun h => fu2 (mark_of (by decide) h),fun h => fu3 (mark_of (by decide) h),fun h => fu4 (mark_of (by decide) h),fun _ => rfl,fun h => fu6 (mark_of (by decide) h),fun h => fu7 (mark_of (by decide) h),fun h => fu8 (mark_of (by decide) h)⟩
         ·have eu4 := fu4 (dep_of 4 hru rfl (by kernel_rfl))
          have eu5 := fu5 (dep_of 5 hru rfl (by kernel_rfl))
          replace eu4 := eu4.symm
          subst eu4
          replace eu5 := eu5.symm
          subst eu5
          refine wpOp_shut (by rfl) (fun K hK => ?_)
          simp only [Act.put,xL4,xL5,xL6]
          go_simp
          exact hK.out _ _ ⟨vu0,vu1,vu2,vu3,(.slice (some ⟨b6,off,none⟩) n ca),(.int .i64 (k : Int)),(.pointer (some ⟨b6,off + k * 3,none⟩)),vu7,vu8,by simp only [Act.put,xL4,xL5,xL6],hbu,fun h => fu0 (mark_of (by decide) h),fun h => fu1 (mark_of (by decide) h),fun h => fu2 (mark_of (by decide) h),fun h => fu3 (mark_of (by decide) h),fun _ => rfl,fun _ => rfl,fun _ => rfl,fun h => fu7 (mark_of (by decide) h),fun h => fu8 (mark_of (by decide) h)⟩
         ·have eu6 := fu6 (dep_of 6 hru rfl (by kernel_rfl))
          replace eu6 := eu6.symm
          subst eu6
          refine wpOp_shut (by rfl) (fun K hK => ?_)
          simp only [Act.put,xL4,xL5,xL6]
          obtain ⟨XB_0,XB_1,XB_2⟩ := XB.below hbu
          go_simp
          exact hK.out _ _ ⟨vu0,vu1,vu2,vu3,vu4,vu5,(.pointer (some ⟨b6,off + k * 3,none⟩)),(.agg #[.bool p7,.slice a7 n7 c7,.slice bo7 m7 d7]),vu8,by simp only [Act.put,xL4,xL5,xL6],hbu,fun h => fu0 (mark_of (by decide) h),fun h => fu1 (mark_of (by decide) h),fun h => fu2 (mark_of (by decide) h),fun h => fu3 (mark_of (by decide) h),fun h => fu4 (mark_of (by decide) h),fun h => fu5 (mark_of (by decide) h),fun _ => rfl,fun _ => rfl,fun h => fu8 (mark_of (by decide) h)⟩
         ·have eu3 := fu3 (dep_of 3 hru rfl (by kernel_rfl))
          have eu7 := fu7 (dep_of 7 hru rfl (by kernel_rfl))
          replace eu3 := eu3.symm
          subst eu3
          replace eu7 := eu7.symm
          subst eu7
          refine wpOp_shut (by rfl) (fun K hK => ?_)
          simp only [Act.put,xL4,xL5,xL6]
          have Ha := Ha.below hbu
          have Hb := Hb.below hbu
          go_simp
          refine (qsame_at _ _ (x i) (x k) 2 _ Ha Hb (by omega) (by omega)).mono ?_
          rintro eu wx ⟨rfl,bu⟩
          rw [decide_eq_true hxx]
          go_wp2_with fail
          have hbu2 := hbu.trans (bu.mono hbu.size)
          exact hK.out _ _ ⟨vu0,vu1,vu2,(.agg #[.bool p6,.slice a6 n6 c6,.slice bo6 m6 d6]),vu4,vu5,vu6,(.agg #[.bool p7,.slice a7 n7 c7,.slice bo7 m7 d7]),(.bool true),by simp only [Act.put,xL4,xL5,xL6],hbu2,fun h => fu0 (mark_of (by decide) h),fun h => fu1 (mark_of (by decide) h),fun h => fu2 (mark_of (by decide) h),fun _ => rfl,fun h => fu4 (mark_of (by decide) h),fun h => fu5 (mark_of (by decide) h),fun h => fu6 (mark_of (by decide) h),fun _ => rfl,fun _ => rfl⟩
        rintro au Wu1 ⟨vu0,vu1,vu2,vu3,vu4,vu5,vu6,vu7,vu8,rfl,hbu,fu0,fu1,fu2,fu3,fu4,fu5,fu6,fu7,fu8⟩
        have eu0 := (fu0 rfl).symm
        subst eu0
        have eu1 := (fu1 rfl).symm
        subst eu1
        have eu2 := (fu2 rfl).symm
        subst eu2
        have eu3 := (fu3 rfl).symm
        subst eu3
        have eu4 := (fu4 rfl).symm
        subst eu4
        have eu5 := (fu5 rfl).symm
        subst eu5
        have eu6 := (fu6 rfl).symm
        subst eu6
        have eu7 := (fu7 rfl).symm
        subst eu7
        have eu8 := (fu8 rfl).symm
        subst eu8
        clear fu0 fu1 fu2 fu3 fu4 fu5 fu6 fu7 fu8
        have hlXA : b6 < wr.heap.size := XA.lt
        have hlXB : b6 < wr.heap.size := XB.lt
        simp only [Act.put,xL4,xL5,xL6]
        replace Ha := Ha.below hbu
        replace Hb := Hb.below hbu
        replace XA := XA.below hbu
        replace XB := XB.below hbu
        replace BB := BB.trans (hbu.mono BB.size)
        clear hbu
        refine wpAnyH_done (by kernel_rfl) ?_ _
        clear XA XB Ha Hb
        have ht := ht0.below BB
        replace BB := BW.out.trans (BB.mono BW.out.size)
        go_wp2_with fail
        refine (awake4_at _ ht).mono ?_
        rintro e wz ⟨rfl,bz⟩
        replace BB := BB.trans (bz.mono BB.size)
        go_wp2
        go_ret
        exact ⟨rfl,BB⟩
       ·go_wp2
        (try simp only [g2,decide_true])
        (try simp only [g1,decide_true])
        refine wp_region_until 9 #[true,true,true,true,true,true,true,true,true] (fun aF lsd a' w' => ∃ vu0 vu1 vu2 vu3 vu4 vu5 vu6 vu7 vu8 : Value,a' = ((((((((aF.put (some 46) vu0).put (some 47) vu1).put (some 48) vu2).put (some 49) vu3).put (some 50) vu4).put (some 51) vu5).put (some 52) vu6).put (some 53) vu7).put (some 54) vu8 ∧ Below wr.heap.size wr w' ∧ (lsd.getD 0 false = true → vu0 = .slice (some ⟨b6,off,none⟩) n ca) ∧ (lsd.getD 1 false = true → vu1 = .int .i64 (i : Int)) ∧ (lsd.getD 2 false = true → vu2 = .pointer (some ⟨b6,off + i * 3,none⟩)) ∧ (lsd.getD 3 false = true → vu3 = .agg #[.bool p6,.slice a6 n6 c6,.slice bo6 m6 d6]) ∧ (lsd.getD 4 false = true → vu4 = .slice (some ⟨b6,off,none⟩) n ca) ∧ (lsd.getD 5 false = true → vu5 = .int .i64 (k : Int)) ∧ (lsd.getD 6 false = true → vu6 = .pointer (some ⟨b6,off + k * 3,none⟩)) ∧ (lsd.getD 7 false = true → vu7 = .agg #[.bool p7,.slice a7 n7 c7,.slice bo7 m7 d7]) ∧ (lsd.getD 8 false = true → vu8 = .bool false)) (by kernel_rfl) (by decide) (by kernel_rfl) (by rfl) (by kernel_rfl) ?_ ?_ ?_
        ·exact ⟨_,_,_,_,_,_,_,_,_,by simp only [Act.put,xL4,xL5,xL6]; rfl,(Below.refl _ _).drew,fun h => absurd h (fun h => mark_none h),fun h => absurd h (fun h => mark_none h),fun h => absurd h (fun h => mark_none h),fun h => absurd h (fun h => mark_none h),fun h => absurd h (fun h => mark_none h),fun h => absurd h (fun h => mark_none h),fun h => absurd h (fun h => mark_none h),fun h => absurd h (fun h => mark_none h),fun h => absurd h (fun h => mark_none h)⟩
        ·rintro lsd au wn iu hszu ⟨vu0,vu1,vu2,vu3,vu4,vu5,vu6,vu7,vu8,rfl,hbu,fu0,fu1,fu2,fu3,fu4,fu5,fu6,fu7,fu8⟩ himu hru
         rcases (show iu = 0 ∨ iu = 1 ∨ iu = 2 ∨ iu = 3 ∨ iu = 4 ∨ iu = 5 ∨ iu = 6 ∨ iu = 7 ∨ iu = 8 by omega) with rfl | rfl | rfl | rfl | rfl | rfl | rfl | rfl | rfl
         ·refine wpOp_shut (by rfl) (fun K hK => ?_)
          simp only [Act.put,xL4,xL5,xL6]
          go_simp
          exact hK.out _ _ ⟨(.slice (some ⟨b6,off,none⟩) n ca),vu1,vu2,vu3,vu4,vu5,vu6,vu7,vu8,by simp only [Act.put,xL4,xL5,xL6],hbu,fun _ => rfl,fun h => fu1 (mark_of (by decide) h),fun h => fu2 (mark_of (by decide) h),fun h => fu3 (mark_of (by decide) h),fun h => fu4 (mark_of (by decide) h),fun h => fu5 (mark_of (by decide) h),fun h => fu6 (mark_of (by decide) h),fun h => fu7 (mark_of (by decide) h),fun h => fu8 (mark_of (by decide) h)⟩
         ·refine wpOp_shut (by rfl) (fun K hK => ?_)
          simp only [Act.put,xL4,xL5,xL6]
          go_simp
          exact hK.out _ _ ⟨vu0,(.int .i64 (i : Int)),vu2,vu3,vu4,vu5,vu6,vu7,vu8,by simp only [Act.put,xL4,xL5,xL6],hbu,fun h => fu0 (mark_of (by decide) h),fun _ => rfl,fun h => fu2 (mark_of (by decide) h),fun h => fu3 (mark_of (by decide) h),fun h => fu4 (mark_of (by decide) h),fun h => fu5 (mark_of (by decide) h),fun h => fu6 (mark_of (by decide) h),fun h => fu7 (mark_of (by decide) h),fun h => fu8 (mark_of (by decide) h)⟩
         ·have eu0 := fu0 (dep_of 0 hru rfl (by kernel_rfl))
          have eu1 := fu1 (dep_of 1 hru rfl (by kernel_rfl))
          replace eu0 := eu0.symm
          subst eu0
          replace eu1 := eu1.symm
          subst eu1
          refine wpOp_shut (by rfl) (fun K hK => ?_)
          simp only [Act.put,xL4,xL5,xL6]
          go_simp
          exact hK.out _ _ ⟨(.slice (some ⟨b6,off,none⟩) n ca),(.int .i64 (i : Int)),(.pointer (some ⟨b6,off + i * 3,none⟩)),vu3,vu4,vu5,vu6,vu7,vu8,by simp only [Act.put,xL4,xL5,xL6],hbu,fun _ => rfl,fun _ => rfl,fun _ => rfl,fun h => fu3 (mark_of (by decide) h),fun h => fu4 (mark_of (by decide) h),fun h => fu5 (mark_of (by decide) h),fun h => fu6 (mark_of (by decide) h),fun h => fu7 (mark_of (by decide) h),fun h => fu8 (mark_of (by decide) h)⟩
         ·have eu2 := fu2 (dep_of 2 hru rfl (by kernel_rfl))
          replace eu2 := eu2.symm
          subst eu2
          refine wpOp_shut (by rfl) (fun K hK => ?_)
          simp only [Act.put,xL4,xL5,xL6]
          obtain ⟨XA_0,XA_1,XA_2⟩ := XA.below hbu
          go_simp
          exact hK.out _ _ ⟨vu0,vu1,(.pointer (some ⟨b6,off + i * 3,none⟩)),(.agg #[.bool p6,.slice a6 n6 c6,.slice bo6 m6 d6]),vu4,vu5,vu6,vu7,vu8,by simp only [Act.put,xL4,xL5,xL6],hbu,fun h => fu0 (mark_of (by decide) h),fun h => fu1 (mark_of (by decide) h),fun _ => rfl,fun _ => rfl,fun h => fu4 (mark_of (by decide) h),fun h => fu5 (mark_of (by decide) h),fun h => fu6 (mark_of (by decide) h),fun h => fu7 (mark_of (by decide) h),fun h => fu8 (mark_of (by decide) h)⟩
         ·refine wpOp_shut (by rfl) (fun K hK => ?_)
          simp only [Act.put,xL4,xL5,xL6]
          go_simp
          exact hK.out _ _ ⟨vu0,vu1,vu2,vu3,(.slice (some ⟨b6,off,none⟩) n ca),vu5,vu6,vu7,vu8,by simp only [Act.put,xL4,xL5,xL6],hbu,fun h => fu0 (mark_of (by decide) h),fun h => fu1 (mark_of (by decide) h),fun h => fu2 (mark_of (by decide) h),fun h => fu3 (mark_of (by decide) h),fun _ => rfl,fun h => fu5 (mark_of (by decide) h),fun h => fu6 (mark_of (by decide) h),fun h => fu7 (mark_of (by decide) h),fun h => fu8 (mark_of (by decide) h)⟩
         ·refine wpOp_shut (by rfl) (fun K hK => ?_)
          simp only [Act.put,xL4,xL5,xL6]
          go_simp
          exact hK.out _ _ ⟨vu0,vu1,vu2,vu3,vu4,(.int .i64 (k : Int)),vu6,vu7,vu8,by simp only [Act.put,xL4,xL5,xL6],hbu,fun h => fu0 (mark_of (by decide) h),fun h => fu1 (mark_of (by decide) h),fun h => fu2 (mark_of (by decide) h),fun h => fu3 (mark_of (by decide) h),fun h => fu4 (mark_of (by decide) h),fun _ => rfl,fun h => fu6 (mark_of (by decide) h),fun h => fu7 (mark_of (by decide) h),fun h => fu8 (mark_of (by decide) h)⟩
         ·have eu4 := fu4 (dep_of 4 hru rfl (by kernel_rfl))
          have eu5 := fu5 (dep_of 5 hru rfl (by kernel_rfl))
          replace eu4 := eu4.symm
          subst eu4
          replace eu5 := eu5.symm
          subst eu5
          refine wpOp_shut (by rfl) (fun K hK => ?_)
          simp only [Act.put,xL4,xL5,xL6]
          go_simp
          exact hK.out _ _ ⟨vu0,vu1,vu2,vu3,(.slice (some ⟨b6,off,none⟩) n ca),(.int .i64 (k : Int)),(.pointer (some ⟨b6,off + k * 3,none⟩)),vu7,vu8,by simp only [Act.put,xL4,xL5,xL6],hbu,fun h => fu0 (mark_of (by decide) h),fun h => fu1 (mark_of (by decide) h),fun h => fu2 (mark_of (by decide) h),fun h => fu3 (mark_of (by decide) h),fun _ => rfl,fun _ => rfl,fun _ => rfl,fun h => fu7 (mark_of (by decide) h),fun h => fu8 (mark_of (by decide) h)⟩
         ·have eu6 := fu6 (dep_of 6 hru rfl (by kernel_rfl))
          replace eu6 := eu6.symm
          subst eu6
          refine wpOp_shut (by rfl) (fun K hK => ?_)
          simp only [Act.put,xL4,xL5,xL6]
          obtain ⟨XB_0,XB_1,XB_2⟩ := XB.below hbu
          go_simp
          exact hK.out _ _ ⟨vu0,vu1,vu2,vu3,vu4,vu5,(.pointer (some ⟨b6,off + k * 3,none⟩)),(.agg #[.bool p7,.slice a7 n7 c7,.slice bo7 m7 d7]),vu8,by simp only [Act.put,xL4,xL5,xL6],hbu,fun h => fu0 (mark_of (by decide) h),fun h => fu1 (mark_of (by decide) h),fun h => fu2 (mark_of (by decide) h),fun h => fu3 (mark_of (by decide) h),fun h => fu4 (mark_of (by decide) h),fun h => fu5 (mark_of (by decide) h),fun _ => rfl,fun _ => rfl,fun h => fu8 (mark_of (by decide) h)⟩
         ·have eu3 := fu3 (dep_of 3 hru rfl (by kernel_rfl))
          have eu7 := fu7 (dep_of 7 hru rfl (by kernel_rfl))
          replace eu3 := eu3.symm
          subst eu3
          replace eu7 := eu7.symm
          subst eu7
          refine wpOp_shut (by rfl) (fun K hK => ?_)
          simp only [Act.put,xL4,xL5,xL6]
          have Ha := Ha.below hbu
          have Hb := Hb.below hbu
          go_simp
          refine (qsame_at _ _ (x i) (x k) 2 _ Ha Hb (by omega) (by omega)).mono ?_
          rintro eu wx ⟨rfl,bu⟩
          rw [decide_eq_false hxx]
          go_wp2_with fail
          have hbu2 := hbu.trans (bu.mono hbu.size)
          exact hK.out _ _ ⟨vu0,vu1,vu2,(.agg #[.bool p6,.slice a6 n6 c6,.slice bo6 m6 d6]),vu4,vu5,vu6,(.agg #[.bool p7,.slice a7 n7 c7,.slice bo7 m7 d7]),(.bool false),by simp only [Act.put,xL4,xL5,xL6],hbu2,fun h => fu0 (mark_of (by decide) h),fun h => fu1 (mark_of (by decide) h),fun h => fu2 (mark_of (by decide) h),fun _ => rfl,fun h => fu4 (mark_of (by decide) h),fun h => fu5 (mark_of (by decide) h),fun h => fu6 (mark_of (by decide) h),fun _ => rfl,fun _ => rfl⟩
        rintro au Wu1 ⟨vu0,vu1,vu2,vu3,vu4,vu5,vu6,vu7,vu8,rfl,hbu,fu0,fu1,fu2,fu3,fu4,fu5,fu6,fu7,fu8⟩
        have eu0 := (fu0 rfl).symm
        subst eu0
        have eu1 := (fu1 rfl).symm
        subst eu1
        have eu2 := (fu2 rfl).symm
        subst eu2
        have eu3 := (fu3 rfl).symm
        subst eu3
        have eu4 := (fu4 rfl).symm
        subst eu4
        have eu5 := (fu5 rfl).symm
        subst eu5
        have eu6 := (fu6 rfl).symm
        subst eu6
        have eu7 := (fu7 rfl).symm
        subst eu7
        have eu8 := (fu8 rfl).symm
        subst eu8
        clear fu0 fu1 fu2 fu3 fu4 fu5 fu6 fu7 fu8
        have hlXA : b6 < wr.heap.size := XA.lt
        have hlXB : b6 < wr.heap.size := XB.lt
        simp only [Act.put,xL4,xL5,xL6]
        replace Ha := Ha.below hbu
        replace Hb := Hb.below hbu
        replace XA := XA.below hbu
        replace XB := XB.below hbu
        replace BB := BB.trans (hbu.mono BB.size)
        clear hbu
        refine wpAnyH_done (by kernel_rfl) ?_ _
        clear XA XB Ha Hb
        have HK2 : Hid (∀ c,c < k + 1 → x i ≠ x c) := fun c hc => by
         by_cases e : c = k
         ·subst e; exact hxx
         ·exact HK.out c (by omega)
        clear HK
        go_wp2
        go_roundw
        case rel => exact ⟨k + 1,by omega,by go_num,HK2,BB⟩
        case measure => simp [intOf]; omega
      ·obtain rfl : k = i := by omega
       have g2 : ¬ (k : Int) < (k : Int) := by omega
       have HI2 : Hid (∀ b,b < k + 1 → ∀ c,c < b → x b ≠ x c) := fun b hb c hc => by
        by_cases e : b = k
        ·subst e; exact HK.out c hc
        ·exact HI.out b (by omega) c hc
       clear HI HK
       go_wp2
       go_roundw
       case rel => exact ⟨k + 1,by omega,by go_num,HI2,BB⟩
       case measure => simp [intOf]; omega
    ·obtain rfl : i = n := by omega
     exact absurd (fun b hb c hc => HI.out b hb c hc) HDD.out
 ·have g1 : ¬ (n : Int) = (m : Int) := by omega
  have g2 : ((n : Int) != (m : Int)) = true := by simp; omega
  refine (through_len _ _ n m x y _ QA QB hnm).mono ?_
  rintro e w3 ⟨rfl,b3⟩
  replace ht := ht.below b3
  replace QA := QA.below b3
  replace QB := QB.below b3
  replace BB := BB.trans (b3.mono BB.size)
  clear b3
  go_wp2_with fail
  refine (awake4_at _ ht).mono ?_
  rintro e w4 ⟨rfl,b4⟩
  replace ht := ht.below b4
  replace QA := QA.below b4
  replace QB := QB.below b4
  replace BB := BB.trans (b4.mono BB.size)
  clear b4
  go_wp2
  go_ret
  exact ⟨rfl,BB⟩

theorem own : ownKnob Tryz.prog.godebug = none := by kernel_rfl
theorem laidOut : laidOutB Tryz.prog = true := by kernel_rfl

abbrev laid1 : List (String × DataW Unit) := [("math/bits.deBruijn64tab",Rows.laid_math_bits_deBruijn64tab)]
theorem gTab : Tryz.prog.globalNamed "math/bits.deBruijn64tab" = some 0 := by kernel_rfl
theorem gTabType : (Tryz.prog.globals[0]?).map (·.type) = some 137 := by kernel_rfl
theorem uTab : Tryz.prog.underlying 137 = some (.array 64 5) := by kernel_rfl
theorem uCell : Tryz.prog.underlying 5 = some (.int .u8) := by kernel_rfl
theorem cCell : Tryz.prog.cellsOf 5 = 1 := by kernel_rfl
theorem cTab : Tryz.prog.cellsOf 137 = 64 := by kernel_rfl
/-- The listed table lies in its cells. -/
theorem tab_of {W : World} (h : laidMetH Tryz.prog laid1 W) : Tab W := by
 rw [MakeChecks.laidMetH_plain _ _ _ (by kernel_rfl)] at h
 have hd : laid1 = [("math/bits.deBruijn64tab",Lib.tabData .u8 (Lib.deBruijn64tab.map fun (n : Nat) => Int.ofNat n))] := rfl
 rw [hd] at h
 have hT := Lib.tabIs_of_head gTab gTabType uTab uCell cCell cTab h
 intro i hi
 have hc := hT.cell gTab i (by rw [List.length_map]; exact hi)
 rw [hc]
 congr 2
 rw [List.getD_eq_getElem?_getD,List.getElem?_map,List.getD_eq_getElem?_getD]
 cases Lib.deBruijn64tab[i]? <;> rfl
/-- A start for the witness: the heap that the run of the program's own initialisers leaves. -/
noncomputable def startW (os : Os) : World := { World.holding Tryz.prog os ⟨#[],#[],[]⟩ with heap := (varsWorld Tryz.prog 400 (varsId Tryz.prog) os (fun _ _ => 0)).heap }
theorem start_met (os : Os) (args : Array Value) : laidMetH Tryz.prog laid1 ((startW os).forCall (fun _ _ => 0) ⟨#[],args,[]⟩).memory :=
 laidMetH_of_parts3 (fuel := 8) (laidMet_of_run' 8 (by kernel_rfl) (by kernel_rfl)) (by kernel_rfl) (by kernel_rfl)

set_option maxRecDepth 100000 in
theorem lifted (os : Os) (started : os.Started) (H : Type) (enc : TypeId × Value → H) :
  ReturnsInHanded {} Tryz.checked os 8 .any (fun w args => (Rows.polyThroughSpec.pre enc Tryz.prog Tryz.f8 [] false w args ∧ laidMetH Tryz.prog laid1 w) ∧ sizedMet enc Tryz.prog Tryz.f8 (OpenSpec.ofChange Rows.polyThroughSpec) false w args) (Rows.polyThroughSpec.post enc Tryz.prog Tryz.f8 false true false false) := by
 refine returnsInHanded_of_change_and (C := Tryz.checked) (X := fun w _ => laidMetH Tryz.prog laid1 w) (fun _ _ _ hh h => h.of_heap hh) own started (by kernel_rfl) Tryz.func8
  (ChangeSpec.witness_shaped (enc := enc) (C := Tryz.checked) (os := os) (X := fun w _ => laidMetH Tryz.prog laid1 w) false (startW os) #[.slice none 0 0,.slice none 0 0] 8 rfl (World.shaped_of_RefB (by kernel_rfl) (by kernel_rfl)) (by kernel_rfl) (by kernel_rfl) (by kernel_rfl) (start_met os _)) ?_
 intro W base args ds gs before hval0 hW _ _ hL _
 have hval : ∀ (j : Nat) t v,Tryz.f8.params[j]? = some t → args[j]? = some v → Value.okWide Tryz.prog W .any base t v := hval0
 have hW' := hW
 obtain ⟨p,q,hA0,hV,rfl,hfz,hnd⟩ := hW
 have hA : DataW.TrodAll enc Tryz.prog W 0 (fun _ => true) true Tryz.f8.params.toList args.toList ds p := hA0
 rw [Tryz.params8] at hA hval
 obtain ⟨v0,vs0,d0,ds0,p0,q0,hargs,rfl,rfl,h0,r0⟩ := trodAll_cons hA
 obtain ⟨v1,vs1,d1,ds1,p1,q1,rfl,rfl,rfl,h1,r1⟩ := trodAll_cons r0
 obtain ⟨rfl,rfl,rfl⟩ := trodAll_nil r1
 obtain rfl : args = #[v0,v1] := by cases args; simp_all
 obtain ⟨rfl,rfl⟩ := trodVars_none hV
 have k0 := h0
 have lt0 : ∀ x ∈ p0,x.block < W.heap.size := by obtain ⟨m,hm⟩ := k0; exact DataW.trod_lt m _ _ _ hm
 obtain ⟨n0,z0,w0⟩ := open_wrats KLIST (hval 0 22 v0 rfl rfl) h0
 have k1 := h1
 have lt1 : ∀ x ∈ p1,x.block < W.heap.size := by obtain ⟨m,hm⟩ := k1; exact DataW.trod_lt m _ _ _ hm
 obtain ⟨n1,z1,w1⟩ := open_wrats KLIST (hval 1 22 v1 rfl rfl) h1
 clear hA0 hval0
 refine (walk _ _ _ _ _ _ W w0 w1 (tab_of hL)).mono fun e W' ⟨he,bel⟩ => ?_
 subst he
 exact ⟨_,rfl,_,_,_,[],_,[],hW',trodAll_mk1 (shut_bool Tryz.underlying4 _),(trodAll_cons_mk (Below.trod laidOut (by kernel_rfl) (of_decide_eq_true (by kernel_rfl)) k0 bel lt0) (trodAll_cons_mk (Below.trod laidOut (by kernel_rfl) (of_decide_eq_true (by kernel_rfl)) k1 bel lt1) trodAll_mk0)),rfl,bel.frame _,fun h => by cases h⟩

theorem over : Rows.polyThroughRow.holds Tryz.pinned (OpenSpec.ofChange Rows.polyThroughSpec) :=
 OpenClaim.holds_of_wide 8 Tryz.f8 rfl rfl rfl rfl rfl rfl rfl ⟨rfl,rfl,rfl,rfl,rfl⟩ rfl rfl rfl rfl rfl (by kernel_rfl) Tryz.func8 (by kernel_rfl)
  (of_decide_eq_true (by kernel_rfl)) (by unfold Func.isWrapper; first | (rw [if_pos (by decide +kernel)]; kernel_rfl) | (rw [if_neg (by decide +kernel)]; exact ⟨rfl,rfl⟩))
  (fun os started H enc _ => lifted os started H enc)

end Go.Proofs.YtnbocjbfieklhaaGreatDoor.polyThrough
namespace Go.Proofs.YtnbocjbfieklhaaGreatDoor
/-- The statement: the row, tied to the text of the program. -/
theorem polyThrough_holds : Rows.PolyThroughCardSaid :=
 Claim7.holds_tied_plain_at .later [] [.data] true (true,"bbc665b88dfdf00f59a32d7f70012164447cbec1d4343b32efd05aa9803691dc") false
  polyThrough.over (fun _ h => by cases h) (by kernel_rfl) (fun _ h => by cases h) polyThrough_row_tie rfl ⟨rfl,rfl⟩ (by kernel_rfl) rfl
  (fun f fn hf hfn => by
   obtain rfl : f = 8 := Option.some.inj ((show Tryz.prog.funcNamed "dendron/dendronlaw04.PolyThrough" = some 8 by kernel_rfl).symm.trans hf) |>.symm
   obtain rfl : fn = Tryz.f8 := (Option.some.inj (Tryz.func8.symm.trans hfn)).symm
   exact ⟨by kernel_rfl,fun j t ht => by
    rw [Tryz.params8] at ht
    have hm : t ∈ [22,22] := by simpa using Array.mem_of_getElem? ht
    have hall : ([22,22].all fun u => !Tryz.prog.wantsStandIn u) = true := by kernel_rfl
    exact (show Tryz.prog.wantsStandIn t = false by simpa using List.all_eq_true.1 hall t hm)⟩)
  (by kernel_rfl)
end Go.Proofs.YtnbocjbfieklhaaGreatDoor
