/-
 Proves that Gcd answers,of any two polynomials of up to 4 coefficients of up to 2 limbs,the monic one of a sum of multiples of both that dividing finds,whatever comes in (the statement PolyLeast,its tied card); the table of math/bits lies as the program's text lays it; no other condition.
-/
import Derived.Test.YtnbocjbfieklhaaGreatDoorRows
import Derived.Test.YtnbocjbfieklhaaGreatDoorJe9090ee34a
import Derived.Test.YtnbocjbfieklhaaGreatDoorJ7c7ed501e3
import Derived.Test.YtnbocjbfieklhaaGreatDoorJ1611d74828
import Derived.WalkKit
import Derived.ProofKit
import Derived.OpenShut
import Derived.ShutString
import Derived.ChangeOld
import Derived.Below
import Derived.Test.YtnbocjbfieklhaaGreatDoorTie
import Derived.Test.YtnbocjbfieklhaaGreatDoorCards
import Derived.LaidByTextLater
import Derived.LaidHandle
import Derived.Lib.LaidTab
import Derived.SevenTiedAt
namespace Go.Proofs.YtnbocjbfieklhaaGreatDoor.polyLeast
open Go.ChangeShapes Go.WideShapes Go.ChangeAt Go.RowKit
open Go.ChangeMaps (open_string shut_string)
set_option linter.unusedVariables false
set_option linter.unusedSimpArgs false

def KLIST : Nat := 2
theorem start_a {f : Nat → Rat} {g : Nat → Rat} {i : Nat} {h : Nat → Rat} : cmul f (co 1 (fun _ => (1 : Rat))) i + cmul g (co 0 h) i = f i + 0 := by
 rw [cmul_comm f,cmul_congr (cone_co 1 rfl) (fun _ => rfl),cmul_one]
 congr 1
 exact sumq_zero _ _ (fun j _ => by show _ * co 0 h _ = 0; rw [co_ge (by omega),Rat.mul_zero])
theorem start_b {f : Nat → Rat} {g : Nat → Rat} {i : Nat} {h : Nat → Rat} : cmul g (co 0 h) i + cmul f (co 1 (fun _ => (1 : Rat))) i = 0 + f i := by
 rw [cmul_comm f,cmul_congr (cone_co 1 rfl) (fun _ => rfl),cmul_one]
 congr 1
 exact sumq_zero _ _ (fun j _ => by show _ * co 0 h _ = 0; rw [co_ge (by omega),Rat.mul_zero])

set_option maxRecDepth 100000 in
set_option maxHeartbeats 32000000 in
theorem walk (v1 : Value) (n1 : Nat) (q1 : Nat → Rat) (v2 : Value) (n2 : Nat) (q2 : Nat → Rat) (w : World) (h1 : RawQ w v1 n1 q1 KLIST) (h2 : RawQ w v2 n2 q2 KLIST) (ht : Tab w) :
  Calls Tryz.prog 5 #[v1,v2] w fun e w' => e = .returned (.bool true) ∧ Below w.heap.size w w' := by
 unfold KLIST at h1 h2
 have BB : Below w.heap.size w w := Below.refl _ _
 go_enter Tryz.func5,Tryz.ntmps5
 go_wp2_with fail
 refine (few4_at _ n1 4 q1 _ h1 (by omega)).mono ?_
 rintro e w1 ⟨rA,rfl,Qo,b1⟩
 replace h1 := h1.below b1
 replace h2 := h2.below b1
 replace ht := ht.below b1
 replace BB := BB.trans (b1.mono BB.size)
 clear b1
 have QA := Qo.row
 clear Qo
 obtain ⟨n,hn⟩ : ∃ n,n = min n1 4 := ⟨_,rfl⟩
 rw [← hn] at QA
 have hn4 : n ≤ 4 := by omega
 clear hn
 have sA : ∀ i,i < n → qsz (q1 i) ≤ 2 := fun i hi => QA.sz (by omega) i hi
 go_wp2_with fail
 clear h1
 refine (pclean_at _ n q1 2 _ QA ht (by omega) (by omega) (by omega)).mono ?_
 rintro e w2 ⟨xA,rfl,F_,b2⟩
 replace h2 := h2.below b2
 replace ht := ht.below b2
 replace QA := QA.below b2
 replace BB := BB.trans (b2.mono BB.size)
 clear b2
 have FA := F_.1
 clear F_
 have lA_ := trimN_le q1 n
 have HA1 : Hid (0 < trimN q1 n → q1 (trimN q1 n - 1) ≠ 0) := trimN_top _ _
 have HA2 : Hid (IForm (trimN q1 n) q1 9) := (IForm.of_sz 2 q1 _ (fun i hi => sA i (by omega))).le (by omega)
 generalize trimN q1 n = la at *
 clear QA
 obtain ⟨aa,ca,rfl⟩ := FA.open
 go_wp2_with fail
 refine (few4_at _ n2 4 q2 _ h2 (by omega)).mono ?_
 rintro e w3 ⟨rB,rfl,Qo,b3⟩
 replace h2 := h2.below b3
 replace ht := ht.below b3
 replace FA := FA.below b3
 replace BB := BB.trans (b3.mono BB.size)
 clear b3
 have QB := Qo.row
 clear Qo
 obtain ⟨m,hn⟩ : ∃ n,n = min n2 4 := ⟨_,rfl⟩
 rw [← hn] at QB
 have hm4 : m ≤ 4 := by omega
 clear hn
 have sB : ∀ i,i < m → qsz (q2 i) ≤ 2 := fun i hi => QB.sz (by omega) i hi
 go_wp2_with fail
 clear h2
 refine (pclean_at _ m q2 2 _ QB ht (by omega) (by omega) (by omega)).mono ?_
 rintro e w4 ⟨xB,rfl,F_,b4⟩
 replace ht := ht.below b4
 replace FA := FA.below b4
 replace QB := QB.below b4
 replace BB := BB.trans (b4.mono BB.size)
 clear b4
 have FB := F_.1
 clear F_
 have lB_ := trimN_le q2 m
 have HB1 : Hid (0 < trimN q2 m → q2 (trimN q2 m - 1) ≠ 0) := trimN_top _ _
 have HB2 : Hid (IForm (trimN q2 m) q2 9) := (IForm.of_sz 2 q2 _ (fun i hi => sB i (by omega))).le (by omega)
 generalize trimN q2 m = lb at *
 clear QB
 obtain ⟨ab,cb,rfl⟩ := FB.open
 have hla : la ≤ 4 := by omega
 have hlb : lb ≤ 4 := by omega
 go_wp2_with fail
 refine (pgcd_at _ _ la lb q1 q2 _ FA FB ht (by omega) (by omega) (HA2.out.le (by omega)) (HB2.out.le (by omega)) HA1.out HB1.out).mono ?_
 rintro e w20 ⟨xg,l,P,rfl,FG,hl,hmon,hform,hzero,hdv,b20⟩
 replace FA := FA.below b20
 replace FB := FB.below b20
 replace ht := ht.below b20
 replace BB := BB.trans (b20.mono BB.size)
 clear b20
 obtain ⟨ag,cg,rfl⟩ := FG.open
 have HMON : Hid (0 < l → P (l - 1) = 1) := hmon
 have HFORM : Hid (IForm l P (uz l)) := hform
 have HZERO : Hid (l = 0 ↔ la = 0 ∧ lb = 0) := hzero
 have HDG : Hid (∀ d,Dv d (co l P) ↔ (Dv d (co la q1) ∧ Dv d (co lb q2))) := hdv
 clear hmon hform hzero hdv
 go_wp2_with fail
 refine (qone_at _).mono ?_
 rintro e w31 ⟨x1,rfl,h1,b31⟩
 replace ht := ht.below b31
 replace FA := FA.below b31
 replace FB := FB.below b31
 replace FG := FG.below b31
 replace BB := BB.trans (b31.mono BB.size)
 clear b31
 obtain ⟨p1,a1,n1_,c1,b1,m1,d1,rfl⟩ := h1.open
 obtain ⟨W9,hW9,b9,FX⟩ := frow1_lay w31 35 h1
 replace ht := ht.below b9
 replace FA := FA.below b9
 replace FB := FB.below b9
 replace FG := FG.below b9
 replace h1 := h1.below b9
 replace BB := BB.trans (b9.mono BB.size)
 clear h1
 obtain ⟨Wa,hWa,ba⟩ := empty_lay W9 35
 replace ht := ht.below ba
 replace FA := FA.below ba
 replace FB := FB.below ba
 replace FG := FG.below ba
 replace FX := FX.below ba
 replace BB := BB.trans (ba.mono BB.size)
 obtain ⟨Wb,hWb,bb⟩ := empty_lay Wa 35
 replace ht := ht.below bb
 replace FA := FA.below bb
 replace FB := FB.below bb
 replace FG := FG.below bb
 replace FX := FX.below bb
 replace BB := BB.trans (bb.mono BB.size)
 go_wp2_with fail
 rw [← hW9,← hWa,← hWb]
 clear b9 ba bb
 refine (qone_at _).mono ?_
 rintro e w32 ⟨x2,rfl,h1,b32⟩
 replace ht := ht.below b32
 replace FA := FA.below b32
 replace FB := FB.below b32
 replace FG := FG.below b32
 replace FX := FX.below b32
 replace BB := BB.trans (b32.mono BB.size)
 clear b32
 obtain ⟨p2,a2,n2_,c2,b2,m2,d2,rfl⟩ := h1.open
 obtain ⟨W8,hW8,b8,FV⟩ := frow1_lay w32 35 h1
 replace ht := ht.below b8
 replace FA := FA.below b8
 replace FB := FB.below b8
 replace FG := FG.below b8
 replace FX := FX.below b8
 replace h1 := h1.below b8
 replace BB := BB.trans (b8.mono BB.size)
 clear h1
 go_wp2
 rw [← hW8]
 clear b8 hW8 hW9 hWa hWb
 have FA0 := FA
 have FB0 := FB
 have FG0 := FG
 have ht0 := ht
 have BW : Hid (Below w.heap.size w W8) := BB
 clear FA FB FG ht BB
 go_loopw [6,7,8,9,10,11,12] (fun vr vs vx vy vu vv vi wr => ∃ (t lr ls hr hs lx lu ly lv : Nat) (R S X U Y V : Nat → Rat),vi = .int .i64 (t : Int) ∧ FRow wr vr lr R ∧ FRow wr vs ls S ∧ FRow wr vx lx X ∧ FRow wr vu lu U ∧ FRow wr vy ly Y ∧ FRow wr vv lv V ∧ Hid (LSt t lr ls hr hs lx lu ly lv) ∧ Hid (0 < lr → R (lr - 1) ≠ 0) ∧ Hid (0 < ls → S (ls - 1) ≠ 0) ∧ Hid (IForm lr R hr) ∧ Hid (IForm ls S hs) ∧ Hid (IForm lx X (fz t)) ∧ Hid (IForm ly Y (fz t)) ∧ Hid (IForm lu U (fz (t + 1))) ∧ Hid (IForm lv V (fz (t + 1))) ∧ Hid (∀ i,co lr R i = cmul (co la q1) (co lx X) i + cmul (co lb q2) (co ly Y) i) ∧ Hid (∀ i,co ls S i = cmul (co la q1) (co lu U) i + cmul (co lb q2) (co lv V) i) ∧ Hid (∀ d,(Dv d (co lr R) ∧ Dv d (co ls S)) ↔ (Dv d (co la q1) ∧ Dv d (co lb q2))) ∧ Hid ((lr = 0 ∧ ls = 0) ↔ (la = 0 ∧ lb = 0)) ∧ Below W8.heap.size W8 wr) (fun _ _ _ _ _ _ vi _ => 10 - (intOf vi).toNat)
 case atStart => exact ⟨0,la,lb,9,9,1,0,0,1,q1,q2,fun _ => 1,fun _ => 0,fun _ => 0,fun _ => 1,rfl,FA0,FB0,FX,frow_zero _ _ _ _ (by omega),frow_zero _ _ _ _ (by omega),FV,Or.inl ⟨rfl,hla,hlb,rfl,rfl,by omega,by omega,by omega,by omega⟩,HA1,HB1,HA2,HB2,IForm.one (by decide),IForm.none (by decide),IForm.none (by decide),IForm.one (by decide),fun i => by rw [start_a]; exact (Rat.add_zero _).symm,fun i => by rw [start_b]; exact (Rat.zero_add _).symm,fun d => Iff.rfl,Iff.rfl,Below.refl _ _⟩
 case round =>
  clear FX FV
  obtain ⟨t,lr,ls,hr,hs,lx,lu,ly,lv,R,S,X,U,Y,V,rfl,FR,FS,FX,FU,FY,FV,HST,HRT,HSTP,HFR,HFS,HFX,HFY,HFU,HFV,HE1,HE2,HDV,HZ,BB⟩ := hrel
  obtain ⟨rA,rC,rfl⟩ := FR.open
  obtain ⟨sA_,sC_,rfl⟩ := FS.open
  obtain ⟨xA,xC,rfl⟩ := FX.open
  obtain ⟨uA,uC,rfl⟩ := FU.open
  obtain ⟨yA,yC,rfl⟩ := FY.open
  obtain ⟨vA,vC,rfl⟩ := FV.open
  obtain ⟨t4,lr4,ls4,hr9,hs9,hs289,hr289,lx5,lu5,ly5,lv5⟩ := HST.out.all
  have hti : (t : Int) < 10 := by omega
  have hfz := fz_le4 t (by omega)
  have hfz1 := (fz_le t (by omega)).2.1
  by_cases h0 : ls = 0
  ·subst h0
   have FA := FA0.below BB
   have FB := FB0.below BB
   have FG := FG0.below BB
   have ht := ht0.below BB
   replace BB := BW.out.trans (BB.mono BW.out.size)
   have sA9 : ∀ i,i < la → qsz (q1 i) ≤ 3340 := fun i hi => Nat.le_trans (HA2.out.sz (by omega) i hi) (by omega)
   have sB9 : ∀ i,i < lb → qsz (q2 i) ≤ 3340 := fun i hi => Nat.le_trans (HB2.out.sz (by omega) i hi) (by omega)
   have sX : ∀ i,i < lx → qsz (X i) ≤ 3340 := fun i hi => Nat.le_trans (HFX.out.sz (by omega) i hi) (by omega)
   have sY : ∀ i,i < ly → qsz (Y i) ≤ 3340 := fun i hi => Nat.le_trans (HFY.out.sz (by omega) i hi) (by omega)
   have sR : ∀ i,qsz (co lr R i) ≤ 289 := fun i => co_sz (fun i hi => Nat.le_trans (HFR.out.sz (by omega) i hi) (by omega)) (by omega) i
   have hu7 := uz_le l (by omega)
   have sP : ∀ i,i < l → qsz (P i) ≤ 10607 := fun i hi => Nat.le_trans (HFORM.out.sz (by omega) i hi) (by omega)
   clear FR FS FU FV
   go_wp2_with fail
   refine (pmul_at _ _ la lx q1 X 3340 _ (FA.q 3340 sA9) (FX.q 3340 sX) ht (by omega) (by omega) (by omega) (Nat.le_trans (Nat.succ_le_succ (Nat.mul_le_mul_right _ (show la + lx ≤ 9 by omega))) (by omega)) (by omega)).mono ?_
   rintro e w61 ⟨xma,rfl,FMa_,b61⟩
   replace FX := FX.below b61
   replace FY := FY.below b61
   replace FA := FA.below b61
   replace FB := FB.below b61
   replace FG := FG.below b61
   replace ht := ht.below b61
   replace BB := BB.trans (b61.mono BB.size)
   clear b61
   have FMa := FMa_.1
   clear FMa_
   have la_ := mul_len_two la q1 lx X
   have HMa : Hid (∀ i,co (MulLen la q1 lx X) (conv la q1 lx X) i = cmul (co la q1) (co lx X) i) := fun i => mul_co _ _ _ _ i
   have sa : ∀ i,i < MulLen la q1 lx X → qsz (conv la q1 lx X i) ≤ 34000 := fun i _ => Nat.le_trans (conv_sz2 sA9 sX (by omega) (by omega) i) (Nat.le_trans (Nat.succ_le_succ (Nat.mul_le_mul_right _ (show lx ≤ 5 by omega))) (by omega))
   generalize MulLen la q1 lx X = ma at *
   generalize conv la q1 lx X = Ca at *
   go_wp2_with fail
   refine (pmul_at _ _ lb ly q2 Y 3340 _ (FB.q 3340 sB9) (FY.q 3340 sY) ht (by omega) (by omega) (by omega) (Nat.le_trans (Nat.succ_le_succ (Nat.mul_le_mul_right _ (show lb + ly ≤ 9 by omega))) (by omega)) (by omega)).mono ?_
   rintro e w62 ⟨xmb,rfl,FMb_,b62⟩
   replace FX := FX.below b62
   replace FY := FY.below b62
   replace FA := FA.below b62
   replace FB := FB.below b62
   replace FG := FG.below b62
   replace ht := ht.below b62
   replace FMa := FMa.below b62
   replace BB := BB.trans (b62.mono BB.size)
   clear b62
   have FMb := FMb_.1
   clear FMb_
   have lb_ := mul_len_two lb q2 ly Y
   have HMb : Hid (∀ i,co (MulLen lb q2 ly Y) (conv lb q2 ly Y) i = cmul (co lb q2) (co ly Y) i) := fun i => mul_co _ _ _ _ i
   have sb : ∀ i,i < MulLen lb q2 ly Y → qsz (conv lb q2 ly Y i) ≤ 34000 := fun i _ => Nat.le_trans (conv_sz2 sB9 sY (by omega) (by omega) i) (Nat.le_trans (Nat.succ_le_succ (Nat.mul_le_mul_right _ (show ly ≤ 5 by omega))) (by omega))
   generalize MulLen lb q2 ly Y = mb at *
   generalize conv lb q2 ly Y = Cb at *
   go_wp2_with fail
   refine (padd_at _ _ ma mb Ca Cb 34000 _ (FMa.q 34000 sa) (FMb.q 34000 sb) ht (by omega) (by omega) (by omega) (by omega)).mono ?_
   rintro e w63 ⟨xs,rfl,FS_,b63⟩
   replace FX := FX.below b63
   replace FY := FY.below b63
   replace FA := FA.below b63
   replace FB := FB.below b63
   replace FG := FG.below b63
   replace ht := ht.below b63
   replace FMa := FMa.below b63
   replace FMb := FMb.below b63
   replace BB := BB.trans (b63.mono BB.size)
   clear b63
   have FS := FS_.1
   clear FS_
   have HSF : Hid (∀ i,(fun i => co ma Ca i + co mb Cb i) i = co lr R i) := fun i => by show co ma Ca i + co mb Cb i = _; rw [HMa.out i,HMb.out i,HE1.out i]
   have HSC : Hid (∀ i,co (trimN (fun i => co ma Ca i + co mb Cb i) (max ma mb)) (fun i => co ma Ca i + co mb Cb i) i = co lr R i) := fun i => by
    rw [co_all (fun j hj => by show co ma Ca j + co mb Cb j = 0; rw [co_ge (by omega),co_ge (by omega)]; decide +kernel)]; exact HSF.out i
   have hsl := trim_same (trimN_top (fun i => co ma Ca i + co mb Cb i) (max ma mb)) HRT.out HSC.out
   have HTI : Hid (trimN (fun i => co ma Ca i + co mb Cb i) (trimN (fun i => co ma Ca i + co mb Cb i) (max ma mb)) = trimN (fun i => co ma Ca i + co mb Cb i) (max ma mb)) := trimN_idem _ _
   have HTP : Hid (0 < trimN (fun i => co ma Ca i + co mb Cb i) (max ma mb) → (fun i => co ma Ca i + co mb Cb i) (trimN (fun i => co ma Ca i + co mb Cb i) (max ma mb) - 1) ≠ 0) := trimN_top _ _
   have sS : ∀ i,qsz ((fun i => co ma Ca i + co mb Cb i) i) ≤ 289 := fun i => by rw [HSF.out i]; exact sR i
   generalize trimN (fun i => co ma Ca i + co mb Cb i) (max ma mb) = lS at *
   generalize (fun i => co ma Ca i + co mb Cb i) = SQ at *
   have hlS : lS ≤ 4 := by omega
   have HSL : Hid (lS = lr) := hsl
   clear hsl FMa FMb
   go_wp2_with fail
   refine (pmonic_at _ lS SQ 289 _ (FS.q 289 (fun i _ => sS i)) ht (by omega) (by omega) (by omega)).mono ?_
   rintro e w64 ⟨xn,rfl,FN_,b64⟩
   replace FX := FX.below b64
   replace FY := FY.below b64
   replace FA := FA.below b64
   replace FB := FB.below b64
   replace FG := FG.below b64
   replace ht := ht.below b64
   replace FS := FS.below b64
   replace BB := BB.trans (b64.mono BB.size)
   clear b64
   have FN := FN_.1
   clear FN_
   rw [HTI.out] at FN
   have sN : ∀ i,i < lS → qsz (SQ i * (SQ (lS - 1))⁻¹) ≤ 10607 := fun i hi => Nat.le_trans (qsz_mul _ _ (sS i) (qsz_inv _ (sS _))) (by omega)
   have HEQ : Hid (∀ i,co lS (fun i => SQ i * (SQ (lS - 1))⁻¹) i = co l P i) := fun i => by
    have hd : ∀ d,Dv d (co lS SQ) ↔ Dv d (co l P) := fun d => by
     rw [HDG.out d,← HDV.out d]
     exact ⟨fun h => ⟨h.congr HSC.out,(Dv.zero d).congr (fun j => (co_ge (by omega)).symm)⟩,fun h => h.1.congr (fun j => (HSC.out j).symm)⟩
    rcases Nat.eq_zero_or_pos lS with h | h
    ·have hl0 : l = 0 := HZERO.out.2 (HZ.out.1 ⟨by rw [← HSL.out]; exact h,by trivial⟩)
     rw [co_ge (by omega),co_ge (by omega)]
    ·have ht_ := HTP.out h
     have hi : SQ (lS - 1) * (SQ (lS - 1))⁻¹ = 1 := Rat.mul_inv_cancel _ ht_
     have hne : (SQ (lS - 1))⁻¹ ≠ 0 := fun e => by rw [e,Rat.mul_zero] at hi; exact absurd hi (by decide)
     have hl0 : 0 < l := by
      rcases Nat.eq_zero_or_pos l with g | g
      ·have := HZ.out.2 (HZERO.out.1 g)
       have := HSL.out
       omega
      ·exact g
     exact mono_eq (P1 := fun i => SQ i * (SQ (lS - 1))⁻¹) h hl0 hi (HMON.out hl0) ((hd _).1 ((Dv_monic hne).1 (Dv.self _))) ((Dv_monic hne).2 ((hd _).2 (Dv.self _))) i
   go_wp2_with fail
   refine (psame_at _ _ lS l (fun i => SQ i * (SQ (lS - 1))⁻¹) P 10607 _ (FN.q 10607 sN) (FG.q 10607 sP) (by omega) (by omega) (by omega) (by omega)).mono ?_
   rintro e w65 ⟨rfl,b65⟩
   replace FX := FX.below b65
   replace FY := FY.below b65
   replace FA := FA.below b65
   replace FB := FB.below b65
   replace FG := FG.below b65
   replace ht := ht.below b65
   replace FS := FS.below b65
   replace FN := FN.below b65
   replace BB := BB.trans (b65.mono BB.size)
   clear b65
   rw [same_co (K := 10) (by omega) (by omega),decide_eq_true (fun i _ => HEQ.out i)]
   go_wp2_with fail
   refine (awake4_at _ ht).mono ?_
   rintro e w66 ⟨rfl,b66⟩
   replace FX := FX.below b66
   replace FY := FY.below b66
   replace FA := FA.below b66
   replace FB := FB.below b66
   replace FG := FG.below b66
   replace ht := ht.below b66
   replace FS := FS.below b66
   replace FN := FN.below b66
   replace BB := BB.trans (b66.mono BB.size)
   clear b66
   go_wp2
   go_ret
   exact ⟨rfl,BB⟩
  ·have hl0 : 0 < ls := by omega
   have hgt : (ls : Int) > 0 := by omega
   have hgtb : decide (0 < ls) = true := decide_eq_true hl0
   have ht := ht0.below BB
   obtain ⟨t3,n1x,n2x,n3x,n4x,n5x⟩ := HST.out.next hl0
   have hft := fz_le4 (t + 1) (by omega)
   have hft1 := (fz_le (t + 1) (by omega)).2.1
   have htop := HSTP.out hl0
   have hlz := lz_le (ls - 1) (by omega)
   have HNX : Hid (∀ lt lx' lv',lt < ls → (lx' ≤ max lx (lr - (ls - 1) + lu - 1) ∨ lx' ≤ lx) → (lv' ≤ max ly (lr - (ls - 1) + lv - 1) ∨ lv' ≤ ly) → LSt (t + 1) ls lt (lz ls) (lz (ls - 1)) lu lx' lv lv') := n5x
   have HAS : Hid (allS lr S (ls - 1) 1000 (lr - (ls - 1)) R) := allS_div HFR.out HFS.out hl0 htop (by omega) (by omega)
   have sS : ∀ i,i < ls → qsz (S i) ≤ 300 := fun i hi => Nat.le_trans (HFS.out.sz (by omega) i hi) (by omega)
   have sR : ∀ i,i < lr → qsz (R i) ≤ 300 := fun i hi => Nat.le_trans (HFR.out.sz (by omega) i hi) (by omega)
   have HFT : Hid (IForm lr (divR S (ls - 1) (lr - (ls - 1)) R) (lz (ls - 1))) := (form_div HFR.out HFS.out hl0 htop).le n2x
   have HDD : Hid (∀ d,Dv d (co ls S) → (Dv d (co lr R) ↔ Dv d (co (min lr (ls - 1)) (divR S (ls - 1) (lr - (ls - 1)) R)))) := fun d h => Dv_div hl0 htop h
   have HC3 : Hid (∀ i,co lr R i = cmul (co (lr - (ls - 1)) (divQ S (ls - 1) (lr - (ls - 1)) R)) (co ls S) i + co (min lr (ls - 1)) (divR S (ls - 1) (lr - (ls - 1)) R) i) := div_co2 R S lr ls hl0 htop
   have HTR : Hid (trimN R lr = lr) := trimN_full R lr HRT.out
   have HTS : Hid (trimN S ls = ls) := trimN_full S ls HSTP.out
   have HSQ : Hid (∀ i,i < lr - (ls - 1) → qsz (divQ S (ls - 1) (lr - (ls - 1)) R i) ≤ hr + (lr - (ls - 1)) * (hs + 1) + hs) := divQ_sz2 HFR.out HFS.out hl0 htop (by omega) (by omega)
   have HFS2 : Hid (IForm ls S (lz ls)) := HFS.out.le n1x
   clear n5x
   obtain ⟨lq,hlq⟩ : ∃ lq,lq = lr - (ls - 1) := ⟨_,rfl⟩
   have HLQ : Hid (lq = lr - (ls - 1)) := hlq
   have hlq4 : lq ≤ 4 := by omega
   obtain ⟨sq,hsq⟩ : ∃ sq,sq = hr + (lr - (ls - 1)) * (hs + 1) + hs := ⟨_,rfl⟩
   rw [← hsq] at HSQ n3x
   have hsq8 : sq ≤ 820 := by
    rcases Nat.eq_zero_or_pos (lr - (ls - 1)) with h | h
    ·rw [h] at hsq; omega
    ·exact Nat.le_trans (Nat.le_mul_of_pos_left sq h) (by omega)
   have HIQ : Hid (IForm (lr - (ls - 1)) (divQ S (ls - 1) (lr - (ls - 1)) R) 820) := (IForm.of_sz sq _ _ HSQ.out).le n3x
   clear hsq n3x
   go_wp2_with fail
   refine (pdivmod_S _ _ lr ls lr ls R S 300 1000 _ (FR.q 300 sR) (FS.q 300 sS) ht (by omega) (by omega) (by omega) (by omega) HTR.out HTS.out (by omega) (by omega) sS hl0 htop (by omega) (by omega) HAS.out).mono ?_
   rintro e w61 ⟨xq,xr,rfl,FQ,FT,b61⟩
   replace FR := FR.below b61
   replace FS := FS.below b61
   replace FX := FX.below b61
   replace FU := FU.below b61
   replace FY := FY.below b61
   replace FV := FV.below b61
   replace ht := ht.below b61
   replace BB := BB.trans (b61.mono BB.size)
   clear b61
   have tQ := trimN_le (divQ S (ls - 1) (lr - (ls - 1)) R) (lr - (ls - 1))
   have HCQ : Hid (∀ i,co (trimN (divQ S (ls - 1) (lr - (ls - 1)) R) (lr - (ls - 1))) (divQ S (ls - 1) (lr - (ls - 1)) R) i = co (lr - (ls - 1)) (divQ S (ls - 1) (lr - (ls - 1)) R) i) := co_trim _ _
   have tT := trimN_le (divR S (ls - 1) (lr - (ls - 1)) R) (min lr (ls - 1))
   have HTT : Hid (0 < trimN (divR S (ls - 1) (lr - (ls - 1)) R) (min lr (ls - 1)) → divR S (ls - 1) (lr - (ls - 1)) R (trimN (divR S (ls - 1) (lr - (ls - 1)) R) (min lr (ls - 1)) - 1) ≠ 0) := trimN_top _ _
   have HCT : Hid (∀ i,co (trimN (divR S (ls - 1) (lr - (ls - 1)) R) (min lr (ls - 1))) (divR S (ls - 1) (lr - (ls - 1)) R) i = co (min lr (ls - 1)) (divR S (ls - 1) (lr - (ls - 1)) R) i) := co_trim _ _
   clear HAS HSQ
   generalize divQ S (ls - 1) (lr - (ls - 1)) R = QQ at *
   generalize divR S (ls - 1) (lr - (ls - 1)) R = RR at *
   obtain ⟨lm,hlm⟩ : ∃ lm,lm = min lr (ls - 1) := ⟨_,rfl⟩
   rw [← hlm] at FT tT HTT HCT HDD HC3
   rw [← hlq] at FQ tQ HCQ HC3 HIQ HNX
   have hlm2 : lm ≤ lr := by omega
   have hlm3 : lm + 1 ≤ ls := by omega
   clear hlm hlq
   generalize trimN QQ lq = kq at *
   generalize trimN RR lm = lt at *
   have sQ : ∀ i,i < kq → qsz (QQ i) ≤ 3340 := fun i hi => Nat.le_trans (HIQ.out.sz (by omega) i (by omega)) (by omega)
   have sX : ∀ i,i < lx → qsz (X i) ≤ 3340 := fun i hi => Nat.le_trans (HFX.out.sz (by omega) i hi) (by omega)
   have sY : ∀ i,i < ly → qsz (Y i) ≤ 3340 := fun i hi => Nat.le_trans (HFY.out.sz (by omega) i hi) (by omega)
   have sU : ∀ i,i < lu → qsz (U i) ≤ 3340 := fun i hi => Nat.le_trans (HFU.out.sz (by omega) i hi) (by omega)
   have sV : ∀ i,i < lv → qsz (V i) ≤ 3340 := fun i hi => Nat.le_trans (HFV.out.sz (by omega) i hi) (by omega)
   obtain ⟨qA,qC,rfl⟩ := FQ.open
   obtain ⟨tA,tC,rfl⟩ := FT.open
   go_wp2_with fail
   refine (pmul_at _ _ kq lu QQ U 3340 _ (FQ.q 3340 sQ) (FU.q 3340 sU) ht (by omega) (by omega) (by omega) (Nat.le_trans (Nat.succ_le_succ (Nat.mul_le_mul_right _ (show kq + lu ≤ 9 by omega))) (by omega)) (by omega)).mono ?_
   rintro e w62 ⟨xmu,rfl,FMu_,b62⟩
   replace FR := FR.below b62
   replace FS := FS.below b62
   replace FX := FX.below b62
   replace FU := FU.below b62
   replace FY := FY.below b62
   replace FV := FV.below b62
   replace ht := ht.below b62
   replace FQ := FQ.below b62
   replace FT := FT.below b62
   replace BB := BB.trans (b62.mono BB.size)
   clear b62
   have FMu := FMu_.1
   clear FMu_
   have lmu_ := mul_len_two kq QQ lu U
   have HIu : Hid (IForm (MulLen kq QQ lu U) (conv kq QQ lu U) (820 + fz (t + 1) + 10)) := (IForm.conv (N := 10) (HIQ.out.less tQ) HFU.out).less (by omega)
   have HMu : Hid (∀ i,co (MulLen kq QQ lu U) (conv kq QQ lu U) i = cmul (co kq QQ) (co lu U) i) := fun i => mul_co _ _ _ _ i
   generalize MulLen kq QQ lu U = mu at *
   generalize conv kq QQ lu U = Cu at *
   have sCu : ∀ i,i < mu → qsz (Cu i) ≤ 4200 := fun i hi => Nat.le_trans (HIu.out.sz (by omega) i hi) (by omega)
   go_wp2_with fail
   refine (psub_at _ _ lx mu X Cu 4200 _ (FX.q 4200 (fun i hi => Nat.le_trans (sX i hi) (by omega))) (FMu.q 4200 sCu) ht (by omega) (by omega) (by omega) (by omega)).mono ?_
   rintro e w63 ⟨xsu,rfl,FNu_,b63⟩
   replace FR := FR.below b63
   replace FS := FS.below b63
   replace FX := FX.below b63
   replace FU := FU.below b63
   replace FY := FY.below b63
   replace FV := FV.below b63
   replace ht := ht.below b63
   replace FQ := FQ.below b63
   replace FT := FT.below b63
   replace FMu := FMu.below b63
   replace BB := BB.trans (b63.mono BB.size)
   clear b63
   have FNu := FNu_.1
   clear FNu_ FMu
   have tu_ := trimN_le (fun i => co lx X i - co mu Cu i) (max lx mu)
   have HNu : Hid (IForm (trimN (fun i => co lx X i - co mu Cu i) (max lx mu)) (fun i => co lx X i - co mu Cu i) (fz (t + 1 + 1))) := (IForm.sub (N := max lx mu) HFX.out HIu.out).le (by show _ ≤ fz t + fz (t + 1) + 831; omega) |>.less (trimN_le _ _)
   have HAu : Hid (∀ i,co (trimN (fun i => co lx X i - co mu Cu i) (max lx mu)) (fun i => co lx X i - co mu Cu i) i = co lx X i - cmul (co kq QQ) (co lu U) i) := fun i => by
    rw [co_all (fun j hj => by show co lx X j - co mu Cu j = 0; rw [co_ge (by omega),co_ge (by omega)]; decide +kernel),HMu.out i]
   generalize trimN (fun i => co lx X i - co mu Cu i) (max lx mu) = lu2 at *
   generalize (fun i => co lx X i - co mu Cu i) = Un at *
   go_wp2_with fail
   refine (pmul_at _ _ kq lv QQ V 3340 _ (FQ.q 3340 sQ) (FV.q 3340 sV) ht (by omega) (by omega) (by omega) (Nat.le_trans (Nat.succ_le_succ (Nat.mul_le_mul_right _ (show kq + lv ≤ 9 by omega))) (by omega)) (by omega)).mono ?_
   rintro e w64 ⟨xmv,rfl,FMv_,b64⟩
   replace FR := FR.below b64
   replace FS := FS.below b64
   replace FX := FX.below b64
   replace FU := FU.below b64
   replace FY := FY.below b64
   replace FV := FV.below b64
   replace ht := ht.below b64
   replace FQ := FQ.below b64
   replace FT := FT.below b64
   replace FNu := FNu.below b64
   replace BB := BB.trans (b64.mono BB.size)
   clear b64
   have FMv := FMv_.1
   clear FMv_
   have lmv_ := mul_len_two kq QQ lv V
   have HIv : Hid (IForm (MulLen kq QQ lv V) (conv kq QQ lv V) (820 + fz (t + 1) + 10)) := (IForm.conv (N := 10) (HIQ.out.less tQ) HFV.out).less (by omega)
   have HMv : Hid (∀ i,co (MulLen kq QQ lv V) (conv kq QQ lv V) i = cmul (co kq QQ) (co lv V) i) := fun i => mul_co _ _ _ _ i
   generalize MulLen kq QQ lv V = mv at *
   generalize conv kq QQ lv V = Cv at *
   have sCv : ∀ i,i < mv → qsz (Cv i) ≤ 4200 := fun i hi => Nat.le_trans (HIv.out.sz (by omega) i hi) (by omega)
   go_wp2_with fail
   refine (psub_at _ _ ly mv Y Cv 4200 _ (FY.q 4200 (fun i hi => Nat.le_trans (sY i hi) (by omega))) (FMv.q 4200 sCv) ht (by omega) (by omega) (by omega) (by omega)).mono ?_
   rintro e w65 ⟨xsv,rfl,FNv_,b65⟩
   replace FR := FR.below b65
   replace FS := FS.below b65
   replace FX := FX.below b65
   replace FU := FU.below b65
   replace FY := FY.below b65
   replace FV := FV.below b65
   replace ht := ht.below b65
   replace FQ := FQ.below b65
   replace FT := FT.below b65
   replace FNu := FNu.below b65
   replace FMv := FMv.below b65
   replace BB := BB.trans (b65.mono BB.size)
   clear b65
   have FNv := FNv_.1
   clear FNv_ FMv
   have tv_ := trimN_le (fun i => co ly Y i - co mv Cv i) (max ly mv)
   have HNv : Hid (IForm (trimN (fun i => co ly Y i - co mv Cv i) (max ly mv)) (fun i => co ly Y i - co mv Cv i) (fz (t + 1 + 1))) := (IForm.sub (N := max ly mv) HFY.out HIv.out).le (by show _ ≤ fz t + fz (t + 1) + 831; omega) |>.less (trimN_le _ _)
   have HAv : Hid (∀ i,co (trimN (fun i => co ly Y i - co mv Cv i) (max ly mv)) (fun i => co ly Y i - co mv Cv i) i = co ly Y i - cmul (co kq QQ) (co lv V) i) := fun i => by
    rw [co_all (fun j hj => by show co ly Y j - co mv Cv j = 0; rw [co_ge (by omega),co_ge (by omega)]; decide +kernel),HMv.out i]
   generalize trimN (fun i => co ly Y i - co mv Cv i) (max ly mv) = lv2 at *
   generalize (fun i => co ly Y i - co mv Cv i) = Vn at *
   have HBZ : Hid (∀ i,co lt RR i = cmul (co la q1) (co lu2 Un) i + cmul (co lb q2) (co lv2 Vn) i) := fun i => by
    rw [HCT.out i,bez_step HE1.out HE2.out HC3.out i]
    have q1_ : ∀ i,co lx X i - cmul (co lq QQ) (co lu U) i = co lu2 Un i := fun i => by rw [HAu.out i,cmul_congr HCQ.out (fun _ => rfl)]
    have q2_ : ∀ i,co ly Y i - cmul (co lq QQ) (co lv V) i = co lv2 Vn i := fun i => by rw [HAv.out i,cmul_congr HCQ.out (fun _ => rfl)]
    rw [cmul_congr (fun _ => rfl) q1_,cmul_congr (fun _ => rfl) q2_]
   have HDV2 : Hid (∀ d,(Dv d (co ls S) ∧ Dv d (co lt RR)) ↔ (Dv d (co la q1) ∧ Dv d (co lb q2))) := fun d => by
    rw [← HDV.out d]
    have hm : Dv d (co lt RR) ↔ Dv d (co lm RR) := ⟨fun h => h.congr HCT.out,fun h => h.congr (fun i => (HCT.out i).symm)⟩
    constructor
    ·rintro ⟨h1,h2⟩; exact ⟨(HDD.out d h1).2 (hm.1 h2),h1⟩
    ·rintro ⟨h1,h2⟩; exact ⟨h2,hm.2 ((HDD.out d h2).1 h1)⟩
   have HZ2 : Hid ((ls = 0 ∧ lt = 0) ↔ (la = 0 ∧ lb = 0)) := ⟨fun h => by omega,fun h => by have := (HZ.out.2 h).2; omega⟩
   have HST2 : Hid (LSt (t + 1) ls lt (lz ls) (lz (ls - 1)) lu lu2 lv lv2) := HNX.out lt lu2 lv2 (by omega) (by omega) (by omega)
   have HFT2 : Hid (IForm lt RR (lz (ls - 1))) := HFT.out.less (by omega)
   go_wp2
   go_roundw
   case rel => exact ⟨t + 1,ls,lt,lz ls,lz (ls - 1),lu,lu2,lv,lv2,S,RR,U,Un,V,Vn,by go_num,FS,FT,FU,FNu,FV,FNv,HST2,HSTP,HTT,HFS2,HFT2,HFU,HFV,HNu,HNv,HE2,HBZ,HDV2,HZ2,BB⟩
   case measure => simp [intOf]; omega

theorem own : ownKnob Tryz.prog.godebug = none := by kernel_rfl
theorem laidOut : laidOutB Tryz.prog = true := by kernel_rfl

abbrev laid1 : List (String × DataW Unit) := [("math/bits.deBruijn64tab",Rows.laid_math_bits_deBruijn64tab)]
theorem gTab : Tryz.prog.globalNamed "math/bits.deBruijn64tab" = some 0 := by kernel_rfl
theorem gTabType : (Tryz.prog.globals[0]?).map (·.type) = some 137 := by kernel_rfl
theorem uTab : Tryz.prog.underlying 137 = some (.array 64 5) := by kernel_rfl
theorem uCell : Tryz.prog.underlying 5 = some (.int .u8) := by kernel_rfl
theorem cCell : Tryz.prog.cellsOf 5 = 1 := by kernel_rfl
theorem cTab : Tryz.prog.cellsOf 137 = 64 := by kernel_rfl
/-- The listed table lies in its cells. -/
theorem tab_of {W : World} (h : laidMetH Tryz.prog laid1 W) : Tab W := by
 rw [MakeChecks.laidMetH_plain _ _ _ (by kernel_rfl)] at h
 have hd : laid1 = [("math/bits.deBruijn64tab",Lib.tabData .u8 (Lib.deBruijn64tab.map fun (n : Nat) => Int.ofNat n))] := rfl
 rw [hd] at h
 have hT := Lib.tabIs_of_head gTab gTabType uTab uCell cCell cTab h
 intro i hi
 have hc := hT.cell gTab i (by rw [List.length_map]; exact hi)
 rw [hc]
 congr 2
 rw [List.getD_eq_getElem?_getD,List.getElem?_map,List.getD_eq_getElem?_getD]
 cases Lib.deBruijn64tab[i]? <;> rfl
/-- A start for the witness: the heap that the run of the program's own initialisers leaves. -/
noncomputable def startW (os : Os) : World := { World.holding Tryz.prog os ⟨#[],#[],[]⟩ with heap := (varsWorld Tryz.prog 400 (varsId Tryz.prog) os (fun _ _ => 0)).heap }
theorem start_met (os : Os) (args : Array Value) : laidMetH Tryz.prog laid1 ((startW os).forCall (fun _ _ => 0) ⟨#[],args,[]⟩).memory :=
 laidMetH_of_parts3 (fuel := 8) (laidMet_of_run' 8 (by kernel_rfl) (by kernel_rfl)) (by kernel_rfl) (by kernel_rfl)

set_option maxRecDepth 100000 in
theorem lifted (os : Os) (started : os.Started) (H : Type) (enc : TypeId × Value → H) :
  ReturnsInHanded {} Tryz.checked os 5 .any (fun w args => (Rows.polyLeastSpec.pre enc Tryz.prog Tryz.f5 [] false w args ∧ laidMetH Tryz.prog laid1 w) ∧ sizedMet enc Tryz.prog Tryz.f5 (OpenSpec.ofChange Rows.polyLeastSpec) false w args) (Rows.polyLeastSpec.post enc Tryz.prog Tryz.f5 false true false false) := by
 refine returnsInHanded_of_change_and (C := Tryz.checked) (X := fun w _ => laidMetH Tryz.prog laid1 w) (fun _ _ _ hh h => h.of_heap hh) own started (by kernel_rfl) Tryz.func5
  (ChangeSpec.witness_shaped (enc := enc) (C := Tryz.checked) (os := os) (X := fun w _ => laidMetH Tryz.prog laid1 w) false (startW os) #[.slice none 0 0,.slice none 0 0] 8 rfl (World.shaped_of_RefB (by kernel_rfl) (by kernel_rfl)) (by kernel_rfl) (by kernel_rfl) (by kernel_rfl) (start_met os _)) ?_
 intro W base args ds gs before hval0 hW _ _ hL _
 have hval : ∀ (j : Nat) t v,Tryz.f5.params[j]? = some t → args[j]? = some v → Value.okWide Tryz.prog W .any base t v := hval0
 have hW' := hW
 obtain ⟨p,q,hA0,hV,rfl,hfz,hnd⟩ := hW
 have hA : DataW.TrodAll enc Tryz.prog W 0 (fun _ => true) true Tryz.f5.params.toList args.toList ds p := hA0
 rw [Tryz.params5] at hA hval
 obtain ⟨v0,vs0,d0,ds0,p0,q0,hargs,rfl,rfl,h0,r0⟩ := trodAll_cons hA
 obtain ⟨v1,vs1,d1,ds1,p1,q1,rfl,rfl,rfl,h1,r1⟩ := trodAll_cons r0
 obtain ⟨rfl,rfl,rfl⟩ := trodAll_nil r1
 obtain rfl : args = #[v0,v1] := by cases args; simp_all
 obtain ⟨rfl,rfl⟩ := trodVars_none hV
 have k0 := h0
 have lt0 : ∀ x ∈ p0,x.block < W.heap.size := by obtain ⟨m,hm⟩ := k0; exact DataW.trod_lt m _ _ _ hm
 obtain ⟨n0,z0,w0⟩ := open_wrats KLIST (hval 0 22 v0 rfl rfl) h0
 have k1 := h1
 have lt1 : ∀ x ∈ p1,x.block < W.heap.size := by obtain ⟨m,hm⟩ := k1; exact DataW.trod_lt m _ _ _ hm
 obtain ⟨n1,z1,w1⟩ := open_wrats KLIST (hval 1 22 v1 rfl rfl) h1
 clear hA0 hval0
 refine (walk _ _ _ _ _ _ W w0 w1 (tab_of hL)).mono fun e W' ⟨he,bel⟩ => ?_
 subst he
 exact ⟨_,rfl,_,_,_,[],_,[],hW',trodAll_mk1 (shut_bool Tryz.underlying4 _),(trodAll_cons_mk (Below.trod laidOut (by kernel_rfl) (of_decide_eq_true (by kernel_rfl)) k0 bel lt0) (trodAll_cons_mk (Below.trod laidOut (by kernel_rfl) (of_decide_eq_true (by kernel_rfl)) k1 bel lt1) trodAll_mk0)),rfl,bel.frame _,fun h => by cases h⟩

theorem over : Rows.polyLeastRow.holds Tryz.pinned (OpenSpec.ofChange Rows.polyLeastSpec) :=
 OpenClaim.holds_of_wide 5 Tryz.f5 rfl rfl rfl rfl rfl rfl rfl ⟨rfl,rfl,rfl,rfl,rfl⟩ rfl rfl rfl rfl rfl (by kernel_rfl) Tryz.func5 (by kernel_rfl)
  (of_decide_eq_true (by kernel_rfl)) (by unfold Func.isWrapper; first | (rw [if_pos (by decide +kernel)]; kernel_rfl) | (rw [if_neg (by decide +kernel)]; exact ⟨rfl,rfl⟩))
  (fun os started H enc _ => lifted os started H enc)

end Go.Proofs.YtnbocjbfieklhaaGreatDoor.polyLeast
namespace Go.Proofs.YtnbocjbfieklhaaGreatDoor
/-- The statement: the row, tied to the text of the program. -/
theorem polyLeast_holds : Rows.PolyLeastCardSaid :=
 Claim7.holds_tied_plain_at .later [] [.data] true (true,"bbc665b88dfdf00f59a32d7f70012164447cbec1d4343b32efd05aa9803691dc") false
  polyLeast.over (fun _ h => by cases h) (by kernel_rfl) (fun _ h => by cases h) polyLeast_row_tie rfl ⟨rfl,rfl⟩ (by kernel_rfl) rfl
  (fun f fn hf hfn => by
   obtain rfl : f = 5 := Option.some.inj ((show Tryz.prog.funcNamed "dendron/dendronlaw04.PolyLeast" = some 5 by kernel_rfl).symm.trans hf) |>.symm
   obtain rfl : fn = Tryz.f5 := (Option.some.inj (Tryz.func5.symm.trans hfn)).symm
   exact ⟨by kernel_rfl,fun j t ht => by
    rw [Tryz.params5] at ht
    have hm : t ∈ [22,22] := by simpa using Array.mem_of_getElem? ht
    have hall : ([22,22].all fun u => !Tryz.prog.wantsStandIn u) = true := by kernel_rfl
    exact (show Tryz.prog.wantsStandIn t = false by simpa using List.all_eq_true.1 hall t hm)⟩)
  (by kernel_rfl)
end Go.Proofs.YtnbocjbfieklhaaGreatDoor
