/-
 Proves that Gcd answers,of any two multiples of a polynomial,all of up to 4 coefficients of up to 2 limbs,a monic polynomial that divides both and is a multiple of it,or 0 of both 0,whatever comes in (the statement PolyGcds,its tied card); the table of math/bits lies as the program's text lays it; no other condition.
-/
import Derived.Test.YtnbocjbfieklhaaGreatDoorJb016ad185a
import Derived.Test.YtnbocjbfieklhaaGreatDoorRows
import Derived.Test.YtnbocjbfieklhaaGreatDoorJa0ca50284d
import Derived.Test.YtnbocjbfieklhaaGreatDoorJ6e41a325cc
import Derived.Test.YtnbocjbfieklhaaGreatDoorJ33aec4a05e
import Derived.WalkKit
import Derived.ProofKit
import Derived.OpenShut
import Derived.ShutString
import Derived.ChangeOld
import Derived.Below
import Derived.Test.YtnbocjbfieklhaaGreatDoorTie
import Derived.Test.YtnbocjbfieklhaaGreatDoorCards
import Derived.LaidByTextLater
import Derived.LaidHandle
import Derived.Lib.LaidTab
import Derived.SevenTiedAt
namespace Go.Proofs.YtnbocjbfieklhaaGreatDoor.polyGcds
open Go.ChangeShapes Go.WideShapes Go.ChangeAt Go.RowKit
open Go.ChangeMaps (open_string shut_string)
set_option linter.unusedVariables false
set_option linter.unusedSimpArgs false

def KLIST : Nat := 2
theorem prod_form (n k : Nat) (q r : Nat → Rat) (hn : n ≤ 4) (hk : k ≤ 4) (sq : ∀ i,i < n → qsz (q i) ≤ 2) (sr : ∀ i,i < k → qsz (r i) ≤ 2) : IForm (MulLen n q k r) (conv n q k r) 25 := by
 have f1 := (IForm.of_sz 2 q n sq).le (show n * 2 + 1 ≤ 9 by omega)
 have f2 := (IForm.of_sz 2 r k sr).le (show k * 2 + 1 ≤ 9 by omega)
 have hl := mul_len_two n q k r
 exact (IForm.conv (N := 7) f1 f2).less (by omega)

set_option maxRecDepth 100000 in
set_option maxHeartbeats 32000000 in
theorem walk (v1 : Value) (n1 : Nat) (q1 : Nat → Rat) (v2 : Value) (n2 : Nat) (q2 : Nat → Rat) (v3 : Value) (n3 : Nat) (q3 : Nat → Rat) (w : World) (h1 : RawQ w v1 n1 q1 KLIST) (h2 : RawQ w v2 n2 q2 KLIST) (h3 : RawQ w v3 n3 q3 KLIST) (ht : Tab w) :
  Calls Tryz.prog 4 #[v1,v2,v3] w fun e w' => e = .returned (.bool true) ∧ Below w.heap.size w w' := by
 unfold KLIST at h1 h2 h3
 have BB : Below w.heap.size w w := Below.refl _ _
 go_enter Tryz.func4,Tryz.ntmps4
 go_wp2_with fail
 refine (few4_at _ n3 4 q3 _ h3 (by omega)).mono ?_
 rintro e w1 ⟨rc,rfl,QCo,b1⟩
 replace h1 := h1.below b1
 replace h2 := h2.below b1
 replace h3 := h3.below b1
 replace ht := ht.below b1
 replace BB := BB.trans (b1.mono BB.size)
 clear b1
 have QC := QCo.row
 clear QCo
 go_wp2_with fail
 refine (few4_at _ n1 4 q1 _ h1 (by omega)).mono ?_
 rintro e w2 ⟨ra,rfl,QAo,b2⟩
 replace h1 := h1.below b2
 replace h2 := h2.below b2
 replace h3 := h3.below b2
 replace ht := ht.below b2
 replace QC := QC.below b2
 replace BB := BB.trans (b2.mono BB.size)
 clear b2
 have QA := QAo.row
 clear QAo
 clear h3 h1
 obtain ⟨k,hk⟩ : ∃ n,n = min n3 4 := ⟨_,rfl⟩
 rw [← hk] at QC
 have hk4 : k ≤ 4 := by omega
 clear hk
 obtain ⟨ac,cc,rfl,_,_,_⟩ := QC.open
 obtain ⟨n,hn⟩ : ∃ n,n = min n1 4 := ⟨_,rfl⟩
 rw [← hn] at QA
 have hn4 : n ≤ 4 := by omega
 clear hn
 have sC : ∀ i,i < k → qsz (q3 i) ≤ 2 := fun i hi => QC.sz (by omega) i hi
 have sA : ∀ i,i < n → qsz (q1 i) ≤ 2 := fun i hi => QA.sz (by omega) i hi
 go_wp2_with fail
 refine (pmul_at _ _ n k q1 q3 2 _ QA QC ht (by omega) (by omega) (by omega) (Nat.le_trans (Nat.succ_le_succ (Nat.mul_le_mul_right _ (show n + k ≤ 8 by omega))) (by omega)) (by omega)).mono ?_
 rintro e w3 ⟨xa,rfl,FA_,b3⟩
 replace h2 := h2.below b3
 replace ht := ht.below b3
 replace QC := QC.below b3
 replace QA := QA.below b3
 replace BB := BB.trans (b3.mono BB.size)
 clear b3
 have FA := FA_.1
 clear FA_
 have lla := mul_len_two n q1 k q3
 have Hla1 : Hid (0 < MulLen n q1 k q3 → conv n q1 k q3 (MulLen n q1 k q3 - 1) ≠ 0) := mul_top _ _ _ _
 have Hla2 : Hid (IForm (MulLen n q1 k q3) (conv n q1 k q3) 25) := prod_form n k q1 q3 hn4 hk4 sA sC
 have Hla3 : Hid (Dv (co k q3) (co (MulLen n q1 k q3) (conv n q1 k q3))) := (Dv.times (d := co k q3) (g := co n q1) (M := n) (fun i hi => co_ge (by omega))).congr (fun i => by rw [mul_co]; rfl)
 have Hla4 : Hid (trimN q3 k = 0 → MulLen n q1 k q3 = 0) := fun h => by unfold MulLen; rw [if_pos (Or.inr h)]
 generalize MulLen n q1 k q3 = la at *
 generalize conv n q1 k q3 = A at *
 go_wp2_with fail
 clear QA
 refine (few4_at _ n2 4 q2 _ h2 (by omega)).mono ?_
 rintro e w4 ⟨rb,rfl,QBo,b4⟩
 replace h2 := h2.below b4
 replace ht := ht.below b4
 replace QC := QC.below b4
 replace FA := FA.below b4
 replace BB := BB.trans (b4.mono BB.size)
 clear b4
 have QB := QBo.row
 clear QBo
 obtain ⟨m,hm⟩ : ∃ n,n = min n2 4 := ⟨_,rfl⟩
 rw [← hm] at QB
 have hm4 : m ≤ 4 := by omega
 clear hm
 have sB : ∀ i,i < m → qsz (q2 i) ≤ 2 := fun i hi => QB.sz (by omega) i hi
 go_wp2_with fail
 clear h2
 refine (pmul_at _ _ m k q2 q3 2 _ QB QC ht (by omega) (by omega) (by omega) (Nat.le_trans (Nat.succ_le_succ (Nat.mul_le_mul_right _ (show m + k ≤ 8 by omega))) (by omega)) (by omega)).mono ?_
 rintro e w5 ⟨xb,rfl,FB_,b5⟩
 replace ht := ht.below b5
 replace QC := QC.below b5
 replace FA := FA.below b5
 replace QB := QB.below b5
 replace BB := BB.trans (b5.mono BB.size)
 clear b5
 have FB := FB_.1
 clear FB_
 have llb := mul_len_two m q2 k q3
 have Hlb1 : Hid (0 < MulLen m q2 k q3 → conv m q2 k q3 (MulLen m q2 k q3 - 1) ≠ 0) := mul_top _ _ _ _
 have Hlb2 : Hid (IForm (MulLen m q2 k q3) (conv m q2 k q3) 25) := prod_form m k q2 q3 hm4 hk4 sB sC
 have Hlb3 : Hid (Dv (co k q3) (co (MulLen m q2 k q3) (conv m q2 k q3))) := (Dv.times (d := co k q3) (g := co m q2) (M := m) (fun i hi => co_ge (by omega))).congr (fun i => by rw [mul_co]; rfl)
 have Hlb4 : Hid (trimN q3 k = 0 → MulLen m q2 k q3 = 0) := fun h => by unfold MulLen; rw [if_pos (Or.inr h)]
 generalize MulLen m q2 k q3 = lb at *
 generalize conv m q2 k q3 = Bq at *
 obtain ⟨aa,ca,rfl⟩ := FA.open
 obtain ⟨ab,cb,rfl⟩ := FB.open
 have hla : la ≤ 7 := by omega
 have hlb : lb ≤ 7 := by omega
 go_wp2_with fail
 clear QB
 refine (pgcd_at _ _ la lb A Bq _ FA FB ht hla hlb Hla2.out Hlb2.out Hla1.out Hlb1.out).mono ?_
 rintro e w20 ⟨xg,l,P,rfl,FG,hl,hmon,hform,hzero,hdv,b20⟩
 replace QC := QC.below b20
 replace FA := FA.below b20
 replace FB := FB.below b20
 replace ht := ht.below b20
 replace BB := BB.trans (b20.mono BB.size)
 clear b20
 obtain ⟨ag,cg,rfl⟩ := FG.open
 have HMON : Hid (0 < l → P (l - 1) = 1) := hmon
 have HFORM : Hid (IForm l P (uz l)) := hform
 have HZERO : Hid (l = 0 ↔ la = 0 ∧ lb = 0) := hzero
 have HDV : Hid (∀ d,Dv d (co l P) ↔ (Dv d (co la A) ∧ Dv d (co lb Bq))) := hdv
 clear hmon hform hzero hdv
 obtain ⟨ls,hls⟩ : ∃ s,s = la + lb := ⟨_,rfl⟩
 have i1 : (la : Int) + (lb : Int) = (ls : Int) := by omega
 have i2 : IntKind.i64.wrap (ls : Int) = (ls : Int) := by rw [IntKind.wrap_i64]; omega
 by_cases h0 : la = 0 ∧ lb = 0
 ·have hg0 : l = 0 := HZERO.out.2 h0
  have hs0 : ls = 0 := by omega
  subst hg0
  subst hs0
  obtain ⟨rfl,rfl⟩ := h0
  go_wp2_with fail
  refine (awake4_at _ ht).mono ?_
  rintro e w6 ⟨rfl,b6⟩
  replace ht := ht.below b6
  replace QC := QC.below b6
  replace FA := FA.below b6
  replace FB := FB.below b6
  replace FG := FG.below b6
  replace BB := BB.trans (b6.mono BB.size)
  clear b6
  go_wp2
  go_ret
  exact ⟨rfl,BB⟩
 ·have hl0 : 0 < l := by rcases Nat.eq_zero_or_pos l with h | h; exact absurd (HZERO.out.1 h) h0; exact h
  have hs0 : ¬ (ls : Int) = 0 := by omega
  have hs0b : ((ls : Int) == 0) = false := by simp; omega
  have hu7 := uz_le l (by omega)
  have hu43 := hu7.2.2 hl0
  have hu25 := hu7.2.1
  have HLS : Hid (ls = la + lb) := hls
  have sP : ∀ i,i < l → qsz (P i) ≤ 5000 := fun i hi => Nat.le_trans (HFORM.out.sz (by omega) i hi) (by omega)
  have hPt : P (l - 1) = 1 := HMON.out hl0
  have hP0 : P (l - 1) ≠ 0 := by rw [hPt]; decide
  obtain ⟨l1,hl1⟩ : ∃ l1,l1 = l - 1 := ⟨_,rfl⟩
  have hl1l : l1 < l := by omega
  obtain ⟨bG,oG,ccG,p9,a9,m9,d9,bo9,k9,e9,hvv,hcc,XG,HG⟩ := FG.at l1 hl1l
  cases hvv
  rw [hl1,hPt] at HG
  have HTF : Hid (trimN P l = l) := trimN_full P l (fun _ => hP0)
  have HMI : Hid (∀ i,P i * (P (l - 1))⁻¹ = P i) := fun i => by rw [hPt,show ((1 : Rat))⁻¹ = 1 by decide +kernel,Rat.mul_one]
  have j1 : (l : Int) - 1 = (l1 : Int) := by omega
  have j2 : IntKind.i64.wrap (l1 : Int) = (l1 : Int) := by rw [IntKind.wrap_i64]; omega
  have j3 : (0 : Int) ≤ (l1 : Int) := by omega
  have j4 : (l1 : Int) < (l : Int) := by omega
  have j5 : ¬ (l : Int) = 0 := by omega
  have j6 : ((l : Int) == 0) = false := by simp; omega
  have HkT : Hid (0 < trimN q3 k) := by rcases Nat.eq_zero_or_pos (trimN q3 k) with h | h; exact absurd ⟨Hla4.out h,Hlb4.out h⟩ h0; exact h
  have HHP : Hid (P (l - 1) = 1) := hPt
  have HHL : Hid (l1 = l - 1) := hl1
  clear hls hPt hl1 h0
  go_wp2
  (try simp only [hs0b])
  have hDr : Below w20.heap.size w20 w20.drew := (Below.refl _ _).drew
  replace ht := ht.below hDr
  replace QC := QC.below hDr
  replace FA := FA.below hDr
  replace FB := FB.below hDr
  replace FG := FG.below hDr
  replace HG := HG.below hDr
  replace XG := XG.below hDr
  replace BB := BB.trans (hDr.mono BB.size)
  clear hDr
  refine wp_region_held_drew (S := (fun w' => w'.cell? ⟨bG,oG + l1 * 3,none⟩ = some (.bool p9) ∧ w'.cell? ⟨bG,oG + l1 * 3 + 1,none⟩ = some (.slice a9 m9 d9) ∧ w'.cell? ⟨bG,oG + l1 * 3 + 2,none⟩ = some (.slice bo9 k9 e9))) (by kernel_rfl) ?_ (fun hHeld => ?_)
  ·exact ⟨XG.1,XG.2.1,XG.2.2⟩
  generalize w20.drew = W41 at *
  refine xT 0 (v := ?_) (hy := Or.inl ⟨by rfl,?_⟩) (h := ?_)
  rotate_left
  ·(intro w hSw; (try dsimp only at hSw); go_simp; (try with_reducible rfl))
  (try simp only [Act.put,xL4,xL5,xL6])
  refine xT 1 (v := ?_) (hy := Or.inl ⟨by rfl,?_⟩) (h := ?_)
  rotate_left
  ·(intro w hSw; (try dsimp only at hSw); go_simp; (try with_reducible rfl))
  (try simp only [Act.put,xL4,xL5,xL6])
  refine xT 2 (v := ?_) (hy := Or.inl ⟨by rfl,?_⟩) (h := ?_)
  rotate_left
  ·(intro w hSw; (try dsimp only at hSw); go_simp; (try with_reducible rfl))
  (try simp only [Act.put,xL4,xL5,xL6])
  refine xT 3 (v := ?_) (hy := Or.inl ⟨by rfl,?_⟩) (h := ?_)
  rotate_left
  ·(intro w hSw; (try dsimp only at hSw); go_simp; (try with_reducible rfl))
  (try simp only [Act.put,xL4,xL5,xL6])
  refine xT 4 (v := ?_) (hy := Or.inl ⟨by rfl,?_⟩) (h := ?_)
  rotate_left
  ·(intro w hSw; (try dsimp only at hSw); go_simp; (try with_reducible rfl))
  (try simp only [Act.put,xL4,xL5,xL6])
  refine xR [5] (h := ?_)
  refine xN (h := fun K hK => ?_)
  go_simp
  refine (right4_at _ l P _ FG (fun i hi => Nat.le_trans (sP i hi) (by omega)) ht (by omega) (fun _ => hP0)).mono ?_
  rintro e w41 ⟨rfl,b41⟩
  go_wp2_with fail
  replace ht := ht.below b41
  replace QC := QC.below b41
  replace FA := FA.below b41
  replace FB := FB.below b41
  replace FG := FG.below b41
  replace HG := HG.below b41
  replace XG := XG.below b41
  replace BB := BB.trans (b41.mono BB.size)
  clear b41
  refine hK.out _ _ ?_ (fun hH1 => ?_)
  ·exact ⟨XG.1,XG.2.1,XG.2.2⟩
  clear hK K hHeld
  (try simp only [Act.put,xL4,xL5,xL6])
  refine xT 6 (v := ?_) (hy := Or.inl ⟨by rfl,?_⟩) (h := ?_)
  rotate_left
  ·(intro w hSw; (try dsimp only at hSw); go_simp; (try with_reducible rfl))
  (try simp only [Act.put,xL4,xL5,xL6])
  refine xT 7 (v := ?_) (hy := Or.inl ⟨by rfl,?_⟩) (h := ?_)
  rotate_left
  ·(intro w hSw; (try dsimp only at hSw); go_simp; (try with_reducible rfl))
  (try simp only [Act.put,xL4,xL5,xL6])
  refine xT 8 (v := ?_) (hy := Or.inl ⟨by rfl,?_⟩) (h := ?_)
  rotate_left
  ·(intro w hSw; (try dsimp only at hSw); go_simp; (try with_reducible rfl))
  (try simp only [Act.put,xL4,xL5,xL6])
  refine xT 9 (v := ?_) (hy := Or.inl ⟨by rfl,?_⟩) (h := ?_)
  rotate_left
  ·(intro w hSw; (try dsimp only at hSw); go_simp; (try with_reducible rfl))
  (try simp only [Act.put,xL4,xL5,xL6])
  refine xT 10 (v := ?_) (hy := Or.inl ⟨by rfl,?_⟩) (h := ?_)
  rotate_left
  ·(intro w hSw; (try dsimp only at hSw); go_simp; (try with_reducible rfl))
  (try simp only [Act.put,xL4,xL5,xL6])
  refine xT 11 (v := ?_) (hy := Or.inl ⟨by rfl,?_⟩) (h := ?_)
  rotate_left
  ·(intro w hSw; (try dsimp only at hSw); go_simp; (try with_reducible rfl))
  (try simp only [Act.put,xL4,xL5,xL6])
  refine xT 12 (v := ?_) (hy := Or.inl ⟨by rfl,?_⟩) (h := ?_)
  rotate_left
  ·(intro w hSw; (try dsimp only at hSw); go_simp; (try with_reducible rfl))
  (try simp only [Act.put,xL4,xL5,xL6])
  refine xT 13 (v := ?_) (hy := Or.inl ⟨by rfl,?_⟩) (h := ?_)
  rotate_left
  ·(intro w hSw; (try dsimp only at hSw); go_simp; (try with_reducible rfl))
  (try simp only [Act.put,xL4,xL5,xL6])
  refine xT 14 (v := ?_) (hy := Or.inl ⟨by rfl,?_⟩) (h := ?_)
  rotate_left
  ·(intro w hSw; (try dsimp only at hSw); go_simp; (try with_reducible rfl))
  (try simp only [Act.put,xL4,xL5,xL6])
  refine xR [15] (h := ?_)
  refine xN (h := fun K hK => ?_)
  go_simp
  refine (qone_at _).mono ?_
  rintro e w42 ⟨r15,rfl,h15,b42⟩
  go_wp2_with fail
  replace ht := ht.below b42
  replace QC := QC.below b42
  replace FA := FA.below b42
  replace FB := FB.below b42
  replace FG := FG.below b42
  replace HG := HG.below b42
  replace XG := XG.below b42
  replace BB := BB.trans (b42.mono BB.size)
  clear b42
  refine hK.out _ _ ?_ (fun hH2 => ?_)
  ·exact ⟨XG.1,XG.2.1,XG.2.2⟩
  clear hK K hH1
  (try simp only [Act.put,xL4,xL5,xL6])
  refine xR [16] (h := ?_)
  refine xN (h := fun K hK => ?_)
  go_simp
  refine (qsame_at _ _ 1 1 4 _ (HG.at 4 (by decide +kernel)) (h15.at 4 (by decide +kernel)) (by omega) (by omega)).mono ?_
  rintro e w43 ⟨rfl,b43⟩
  rw [decide_eq_true (rfl : (1 : Rat) = 1)]
  go_wp2_with fail
  replace ht := ht.below b43
  replace QC := QC.below b43
  replace FA := FA.below b43
  replace FB := FB.below b43
  replace FG := FG.below b43
  replace HG := HG.below b43
  replace h15 := h15.below b43
  replace XG := XG.below b43
  replace BB := BB.trans (b43.mono BB.size)
  clear b43
  refine hK.out _ _ ?_ (fun hH3 => ?_)
  ·exact ⟨XG.1,XG.2.1,XG.2.2⟩
  clear hK K hH2
  (try simp only [Act.put,xL4,xL5,xL6])
  refine xT 17 (v := ?_) (hy := Or.inl ⟨by rfl,?_⟩) (h := ?_)
  rotate_left
  ·(intro w hSw; (try dsimp only at hSw); go_simp; (try with_reducible rfl))
  (try simp only [Act.put,xL4,xL5,xL6])
  refine xT 18 (v := ?_) (hy := Or.inl ⟨by rfl,?_⟩) (h := ?_)
  rotate_left
  ·(intro w hSw; (try dsimp only at hSw); go_simp; (try with_reducible rfl))
  (try simp only [Act.put,xL4,xL5,xL6])
  refine xT 19 (v := ?_) (hy := Or.inl ⟨by rfl,?_⟩) (h := ?_)
  rotate_left
  ·(intro w hSw; (try dsimp only at hSw); go_simp; (try with_reducible rfl))
  (try simp only [Act.put,xL4,xL5,xL6])
  refine xT 20 (v := ?_) (hy := Or.inl ⟨by rfl,?_⟩) (h := ?_)
  rotate_left
  ·(intro w hSw; (try dsimp only at hSw); go_simp; (try with_reducible rfl))
  (try simp only [Act.put,xL4,xL5,xL6])
  refine xT 22 (v := ?_) (hy := Or.inl ⟨by rfl,?_⟩) (h := ?_)
  rotate_left
  ·(intro w hSw; (try dsimp only at hSw); go_simp; (try with_reducible rfl))
  (try simp only [Act.put,xL4,xL5,xL6])
  refine xR [21] (h := ?_)
  refine xN (h := fun K hK => ?_)
  go_simp
  refine (pmonic_at _ l P 5000 _ (FG.q 5000 sP) ht (by omega) (by omega) (by omega)).mono ?_
  rintro e w44 ⟨r21,rfl,h21,b44⟩
  replace h21 := h21.1
  rw [HTF.out] at h21
  go_wp2_with fail
  replace ht := ht.below b44
  replace QC := QC.below b44
  replace FA := FA.below b44
  replace FB := FB.below b44
  replace FG := FG.below b44
  replace HG := HG.below b44
  replace h15 := h15.below b44
  replace XG := XG.below b44
  replace BB := BB.trans (b44.mono BB.size)
  clear b44
  refine hK.out _ _ ?_ (fun hH4 => ?_)
  ·exact ⟨XG.1,XG.2.1,XG.2.2⟩
  clear hK K hH3
  (try simp only [Act.put,xL4,xL5,xL6])
  refine xR [23] (h := ?_)
  refine xN (h := fun K hK => ?_)
  go_simp
  refine (is4_at _ _ l l (fun i => P i * (P (l - 1))⁻¹) P 5000 _ h21 (FG.q 5000 sP) (fun i hi => by rw [HMI.out i]; exact sP i hi) ht (by omega) (by omega) (by omega) (by omega) (fun _ => by rw [HMI.out]; exact hP0) (fun i => by show (if i < l then P i * (P (l - 1))⁻¹ else 0) = (if i < l then P i else 0); rw [HMI.out i])).mono ?_
  rintro e w45 ⟨rfl,b45⟩
  go_wp2_with fail
  replace ht := ht.below b45
  replace QC := QC.below b45
  replace FA := FA.below b45
  replace FB := FB.below b45
  replace FG := FG.below b45
  replace HG := HG.below b45
  replace h15 := h15.below b45
  replace h21 := h21.below b45
  replace XG := XG.below b45
  replace BB := BB.trans (b45.mono BB.size)
  clear b45
  refine hK.out _ _ ?_ (fun hH5 => ?_)
  ·exact ⟨XG.1,XG.2.1,XG.2.2⟩
  clear hK K hH4
  (try simp only [Act.put,xL4,xL5,xL6])
  refine xT 24 (v := ?_) (hy := Or.inl ⟨by rfl,?_⟩) (h := ?_)
  rotate_left
  ·(intro w hSw; (try dsimp only at hSw); go_simp; (try with_reducible rfl))
  (try simp only [Act.put,xL4,xL5,xL6])
  refine xT 25 (v := ?_) (hy := Or.inl ⟨by rfl,?_⟩) (h := ?_)
  rotate_left
  ·(intro w hSw; (try dsimp only at hSw); go_simp; (try with_reducible rfl))
  (try simp only [Act.put,xL4,xL5,xL6])
  refine wpAnyH_done (by kernel_rfl) ?_ _
  clear hH5
  clear XG HG h15 h21
  obtain ⟨lc,hlc⟩ : ∃ t,trimN q3 k = t := ⟨_,rfl⟩
  have HLC : Hid (trimN q3 k = lc) := hlc
  have hlck : lc ≤ k := by rw [← hlc]; exact trimN_le _ _
  have hlc0 : 0 < lc := by have := HkT.out; rw [hlc] at this; exact this
  have hct : q3 (lc - 1) ≠ 0 := by have := trimN_top q3 k; rw [hlc] at this; exact this hlc0
  clear hlc
  have HA1 : Hid (trimN A la = la) := trimN_full A la Hla1.out
  have HB1 : Hid (trimN Bq lb = lb) := trimN_full Bq lb Hlb1.out
  have HFC : Hid (IForm lc q3 9) := (IForm.of_sz 2 q3 lc (fun i hi => sC i (by omega))).le (by omega)
  have HGG := (HDV.out (co l P)).1 (Dv.self _)
  have HDA : Hid (Dv (co l P) (co la A)) := HGG.1
  have HDB : Hid (Dv (co l P) (co lb Bq)) := HGG.2
  have HDC : Hid (Dv (co lc q3) (co l P)) := by
   have h := (HDV.out (co k q3)).2 ⟨Hla3.out,Hlb3.out⟩
   have e : co lc q3 = co k q3 := by funext i; rw [← HLC.out]; exact co_trim q3 k i
   rw [e]; exact h
  clear HGG
  have HS1 : Hid (allS la P (l - 1) 31000 (la - (l - 1)) A) := allS_div Hla2.out HFORM.out hl0 hP0 (by omega) (Nat.le_trans (Nat.add_le_add_left (Nat.mul_le_mul (show la - (l - 1) ≤ 7 by omega) (show uz l + 1 ≤ 4394 by omega)) 25) (by omega))
  have HS2 : Hid (allS lb P (l - 1) 31000 (lb - (l - 1)) Bq) := allS_div Hlb2.out HFORM.out hl0 hP0 (by omega) (Nat.le_trans (Nat.add_le_add_left (Nat.mul_le_mul (show lb - (l - 1) ≤ 7 by omega) (show uz l + 1 ≤ 4394 by omega)) 25) (by omega))
  have HS3 : Hid (allS l q3 (lc - 1) 31000 (l - (lc - 1)) P) := allS_div HFORM.out HFC.out hlc0 hct (by omega) (Nat.le_trans (Nat.add_le_add_left (Nat.mul_le_mul_right 10 (show l - (lc - 1) ≤ 7 by omega)) _) (by omega))
  have sA2 : ∀ i,i < la → qsz (A i) ≤ 5000 := fun i hi => Nat.le_trans (Hla2.out.sz (by omega) i hi) (by omega)
  have sB2 : ∀ i,i < lb → qsz (Bq i) ≤ 5000 := fun i hi => Nat.le_trans (Hlb2.out.sz (by omega) i hi) (by omega)
  go_wp2_with fail
  refine (pdivmod_exact _ _ la l la l A P 5000 31000 _ (FA.q 5000 sA2) (FG.q 5000 sP) ht (by omega) (by omega) (by omega) (by omega) HA1.out HTF.out (by omega) (by omega) sP hl0 hP0 (by omega) (by omega) HS1.out HDA.out).mono ?_
  rintro e w46 ⟨d1,y1,c1,rfl,b46⟩
  replace ht := ht.below b46
  replace QC := QC.below b46
  replace FA := FA.below b46
  replace FB := FB.below b46
  replace FG := FG.below b46
  replace BB := BB.trans (b46.mono BB.size)
  clear b46
  go_wp2_with fail
  refine (pdivmod_exact _ _ lb l lb l Bq P 5000 31000 _ (FB.q 5000 sB2) (FG.q 5000 sP) ht (by omega) (by omega) (by omega) (by omega) HB1.out HTF.out (by omega) (by omega) sP hl0 hP0 (by omega) (by omega) HS2.out HDB.out).mono ?_
  rintro e w47 ⟨d2,y2,c2,rfl,b47⟩
  replace ht := ht.below b47
  replace QC := QC.below b47
  replace FA := FA.below b47
  replace FB := FB.below b47
  replace FG := FG.below b47
  replace BB := BB.trans (b47.mono BB.size)
  clear b47
  go_wp2_with fail
  refine (pdivmod_exact _ _ l k l lc P q3 5000 31000 _ (FG.q 5000 sP) (QC.le (by omega)) ht (by omega) (by omega) (by omega) (by omega) HTF.out HLC.out (by omega) (by omega) (fun i hi => Nat.le_trans (sC i (by omega)) (by omega)) hlc0 hct (by omega) (by omega) HS3.out HDC.out).mono ?_
  rintro e w48 ⟨d3,y3,c3,rfl,b48⟩
  replace ht := ht.below b48
  replace QC := QC.below b48
  replace FA := FA.below b48
  replace FB := FB.below b48
  replace FG := FG.below b48
  replace BB := BB.trans (b48.mono BB.size)
  clear b48
  go_wp2_with fail
  refine (awake4_at _ ht).mono ?_
  rintro e w49 ⟨rfl,b49⟩
  replace ht := ht.below b49
  replace QC := QC.below b49
  replace FA := FA.below b49
  replace FB := FB.below b49
  replace FG := FG.below b49
  replace BB := BB.trans (b49.mono BB.size)
  clear b49
  go_wp2
  go_ret
  exact ⟨rfl,BB⟩

theorem own : ownKnob Tryz.prog.godebug = none := by kernel_rfl
theorem laidOut : laidOutB Tryz.prog = true := by kernel_rfl

abbrev laid1 : List (String × DataW Unit) := [("math/bits.deBruijn64tab",Rows.laid_math_bits_deBruijn64tab)]
theorem gTab : Tryz.prog.globalNamed "math/bits.deBruijn64tab" = some 0 := by kernel_rfl
theorem gTabType : (Tryz.prog.globals[0]?).map (·.type) = some 137 := by kernel_rfl
theorem uTab : Tryz.prog.underlying 137 = some (.array 64 5) := by kernel_rfl
theorem uCell : Tryz.prog.underlying 5 = some (.int .u8) := by kernel_rfl
theorem cCell : Tryz.prog.cellsOf 5 = 1 := by kernel_rfl
theorem cTab : Tryz.prog.cellsOf 137 = 64 := by kernel_rfl
/-- The listed table lies in its cells. -/
theorem tab_of {W : World} (h : laidMetH Tryz.prog laid1 W) : Tab W := by
 rw [MakeChecks.laidMetH_plain _ _ _ (by kernel_rfl)] at h
 have hd : laid1 = [("math/bits.deBruijn64tab",Lib.tabData .u8 (Lib.deBruijn64tab.map fun (n : Nat) => Int.ofNat n))] := rfl
 rw [hd] at h
 have hT := Lib.tabIs_of_head gTab gTabType uTab uCell cCell cTab h
 intro i hi
 have hc := hT.cell gTab i (by rw [List.length_map]; exact hi)
 rw [hc]
 congr 2
 rw [List.getD_eq_getElem?_getD,List.getElem?_map,List.getD_eq_getElem?_getD]
 cases Lib.deBruijn64tab[i]? <;> rfl
/-- A start for the witness: the heap that the run of the program's own initialisers leaves. -/
noncomputable def startW (os : Os) : World := { World.holding Tryz.prog os ⟨#[],#[],[]⟩ with heap := (varsWorld Tryz.prog 400 (varsId Tryz.prog) os (fun _ _ => 0)).heap }
theorem start_met (os : Os) (args : Array Value) : laidMetH Tryz.prog laid1 ((startW os).forCall (fun _ _ => 0) ⟨#[],args,[]⟩).memory :=
 laidMetH_of_parts3 (fuel := 8) (laidMet_of_run' 8 (by kernel_rfl) (by kernel_rfl)) (by kernel_rfl) (by kernel_rfl)

set_option maxRecDepth 100000 in
theorem lifted (os : Os) (started : os.Started) (H : Type) (enc : TypeId × Value → H) :
  ReturnsInHanded {} Tryz.checked os 4 .any (fun w args => (Rows.polyGcdsSpec.pre enc Tryz.prog Tryz.f4 [] false w args ∧ laidMetH Tryz.prog laid1 w) ∧ sizedMet enc Tryz.prog Tryz.f4 (OpenSpec.ofChange Rows.polyGcdsSpec) false w args) (Rows.polyGcdsSpec.post enc Tryz.prog Tryz.f4 false true false false) := by
 refine returnsInHanded_of_change_and (C := Tryz.checked) (X := fun w _ => laidMetH Tryz.prog laid1 w) (fun _ _ _ hh h => h.of_heap hh) own started (by kernel_rfl) Tryz.func4
  (ChangeSpec.witness_shaped (enc := enc) (C := Tryz.checked) (os := os) (X := fun w _ => laidMetH Tryz.prog laid1 w) false (startW os) #[.slice none 0 0,.slice none 0 0,.slice none 0 0] 8 rfl (World.shaped_of_RefB (by kernel_rfl) (by kernel_rfl)) (by kernel_rfl) (by kernel_rfl) (by kernel_rfl) (start_met os _)) ?_
 intro W base args ds gs before hval0 hW _ _ hL _
 have hval : ∀ (j : Nat) t v,Tryz.f4.params[j]? = some t → args[j]? = some v → Value.okWide Tryz.prog W .any base t v := hval0
 have hW' := hW
 obtain ⟨p,q,hA0,hV,rfl,hfz,hnd⟩ := hW
 have hA : DataW.TrodAll enc Tryz.prog W 0 (fun _ => true) true Tryz.f4.params.toList args.toList ds p := hA0
 rw [Tryz.params4] at hA hval
 obtain ⟨v0,vs0,d0,ds0,p0,q0,hargs,rfl,rfl,h0,r0⟩ := trodAll_cons hA
 obtain ⟨v1,vs1,d1,ds1,p1,q1,rfl,rfl,rfl,h1,r1⟩ := trodAll_cons r0
 obtain ⟨v2,vs2,d2,ds2,p2,q2,rfl,rfl,rfl,h2,r2⟩ := trodAll_cons r1
 obtain ⟨rfl,rfl,rfl⟩ := trodAll_nil r2
 obtain rfl : args = #[v0,v1,v2] := by cases args; simp_all
 obtain ⟨rfl,rfl⟩ := trodVars_none hV
 have k0 := h0
 have lt0 : ∀ x ∈ p0,x.block < W.heap.size := by obtain ⟨m,hm⟩ := k0; exact DataW.trod_lt m _ _ _ hm
 obtain ⟨n0,z0,w0⟩ := open_wrats KLIST (hval 0 22 v0 rfl rfl) h0
 have k1 := h1
 have lt1 : ∀ x ∈ p1,x.block < W.heap.size := by obtain ⟨m,hm⟩ := k1; exact DataW.trod_lt m _ _ _ hm
 obtain ⟨n1,z1,w1⟩ := open_wrats KLIST (hval 1 22 v1 rfl rfl) h1
 have k2 := h2
 have lt2 : ∀ x ∈ p2,x.block < W.heap.size := by obtain ⟨m,hm⟩ := k2; exact DataW.trod_lt m _ _ _ hm
 obtain ⟨n2,z2,w2⟩ := open_wrats KLIST (hval 2 22 v2 rfl rfl) h2
 clear hA0 hval0
 refine (walk _ _ _ _ _ _ _ _ _ W w0 w1 w2 (tab_of hL)).mono fun e W' ⟨he,bel⟩ => ?_
 subst he
 exact ⟨_,rfl,_,_,_,[],_,[],hW',trodAll_mk1 (shut_bool Tryz.underlying4 _),(trodAll_cons_mk (Below.trod laidOut (by kernel_rfl) (of_decide_eq_true (by kernel_rfl)) k0 bel lt0) (trodAll_cons_mk (Below.trod laidOut (by kernel_rfl) (of_decide_eq_true (by kernel_rfl)) k1 bel lt1) (trodAll_cons_mk (Below.trod laidOut (by kernel_rfl) (of_decide_eq_true (by kernel_rfl)) k2 bel lt2) trodAll_mk0))),rfl,bel.frame _,fun h => by cases h⟩

theorem over : Rows.polyGcdsRow.holds Tryz.pinned (OpenSpec.ofChange Rows.polyGcdsSpec) :=
 OpenClaim.holds_of_wide 4 Tryz.f4 rfl rfl rfl rfl rfl rfl rfl ⟨rfl,rfl,rfl,rfl,rfl⟩ rfl rfl rfl rfl rfl (by kernel_rfl) Tryz.func4 (by kernel_rfl)
  (of_decide_eq_true (by kernel_rfl)) (by unfold Func.isWrapper; first | (rw [if_pos (by decide +kernel)]; kernel_rfl) | (rw [if_neg (by decide +kernel)]; exact ⟨rfl,rfl⟩))
  (fun os started H enc _ => lifted os started H enc)

end Go.Proofs.YtnbocjbfieklhaaGreatDoor.polyGcds
namespace Go.Proofs.YtnbocjbfieklhaaGreatDoor
/-- The statement: the row, tied to the text of the program. -/
theorem polyGcds_holds : Rows.PolyGcdsCardSaid :=
 Claim7.holds_tied_plain_at .later [] [.data] true (true,"bbc665b88dfdf00f59a32d7f70012164447cbec1d4343b32efd05aa9803691dc") false
  polyGcds.over (fun _ h => by cases h) (by kernel_rfl) (fun _ h => by cases h) polyGcds_row_tie rfl ⟨rfl,rfl⟩ (by kernel_rfl) rfl
  (fun f fn hf hfn => by
   obtain rfl : f = 4 := Option.some.inj ((show Tryz.prog.funcNamed "dendron/dendronlaw04.PolyGcds" = some 4 by kernel_rfl).symm.trans hf) |>.symm
   obtain rfl : fn = Tryz.f4 := (Option.some.inj (Tryz.func4.symm.trans hfn)).symm
   exact ⟨by kernel_rfl,fun j t ht => by
    rw [Tryz.params4] at ht
    have hm : t ∈ [22,22,22] := by simpa using Array.mem_of_getElem? ht
    have hall : ([22,22,22].all fun u => !Tryz.prog.wantsStandIn u) = true := by kernel_rfl
    exact (show Tryz.prog.wantsStandIn t = false by simpa using List.all_eq_true.1 hall t hm)⟩)
  (by kernel_rfl)
end Go.Proofs.YtnbocjbfieklhaaGreatDoor
