/-
  Texts of mine, joined: what lies beneath the statement.
-/
import Derived.Test.YtjmagcgobhaenaaGreatDoorJc66f179fb5
import Derived.Test.YtjmagcgobhaenaaGreatDoorJfeba706f50
import Derived.Test.YtjmagcgobhaenaaGreatDoorJ8b8819a7b6
import Derived.Test.YtjmagcgobhaenaaGreatDoorJ5e26f16171
namespace Go.Proofs.YtjmagcgobhaenaaGreatDoor
open Go.RowKit
set_option linter.unusedVariables false
set_option linter.unusedSimpArgs false
theorem lvl_step11 {a b c d : Nat} (l : a = b + 1) (h : c ≤ b + (d + 1)) : c ≤ a + d := by omega
def Tup11 (w : World) (v : Value) (q : Rat) : Prop := ∃ x,v = .tuple #[x,.int .i64 0] ∧ RepQ w x q
theorem Tup11.below {w w' : World} {v : Value} {q : Rat} (h : Tup11 w v q) (hb : Below w.heap.size w w') : Tup11 w' v q := let ⟨x,e,hx⟩ := h; ⟨x,e,hx.below hb⟩
theorem Tup11.keep {w w' : World} {v : Value} {q : Rat} (h : Tup11 w v q) (hk : KeepQ IsNum w w') : Tup11 w' v q := let ⟨x,e,hx⟩ := h; ⟨x,e,hx.keep hk⟩
set_option maxRecDepth 100000 in
set_option maxHeartbeats 16000000 in
theorem lbelow_ind (vt vr : Value) (n nr : Nat) (t : Nat → Nd) (r : Nat → Cl) (s L M : Nat) (hL : 1 ≤ L) (hLM : L ≤ M) (hM : M ≤ 10000) (hs : s < 18446744073709551616) (hnr : nr ≤ 64) (hm : MayT (nr : Int) t n) (hS : ∀ x,x < n → qsz (say t n r s x) ≤ M) : ∀ (k x : Nat) (w : World),x < n → n + 1 ≤ lvl t n x + k → TRow w vt n t L → CRow w vr nr r L → Tab w →
  Calls Tryz.prog 54 #[vt,.int .i64 (x : Int),vr,.int .u64 (s : Int)] w fun e w' => ∃ v,e = .returned v ∧ RatAt w' v (say t n r s x) M ∧ Below w.heap.size w w' := by
 intro k
 induction k with
 | zero =>
  intro x w hx hk
  have := hm.lvl_le hx
  omega
 | succ k ih =>
  intro x w hx hk ht hr hT
  obtain ⟨ao,ct,rfl,htc,ht63⟩ := ht.open
  obtain ⟨ar,cr,rfl,hrc,hr63⟩ := hr.open
  have BB : Below w.heap.size w w := Below.refl _ _
  have g0 : (0 : Int) ≤ (x : Int) := by omega
  have g1 : (x : Int) < (n : Int) := by omega
  have hn255 := hm.few
  obtain ⟨b,off,cc,p1,a1,n1,c1,b1,m1,d1,p2,a2,n2,c2,b2,m2,d2,p3,a3,n3,c3,b3,m3,d3,hvv,hcc,hc6,NN,r1,r2,r3,i1,i2,i3⟩ := ht.at hx
  cases hvv
  have r2w := r2
  obtain ⟨W0,hW0,hS0,hL0,VR⟩ := V3.lay w 34 (.bool false) (.slice none 0 0) (.slice none 0 0)
  replace ht := ht.below hL0
  replace hr := hr.below hL0
  replace hT := hT.below hL0
  replace NN := NN.below hL0
  replace r1 := r1.below hL0
  replace r2 := r2.below hL0
  replace r3 := r3.below hL0
  replace BB := BB.trans (hL0.mono BB.size)
  clear hL0
  obtain ⟨lf,hlf⟩ : ∃ z,(t x).leaf = z := ⟨_,rfl⟩
  rw [hlf] at NN
  obtain ⟨W1,hW1,hS1,hL1,VN,FN⟩ := V14.lay W0 61 (.bool lf) (.int .i64 (t x).feat) (.bool p1) (.slice a1 n1 c1) (.slice b1 m1 d1) (.int .i64 (t x).left) (.int .i64 (t x).right) (.bool (t x).miss) (.bool p2) (.slice a2 n2 c2) (.slice b2 m2 d2) (.bool p3) (.slice a3 n3 c3) (.slice b3 m3 d3)
  replace ht := ht.below hL1
  replace hr := hr.below hL1
  replace hT := hT.below hL1
  replace r1 := r1.below hL1
  replace r2 := r2.below hL1
  replace r3 := r3.below hL1
  replace VR := VR.below hL1
  replace BB := BB.trans (hL1.mono BB.size)
  clear hL1
  obtain ⟨N_0,N_1,N_2,N_3,N_4,N_5,N_6,N_7,N_8,N_9,N_10,N_11,N_12,N_13⟩ := id NN
  obtain ⟨V_0,V_1,V_2,V_3,V_4,V_5,V_6,V_7,V_8,V_9,V_10,V_11,V_12,V_13⟩ := id VN
  rw [hW1,hW0] at V_0 V_1 V_2 V_3 V_4 V_5 V_6 V_7 V_8 V_9 V_10 V_11 V_12 V_13
  rw [hW0] at N_0 N_1 N_2 N_3 N_4 N_5 N_6 N_7 N_8 N_9 N_10 N_11 N_12 N_13
  go_enter Tryz.func54,Tryz.ntmps54
  cases lf
  ·have HF := hm.feat x hx hlf
   obtain ⟨e1,e2,k1,k2,k3,k4,l1,l2⟩ := hm.kids hx hlf
   have HSI : Hid (inS s (t x).feat.toNat = true → say t n r s x = say t n r s (nxt (t x) r)) := hm.say_in r hx hlf
   have HSO : Hid (inS s (t x).feat.toNat = false → say t n r s x = ((t (kl t x)).cov * say t n r s (kl t x) + (t (kr t x)).cov * say t n r s (kr t x)) / (t x).cov) := hm.say_out r hx hlf
   have HCV : Hid ((t x).cov ≠ 0) := fun e => by have := hm.cov x hx; rw [e] at this; exact absurd this (by decide)
   obtain ⟨fn,hfn⟩ : ∃ fn : Nat,(t x).feat = (fn : Int) := ⟨(t x).feat.toNat,by omega⟩
   have hfl : fn < nr := by omega
   obtain ⟨ms,hms⟩ : ∃ z,(t x).miss = z := ⟨_,rfl⟩
   have HO : Hid (nxt (t x) r = if goL (t x) (r fn) = true then kl t x else kr t x) := by
    show nxt (t x) r = _
    unfold nxt kl kr
    rw [hfn]
    rfl
   have hk1 : n + 1 ≤ lvl t n (kl t x) + k := lvl_step11 l1 hk
   have hk2 : n + 1 ≤ lvl t n (kr t x) + k := lvl_step11 l2 hk
   have IH1 : Hid (∀ w,TRow w (.slice (some ⟨b,off,none⟩) n ct) n t L → CRow w (.slice ar nr cr) nr r L → Tab w → Calls Tryz.prog 54 #[.slice (some ⟨b,off,none⟩) n ct,.int .i64 (kl t x : Int),.slice ar nr cr,.int .u64 (s : Int)] w fun e w' => ∃ v,e = .returned v ∧ RatAt w' v (say t n r s (kl t x)) M ∧ Below w.heap.size w w') := fun w h1 h2 h3 => ih (kl t x) w k2 hk1 h1 h2 h3
   have IH2 : Hid (∀ w,TRow w (.slice (some ⟨b,off,none⟩) n ct) n t L → CRow w (.slice ar nr cr) nr r L → Tab w → Calls Tryz.prog 54 #[.slice (some ⟨b,off,none⟩) n ct,.int .i64 (kr t x : Int),.slice ar nr cr,.int .u64 (s : Int)] w fun e w' => ∃ v,e = .returned v ∧ RatAt w' v (say t n r s (kr t x)) M ∧ Below w.heap.size w w') := fun w h1 h2 h3 => ih (kr t x) w k4 hk2 h1 h2 h3
   have HS1 : Hid (qsz (say t n r s (kl t x)) ≤ M) := hS _ k2
   have HS2 : Hid (qsz (say t n r s (kr t x)) ≤ M) := hS _ k4
   have HS0 : Hid (qsz (say t n r s x) ≤ M) := hS _ hx
   clear ih hS hk1 hk2 hk
   rw [hfn] at HSI HSO
   simp only [Int.toNat_natCast] at HSI HSO
   have HCON : Hid (∀ (w : World) (h1 : RatAt w (.agg #[.bool p1,.slice a1 n1 c1,.slice b1 m1 d1]) (t x).cut L) p4 a4 b4 n4 c4 m4 d4 (h2 : RatAt w (.agg #[.bool p4,.slice a4 n4 c4,.slice b4 m4 d4]) (r fn).val L),Calls Tryz.prog 64 #[.agg #[.bool false,.int .i64 (fn : Int),.bool p1,.slice a1 n1 c1,.slice b1 m1 d1,.int .i64 (kl t x : Int),.int .i64 (kr t x : Int),.bool ms,.bool p2,.slice a2 n2 c2,.slice b2 m2 d2,.bool p3,.slice a3 n3 c3,.slice b3 m3 d3],.agg #[.bool (r fn).miss,.bool p4,.slice a4 n4 c4,.slice b4 m4 d4]] w fun e w' => e = .returned (.bool (goL (t x) (r fn))) ∧ Below w.heap.size w w') := fun w h1 p4 a4 b4 n4 c4 m4 d4 h2 => by
    have := rleft_at (t x) (r fn) p1 p2 p3 p4 a1 b1 a2 b2 a3 b3 a4 b4 n1 c1 m1 d1 n2 c2 m2 d2 n3 c3 m3 d3 n4 c4 m4 d4 L w h1 h2 hL (by omega)
    rw [hlf,hfn,e1,e2,hms] at this
    exact this
   simp only [hfn,e1,e2,hms] at VN hW1 V_1 N_1 V_5 N_5 V_6 N_6 V_7 N_7
   have f0 : (0 : Int) ≤ (fn : Int) := by omega
   have f1 : (fn : Int) < (nr : Int) := by omega
   clear hlf hfn e1 e2 hms HF l1 l2 k1 k3 i1 i2 i3 hm r2w
   have HTX : Hid (TRow W1 (.slice (some ⟨b,off,none⟩) n ct) n t L) := ht
   generalize hkl : kl t x = lr at *
   generalize hkr : kr t x = rr at *
   clear hkl hkr
   have h0 : (0 : Int) ≤ (lr : Int) := by omega
   have h1 : (lr : Int) < (n : Int) := by omega
   have h2 : (0 : Int) ≤ (rr : Int) := by omega
   have h3 : (rr : Int) < (n : Int) := by omega
   go_wp2_with fail
   clear V_0 V_1 V_2 V_3 V_4 V_5 V_6 V_7 V_8 V_9 V_10 V_11 V_12 V_13 N_0 N_1 N_2 N_3 N_4 N_5 N_6 N_7 N_8 N_9 N_10 N_11 N_12 N_13
   rw [← hW0,← hW1]
   clear hW0 hW1
   rw [hS0] at VN
   obtain ⟨R0,hR0⟩ : ∃ R,R = w.heap.size + 1 := ⟨_,rfl⟩
   rw [← hR0] at VN ⊢
   have hRR : w.heap.size ≠ R0 := by omega
   clear hR0 hS0 hS1 FN HTX
   refine (lin_at s fn hs (by omega) _).mono ?_
   rintro e wx ⟨rfl,hwx⟩
   replace hwx := hwx.symm
   subst hwx
   obtain ⟨g,hg⟩ : ∃ g,inS s fn = g := ⟨_,rfl⟩
   rw [hg] at HSI HSO ⊢
   clear hg
   cases g
   ·have HSV : Hid (say t n r s x = ((t lr).cov * say t n r s lr + (t rr).cov * say t n r s rr) / (t x).cov) := HSO.out rfl
    clear HSO HSI HO HCON
    obtain ⟨V_0,V_1,V_2,V_3,V_4,V_5,V_6,V_7,V_8,V_9,V_10,V_11,V_12,V_13⟩ := id VN
    go_wp2
    clear V_0 V_1 V_2 V_3 V_4 V_5 V_6 V_7 V_8 V_9 V_10 V_11 V_12 V_13
    obtain ⟨bL,oL,ccL,p1L,a1L,n1L,c1L,b1L,m1L,d1L,p2L,a2L,n2L,c2L,b2L,m2L,d2L,p3L,a3L,n3L,c3L,b3L,m3L,d3L,hvvL,hccL,hc6L,NNL,r1L,r2L,r3L,i1L,i2L,i3L⟩ := ht.at k2
    cases hvvL
    have XL : E3 W1 b (off + lr * 14 + 11) _ _ _ := ⟨NNL.c11,NNL.c12,NNL.c13⟩
    clear NNL r1L r2L i1L i2L i3L
    refine wp_region_until 14 #[true,true,true,true,true,true,true,true,true,true,true,true,true,true,false] (fun aF lsd a' w' => ∃ vu0 vu1 vu2 vu3 vu4 vu5 vu6 vu7 vu8 vu9 vu10 vu11 vu12 vu13 : Value,a' = (((((((((((((aF.put (some 45) vu0).put (some 46) vu1).put (some 47) vu2).put (some 48) vu3).put (some 49) vu4).put (some 50) vu5).put (some 51) vu6).put (some 52) vu7).put (some 53) vu8).put (some 54) vu9).put (some 55) vu10).put (some 56) vu11).put (some 57) vu12).put (some 10) vu13 ∧ Below W1.heap.size W1 w' ∧ (lsd.getD 0 false = true → vu0 = .slice (some ⟨b,off,none⟩) n ct) ∧ (lsd.getD 1 false = true → vu1 = .pointer (some ⟨R0,5,none⟩)) ∧ (lsd.getD 2 false = true → vu2 = .int .i64 (lr : Int)) ∧ (lsd.getD 3 false = true → vu3 = .pointer (some ⟨b,off + lr * 14,none⟩)) ∧ (lsd.getD 4 false = true → vu4 = .pointer (some ⟨b,off + lr * 14 + 11,none⟩)) ∧ (lsd.getD 5 false = true → vu5 = .agg #[.bool p3L,.slice a3L n3L c3L,.slice b3L m3L d3L]) ∧ (lsd.getD 6 false = true → vu6 = .slice (some ⟨b,off,none⟩) n ct) ∧ (lsd.getD 7 false = true → vu7 = .pointer (some ⟨R0,5,none⟩)) ∧ (lsd.getD 8 false = true → vu8 = .int .i64 (lr : Int)) ∧ (lsd.getD 9 false = true → vu9 = .slice ar nr cr) ∧ (lsd.getD 10 false = true → vu10 = .int .u64 (s : Int)) ∧ (lsd.getD 11 false = true → RatAt w' vu11 (say t n r s lr) M) ∧ (lsd.getD 12 false = true → RepQ w' vu12 ((t lr).cov * say t n r s lr)) ∧ (lsd.getD 13 false = true → New3 W1.heap.size w' vu13 (.bool false) (.slice none 0 0) (.slice none 0 0))) (by kernel_rfl) (by decide) (by kernel_rfl) (by rfl) (by kernel_rfl) ?_ ?_ ?_
    ·exact ⟨_,_,_,_,_,_,_,_,_,_,_,_,_,_,by simp only [Act.put,xL4,xL5,xL6]; rfl,(Below.refl _ _).drew,fun h => absurd h (fun h => mark_none h),fun h => absurd h (fun h => mark_none h),fun h => absurd h (fun h => mark_none h),fun h => absurd h (fun h => mark_none h),fun h => absurd h (fun h => mark_none h),fun h => absurd h (fun h => mark_none h),fun h => absurd h (fun h => mark_none h),fun h => absurd h (fun h => mark_none h),fun h => absurd h (fun h => mark_none h),fun h => absurd h (fun h => mark_none h),fun h => absurd h (fun h => mark_none h),fun h => absurd h (fun h => mark_none h),fun h => absurd h (fun h => mark_none h),fun h => absurd h (fun h => mark_none h)⟩
    ·rintro lsd au wn iu hszu ⟨vu0,vu1,vu2,vu3,vu4,vu5,vu6,vu7,vu8,vu9,vu10,vu11,vu12,vu13,rfl,hbu,fu0,fu1,fu2,fu3,fu4,fu5,fu6,fu7,fu8,fu9,fu10,fu11,fu12,fu13⟩ himu hru
     rcases (show iu = 0 ∨ iu = 1 ∨ iu = 2 ∨ iu = 3 ∨ iu = 4 ∨ iu = 5 ∨ iu = 6 ∨ iu = 7 ∨ iu = 8 ∨ iu = 9 ∨ iu = 10 ∨ iu = 11 ∨ iu = 12 ∨ iu = 13 by omega) with rfl | rfl | rfl | rfl | rfl | rfl | rfl | rfl | rfl | rfl | rfl | rfl | rfl | rfl
     ·refine wpOp_shut (by rfl) (fun K hK => ?_)
      simp only [Act.put,xL4,xL5,xL6]
      go_simp
      exact hK.out _ _ ⟨(.slice (some ⟨b,off,none⟩) n ct),vu1,vu2,vu3,vu4,vu5,vu6,vu7,vu8,vu9,vu10,vu11,vu12,vu13,by simp only [Act.put,xL4,xL5,xL6],hbu,fun _ => rfl,fun h => fu1 (mark_of (by decide) h),fun h => fu2 (mark_of (by decide) h),fun h => fu3 (mark_of (by decide) h),fun h => fu4 (mark_of (by decide) h),fun h => fu5 (mark_of (by decide) h),fun h => fu6 (mark_of (by decide) h),fun h => fu7 (mark_of (by decide) h),fun h => fu8 (mark_of (by decide) h),fun h => fu9 (mark_of (by decide) h),fun h => fu10 (mark_of (by decide) h),fun h => fu11 (mark_of (by decide) h),fun h => fu12 (mark_of (by decide) h),fun h => fu13 (mark_of (by decide) h)⟩
     ·refine wpOp_shut (by rfl) (fun K hK => ?_)
      simp only [Act.put,xL4,xL5,xL6]
      go_simp
      exact hK.out _ _ ⟨vu0,(.pointer (some ⟨R0,5,none⟩)),vu2,vu3,vu4,vu5,vu6,vu7,vu8,vu9,vu10,vu11,vu12,vu13,by simp only [Act.put,xL4,xL5,xL6],hbu,fun h => fu0 (mark_of (by decide) h),fun _ => rfl,fun h => fu2 (mark_of (by decide) h),fun h => fu3 (mark_of (by decide) h),fun h => fu4 (mark_of (by decide) h),fun h => fu5 (mark_of (by decide) h),fun h => fu6 (mark_of (by decide) h),fun h => fu7 (mark_of (by decide) h),fun h => fu8 (mark_of (by decide) h),fun h => fu9 (mark_of (by decide) h),fun h => fu10 (mark_of (by decide) h),fun h => fu11 (mark_of (by decide) h),fun h => fu12 (mark_of (by decide) h),fun h => fu13 (mark_of (by decide) h)⟩
     ·have eu1 := fu1 (dep_of 1 hru rfl (by kernel_rfl))
      replace eu1 := eu1.symm
      subst eu1
      refine wpOp_shut (by rfl) (fun K hK => ?_)
      simp only [Act.put,xL4,xL5,xL6]
      obtain ⟨y0,y1,y2,y3,y4,y5,y6,y7,y8,y9,y10,y11,y12,y13⟩ := VN.below hbu
      go_simp
      exact hK.out _ _ ⟨vu0,(.pointer (some ⟨R0,5,none⟩)),(.int .i64 (lr : Int)),vu3,vu4,vu5,vu6,vu7,vu8,vu9,vu10,vu11,vu12,vu13,by simp only [Act.put,xL4,xL5,xL6],hbu,fun h => fu0 (mark_of (by decide) h),fun _ => rfl,fun _ => rfl,fun h => fu3 (mark_of (by decide) h),fun h => fu4 (mark_of (by decide) h),fun h => fu5 (mark_of (by decide) h),fun h => fu6 (mark_of (by decide) h),fun h => fu7 (mark_of (by decide) h),fun h => fu8 (mark_of (by decide) h),fun h => fu9 (mark_of (by decide) h),fun h => fu10 (mark_of (by decide) h),fun h => fu11 (mark_of (by decide) h),fun h => fu12 (mark_of (by decide) h),fun h => fu13 (mark_of (by decide) h)⟩
     ·have eu0 := fu0 (dep_of 0 hru rfl (by kernel_rfl))
      have eu2 := fu2 (dep_of 2 hru rfl (by kernel_rfl))
      replace eu0 := eu0.symm
      subst eu0
      replace eu2 := eu2.symm
      subst eu2
      refine wpOp_shut (by rfl) (fun K hK => ?_)
      simp only [Act.put,xL4,xL5,xL6]
      go_simp
      exact hK.out _ _ ⟨(.slice (some ⟨b,off,none⟩) n ct),vu1,(.int .i64 (lr : Int)),(.pointer (some ⟨b,off + lr * 14,none⟩)),vu4,vu5,vu6,vu7,vu8,vu9,vu10,vu11,vu12,vu13,by simp only [Act.put,xL4,xL5,xL6],hbu,fun _ => rfl,fun h => fu1 (mark_of (by decide) h),fun _ => rfl,fun _ => rfl,fun h => fu4 (mark_of (by decide) h),fun h => fu5 (mark_of (by decide) h),fun h => fu6 (mark_of (by decide) h),fun h => fu7 (mark_of (by decide) h),fun h => fu8 (mark_of (by decide) h),fun h => fu9 (mark_of (by decide) h),fun h => fu10 (mark_of (by decide) h),fun h => fu11 (mark_of (by decide) h),fun h => fu12 (mark_of (by decide) h),fun h => fu13 (mark_of (by decide) h)⟩
     ·have eu3 := fu3 (dep_of 3 hru rfl (by kernel_rfl))
      replace eu3 := eu3.symm
      subst eu3
      refine wpOp_shut (by rfl) (fun K hK => ?_)
      simp only [Act.put,xL4,xL5,xL6]
      go_simp
      exact hK.out _ _ ⟨vu0,vu1,vu2,(.pointer (some ⟨b,off + lr * 14,none⟩)),(.pointer (some ⟨b,off + lr * 14 + 11,none⟩)),vu5,vu6,vu7,vu8,vu9,vu10,vu11,vu12,vu13,by simp only [Act.put,xL4,xL5,xL6],hbu,fun h => fu0 (mark_of (by decide) h),fun h => fu1 (mark_of (by decide) h),fun h => fu2 (mark_of (by decide) h),fun _ => rfl,fun _ => rfl,fun h => fu5 (mark_of (by decide) h),fun h => fu6 (mark_of (by decide) h),fun h => fu7 (mark_of (by decide) h),fun h => fu8 (mark_of (by decide) h),fun h => fu9 (mark_of (by decide) h),fun h => fu10 (mark_of (by decide) h),fun h => fu11 (mark_of (by decide) h),fun h => fu12 (mark_of (by decide) h),fun h => fu13 (mark_of (by decide) h)⟩
     ·have eu4 := fu4 (dep_of 4 hru rfl (by kernel_rfl))
      replace eu4 := eu4.symm
      subst eu4
      refine wpOp_shut (by rfl) (fun K hK => ?_)
      simp only [Act.put,xL4,xL5,xL6]
      obtain ⟨XL_0,XL_1,XL_2⟩ := XL.below hbu
      go_simp
      exact hK.out _ _ ⟨vu0,vu1,vu2,vu3,(.pointer (some ⟨b,off + lr * 14 + 11,none⟩)),(.agg #[.bool p3L,.slice a3L n3L c3L,.slice b3L m3L d3L]),vu6,vu7,vu8,vu9,vu10,vu11,vu12,vu13,by simp only [Act.put,xL4,xL5,xL6],hbu,fun h => fu0 (mark_of (by decide) h),fun h => fu1 (mark_of (by decide) h),fun h => fu2 (mark_of (by decide) h),fun h => fu3 (mark_of (by decide) h),fun _ => rfl,fun _ => rfl,fun h => fu6 (mark_of (by decide) h),fun h => fu7 (mark_of (by decide) h),fun h => fu8 (mark_of (by decide) h),fun h => fu9 (mark_of (by decide) h),fun h => fu10 (mark_of (by decide) h),fun h => fu11 (mark_of (by decide) h),fun h => fu12 (mark_of (by decide) h),fun h => fu13 (mark_of (by decide) h)⟩
     ·refine wpOp_shut (by rfl) (fun K hK => ?_)
      simp only [Act.put,xL4,xL5,xL6]
      go_simp
      exact hK.out _ _ ⟨vu0,vu1,vu2,vu3,vu4,vu5,(.slice (some ⟨b,off,none⟩) n ct),vu7,vu8,vu9,vu10,vu11,vu12,vu13,by simp only [Act.put,xL4,xL5,xL6],hbu,fun h => fu0 (mark_of (by decide) h),fun h => fu1 (mark_of (by decide) h),fun h => fu2 (mark_of (by decide) h),fun h => fu3 (mark_of (by decide) h),fun h => fu4 (mark_of (by decide) h),fun h => fu5 (mark_of (by decide) h),fun _ => rfl,fun h => fu7 (mark_of (by decide) h),fun h => fu8 (mark_of (by decide) h),fun h => fu9 (mark_of (by decide) h),fun h => fu10 (mark_of (by decide) h),fun h => fu11 (mark_of (by decide) h),fun h => fu12 (mark_of (by decide) h),fun h => fu13 (mark_of (by decide) h)⟩
     ·refine wpOp_shut (by rfl) (fun K hK => ?_)
      simp only [Act.put,xL4,xL5,xL6]
      go_simp
      exact hK.out _ _ ⟨vu0,vu1,vu2,vu3,vu4,vu5,vu6,(.pointer (some ⟨R0,5,none⟩)),vu8,vu9,vu10,vu11,vu12,vu13,by simp only [Act.put,xL4,xL5,xL6],hbu,fun h => fu0 (mark_of (by decide) h),fun h => fu1 (mark_of (by decide) h),fun h => fu2 (mark_of (by decide) h),fun h => fu3 (mark_of (by decide) h),fun h => fu4 (mark_of (by decide) h),fun h => fu5 (mark_of (by decide) h),fun h => fu6 (mark_of (by decide) h),fun _ => rfl,fun h => fu8 (mark_of (by decide) h),fun h => fu9 (mark_of (by decide) h),fun h => fu10 (mark_of (by decide) h),fun h => fu11 (mark_of (by decide) h),fun h => fu12 (mark_of (by decide) h),fun h => fu13 (mark_of (by decide) h)⟩
     ·have eu7 := fu7 (dep_of 7 hru rfl (by kernel_rfl))
      replace eu7 := eu7.symm
      subst eu7
      refine wpOp_shut (by rfl) (fun K hK => ?_)
      simp only [Act.put,xL4,xL5,xL6]
      obtain ⟨y0,y1,y2,y3,y4,y5,y6,y7,y8,y9,y10,y11,y12,y13⟩ := VN.below hbu
      go_simp
      exact hK.out _ _ ⟨vu0,vu1,vu2,vu3,vu4,vu5,vu6,(.pointer (some ⟨R0,5,none⟩)),(.int .i64 (lr : Int)),vu9,vu10,vu11,vu12,vu13,by simp only [Act.put,xL4,xL5,xL6],hbu,fun h => fu0 (mark_of (by decide) h),fun h => fu1 (mark_of (by decide) h),fun h => fu2 (mark_of (by decide) h),fun h => fu3 (mark_of (by decide) h),fun h => fu4 (mark_of (by decide) h),fun h => fu5 (mark_of (by decide) h),fun h => fu6 (mark_of (by decide) h),fun _ => rfl,fun _ => rfl,fun h => fu9 (mark_of (by decide) h),fun h => fu10 (mark_of (by decide) h),fun h => fu11 (mark_of (by decide) h),fun h => fu12 (mark_of (by decide) h),fun h => fu13 (mark_of (by decide) h)⟩
     ·refine wpOp_shut (by rfl) (fun K hK => ?_)
      simp only [Act.put,xL4,xL5,xL6]
      go_simp
      exact hK.out _ _ ⟨vu0,vu1,vu2,vu3,vu4,vu5,vu6,vu7,vu8,(.slice ar nr cr),vu10,vu11,vu12,vu13,by simp only [Act.put,xL4,xL5,xL6],hbu,fun h => fu0 (mark_of (by decide) h),fun h => fu1 (mark_of (by decide) h),fun h => fu2 (mark_of (by decide) h),fun h => fu3 (mark_of (by decide) h),fun h => fu4 (mark_of (by decide) h),fun h => fu5 (mark_of (by decide) h),fun h => fu6 (mark_of (by decide) h),fun h => fu7 (mark_of (by decide) h),fun h => fu8 (mark_of (by decide) h),fun _ => rfl,fun h => fu10 (mark_of (by decide) h),fun h => fu11 (mark_of (by decide) h),fun h => fu12 (mark_of (by decide) h),fun h => fu13 (mark_of (by decide) h)⟩
     ·refine wpOp_shut (by rfl) (fun K hK => ?_)
      simp only [Act.put,xL4,xL5,xL6]
      go_simp
      exact hK.out _ _ ⟨vu0,vu1,vu2,vu3,vu4,vu5,vu6,vu7,vu8,vu9,(.int .u64 (s : Int)),vu11,vu12,vu13,by simp only [Act.put,xL4,xL5,xL6],hbu,fun h => fu0 (mark_of (by decide) h),fun h => fu1 (mark_of (by decide) h),fun h => fu2 (mark_of (by decide) h),fun h => fu3 (mark_of (by decide) h),fun h => fu4 (mark_of (by decide) h),fun h => fu5 (mark_of (by decide) h),fun h => fu6 (mark_of (by decide) h),fun h => fu7 (mark_of (by decide) h),fun h => fu8 (mark_of (by decide) h),fun h => fu9 (mark_of (by decide) h),fun _ => rfl,fun h => fu11 (mark_of (by decide) h),fun h => fu12 (mark_of (by decide) h),fun h => fu13 (mark_of (by decide) h)⟩
     ·have eu6 := fu6 (dep_of 6 hru rfl (by kernel_rfl))
      have eu8 := fu8 (dep_of 8 hru rfl (by kernel_rfl))
      have eu9 := fu9 (dep_of 9 hru rfl (by kernel_rfl))
      have eu10 := fu10 (dep_of 10 hru rfl (by kernel_rfl))
      replace eu6 := eu6.symm
      subst eu6
      replace eu8 := eu8.symm
      subst eu8
      replace eu9 := eu9.symm
      subst eu9
      replace eu10 := eu10.symm
      subst eu10
      refine wpOp_shut (by rfl) (fun K hK => ?_)
      simp only [Act.put,xL4,xL5,xL6]
      have ht := ht.below hbu
      have hr := hr.below hbu
      have hT := hT.below hbu
      go_simp
      refine (IH1.out _ ht hr hT).mono ?_
      rintro eu wx ⟨v11,rfl,h11,bu⟩
      go_wp2_with fail
      have hbu2 := hbu.trans (bu.mono hbu.size)
      exact hK.out _ _ ⟨vu0,vu1,vu2,vu3,vu4,vu5,(.slice (some ⟨b,off,none⟩) n ct),vu7,(.int .i64 (lr : Int)),(.slice ar nr cr),(.int .u64 (s : Int)),_,vu12,vu13,by simp only [Act.put,xL4,xL5,xL6],hbu2,fun h => fu0 (mark_of (by decide) h),fun h => fu1 (mark_of (by decide) h),fun h => fu2 (mark_of (by decide) h),fun h => fu3 (mark_of (by decide) h),fun h => fu4 (mark_of (by decide) h),fun h => fu5 (mark_of (by decide) h),fun _ => rfl,fun h => fu7 (mark_of (by decide) h),fun _ => rfl,fun _ => rfl,fun _ => rfl,fun _ => h11,fun h => (fu12 (mark_of (by decide) h)).below bu,fun h => (fu13 (mark_of (by decide) h)).below bu⟩
     ·have eu5 := fu5 (dep_of 5 hru rfl (by kernel_rfl))
      replace eu5 := eu5.symm
      subst eu5
      have h11 := fu11 (dep_of 11 hru rfl (by kernel_rfl))
      refine wpOp_shut (by rfl) (fun K hK => ?_)
      simp only [Act.put,xL4,xL5,xL6]
      have hT := hT.below hbu
      have r3L := r3L.below hbu
      go_simp
      refine (qmul_at _ _ (t lr).cov (say t n r s lr) M _ (r3L.le hLM) h11 (by omega) (by omega) hT).mono ?_
      rintro eu wx ⟨v12,rfl,h12,bu⟩
      go_wp2_with fail
      have hbu2 := hbu.trans (bu.mono hbu.size)
      exact hK.out _ _ ⟨vu0,vu1,vu2,vu3,vu4,(.agg #[.bool p3L,.slice a3L n3L c3L,.slice b3L m3L d3L]),vu6,vu7,vu8,vu9,vu10,vu11,_,vu13,by simp only [Act.put,xL4,xL5,xL6],hbu2,fun h => fu0 (mark_of (by decide) h),fun h => fu1 (mark_of (by decide) h),fun h => fu2 (mark_of (by decide) h),fun h => fu3 (mark_of (by decide) h),fun h => fu4 (mark_of (by decide) h),fun _ => rfl,fun h => fu6 (mark_of (by decide) h),fun h => fu7 (mark_of (by decide) h),fun h => fu8 (mark_of (by decide) h),fun h => fu9 (mark_of (by decide) h),fun h => fu10 (mark_of (by decide) h),fun h => (fu11 (mark_of (by decide) h)).below bu,fun _ => h12,fun h => (fu13 (mark_of (by decide) h)).below bu⟩
     ·refine wpOp_shut (by rfl) (fun K hK => ?_)
      simp only [Act.put,xL4,xL5,xL6]
      go_simp
      obtain ⟨wx,hWx,hSx,bu,VXu⟩ := V3.lay wn 34 (.bool false) (.slice none 0 0) (.slice none 0 0)
      rw [← hWx]
      have hbu2 := hbu.trans (bu.mono hbu.size)
      exact hK.out _ _ ⟨vu0,vu1,vu2,vu3,vu4,vu5,vu6,vu7,vu8,vu9,vu10,vu11,vu12,_,by simp only [Act.put,xL4,xL5,xL6],hbu2,fun h => fu0 (mark_of (by decide) h),fun h => fu1 (mark_of (by decide) h),fun h => fu2 (mark_of (by decide) h),fun h => fu3 (mark_of (by decide) h),fun h => fu4 (mark_of (by decide) h),fun h => fu5 (mark_of (by decide) h),fun h => fu6 (mark_of (by decide) h),fun h => fu7 (mark_of (by decide) h),fun h => fu8 (mark_of (by decide) h),fun h => fu9 (mark_of (by decide) h),fun h => fu10 (mark_of (by decide) h),fun h => (fu11 (mark_of (by decide) h)).below bu,fun h => (fu12 (mark_of (by decide) h)).below bu,fun _ => ⟨_,rfl,hbu.size,VXu⟩⟩
    rintro au Wu1 ⟨vu0,vu1,vu2,vu3,vu4,vu5,vu6,vu7,vu8,vu9,vu10,vu11,vu12,vu13,rfl,hbu,fu0,fu1,fu2,fu3,fu4,fu5,fu6,fu7,fu8,fu9,fu10,fu11,fu12,fu13⟩
    have eu0 := (fu0 rfl).symm
    subst eu0
    have eu1 := (fu1 rfl).symm
    subst eu1
    have eu2 := (fu2 rfl).symm
    subst eu2
    have eu3 := (fu3 rfl).symm
    subst eu3
    have eu4 := (fu4 rfl).symm
    subst eu4
    have eu5 := (fu5 rfl).symm
    subst eu5
    have eu6 := (fu6 rfl).symm
    subst eu6
    have eu7 := (fu7 rfl).symm
    subst eu7
    have eu8 := (fu8 rfl).symm
    subst eu8
    have eu9 := (fu9 rfl).symm
    subst eu9
    have eu10 := (fu10 rfl).symm
    subst eu10
    have h11 := fu11 rfl
    have h12 := fu12 rfl
    obtain ⟨RVA,rfl,hRVA,VA⟩ := fu13 rfl
    clear fu0 fu1 fu2 fu3 fu4 fu5 fu6 fu7 fu8 fu9 fu10 fu11 fu12 fu13
    have hlVR : w.heap.size < W1.heap.size := VR.lt
    have hlXL : b < W1.heap.size := XL.lt
    obtain ⟨pL8,aL8,nL8,cL8,yL8,mL8,dL8,rfl⟩ := h12.open
    simp only [Act.put,xL4,xL5,xL6]
    refine xR [14] (h := ?_)
    refine AllReadyH.cons (by rfl) (fun K hK => ?_) AllReadyH.nil
    have hKp := VA.keepJ (.bool pL8) (.slice aL8 nL8 cL8) (.slice yL8 mL8 dL8)
    have VA_n := VA.same (.bool pL8) (.slice aL8 nL8 cL8) (.slice yL8 mL8 dL8)
    have h11_n := h11.keep hKp
    have h12_n := h12.keep hKp
    have hbu_n := below_store3 (R := RVA) hbu (by omega) (.bool pL8) (.slice aL8 nL8 cL8) (.slice yL8 mL8 dL8)
    clear hKp
    obtain ⟨VA_0,VA_1,VA_2,VA_3,VA_4,VA_5⟩ := id VA
    go_simp
    clear VA_0 VA_1 VA_2 VA_3 VA_4 VA_5
    clear hbu h11 h12 VA
    generalize ((Wu1.setCell ⟨RVA,0,none⟩ (.bool pL8)).setCell ⟨RVA,1,none⟩ (.slice aL8 nL8 cL8)).setCell ⟨RVA,2,none⟩ (.slice yL8 mL8 dL8) = W2 at *
    have hbu := hbu_n
    have h11 := h11_n
    have h12 := h12_n
    have VA := VA_n
    clear hbu_n h11_n h12_n VA_n
    refine hK.out _ _ trivial (fun _ => ?_)
    clear hK K
    simp only [Act.put,xL4,xL5,xL6]
    replace ht := ht.below hbu
    replace hr := hr.below hbu
    replace hT := hT.below hbu
    replace r1 := r1.below hbu
    replace r2 := r2.below hbu
    replace r3 := r3.below hbu
    replace VN := VN.below hbu
    replace r3L := r3L.below hbu
    replace VR := VR.below hbu
    replace XL := XL.below hbu
    replace BB := BB.trans (hbu.mono BB.size)
    clear hbu
    refine wpAnyH_done (by kernel_rfl) ?_ _
    have hA := h12
    clear h12 h11
    obtain ⟨V_0,V_1,V_2,V_3,V_4,V_5,V_6,V_7,V_8,V_9,V_10,V_11,V_12,V_13⟩ := id VN
    go_wp2
    clear V_0 V_1 V_2 V_3 V_4 V_5 V_6 V_7 V_8 V_9 V_10 V_11 V_12 V_13
    obtain ⟨bR,oR,ccR,p1R,a1R,n1R,c1R,b1R,m1R,d1R,p2R,a2R,n2R,c2R,b2R,m2R,d2R,p3R,a3R,n3R,c3R,b3R,m3R,d3R,hvvR,hccR,hc6R,NNR,r1R,r2R,r3R,i1R,i2R,i3R⟩ := ht.at k4
    cases hvvR
    have XR : E3 W2 b (off + rr * 14 + 11) _ _ _ := ⟨NNR.c11,NNR.c12,NNR.c13⟩
    clear NNR r1R r2R i1R i2R i3R
    refine wp_region_until 14 #[true,true,true,true,true,true,true,true,true,true,true,true,true,true,false] (fun aF lsd a' w' => ∃ vu0 vu1 vu2 vu3 vu4 vu5 vu6 vu7 vu8 vu9 vu10 vu11 vu12 vu13 : Value,a' = (((((((((((((aF.put (some 58) vu0).put (some 59) vu1).put (some 60) vu2).put (some 61) vu3).put (some 62) vu4).put (some 63) vu5).put (some 64) vu6).put (some 65) vu7).put (some 66) vu8).put (some 67) vu9).put (some 68) vu10).put (some 69) vu11).put (some 70) vu12).put (some 11) vu13 ∧ Below W2.heap.size W2 w' ∧ (lsd.getD 0 false = true → vu0 = .slice (some ⟨b,off,none⟩) n ct) ∧ (lsd.getD 1 false = true → vu1 = .pointer (some ⟨R0,6,none⟩)) ∧ (lsd.getD 2 false = true → vu2 = .int .i64 (rr : Int)) ∧ (lsd.getD 3 false = true → vu3 = .pointer (some ⟨b,off + rr * 14,none⟩)) ∧ (lsd.getD 4 false = true → vu4 = .pointer (some ⟨b,off + rr * 14 + 11,none⟩)) ∧ (lsd.getD 5 false = true → vu5 = .agg #[.bool p3R,.slice a3R n3R c3R,.slice b3R m3R d3R]) ∧ (lsd.getD 6 false = true → vu6 = .slice (some ⟨b,off,none⟩) n ct) ∧ (lsd.getD 7 false = true → vu7 = .pointer (some ⟨R0,6,none⟩)) ∧ (lsd.getD 8 false = true → vu8 = .int .i64 (rr : Int)) ∧ (lsd.getD 9 false = true → vu9 = .slice ar nr cr) ∧ (lsd.getD 10 false = true → vu10 = .int .u64 (s : Int)) ∧ (lsd.getD 11 false = true → RatAt w' vu11 (say t n r s rr) M) ∧ (lsd.getD 12 false = true → RepQ w' vu12 ((t rr).cov * say t n r s rr)) ∧ (lsd.getD 13 false = true → New3 W2.heap.size w' vu13 (.bool false) (.slice none 0 0) (.slice none 0 0))) (by kernel_rfl) (by decide) (by kernel_rfl) (by rfl) (by kernel_rfl) ?_ ?_ ?_
    ·exact ⟨_,_,_,_,_,_,_,_,_,_,_,_,_,_,by simp only [Act.put,xL4,xL5,xL6]; rfl,(Below.refl _ _).drew,fun h => absurd h (fun h => mark_none h),fun h => absurd h (fun h => mark_none h),fun h => absurd h (fun h => mark_none h),fun h => absurd h (fun h => mark_none h),fun h => absurd h (fun h => mark_none h),fun h => absurd h (fun h => mark_none h),fun h => absurd h (fun h => mark_none h),fun h => absurd h (fun h => mark_none h),fun h => absurd h (fun h => mark_none h),fun h => absurd h (fun h => mark_none h),fun h => absurd h (fun h => mark_none h),fun h => absurd h (fun h => mark_none h),fun h => absurd h (fun h => mark_none h),fun h => absurd h (fun h => mark_none h)⟩
    ·rintro lsd au wn iu hszu ⟨vu0,vu1,vu2,vu3,vu4,vu5,vu6,vu7,vu8,vu9,vu10,vu11,vu12,vu13,rfl,hbu,fu0,fu1,fu2,fu3,fu4,fu5,fu6,fu7,fu8,fu9,fu10,fu11,fu12,fu13⟩ himu hru
     rcases (show iu = 0 ∨ iu = 1 ∨ iu = 2 ∨ iu = 3 ∨ iu = 4 ∨ iu = 5 ∨ iu = 6 ∨ iu = 7 ∨ iu = 8 ∨ iu = 9 ∨ iu = 10 ∨ iu = 11 ∨ iu = 12 ∨ iu = 13 by omega) with rfl | rfl | rfl | rfl | rfl | rfl | rfl | rfl | rfl | rfl | rfl | rfl | rfl | rfl
     ·refine wpOp_shut (by rfl) (fun K hK => ?_)
      simp only [Act.put,xL4,xL5,xL6]
      go_simp
      exact hK.out _ _ ⟨(.slice (some ⟨b,off,none⟩) n ct),vu1,vu2,vu3,vu4,vu5,vu6,vu7,vu8,vu9,vu10,vu11,vu12,vu13,by simp only [Act.put,xL4,xL5,xL6],hbu,fun _ => rfl,fun h => fu1 (mark_of (by decide) h),fun h => fu2 (mark_of (by decide) h),fun h => fu3 (mark_of (by decide) h),fun h => fu4 (mark_of (by decide) h),fun h => fu5 (mark_of (by decide) h),fun h => fu6 (mark_of (by decide) h),fun h => fu7 (mark_of (by decide) h),fun h => fu8 (mark_of (by decide) h),fun h => fu9 (mark_of (by decide) h),fun h => fu10 (mark_of (by decide) h),fun h => fu11 (mark_of (by decide) h),fun h => fu12 (mark_of (by decide) h),fun h => fu13 (mark_of (by decide) h)⟩
     ·refine wpOp_shut (by rfl) (fun K hK => ?_)
      simp only [Act.put,xL4,xL5,xL6]
      go_simp
      exact hK.out _ _ ⟨vu0,(.pointer (some ⟨R0,6,none⟩)),vu2,vu3,vu4,vu5,vu6,vu7,vu8,vu9,vu10,vu11,vu12,vu13,by simp only [Act.put,xL4,xL5,xL6],hbu,fun h => fu0 (mark_of (by decide) h),fun _ => rfl,fun h => fu2 (mark_of (by decide) h),fun h => fu3 (mark_of (by decide) h),fun h => fu4 (mark_of (by decide) h),fun h => fu5 (mark_of (by decide) h),fun h => fu6 (mark_of (by decide) h),fun h => fu7 (mark_of (by decide) h),fun h => fu8 (mark_of (by decide) h),fun h => fu9 (mark_of (by decide) h),fun h => fu10 (mark_of (by decide) h),fun h => fu11 (mark_of (by decide) h),fun h => fu12 (mark_of (by decide) h),fun h => fu13 (mark_of (by decide) h)⟩
     ·have eu1 := fu1 (dep_of 1 hru rfl (by kernel_rfl))
      replace eu1 := eu1.symm
      subst eu1
      refine wpOp_shut (by rfl) (fun K hK => ?_)
      simp only [Act.put,xL4,xL5,xL6]
      obtain ⟨y0,y1,y2,y3,y4,y5,y6,y7,y8,y9,y10,y11,y12,y13⟩ := VN.below hbu
      go_simp
      exact hK.out _ _ ⟨vu0,(.pointer (some ⟨R0,6,none⟩)),(.int .i64 (rr : Int)),vu3,vu4,vu5,vu6,vu7,vu8,vu9,vu10,vu11,vu12,vu13,by simp only [Act.put,xL4,xL5,xL6],hbu,fun h => fu0 (mark_of (by decide) h),fun _ => rfl,fun _ => rfl,fun h => fu3 (mark_of (by decide) h),fun h => fu4 (mark_of (by decide) h),fun h => fu5 (mark_of (by decide) h),fun h => fu6 (mark_of (by decide) h),fun h => fu7 (mark_of (by decide) h),fun h => fu8 (mark_of (by decide) h),fun h => fu9 (mark_of (by decide) h),fun h => fu10 (mark_of (by decide) h),fun h => fu11 (mark_of (by decide) h),fun h => fu12 (mark_of (by decide) h),fun h => fu13 (mark_of (by decide) h)⟩
     ·have eu0 := fu0 (dep_of 0 hru rfl (by kernel_rfl))
      have eu2 := fu2 (dep_of 2 hru rfl (by kernel_rfl))
      replace eu0 := eu0.symm
      subst eu0
      replace eu2 := eu2.symm
      subst eu2
      refine wpOp_shut (by rfl) (fun K hK => ?_)
      simp only [Act.put,xL4,xL5,xL6]
      go_simp
      exact hK.out _ _ ⟨(.slice (some ⟨b,off,none⟩) n ct),vu1,(.int .i64 (rr : Int)),(.pointer (some ⟨b,off + rr * 14,none⟩)),vu4,vu5,vu6,vu7,vu8,vu9,vu10,vu11,vu12,vu13,by simp only [Act.put,xL4,xL5,xL6],hbu,fun _ => rfl,fun h => fu1 (mark_of (by decide) h),fun _ => rfl,fun _ => rfl,fun h => fu4 (mark_of (by decide) h),fun h => fu5 (mark_of (by decide) h),fun h => fu6 (mark_of (by decide) h),fun h => fu7 (mark_of (by decide) h),fun h => fu8 (mark_of (by decide) h),fun h => fu9 (mark_of (by decide) h),fun h => fu10 (mark_of (by decide) h),fun h => fu11 (mark_of (by decide) h),fun h => fu12 (mark_of (by decide) h),fun h => fu13 (mark_of (by decide) h)⟩
     ·have eu3 := fu3 (dep_of 3 hru rfl (by kernel_rfl))
      replace eu3 := eu3.symm
      subst eu3
      refine wpOp_shut (by rfl) (fun K hK => ?_)
      simp only [Act.put,xL4,xL5,xL6]
      go_simp
      exact hK.out _ _ ⟨vu0,vu1,vu2,(.pointer (some ⟨b,off + rr * 14,none⟩)),(.pointer (some ⟨b,off + rr * 14 + 11,none⟩)),vu5,vu6,vu7,vu8,vu9,vu10,vu11,vu12,vu13,by simp only [Act.put,xL4,xL5,xL6],hbu,fun h => fu0 (mark_of (by decide) h),fun h => fu1 (mark_of (by decide) h),fun h => fu2 (mark_of (by decide) h),fun _ => rfl,fun _ => rfl,fun h => fu5 (mark_of (by decide) h),fun h => fu6 (mark_of (by decide) h),fun h => fu7 (mark_of (by decide) h),fun h => fu8 (mark_of (by decide) h),fun h => fu9 (mark_of (by decide) h),fun h => fu10 (mark_of (by decide) h),fun h => fu11 (mark_of (by decide) h),fun h => fu12 (mark_of (by decide) h),fun h => fu13 (mark_of (by decide) h)⟩
     ·have eu4 := fu4 (dep_of 4 hru rfl (by kernel_rfl))
      replace eu4 := eu4.symm
      subst eu4
      refine wpOp_shut (by rfl) (fun K hK => ?_)
      simp only [Act.put,xL4,xL5,xL6]
      obtain ⟨XR_0,XR_1,XR_2⟩ := XR.below hbu
      go_simp
      exact hK.out _ _ ⟨vu0,vu1,vu2,vu3,(.pointer (some ⟨b,off + rr * 14 + 11,none⟩)),(.agg #[.bool p3R,.slice a3R n3R c3R,.slice b3R m3R d3R]),vu6,vu7,vu8,vu9,vu10,vu11,vu12,vu13,by simp only [Act.put,xL4,xL5,xL6],hbu,fun h => fu0 (mark_of (by decide) h),fun h => fu1 (mark_of (by decide) h),fun h => fu2 (mark_of (by decide) h),fun h => fu3 (mark_of (by decide) h),fun _ => rfl,fun _ => rfl,fun h => fu6 (mark_of (by decide) h),fun h => fu7 (mark_of (by decide) h),fun h => fu8 (mark_of (by decide) h),fun h => fu9 (mark_of (by decide) h),fun h => fu10 (mark_of (by decide) h),fun h => fu11 (mark_of (by decide) h),fun h => fu12 (mark_of (by decide) h),fun h => fu13 (mark_of (by decide) h)⟩
     ·refine wpOp_shut (by rfl) (fun K hK => ?_)
      simp only [Act.put,xL4,xL5,xL6]
      go_simp
      exact hK.out _ _ ⟨vu0,vu1,vu2,vu3,vu4,vu5,(.slice (some ⟨b,off,none⟩) n ct),vu7,vu8,vu9,vu10,vu11,vu12,vu13,by simp only [Act.put,xL4,xL5,xL6],hbu,fun h => fu0 (mark_of (by decide) h),fun h => fu1 (mark_of (by decide) h),fun h => fu2 (mark_of (by decide) h),fun h => fu3 (mark_of (by decide) h),fun h => fu4 (mark_of (by decide) h),fun h => fu5 (mark_of (by decide) h),fun _ => rfl,fun h => fu7 (mark_of (by decide) h),fun h => fu8 (mark_of (by decide) h),fun h => fu9 (mark_of (by decide) h),fun h => fu10 (mark_of (by decide) h),fun h => fu11 (mark_of (by decide) h),fun h => fu12 (mark_of (by decide) h),fun h => fu13 (mark_of (by decide) h)⟩
     ·refine wpOp_shut (by rfl) (fun K hK => ?_)
      simp only [Act.put,xL4,xL5,xL6]
      go_simp
      exact hK.out _ _ ⟨vu0,vu1,vu2,vu3,vu4,vu5,vu6,(.pointer (some ⟨R0,6,none⟩)),vu8,vu9,vu10,vu11,vu12,vu13,by simp only [Act.put,xL4,xL5,xL6],hbu,fun h => fu0 (mark_of (by decide) h),fun h => fu1 (mark_of (by decide) h),fun h => fu2 (mark_of (by decide) h),fun h => fu3 (mark_of (by decide) h),fun h => fu4 (mark_of (by decide) h),fun h => fu5 (mark_of (by decide) h),fun h => fu6 (mark_of (by decide) h),fun _ => rfl,fun h => fu8 (mark_of (by decide) h),fun h => fu9 (mark_of (by decide) h),fun h => fu10 (mark_of (by decide) h),fun h => fu11 (mark_of (by decide) h),fun h => fu12 (mark_of (by decide) h),fun h => fu13 (mark_of (by decide) h)⟩
     ·have eu7 := fu7 (dep_of 7 hru rfl (by kernel_rfl))
      replace eu7 := eu7.symm
      subst eu7
      refine wpOp_shut (by rfl) (fun K hK => ?_)
      simp only [Act.put,xL4,xL5,xL6]
      obtain ⟨y0,y1,y2,y3,y4,y5,y6,y7,y8,y9,y10,y11,y12,y13⟩ := VN.below hbu
      go_simp
      exact hK.out _ _ ⟨vu0,vu1,vu2,vu3,vu4,vu5,vu6,(.pointer (some ⟨R0,6,none⟩)),(.int .i64 (rr : Int)),vu9,vu10,vu11,vu12,vu13,by simp only [Act.put,xL4,xL5,xL6],hbu,fun h => fu0 (mark_of (by decide) h),fun h => fu1 (mark_of (by decide) h),fun h => fu2 (mark_of (by decide) h),fun h => fu3 (mark_of (by decide) h),fun h => fu4 (mark_of (by decide) h),fun h => fu5 (mark_of (by decide) h),fun h => fu6 (mark_of (by decide) h),fun _ => rfl,fun _ => rfl,fun h => fu9 (mark_of (by decide) h),fun h => fu10 (mark_of (by decide) h),fun h => fu11 (mark_of (by decide) h),fun h => fu12 (mark_of (by decide) h),fun h => fu13 (mark_of (by decide) h)⟩
     ·refine wpOp_shut (by rfl) (fun K hK => ?_)
      simp only [Act.put,xL4,xL5,xL6]
      go_simp
      exact hK.out _ _ ⟨vu0,vu1,vu2,vu3,vu4,vu5,vu6,vu7,vu8,(.slice ar nr cr),vu10,vu11,vu12,vu13,by simp only [Act.put,xL4,xL5,xL6],hbu,fun h => fu0 (mark_of (by decide) h),fun h => fu1 (mark_of (by decide) h),fun h => fu2 (mark_of (by decide) h),fun h => fu3 (mark_of (by decide) h),fun h => fu4 (mark_of (by decide) h),fun h => fu5 (mark_of (by decide) h),fun h => fu6 (mark_of (by decide) h),fun h => fu7 (mark_of (by decide) h),fun h => fu8 (mark_of (by decide) h),fun _ => rfl,fun h => fu10 (mark_of (by decide) h),fun h => fu11 (mark_of (by decide) h),fun h => fu12 (mark_of (by decide) h),fun h => fu13 (mark_of (by decide) h)⟩
     ·refine wpOp_shut (by rfl) (fun K hK => ?_)
      simp only [Act.put,xL4,xL5,xL6]
      go_simp
      exact hK.out _ _ ⟨vu0,vu1,vu2,vu3,vu4,vu5,vu6,vu7,vu8,vu9,(.int .u64 (s : Int)),vu11,vu12,vu13,by simp only [Act.put,xL4,xL5,xL6],hbu,fun h => fu0 (mark_of (by decide) h),fun h => fu1 (mark_of (by decide) h),fun h => fu2 (mark_of (by decide) h),fun h => fu3 (mark_of (by decide) h),fun h => fu4 (mark_of (by decide) h),fun h => fu5 (mark_of (by decide) h),fun h => fu6 (mark_of (by decide) h),fun h => fu7 (mark_of (by decide) h),fun h => fu8 (mark_of (by decide) h),fun h => fu9 (mark_of (by decide) h),fun _ => rfl,fun h => fu11 (mark_of (by decide) h),fun h => fu12 (mark_of (by decide) h),fun h => fu13 (mark_of (by decide) h)⟩
     ·have eu6 := fu6 (dep_of 6 hru rfl (by kernel_rfl))
      have eu8 := fu8 (dep_of 8 hru rfl (by kernel_rfl))
      have eu9 := fu9 (dep_of 9 hru rfl (by kernel_rfl))
      have eu10 := fu10 (dep_of 10 hru rfl (by kernel_rfl))
      replace eu6 := eu6.symm
      subst eu6
      replace eu8 := eu8.symm
      subst eu8
      replace eu9 := eu9.symm
      subst eu9
      replace eu10 := eu10.symm
      subst eu10
      refine wpOp_shut (by rfl) (fun K hK => ?_)
      simp only [Act.put,xL4,xL5,xL6]
      have ht := ht.below hbu
      have hr := hr.below hbu
      have hT := hT.below hbu
      go_simp
      refine (IH2.out _ ht hr hT).mono ?_
      rintro eu wx ⟨v11,rfl,h11,bu⟩
      go_wp2_with fail
      have hbu2 := hbu.trans (bu.mono hbu.size)
      exact hK.out _ _ ⟨vu0,vu1,vu2,vu3,vu4,vu5,(.slice (some ⟨b,off,none⟩) n ct),vu7,(.int .i64 (rr : Int)),(.slice ar nr cr),(.int .u64 (s : Int)),_,vu12,vu13,by simp only [Act.put,xL4,xL5,xL6],hbu2,fun h => fu0 (mark_of (by decide) h),fun h => fu1 (mark_of (by decide) h),fun h => fu2 (mark_of (by decide) h),fun h => fu3 (mark_of (by decide) h),fun h => fu4 (mark_of (by decide) h),fun h => fu5 (mark_of (by decide) h),fun _ => rfl,fun h => fu7 (mark_of (by decide) h),fun _ => rfl,fun _ => rfl,fun _ => rfl,fun _ => h11,fun h => (fu12 (mark_of (by decide) h)).below bu,fun h => (fu13 (mark_of (by decide) h)).below bu⟩
     ·have eu5 := fu5 (dep_of 5 hru rfl (by kernel_rfl))
      replace eu5 := eu5.symm
      subst eu5
      have h11 := fu11 (dep_of 11 hru rfl (by kernel_rfl))
      refine wpOp_shut (by rfl) (fun K hK => ?_)
      simp only [Act.put,xL4,xL5,xL6]
      have hT := hT.below hbu
      have r3R := r3R.below hbu
      go_simp
      refine (qmul_at _ _ (t rr).cov (say t n r s rr) M _ (r3R.le hLM) h11 (by omega) (by omega) hT).mono ?_
      rintro eu wx ⟨v12,rfl,h12,bu⟩
      go_wp2_with fail
      have hbu2 := hbu.trans (bu.mono hbu.size)
      exact hK.out _ _ ⟨vu0,vu1,vu2,vu3,vu4,(.agg #[.bool p3R,.slice a3R n3R c3R,.slice b3R m3R d3R]),vu6,vu7,vu8,vu9,vu10,vu11,_,vu13,by simp only [Act.put,xL4,xL5,xL6],hbu2,fun h => fu0 (mark_of (by decide) h),fun h => fu1 (mark_of (by decide) h),fun h => fu2 (mark_of (by decide) h),fun h => fu3 (mark_of (by decide) h),fun h => fu4 (mark_of (by decide) h),fun _ => rfl,fun h => fu6 (mark_of (by decide) h),fun h => fu7 (mark_of (by decide) h),fun h => fu8 (mark_of (by decide) h),fun h => fu9 (mark_of (by decide) h),fun h => fu10 (mark_of (by decide) h),fun h => (fu11 (mark_of (by decide) h)).below bu,fun _ => h12,fun h => (fu13 (mark_of (by decide) h)).below bu⟩
     ·refine wpOp_shut (by rfl) (fun K hK => ?_)
      simp only [Act.put,xL4,xL5,xL6]
      go_simp
      obtain ⟨wx,hWx,hSx,bu,VXu⟩ := V3.lay wn 34 (.bool false) (.slice none 0 0) (.slice none 0 0)
      rw [← hWx]
      have hbu2 := hbu.trans (bu.mono hbu.size)
      exact hK.out _ _ ⟨vu0,vu1,vu2,vu3,vu4,vu5,vu6,vu7,vu8,vu9,vu10,vu11,vu12,_,by simp only [Act.put,xL4,xL5,xL6],hbu2,fun h => fu0 (mark_of (by decide) h),fun h => fu1 (mark_of (by decide) h),fun h => fu2 (mark_of (by decide) h),fun h => fu3 (mark_of (by decide) h),fun h => fu4 (mark_of (by decide) h),fun h => fu5 (mark_of (by decide) h),fun h => fu6 (mark_of (by decide) h),fun h => fu7 (mark_of (by decide) h),fun h => fu8 (mark_of (by decide) h),fun h => fu9 (mark_of (by decide) h),fun h => fu10 (mark_of (by decide) h),fun h => (fu11 (mark_of (by decide) h)).below bu,fun h => (fu12 (mark_of (by decide) h)).below bu,fun _ => ⟨_,rfl,hbu.size,VXu⟩⟩
    rintro au Wu3 ⟨vu0,vu1,vu2,vu3,vu4,vu5,vu6,vu7,vu8,vu9,vu10,vu11,vu12,vu13,rfl,hbu,fu0,fu1,fu2,fu3,fu4,fu5,fu6,fu7,fu8,fu9,fu10,fu11,fu12,fu13⟩
    have eu0 := (fu0 rfl).symm
    subst eu0
    have eu1 := (fu1 rfl).symm
    subst eu1
    have eu2 := (fu2 rfl).symm
    subst eu2
    have eu3 := (fu3 rfl).symm
    subst eu3
    have eu4 := (fu4 rfl).symm
    subst eu4
    have eu5 := (fu5 rfl).symm
    subst eu5
    have eu6 := (fu6 rfl).symm
    subst eu6
    have eu7 := (fu7 rfl).symm
    subst eu7
    have eu8 := (fu8 rfl).symm
    subst eu8
    have eu9 := (fu9 rfl).symm
    subst eu9
    have eu10 := (fu10 rfl).symm
    subst eu10
    have h11 := fu11 rfl
    have h12 := fu12 rfl
    obtain ⟨RVB,rfl,hRVB,VB⟩ := fu13 rfl
    clear fu0 fu1 fu2 fu3 fu4 fu5 fu6 fu7 fu8 fu9 fu10 fu11 fu12 fu13
    have hlVR : w.heap.size < W2.heap.size := VR.lt
    have hlXL : b < W2.heap.size := XL.lt
    have hlVA : RVA < W2.heap.size := VA.lt
    have hlXR : b < W2.heap.size := XR.lt
    obtain ⟨pR8,aR8,nR8,cR8,yR8,mR8,dR8,rfl⟩ := h12.open
    simp only [Act.put,xL4,xL5,xL6]
    refine xR [14] (h := ?_)
    refine AllReadyH.cons (by rfl) (fun K hK => ?_) AllReadyH.nil
    have hKp := VB.keepJ (.bool pR8) (.slice aR8 nR8 cR8) (.slice yR8 mR8 dR8)
    have VB_n := VB.same (.bool pR8) (.slice aR8 nR8 cR8) (.slice yR8 mR8 dR8)
    have h11_n := h11.keep hKp
    have h12_n := h12.keep hKp
    have hbu_n := below_store3 (R := RVB) hbu (by omega) (.bool pR8) (.slice aR8 nR8 cR8) (.slice yR8 mR8 dR8)
    clear hKp
    obtain ⟨VB_0,VB_1,VB_2,VB_3,VB_4,VB_5⟩ := id VB
    go_simp
    clear VB_0 VB_1 VB_2 VB_3 VB_4 VB_5
    clear hbu h11 h12 VB
    generalize ((Wu3.setCell ⟨RVB,0,none⟩ (.bool pR8)).setCell ⟨RVB,1,none⟩ (.slice aR8 nR8 cR8)).setCell ⟨RVB,2,none⟩ (.slice yR8 mR8 dR8) = W4 at *
    have hbu := hbu_n
    have h11 := h11_n
    have h12 := h12_n
    have VB := VB_n
    clear hbu_n h11_n h12_n VB_n
    refine hK.out _ _ trivial (fun _ => ?_)
    clear hK K
    simp only [Act.put,xL4,xL5,xL6]
    replace ht := ht.below hbu
    replace hr := hr.below hbu
    replace hT := hT.below hbu
    replace r1 := r1.below hbu
    replace r2 := r2.below hbu
    replace r3 := r3.below hbu
    replace VN := VN.below hbu
    replace r3L := r3L.below hbu
    replace hA := hA.below hbu
    replace r3R := r3R.below hbu
    replace VR := VR.below hbu
    replace XL := XL.below hbu
    replace VA := VA.below hbu
    replace XR := XR.below hbu
    replace BB := BB.trans (hbu.mono BB.size)
    clear hbu
    refine wpAnyH_done (by kernel_rfl) ?_ _
    have hB := h12
    clear h12 h11
    obtain ⟨V_0,V_1,V_2,V_3,V_4,V_5,V_6,V_7,V_8,V_9,V_10,V_11,V_12,V_13⟩ := id VN
    go_wp2
    clear V_0 V_1 V_2 V_3 V_4 V_5 V_6 V_7 V_8 V_9 V_10 V_11 V_12 V_13
    have hSA : qsz ((t lr).cov * say t n r s lr) ≤ 2 * M := Nat.le_trans (qsz_mul _ _ (Nat.le_trans (r3L.qsz hL) hLM) HS1.out) (by omega)
    have hSB : qsz ((t rr).cov * say t n r s rr) ≤ 2 * M := Nat.le_trans (qsz_mul _ _ (Nat.le_trans (r3R.qsz hL) hLM) HS2.out) (by omega)
    have hSC : qsz ((t lr).cov * say t n r s lr + (t rr).cov * say t n r s rr) ≤ 4 * M + 1 := Nat.le_trans (qsz_add _ _ hSA hSB) (by omega)
    refine wp_region_float 10 8 #[true,true,true,true,true,true,true,true,true,true,false,false] #[true,true,true,true,true,true,true,true,false,true,false,false] (fun aF lsd a' w' => ∃ vu0 vu1 vu2 vu3 vu4 vu5 vu6 vu7 vu8 vu9 : Value,a' = (((((((((aF.put (some 72) vu0).put (some 73) vu1).put (some 74) vu2).put (some 75) vu3).put (some 76) vu4).put (some 77) vu5).put (some 71) vu6).put (some 78) vu7).put (some 79) vu8).put (some 12) vu9 ∧ Below W4.heap.size W4 w' ∧ (lsd.getD 0 false = true → vu0 = .agg #[.bool pL8,.slice aL8 nL8 cL8,.slice yL8 mL8 dL8]) ∧ (lsd.getD 1 false = true → vu1 = .agg #[.bool pR8,.slice aR8 nR8 cR8,.slice yR8 mR8 dR8]) ∧ (lsd.getD 2 false = true → RepQ w' vu2 ((t lr).cov * say t n r s lr + (t rr).cov * say t n r s rr)) ∧ (lsd.getD 3 false = true → vu3 = .pointer (some ⟨R0,11,none⟩)) ∧ (lsd.getD 4 false = true → vu4 = .agg #[.bool p3,.slice a3 n3 c3,.slice b3 m3 d3]) ∧ (lsd.getD 5 false = true → Tup11 w' vu5 (((t lr).cov * say t n r s lr + (t rr).cov * say t n r s rr) / (t x).cov)) ∧ (lsd.getD 6 false = true → Tup11 w' vu6 (((t lr).cov * say t n r s lr + (t rr).cov * say t n r s rr) / (t x).cov)) ∧ (lsd.getD 7 false = true → RepQ w' vu7 (((t lr).cov * say t n r s lr + (t rr).cov * say t n r s rr) / (t x).cov)) ∧ (lsd.getD 8 false = true → vu8 = .int .i64 0) ∧ (lsd.getD 9 false = true → New3 W4.heap.size w' vu9 (.bool false) (.slice none 0 0) (.slice none 0 0))) (by kernel_rfl) (by decide) (by kernel_rfl) (by rfl) (by kernel_rfl) (by rfl) (by kernel_rfl) (by decide) ?_ ?_ ?_ ?_
    ·exact ⟨_,_,_,_,_,_,_,_,_,_,by simp only [Act.put,xL4,xL5,xL6]; rfl,(Below.refl _ _).drew,fun h => absurd h (fun h => mark_none h),fun h => absurd h (fun h => mark_none h),fun h => absurd h (fun h => mark_none h),fun h => absurd h (fun h => mark_none h),fun h => absurd h (fun h => mark_none h),fun h => absurd h (fun h => mark_none h),fun h => absurd h (fun h => mark_none h),fun h => absurd h (fun h => mark_none h),fun h => absurd h (fun h => mark_none h),fun h => absurd h (fun h => mark_none h)⟩
    ·rintro lsd au wn iu hszu ⟨vu0,vu1,vu2,vu3,vu4,vu5,vu6,vu7,vu8,vu9,rfl,hbu,fu0,fu1,fu2,fu3,fu4,fu5,fu6,fu7,fu8,fu9⟩ himu hru
     rcases (show iu = 0 ∨ iu = 1 ∨ iu = 2 ∨ iu = 3 ∨ iu = 4 ∨ iu = 5 ∨ iu = 6 ∨ iu = 7 ∨ iu = 8 ∨ iu = 9 by omega) with rfl | rfl | rfl | rfl | rfl | rfl | rfl | rfl | rfl | rfl
     ·refine wpOp_shut (by rfl) (fun K hK => ?_)
      simp only [Act.put,xL4,xL5,xL6]
      obtain ⟨VA_0,VA_1,VA_2,VA_3,VA_4,VA_5⟩ := VA.below hbu
      go_simp
      exact hK.out _ _ ⟨(.agg #[.bool pL8,.slice aL8 nL8 cL8,.slice yL8 mL8 dL8]),vu1,vu2,vu3,vu4,vu5,vu6,vu7,vu8,vu9,by simp only [Act.put,xL4,xL5,xL6],hbu,fun _ => rfl,fun h => fu1 (mark_of (by decide) h),fun h => fu2 (mark_of (by decide) h),fun h => fu3 (mark_of (by decide) h),fun h => fu4 (mark_of (by decide) h),fun h => fu5 (mark_of (by decide) h),fun h => fu6 (mark_of (by decide) h),fun h => fu7 (mark_of (by decide) h),fun h => fu8 (mark_of (by decide) h),fun h => fu9 (mark_of (by decide) h)⟩
     ·refine wpOp_shut (by rfl) (fun K hK => ?_)
      simp only [Act.put,xL4,xL5,xL6]
      obtain ⟨VB_0,VB_1,VB_2,VB_3,VB_4,VB_5⟩ := VB.below hbu
      go_simp
      exact hK.out _ _ ⟨vu0,(.agg #[.bool pR8,.slice aR8 nR8 cR8,.slice yR8 mR8 dR8]),vu2,vu3,vu4,vu5,vu6,vu7,vu8,vu9,by simp only [Act.put,xL4,xL5,xL6],hbu,fun h => fu0 (mark_of (by decide) h),fun _ => rfl,fun h => fu2 (mark_of (by decide) h),fun h => fu3 (mark_of (by decide) h),fun h => fu4 (mark_of (by decide) h),fun h => fu5 (mark_of (by decide) h),fun h => fu6 (mark_of (by decide) h),fun h => fu7 (mark_of (by decide) h),fun h => fu8 (mark_of (by decide) h),fun h => fu9 (mark_of (by decide) h)⟩
     ·have eu0 := fu0 (dep_of 0 hru rfl (by kernel_rfl))
      have eu1 := fu1 (dep_of 1 hru rfl (by kernel_rfl))
      replace eu0 := eu0.symm
      subst eu0
      replace eu1 := eu1.symm
      subst eu1
      refine wpOp_shut (by rfl) (fun K hK => ?_)
      simp only [Act.put,xL4,xL5,xL6]
      have hT := hT.below hbu
      have hA := hA.below hbu
      have hB := hB.below hbu
      go_simp
      refine (qadd_at _ _ ((t lr).cov * say t n r s lr) ((t rr).cov * say t n r s rr) (2 * M) _ (hA.at _ hSA) (hB.at _ hSB) (by omega) (by omega) hT).mono ?_
      rintro eu wx ⟨v2,rfl,h2_,bu⟩
      go_wp2_with fail
      have hbu2 := hbu.trans (bu.mono hbu.size)
      exact hK.out _ _ ⟨(.agg #[.bool pL8,.slice aL8 nL8 cL8,.slice yL8 mL8 dL8]),(.agg #[.bool pR8,.slice aR8 nR8 cR8,.slice yR8 mR8 dR8]),_,vu3,vu4,vu5,vu6,vu7,vu8,vu9,by simp only [Act.put,xL4,xL5,xL6],hbu2,fun _ => rfl,fun _ => rfl,fun _ => h2_,fun h => fu3 (mark_of (by decide) h),fun h => fu4 (mark_of (by decide) h),fun h => (fu5 (mark_of (by decide) h)).below bu,fun h => (fu6 (mark_of (by decide) h)).below bu,fun h => (fu7 (mark_of (by decide) h)).below bu,fun h => fu8 (mark_of (by decide) h),fun h => (fu9 (mark_of (by decide) h)).below bu⟩
     ·refine wpOp_shut (by rfl) (fun K hK => ?_)
      simp only [Act.put,xL4,xL5,xL6]
      go_simp
      exact hK.out _ _ ⟨vu0,vu1,vu2,(.pointer (some ⟨R0,11,none⟩)),vu4,vu5,vu6,vu7,vu8,vu9,by simp only [Act.put,xL4,xL5,xL6],hbu,fun h => fu0 (mark_of (by decide) h),fun h => fu1 (mark_of (by decide) h),fun h => fu2 (mark_of (by decide) h),fun _ => rfl,fun h => fu4 (mark_of (by decide) h),fun h => fu5 (mark_of (by decide) h),fun h => fu6 (mark_of (by decide) h),fun h => fu7 (mark_of (by decide) h),fun h => fu8 (mark_of (by decide) h),fun h => fu9 (mark_of (by decide) h)⟩
     ·have eu3 := fu3 (dep_of 3 hru rfl (by kernel_rfl))
      replace eu3 := eu3.symm
      subst eu3
      refine wpOp_shut (by rfl) (fun K hK => ?_)
      simp only [Act.put,xL4,xL5,xL6]
      obtain ⟨y0,y1,y2,y3,y4,y5,y6,y7,y8,y9,y10,y11,y12,y13⟩ := VN.below hbu
      go_simp
      exact hK.out _ _ ⟨vu0,vu1,vu2,(.pointer (some ⟨R0,11,none⟩)),(.agg #[.bool p3,.slice a3 n3 c3,.slice b3 m3 d3]),vu5,vu6,vu7,vu8,vu9,by simp only [Act.put,xL4,xL5,xL6],hbu,fun h => fu0 (mark_of (by decide) h),fun h => fu1 (mark_of (by decide) h),fun h => fu2 (mark_of (by decide) h),fun _ => rfl,fun _ => rfl,fun h => fu5 (mark_of (by decide) h),fun h => fu6 (mark_of (by decide) h),fun h => fu7 (mark_of (by decide) h),fun h => fu8 (mark_of (by decide) h),fun h => fu9 (mark_of (by decide) h)⟩
     ·have eu4 := fu4 (dep_of 4 hru rfl (by kernel_rfl))
      replace eu4 := eu4.symm
      subst eu4
      have h2_ := fu2 (dep_of 2 hru rfl (by kernel_rfl))
      refine wpOp_shut (by rfl) (fun K hK => ?_)
      simp only [Act.put,xL4,xL5,xL6]
      have hT := hT.below hbu
      have r3 := r3.below hbu
      go_simp
      refine (qdiv_at _ _ ((t lr).cov * say t n r s lr + (t rr).cov * say t n r s rr) (t x).cov (4 * M + 1) _ (h2_.at _ hSC) (r3.le (by omega)) (by omega) (by omega) hT HCV.out).mono ?_
      rintro eu wx ⟨x12,rfl,hx12,bu⟩
      have T5 : Tup11 wx _ _ := ⟨x12,rfl,hx12⟩
      go_wp2_with fail
      have hbu2 := hbu.trans (bu.mono hbu.size)
      exact hK.out _ _ ⟨vu0,vu1,vu2,vu3,(.agg #[.bool p3,.slice a3 n3 c3,.slice b3 m3 d3]),_,vu6,vu7,vu8,vu9,by simp only [Act.put,xL4,xL5,xL6],hbu2,fun h => fu0 (mark_of (by decide) h),fun h => fu1 (mark_of (by decide) h),fun h => (fu2 (mark_of (by decide) h)).below bu,fun h => fu3 (mark_of (by decide) h),fun _ => rfl,fun _ => T5,fun h => (fu6 (mark_of (by decide) h)).below bu,fun h => (fu7 (mark_of (by decide) h)).below bu,fun h => fu8 (mark_of (by decide) h),fun h => (fu9 (mark_of (by decide) h)).below bu⟩
     ·have T5 := fu5 (dep_of 5 hru rfl (by kernel_rfl))
      obtain ⟨xT,rfl,hxT⟩ := T5
      refine wpOp_shut (by rfl) (fun K hK => ?_)
      simp only [Act.put,xL4,xL5,xL6]
      go_simp
      exact hK.out _ _ ⟨vu0,vu1,vu2,vu3,vu4,(.tuple #[xT,.int .i64 0]),(.tuple #[xT,.int .i64 0]),vu7,vu8,vu9,by simp only [Act.put,xL4,xL5,xL6],hbu,fun h => fu0 (mark_of (by decide) h),fun h => fu1 (mark_of (by decide) h),fun h => fu2 (mark_of (by decide) h),fun h => fu3 (mark_of (by decide) h),fun h => fu4 (mark_of (by decide) h),fun h => fu5 (mark_of (by decide) h),fun _ => ⟨xT,rfl,hxT⟩,fun h => fu7 (mark_of (by decide) h),fun h => fu8 (mark_of (by decide) h),fun h => fu9 (mark_of (by decide) h)⟩
     ·have T6 := fu6 (dep_of 6 hru rfl (by kernel_rfl))
      obtain ⟨xT,rfl,hxT⟩ := T6
      refine wpOp_shut (by rfl) (fun K hK => ?_)
      simp only [Act.put,xL4,xL5,xL6]
      go_simp
      exact hK.out _ _ ⟨vu0,vu1,vu2,vu3,vu4,vu5,(.tuple #[xT,.int .i64 0]),xT,vu8,vu9,by simp only [Act.put,xL4,xL5,xL6],hbu,fun h => fu0 (mark_of (by decide) h),fun h => fu1 (mark_of (by decide) h),fun h => fu2 (mark_of (by decide) h),fun h => fu3 (mark_of (by decide) h),fun h => fu4 (mark_of (by decide) h),fun h => fu5 (mark_of (by decide) h),fun h => fu6 (mark_of (by decide) h),fun _ => hxT,fun h => fu8 (mark_of (by decide) h),fun h => fu9 (mark_of (by decide) h)⟩
     ·have T6 := fu6 (dep_of 6 hru rfl (by kernel_rfl))
      obtain ⟨xT,rfl,hxT⟩ := T6
      refine wpOp_shut (by rfl) (fun K hK => ?_)
      simp only [Act.put,xL4,xL5,xL6]
      go_simp
      exact hK.out _ _ ⟨vu0,vu1,vu2,vu3,vu4,vu5,(.tuple #[xT,.int .i64 0]),vu7,(.int .i64 0),vu9,by simp only [Act.put,xL4,xL5,xL6],hbu,fun h => fu0 (mark_of (by decide) h),fun h => fu1 (mark_of (by decide) h),fun h => fu2 (mark_of (by decide) h),fun h => fu3 (mark_of (by decide) h),fun h => fu4 (mark_of (by decide) h),fun h => fu5 (mark_of (by decide) h),fun h => fu6 (mark_of (by decide) h),fun h => fu7 (mark_of (by decide) h),fun _ => rfl,fun h => fu9 (mark_of (by decide) h)⟩
     ·refine wpOp_shut (by rfl) (fun K hK => ?_)
      simp only [Act.put,xL4,xL5,xL6]
      go_simp
      obtain ⟨wx,hWx,hSx,bu,VXu⟩ := V3.lay wn 34 (.bool false) (.slice none 0 0) (.slice none 0 0)
      rw [← hWx]
      have hbu2 := hbu.trans (bu.mono hbu.size)
      exact hK.out _ _ ⟨vu0,vu1,vu2,vu3,vu4,vu5,vu6,vu7,vu8,_,by simp only [Act.put,xL4,xL5,xL6],hbu2,fun h => fu0 (mark_of (by decide) h),fun h => fu1 (mark_of (by decide) h),fun h => (fu2 (mark_of (by decide) h)).below bu,fun h => fu3 (mark_of (by decide) h),fun h => fu4 (mark_of (by decide) h),fun h => (fu5 (mark_of (by decide) h)).below bu,fun h => (fu6 (mark_of (by decide) h)).below bu,fun h => (fu7 (mark_of (by decide) h)).below bu,fun h => fu8 (mark_of (by decide) h),fun _ => ⟨_,rfl,hbu.size,VXu⟩⟩
    ·rintro au wn ⟨vu0,vu1,vu2,vu3,vu4,vu5,vu6,vu7,vu8,vu9,rfl,hbu,fu0,fu1,fu2,fu3,fu4,fu5,fu6,fu7,fu8,fu9⟩ hfin
     have T6 := fu6 rfl
     obtain ⟨xT,rfl,hxT⟩ := T6
     simp only [Act.put,xL4,xL5,xL6]
     refine wpAnyH_take (i := 8) (v := .int .i64 0) (by simp only [xL1,xL2,xL3]; rfl) (by kernel_rfl) (by kernel_rfl) (by kernel_rfl) (by exact fun _ _ _ h => h) (Or.inl ⟨by rfl,?_⟩) trivial ?_
     ·(intro w hSw; go_simp; (try with_reducible rfl))
     simp only [Act.put,xL4,xL5,xL6]
     exact hfin _ _ ⟨vu0,vu1,vu2,vu3,vu4,vu5,(.tuple #[xT,.int .i64 0]),vu7,(.int .i64 0),vu9,by simp only [Act.put,xL4,xL5,xL6],hbu,fun _ => fu0 rfl,fun _ => fu1 rfl,fun _ => fu2 rfl,fun _ => fu3 rfl,fun _ => fu4 rfl,fun _ => fu5 rfl,fun _ => fu6 rfl,fun _ => fu7 rfl,fun _ => rfl,fun _ => fu9 rfl⟩
    rintro au Wu5 ⟨vu0,vu1,vu2,vu3,vu4,vu5,vu6,vu7,vu8,vu9,rfl,hbu,fu0,fu1,fu2,fu3,fu4,fu5,fu6,fu7,fu8,fu9⟩
    have eu0 := (fu0 rfl).symm
    subst eu0
    have eu1 := (fu1 rfl).symm
    subst eu1
    have h2_ := fu2 rfl
    have eu3 := (fu3 rfl).symm
    subst eu3
    have eu4 := (fu4 rfl).symm
    subst eu4
    have T5 := fu5 rfl
    have T6 := fu6 rfl
    have hq := fu7 rfl
    have eu8 := (fu8 rfl).symm
    subst eu8
    obtain ⟨RVC,rfl,hRVC,VC⟩ := fu9 rfl
    clear fu0 fu1 fu2 fu3 fu4 fu5 fu6 fu7 fu8 fu9
    have hlVR : w.heap.size < W4.heap.size := VR.lt
    have hlXL : b < W4.heap.size := XL.lt
    have hlVA : RVA < W4.heap.size := VA.lt
    have hlXR : b < W4.heap.size := XR.lt
    have hlVB : RVB < W4.heap.size := VB.lt
    obtain ⟨p9,a9,n9,c9,y9,m9,d9,rfl⟩ := hq.open
    simp only [Act.put,xL4,xL5,xL6]
    refine xR [10] (h := ?_)
    refine AllReadyH.cons (by rfl) (fun K hK => ?_) AllReadyH.nil
    have hKp := VC.keepJ (.bool p9) (.slice a9 n9 c9) (.slice y9 m9 d9)
    have VC_n := VC.same (.bool p9) (.slice a9 n9 c9) (.slice y9 m9 d9)
    have h2__n := h2_.keep hKp
    have T5_n := T5.keep hKp
    have T6_n := T6.keep hKp
    have hq_n := hq.keep hKp
    have hbu_n := below_store3 (R := RVC) hbu (by omega) (.bool p9) (.slice a9 n9 c9) (.slice y9 m9 d9)
    clear hKp
    obtain ⟨VC_0,VC_1,VC_2,VC_3,VC_4,VC_5⟩ := id VC
    go_simp
    clear VC_0 VC_1 VC_2 VC_3 VC_4 VC_5
    clear hbu h2_ T5 T6 hq VC
    generalize ((Wu5.setCell ⟨RVC,0,none⟩ (.bool p9)).setCell ⟨RVC,1,none⟩ (.slice a9 n9 c9)).setCell ⟨RVC,2,none⟩ (.slice y9 m9 d9) = W6 at *
    have hbu := hbu_n
    have h2_ := h2__n
    have T5 := T5_n
    have T6 := T6_n
    have hq := hq_n
    have VC := VC_n
    clear hbu_n h2__n T5_n T6_n hq_n VC_n
    refine hK.out _ _ trivial (fun _ => ?_)
    clear hK K
    simp only [Act.put,xL4,xL5,xL6]
    refine xR [11] (h := ?_)
    refine AllReadyH.cons (by rfl) (fun K hK => ?_) AllReadyH.nil
    go_simp
    refine hK.out _ _ trivial (fun _ => ?_)
    clear hK K
    simp only [Act.put,xL4,xL5,xL6]
    replace ht := ht.below hbu
    replace hr := hr.below hbu
    replace hT := hT.below hbu
    replace r1 := r1.below hbu
    replace r2 := r2.below hbu
    replace r3 := r3.below hbu
    replace VN := VN.below hbu
    replace r3L := r3L.below hbu
    replace hA := hA.below hbu
    replace r3R := r3R.below hbu
    replace hB := hB.below hbu
    replace VR := VR.below hbu
    replace XL := XL.below hbu
    replace VA := VA.below hbu
    replace XR := XR.below hbu
    replace VB := VB.below hbu
    replace BB := BB.trans (hbu.mono BB.size)
    clear hbu
    refine wpAnyH_done (by kernel_rfl) ?_ _
    rw [← HSV.out] at hq
    clear h2_ T5 T6 hA hB ht hr hT r1 r2 r3 r3L r3R VN VA VB XL XR hSA hSB hSC hRVC hlVR hlXL hlVA hlXR hlVB hRVA hRVB IH1 IH2 HS1 HS2 HCV hccL hc6L hccR hc6R NN
    have hKp := VR.keepJ (.bool p9) (.slice a9 n9 c9) (.slice y9 m9 d9)
    have hq_n := hq.keep hKp
    have BB_n := below_store3 (R := w.heap.size) BB (by omega) (.bool p9) (.slice a9 n9 c9) (.slice y9 m9 d9)
    clear hKp
    obtain ⟨VC_0,VC_1,VC_2,VC_3,VC_4,VC_5⟩ := id VC
    obtain ⟨q1,q2,q3,q4,q5,q6⟩ := id VR
    repeat go_step
    (try simp only [Exit.inBlock,Exit.then])
    refine bodyPost_ret (v := .agg #[.bool p9,.slice a9 n9 c9,.slice y9 m9 d9]) (by simp [results,go_sem,q1,q2,q3]) rfl ?_
    exact ⟨_,rfl,hq_n.at _ HS0.out,BB_n⟩
   ·have HSV : Hid (say t n r s x = say t n r s (nxt (t x) r)) := HSI.out rfl
    clear HSO HSI
    obtain ⟨b4,off4,c94,p4,a4,n4,c4,bb4,m4,d4,hv4,hcc4,hc64,X0,X1,X2,X3,r4⟩ := hr.at hfl
    cases hv4
    obtain ⟨cm,hcm⟩ : ∃ z,(r fn).miss = z := ⟨_,rfl⟩
    rw [hcm] at X0 HCON
    clear hcm
    have QC : Quad10 W1 b4 (off4 + fn * 4) (.bool cm) (.bool p4) (.slice a4 n4 c4) (.slice bb4 m4 d4) := ⟨X0,X1,X2,X3⟩
    clear X0 X1 X2 X3
    go_wp2
    have hDr : Below W1.heap.size W1 W1.drew := (Below.refl _ _).drew
    replace ht := ht.below hDr
    replace hr := hr.below hDr
    replace hT := hT.below hDr
    replace r1 := r1.below hDr
    replace r2 := r2.below hDr
    replace r3 := r3.below hDr
    replace VN := VN.below hDr
    replace r4 := r4.below hDr
    replace QC := QC.below hDr
    replace VR := VR.below hDr
    replace BB := BB.trans (hDr.mono BB.size)
    clear hDr
    refine wp_region_held_drew (S := (fun w' => w'.cell? ⟨R0,0,none⟩ = some (.bool false) ∧ w'.cell? ⟨R0,1,none⟩ = some (.int .i64 (fn : Int)) ∧ w'.cell? ⟨R0,2,none⟩ = some (.bool p1) ∧ w'.cell? ⟨R0,3,none⟩ = some (.slice a1 n1 c1) ∧ w'.cell? ⟨R0,4,none⟩ = some (.slice b1 m1 d1) ∧ w'.cell? ⟨R0,5,none⟩ = some (.int .i64 (lr : Int)) ∧ w'.cell? ⟨R0,6,none⟩ = some (.int .i64 (rr : Int)) ∧ w'.cell? ⟨R0,7,none⟩ = some (.bool ms) ∧ w'.cell? ⟨R0,8,none⟩ = some (.bool p2) ∧ w'.cell? ⟨R0,9,none⟩ = some (.slice a2 n2 c2) ∧ w'.cell? ⟨R0,10,none⟩ = some (.slice b2 m2 d2) ∧ w'.cell? ⟨R0,11,none⟩ = some (.bool p3) ∧ w'.cell? ⟨R0,12,none⟩ = some (.slice a3 n3 c3) ∧ w'.cell? ⟨R0,13,none⟩ = some (.slice b3 m3 d3) ∧ w'.cell? ⟨b4,off4 + fn * 4,none⟩ = some (.bool cm) ∧ w'.cell? ⟨b4,off4 + fn * 4 + 1,none⟩ = some (.bool p4) ∧ w'.cell? ⟨b4,off4 + fn * 4 + 2,none⟩ = some (.slice a4 n4 c4) ∧ w'.cell? ⟨b4,off4 + fn * 4 + 3,none⟩ = some (.slice bb4 m4 d4))) (by kernel_rfl) ?_ (fun hHeld => ?_)
    ·exact ⟨VN.c0,VN.c1,VN.c2,VN.c3,VN.c4,VN.c5,VN.c6,VN.c7,VN.c8,VN.c9,VN.c10,VN.c11,VN.c12,VN.c13,QC.out.1,QC.out.2.1,QC.out.2.2.1,QC.out.2.2.2⟩
    generalize W1.drew = W1 at *
    refine xT 0 (v := ?_) (hy := Or.inl ⟨by rfl,?_⟩) (h := ?_)
    rotate_left
    ·(intro w hSw; (try dsimp only at hSw); go_simp; (try with_reducible rfl))
    (try simp only [Act.put,xL4,xL5,xL6])
    refine xT 1 (v := ?_) (hy := Or.inl ⟨by rfl,?_⟩) (h := ?_)
    rotate_left
    ·(intro w hSw; (try dsimp only at hSw); go_simp; (try with_reducible rfl))
    (try simp only [Act.put,xL4,xL5,xL6])
    refine xT 2 (v := ?_) (hy := Or.inl ⟨by rfl,?_⟩) (h := ?_)
    rotate_left
    ·(intro w hSw; (try dsimp only at hSw); go_simp; (try with_reducible rfl))
    (try simp only [Act.put,xL4,xL5,xL6])
    refine xT 3 (v := ?_) (hy := Or.inl ⟨by rfl,?_⟩) (h := ?_)
    rotate_left
    ·(intro w hSw; (try dsimp only at hSw); go_simp; (try with_reducible rfl))
    (try simp only [Act.put,xL4,xL5,xL6])
    refine xT 4 (v := ?_) (hy := Or.inl ⟨by rfl,?_⟩) (h := ?_)
    rotate_left
    ·(intro w hSw; (try dsimp only at hSw); go_simp; (try with_reducible rfl))
    (try simp only [Act.put,xL4,xL5,xL6])
    refine xT 5 (v := ?_) (hy := Or.inl ⟨by rfl,?_⟩) (h := ?_)
    rotate_left
    ·(intro w hSw; (try dsimp only at hSw); go_simp; (try with_reducible rfl))
    (try simp only [Act.put,xL4,xL5,xL6])
    refine xR [6] (h := ?_)
    refine xN (h := fun K hK => ?_)
    go_simp
    refine (HCON.out _ r1 _ _ _ _ _ _ _ r4).mono ?_
    rintro e w1 ⟨rfl,b1⟩
    obtain ⟨g,hg⟩ : ∃ g,goL (t x) (r fn) = g := ⟨_,rfl⟩
    rw [hg] at HO ⊢
    clear hg HCON
    go_wp2_with fail
    replace ht := ht.below b1
    replace hr := hr.below b1
    replace hT := hT.below b1
    replace r1 := r1.below b1
    replace r2 := r2.below b1
    replace r3 := r3.below b1
    replace VN := VN.below b1
    replace r4 := r4.below b1
    replace QC := QC.below b1
    replace VR := VR.below b1
    replace BB := BB.trans (b1.mono BB.size)
    clear b1
    refine hK.out _ _ ?_ (fun hH1 => ?_)
    ·exact ⟨VN.c0,VN.c1,VN.c2,VN.c3,VN.c4,VN.c5,VN.c6,VN.c7,VN.c8,VN.c9,VN.c10,VN.c11,VN.c12,VN.c13,QC.out.1,QC.out.2.1,QC.out.2.2.1,QC.out.2.2.2⟩
    clear hK K hHeld
    (try simp only [Act.put,xL4,xL5,xL6])
    refine wpAnyH_done (by kernel_rfl) ?_ _
    clear hH1
    cases g
    ·have HO2 : nxt (t x) r = rr := HO.out
     rw [HO2] at HSV
     clear HO HO2
     obtain ⟨V_0,V_1,V_2,V_3,V_4,V_5,V_6,V_7,V_8,V_9,V_10,V_11,V_12,V_13⟩ := id VN
     go_wp2_with fail
     clear V_0 V_1 V_2 V_3 V_4 V_5 V_6 V_7 V_8 V_9 V_10 V_11 V_12 V_13
     refine (IH2.out _ ht hr hT).mono ?_
     rintro e w2 ⟨v9,rfl,h9,b2⟩
     replace ht := ht.below b2
     replace hr := hr.below b2
     replace hT := hT.below b2
     replace r1 := r1.below b2
     replace r2 := r2.below b2
     replace r3 := r3.below b2
     replace VN := VN.below b2
     replace r4 := r4.below b2
     replace QC := QC.below b2
     replace VR := VR.below b2
     replace BB := BB.trans (b2.mono BB.size)
     clear b2
     obtain ⟨p9,a9,n9,c9,y9,m9,d9,rfl⟩ := h9.open
     rw [← HSV.out] at h9
     have hKp := VR.keepJ (.bool p9) (.slice a9 n9 c9) (.slice y9 m9 d9)
     have h9_n := h9.keep hKp
     have BB_n := below_store3 (R := w.heap.size) BB (by omega) (.bool p9) (.slice a9 n9 c9) (.slice y9 m9 d9)
     clear hKp
     obtain ⟨q1,q2,q3,q4,q5,q6⟩ := id VR
     dsimp only; repeat go_step
     (try simp only [Exit.inBlock,Exit.then])
     refine bodyPost_ret (v := .agg #[.bool p9,.slice a9 n9 c9,.slice y9 m9 d9]) (by simp [results,go_sem,q1,q2,q3]) rfl ?_
     exact ⟨_,rfl,h9_n,BB_n⟩
    ·have HO2 : nxt (t x) r = lr := HO.out
     rw [HO2] at HSV
     clear HO HO2
     obtain ⟨V_0,V_1,V_2,V_3,V_4,V_5,V_6,V_7,V_8,V_9,V_10,V_11,V_12,V_13⟩ := id VN
     go_wp2_with fail
     clear V_0 V_1 V_2 V_3 V_4 V_5 V_6 V_7 V_8 V_9 V_10 V_11 V_12 V_13
     refine (IH1.out _ ht hr hT).mono ?_
     rintro e w2 ⟨v9,rfl,h9,b2⟩
     replace ht := ht.below b2
     replace hr := hr.below b2
     replace hT := hT.below b2
     replace r1 := r1.below b2
     replace r2 := r2.below b2
     replace r3 := r3.below b2
     replace VN := VN.below b2
     replace r4 := r4.below b2
     replace QC := QC.below b2
     replace VR := VR.below b2
     replace BB := BB.trans (b2.mono BB.size)
     clear b2
     obtain ⟨p9,a9,n9,c9,y9,m9,d9,rfl⟩ := h9.open
     rw [← HSV.out] at h9
     have hKp := VR.keepJ (.bool p9) (.slice a9 n9 c9) (.slice y9 m9 d9)
     have h9_n := h9.keep hKp
     have BB_n := below_store3 (R := w.heap.size) BB (by omega) (.bool p9) (.slice a9 n9 c9) (.slice y9 m9 d9)
     clear hKp
     obtain ⟨q1,q2,q3,q4,q5,q6⟩ := id VR
     dsimp only; repeat go_step
     (try simp only [Exit.inBlock,Exit.then])
     refine bodyPost_ret (v := .agg #[.bool p9,.slice a9 n9 c9,.slice y9 m9 d9]) (by simp [results,go_sem,q1,q2,q3]) rfl ?_
     exact ⟨_,rfl,h9_n,BB_n⟩
  ·have HW : Hid (say t n r s x = (t x).val) := say_leaf hlf
   clear hlf ht hr r1 r3 i1 i2 i3 hT r2
   have BB_n : Below w.heap.size w ((w.alloc (.cells #[.bool p2,.slice a2 n2 c2,.slice b2 m2 d2] 34)).alloc (.cells #[.bool true,.int .i64 (t x).feat,.bool p1,.slice a1 n1 c1,.slice b1 m1 d1,.int .i64 (t x).left,.int .i64 (t x).right,.bool (t x).miss,.bool p2,.slice a2 n2 c2,.slice b2 m2 d2,.bool p3,.slice a3 n3 c3,.slice b3 m3 d3] 61)) := ((Below.refl _ _).alloc (Nat.le_refl _) _).alloc (by simp) _
   have r2_n := r2w.below BB_n
   obtain ⟨q1,q2,q3,q4,q5,q6⟩ := id VR
   rw [hW1,hW0] at q1 q2 q3 q4 q5 q6
   clear r2w VR BB VN FN
   go_wp2
   (try simp only [Exit.inBlock,Exit.then])
   refine bodyPost_ret (v := .agg #[.bool p2,.slice a2 n2 c2,.slice b2 m2 d2]) (by simp [results,go_sem,q1,q2,q3]) rfl ?_
   exact ⟨_,rfl,by rw [HW.out]; exact r2_n.le hLM,BB_n⟩
theorem lbelow_at (vt vr : Value) (n nr : Nat) (t : Nat → Nd) (r : Nat → Cl) (s L M : Nat) (w : World) (hL : 1 ≤ L) (hLM : L ≤ M) (hM : M ≤ 10000) (hs : s < 18446744073709551616) (hnr : nr ≤ 64) (hm : MayT (nr : Int) t n) (hS : ∀ x,x < n → qsz (say t n r s x) ≤ M) (ht : TRow w vt n t L) (hr : CRow w vr nr r L) (hT : Tab w) :
  Calls Tryz.prog 54 #[vt,.int .i64 0,vr,.int .u64 (s : Int)] w fun e w' => ∃ v,e = .returned v ∧ RatAt w' v (say t n r s 0) M ∧ Below w.heap.size w w' :=
 lbelow_ind vt vr n nr t r s L M hL hLM hM hs hnr hm hS (n + 1) 0 w (by have := hm.pos; omega) (by omega) ht hr hT

def sayV (T : Nat → Nat → Nd) (N : Nat → Nat) (r : Nat → Cl) (s i : Nat) : Rat := say (T i) (N i) r s 0
set_option maxRecDepth 100000 in
set_option maxHeartbeats 16000000 in
theorem lvalue11_at (F : Int) (vm vr : Value) (k nr : Nat) (N : Nat → Nat) (T : Nat → Nat → Nd) (r : Nat → Cl) (s L M : Nat) (w : World) (hM : MRow w vm k N T L) (hR : CRow w vr nr r L) (hT : Tab w) (hL : 1 ≤ L) (hLM : L ≤ M) (hMM : M ≤ 10000) (hk : k ≤ 6) (hs : s < 18446744073709551616) (hnr : nr ≤ 64) (hm : ∀ i,i < k → MayT (nr : Int) (T i) (N i)) (hS : ∀ i,i < k → ∀ x,x < N i → qsz (say (T i) (N i) r s x) ≤ M) :
  Calls Tryz.prog 18 #[.agg #[.int .i64 F,vm],vr,.int .u64 (s : Int)] w fun e w' => ∃ x,e = .returned x ∧ RepQ w' x (sumq (sayV T N r s) k) ∧ Below w.heap.size w w' := by
 obtain ⟨ao,c,rfl,hnc,hc63⟩ := hM.open
 obtain ⟨ar,cr,rfl,hrc,hr63⟩ := hR.open
 have HSZ : Hid (∀ i,i ≤ k → qsz (sumq (sayV T N r s) i) ≤ 6 * (M + 1) + 1) := fun i hi => by
  have h1 := qsz_sumq (sayV T N r s) M i (fun j hj => hS j (by omega) 0 (hm j (by omega)).pos)
  have h2 := Nat.mul_le_mul_right (M + 1) (Nat.le_trans hi hk)
  omega
 have HM0 : Hid (MRow w (.slice ao k c) k N T L) := hM
 have HR0 : Hid (CRow w (.slice ar nr cr) nr r L) := hR
 have HT0 : Hid (Tab w) := hT
 have HMY : Hid (∀ i,i < k → MayT (nr : Int) (T i) (N i)) := hm
 have HSS : Hid (∀ i,i < k → ∀ x,x < N i → qsz (say (T i) (N i) r s x) ≤ M) := hS
 clear hM hR hT hm hS
 have BB : Below w.heap.size w w := Below.refl _ _
 obtain ⟨Wb0,hW0,hS0,hL0,VM⟩ := V2.lay w 24 (.int .i64 F) (.slice ao k c)
 replace BB := BB.trans (hL0.mono BB.size)
 clear hL0
 obtain ⟨Wb1,hW1,hS1,hL1,VR⟩ := V3.lay Wb0 34 (.bool false) (.slice none 0 0) (.slice none 0 0)
 rw [hS0] at VR hS1
 replace VM := VM.below hL1
 replace BB := BB.trans (hL1.mono BB.size)
 clear hL1
 go_enter Tryz.func18,Tryz.ntmps18
 go_wp2_with fail
 rw [← hW0]
 rw [← hW1]
 clear hW0 hW1 hS0 hS1
 refine (qzero_at _).mono ?_
 rintro e w1 ⟨v1,rfl,hs_,b1⟩
 replace VM := VM.below b1
 replace VR := VR.below b1
 replace BB := BB.trans (b1.mono BB.size)
 clear b1
 obtain ⟨p0,a0,n0,c0,y0,m0,d0,rfl⟩ := hs_.open
 have hZ1 : w.heap.size ≤ w1.heap.size := BB.size
 have hN1VM : w.heap.size ≠ w1.heap.size := Nat.ne_of_lt VM.lt
 have hN1VR : w.heap.size + 1 ≠ w1.heap.size := Nat.ne_of_lt VR.lt
 obtain ⟨W1,hW1,hS1,hL1,VS⟩ := V3.lay w1 34 (.bool p0) (.slice a0 n0 c0) (.slice y0 m0 d0)
 replace hs_ := hs_.below hL1
 replace VM := VM.below hL1
 replace VR := VR.below hL1
 replace BB := BB.trans (hL1.mono BB.size)
 clear hL1
 obtain ⟨VM_0,VM_1,VM_2,VM_3⟩ := id VM
 obtain ⟨VS_0,VS_1,VS_2,VS_3,VS_4,VS_5⟩ := id VS
 rw [hW1] at VM_0 VM_1 VM_2 VM_3 VS_0 VS_1 VS_2 VS_3 VS_4 VS_5
 go_wp2_with fail
 clear VM_0 VM_1 VM_2 VM_3 VS_0 VS_1 VS_2 VS_3 VS_4 VS_5
 rw [← hW1]
 generalize w1.heap.size = R1 at *
 clear hW1 hS1
 have hs_ : RepQ W1 (.agg #[.bool p0,.slice a0 n0 c0,.slice y0 m0 d0]) (sumq (sayV T N r s) 0) := hs_
 go_loopw [8] (fun vi wr => ∃ (i : Nat) (p5 : Bool) (a5 : Option Addr) (n5 c5 : Nat) (y5 : Option Addr) (m5 d5 : Nat),i ≤ k ∧ vi = .int .i64 (i : Int) ∧ V3 wr R1 (.bool p5) (.slice a5 n5 c5) (.slice y5 m5 d5) ∧ RepQ wr (.agg #[.bool p5,.slice a5 n5 c5,.slice y5 m5 d5]) (sumq (sayV T N r s) i) ∧ V2 wr w.heap.size (.int .i64 F) (.slice ao k c) ∧ V3 wr (w.heap.size + 1) (.bool false) (.slice none 0 0) (.slice none 0 0) ∧ Below w.heap.size w wr) (fun vi _ => k - (intOf vi).toNat)
 case atStart => exact ⟨0,_,_,_,_,_,_,_,by omega,rfl,VS,hs_,VM,VR,BB⟩
 case round =>
  clear VS hs_ VM VR BB
  obtain ⟨i,p5,a5,n5,c5,y5,m5,d5,hi,rfl,VS,hs_,VM,VR,BB⟩ := hrel
  by_cases hlt : i < k
  ·have g1 : (i : Int) < (k : Int) := by omega
   have g0 : (0 : Int) ≤ (i : Int) := by omega
   have wi : IntKind.i64.wrap ((i : Int) + 1) = (i : Int) + 1 := by rw [IntKind.wrap_i64]; omega
   obtain ⟨b,off,cc,a,d,hvv,hcc,XC0,TR0⟩ := HM0.out.at hlt
   have hbw : b < w.heap.size := World.block_lt_of_cell? _ _ XC0
   cases hvv
   have TC := Cel10.from (B := 0) XC0 BB
   have HTR0 := TR0
   have HSI : Hid (sumq (sayV T N r s) (i + 1) = sumq (sayV T N r s) i + say (T i) (N i) r s 0) := rfl
   have HSZI : Hid (qsz (sumq (sayV T N r s) i) ≤ 6 * (M + 1) + 1) := HSZ.out i hi
   have hRS : R1 < wr.heap.size := VS.lt
   clear XC0 TR0
   have HTR : Hid (TRow w (.slice a (N i) d) (N i) (T i) L) := HTR0
   obtain ⟨VM_0,VM_1,VM_2,VM_3⟩ := id VM
   go_wp2_with fail
   clear VM_0 VM_1 VM_2 VM_3
   refine wp_region_until 10 #[true,true,true,true,true,true,true,true,true,true,false] (fun aF lsd a' w' => ∃ vu0 vu1 vu2 vu3 vu4 vu5 vu6 vu7 vu8 vu9 : Value,a' = (((((((((aF.put (some 17) vu0).put (some 18) vu1).put (some 19) vu2).put (some 20) vu3).put (some 21) vu4).put (some 22) vu5).put (some 23) vu6).put (some 24) vu7).put (some 25) vu8).put (some 26) vu9 ∧ Below wr.heap.size wr w' ∧ (lsd.getD 0 false = true → vu0 = .agg #[.bool p5,.slice a5 n5 c5,.slice y5 m5 d5]) ∧ (lsd.getD 1 false = true → vu1 = .pointer (some ⟨w.heap.size,1,none⟩)) ∧ (lsd.getD 2 false = true → vu2 = .slice (some ⟨b,off,none⟩) k c) ∧ (lsd.getD 3 false = true → vu3 = .int .i64 (i : Int)) ∧ (lsd.getD 4 false = true → vu4 = .pointer (some ⟨b,off + i,none⟩)) ∧ (lsd.getD 5 false = true → vu5 = .slice a (N i) d) ∧ (lsd.getD 6 false = true → vu6 = .slice ar nr cr) ∧ (lsd.getD 7 false = true → vu7 = .int .u64 (s : Int)) ∧ (lsd.getD 8 false = true → RatAt w' vu8 (say (T i) (N i) r s 0) M) ∧ (lsd.getD 9 false = true → RepQ w' vu9 (sumq (sayV T N r s) i + say (T i) (N i) r s 0))) (by kernel_rfl) (by decide) (by kernel_rfl) (by rfl) (by kernel_rfl) ?_ ?_ ?_
   ·exact ⟨_,_,_,_,_,_,_,_,_,_,by simp only [Act.put,xL4,xL5,xL6]; rfl,(Below.refl _ _).drew,fun h => absurd h (fun h => mark_none h),fun h => absurd h (fun h => mark_none h),fun h => absurd h (fun h => mark_none h),fun h => absurd h (fun h => mark_none h),fun h => absurd h (fun h => mark_none h),fun h => absurd h (fun h => mark_none h),fun h => absurd h (fun h => mark_none h),fun h => absurd h (fun h => mark_none h),fun h => absurd h (fun h => mark_none h),fun h => absurd h (fun h => mark_none h)⟩
   ·rintro lsd au wn iu hszu ⟨vu0,vu1,vu2,vu3,vu4,vu5,vu6,vu7,vu8,vu9,rfl,hbu,fu0,fu1,fu2,fu3,fu4,fu5,fu6,fu7,fu8,fu9⟩ himu hru
    rcases (show iu = 0 ∨ iu = 1 ∨ iu = 2 ∨ iu = 3 ∨ iu = 4 ∨ iu = 5 ∨ iu = 6 ∨ iu = 7 ∨ iu = 8 ∨ iu = 9 by omega) with rfl | rfl | rfl | rfl | rfl | rfl | rfl | rfl | rfl | rfl
    ·refine wpOp_shut (by rfl) (fun K hK => ?_)
     simp only [Act.put,xL4,xL5,xL6]
     obtain ⟨VS_0,VS_1,VS_2,VS_3,VS_4,VS_5⟩ := VS.below hbu
     go_simp
     exact hK.out _ _ ⟨(.agg #[.bool p5,.slice a5 n5 c5,.slice y5 m5 d5]),vu1,vu2,vu3,vu4,vu5,vu6,vu7,vu8,vu9,by simp only [Act.put,xL4,xL5,xL6],hbu,fun _ => rfl,fun h => fu1 (mark_of (by decide) h),fun h => fu2 (mark_of (by decide) h),fun h => fu3 (mark_of (by decide) h),fun h => fu4 (mark_of (by decide) h),fun h => fu5 (mark_of (by decide) h),fun h => fu6 (mark_of (by decide) h),fun h => fu7 (mark_of (by decide) h),fun h => fu8 (mark_of (by decide) h),fun h => fu9 (mark_of (by decide) h)⟩
    ·refine wpOp_shut (by rfl) (fun K hK => ?_)
     simp only [Act.put,xL4,xL5,xL6]
     go_simp
     exact hK.out _ _ ⟨vu0,(.pointer (some ⟨w.heap.size,1,none⟩)),vu2,vu3,vu4,vu5,vu6,vu7,vu8,vu9,by simp only [Act.put,xL4,xL5,xL6],hbu,fun h => fu0 (mark_of (by decide) h),fun _ => rfl,fun h => fu2 (mark_of (by decide) h),fun h => fu3 (mark_of (by decide) h),fun h => fu4 (mark_of (by decide) h),fun h => fu5 (mark_of (by decide) h),fun h => fu6 (mark_of (by decide) h),fun h => fu7 (mark_of (by decide) h),fun h => fu8 (mark_of (by decide) h),fun h => fu9 (mark_of (by decide) h)⟩
    ·have eu1 := fu1 (dep_of 1 hru rfl (by kernel_rfl))
     replace eu1 := eu1.symm
     subst eu1
     refine wpOp_shut (by rfl) (fun K hK => ?_)
     simp only [Act.put,xL4,xL5,xL6]
     obtain ⟨VM_0,VM_1,VM_2,VM_3⟩ := VM.below hbu
     go_simp
     exact hK.out _ _ ⟨vu0,(.pointer (some ⟨w.heap.size,1,none⟩)),(.slice (some ⟨b,off,none⟩) k c),vu3,vu4,vu5,vu6,vu7,vu8,vu9,by simp only [Act.put,xL4,xL5,xL6],hbu,fun h => fu0 (mark_of (by decide) h),fun _ => rfl,fun _ => rfl,fun h => fu3 (mark_of (by decide) h),fun h => fu4 (mark_of (by decide) h),fun h => fu5 (mark_of (by decide) h),fun h => fu6 (mark_of (by decide) h),fun h => fu7 (mark_of (by decide) h),fun h => fu8 (mark_of (by decide) h),fun h => fu9 (mark_of (by decide) h)⟩
    ·refine wpOp_shut (by rfl) (fun K hK => ?_)
     simp only [Act.put,xL4,xL5,xL6]
     go_simp
     exact hK.out _ _ ⟨vu0,vu1,vu2,(.int .i64 (i : Int)),vu4,vu5,vu6,vu7,vu8,vu9,by simp only [Act.put,xL4,xL5,xL6],hbu,fun h => fu0 (mark_of (by decide) h),fun h => fu1 (mark_of (by decide) h),fun h => fu2 (mark_of (by decide) h),fun _ => rfl,fun h => fu4 (mark_of (by decide) h),fun h => fu5 (mark_of (by decide) h),fun h => fu6 (mark_of (by decide) h),fun h => fu7 (mark_of (by decide) h),fun h => fu8 (mark_of (by decide) h),fun h => fu9 (mark_of (by decide) h)⟩
    ·have eu2 := fu2 (dep_of 2 hru rfl (by kernel_rfl))
     have eu3 := fu3 (dep_of 3 hru rfl (by kernel_rfl))
     replace eu2 := eu2.symm
     subst eu2
     replace eu3 := eu3.symm
     subst eu3
     refine wpOp_shut (by rfl) (fun K hK => ?_)
     simp only [Act.put,xL4,xL5,xL6]
     go_simp
     exact hK.out _ _ ⟨vu0,vu1,(.slice (some ⟨b,off,none⟩) k c),(.int .i64 (i : Int)),(.pointer (some ⟨b,off + i,none⟩)),vu5,vu6,vu7,vu8,vu9,by simp only [Act.put,xL4,xL5,xL6],hbu,fun h => fu0 (mark_of (by decide) h),fun h => fu1 (mark_of (by decide) h),fun _ => rfl,fun _ => rfl,fun _ => rfl,fun h => fu5 (mark_of (by decide) h),fun h => fu6 (mark_of (by decide) h),fun h => fu7 (mark_of (by decide) h),fun h => fu8 (mark_of (by decide) h),fun h => fu9 (mark_of (by decide) h)⟩
    ·have eu4 := fu4 (dep_of 4 hru rfl (by kernel_rfl))
     replace eu4 := eu4.symm
     subst eu4
     refine wpOp_shut (by rfl) (fun K hK => ?_)
     simp only [Act.put,xL4,xL5,xL6]
     have z1 := (TC.below hbu).cell
     go_simp
     exact hK.out _ _ ⟨vu0,vu1,vu2,vu3,(.pointer (some ⟨b,off + i,none⟩)),(.slice a (N i) d),vu6,vu7,vu8,vu9,by simp only [Act.put,xL4,xL5,xL6],hbu,fun h => fu0 (mark_of (by decide) h),fun h => fu1 (mark_of (by decide) h),fun h => fu2 (mark_of (by decide) h),fun h => fu3 (mark_of (by decide) h),fun _ => rfl,fun _ => rfl,fun h => fu6 (mark_of (by decide) h),fun h => fu7 (mark_of (by decide) h),fun h => fu8 (mark_of (by decide) h),fun h => fu9 (mark_of (by decide) h)⟩
    ·refine wpOp_shut (by rfl) (fun K hK => ?_)
     simp only [Act.put,xL4,xL5,xL6]
     go_simp
     exact hK.out _ _ ⟨vu0,vu1,vu2,vu3,vu4,vu5,(.slice ar nr cr),vu7,vu8,vu9,by simp only [Act.put,xL4,xL5,xL6],hbu,fun h => fu0 (mark_of (by decide) h),fun h => fu1 (mark_of (by decide) h),fun h => fu2 (mark_of (by decide) h),fun h => fu3 (mark_of (by decide) h),fun h => fu4 (mark_of (by decide) h),fun h => fu5 (mark_of (by decide) h),fun _ => rfl,fun h => fu7 (mark_of (by decide) h),fun h => fu8 (mark_of (by decide) h),fun h => fu9 (mark_of (by decide) h)⟩
    ·refine wpOp_shut (by rfl) (fun K hK => ?_)
     simp only [Act.put,xL4,xL5,xL6]
     go_simp
     exact hK.out _ _ ⟨vu0,vu1,vu2,vu3,vu4,vu5,vu6,(.int .u64 (s : Int)),vu8,vu9,by simp only [Act.put,xL4,xL5,xL6],hbu,fun h => fu0 (mark_of (by decide) h),fun h => fu1 (mark_of (by decide) h),fun h => fu2 (mark_of (by decide) h),fun h => fu3 (mark_of (by decide) h),fun h => fu4 (mark_of (by decide) h),fun h => fu5 (mark_of (by decide) h),fun h => fu6 (mark_of (by decide) h),fun _ => rfl,fun h => fu8 (mark_of (by decide) h),fun h => fu9 (mark_of (by decide) h)⟩
    ·have eu5 := fu5 (dep_of 5 hru rfl (by kernel_rfl))
     have eu6 := fu6 (dep_of 6 hru rfl (by kernel_rfl))
     have eu7 := fu7 (dep_of 7 hru rfl (by kernel_rfl))
     replace eu5 := eu5.symm
     subst eu5
     replace eu6 := eu6.symm
     subst eu6
     replace eu7 := eu7.symm
     subst eu7
     refine wpOp_shut (by rfl) (fun K hK => ?_)
     simp only [Act.put,xL4,xL5,xL6]
     go_simp
     refine (lbelow_at _ _ (N i) nr (T i) r s L M _ hL hLM hMM hs hnr (HMY.out i hlt) (HSS.out i hlt) ((HTR.out.below BB).below hbu) ((HR0.out.below BB).below hbu) ((HT0.out.below BB).below hbu)).mono ?_
     rintro eu wx ⟨v8,rfl,h8,bu⟩
     go_wp2_with fail
     have hbu2 := hbu.trans (bu.mono hbu.size)
     exact hK.out _ _ ⟨vu0,vu1,vu2,vu3,vu4,(.slice a (N i) d),(.slice ar nr cr),(.int .u64 (s : Int)),_,vu9,by simp only [Act.put,xL4,xL5,xL6],hbu2,fun h => fu0 (mark_of (by decide) h),fun h => fu1 (mark_of (by decide) h),fun h => fu2 (mark_of (by decide) h),fun h => fu3 (mark_of (by decide) h),fun h => fu4 (mark_of (by decide) h),fun _ => rfl,fun _ => rfl,fun _ => rfl,fun _ => h8,fun h => (fu9 (mark_of (by decide) h)).below bu⟩
    ·have eu0 := fu0 (dep_of 0 hru rfl (by kernel_rfl))
     replace eu0 := eu0.symm
     subst eu0
     have h8 := fu8 (dep_of 8 hru rfl (by kernel_rfl))
     refine wpOp_shut (by rfl) (fun K hK => ?_)
     simp only [Act.put,xL4,xL5,xL6]
     have hs_ := hs_.below hbu
     go_simp
     refine (qadd_at _ _ (sumq (sayV T N r s) i) (say (T i) (N i) r s 0) (6 * (M + 1) + 1) _ (hs_.at _ HSZI.out) (h8.le (by omega)) (by omega) (by omega) ((HT0.out.below BB).below hbu)).mono ?_
     rintro eu wx ⟨vs,rfl,h9,bu⟩
     go_wp2_with fail
     have hbu2 := hbu.trans (bu.mono hbu.size)
     exact hK.out _ _ ⟨(.agg #[.bool p5,.slice a5 n5 c5,.slice y5 m5 d5]),vu1,vu2,vu3,vu4,vu5,vu6,vu7,vu8,_,by simp only [Act.put,xL4,xL5,xL6],hbu2,fun _ => rfl,fun h => fu1 (mark_of (by decide) h),fun h => fu2 (mark_of (by decide) h),fun h => fu3 (mark_of (by decide) h),fun h => fu4 (mark_of (by decide) h),fun h => fu5 (mark_of (by decide) h),fun h => fu6 (mark_of (by decide) h),fun h => fu7 (mark_of (by decide) h),fun h => (fu8 (mark_of (by decide) h)).below bu,fun _ => h9⟩
   rintro au Wu22 ⟨vu0,vu1,vu2,vu3,vu4,vu5,vu6,vu7,vu8,vu9,rfl,hbu,fu0,fu1,fu2,fu3,fu4,fu5,fu6,fu7,fu8,fu9⟩
   have eu0 := (fu0 rfl).symm
   subst eu0
   have eu1 := (fu1 rfl).symm
   subst eu1
   have eu2 := (fu2 rfl).symm
   subst eu2
   have eu3 := (fu3 rfl).symm
   subst eu3
   have eu4 := (fu4 rfl).symm
   subst eu4
   have eu5 := (fu5 rfl).symm
   subst eu5
   have eu6 := (fu6 rfl).symm
   subst eu6
   have eu7 := (fu7 rfl).symm
   subst eu7
   have h8 := fu8 rfl
   have h9 := fu9 rfl
   clear fu0 fu1 fu2 fu3 fu4 fu5 fu6 fu7 fu8 fu9
   have hlVS : R1 < wr.heap.size := VS.lt
   have hlVM : w.heap.size < wr.heap.size := VM.lt
   have hlVR : w.heap.size + 1 < wr.heap.size := VR.lt
   replace hs_ := hs_.below hbu
   replace VS := VS.below hbu
   replace VM := VM.below hbu
   replace VR := VR.below hbu
   replace BB := BB.trans (hbu.mono BB.size)
   clear hbu
   obtain ⟨p6,a6,n6,c6,y6,m6,d6,rfl⟩ := h9.open
   rw [← HSI.out] at h9
   simp only [Act.put,xL4,xL5,xL6]
   refine xR [10] (h := ?_)
   refine AllReadyH.cons (by rfl) (fun K hK => ?_) AllReadyH.nil
   have hKp := VS.keepJ (.bool p6) (.slice a6 n6 c6) (.slice y6 m6 d6)
   have VM_n := VM.other3 (R := R1) (by omega) (.bool p6) (.slice a6 n6 c6) (.slice y6 m6 d6)
   have VR_n := VR.other3 (R := R1) (by omega) (.bool p6) (.slice a6 n6 c6) (.slice y6 m6 d6)
   have VS_n := VS.same (.bool p6) (.slice a6 n6 c6) (.slice y6 m6 d6)
   have hs__n := hs_.keep hKp
   have h8_n := h8.keep hKp
   have h9_n := h9.keep hKp
   have BB_n := below_store3 (R := R1) BB (by omega) (.bool p6) (.slice a6 n6 c6) (.slice y6 m6 d6)
   clear hKp
   obtain ⟨VS_0,VS_1,VS_2,VS_3,VS_4,VS_5⟩ := id VS
   go_simp
   clear VS_0 VS_1 VS_2 VS_3 VS_4 VS_5
   clear BB hs_ h8 h9 VS VM VR
   generalize ((Wu22.setCell ⟨R1,0,none⟩ (.bool p6)).setCell ⟨R1,1,none⟩ (.slice a6 n6 c6)).setCell ⟨R1,2,none⟩ (.slice y6 m6 d6) = W23 at *
   have BB := BB_n
   have hs_ := hs__n
   have h8 := h8_n
   have h9 := h9_n
   have VS := VS_n
   have VM := VM_n
   have VR := VR_n
   clear BB_n hs__n h8_n h9_n VS_n VM_n VR_n
   refine hK.out _ _ trivial (fun _ => ?_)
   clear hK K
   simp only [Act.put,xL4,xL5,xL6]
   refine wpAnyH_done (by kernel_rfl) ?_ _
   go_wp2
   go_roundw
   case rel => exact ⟨i + 1,_,_,_,_,_,_,_,by omega,by go_num,VS,h9,VM,VR,BB⟩
   case measure => simp [intOf]; omega
  ·obtain rfl : i = k := by omega
   have g1 : ¬ (i : Int) < (i : Int) := by omega
   have hKp := VR.keepJ (.bool p5) (.slice a5 n5 c5) (.slice y5 m5 d5)
   have hs__n := hs_.keep hKp
   have BB_n := below_store3 (R := w.heap.size + 1) BB (by omega) (.bool p5) (.slice a5 n5 c5) (.slice y5 m5 d5)
   clear hKp
   obtain ⟨VS_0,VS_1,VS_2,VS_3,VS_4,VS_5⟩ := id VS
   obtain ⟨VM_0,VM_1,VM_2,VM_3⟩ := id VM
   obtain ⟨q1,q2,q3,q4,q5,q6⟩ := id VR
   go_wp2
   (try simp only [Exit.inBlock,Exit.then])
   refine bodyPost_ret (v := .agg #[.bool p5,.slice a5 n5 c5,.slice y5 m5 d5]) (by simp [results,go_sem,q1,q2,q3]) rfl ?_
   exact ⟨_,rfl,hs__n,BB_n⟩

theorem sumq_upto (q : Nat → Rat) (k : Nat) : ∀ i,i ≤ k → sumq (fun j => if j < k then q j else 0) i = sumq q i
 | 0,_ => rfl
 | i + 1,h => by
  show sumq _ i + (if i < k then q i else 0) = sumq q i + q i
  rw [sumq_upto q k i (by omega),if_pos (by omega)]
set_option maxRecDepth 100000 in
set_option maxHeartbeats 4000000 in
theorem value_no (F : Int) (vm vr : Value) (k nr : Nat) (N : Nat → Nat) (T : Nat → Nat → Nd) (r : Nat → Cl) (s L C : Nat) (w : World) (hM : MRow w vm k N T L) (hR : CRow w vr nr r L) (hT : Tab w) (hL : 1 ≤ L) (hC : 4 * L + 2 ≤ C) (hCn : 255 * C ≤ 10000) (hs : s < 18446744073709551616) (hw : whyI F k N T nr ≠ 0) :
  Calls Tryz.prog 14 #[.agg #[.int .i64 F,vm],vr,.int .u64 (s : Int)] w fun e w' => e = .returned (.tuple #[.agg #[.bool false,.slice none 0 0,.slice none 0 0],.int .i64 (whyI F k N T nr)]) ∧ Below w.heap.size w w' := by
 obtain ⟨ao,c,rfl,hnc,hc63⟩ := hM.open
 obtain ⟨ar,cr,rfl,hrc,hr63⟩ := hR.open
 obtain ⟨i0,hi,hz0,hz1,hz2⟩ := info_parts info_wrat
 obtain ⟨W0,hW0,hS0,hL0,VM⟩ := V2.lay w 24 (.int .i64 F) (.slice ao k c)
 have BB : Below w.heap.size w W0 := hL0
 obtain ⟨W1,hW1,hS1,hL1,VR⟩ := V3.lay W0 34 (.bool false) (.slice none 0 0) (.slice none 0 0)
 rw [hS0] at VR
 replace VM := VM.below hL1
 replace BB := BB.trans (hL1.mono BB.size)
 clear hL0 hL1
 have HM0 : Hid (MRow w (.slice ao k c) k N T L) := hM
 have HR0 : Hid (CRow w (.slice ar nr cr) nr r L) := hR
 have HT0 : Hid (Tab w) := hT
 clear hM hR hT
 go_enter Tryz.func14,Tryz.ntmps14
 obtain ⟨VM_0,VM_1,VM_2,VM_3⟩ := id VM
 rw [hW1,hW0] at VM_0 VM_1 VM_2 VM_3
 go_wp2_with fail
 clear VM_0 VM_1 VM_2 VM_3
 rw [← hW0,← hW1]
 clear hW0 hW1 hS0 hS1
 refine (rfits_at F _ _ k nr N T r L _ (HM0.out.below BB) (HR0.out.below BB) (HT0.out.below BB) hL (by omega)).mono ?_
 rintro e w1 ⟨rfl,b1⟩
 replace VM := VM.below b1
 replace VR := VR.below b1
 replace BB := BB.trans (b1.mono BB.size)
 clear b1
 obtain ⟨e1,he1⟩ : ∃ e1,whyI F k N T nr = e1 := ⟨_,rfl⟩
 have HE : Hid (whyI F k N T nr = e1) := he1
 rw [he1] at hw
 rw [he1]
 clear he1
 have g2 : (e1 != 0) = true := by simpa using hw
 have g3 : decide (e1 = 0) = false := decide_eq_false hw
 obtain ⟨z1,z2,z3,z4,z5,z6⟩ := id VR
 have BB_n := below_store3 (R := w.heap.size + 1) BB (by omega) (.bool false) (.slice none 0 0) (.slice none 0 0)
 go_wp2
 (try simp only [Exit.inBlock,Exit.then])
 refine bodyPost_ret (v := .tuple #[.agg #[.bool false,.slice none 0 0,.slice none 0 0],.int .i64 e1]) (by simp [results,go_sem,z1,z2,z3]) rfl ?_
 exact ⟨by rw [HE.out],BB_n⟩
set_option maxRecDepth 100000 in
set_option maxHeartbeats 16000000 in
theorem value_yes (F : Int) (vm vr : Value) (k nr : Nat) (N : Nat → Nat) (T : Nat → Nat → Nd) (r : Nat → Cl) (s L C : Nat) (w : World) (hM : MRow w vm k N T L) (hR : CRow w vr nr r L) (hT : Tab w) (hL : 1 ≤ L) (hC : 4 * L + 2 ≤ C) (hCn : 255 * C ≤ 10000) (hs : s < 18446744073709551616) (hw : whyI F k N T nr = 0) (hk : k ≤ 6) (hnr : (nr : Int) ≤ 64) (hm : ∀ i,i < k → MayT (nr : Int) (T i) (N i)) :
  Calls Tryz.prog 14 #[.agg #[.int .i64 F,vm],vr,.int .u64 (s : Int)] w fun e w' => ∃ x,e = .returned (.tuple #[x,.int .i64 0]) ∧ RepQ w' x (sumq (sayV T N r s) k) ∧ Below w.heap.size w w' := by
 obtain ⟨ao,c,rfl,hnc,hc63⟩ := hM.open
 obtain ⟨ar,cr,rfl,hrc,hr63⟩ := hR.open
 obtain ⟨i0,hi,hz0,hz1,hz2⟩ := info_parts info_wrat
 obtain ⟨W0,hW0,hS0,hL0,VM⟩ := V2.lay w 24 (.int .i64 F) (.slice ao k c)
 have BB : Below w.heap.size w W0 := hL0
 obtain ⟨W1,hW1,hS1,hL1,VR⟩ := V3.lay W0 34 (.bool false) (.slice none 0 0) (.slice none 0 0)
 rw [hS0] at VR
 replace VM := VM.below hL1
 replace BB := BB.trans (hL1.mono BB.size)
 clear hL0 hL1
 have HM0 : Hid (MRow w (.slice ao k c) k N T L) := hM
 have HR0 : Hid (CRow w (.slice ar nr cr) nr r L) := hR
 have HT0 : Hid (Tab w) := hT
 clear hM hR hT
 go_enter Tryz.func14,Tryz.ntmps14
 obtain ⟨VM_0,VM_1,VM_2,VM_3⟩ := id VM
 rw [hW1,hW0] at VM_0 VM_1 VM_2 VM_3
 go_wp2_with fail
 clear VM_0 VM_1 VM_2 VM_3
 rw [← hW0,← hW1]
 clear hW0 hW1 hS0 hS1
 refine (rfits_at F _ _ k nr N T r L _ (HM0.out.below BB) (HR0.out.below BB) (HT0.out.below BB) hL (by omega)).mono ?_
 rintro e w1 ⟨rfl,b1⟩
 replace VM := VM.below b1
 replace VR := VR.below b1
 replace BB := BB.trans (b1.mono BB.size)
 clear b1
 rw [hw]
 have HMY : Hid (∀ i,i < k → MayT (nr : Int) (T i) (N i)) := hm
 clear hw hm
 obtain ⟨VM_0,VM_1,VM_2,VM_3⟩ := id VM
 go_wp2_with (at_make; refine wpList_make_full _ rfl _ _ 43 rfl _ 34 i0 (.agg #[.bool false,.slice none 0 0,.slice none 0 0]) 3 Tryz.underlying43 hi hz0 hz1 _ _ _ _ k rfl rfl (by omega) (by omega) (by rw [hz2]; omega) (by unfold maxLen; omega) (Nat.le_refl _) ?_; intro w2 hown hgrow; have hb1 := below_grown hgrow; have GA0 := GArr.made hown 10000; have BB1 := BB.trans (hb1.mono BB.size); have VM1 := VM.below hb1; obtain ⟨q1,q2,q3,q4⟩ := id VM1; clear VM_0 VM_1 VM_2 VM_3)
 have GA : GArr w2 w1.heap.size k (fun j => if j < 0 then sayV T N r s j else 0) 10000 := GA0.congr (fun j _ => by rw [if_neg (by omega)])
 have hGB : w.heap.size ≤ w1.heap.size := BB.size
 have hGR : w.heap.size + 1 ≠ w1.heap.size := Nat.ne_of_lt VR.lt
 replace VR := VR.below hb1
 clear q1 q2 q3 q4 hown hgrow hb1 GA0 VM VM1 BB hi hz0 hz1 hz2
 generalize w1.heap.size = G at *
 go_loopw [26] (fun vi wr => ∃ i : Nat,i ≤ k ∧ vi = .int .i64 (i : Int) ∧ GArr wr G k (fun j => if j < i then sayV T N r s j else 0) 10000 ∧ V3 wr (w.heap.size + 1) (.bool false) (.slice none 0 0) (.slice none 0 0) ∧ Below w.heap.size w wr) (fun vi _ => k - (intOf vi).toNat)
 case atStart => exact ⟨0,by omega,rfl,GA,VR,BB1⟩
 case round =>
  clear GA BB1 VR
  obtain ⟨i,hi,rfl,GA,VR,BB⟩ := hrel
  by_cases hlt : i < k
  ·have g1 : (i : Int) < (k : Int) := by omega
   have g0 : (0 : Int) ≤ (i : Int) := by omega
   obtain ⟨b,off,cc,a,d,hvv,hcc,XC0,TR0⟩ := HM0.out.at hlt
   cases hvv
   have XC : wr.cell? ⟨b,off + i,none⟩ = some (.slice a (N i) d) := (BB.cell (p := ⟨b,off + i,none⟩) (World.block_lt_of_cell? _ _ XC0)).trans XC0
   have HMT : Hid (MayT (nr : Int) (T i) (N i)) := HMY.out i hlt
   have HTR : Hid (TRow w (.slice a (N i) d) (N i) (T i) L) := TR0
   have HSV : Hid (sayV T N r s i = say (T i) (N i) r s 0) := rfl
   have hnC : N i * C ≤ 10000 := Nat.le_trans (Nat.mul_le_mul_right C HMT.out.few) hCn
   clear XC0 TR0
   go_wp2_with fail
   clear XC
   refine (look_at _ _ (N i) nr (T i) r L _ (HTR.out.below BB) (HR0.out.below BB) HMT.out (HT0.out.below BB) hL (by omega)).mono ?_
   rintro e w3 ⟨go,gs,sh,rfl,hgo,hgs,hO,hSh,hse,b3⟩
   replace GA := GA.below b3
   replace VR := VR.below b3
   replace BB := BB.trans (b3.mono BB.size)
   have HO : Hid (∀ x,x < N i → (T i x).leaf = false → w3.cell? ⟨go,x,none⟩ = some (.int .i64 (nxt (T i x) r : Int))) := hO
   have HSE : Hid (∀ x,x < N i → (T i x).leaf = false → sh (kl (T i) x) = (T i (kl (T i) x)).cov / (T i x).cov ∧ sh (kr (T i) x) = (T i (kr (T i) x)).cov / (T i x).cov) := hse
   clear b3 hO hse
   go_wp2_with fail
   refine (said_at (nr : Int) _ go gs (N i) (T i) r sh s L C _ (HTR.out.below BB) HO.out hSh HSE.out HMT.out hnr hs (HT0.out.below BB) hL hC (by omega)).mono ?_
   rintro e w4 ⟨x4,rfl,h4,b4⟩
   replace GA := GA.below b4
   replace VR := VR.below b4
   replace BB := BB.trans (b4.mono BB.size)
   rw [← HSV.out] at h4
   obtain ⟨p6,a6,n6,c6,y6,m6,d6,rfl⟩ := h4.open
   clear b4 hSh HO HSE
   obtain ⟨u0,u1,u2,x0,x1,x2,y0,y1,y2,GA2,KQ⟩ := GA.put hlt (h4.le hnC)
   replace GA2 := GA2.congr (q' := (fun j => if j < i + 1 then sayV T N r s j else 0)) (fun j _ => by
    by_cases e : j = i
    ·rw [if_pos e,if_pos (by omega),e]
    ·rw [if_neg e]
     by_cases e2 : j < i
     ·rw [if_pos e2,if_pos (by omega)]
     ·rw [if_neg e2,if_neg (by omega)])
   have BB2 : Below w.heap.size w (((w4.setCell ⟨G,i * 3,none⟩ (.bool p6)).setCell ⟨G,i * 3 + 1,none⟩ (.slice a6 n6 c6)).setCell ⟨G,i * 3 + 2,none⟩ (.slice y6 m6 d6)) := ((BB.setCell hGB _).setCell hGB _).setCell hGB _
   have VR2 : V3 (((w4.setCell ⟨G,i * 3,none⟩ (.bool p6)).setCell ⟨G,i * 3 + 1,none⟩ (.slice a6 n6 c6)).setCell ⟨G,i * 3 + 2,none⟩ (.slice y6 m6 d6)) (w.heap.size + 1) (.bool false) (.slice none 0 0) (.slice none 0 0) := VR.block11 (put3_block _ _ _ _ _ _ _ hGR)
   clear h4 KQ GA
   go_wp2
   go_roundw
   case rel => exact ⟨i + 1,by omega,by go_num,GA2,VR2,BB2⟩
   case measure => simp [intOf]; omega
  ·obtain rfl : i = k := by omega
   have g1 : ¬ (i : Int) < (i : Int) := by omega
   have hv := GA.row (by omega)
   have ht := HT0.out.below BB
   have HSU : Hid (sumq (fun j => if j < i then sayV T N r s j else 0) i = sumq (sayV T N r s) i) := sumq_upto _ i i (Nat.le_refl _)
   go_wp2_with fail
   refine (qsum_any 10000 100000 (by omega) (by omega) (by omega) i _ _ _ hv ht (by have := Nat.mul_le_mul_right (10000 + 1) hk; omega)).mono ?_
   rintro e w7 ⟨x7,rfl,h7,b7⟩
   rw [HSU.out] at h7
   replace VR := VR.below b7
   replace BB := BB.trans (b7.mono BB.size)
   obtain ⟨p7,a7,n7,c7,y7,m7,d7,rfl⟩ := h7.open
   have hKp := VR.keepJ (.bool p7) (.slice a7 n7 c7) (.slice y7 m7 d7)
   have h7n := h7.keep hKp
   have BBn := below_store3 (R := w.heap.size + 1) BB (by omega) (.bool p7) (.slice a7 n7 c7) (.slice y7 m7 d7)
   obtain ⟨z1,z2,z3,z4,z5,z6⟩ := id VR
   clear hv GA h7 hKp
   go_wp2
   (try simp only [Exit.inBlock,Exit.then])
   refine bodyPost_ret (v := .tuple #[.agg #[.bool p7,.slice a7 n7 c7,.slice y7 m7 d7],.int .i64 0]) (by simp [results,go_sem,z1,z2,z3]) rfl ?_
   exact ⟨_,rfl,h7n,BBn⟩
end Go.Proofs.YtjmagcgobhaenaaGreatDoor

namespace Go.Proofs.YtjmagcgobhaenaaGreatDoor
set_option linter.unusedVariables false
set_option linter.unusedSimpArgs false
theorem say_bnd {F : Int} {t : Nat → Nd} {n L C : Nat} (hm : MayT F t n) (hz : ∀ i,i < n → qsz (t i).val ≤ L ∧ qsz (t i).cov ≤ L) (hC : 4 * L + 2 ≤ C) (r : Nat → Cl) (s : Nat) {x : Nat} (hx : x < n) : qsz (say t n r s x) ≤ n * C := by
 refine Nat.le_trans ?_ (hm.bnd_le C hx)
 refine hm.by_tree (P := fun x => qsz (say t n r s x) ≤ bnd t n C x) (fun x hx hl => ?_) (fun x hx hl a b => ?_) hx
 ·rw [say_leaf hl]
  have h1 := (hz x hx).1
  have h2 := bnd_pos (t := t) (n := n) (C := C) (by omega) x
  omega
 ·have h2 := hm.bnd_split C hx hl
  obtain ⟨_,_,_,a2,_,a4,_,_⟩ := hm.kids hx hl
  cases hi : inS s (t x).feat.toNat with
  | true =>
   rw [hm.say_in r hx hl hi]
   have : Go.Proofs.YtjmagcgobhaenaaGreatDoor.nxt (t x) r = kl t x ∨ Go.Proofs.YtjmagcgobhaenaaGreatDoor.nxt (t x) r = kr t x := by
    unfold Go.Proofs.YtjmagcgobhaenaaGreatDoor.nxt kl kr
    by_cases g : goL (t x) (r (t x).feat.toNat) = true
    ·rw [if_pos g]; exact .inl rfl
    ·rw [if_neg g]; exact .inr rfl
   rcases this with e | e
   ·rw [e]; exact Nat.le_trans a (by omega)
   ·rw [e]; exact Nat.le_trans b (by omega)
  | false =>
   rw [hm.say_out r hx hl hi,mean_eq]
   have h3 := qsz_div _ _ (hz _ a2).2 (hz _ hx).2
   have h4 := qsz_div _ _ (hz _ a4).2 (hz _ hx).2
   have h5 := qsz_add _ _ (qsz_mul _ _ h3 a) (qsz_mul _ _ h4 b)
   omega
theorem MRow.sz11 {w : World} {v : Value} {k : Nat} {N : Nat → Nat} {T : Nat → Nat → Nd} {L : Nat} (h : MRow w v k N T L) (hL : 1 ≤ L) {i : Nat} (hi : i < k) : ∀ j,j < N i → qsz (T i j).val ≤ L ∧ qsz (T i j).cov ≤ L := by
 obtain ⟨b,off,c,a,d,_,_,_,TR⟩ := h.at hi
 exact fun j hj => TR.sz11 hL hj
theorem say_few {w : World} {v : Value} {k : Nat} {N : Nat → Nat} {T : Nat → Nat → Nd} {F : Int} (h : MRow w v k N T 4) (hm : ∀ i,i < k → MayT F (T i) (N i)) (r : Nat → Cl) (s : Nat) : ∀ i,i < k → ∀ x,x < N i → qsz (say (T i) (N i) r s x) ≤ 4590 := fun i hi x hx =>
 Nat.le_trans (say_bnd (C := 18) (hm i hi) (h.sz11 (by omega) hi) (by omega) r s hx) (by have := (hm i hi).few; omega)
end Go.Proofs.YtjmagcgobhaenaaGreatDoor
