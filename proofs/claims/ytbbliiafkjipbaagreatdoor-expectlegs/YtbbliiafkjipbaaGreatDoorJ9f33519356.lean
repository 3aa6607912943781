/-
  Texts of mine.
-/
import Derived.Test.YtbbliiafkjipbaaGreatDoorJe1b848227b
import Derived.Test.YtbbliiafkjipbaaGreatDoorJ66107f4890
import Derived.Test.YtbbliiafkjipbaaGreatDoorJc12909aee1
namespace Go.Proofs.YtbbliiafkjipbaaGreatDoor
open Go.RowKit
set_option linter.unusedVariables false
set_option linter.unusedSimpArgs false
structure BwS (R : Nat) (w0 w : World) : Prop where
 out : Below w0.heap.size w0 w
 le : w0.heap.size ≤ R
theorem BwS.below {R : Nat} {w0 w w' : World} (h : BwS R w0 w) (hb : Below w.heap.size w w') : BwS R w0 w' := ⟨h.out.trans (hb.mono h.out.size),h.le⟩
theorem BwS.put {R : Nat} {w0 w : World} (h : BwS R w0 w) (x y z : Value) : BwS R w0 (((w.setCell ⟨R,0,none⟩ x).setCell ⟨R,1,none⟩ y).setCell ⟨R,2,none⟩ z) := ⟨below_store3 h.out h.le x y z,h.le⟩
theorem MayT.shr_sz {F : Int} {t : Nat → Nd} {n S : Nat} (h : MayT F t n) (r : Nat → Cl) (y f : Nat) (hz : ∀ x y,x < n → y < n → qsz ((t x).cov / (t y).cov) ≤ S) {x : Nat} (hx : x < n) : qsz (shr t n r y f x).q ≤ 1 + S * (n + 1 - lvl t n x) := by
 have h1 : qsz (1 : Rat) ≤ 1 := by decide +kernel
 have key : ∀ (x c : Nat) (s : Sh),x < n → c < n → lvl t n c = lvl t n x + 1 → qsz s.q ≤ 1 + S * (n + 1 - lvl t n c) → qsz (upS t r f x c s).q ≤ 1 + S * (n + 1 - lvl t n x) := by
  intro x c s hx hc hl hs
  have hle := h.lvl_le hc
  have e : n + 1 - lvl t n x = (n + 1 - lvl t n c) + 1 := by omega
  rw [e,Nat.mul_add,Nat.mul_one]
  unfold upS
  by_cases g : (t x).feat = (f : Int)
  ·rw [if_pos g]
   have := qsz_mul s.q ((t c).cov / (t x).cov) hs (hz c x hc hx)
   show qsz (s.q * ((t c).cov / (t x).cov)) ≤ _
   omega
  ·rw [if_neg g]
   show qsz s.q ≤ _
   omega
 refine h.by_tree (P := fun x => qsz (shr t n r y f x).q ≤ 1 + S * (n + 1 - lvl t n x)) (fun x hx hl => ?_) (fun x hx hl a b => ?_) hx
 ·rw [shr_leaf hl]; exact Nat.le_trans h1 (by omega)
 ·obtain ⟨_,_,_,a2,_,a4,b1,b2⟩ := h.kids hx hl
  rw [h.shr_split r y f hx hl]
  by_cases e1 : (shr t n r y f (kl t x)).is = true
  ·rw [if_pos e1]; exact key _ _ _ hx a2 b1 a
  ·rw [if_neg e1]
   by_cases e2 : (shr t n r y f (kr t x)).is = true
   ·rw [if_pos e2]; exact key _ _ _ hx a4 b2 b
   ·rw [if_neg e2]; exact Nat.le_trans h1 (by omega)
theorem MayT.shr_few {F : Int} {t : Nat → Nd} {n S : Nat} (h : MayT F t n) (r : Nat → Cl) (y f : Nat) (hz : ∀ x y,x < n → y < n → qsz ((t x).cov / (t y).cov) ≤ S) {x : Nat} (hx : x < n) : qsz (shr t n r y f x).q ≤ 1 + S * (n + 1) :=
 Nat.le_trans (h.shr_sz r y f hz hx) (by have := Nat.mul_le_mul_left S (show n + 1 - lvl t n x ≤ n + 1 by omega); omega)
set_option maxRecDepth 100000 in
set_option maxHeartbeats 16000000 in
theorem lshare_ind (vt vr : Value) (n nr y f : Nat) (t : Nat → Nd) (r : Nat → Cl) (L M : Nat) (hL : 1 ≤ L) (hM : M ≤ 10000) (hLM : L ≤ 10000) (hM1 : 1 ≤ M) (hnr : nr ≤ 64) (hf : f < nr) (hm : MayT (nr : Int) t n) (hz : ∀ x z,x < n → z < n → qsz ((t x).cov / (t z).cov) ≤ M) (hS : ∀ x,x < n → qsz (shr t n r y f x).q ≤ M) : ∀ (k x : Nat) (w : World),x < n → n + 1 ≤ lvl t n x + k → TRow w vt n t L → CRow w vr nr r L → Tab w →
  Calls Tryz.prog 12 #[vt,.int .i64 (x : Int),.int .i64 (y : Int),.int .i64 (f : Int),vr] w fun e w' => ∃ v,e = .returned (.tuple #[v,.bool (shr t n r y f x).is,.bool (shr t n r y f x).asks,.bool (shr t n r y f x).ok]) ∧ RepQ w' v (shr t n r y f x).q ∧ Below w.heap.size w w' := by
 intro k
 induction k with
 | zero =>
  intro x w hx hk
  have := hm.lvl_le hx
  omega
 | succ k ih =>
  intro x w hx hk ht hr hT
  obtain ⟨ao,ct,rfl,htc,ht63⟩ := ht.open
  obtain ⟨ar,cr,rfl,hrc,hr63⟩ := hr.open
  have BB : Below w.heap.size w w := Below.refl _ _
  have g0 : (0 : Int) ≤ (x : Int) := by omega
  have g1 : (x : Int) < (n : Int) := by omega
  have hn255 := hm.few
  obtain ⟨b,off,cc,p1,a1,n1,c1,b1,m1,d1,p2,a2,n2,c2,b2,m2,d2,p3,a3,n3,c3,b3,m3,d3,hvv,hcc,hc6,NN,r1,r2,r3,i1,i2,i3⟩ := ht.at hx
  cases hvv
  obtain ⟨W0,hW0,hS0,hL0,VR⟩ := V3.lay w 42 (.bool false) (.slice none 0 0) (.slice none 0 0)
  replace ht := ht.below hL0
  replace hr := hr.below hL0
  replace hT := hT.below hL0
  replace NN := NN.below hL0
  replace r1 := r1.below hL0
  replace r2 := r2.below hL0
  replace r3 := r3.below hL0
  replace BB := BB.xm hL0
  clear hL0
  obtain ⟨lf,hlf⟩ : ∃ z,(t x).leaf = z := ⟨_,rfl⟩
  rw [hlf] at NN
  obtain ⟨W1,hW1,hS1,hL1,VN,FN⟩ := V14.lay W0 48 (.bool lf) (.int .i64 (t x).feat) (.bool p1) (.slice a1 n1 c1) (.slice b1 m1 d1) (.int .i64 (t x).left) (.int .i64 (t x).right) (.bool (t x).miss) (.bool p2) (.slice a2 n2 c2) (.slice b2 m2 d2) (.bool p3) (.slice a3 n3 c3) (.slice b3 m3 d3)
  replace ht := ht.below hL1
  replace hr := hr.below hL1
  replace hT := hT.below hL1
  replace r1 := r1.below hL1
  replace r2 := r2.below hL1
  replace r3 := r3.below hL1
  replace VR := VR.below hL1
  replace BB := BB.xm hL1
  clear hL1
  obtain ⟨N_0,N_1,N_2,N_3,N_4,N_5,N_6,N_7,N_8,N_9,N_10,N_11,N_12,N_13⟩ := id NN
  obtain ⟨V_0,V_1,V_2,V_3,V_4,V_5,V_6,V_7,V_8,V_9,V_10,V_11,V_12,V_13⟩ := id VN
  rw [hW1,hW0] at V_0 V_1 V_2 V_3 V_4 V_5 V_6 V_7 V_8 V_9 V_10 V_11 V_12 V_13
  rw [hW0] at N_0 N_1 N_2 N_3 N_4 N_5 N_6 N_7 N_8 N_9 N_10 N_11 N_12 N_13
  go_enter Tryz.func12,Tryz.ntmps12
  cases lf
  ·have HF := hm.feat x hx hlf
   obtain ⟨e1,e2,k1,k2,k3,k4,l1,l2⟩ := hm.kids hx hlf
   have hkk := hm.kl_ne_kr hx hlf
   obtain ⟨q1,is1,as1,ok1,hS1_⟩ : ∃ a b c d,shr t n r y f (kl t x) = ⟨a,b,c,d⟩ := ⟨_,_,_,_,rfl⟩
   obtain ⟨q2,is2,as2,ok2,hS2_⟩ : ∃ a b c d,shr t n r y f (kr t x) = ⟨a,b,c,d⟩ := ⟨_,_,_,_,rfl⟩
   have HSP : Hid (shr t n r y f x = if is1 = true then upS t r f x (kl t x) ⟨q1,is1,as1,ok1⟩ else if is2 = true then upS t r f x (kr t x) ⟨q2,is2,as2,ok2⟩ else ⟨1,false,false,true⟩) := by
    show _ = _
    rw [hm.shr_split r y f hx hlf,hS1_,hS2_]
   have HCV : Hid ((t x).cov ≠ 0) := fun e => by have := hm.cov x hx; rw [e] at this; exact absurd this (by decide)
   obtain ⟨fn,hfn⟩ : ∃ fn : Nat,(t x).feat = (fn : Int) := ⟨(t x).feat.toNat,by omega⟩
   have hfl : fn < nr := by omega
   obtain ⟨ms,hms⟩ : ∃ z,(t x).miss = z := ⟨_,rfl⟩
   have HO : Hid (nxt (t x) r = if goL (t x) (r fn) = true then kl t x else kr t x) := by
    show nxt (t x) r = _
    unfold nxt kl kr
    rw [hfn]
    rfl
   have hk1 : n + 1 ≤ lvl t n (kl t x) + k := lvl_step11 l1 hk
   have hk2 : n + 1 ≤ lvl t n (kr t x) + k := lvl_step11 l2 hk
   have IH1 : Hid (∀ w,TRow w (.slice (some ⟨b,off,none⟩) n ct) n t L → CRow w (.slice ar nr cr) nr r L → Tab w → Calls Tryz.prog 12 #[.slice (some ⟨b,off,none⟩) n ct,.int .i64 (kl t x : Int),.int .i64 (y : Int),.int .i64 (f : Int),.slice ar nr cr] w fun e w' => ∃ v,e = .returned (.tuple #[v,.bool is1,.bool as1,.bool ok1]) ∧ RepQ w' v q1 ∧ Below w.heap.size w w') := fun w h1 h2 h3 => by
    have := ih (kl t x) w k2 hk1 h1 h2 h3
    rw [hS1_] at this
    exact this
   have HQ1 : Hid (qsz q1 ≤ M) := by have := hS (kl t x) k2; rw [hS1_] at this; exact this
   have HR1 : Hid (qsz ((t (kl t x)).cov / (t x).cov) ≤ M) := hz _ _ k2 hx
   have IH2 : Hid (∀ w,TRow w (.slice (some ⟨b,off,none⟩) n ct) n t L → CRow w (.slice ar nr cr) nr r L → Tab w → Calls Tryz.prog 12 #[.slice (some ⟨b,off,none⟩) n ct,.int .i64 (kr t x : Int),.int .i64 (y : Int),.int .i64 (f : Int),.slice ar nr cr] w fun e w' => ∃ v,e = .returned (.tuple #[v,.bool is2,.bool as2,.bool ok2]) ∧ RepQ w' v q2 ∧ Below w.heap.size w w') := fun w h1 h2 h3 => by
    have := ih (kr t x) w k4 hk2 h1 h2 h3
    rw [hS2_] at this
    exact this
   have HQ2 : Hid (qsz q2 ≤ M) := by have := hS (kr t x) k4; rw [hS2_] at this; exact this
   have HR2 : Hid (qsz ((t (kr t x)).cov / (t x).cov) ≤ M) := hz _ _ k4 hx
   clear ih hS hz hk1 hk2 hk hS1_ hS2_
   have HCON : Hid (∀ (w : World) (h1 : RatAt w (.agg #[.bool p1,.slice a1 n1 c1,.slice b1 m1 d1]) (t x).cut L) p4 a4 b4 n4 c4 m4 d4 (h2 : RatAt w (.agg #[.bool p4,.slice a4 n4 c4,.slice b4 m4 d4]) (r fn).val L),Calls Tryz.prog 36 #[.agg #[.bool false,.int .i64 (fn : Int),.bool p1,.slice a1 n1 c1,.slice b1 m1 d1,.int .i64 (kl t x : Int),.int .i64 (kr t x : Int),.bool ms,.bool p2,.slice a2 n2 c2,.slice b2 m2 d2,.bool p3,.slice a3 n3 c3,.slice b3 m3 d3],.agg #[.bool (r fn).miss,.bool p4,.slice a4 n4 c4,.slice b4 m4 d4]] w fun e w' => e = .returned (.bool (goL (t x) (r fn))) ∧ Below w.heap.size w w') := fun w h1 p4 a4 b4 n4 c4 m4 d4 h2 => by
    have := rleft_at (t x) (r fn) p1 p2 p3 p4 a1 b1 a2 b2 a3 b3 a4 b4 n1 c1 m1 d1 n2 c2 m2 d2 n3 c3 m3 d3 n4 c4 m4 d4 L w h1 h2 hL (by omega)
    rw [hlf,hfn,e1,e2,hms] at this
    exact this
   have HE1 : Hid (is1 = true → fn ≠ f → shr t n r y f x = ⟨q1,true,as1,ok1⟩) := fun h1 g => by
    rw [HSP.out]
    rw [if_pos h1]
    unfold upS
    rw [if_neg (by rw [hfn]; omega)]
   have HG1 : Hid (is1 = true → fn = f → shr t n r y f x = ⟨q1 * ((t (kl t x)).cov / (t x).cov),true,true,ok1 && (goL (t x) (r fn) == true)⟩) := fun h1 g => by
    rw [HSP.out]
    rw [if_pos h1]
    unfold upS
    rw [if_pos (by rw [hfn]; omega)]
    have e9 : decide (Go.Proofs.YtbbliiafkjipbaaGreatDoor.nxt (t x) r = kl t x) = (goL (t x) (r fn) == true) := by
     rw [HO.out]
     cases goL (t x) (r fn)
     ·simp [hkk,Ne.symm hkk]
     ·simp [hkk,Ne.symm hkk]
    rw [e9]
   have HE2 : Hid (is1 = false → is2 = true → fn ≠ f → shr t n r y f x = ⟨q2,true,as2,ok2⟩) := fun h1 h2 g => by
    rw [HSP.out]
    rw [if_neg (by rw [h1]; simp),if_pos h2]
    unfold upS
    rw [if_neg (by rw [hfn]; omega)]
   have HG2 : Hid (is1 = false → is2 = true → fn = f → shr t n r y f x = ⟨q2 * ((t (kr t x)).cov / (t x).cov),true,true,ok2 && (goL (t x) (r fn) == false)⟩) := fun h1 h2 g => by
    rw [HSP.out]
    rw [if_neg (by rw [h1]; simp),if_pos h2]
    unfold upS
    rw [if_pos (by rw [hfn]; omega)]
    have e9 : decide (Go.Proofs.YtbbliiafkjipbaaGreatDoor.nxt (t x) r = kr t x) = (goL (t x) (r fn) == false) := by
     rw [HO.out]
     cases goL (t x) (r fn)
     ·simp [hkk,Ne.symm hkk]
     ·simp [hkk,Ne.symm hkk]
    rw [e9]
   have HZ : Hid (is1 = false → is2 = false → shr t n r y f x = ⟨1,false,false,true⟩) := fun h1 h2 => by
    rw [HSP.out,if_neg (by rw [h1]; simp),if_neg (by rw [h2]; simp)]
   simp only [hfn,e1,e2,hms] at VN hW1 V_1 N_1 V_5 N_5 V_6 N_6 V_7 N_7
   have f0 : (0 : Int) ≤ (f : Int) := by omega
   have f1 : (f : Int) < (nr : Int) := by omega
   clear hlf hfn e1 e2 hms HF l1 l2 k1 k3 i1 i2 i3 hm HSP HO hkk
   generalize hkl : kl t x = lr at *
   generalize hkr : kr t x = rr at *
   clear hkl hkr
   have h0 : (0 : Int) ≤ (lr : Int) := by omega
   have h1 : (lr : Int) < (n : Int) := by omega
   have h2 : (0 : Int) ≤ (rr : Int) := by omega
   have h3 : (rr : Int) < (n : Int) := by omega
   go_wp2
   clear V_0 V_1 V_2 V_3 V_4 V_5 V_6 V_7 V_8 V_9 V_10 V_11 V_12 V_13 N_0 N_1 N_2 N_3 N_4 N_5 N_6 N_7 N_8 N_9 N_10 N_11 N_12 N_13
   rw [← hW0,← hW1]
   clear hW0 hW1
   rw [hS0] at VN
   obtain ⟨R0,hR0⟩ : ∃ R,R = w.heap.size + 1 := ⟨_,rfl⟩
   rw [← hR0] at VN ⊢
   have hRR : w.heap.size ≠ R0 := by omega
   clear hR0 hS0 hS1 FN
   obtain ⟨gl,hgl⟩ : ∃ g,goL (t x) (r fn) = g := ⟨_,rfl⟩
   rw [hgl] at HCON HG1 HG2
   clear hgl
   go_loopw [15] (fun vi wr => ∃ sd : Nat,sd ≤ 2 ∧ vi = .int .i64 (sd : Int) ∧ Hid (1 ≤ sd → is1 = false) ∧ Hid (2 ≤ sd → is2 = false) ∧ TRow wr (.slice (some ⟨b,off,none⟩) n ct) n t L ∧ CRow wr (.slice ar nr cr) nr r L ∧ Tab wr ∧ RatAt wr (.agg #[.bool p1,.slice a1 n1 c1,.slice b1 m1 d1]) (t x).cut L ∧ RatAt wr (.agg #[.bool p3,.slice a3 n3 c3,.slice b3 m3 d3]) (t x).cov L ∧ V3 wr w.heap.size (.bool false) (.slice none 0 0) (.slice none 0 0) ∧ V14 wr R0 (.bool false) (.int .i64 (fn : Int)) (.bool p1) (.slice a1 n1 c1) (.slice b1 m1 d1) (.int .i64 (lr : Int)) (.int .i64 (rr : Int)) (.bool ms) (.bool p2) (.slice a2 n2 c2) (.slice b2 m2 d2) (.bool p3) (.slice a3 n3 c3) (.slice b3 m3 d3) ∧ Below w.heap.size w wr) (fun vi _ => 2 - (intOf vi).toNat)
   case atStart => exact ⟨0,by omega,rfl,fun h => absurd h (by omega),fun h => absurd h (by omega),ht,hr,hT,r1,r3,VR,VN,BB⟩
   case round =>
    clear ht hr hT r1 r2 r3 VR VN BB
    obtain ⟨sd,hsd,rfl,HA,HB,ht,hr,hT,r1,r3,VR,VN,BB⟩ := hrel
    rcases (show sd = 0 ∨ sd = 1 ∨ sd = 2 by omega) with hq0 | hq0 | hq0
    ·obtain rfl : sd = 0 := by omega
     have sv : ((0 : Nat) : Int) = 0 := rfl
     rw [sv]
     clear sv HA HB hsd
     have HT0 : Hid (TRow wr (.slice (some ⟨b,off,none⟩) n ct) n t L) := ht
     have HR0 : Hid (CRow wr (.slice ar nr cr) nr r L) := hr
     have HC1 : Hid (RatAt wr (.agg #[.bool p1,.slice a1 n1 c1,.slice b1 m1 d1]) (t x).cut L) := r1
     have HC3 : Hid (RatAt wr (.agg #[.bool p3,.slice a3 n3 c3,.slice b3 m3 d3]) (t x).cov L) := r3
     have HN0 : Hid (V14 wr R0 (.bool false) (.int .i64 (fn : Int)) (.bool p1) (.slice a1 n1 c1) (.slice b1 m1 d1) (.int .i64 (lr : Int)) (.int .i64 (rr : Int)) (.bool ms) (.bool p2) (.slice a2 n2 c2) (.slice b2 m2 d2) (.bool p3) (.slice a3 n3 c3) (.slice b3 m3 d3)) := VN
     have HTB : Hid (Tab wr) := hT
     have hRw : R0 < wr.heap.size := World.block_lt_of_cell? _ _ VN.c0
     obtain ⟨V_0,V_1,V_2,V_3,V_4,V_5,V_6,V_7,V_8,V_9,V_10,V_11,V_12,V_13⟩ := id VN
     go_wp2_with fail
     clear V_0 V_1 V_2 V_3 V_4 V_5 V_6 V_7 V_8 V_9 V_10 V_11 V_12 V_13
     clear VN r1 r3
     refine (IH1.out _ ht hr hT).mono ?_
     rintro e w11 ⟨v4,rfl,h4,b4⟩
     clear ht hr hT
     have BX : BwS w11.heap.size wr w11 := ⟨b4,b4.size⟩
     replace VR := VR.below b4
     replace BB := BB.xm b4
     have hRw2 : R0 < w11.heap.size := Nat.lt_of_lt_of_le hRw b4.size
     clear b4 hRw
     obtain ⟨p6,a6,n6,c6,y6,m6,d6,rfl⟩ := h4.open
     have hnot : ∀ (x : Bool) (w : World),(Op.unary .not (.bool x)).run Tryz.prog w = .ok (.bool (!x)) w := fun _ _ => rfl
     cases is1
     ·have hZ31 : w.heap.size ≤ w11.heap.size := BB.size
      have hN31VR : w.heap.size ≠ w11.heap.size := Nat.ne_of_lt VR.lt
      obtain ⟨W31,hW31,hS31,hL31,VX⟩ := V3.lay w11 42 (.bool p6) (.slice a6 n6 c6) (.slice y6 m6 d6)
      replace h4 := h4.below hL31
      replace BX := BX.below hL31
      replace VR := VR.below hL31
      replace BB := BB.xm hL31
      clear hL31
      go_wp2
      rw [← hW31]
      generalize w11.heap.size = R31 at *
      clear hW31 hS31
      go_roundw
      case rel => exact ⟨1,by omega,by go_num,fun _ => (by first | rfl | trivial),fun h => absurd h (by omega),HT0.out.below BX.out,HR0.out.below BX.out,HTB.out.below BX.out,HC1.out.below BX.out,HC3.out.below BX.out,VR,HN0.out.below BX.out,BB⟩
      case measure => simp [intOf]
     ·by_cases hff : fn = f
      ·subst hff
       have HX : Hid (shr t n r y fn x = ⟨q1 * ((t lr).cov / (t x).cov),true,true,ok1 && (gl == true)⟩) := HG1.out rfl rfl
       have t2 : decide ((fn : Int) = (fn : Int)) = true := decide_eq_true rfl
       have t3 : ((fn : Int) == (fn : Int)) = true := by simp
       have VN := HN0.out.below BX.out
       have hNR : w.heap.size ≠ w11.heap.size := Nat.ne_of_lt VR.lt
       have hNW : w.heap.size ≤ w11.heap.size := BB.size
       obtain ⟨W7,hW7,hS7,hL7,VX⟩ := V3.lay w11 42 (.bool p6) (.slice a6 n6 c6) (.slice y6 m6 d6)
       replace h4 := h4.below hL7
       replace BX := BX.below hL7
       replace VR := VR.below hL7
       replace VN := VN.below hL7
       replace BB := BB.xm hL7
       clear hL7
       obtain ⟨V_0,V_1,V_2,V_3,V_4,V_5,V_6,V_7,V_8,V_9,V_10,V_11,V_12,V_13⟩ := id VN
       rw [hW7] at V_0 V_1 V_2 V_3 V_4 V_5 V_6 V_7 V_8 V_9 V_10 V_11 V_12 V_13
       go_wp2
       clear V_0 V_1 V_2 V_3 V_4 V_5 V_6 V_7 V_8 V_9 V_10 V_11 V_12 V_13
       rw [← hW7]
       generalize w11.heap.size = RX at *
       clear hW7 hS7
       obtain ⟨bK,oK,ccK,p1K,a1K,n1K,c1K,b1K,m1K,d1K,p2K,a2K,n2K,c2K,b2K,m2K,d2K,p3K,a3K,n3K,c3K,b3K,m3K,d3K,hvvK,hccK,hc6K,NNK,r1K,r2K,r3K,i1K,i2K,i3K⟩ := (HT0.out.below BX.out).at k2
       cases hvvK
       have XK : E3 W7 b (off + lr * 14 + 11) _ _ _ := ⟨NNK.c11,NNK.c12,NNK.c13⟩
       clear NNK r1K r2K i1K i2K i3K hccK hc6K
       have r3 := HC3.out.below BX.out
       have hT := HTB.out.below BX.out
       refine wp_region_float 12 10 #[true,true,true,true,true,true,true,true,true,true,true,true,false,false] #[true,true,true,true,true,true,true,true,true,true,false,true,false,false] (fun aF lsd a' w' => ∃ vu0 vu1 vu2 vu3 vu4 vu5 vu6 vu7 vu8 vu9 vu10 vu11 : Value,a' = (((((((((((aF.put (some 61) vu0).put (some 62) vu1).put (some 63) vu2).put (some 64) vu3).put (some 65) vu4).put (some 66) vu5).put (some 67) vu6).put (some 68) vu7).put (some 60) vu8).put (some 69) vu9).put (some 70) vu10).put (some 21) vu11 ∧ Below W7.heap.size W7 w' ∧ (lsd.getD 0 false = true → vu0 = .slice (some ⟨b,off,none⟩) n ct) ∧ (lsd.getD 1 false = true → vu1 = .int .i64 (lr : Int)) ∧ (lsd.getD 2 false = true → vu2 = .pointer (some ⟨b,off + lr * 14,none⟩)) ∧ (lsd.getD 3 false = true → vu3 = .pointer (some ⟨b,off + lr * 14 + 11,none⟩)) ∧ (lsd.getD 4 false = true → vu4 = .agg #[.bool p3K,.slice a3K n3K c3K,.slice b3K m3K d3K]) ∧ (lsd.getD 5 false = true → vu5 = .pointer (some ⟨R0,11,none⟩)) ∧ (lsd.getD 6 false = true → vu6 = .agg #[.bool p3,.slice a3 n3 c3,.slice b3 m3 d3]) ∧ (lsd.getD 7 false = true → Tup11 w' vu7 ((t lr).cov / (t x).cov)) ∧ (lsd.getD 8 false = true → Tup11 w' vu8 ((t lr).cov / (t x).cov)) ∧ (lsd.getD 9 false = true → RepQ w' vu9 ((t lr).cov / (t x).cov)) ∧ (lsd.getD 10 false = true → vu10 = .int .i64 0) ∧ (lsd.getD 11 false = true → New3 W7.heap.size w' vu11 (.bool false) (.slice none 0 0) (.slice none 0 0))) (by kernel_rfl) (by decide) (by kernel_rfl) (by rfl) (by kernel_rfl) (by rfl) (by kernel_rfl) (by decide) ?_ ?_ ?_ ?_
       ·exact ⟨_,_,_,_,_,_,_,_,_,_,_,_,by simp only [Act.put,xL4,xL5,xL6]; rfl,(Below.refl _ _).drew,fun h => absurd h (fun h => mark_none h),fun h => absurd h (fun h => mark_none h),fun h => absurd h (fun h => mark_none h),fun h => absurd h (fun h => mark_none h),fun h => absurd h (fun h => mark_none h),fun h => absurd h (fun h => mark_none h),fun h => absurd h (fun h => mark_none h),fun h => absurd h (fun h => mark_none h),fun h => absurd h (fun h => mark_none h),fun h => absurd h (fun h => mark_none h),fun h => absurd h (fun h => mark_none h),fun h => absurd h (fun h => mark_none h)⟩
       ·rintro lsd au wn iu hszu ⟨vu0,vu1,vu2,vu3,vu4,vu5,vu6,vu7,vu8,vu9,vu10,vu11,rfl,hbu,fu0,fu1,fu2,fu3,fu4,fu5,fu6,fu7,fu8,fu9,fu10,fu11⟩ himu hru
        rcases (show iu = 0 ∨ iu = 1 ∨ iu = 2 ∨ iu = 3 ∨ iu = 4 ∨ iu = 5 ∨ iu = 6 ∨ iu = 7 ∨ iu = 8 ∨ iu = 9 ∨ iu = 10 ∨ iu = 11 by omega) with rfl | rfl | rfl | rfl | rfl | rfl | rfl | rfl | rfl | rfl | rfl | rfl
        ·refine wpOp_shut (by rfl) (fun K hK => ?_)
         simp only [Act.put,xL4,xL5,xL6]
         go_simp
         exact hK.out _ _ ⟨(.slice (some ⟨b,off,none⟩) n ct),vu1,vu2,vu3,vu4,vu5,vu6,vu7,vu8,vu9,vu10,vu11,by simp only [Act.put,xL4,xL5,xL6],hbu,fun _ => rfl,fun h => fu1 (mark_of (by decide) h),fun h => fu2 (mark_of (by decide) h),fun h => fu3 (mark_of (by decide) h),fun h => fu4 (mark_of (by decide) h),fun h => fu5 (mark_of (by decide) h),fun h => fu6 (mark_of (by decide) h),fun h => fu7 (mark_of (by decide) h),fun h => fu8 (mark_of (by decide) h),fun h => fu9 (mark_of (by decide) h),fun h => fu10 (mark_of (by decide) h),fun h => fu11 (mark_of (by decide) h)⟩
        ·refine wpOp_shut (by rfl) (fun K hK => ?_)
         simp only [Act.put,xL4,xL5,xL6]
         go_simp
         exact hK.out _ _ ⟨vu0,(.int .i64 (lr : Int)),vu2,vu3,vu4,vu5,vu6,vu7,vu8,vu9,vu10,vu11,by simp only [Act.put,xL4,xL5,xL6],hbu,fun h => fu0 (mark_of (by decide) h),fun _ => rfl,fun h => fu2 (mark_of (by decide) h),fun h => fu3 (mark_of (by decide) h),fun h => fu4 (mark_of (by decide) h),fun h => fu5 (mark_of (by decide) h),fun h => fu6 (mark_of (by decide) h),fun h => fu7 (mark_of (by decide) h),fun h => fu8 (mark_of (by decide) h),fun h => fu9 (mark_of (by decide) h),fun h => fu10 (mark_of (by decide) h),fun h => fu11 (mark_of (by decide) h)⟩
        ·have eu0 := fu0 (dep_of 0 hru rfl (by kernel_rfl))
         have eu1 := fu1 (dep_of 1 hru rfl (by kernel_rfl))
         replace eu0 := eu0.symm
         subst eu0
         replace eu1 := eu1.symm
         subst eu1
         refine wpOp_shut (by rfl) (fun K hK => ?_)
         simp only [Act.put,xL4,xL5,xL6]
         go_simp
         exact hK.out _ _ ⟨(.slice (some ⟨b,off,none⟩) n ct),(.int .i64 (lr : Int)),(.pointer (some ⟨b,off + lr * 14,none⟩)),vu3,vu4,vu5,vu6,vu7,vu8,vu9,vu10,vu11,by simp only [Act.put,xL4,xL5,xL6],hbu,fun _ => rfl,fun _ => rfl,fun _ => rfl,fun h => fu3 (mark_of (by decide) h),fun h => fu4 (mark_of (by decide) h),fun h => fu5 (mark_of (by decide) h),fun h => fu6 (mark_of (by decide) h),fun h => fu7 (mark_of (by decide) h),fun h => fu8 (mark_of (by decide) h),fun h => fu9 (mark_of (by decide) h),fun h => fu10 (mark_of (by decide) h),fun h => fu11 (mark_of (by decide) h)⟩
        ·have eu2 := fu2 (dep_of 2 hru rfl (by kernel_rfl))
         replace eu2 := eu2.symm
         subst eu2
         refine wpOp_shut (by rfl) (fun K hK => ?_)
         simp only [Act.put,xL4,xL5,xL6]
         go_simp
         exact hK.out _ _ ⟨vu0,vu1,(.pointer (some ⟨b,off + lr * 14,none⟩)),(.pointer (some ⟨b,off + lr * 14 + 11,none⟩)),vu4,vu5,vu6,vu7,vu8,vu9,vu10,vu11,by simp only [Act.put,xL4,xL5,xL6],hbu,fun h => fu0 (mark_of (by decide) h),fun h => fu1 (mark_of (by decide) h),fun _ => rfl,fun _ => rfl,fun h => fu4 (mark_of (by decide) h),fun h => fu5 (mark_of (by decide) h),fun h => fu6 (mark_of (by decide) h),fun h => fu7 (mark_of (by decide) h),fun h => fu8 (mark_of (by decide) h),fun h => fu9 (mark_of (by decide) h),fun h => fu10 (mark_of (by decide) h),fun h => fu11 (mark_of (by decide) h)⟩
        ·have eu3 := fu3 (dep_of 3 hru rfl (by kernel_rfl))
         replace eu3 := eu3.symm
         subst eu3
         refine wpOp_shut (by rfl) (fun K hK => ?_)
         simp only [Act.put,xL4,xL5,xL6]
         obtain ⟨XK_0,XK_1,XK_2⟩ := XK.below hbu
         go_simp
         exact hK.out _ _ ⟨vu0,vu1,vu2,(.pointer (some ⟨b,off + lr * 14 + 11,none⟩)),(.agg #[.bool p3K,.slice a3K n3K c3K,.slice b3K m3K d3K]),vu5,vu6,vu7,vu8,vu9,vu10,vu11,by simp only [Act.put,xL4,xL5,xL6],hbu,fun h => fu0 (mark_of (by decide) h),fun h => fu1 (mark_of (by decide) h),fun h => fu2 (mark_of (by decide) h),fun _ => rfl,fun _ => rfl,fun h => fu5 (mark_of (by decide) h),fun h => fu6 (mark_of (by decide) h),fun h => fu7 (mark_of (by decide) h),fun h => fu8 (mark_of (by decide) h),fun h => fu9 (mark_of (by decide) h),fun h => fu10 (mark_of (by decide) h),fun h => fu11 (mark_of (by decide) h)⟩
        ·refine wpOp_shut (by rfl) (fun K hK => ?_)
         simp only [Act.put,xL4,xL5,xL6]
         go_simp
         exact hK.out _ _ ⟨vu0,vu1,vu2,vu3,vu4,(.pointer (some ⟨R0,11,none⟩)),vu6,vu7,vu8,vu9,vu10,vu11,by simp only [Act.put,xL4,xL5,xL6],hbu,fun h => fu0 (mark_of (by decide) h),fun h => fu1 (mark_of (by decide) h),fun h => fu2 (mark_of (by decide) h),fun h => fu3 (mark_of (by decide) h),fun h => fu4 (mark_of (by decide) h),fun _ => rfl,fun h => fu6 (mark_of (by decide) h),fun h => fu7 (mark_of (by decide) h),fun h => fu8 (mark_of (by decide) h),fun h => fu9 (mark_of (by decide) h),fun h => fu10 (mark_of (by decide) h),fun h => fu11 (mark_of (by decide) h)⟩
        ·have eu5 := fu5 (dep_of 5 hru rfl (by kernel_rfl))
         replace eu5 := eu5.symm
         subst eu5
         refine wpOp_shut (by rfl) (fun K hK => ?_)
         simp only [Act.put,xL4,xL5,xL6]
         obtain ⟨y0,y1,y2,y3,y4,y5,y6,y7,y8,y9,y10,y11,y12,y13⟩ := VN.below hbu
         go_simp
         exact hK.out _ _ ⟨vu0,vu1,vu2,vu3,vu4,(.pointer (some ⟨R0,11,none⟩)),(.agg #[.bool p3,.slice a3 n3 c3,.slice b3 m3 d3]),vu7,vu8,vu9,vu10,vu11,by simp only [Act.put,xL4,xL5,xL6],hbu,fun h => fu0 (mark_of (by decide) h),fun h => fu1 (mark_of (by decide) h),fun h => fu2 (mark_of (by decide) h),fun h => fu3 (mark_of (by decide) h),fun h => fu4 (mark_of (by decide) h),fun _ => rfl,fun _ => rfl,fun h => fu7 (mark_of (by decide) h),fun h => fu8 (mark_of (by decide) h),fun h => fu9 (mark_of (by decide) h),fun h => fu10 (mark_of (by decide) h),fun h => fu11 (mark_of (by decide) h)⟩
        ·have eu4 := fu4 (dep_of 4 hru rfl (by kernel_rfl))
         have eu6 := fu6 (dep_of 6 hru rfl (by kernel_rfl))
         replace eu4 := eu4.symm
         subst eu4
         replace eu6 := eu6.symm
         subst eu6
         refine wpOp_shut (by rfl) (fun K hK => ?_)
         simp only [Act.put,xL4,xL5,xL6]
         have r3K := r3K.below hbu
         have r3 := r3.below hbu
         have hT := hT.below hbu
         go_simp
         refine (qdiv_at _ _ (t lr).cov (t x).cov L _ r3K r3 hL (by omega) hT HCV.out).mono ?_
         rintro eu wx ⟨x12,rfl,hx12,bu⟩
         have T7 : Tup11 wx _ _ := ⟨x12,rfl,hx12⟩
         go_wp2_with fail
         have hbu2 := hbu.trans (bu.mono hbu.size)
         exact hK.out _ _ ⟨vu0,vu1,vu2,vu3,(.agg #[.bool p3K,.slice a3K n3K c3K,.slice b3K m3K d3K]),vu5,(.agg #[.bool p3,.slice a3 n3 c3,.slice b3 m3 d3]),_,vu8,vu9,vu10,vu11,by simp only [Act.put,xL4,xL5,xL6],hbu2,fun h => fu0 (mark_of (by decide) h),fun h => fu1 (mark_of (by decide) h),fun h => fu2 (mark_of (by decide) h),fun h => fu3 (mark_of (by decide) h),fun _ => rfl,fun h => fu5 (mark_of (by decide) h),fun _ => rfl,fun _ => T7,fun h => (fu8 (mark_of (by decide) h)).below bu,fun h => (fu9 (mark_of (by decide) h)).below bu,fun h => fu10 (mark_of (by decide) h),fun h => (fu11 (mark_of (by decide) h)).below bu⟩
        ·have T7 := fu7 (dep_of 7 hru rfl (by kernel_rfl))
         obtain ⟨xT,rfl,hxT⟩ := T7
         refine wpOp_shut (by rfl) (fun K hK => ?_)
         simp only [Act.put,xL4,xL5,xL6]
         go_simp
         exact hK.out _ _ ⟨vu0,vu1,vu2,vu3,vu4,vu5,vu6,(.tuple #[xT,.int .i64 0]),(.tuple #[xT,.int .i64 0]),vu9,vu10,vu11,by simp only [Act.put,xL4,xL5,xL6],hbu,fun h => fu0 (mark_of (by decide) h),fun h => fu1 (mark_of (by decide) h),fun h => fu2 (mark_of (by decide) h),fun h => fu3 (mark_of (by decide) h),fun h => fu4 (mark_of (by decide) h),fun h => fu5 (mark_of (by decide) h),fun h => fu6 (mark_of (by decide) h),fun h => fu7 (mark_of (by decide) h),fun _ => ⟨xT,rfl,hxT⟩,fun h => fu9 (mark_of (by decide) h),fun h => fu10 (mark_of (by decide) h),fun h => fu11 (mark_of (by decide) h)⟩
        ·have T8 := fu8 (dep_of 8 hru rfl (by kernel_rfl))
         obtain ⟨xT,rfl,hxT⟩ := T8
         refine wpOp_shut (by rfl) (fun K hK => ?_)
         simp only [Act.put,xL4,xL5,xL6]
         go_simp
         exact hK.out _ _ ⟨vu0,vu1,vu2,vu3,vu4,vu5,vu6,vu7,(.tuple #[xT,.int .i64 0]),xT,vu10,vu11,by simp only [Act.put,xL4,xL5,xL6],hbu,fun h => fu0 (mark_of (by decide) h),fun h => fu1 (mark_of (by decide) h),fun h => fu2 (mark_of (by decide) h),fun h => fu3 (mark_of (by decide) h),fun h => fu4 (mark_of (by decide) h),fun h => fu5 (mark_of (by decide) h),fun h => fu6 (mark_of (by decide) h),fun h => fu7 (mark_of (by decide) h),fun h => fu8 (mark_of (by decide) h),fun _ => hxT,fun h => fu10 (mark_of (by decide) h),fun h => fu11 (mark_of (by decide) h)⟩
        ·have T8 := fu8 (dep_of 8 hru rfl (by kernel_rfl))
         obtain ⟨xT,rfl,hxT⟩ := T8
         refine wpOp_shut (by rfl) (fun K hK => ?_)
         simp only [Act.put,xL4,xL5,xL6]
         go_simp
         exact hK.out _ _ ⟨vu0,vu1,vu2,vu3,vu4,vu5,vu6,vu7,(.tuple #[xT,.int .i64 0]),vu9,(.int .i64 0),vu11,by simp only [Act.put,xL4,xL5,xL6],hbu,fun h => fu0 (mark_of (by decide) h),fun h => fu1 (mark_of (by decide) h),fun h => fu2 (mark_of (by decide) h),fun h => fu3 (mark_of (by decide) h),fun h => fu4 (mark_of (by decide) h),fun h => fu5 (mark_of (by decide) h),fun h => fu6 (mark_of (by decide) h),fun h => fu7 (mark_of (by decide) h),fun h => fu8 (mark_of (by decide) h),fun h => fu9 (mark_of (by decide) h),fun _ => rfl,fun h => fu11 (mark_of (by decide) h)⟩
        ·refine wpOp_shut (by rfl) (fun K hK => ?_)
         simp only [Act.put,xL4,xL5,xL6]
         go_simp
         obtain ⟨wx,hWx,hSx,bu,VXu⟩ := V3.lay wn 42 (.bool false) (.slice none 0 0) (.slice none 0 0)
         rw [← hWx]
         have hbu2 := hbu.trans (bu.mono hbu.size)
         exact hK.out _ _ ⟨vu0,vu1,vu2,vu3,vu4,vu5,vu6,vu7,vu8,vu9,vu10,_,by simp only [Act.put,xL4,xL5,xL6],hbu2,fun h => fu0 (mark_of (by decide) h),fun h => fu1 (mark_of (by decide) h),fun h => fu2 (mark_of (by decide) h),fun h => fu3 (mark_of (by decide) h),fun h => fu4 (mark_of (by decide) h),fun h => fu5 (mark_of (by decide) h),fun h => fu6 (mark_of (by decide) h),fun h => (fu7 (mark_of (by decide) h)).below bu,fun h => (fu8 (mark_of (by decide) h)).below bu,fun h => (fu9 (mark_of (by decide) h)).below bu,fun h => fu10 (mark_of (by decide) h),fun _ => ⟨_,rfl,hbu.size,VXu⟩⟩
       ·rintro au wn ⟨vu0,vu1,vu2,vu3,vu4,vu5,vu6,vu7,vu8,vu9,vu10,vu11,rfl,hbu,fu0,fu1,fu2,fu3,fu4,fu5,fu6,fu7,fu8,fu9,fu10,fu11⟩ hfin
        have T8 := fu8 rfl
        obtain ⟨xT,rfl,hxT⟩ := T8
        simp only [Act.put,xL4,xL5,xL6]
        refine wpAnyH_take (i := 10) (v := .int .i64 0) (by simp only [xL1,xL2,xL3]; rfl) (by kernel_rfl) (by kernel_rfl) (by kernel_rfl) (by exact fun _ _ _ h => h) (Or.inl ⟨by rfl,?_⟩) trivial ?_
        ·(intro w hSw; go_simp; (try with_reducible rfl))
        simp only [Act.put,xL4,xL5,xL6]
        exact hfin _ _ ⟨vu0,vu1,vu2,vu3,vu4,vu5,vu6,vu7,(.tuple #[xT,.int .i64 0]),vu9,(.int .i64 0),vu11,by simp only [Act.put,xL4,xL5,xL6],hbu,fun _ => fu0 rfl,fun _ => fu1 rfl,fun _ => fu2 rfl,fun _ => fu3 rfl,fun _ => fu4 rfl,fun _ => fu5 rfl,fun _ => fu6 rfl,fun _ => fu7 rfl,fun _ => fu8 rfl,fun _ => fu9 rfl,fun _ => rfl,fun _ => fu11 rfl⟩
       rintro au Wu31 ⟨vu0,vu1,vu2,vu3,vu4,vu5,vu6,vu7,vu8,vu9,vu10,vu11,rfl,hbu,fu0,fu1,fu2,fu3,fu4,fu5,fu6,fu7,fu8,fu9,fu10,fu11⟩
       have eu0 := (fu0 rfl).symm
       subst eu0
       have eu1 := (fu1 rfl).symm
       subst eu1
       have eu2 := (fu2 rfl).symm
       subst eu2
       have eu3 := (fu3 rfl).symm
       subst eu3
       have eu4 := (fu4 rfl).symm
       subst eu4
       have eu5 := (fu5 rfl).symm
       subst eu5
       have eu6 := (fu6 rfl).symm
       subst eu6
       have T7 := fu7 rfl
       have T8 := fu8 rfl
       have hq := fu9 rfl
       have eu10 := (fu10 rfl).symm
       subst eu10
       obtain ⟨RVY,rfl,hRVY,VY⟩ := fu11 rfl
       clear fu0 fu1 fu2 fu3 fu4 fu5 fu6 fu7 fu8 fu9 fu10 fu11
       have hlVR : w.heap.size < W7.heap.size := VR.lt
       have hlVX : RX < W7.heap.size := VX.lt
       have hlXK : b < W7.heap.size := XK.lt
       obtain ⟨p9,a9,n9,c9,y9,m9,d9,rfl⟩ := hq.open
       simp only [Act.put,xL4,xL5,xL6]
       refine xR [12] (h := ?_)
       refine AllReadyH.cons (by rfl) (fun K hK => ?_) AllReadyH.nil
       have hKp := VY.keepJ (.bool p9) (.slice a9 n9 c9) (.slice y9 m9 d9)
       have VY_n := VY.same (.bool p9) (.slice a9 n9 c9) (.slice y9 m9 d9)
       have T7_n := T7.keep hKp
       have T8_n := T8.keep hKp
       have hq_n := hq.keep hKp
       have hbu_n := below_store3 (R := RVY) hbu (by omega) (.bool p9) (.slice a9 n9 c9) (.slice y9 m9 d9)
       clear hKp
       obtain ⟨VY_0,VY_1,VY_2,VY_3,VY_4,VY_5⟩ := id VY
       go_simp
       clear VY_0 VY_1 VY_2 VY_3 VY_4 VY_5
       clear hbu T7 T8 hq VY
       generalize ((Wu31.setCell ⟨RVY,0,none⟩ (.bool p9)).setCell ⟨RVY,1,none⟩ (.slice a9 n9 c9)).setCell ⟨RVY,2,none⟩ (.slice y9 m9 d9) = W32 at *
       have hbu := hbu_n
       have T7 := T7_n
       have T8 := T8_n
       have hq := hq_n
       have VY := VY_n
       clear hbu_n T7_n T8_n hq_n VY_n
       refine hK.out _ _ trivial (fun _ => ?_)
       clear hK K
       simp only [Act.put,xL4,xL5,xL6]
       refine xR [13] (h := ?_)
       refine AllReadyH.cons (by rfl) (fun K hK => ?_) AllReadyH.nil
       go_simp
       refine hK.out _ _ trivial (fun _ => ?_)
       clear hK K
       simp only [Act.put,xL4,xL5,xL6]
       replace h4 := h4.below hbu
       replace BX := BX.below hbu
       replace VN := VN.below hbu
       replace r3K := r3K.below hbu
       replace r3 := r3.below hbu
       replace hT := hT.below hbu
       replace VR := VR.below hbu
       replace VX := VX.below hbu
       replace XK := XK.below hbu
       replace BB := BB.xm hbu
       clear hbu
       refine wpAnyH_done (by kernel_rfl) ?_ _
       clear T7 T8 r3K r3 XK VN
       obtain ⟨VX_0,VX_1,VX_2,VX_3,VX_4,VX_5⟩ := id VX
       obtain ⟨VY_0,VY_1,VY_2,VY_3,VY_4,VY_5⟩ := id VY
       go_wp2_with fail
       clear VX_0 VX_1 VX_2 VX_3 VX_4 VX_5 VY_0 VY_1 VY_2 VY_3 VY_4 VY_5
       refine (qmul_at _ _ q1 ((t lr).cov / (t x).cov) (M + M) _ (h4.at _ (Nat.le_trans HQ1.out (by omega))) (hq.at _ (Nat.le_trans HR1.out (by omega))) (by omega) (by omega) hT).mono ?_
       rintro e w11 ⟨v5,rfl,h5,b11⟩
       replace h4 := h4.below b11
       replace BX := BX.below b11
       replace hT := hT.below b11
       replace hq := hq.below b11
       replace VR := VR.below b11
       replace VX := VX.below b11
       replace VY := VY.below b11
       replace BB := BB.xm b11
       clear b11
       obtain ⟨p5,a5,n5,c5,y5,m5,d5,rfl⟩ := h5.open
       clear hq h4 VY hT
       have hKp := VX.keepJ (.bool p5) (.slice a5 n5 c5) (.slice y5 m5 d5)
       have VR_n := VR.other3 (R := RX) hNR (.bool p5) (.slice a5 n5 c5) (.slice y5 m5 d5)
       have VX_n := VX.same (.bool p5) (.slice a5 n5 c5) (.slice y5 m5 d5)
       have h5_n := h5.keep hKp
       have BX_n := BX.put (.bool p5) (.slice a5 n5 c5) (.slice y5 m5 d5)
       have BB_n := below_store3 (R := RX) BB hNW (.bool p5) (.slice a5 n5 c5) (.slice y5 m5 d5)
       clear hKp
       obtain ⟨x0,x1,x2,x3,x4,x5⟩ := id VX
       cases ok1
       ·go_wp2
        clear x0 x1 x2 x3 x4 x5 VX VR BX BB h5
        generalize (((w11.setCell ⟨RX,0,none⟩ (.bool p5)).setCell ⟨RX,1,none⟩ (.slice a5 n5 c5)).setCell ⟨RX,2,none⟩ (.slice y5 m5 d5)) = W9 at *
        have VX := VX_n
        have VR := VR_n
        have BX := BX_n
        have BB := BB_n
        have h5 := h5_n
        clear VX_n VR_n BX_n BB_n h5_n
        have hDr : Below W9.heap.size W9 W9.drew := (Below.refl _ _).drew
        replace h5 := h5.below hDr
        replace BX := BX.below hDr
        replace VR := VR.below hDr
        replace VX := VX.below hDr
        replace BB := BB.xm hDr
        clear hDr
        refine wp_region_held_drew (S := (fun w' => True)) (by kernel_rfl) ?_ (fun hHeld => ?_)
        ·trivial
        generalize W9.drew = W33 at *
        refine xV 0 (h := ?_)
        refine xV 1 (h := ?_)
        refine xT 2 (v := undef) (hy := Or.inr ⟨by rfl,rfl⟩) (h := ?_)
        (try simp only [Act.put,xL4,xL5,xL6])
        refine xT 3 (v := undef) (hy := Or.inr ⟨by rfl,rfl⟩) (h := ?_)
        (try simp only [Act.put,xL4,xL5,xL6])
        refine xT 4 (v := undef) (hy := Or.inr ⟨by rfl,rfl⟩) (h := ?_)
        (try simp only [Act.put,xL4,xL5,xL6])
        refine xT 5 (v := undef) (hy := Or.inr ⟨by rfl,rfl⟩) (h := ?_)
        (try simp only [Act.put,xL4,xL5,xL6])
        refine xT 6 (v := undef) (hy := Or.inr ⟨by rfl,rfl⟩) (h := ?_)
        (try simp only [Act.put,xL4,xL5,xL6])
        refine xT 7 (v := undef) (hy := Or.inr ⟨by rfl,rfl⟩) (h := ?_)
        (try simp only [Act.put,xL4,xL5,xL6])
        refine xT 8 (v := undef) (hy := Or.inr ⟨by rfl,rfl⟩) (h := ?_)
        (try simp only [Act.put,xL4,xL5,xL6])
        refine xT 9 (v := undef) (hy := Or.inr ⟨by rfl,rfl⟩) (h := ?_)
        (try simp only [Act.put,xL4,xL5,xL6])
        refine xT 10 (v := undef) (hy := Or.inr ⟨by rfl,rfl⟩) (h := ?_)
        (try simp only [Act.put,xL4,xL5,xL6])
        refine xV 11 (h := ?_)
        refine xV 12 (h := ?_)
        refine wpAnyH_done (by kernel_rfl) ?_ _
        clear hHeld
        clear BX
        have hKp := VR.keepJ (.bool p5) (.slice a5 n5 c5) (.slice y5 m5 d5)
        have h5_n := h5.keep hKp
        have BB_n := below_store3 (R := w.heap.size) BB (by omega) (.bool p5) (.slice a5 n5 c5) (.slice y5 m5 d5)
        clear hKp
        obtain ⟨VX_0,VX_1,VX_2,VX_3,VX_4,VX_5⟩ := id VX
        obtain ⟨q1,q2,q3,q4,q5,q6⟩ := id VR
        repeat go_step
        (try simp only [Exit.inBlock,Exit.then])
        refine bodyPost_ret (v := .tuple #[.agg #[.bool p5,.slice a5 n5 c5,.slice y5 m5 d5],.bool true,.bool true,.bool false]) (by simp [results,go_sem,q1,q2,q3]) rfl ?_
        rw [HX.out]
        exact ⟨_,rfl,h5_n,BB_n⟩
       ·go_wp2
        clear x0 x1 x2 x3 x4 x5 VX VR BX BB h5
        generalize (((w11.setCell ⟨RX,0,none⟩ (.bool p5)).setCell ⟨RX,1,none⟩ (.slice a5 n5 c5)).setCell ⟨RX,2,none⟩ (.slice y5 m5 d5)) = W9 at *
        have VX := VX_n
        have VR := VR_n
        have BX := BX_n
        have BB := BB_n
        have h5 := h5_n
        clear VX_n VR_n BX_n BB_n h5_n
        have VN := HN0.out.below BX.out
        have hr := HR0.out.below BX.out
        have r1 := HC1.out.below BX.out
        obtain ⟨b4,off4,c94,p4,a4,n4,c4,bb4,m4,d4,hv4,hcc4,hc64,X0,X1,X2,X3,r4⟩ := hr.at hfl
        cases hv4
        obtain ⟨cm,hcm⟩ : ∃ z,(r fn).miss = z := ⟨_,rfl⟩
        rw [hcm] at X0 HCON
        clear hcm
        have QC : Quad10 W9 b4 (off4 + fn * 4) (.bool cm) (.bool p4) (.slice a4 n4 c4) (.slice bb4 m4 d4) := ⟨X0,X1,X2,X3⟩
        clear X0 X1 X2 X3 hr
        have hDr : Below W9.heap.size W9 W9.drew := (Below.refl _ _).drew
        replace h5 := h5.below hDr
        replace BX := BX.below hDr
        replace VN := VN.below hDr
        replace r1 := r1.below hDr
        replace r4 := r4.below hDr
        replace QC := QC.below hDr
        replace VR := VR.below hDr
        replace VX := VX.below hDr
        replace BB := BB.xm hDr
        clear hDr
        refine wp_region_held_drew (S := (fun w' => w'.cell? ⟨R0,0,none⟩ = some (.bool false) ∧ w'.cell? ⟨R0,1,none⟩ = some (.int .i64 (fn : Int)) ∧ w'.cell? ⟨R0,2,none⟩ = some (.bool p1) ∧ w'.cell? ⟨R0,3,none⟩ = some (.slice a1 n1 c1) ∧ w'.cell? ⟨R0,4,none⟩ = some (.slice b1 m1 d1) ∧ w'.cell? ⟨R0,5,none⟩ = some (.int .i64 (lr : Int)) ∧ w'.cell? ⟨R0,6,none⟩ = some (.int .i64 (rr : Int)) ∧ w'.cell? ⟨R0,7,none⟩ = some (.bool ms) ∧ w'.cell? ⟨R0,8,none⟩ = some (.bool p2) ∧ w'.cell? ⟨R0,9,none⟩ = some (.slice a2 n2 c2) ∧ w'.cell? ⟨R0,10,none⟩ = some (.slice b2 m2 d2) ∧ w'.cell? ⟨R0,11,none⟩ = some (.bool p3) ∧ w'.cell? ⟨R0,12,none⟩ = some (.slice a3 n3 c3) ∧ w'.cell? ⟨R0,13,none⟩ = some (.slice b3 m3 d3) ∧ w'.cell? ⟨b4,off4 + fn * 4,none⟩ = some (.bool cm) ∧ w'.cell? ⟨b4,off4 + fn * 4 + 1,none⟩ = some (.bool p4) ∧ w'.cell? ⟨b4,off4 + fn * 4 + 2,none⟩ = some (.slice a4 n4 c4) ∧ w'.cell? ⟨b4,off4 + fn * 4 + 3,none⟩ = some (.slice bb4 m4 d4))) (by kernel_rfl) ?_ (fun hHeld => ?_)
        ·exact ⟨VN.c0,VN.c1,VN.c2,VN.c3,VN.c4,VN.c5,VN.c6,VN.c7,VN.c8,VN.c9,VN.c10,VN.c11,VN.c12,VN.c13,QC.out.1,QC.out.2.1,QC.out.2.2.1,QC.out.2.2.2⟩
        generalize W9.drew = W33 at *
        refine xV 0 (h := ?_)
        refine xV 1 (h := ?_)
        refine xV 2 (h := ?_)
        refine xV 3 (h := ?_)
        refine xV 4 (h := ?_)
        refine xV 5 (h := ?_)
        refine xV 6 (h := ?_)
        refine xV 8 (h := ?_)
        refine xV 9 (h := ?_)
        refine xR [7] (h := ?_)
        refine xN (h := fun K hK => ?_)
        go_simp
        refine (HCON.out _ r1 _ _ _ _ _ _ _ r4).mono ?_
        rintro e w12 ⟨rfl,b12⟩
        go_wp2_with fail
        replace h5 := h5.below b12
        replace BX := BX.below b12
        replace VN := VN.below b12
        replace r1 := r1.below b12
        replace r4 := r4.below b12
        replace QC := QC.below b12
        replace VR := VR.below b12
        replace VX := VX.below b12
        replace BB := BB.xm b12
        clear b12
        refine hK.out _ _ ?_ (fun hH1 => ?_)
        ·exact ⟨VN.c0,VN.c1,VN.c2,VN.c3,VN.c4,VN.c5,VN.c6,VN.c7,VN.c8,VN.c9,VN.c10,VN.c11,VN.c12,VN.c13,QC.out.1,QC.out.2.1,QC.out.2.2.1,QC.out.2.2.2⟩
        clear hK K hHeld
        (try simp only [Act.put,xL4,xL5,xL6])
        refine xV 10 (h := ?_)
        refine xV 11 (h := ?_)
        refine xV 12 (h := ?_)
        refine wpAnyH_done (by kernel_rfl) ?_ _
        clear hH1
        clear VN r1 r4 QC BX
        have hKp := VR.keepJ (.bool p5) (.slice a5 n5 c5) (.slice y5 m5 d5)
        have h5_n := h5.keep hKp
        have BB_n := below_store3 (R := w.heap.size) BB (by omega) (.bool p5) (.slice a5 n5 c5) (.slice y5 m5 d5)
        clear hKp
        obtain ⟨VX_0,VX_1,VX_2,VX_3,VX_4,VX_5⟩ := id VX
        obtain ⟨q1,q2,q3,q4,q5,q6⟩ := id VR
        repeat go_step
        (try simp only [Exit.inBlock,Exit.then])
        refine bodyPost_ret (v := .tuple #[.agg #[.bool p5,.slice a5 n5 c5,.slice y5 m5 d5],.bool true,.bool true,.bool (gl == true)]) (by simp [results,go_sem,q1,q2,q3]) rfl ?_
        rw [HX.out]
        exact ⟨_,rfl,h5_n,BB_n⟩
      ·have HX : Hid (shr t n r y f x = ⟨q1,true,as1,ok1⟩) := HE1.out rfl hff
       have t1 : ¬ (fn : Int) = (f : Int) := by omega
       have t2 : decide ((fn : Int) = (f : Int)) = false := decide_eq_false t1
       have t3 : ((fn : Int) == (f : Int)) = false := by simp; omega
       have VN := HN0.out.below BX.out
       obtain ⟨W7,hW7,hS7,hL7,VX⟩ := V3.lay w11 42 (.bool p6) (.slice a6 n6 c6) (.slice y6 m6 d6)
       replace h4 := h4.below hL7
       replace VN := VN.below hL7
       replace VR := VR.below hL7
       replace BB := BB.xm hL7
       clear hL7
       have hKp := VR.keepJ (.bool p6) (.slice a6 n6 c6) (.slice y6 m6 d6)
       have h4_n := h4.keep hKp
       have BB_n := below_store3 (R := w.heap.size) BB (by omega) (.bool p6) (.slice a6 n6 c6) (.slice y6 m6 d6)
       clear hKp
       obtain ⟨x0,x1,x2,x3,x4,x5⟩ := id VX
       obtain ⟨z0,z1,z2,z3,z4,z5⟩ := id VR
       obtain ⟨V_0,V_1,V_2,V_3,V_4,V_5,V_6,V_7,V_8,V_9,V_10,V_11,V_12,V_13⟩ := id VN
       rw [hW7] at x0 x1 x2 x3 x4 x5 z0 z1 z2 z3 z4 z5 V_0 V_1 V_2 V_3 V_4 V_5 V_6 V_7 V_8 V_9 V_10 V_11 V_12 V_13
       clear VN VX BX hff
       dsimp only; repeat go_step
       (try simp only [Exit.inBlock,Exit.then])
       refine bodyPost_ret (v := .tuple #[.agg #[.bool p6,.slice a6 n6 c6,.slice y6 m6 d6],.bool true,.bool as1,.bool ok1]) (by simp [results,go_sem,z0,z1,z2]) rfl ?_
       rw [← hW7,HX.out]
       exact ⟨_,rfl,h4_n,BB_n⟩
    ·obtain rfl : sd = 1 := by omega
     have HI1 : Hid (is1 = false) := HA.out (by omega)
     have sv : ((1 : Nat) : Int) = 1 := rfl
     rw [sv]
     clear sv HA HB hsd
     have HT0 : Hid (TRow wr (.slice (some ⟨b,off,none⟩) n ct) n t L) := ht
     have HR0 : Hid (CRow wr (.slice ar nr cr) nr r L) := hr
     have HC1 : Hid (RatAt wr (.agg #[.bool p1,.slice a1 n1 c1,.slice b1 m1 d1]) (t x).cut L) := r1
     have HC3 : Hid (RatAt wr (.agg #[.bool p3,.slice a3 n3 c3,.slice b3 m3 d3]) (t x).cov L) := r3
     have HN0 : Hid (V14 wr R0 (.bool false) (.int .i64 (fn : Int)) (.bool p1) (.slice a1 n1 c1) (.slice b1 m1 d1) (.int .i64 (lr : Int)) (.int .i64 (rr : Int)) (.bool ms) (.bool p2) (.slice a2 n2 c2) (.slice b2 m2 d2) (.bool p3) (.slice a3 n3 c3) (.slice b3 m3 d3)) := VN
     have HTB : Hid (Tab wr) := hT
     have hRw : R0 < wr.heap.size := World.block_lt_of_cell? _ _ VN.c0
     obtain ⟨V_0,V_1,V_2,V_3,V_4,V_5,V_6,V_7,V_8,V_9,V_10,V_11,V_12,V_13⟩ := id VN
     go_wp2_with fail
     clear V_0 V_1 V_2 V_3 V_4 V_5 V_6 V_7 V_8 V_9 V_10 V_11 V_12 V_13
     clear VN r1 r3
     refine (IH2.out _ ht hr hT).mono ?_
     rintro e w11 ⟨v4,rfl,h4,b4⟩
     clear ht hr hT
     have BX : BwS w11.heap.size wr w11 := ⟨b4,b4.size⟩
     replace VR := VR.below b4
     replace BB := BB.xm b4
     have hRw2 : R0 < w11.heap.size := Nat.lt_of_lt_of_le hRw b4.size
     clear b4 hRw
     obtain ⟨p6,a6,n6,c6,y6,m6,d6,rfl⟩ := h4.open
     have hnot : ∀ (x : Bool) (w : World),(Op.unary .not (.bool x)).run Tryz.prog w = .ok (.bool (!x)) w := fun _ _ => rfl
     cases is2
     ·have hZ31 : w.heap.size ≤ w11.heap.size := BB.size
      have hN31VR : w.heap.size ≠ w11.heap.size := Nat.ne_of_lt VR.lt
      obtain ⟨W31,hW31,hS31,hL31,VX⟩ := V3.lay w11 42 (.bool p6) (.slice a6 n6 c6) (.slice y6 m6 d6)
      replace h4 := h4.below hL31
      replace BX := BX.below hL31
      replace VR := VR.below hL31
      replace BB := BB.xm hL31
      clear hL31
      go_wp2
      rw [← hW31]
      generalize w11.heap.size = R31 at *
      clear hW31 hS31
      go_roundw
      case rel => exact ⟨2,by omega,by go_num,fun _ => HI1.out,fun h => (by first | rfl | trivial),HT0.out.below BX.out,HR0.out.below BX.out,HTB.out.below BX.out,HC1.out.below BX.out,HC3.out.below BX.out,VR,HN0.out.below BX.out,BB⟩
      case measure => simp [intOf]
     ·by_cases hff : fn = f
      ·subst hff
       have HX : Hid (shr t n r y fn x = ⟨q2 * ((t rr).cov / (t x).cov),true,true,ok2 && (gl == false)⟩) := HG2.out HI1.out rfl rfl
       have t2 : decide ((fn : Int) = (fn : Int)) = true := decide_eq_true rfl
       have t3 : ((fn : Int) == (fn : Int)) = true := by simp
       have VN := HN0.out.below BX.out
       have hNR : w.heap.size ≠ w11.heap.size := Nat.ne_of_lt VR.lt
       have hNW : w.heap.size ≤ w11.heap.size := BB.size
       obtain ⟨W7,hW7,hS7,hL7,VX⟩ := V3.lay w11 42 (.bool p6) (.slice a6 n6 c6) (.slice y6 m6 d6)
       replace h4 := h4.below hL7
       replace BX := BX.below hL7
       replace VR := VR.below hL7
       replace VN := VN.below hL7
       replace BB := BB.xm hL7
       clear hL7
       obtain ⟨V_0,V_1,V_2,V_3,V_4,V_5,V_6,V_7,V_8,V_9,V_10,V_11,V_12,V_13⟩ := id VN
       rw [hW7] at V_0 V_1 V_2 V_3 V_4 V_5 V_6 V_7 V_8 V_9 V_10 V_11 V_12 V_13
       go_wp2
       clear V_0 V_1 V_2 V_3 V_4 V_5 V_6 V_7 V_8 V_9 V_10 V_11 V_12 V_13
       rw [← hW7]
       generalize w11.heap.size = RX at *
       clear hW7 hS7
       obtain ⟨bK,oK,ccK,p1K,a1K,n1K,c1K,b1K,m1K,d1K,p2K,a2K,n2K,c2K,b2K,m2K,d2K,p3K,a3K,n3K,c3K,b3K,m3K,d3K,hvvK,hccK,hc6K,NNK,r1K,r2K,r3K,i1K,i2K,i3K⟩ := (HT0.out.below BX.out).at k4
       cases hvvK
       have XK : E3 W7 b (off + rr * 14 + 11) _ _ _ := ⟨NNK.c11,NNK.c12,NNK.c13⟩
       clear NNK r1K r2K i1K i2K i3K hccK hc6K
       have r3 := HC3.out.below BX.out
       have hT := HTB.out.below BX.out
       refine wp_region_float 12 10 #[true,true,true,true,true,true,true,true,true,true,true,true,false,false] #[true,true,true,true,true,true,true,true,true,true,false,true,false,false] (fun aF lsd a' w' => ∃ vu0 vu1 vu2 vu3 vu4 vu5 vu6 vu7 vu8 vu9 vu10 vu11 : Value,a' = (((((((((((aF.put (some 61) vu0).put (some 62) vu1).put (some 63) vu2).put (some 64) vu3).put (some 65) vu4).put (some 66) vu5).put (some 67) vu6).put (some 68) vu7).put (some 60) vu8).put (some 69) vu9).put (some 70) vu10).put (some 21) vu11 ∧ Below W7.heap.size W7 w' ∧ (lsd.getD 0 false = true → vu0 = .slice (some ⟨b,off,none⟩) n ct) ∧ (lsd.getD 1 false = true → vu1 = .int .i64 (rr : Int)) ∧ (lsd.getD 2 false = true → vu2 = .pointer (some ⟨b,off + rr * 14,none⟩)) ∧ (lsd.getD 3 false = true → vu3 = .pointer (some ⟨b,off + rr * 14 + 11,none⟩)) ∧ (lsd.getD 4 false = true → vu4 = .agg #[.bool p3K,.slice a3K n3K c3K,.slice b3K m3K d3K]) ∧ (lsd.getD 5 false = true → vu5 = .pointer (some ⟨R0,11,none⟩)) ∧ (lsd.getD 6 false = true → vu6 = .agg #[.bool p3,.slice a3 n3 c3,.slice b3 m3 d3]) ∧ (lsd.getD 7 false = true → Tup11 w' vu7 ((t rr).cov / (t x).cov)) ∧ (lsd.getD 8 false = true → Tup11 w' vu8 ((t rr).cov / (t x).cov)) ∧ (lsd.getD 9 false = true → RepQ w' vu9 ((t rr).cov / (t x).cov)) ∧ (lsd.getD 10 false = true → vu10 = .int .i64 0) ∧ (lsd.getD 11 false = true → New3 W7.heap.size w' vu11 (.bool false) (.slice none 0 0) (.slice none 0 0))) (by kernel_rfl) (by decide) (by kernel_rfl) (by rfl) (by kernel_rfl) (by rfl) (by kernel_rfl) (by decide) ?_ ?_ ?_ ?_
       ·exact ⟨_,_,_,_,_,_,_,_,_,_,_,_,by simp only [Act.put,xL4,xL5,xL6]; rfl,(Below.refl _ _).drew,fun h => absurd h (fun h => mark_none h),fun h => absurd h (fun h => mark_none h),fun h => absurd h (fun h => mark_none h),fun h => absurd h (fun h => mark_none h),fun h => absurd h (fun h => mark_none h),fun h => absurd h (fun h => mark_none h),fun h => absurd h (fun h => mark_none h),fun h => absurd h (fun h => mark_none h),fun h => absurd h (fun h => mark_none h),fun h => absurd h (fun h => mark_none h),fun h => absurd h (fun h => mark_none h),fun h => absurd h (fun h => mark_none h)⟩
       ·rintro lsd au wn iu hszu ⟨vu0,vu1,vu2,vu3,vu4,vu5,vu6,vu7,vu8,vu9,vu10,vu11,rfl,hbu,fu0,fu1,fu2,fu3,fu4,fu5,fu6,fu7,fu8,fu9,fu10,fu11⟩ himu hru
        rcases (show iu = 0 ∨ iu = 1 ∨ iu = 2 ∨ iu = 3 ∨ iu = 4 ∨ iu = 5 ∨ iu = 6 ∨ iu = 7 ∨ iu = 8 ∨ iu = 9 ∨ iu = 10 ∨ iu = 11 by omega) with rfl | rfl | rfl | rfl | rfl | rfl | rfl | rfl | rfl | rfl | rfl | rfl
        ·refine wpOp_shut (by rfl) (fun K hK => ?_)
         simp only [Act.put,xL4,xL5,xL6]
         go_simp
         exact hK.out _ _ ⟨(.slice (some ⟨b,off,none⟩) n ct),vu1,vu2,vu3,vu4,vu5,vu6,vu7,vu8,vu9,vu10,vu11,by simp only [Act.put,xL4,xL5,xL6],hbu,fun _ => rfl,fun h => fu1 (mark_of (by decide) h),fun h => fu2 (mark_of (by decide) h),fun h => fu3 (mark_of (by decide) h),fun h => fu4 (mark_of (by decide) h),fun h => fu5 (mark_of (by decide) h),fun h => fu6 (mark_of (by decide) h),fun h => fu7 (mark_of (by decide) h),fun h => fu8 (mark_of (by decide) h),fun h => fu9 (mark_of (by decide) h),fun h => fu10 (mark_of (by decide) h),fun h => fu11 (mark_of (by decide) h)⟩
        ·refine wpOp_shut (by rfl) (fun K hK => ?_)
         simp only [Act.put,xL4,xL5,xL6]
         go_simp
         exact hK.out _ _ ⟨vu0,(.int .i64 (rr : Int)),vu2,vu3,vu4,vu5,vu6,vu7,vu8,vu9,vu10,vu11,by simp only [Act.put,xL4,xL5,xL6],hbu,fun h => fu0 (mark_of (by decide) h),fun _ => rfl,fun h => fu2 (mark_of (by decide) h),fun h => fu3 (mark_of (by decide) h),fun h => fu4 (mark_of (by decide) h),fun h => fu5 (mark_of (by decide) h),fun h => fu6 (mark_of (by decide) h),fun h => fu7 (mark_of (by decide) h),fun h => fu8 (mark_of (by decide) h),fun h => fu9 (mark_of (by decide) h),fun h => fu10 (mark_of (by decide) h),fun h => fu11 (mark_of (by decide) h)⟩
        ·have eu0 := fu0 (dep_of 0 hru rfl (by kernel_rfl))
         have eu1 := fu1 (dep_of 1 hru rfl (by kernel_rfl))
         replace eu0 := eu0.symm
         subst eu0
         replace eu1 := eu1.symm
         subst eu1
         refine wpOp_shut (by rfl) (fun K hK => ?_)
         simp only [Act.put,xL4,xL5,xL6]
         go_simp
         exact hK.out _ _ ⟨(.slice (some ⟨b,off,none⟩) n ct),(.int .i64 (rr : Int)),(.pointer (some ⟨b,off + rr * 14,none⟩)),vu3,vu4,vu5,vu6,vu7,vu8,vu9,vu10,vu11,by simp only [Act.put,xL4,xL5,xL6],hbu,fun _ => rfl,fun _ => rfl,fun _ => rfl,fun h => fu3 (mark_of (by decide) h),fun h => fu4 (mark_of (by decide) h),fun h => fu5 (mark_of (by decide) h),fun h => fu6 (mark_of (by decide) h),fun h => fu7 (mark_of (by decide) h),fun h => fu8 (mark_of (by decide) h),fun h => fu9 (mark_of (by decide) h),fun h => fu10 (mark_of (by decide) h),fun h => fu11 (mark_of (by decide) h)⟩
        ·have eu2 := fu2 (dep_of 2 hru rfl (by kernel_rfl))
         replace eu2 := eu2.symm
         subst eu2
         refine wpOp_shut (by rfl) (fun K hK => ?_)
         simp only [Act.put,xL4,xL5,xL6]
         go_simp
         exact hK.out _ _ ⟨vu0,vu1,(.pointer (some ⟨b,off + rr * 14,none⟩)),(.pointer (some ⟨b,off + rr * 14 + 11,none⟩)),vu4,vu5,vu6,vu7,vu8,vu9,vu10,vu11,by simp only [Act.put,xL4,xL5,xL6],hbu,fun h => fu0 (mark_of (by decide) h),fun h => fu1 (mark_of (by decide) h),fun _ => rfl,fun _ => rfl,fun h => fu4 (mark_of (by decide) h),fun h => fu5 (mark_of (by decide) h),fun h => fu6 (mark_of (by decide) h),fun h => fu7 (mark_of (by decide) h),fun h => fu8 (mark_of (by decide) h),fun h => fu9 (mark_of (by decide) h),fun h => fu10 (mark_of (by decide) h),fun h => fu11 (mark_of (by decide) h)⟩
        ·have eu3 := fu3 (dep_of 3 hru rfl (by kernel_rfl))
         replace eu3 := eu3.symm
         subst eu3
         refine wpOp_shut (by rfl) (fun K hK => ?_)
         simp only [Act.put,xL4,xL5,xL6]
         obtain ⟨XK_0,XK_1,XK_2⟩ := XK.below hbu
         go_simp
         exact hK.out _ _ ⟨vu0,vu1,vu2,(.pointer (some ⟨b,off + rr * 14 + 11,none⟩)),(.agg #[.bool p3K,.slice a3K n3K c3K,.slice b3K m3K d3K]),vu5,vu6,vu7,vu8,vu9,vu10,vu11,by simp only [Act.put,xL4,xL5,xL6],hbu,fun h => fu0 (mark_of (by decide) h),fun h => fu1 (mark_of (by decide) h),fun h => fu2 (mark_of (by decide) h),fun _ => rfl,fun _ => rfl,fun h => fu5 (mark_of (by decide) h),fun h => fu6 (mark_of (by decide) h),fun h => fu7 (mark_of (by decide) h),fun h => fu8 (mark_of (by decide) h),fun h => fu9 (mark_of (by decide) h),fun h => fu10 (mark_of (by decide) h),fun h => fu11 (mark_of (by decide) h)⟩
        ·refine wpOp_shut (by rfl) (fun K hK => ?_)
         simp only [Act.put,xL4,xL5,xL6]
         go_simp
         exact hK.out _ _ ⟨vu0,vu1,vu2,vu3,vu4,(.pointer (some ⟨R0,11,none⟩)),vu6,vu7,vu8,vu9,vu10,vu11,by simp only [Act.put,xL4,xL5,xL6],hbu,fun h => fu0 (mark_of (by decide) h),fun h => fu1 (mark_of (by decide) h),fun h => fu2 (mark_of (by decide) h),fun h => fu3 (mark_of (by decide) h),fun h => fu4 (mark_of (by decide) h),fun _ => rfl,fun h => fu6 (mark_of (by decide) h),fun h => fu7 (mark_of (by decide) h),fun h => fu8 (mark_of (by decide) h),fun h => fu9 (mark_of (by decide) h),fun h => fu10 (mark_of (by decide) h),fun h => fu11 (mark_of (by decide) h)⟩
        ·have eu5 := fu5 (dep_of 5 hru rfl (by kernel_rfl))
         replace eu5 := eu5.symm
         subst eu5
         refine wpOp_shut (by rfl) (fun K hK => ?_)
         simp only [Act.put,xL4,xL5,xL6]
         obtain ⟨y0,y1,y2,y3,y4,y5,y6,y7,y8,y9,y10,y11,y12,y13⟩ := VN.below hbu
         go_simp
         exact hK.out _ _ ⟨vu0,vu1,vu2,vu3,vu4,(.pointer (some ⟨R0,11,none⟩)),(.agg #[.bool p3,.slice a3 n3 c3,.slice b3 m3 d3]),vu7,vu8,vu9,vu10,vu11,by simp only [Act.put,xL4,xL5,xL6],hbu,fun h => fu0 (mark_of (by decide) h),fun h => fu1 (mark_of (by decide) h),fun h => fu2 (mark_of (by decide) h),fun h => fu3 (mark_of (by decide) h),fun h => fu4 (mark_of (by decide) h),fun _ => rfl,fun _ => rfl,fun h => fu7 (mark_of (by decide) h),fun h => fu8 (mark_of (by decide) h),fun h => fu9 (mark_of (by decide) h),fun h => fu10 (mark_of (by decide) h),fun h => fu11 (mark_of (by decide) h)⟩
        ·have eu4 := fu4 (dep_of 4 hru rfl (by kernel_rfl))
         have eu6 := fu6 (dep_of 6 hru rfl (by kernel_rfl))
         replace eu4 := eu4.symm
         subst eu4
         replace eu6 := eu6.symm
         subst eu6
         refine wpOp_shut (by rfl) (fun K hK => ?_)
         simp only [Act.put,xL4,xL5,xL6]
         have r3K := r3K.below hbu
         have r3 := r3.below hbu
         have hT := hT.below hbu
         go_simp
         refine (qdiv_at _ _ (t rr).cov (t x).cov L _ r3K r3 hL (by omega) hT HCV.out).mono ?_
         rintro eu wx ⟨x12,rfl,hx12,bu⟩
         have T7 : Tup11 wx _ _ := ⟨x12,rfl,hx12⟩
         go_wp2_with fail
         have hbu2 := hbu.trans (bu.mono hbu.size)
         exact hK.out _ _ ⟨vu0,vu1,vu2,vu3,(.agg #[.bool p3K,.slice a3K n3K c3K,.slice b3K m3K d3K]),vu5,(.agg #[.bool p3,.slice a3 n3 c3,.slice b3 m3 d3]),_,vu8,vu9,vu10,vu11,by simp only [Act.put,xL4,xL5,xL6],hbu2,fun h => fu0 (mark_of (by decide) h),fun h => fu1 (mark_of (by decide) h),fun h => fu2 (mark_of (by decide) h),fun h => fu3 (mark_of (by decide) h),fun _ => rfl,fun h => fu5 (mark_of (by decide) h),fun _ => rfl,fun _ => T7,fun h => (fu8 (mark_of (by decide) h)).below bu,fun h => (fu9 (mark_of (by decide) h)).below bu,fun h => fu10 (mark_of (by decide) h),fun h => (fu11 (mark_of (by decide) h)).below bu⟩
        ·have T7 := fu7 (dep_of 7 hru rfl (by kernel_rfl))
         obtain ⟨xT,rfl,hxT⟩ := T7
         refine wpOp_shut (by rfl) (fun K hK => ?_)
         simp only [Act.put,xL4,xL5,xL6]
         go_simp
         exact hK.out _ _ ⟨vu0,vu1,vu2,vu3,vu4,vu5,vu6,(.tuple #[xT,.int .i64 0]),(.tuple #[xT,.int .i64 0]),vu9,vu10,vu11,by simp only [Act.put,xL4,xL5,xL6],hbu,fun h => fu0 (mark_of (by decide) h),fun h => fu1 (mark_of (by decide) h),fun h => fu2 (mark_of (by decide) h),fun h => fu3 (mark_of (by decide) h),fun h => fu4 (mark_of (by decide) h),fun h => fu5 (mark_of (by decide) h),fun h => fu6 (mark_of (by decide) h),fun h => fu7 (mark_of (by decide) h),fun _ => ⟨xT,rfl,hxT⟩,fun h => fu9 (mark_of (by decide) h),fun h => fu10 (mark_of (by decide) h),fun h => fu11 (mark_of (by decide) h)⟩
        ·have T8 := fu8 (dep_of 8 hru rfl (by kernel_rfl))
         obtain ⟨xT,rfl,hxT⟩ := T8
         refine wpOp_shut (by rfl) (fun K hK => ?_)
         simp only [Act.put,xL4,xL5,xL6]
         go_simp
         exact hK.out _ _ ⟨vu0,vu1,vu2,vu3,vu4,vu5,vu6,vu7,(.tuple #[xT,.int .i64 0]),xT,vu10,vu11,by simp only [Act.put,xL4,xL5,xL6],hbu,fun h => fu0 (mark_of (by decide) h),fun h => fu1 (mark_of (by decide) h),fun h => fu2 (mark_of (by decide) h),fun h => fu3 (mark_of (by decide) h),fun h => fu4 (mark_of (by decide) h),fun h => fu5 (mark_of (by decide) h),fun h => fu6 (mark_of (by decide) h),fun h => fu7 (mark_of (by decide) h),fun h => fu8 (mark_of (by decide) h),fun _ => hxT,fun h => fu10 (mark_of (by decide) h),fun h => fu11 (mark_of (by decide) h)⟩
        ·have T8 := fu8 (dep_of 8 hru rfl (by kernel_rfl))
         obtain ⟨xT,rfl,hxT⟩ := T8
         refine wpOp_shut (by rfl) (fun K hK => ?_)
         simp only [Act.put,xL4,xL5,xL6]
         go_simp
         exact hK.out _ _ ⟨vu0,vu1,vu2,vu3,vu4,vu5,vu6,vu7,(.tuple #[xT,.int .i64 0]),vu9,(.int .i64 0),vu11,by simp only [Act.put,xL4,xL5,xL6],hbu,fun h => fu0 (mark_of (by decide) h),fun h => fu1 (mark_of (by decide) h),fun h => fu2 (mark_of (by decide) h),fun h => fu3 (mark_of (by decide) h),fun h => fu4 (mark_of (by decide) h),fun h => fu5 (mark_of (by decide) h),fun h => fu6 (mark_of (by decide) h),fun h => fu7 (mark_of (by decide) h),fun h => fu8 (mark_of (by decide) h),fun h => fu9 (mark_of (by decide) h),fun _ => rfl,fun h => fu11 (mark_of (by decide) h)⟩
        ·refine wpOp_shut (by rfl) (fun K hK => ?_)
         simp only [Act.put,xL4,xL5,xL6]
         go_simp
         obtain ⟨wx,hWx,hSx,bu,VXu⟩ := V3.lay wn 42 (.bool false) (.slice none 0 0) (.slice none 0 0)
         rw [← hWx]
         have hbu2 := hbu.trans (bu.mono hbu.size)
         exact hK.out _ _ ⟨vu0,vu1,vu2,vu3,vu4,vu5,vu6,vu7,vu8,vu9,vu10,_,by simp only [Act.put,xL4,xL5,xL6],hbu2,fun h => fu0 (mark_of (by decide) h),fun h => fu1 (mark_of (by decide) h),fun h => fu2 (mark_of (by decide) h),fun h => fu3 (mark_of (by decide) h),fun h => fu4 (mark_of (by decide) h),fun h => fu5 (mark_of (by decide) h),fun h => fu6 (mark_of (by decide) h),fun h => (fu7 (mark_of (by decide) h)).below bu,fun h => (fu8 (mark_of (by decide) h)).below bu,fun h => (fu9 (mark_of (by decide) h)).below bu,fun h => fu10 (mark_of (by decide) h),fun _ => ⟨_,rfl,hbu.size,VXu⟩⟩
       ·rintro au wn ⟨vu0,vu1,vu2,vu3,vu4,vu5,vu6,vu7,vu8,vu9,vu10,vu11,rfl,hbu,fu0,fu1,fu2,fu3,fu4,fu5,fu6,fu7,fu8,fu9,fu10,fu11⟩ hfin
        have T8 := fu8 rfl
        obtain ⟨xT,rfl,hxT⟩ := T8
        simp only [Act.put,xL4,xL5,xL6]
        refine wpAnyH_take (i := 10) (v := .int .i64 0) (by simp only [xL1,xL2,xL3]; rfl) (by kernel_rfl) (by kernel_rfl) (by kernel_rfl) (by exact fun _ _ _ h => h) (Or.inl ⟨by rfl,?_⟩) trivial ?_
        ·(intro w hSw; go_simp; (try with_reducible rfl))
        simp only [Act.put,xL4,xL5,xL6]
        exact hfin _ _ ⟨vu0,vu1,vu2,vu3,vu4,vu5,vu6,vu7,(.tuple #[xT,.int .i64 0]),vu9,(.int .i64 0),vu11,by simp only [Act.put,xL4,xL5,xL6],hbu,fun _ => fu0 rfl,fun _ => fu1 rfl,fun _ => fu2 rfl,fun _ => fu3 rfl,fun _ => fu4 rfl,fun _ => fu5 rfl,fun _ => fu6 rfl,fun _ => fu7 rfl,fun _ => fu8 rfl,fun _ => fu9 rfl,fun _ => rfl,fun _ => fu11 rfl⟩
       rintro au Wu31 ⟨vu0,vu1,vu2,vu3,vu4,vu5,vu6,vu7,vu8,vu9,vu10,vu11,rfl,hbu,fu0,fu1,fu2,fu3,fu4,fu5,fu6,fu7,fu8,fu9,fu10,fu11⟩
       have eu0 := (fu0 rfl).symm
       subst eu0
       have eu1 := (fu1 rfl).symm
       subst eu1
       have eu2 := (fu2 rfl).symm
       subst eu2
       have eu3 := (fu3 rfl).symm
       subst eu3
       have eu4 := (fu4 rfl).symm
       subst eu4
       have eu5 := (fu5 rfl).symm
       subst eu5
       have eu6 := (fu6 rfl).symm
       subst eu6
       have T7 := fu7 rfl
       have T8 := fu8 rfl
       have hq := fu9 rfl
       have eu10 := (fu10 rfl).symm
       subst eu10
       obtain ⟨RVY,rfl,hRVY,VY⟩ := fu11 rfl
       clear fu0 fu1 fu2 fu3 fu4 fu5 fu6 fu7 fu8 fu9 fu10 fu11
       have hlVR : w.heap.size < W7.heap.size := VR.lt
       have hlVX : RX < W7.heap.size := VX.lt
       have hlXK : b < W7.heap.size := XK.lt
       obtain ⟨p9,a9,n9,c9,y9,m9,d9,rfl⟩ := hq.open
       simp only [Act.put,xL4,xL5,xL6]
       refine xR [12] (h := ?_)
       refine AllReadyH.cons (by rfl) (fun K hK => ?_) AllReadyH.nil
       have hKp := VY.keepJ (.bool p9) (.slice a9 n9 c9) (.slice y9 m9 d9)
       have VY_n := VY.same (.bool p9) (.slice a9 n9 c9) (.slice y9 m9 d9)
       have T7_n := T7.keep hKp
       have T8_n := T8.keep hKp
       have hq_n := hq.keep hKp
       have hbu_n := below_store3 (R := RVY) hbu (by omega) (.bool p9) (.slice a9 n9 c9) (.slice y9 m9 d9)
       clear hKp
       obtain ⟨VY_0,VY_1,VY_2,VY_3,VY_4,VY_5⟩ := id VY
       go_simp
       clear VY_0 VY_1 VY_2 VY_3 VY_4 VY_5
       clear hbu T7 T8 hq VY
       generalize ((Wu31.setCell ⟨RVY,0,none⟩ (.bool p9)).setCell ⟨RVY,1,none⟩ (.slice a9 n9 c9)).setCell ⟨RVY,2,none⟩ (.slice y9 m9 d9) = W32 at *
       have hbu := hbu_n
       have T7 := T7_n
       have T8 := T8_n
       have hq := hq_n
       have VY := VY_n
       clear hbu_n T7_n T8_n hq_n VY_n
       refine hK.out _ _ trivial (fun _ => ?_)
       clear hK K
       simp only [Act.put,xL4,xL5,xL6]
       refine xR [13] (h := ?_)
       refine AllReadyH.cons (by rfl) (fun K hK => ?_) AllReadyH.nil
       go_simp
       refine hK.out _ _ trivial (fun _ => ?_)
       clear hK K
       simp only [Act.put,xL4,xL5,xL6]
       replace h4 := h4.below hbu
       replace BX := BX.below hbu
       replace VN := VN.below hbu
       replace r3K := r3K.below hbu
       replace r3 := r3.below hbu
       replace hT := hT.below hbu
       replace VR := VR.below hbu
       replace VX := VX.below hbu
       replace XK := XK.below hbu
       replace BB := BB.xm hbu
       clear hbu
       refine wpAnyH_done (by kernel_rfl) ?_ _
       clear T7 T8 r3K r3 XK VN
       obtain ⟨VX_0,VX_1,VX_2,VX_3,VX_4,VX_5⟩ := id VX
       obtain ⟨VY_0,VY_1,VY_2,VY_3,VY_4,VY_5⟩ := id VY
       go_wp2_with fail
       clear VX_0 VX_1 VX_2 VX_3 VX_4 VX_5 VY_0 VY_1 VY_2 VY_3 VY_4 VY_5
       refine (qmul_at _ _ q2 ((t rr).cov / (t x).cov) (M + M) _ (h4.at _ (Nat.le_trans HQ2.out (by omega))) (hq.at _ (Nat.le_trans HR2.out (by omega))) (by omega) (by omega) hT).mono ?_
       rintro e w11 ⟨v5,rfl,h5,b11⟩
       replace h4 := h4.below b11
       replace BX := BX.below b11
       replace hT := hT.below b11
       replace hq := hq.below b11
       replace VR := VR.below b11
       replace VX := VX.below b11
       replace VY := VY.below b11
       replace BB := BB.xm b11
       clear b11
       obtain ⟨p5,a5,n5,c5,y5,m5,d5,rfl⟩ := h5.open
       clear hq h4 VY hT
       have hKp := VX.keepJ (.bool p5) (.slice a5 n5 c5) (.slice y5 m5 d5)
       have VR_n := VR.other3 (R := RX) hNR (.bool p5) (.slice a5 n5 c5) (.slice y5 m5 d5)
       have VX_n := VX.same (.bool p5) (.slice a5 n5 c5) (.slice y5 m5 d5)
       have h5_n := h5.keep hKp
       have BX_n := BX.put (.bool p5) (.slice a5 n5 c5) (.slice y5 m5 d5)
       have BB_n := below_store3 (R := RX) BB hNW (.bool p5) (.slice a5 n5 c5) (.slice y5 m5 d5)
       clear hKp
       obtain ⟨x0,x1,x2,x3,x4,x5⟩ := id VX
       cases ok2
       ·go_wp2
        clear x0 x1 x2 x3 x4 x5 VX VR BX BB h5
        generalize (((w11.setCell ⟨RX,0,none⟩ (.bool p5)).setCell ⟨RX,1,none⟩ (.slice a5 n5 c5)).setCell ⟨RX,2,none⟩ (.slice y5 m5 d5)) = W9 at *
        have VX := VX_n
        have VR := VR_n
        have BX := BX_n
        have BB := BB_n
        have h5 := h5_n
        clear VX_n VR_n BX_n BB_n h5_n
        have hDr : Below W9.heap.size W9 W9.drew := (Below.refl _ _).drew
        replace h5 := h5.below hDr
        replace BX := BX.below hDr
        replace VR := VR.below hDr
        replace VX := VX.below hDr
        replace BB := BB.xm hDr
        clear hDr
        refine wp_region_held_drew (S := (fun w' => True)) (by kernel_rfl) ?_ (fun hHeld => ?_)
        ·trivial
        generalize W9.drew = W33 at *
        refine xV 0 (h := ?_)
        refine xV 1 (h := ?_)
        refine xT 2 (v := undef) (hy := Or.inr ⟨by rfl,rfl⟩) (h := ?_)
        (try simp only [Act.put,xL4,xL5,xL6])
        refine xT 3 (v := undef) (hy := Or.inr ⟨by rfl,rfl⟩) (h := ?_)
        (try simp only [Act.put,xL4,xL5,xL6])
        refine xT 4 (v := undef) (hy := Or.inr ⟨by rfl,rfl⟩) (h := ?_)
        (try simp only [Act.put,xL4,xL5,xL6])
        refine xT 5 (v := undef) (hy := Or.inr ⟨by rfl,rfl⟩) (h := ?_)
        (try simp only [Act.put,xL4,xL5,xL6])
        refine xT 6 (v := undef) (hy := Or.inr ⟨by rfl,rfl⟩) (h := ?_)
        (try simp only [Act.put,xL4,xL5,xL6])
        refine xT 7 (v := undef) (hy := Or.inr ⟨by rfl,rfl⟩) (h := ?_)
        (try simp only [Act.put,xL4,xL5,xL6])
        refine xT 8 (v := undef) (hy := Or.inr ⟨by rfl,rfl⟩) (h := ?_)
        (try simp only [Act.put,xL4,xL5,xL6])
        refine xT 9 (v := undef) (hy := Or.inr ⟨by rfl,rfl⟩) (h := ?_)
        (try simp only [Act.put,xL4,xL5,xL6])
        refine xT 10 (v := undef) (hy := Or.inr ⟨by rfl,rfl⟩) (h := ?_)
        (try simp only [Act.put,xL4,xL5,xL6])
        refine xV 11 (h := ?_)
        refine xV 12 (h := ?_)
        refine wpAnyH_done (by kernel_rfl) ?_ _
        clear hHeld
        clear BX
        have hKp := VR.keepJ (.bool p5) (.slice a5 n5 c5) (.slice y5 m5 d5)
        have h5_n := h5.keep hKp
        have BB_n := below_store3 (R := w.heap.size) BB (by omega) (.bool p5) (.slice a5 n5 c5) (.slice y5 m5 d5)
        clear hKp
        obtain ⟨VX_0,VX_1,VX_2,VX_3,VX_4,VX_5⟩ := id VX
        obtain ⟨q1,q2,q3,q4,q5,q6⟩ := id VR
        repeat go_step
        (try simp only [Exit.inBlock,Exit.then])
        refine bodyPost_ret (v := .tuple #[.agg #[.bool p5,.slice a5 n5 c5,.slice y5 m5 d5],.bool true,.bool true,.bool false]) (by simp [results,go_sem,q1,q2,q3]) rfl ?_
        rw [HX.out]
        exact ⟨_,rfl,h5_n,BB_n⟩
       ·go_wp2
        clear x0 x1 x2 x3 x4 x5 VX VR BX BB h5
        generalize (((w11.setCell ⟨RX,0,none⟩ (.bool p5)).setCell ⟨RX,1,none⟩ (.slice a5 n5 c5)).setCell ⟨RX,2,none⟩ (.slice y5 m5 d5)) = W9 at *
        have VX := VX_n
        have VR := VR_n
        have BX := BX_n
        have BB := BB_n
        have h5 := h5_n
        clear VX_n VR_n BX_n BB_n h5_n
        have VN := HN0.out.below BX.out
        have hr := HR0.out.below BX.out
        have r1 := HC1.out.below BX.out
        obtain ⟨b4,off4,c94,p4,a4,n4,c4,bb4,m4,d4,hv4,hcc4,hc64,X0,X1,X2,X3,r4⟩ := hr.at hfl
        cases hv4
        obtain ⟨cm,hcm⟩ : ∃ z,(r fn).miss = z := ⟨_,rfl⟩
        rw [hcm] at X0 HCON
        clear hcm
        have QC : Quad10 W9 b4 (off4 + fn * 4) (.bool cm) (.bool p4) (.slice a4 n4 c4) (.slice bb4 m4 d4) := ⟨X0,X1,X2,X3⟩
        clear X0 X1 X2 X3 hr
        have hDr : Below W9.heap.size W9 W9.drew := (Below.refl _ _).drew
        replace h5 := h5.below hDr
        replace BX := BX.below hDr
        replace VN := VN.below hDr
        replace r1 := r1.below hDr
        replace r4 := r4.below hDr
        replace QC := QC.below hDr
        replace VR := VR.below hDr
        replace VX := VX.below hDr
        replace BB := BB.xm hDr
        clear hDr
        refine wp_region_held_drew (S := (fun w' => w'.cell? ⟨R0,0,none⟩ = some (.bool false) ∧ w'.cell? ⟨R0,1,none⟩ = some (.int .i64 (fn : Int)) ∧ w'.cell? ⟨R0,2,none⟩ = some (.bool p1) ∧ w'.cell? ⟨R0,3,none⟩ = some (.slice a1 n1 c1) ∧ w'.cell? ⟨R0,4,none⟩ = some (.slice b1 m1 d1) ∧ w'.cell? ⟨R0,5,none⟩ = some (.int .i64 (lr : Int)) ∧ w'.cell? ⟨R0,6,none⟩ = some (.int .i64 (rr : Int)) ∧ w'.cell? ⟨R0,7,none⟩ = some (.bool ms) ∧ w'.cell? ⟨R0,8,none⟩ = some (.bool p2) ∧ w'.cell? ⟨R0,9,none⟩ = some (.slice a2 n2 c2) ∧ w'.cell? ⟨R0,10,none⟩ = some (.slice b2 m2 d2) ∧ w'.cell? ⟨R0,11,none⟩ = some (.bool p3) ∧ w'.cell? ⟨R0,12,none⟩ = some (.slice a3 n3 c3) ∧ w'.cell? ⟨R0,13,none⟩ = some (.slice b3 m3 d3) ∧ w'.cell? ⟨b4,off4 + fn * 4,none⟩ = some (.bool cm) ∧ w'.cell? ⟨b4,off4 + fn * 4 + 1,none⟩ = some (.bool p4) ∧ w'.cell? ⟨b4,off4 + fn * 4 + 2,none⟩ = some (.slice a4 n4 c4) ∧ w'.cell? ⟨b4,off4 + fn * 4 + 3,none⟩ = some (.slice bb4 m4 d4))) (by kernel_rfl) ?_ (fun hHeld => ?_)
        ·exact ⟨VN.c0,VN.c1,VN.c2,VN.c3,VN.c4,VN.c5,VN.c6,VN.c7,VN.c8,VN.c9,VN.c10,VN.c11,VN.c12,VN.c13,QC.out.1,QC.out.2.1,QC.out.2.2.1,QC.out.2.2.2⟩
        generalize W9.drew = W33 at *
        refine xV 0 (h := ?_)
        refine xV 1 (h := ?_)
        refine xV 2 (h := ?_)
        refine xV 3 (h := ?_)
        refine xV 4 (h := ?_)
        refine xV 5 (h := ?_)
        refine xV 6 (h := ?_)
        refine xV 8 (h := ?_)
        refine xV 9 (h := ?_)
        refine xR [7] (h := ?_)
        refine xN (h := fun K hK => ?_)
        go_simp
        refine (HCON.out _ r1 _ _ _ _ _ _ _ r4).mono ?_
        rintro e w12 ⟨rfl,b12⟩
        go_wp2_with fail
        replace h5 := h5.below b12
        replace BX := BX.below b12
        replace VN := VN.below b12
        replace r1 := r1.below b12
        replace r4 := r4.below b12
        replace QC := QC.below b12
        replace VR := VR.below b12
        replace VX := VX.below b12
        replace BB := BB.xm b12
        clear b12
        refine hK.out _ _ ?_ (fun hH1 => ?_)
        ·exact ⟨VN.c0,VN.c1,VN.c2,VN.c3,VN.c4,VN.c5,VN.c6,VN.c7,VN.c8,VN.c9,VN.c10,VN.c11,VN.c12,VN.c13,QC.out.1,QC.out.2.1,QC.out.2.2.1,QC.out.2.2.2⟩
        clear hK K hHeld
        (try simp only [Act.put,xL4,xL5,xL6])
        refine xV 10 (h := ?_)
        refine xV 11 (h := ?_)
        refine xV 12 (h := ?_)
        refine wpAnyH_done (by kernel_rfl) ?_ _
        clear hH1
        clear VN r1 r4 QC BX
        have hKp := VR.keepJ (.bool p5) (.slice a5 n5 c5) (.slice y5 m5 d5)
        have h5_n := h5.keep hKp
        have BB_n := below_store3 (R := w.heap.size) BB (by omega) (.bool p5) (.slice a5 n5 c5) (.slice y5 m5 d5)
        clear hKp
        obtain ⟨VX_0,VX_1,VX_2,VX_3,VX_4,VX_5⟩ := id VX
        obtain ⟨q1,q2,q3,q4,q5,q6⟩ := id VR
        repeat go_step
        (try simp only [Exit.inBlock,Exit.then])
        refine bodyPost_ret (v := .tuple #[.agg #[.bool p5,.slice a5 n5 c5,.slice y5 m5 d5],.bool true,.bool true,.bool (gl == false)]) (by simp [results,go_sem,q1,q2,q3]) rfl ?_
        rw [HX.out]
        exact ⟨_,rfl,h5_n,BB_n⟩
      ·have HX : Hid (shr t n r y f x = ⟨q2,true,as2,ok2⟩) := HE2.out HI1.out rfl hff
       have t1 : ¬ (fn : Int) = (f : Int) := by omega
       have t2 : decide ((fn : Int) = (f : Int)) = false := decide_eq_false t1
       have t3 : ((fn : Int) == (f : Int)) = false := by simp; omega
       have VN := HN0.out.below BX.out
       obtain ⟨W7,hW7,hS7,hL7,VX⟩ := V3.lay w11 42 (.bool p6) (.slice a6 n6 c6) (.slice y6 m6 d6)
       replace h4 := h4.below hL7
       replace VN := VN.below hL7
       replace VR := VR.below hL7
       replace BB := BB.xm hL7
       clear hL7
       have hKp := VR.keepJ (.bool p6) (.slice a6 n6 c6) (.slice y6 m6 d6)
       have h4_n := h4.keep hKp
       have BB_n := below_store3 (R := w.heap.size) BB (by omega) (.bool p6) (.slice a6 n6 c6) (.slice y6 m6 d6)
       clear hKp
       obtain ⟨x0,x1,x2,x3,x4,x5⟩ := id VX
       obtain ⟨z0,z1,z2,z3,z4,z5⟩ := id VR
       obtain ⟨V_0,V_1,V_2,V_3,V_4,V_5,V_6,V_7,V_8,V_9,V_10,V_11,V_12,V_13⟩ := id VN
       rw [hW7] at x0 x1 x2 x3 x4 x5 z0 z1 z2 z3 z4 z5 V_0 V_1 V_2 V_3 V_4 V_5 V_6 V_7 V_8 V_9 V_10 V_11 V_12 V_13
       clear VN VX BX hff
       dsimp only; repeat go_step
       (try simp only [Exit.inBlock,Exit.then])
       refine bodyPost_ret (v := .tuple #[.agg #[.bool p6,.slice a6 n6 c6,.slice y6 m6 d6],.bool true,.bool as2,.bool ok2]) (by simp [results,go_sem,z0,z1,z2]) rfl ?_
       rw [← hW7,HX.out]
       exact ⟨_,rfl,h4_n,BB_n⟩
    ·obtain rfl : sd = 2 := by omega
     have sv : ((2 : Nat) : Int) = 2 := rfl
     rw [sv]
     have HX : Hid (shr t n r y f x = ⟨1,false,false,true⟩) := HZ.out (HA.out (by omega)) (HB.out (by omega))
     clear sv HA HB ht hr hT r1 r3 VN
     go_wp2_with fail
     refine (qone_at _).mono ?_
     rintro e w11 ⟨v9,rfl,h9,b11⟩
     replace VR := VR.below b11
     replace BB := BB.xm b11
     clear b11
     obtain ⟨p9,a9,n9,c9,y9,m9,d9,rfl⟩ := h9.open
     have hKp := VR.keepJ (.bool p9) (.slice a9 n9 c9) (.slice y9 m9 d9)
     have h9_n := h9.keep hKp
     have BB_n := below_store3 (R := w.heap.size) BB (by omega) (.bool p9) (.slice a9 n9 c9) (.slice y9 m9 d9)
     clear hKp
     obtain ⟨q1,q2,q3,q4,q5,q6⟩ := id VR
     dsimp only; repeat go_step
     (try simp only [Exit.inBlock,Exit.then])
     refine bodyPost_ret (v := .tuple #[.agg #[.bool p9,.slice a9 n9 c9,.slice y9 m9 d9],.bool false,.bool false,.bool true]) (by simp [results,go_sem,q1,q2,q3]) rfl ?_
     rw [HX.out]
     exact ⟨_,rfl,h9_n,BB_n⟩
  ·have HW : Hid (shr t n r y f x = ⟨1,decide (x = y),false,true⟩) := shr_leaf hlf
   have hxy : decide ((x : Int) = (y : Int)) = decide (x = y) := by rw [Bool.eq_iff_iff]; simp; omega
   have hxy2 : ((x : Int) == (y : Int)) = decide (x = y) := by rw [Bool.eq_iff_iff]; simp; omega
   clear hlf ht hr r1 r2 r3 i1 i2 i3 hT NN VN FN
   go_wp2_with fail
   clear V_0 V_1 V_2 V_3 V_4 V_5 V_6 V_7 V_8 V_9 V_10 V_11 V_12 V_13 N_0 N_1 N_2 N_3 N_4 N_5 N_6 N_7 N_8 N_9 N_10 N_11 N_12 N_13
   rw [← hW0,← hW1]
   clear hW0 hW1 hS0 hS1
   refine (qone_at _).mono ?_
   rintro e w4 ⟨v9,rfl,h9,b4⟩
   replace VR := VR.below b4
   replace BB := BB.xm b4
   clear b4
   obtain ⟨p9,a9,n9,c9,y9,m9,d9,rfl⟩ := h9.open
   have hKp := VR.keepJ (.bool p9) (.slice a9 n9 c9) (.slice y9 m9 d9)
   have h9_n := h9.keep hKp
   have BB_n := below_store3 (R := w.heap.size) BB (by omega) (.bool p9) (.slice a9 n9 c9) (.slice y9 m9 d9)
   clear hKp
   obtain ⟨q1,q2,q3,q4,q5,q6⟩ := id VR
   dsimp only; repeat go_step
   (try simp only [Exit.inBlock,Exit.then])
   refine bodyPost_ret (v := .tuple #[.agg #[.bool p9,.slice a9 n9 c9,.slice y9 m9 d9],.bool (decide (x = y)),.bool false,.bool true]) (by simp [results,go_sem,q1,q2,q3,hxy,hxy2]) rfl ?_
   rw [HW.out]
   exact ⟨_,rfl,h9_n,BB_n⟩
end Go.Proofs.YtbbliiafkjipbaaGreatDoor
